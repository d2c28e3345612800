/-
  read, whatever text it is given.
-/
import Derived.Test.YtgblhcikffecfaaDoorFN
import Derived.Lib.AtoiAll
import Derived.Stop.LaidErr
namespace Go.Proofs.YtgblhcikffecfaaDoor
open Go.RowKit Go.Shelf
set_option linter.unusedVariables false
set_option linter.unusedSimpArgs false

/-- What a world holds that read's ways want: MaxLen, and the two errors. -/
structure Kon (m : Int) (W : World) : Prop where
  zero : W.cell? ⟨0, 0, none⟩ = some (.int .i64 m)
  syn : ∃ t p, W.cell? ⟨3, 0, none⟩ = some (.iface t p)
  rng : ∃ t p, W.cell? ⟨4, 0, none⟩ = some (.iface t p)
theorem Kon.lt {m W} (h : Kon m W) : 0 < W.heap.size ∧ 3 < W.heap.size ∧ 4 < W.heap.size := by
  obtain ⟨_, _, h1⟩ := h.syn
  obtain ⟨_, _, h2⟩ := h.rng
  exact ⟨lt_of_cell h.zero, lt_of_cell h1, lt_of_cell h2⟩
theorem Kon.below {m W W'} (h : Kon m W) {n : Nat} (hb : Below n W W') (hn : 0 < n ∧ 3 < n ∧ 4 < n) : Kon m W' := by
  obtain ⟨t1, p1, h1⟩ := h.syn
  obtain ⟨t2, p2, h2⟩ := h.rng
  exact ⟨(hb.cell (p := ⟨0, 0, none⟩) hn.1).trans h.zero, ⟨t1, p1, (hb.cell (p := ⟨3, 0, none⟩) hn.2.1).trans h1⟩, ⟨t2, p2, (hb.cell (p := ⟨4, 0, none⟩) hn.2.2).trans h2⟩⟩

theorem puS_why (xs : List UInt8) : ∀ k, (puS xs k).1 = 0 ∨ (puS xs k).1 = 1 ∨ (puS xs k).1 = 2
  | 0 => .inl rfl
  | k + 1 => by
    have ih := puS_why xs k
    unfold puS
    split
    · split
      · exact .inr (.inr rfl)
      · split
        · exact .inr (.inl rfl)
        · exact .inl rfl
    · exact ih
theorem puP_why (s : ByteArray) : (puP s).1 = 0 ∨ (puP s).1 = 1 ∨ (puP s).1 = 2 := by
  unfold puP
  split
  · exact .inr (.inr rfl)
  · exact puS_why _ _

set_option maxHeartbeats 1000000 in
theorem pup_err (s : ByteArray) (m : Int) (w : World) (hs : s.size ≤ 1000) (hk : Kon m w) (hp : (puP s).1 ≠ 0) :
    Calls Tryd.prog 49 #[.string s, .int .i64 16, .int .i64 8] w fun e w' => ∃ (q : Int) (p : Value), e = .returned (.tuple #[.int .u64 q, .iface 92 p]) ∧ Below w.heap.size w w' := by
  have h := pu16_any s w (by omega)
  have hlt := hk.lt
  have ht : ∀ w', Below w.heap.size w w' → Calls Tryd.prog 63 #[.string ⟨#[80, 97, 114, 115, 101, 85, 105, 110, 116]⟩, .string s, .int .i64 16, .int .i64 8, .iface 90 (.int .i64 ((puP s).1 : Int))] w' fun e w2 => ∃ p : Value, e = .returned (.iface 92 p) ∧ Below w'.heap.size w' w2 := fun w' hb => by
    have hk' := hk.below hb hlt
    obtain ⟨t1, p1, h1⟩ := hk'.syn
    obtain ⟨t2, p2, h2⟩ := hk'.rng
    rcases puP_why s with e | e | e
    · exact absurd e hp
    · rw [e]
      refine (Tryd.strconv_toError_range _ s 16 8 _ w' (by omega) h2 (.inr ⟨_, _, rfl⟩)).mono ?_
      rintro e w2 ⟨N, rfl, _, _, hb2⟩
      exact ⟨_, rfl, hb2⟩
    · rw [e]
      refine (Tryd.strconv_toError_syntax _ s 16 8 _ w' (by omega) h1 (.inr ⟨_, _, rfl⟩)).mono ?_
      rintro e w2 ⟨N, rfl, _, _, hb2⟩
      exact ⟨_, rfl, hb2⟩
  have hv : puV s = .tuple #[.int .u64 ((puP s).2 : Int), .iface 90 (.int .i64 ((puP s).1 : Int))] := puV_of (Prod.eta _).symm hp
  rw [hv] at h
  generalize ((puP s).2 : Int) = n2 at *
  generalize ((puP s).1 : Int) = n1 at *
  generalize Value.string s = V at *
  have H := Lib.hid h
  have HT := Lib.hid ht
  clear h ht hp hs hv hk hlt
  go_enter Tryd.func49, Tryd.ntmps49
  go_wp2_with fail
  refine H.out.mono ?_
  rintro e w1 ⟨rfl, hb⟩
  have HB := Lib.hid hb
  clear hb
  go_wp2_with fail
  refine (HT.out _ HB.out).mono ?_
  rintro e w2 ⟨p, rfl, hb⟩
  have hB2 := HB.out.trans (hb.mono HB.out.size)
  clear hb
  go_wp2
  refine bodyPost_ret (results_tmp2 rfl _ _ _) rfl ?_
  exact ⟨_, _, rfl, hB2⟩

theorem below_cases {w w' : World} {e : TypeId} (h : w' = w ∨ ∃ t, w' = Lib.bytesWorld w e t) : Below w.heap.size w w' := by
  rcases h with rfl | ⟨t, rfl⟩
  · exact Below.refl _ _
  · exact below_bw w e t
theorem atoi_all (n : Nat) (h : n < 100) : Lib.atoiAll (Lib.decDigits n) = .ok (n : Int) := by
  by_cases h10 : n < 10
  · rw [dec_one n h10]
    have : ∀ m : Fin 10, Lib.atoiAll [UInt8.ofNat (48 + m.val)] = .ok (m.val : Int) := by decide +kernel
    exact this ⟨n, h10⟩
  · rw [dec_two n h10 h]
    have : ∀ a b : Fin 10, Lib.atoiAll [UInt8.ofNat (48 + a.val), UInt8.ofNat (48 + b.val)] = .ok ((10 * a.val + b.val : Nat) : Int) := by decide +kernel
    have e := this ⟨n / 10, by omega⟩ ⟨n % 10, by omega⟩
    rw [e]
    show Lib.NumEnd.ok ((10 * (n / 10) + n % 10 : Nat) : Int) = _
    rw [show 10 * (n / 10) + n % 10 = n from by omega]
/-- Where what stands behind the star is no number, or another. -/
theorem readR_behind {x a b : List UInt8} {c : Nat} {l : Int} (hc : c < 256) (hcut : Lib.cut x [42] = (a, b, true)) (hp : puP ⟨a.toArray⟩ = (0, c)) (hl : ∀ k : Nat, Lib.atoiAll b = .ok (k : Int) → l = k) : ReadR x c l := by
  refine ⟨hc, fun r hr hx => ?_⟩
  subst hx
  have h1 := (hx_mem (r.1.val / 16) (by have := r.1.isLt; omega)).2
  have h2 := (hx_mem (r.1.val % 16) (by omega)).2
  by_cases h1n : 1 < r.2.val
  · have e : spellR r = hx (r.1.val / 16) :: hx (r.1.val % 16) :: 42 :: Lib.decDigits r.2.val := by unfold spellR spellL; rw [if_pos h1n]; rfl
    rw [e, cut_star _ _ _ h1 h2] at hcut
    injection hcut with e1 e2
    injection e2 with e3 e4
    rw [← e1, pu_two _ r.1.isLt] at hp
    injection hp with _ e5
    exact ⟨e5.symm, hl _ (by rw [← e3]; exact atoi_all _ r.2.isLt)⟩
  · have e : spellR r = [hx (r.1.val / 16), hx (r.1.val % 16)] := by unfold spellR spellL; rw [if_neg h1n, List.append_nil]
    rw [e, cut_two _ _ h1 h2] at hcut
    injection hcut with e1 e2
    injection e2 with e3 e4
    cases e4
theorem readR_none {x a b : List UInt8} (hcut : Lib.cut x [42] = (a, b, true)) (hl : ∀ k : Nat, Lib.atoiAll b ≠ .ok (k : Int)) (n : Int) : ReadR x 0 n := by
  refine ⟨by omega, fun r hr hx => ?_⟩
  subst hx
  exfalso
  have h1 := (hx_mem (r.1.val / 16) (by have := r.1.isLt; omega)).2
  have h2 := (hx_mem (r.1.val % 16) (by omega)).2
  by_cases h1n : 1 < r.2.val
  · have e : spellR r = hx (r.1.val / 16) :: hx (r.1.val % 16) :: 42 :: Lib.decDigits r.2.val := by unfold spellR spellL; rw [if_pos h1n]; rfl
    rw [e, cut_star _ _ _ h1 h2] at hcut
    injection hcut with e1 e2
    injection e2 with e3 e4
    exact hl r.2.val (by rw [← e3]; exact atoi_all _ r.2.isLt)
  · have e : spellR r = [hx (r.1.val / 16), hx (r.1.val % 16)] := by unfold spellR spellL; rw [if_neg h1n, List.append_nil]
    rw [e, cut_two _ _ h1 h2] at hcut
    injection hcut with e1 e2
    injection e2 with e3 e4
    cases e4
theorem cut_len (x : List UInt8) : (Lib.cut x [42]).1.length ≤ x.length ∧ (Lib.cut x [42]).2.1.length ≤ x.length := by
  unfold Lib.cut
  split
  · simp; omega
  · simp

set_option maxRecDepth 20000 in
set_option maxHeartbeats 2000000 in
theorem read_any (s : ByteArray) (m : Int) (w : World) (hs : s.size ≤ 1000) (hk : Kon m w) :
    Calls Tryd.prog 31 #[.string s] w fun e w' => ∃ (c : Nat) (n : Int), e = .returned (.tuple #[.int .u8 c, .int .i64 n]) ∧ ReadR s.data.toList c n ∧ Below w.heap.size w w' := by
  have hlt := hk.lt
  have hc := Tryd.strings_Cut s ⟨#[42]⟩ m w (by omega) hk.zero
  obtain ⟨a, b, f, hcut⟩ : ∃ a b f, Lib.cut s.data.toList [42] = (a, b, f) := ⟨_, _, _, rfl⟩
  have hcc : Lib.cut s.data.toList (⟨#[42]⟩ : ByteArray).data.toList = (a, b, f) := hcut
  rw [hcc] at hc
  change Calls _ _ _ _ (fun e w' => e = .returned (.tuple #[strV a, strV b, .bool f]) ∧ _) at hc
  have hal : a.length ≤ 1000 ∧ b.length ≤ 1000 := by
    have := cut_len s.data.toList
    rw [hcut] at this
    dsimp only at this
    have e : s.data.toList.length = s.size := rfl
    omega
  have has : (⟨a.toArray⟩ : ByteArray).size ≤ 1000 := by show (List.toArray a).size ≤ _; rw [List.size_toArray]; exact hal.1
  have hbs : (⟨b.toArray⟩ : ByteArray).size ≤ 1000 := by show (List.toArray b).size ≤ _; rw [List.size_toArray]; exact hal.2
  by_cases hp : (puP ⟨a.toArray⟩).1 = 0
  · obtain ⟨n, hn⟩ : ∃ n, puP ⟨a.toArray⟩ = (0, n) := ⟨_, Prod.ext hp rfl⟩
    have hn255 : n ≤ 255 := by
      have := puS_le (⟨a.toArray⟩ : ByteArray).data.toList (⟨a.toArray⟩ : ByteArray).size
      unfold puP at hn
      split at hn
      · cases hn
      · rw [hn] at this; exact this
    have hu := fun w => pup_ok ⟨a.toArray⟩ n w (by omega) hn
    change ∀ w, Calls _ _ #[strV a, _, _] w _ at hu
    cases f with
    | false =>
      have hR := readR_one (x := s.data.toList) (by omega) hcut hn
      generalize strV a = VA at *
      generalize strV b = VB at *
      have H := Lib.hid hc
      have HU := Lib.hid hu
      have HR := Lib.hid hR
      clear hc hcc hcut hu hp hs hk hn hR has hbs hal
      generalize s.data.toList = xs at *
      generalize Value.string s = V at *
      go_enter Tryd.func31, Tryd.ntmps31
      go_wp2_with fail
      refine H.out.mono ?_
      rintro e w1 ⟨rfl, k, rfl⟩
      go_wp2_with fail
      refine (HU.out _).mono ?_
      rintro e w2 ⟨rfl, hb⟩
      have HB : Hid (Below w.heap.size w w2) := Lib.hid (Below.trans (b := w.drewN k) ⟨rfl, rfl, rfl, Nat.le_refl _, fun _ _ => rfl⟩ hb)
      clear hb
      go_wp2
      refine bodyPost_ret (results_tmp2 rfl _ _ _) rfl ?_
      exact ⟨n, 1, rfl, HR.out, HB.out⟩
    | true =>
      have hat : ∀ w', Below w.heap.size w w' → Calls Tryd.prog 50 #[strV b] w' fun e w2 => ((∃ l : Int, Lib.atoiAll b = .ok l ∧ e = .returned (.tuple #[.int .i64 l, .nilIface])) ∨ ((∀ k : Nat, Lib.atoiAll b ≠ .ok (k : Int)) ∧ ∃ (l : Int) (p : Value), e = .returned (.tuple #[.int .i64 l, .iface 92 p]))) ∧ Below w'.heap.size w' w2 := fun w' hb => by
        have hk' := hk.below hb hlt
        obtain ⟨t1, p1, h1⟩ := hk'.syn
        obtain ⟨t2, p2, h2⟩ := hk'.rng
        cases ha : Lib.atoiAll b with
        | ok l =>
          refine (Tryd.strconv_Atoi_ok ⟨b.toArray⟩ (by omega) l ha w').mono ?_
          rintro e w2 ⟨rfl, hw⟩
          exact ⟨.inl ⟨l, rfl, rfl⟩, below_cases hw⟩
        | «syntax» =>
          refine (Tryd.strconv_Atoi_syntax ⟨b.toArray⟩ (by omega) ha _ w' h1 (.inr ⟨_, _, rfl⟩)).mono ?_
          rintro e w2 ⟨N, rfl, _, _, hb2⟩
          exact ⟨.inr ⟨fun k h => (by cases h), _, _, rfl⟩, hb2⟩
        | range =>
          refine (Tryd.strconv_Atoi_range ⟨b.toArray⟩ (by omega) ha _ w' h2 (.inr ⟨_, _, rfl⟩)).mono ?_
          rintro e w2 ⟨N, rfl, _, _, hb2⟩
          exact ⟨.inr ⟨fun k h => (by cases h), _, _, rfl⟩, hb2⟩
      have hR1 : ∀ l : Int, Lib.atoiAll b = .ok l → ReadR s.data.toList n l := fun l hl => readR_behind (by omega) hcut hn (fun k h => by rw [hl] at h; injection h)
      have hR2 : (∀ k : Nat, Lib.atoiAll b ≠ .ok (k : Int)) → ReadR s.data.toList 0 0 := fun h => readR_none hcut h 0
      generalize strV a = VA at *
      generalize strV b = VB at *
      have H := Lib.hid hc
      have HU := Lib.hid hu
      have HA := Lib.hid hat
      have HR1 := Lib.hid hR1
      have HR2 := Lib.hid hR2
      clear hc hcc hcut hu hp hs hk hn hat hR1 hR2 has hbs hal
      generalize s.data.toList = xs at *
      generalize Value.string s = V at *
      go_enter Tryd.func31, Tryd.ntmps31
      go_wp2_with fail
      refine H.out.mono ?_
      rintro e w1 ⟨rfl, k, rfl⟩
      go_wp2_with fail
      refine (HU.out _).mono ?_
      rintro e w2 ⟨rfl, hb⟩
      have HB : Hid (Below w.heap.size w w2) := Lib.hid (Below.trans (b := w.drewN k) ⟨rfl, rfl, rfl, Nat.le_refl _, fun _ _ => rfl⟩ hb)
      clear hb
      go_wp2_with fail
      refine (HA.out _ HB.out).mono ?_
      rintro e w3 ⟨(⟨l, hl, rfl⟩ | ⟨hl, l, p, rfl⟩), hb⟩
      · have HB3 := Lib.hid (HB.out.trans (hb.mono HB.out.size))
        have HR := Lib.hid (HR1.out l hl)
        clear hb hl
        go_wp2
        refine bodyPost_ret (results_tmp2 rfl _ _ _) rfl ?_
        exact ⟨n, l, rfl, HR.out, HB3.out⟩
      · have HB3 := Lib.hid (HB.out.trans (hb.mono HB.out.size))
        have HR := Lib.hid (HR2.out hl)
        clear hb hl
        go_wp2
        refine bodyPost_ret (results_tmp2 rfl _ _ _) rfl ?_
        exact ⟨0, 0, rfl, HR.out, HB3.out⟩
  · have hu := fun w' (hb : Below w.heap.size w w') => pup_err ⟨a.toArray⟩ m w' (by omega) (hk.below hb hlt) hp
    change ∀ w', _ → Calls _ _ #[strV a, _, _] w' _ at hu
    have hR := readR_bad (x := s.data.toList) hcut hp 0
    generalize strV a = VA at *
    generalize strV b = VB at *
    have H := Lib.hid hc
    have HU := Lib.hid hu
    have HR := Lib.hid hR
    clear hc hcc hcut hu hp hs hk hR has hbs hal
    generalize s.data.toList = xs at *
    generalize Value.string s = V at *
    go_enter Tryd.func31, Tryd.ntmps31
    go_wp2_with fail
    refine H.out.mono ?_
    rintro e w1 ⟨rfl, k, rfl⟩
    have hB0 : Below w.heap.size w (w.drewN k) := ⟨rfl, rfl, rfl, Nat.le_refl _, fun _ _ => rfl⟩
    have HB0 := Lib.hid hB0
    clear hB0
    go_wp2_with fail
    refine (HU.out _ HB0.out).mono ?_
    rintro e w2 ⟨q, p, rfl, hb⟩
    have HB := Lib.hid (HB0.out.trans (hb.mono HB0.out.size))
    clear hb
    go_wp2
    refine bodyPost_ret (results_tmp2 rfl _ _ _) rfl ?_
    exact ⟨0, 0, rfl, HR.out, HB.out⟩
end Go.Proofs.YtgblhcikffecfaaDoor

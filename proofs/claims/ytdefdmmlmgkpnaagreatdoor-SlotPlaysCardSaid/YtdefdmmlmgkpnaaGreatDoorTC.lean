/-
  An act to both disks (do).
-/
import Derived.Test.YtdefdmmlmgkpnaaGreatDoorTB
namespace Go.Proofs.YtdefdmmlmgkpnaaGreatDoor
open Go.RowKit
set_option linter.unusedVariables false
set_option linter.unusedSimpArgs false

theorem eql_tt (xs : List UInt8) (w : World) : (binOp .eql 9 (strV xs) (strV xs)).run Tryz.prog w = .ok (.bool true) w := by
  rw [eql_str]; simp

theorem tp_trans {w w1 w2 : World} {B p q : Nat} {A : Nat → Prop} {S1 S2 : DS} (h : TP w B p q A S1 w1) (k : ∀ A', Two w1 B p q A' S1 → TP w1 B p q A' S2 w2) : TP w B p q A S2 w2 := by
  obtain ⟨A', hT, hF, hl⟩ := h
  obtain ⟨A2, hT2, hF2, hl2⟩ := k A' hT
  exact ⟨A2, hT2, hF.trans hF2 (fun i hi => hl i hi), fun i hi => (hl2 i hi).elim (hl i) (fun h => .inr (Nat.le_trans hF.size h))⟩

theorem tp_join {w w1 w2 : World} {B p q : Nat} {A A' : Nat → Prop} {S2 : DS} (h : Fr A w w1 ∧ ∀ k, A' k → A k ∨ w.heap.size ≤ k) (k : TP w1 B p q A' S2 w2) : TP w B p q A S2 w2 := by
  obtain ⟨hF, hl⟩ := h
  obtain ⟨A2, hT2, hF2, hl2⟩ := k
  exact ⟨A2, hT2, hF.trans hF2 (fun i hi => hl i hi), fun i hi => (hl2 i hi).elim (hl i) (fun h => .inr (Nat.le_trans hF.size h))⟩

/-- An act: what is done, where, of which kind, with which number and text, and what is kept. -/
structure SK where
  kind : Int
  at' : Int
  rc : Int
  seq : Nat
  xs : List UInt8
  ka : Option Addr
  kn : Nat
  kc : Nat
  K : List Bool

def SK.val (x : SK) : Value := .agg #[.int .i64 x.kind, .int .i64 x.at', .int .i64 x.rc, .int .u64 (x.seq : Int), strV x.xs, .slice x.ka x.kn x.kc]

def DS.sact (S : DS) (x : SK) : DS :=
  if x.kind.tmod 5 = 0 then S else if x.kind.tmod 5 = 1 then (saveP S x.at' x.rc x.seq x.xs).2 else if x.kind.tmod 5 = 2 then (S.write x.at' ⟨(pad64 x.xs).toArray⟩).2 else if x.kind.tmod 5 = 3 then (S.crash x.K).up.2 else S.fuse x.at'

theorem sact_ok {S : DS} {N : Nat} (h : S.ok N) (x : SK) (hx : x.at' ≤ 9223372036854775807) : (S.sact x).ok (N + 2) := by
  unfold DS.sact
  split
  · exact h.mono (by omega)
  · split
    · exact saveP_ok h _ _ _ _
    · split
      · exact (h.write _ _).mono (by omega)
      · split
        · exact (h.crash _).up.mono (by omega)
        · exact (h.fuse _ hx).mono (by omega)

set_option maxRecDepth 20000 in
set_option maxHeartbeats 8000000 in
theorem sdo_any (B p q : Nat) (A : Nat → Prop) (S : DS) (x : SK) (w : World) (h : Two w B p q A S) (hB : B ≤ w.heap.size) (N : Nat) (hok : S.ok N) (hN : N + 2 ≤ 1000000) (hs : x.seq < 18446744073709551616) (hx : x.xs.length ≤ 200) (hK : Bl w x.ka x.kn x.K) (hKl : ∀ b off, x.ka = some ⟨b, off, none⟩ → 0 < x.kn → ¬ A b) :
    Calls Tryz.prog 7 #[.pointer (some ⟨p, 0, none⟩), .pointer (some ⟨q, 0, none⟩), x.val] w fun e w' => e = .returned (.bool true) ∧ TP w B p q A (S.sact x) w' := by
  have hW : S.W.length ≤ 1000000 := by have := hok.few; have := hok.did; omega
  have hL : S.L.length ≤ 1200 := hok.len
  obtain ⟨v1, v2, u1, u2, hp, hq, hd, hA⟩ := h
  obtain ⟨kind, at', rc, seq, xs, ka, kn, kc, K⟩ := x
  obtain ⟨r, hr⟩ : ∃ r, r = kind.tmod 5 := ⟨_, rfl⟩
  have hS : DS.sact S ⟨kind, at', rc, seq, xs, ka, kn, kc, K⟩ = if r = 0 then S else if r = 1 then (saveP S at' rc seq xs).2 else if r = 2 then (S.write at' ⟨(pad64 xs).toArray⟩).2 else if r = 3 then (S.crash K).up.2 else S.fuse at' := by rw [hr]; rfl
  obtain ⟨T, hT⟩ : ∃ T, T = if r = 0 then S else if r = 1 then (saveP S at' rc seq xs).2 else if r = 2 then (S.write at' ⟨(pad64 xs).toArray⟩).2 else if r = 3 then (S.crash K).up.2 else S.fuse at' := ⟨_, rfl⟩
  rw [hS, ← hT]
  have HT := Lib.hid hT
  clear hT
  unfold SK.val
  dsimp only at hK hKl hs hx ⊢
  obtain ⟨data, hdata⟩ : ∃ d : ByteArray, strV xs = .string d := ⟨_, rfl⟩
  rw [hdata]
  have hal : Below w.heap.size w (w.alloc (.cells #[.int .i64 kind, .int .i64 at', .int .i64 rc, .int .u64 seq, .string data, .slice ka kn kc] 33)) := (Below.refl _ _).alloc (Nat.le_refl _) _
  have hnew := heap_alloc_new w (.cells #[.int .i64 kind, .int .i64 at', .int .i64 rc, .int .u64 seq, .string data, .slice ka kn kc] 33)
  obtain ⟨w0, hw0⟩ : ∃ w0, w0 = w.alloc (.cells #[.int .i64 kind, .int .i64 at', .int .i64 rc, .int .u64 seq, .string data, .slice ka kn kc] 33) := ⟨_, rfl⟩
  rw [← hw0] at hal hnew
  have b0 : w0.cell? ⟨w.heap.size, 0, none⟩ = some (.int .i64 kind) := by rw [cell_of_blk hnew]; rfl
  have b1 : w0.cell? ⟨w.heap.size, 1, none⟩ = some (.int .i64 at') := by rw [cell_of_blk hnew]; rfl
  have b2 : w0.cell? ⟨w.heap.size, 2, none⟩ = some (.int .i64 rc) := by rw [cell_of_blk hnew]; rfl
  have b3 : w0.cell? ⟨w.heap.size, 3, none⟩ = some (.int .u64 seq) := by rw [cell_of_blk hnew]; rfl
  have b4 : w0.cell? ⟨w.heap.size, 4, none⟩ = some (.string data) := by rw [cell_of_blk hnew]; rfl
  have b5 : w0.cell? ⟨w.heap.size, 5, none⟩ = some (.slice ka kn kc) := by rw [cell_of_blk hnew]; rfl
  have hp0 := hp.below hal
  have hq0 := hq.below hal
  have hs0 : B ≤ w0.heap.size := Nat.le_trans hB hal.size
  have hnp : ∀ k, foot p v1 v2 k → k ≠ w.heap.size := fun k hk e => by have := (hp.foot_low k hk).2; omega
  have hnq : ∀ k, foot q u1 u2 k → k ≠ w.heap.size := fun k hk e => by have := (hq.foot_low k hk).2; omega
  have hfin : ∀ S' w1 w2, PP w0 B p v1 v2 S' w1 → RP w1 B q u1 u2 S' w2 → TP w B p q A S' w2 := fun S' w1 w2 h1 h2 => by
    obtain ⟨A', hT, hF, hl⟩ := two_after hq0 hp0 hd hA h1 h2
    exact ⟨A', hT, ⟨hF.os.trans hal.os, hF.tape.trans hal.tape, hF.output.trans hal.output, Nat.le_trans hal.size hF.size, fun k hk hn => (hF.block k (Nat.lt_of_lt_of_le hk hal.size) hn).trans (hal.block k hk)⟩, fun k hk => by
      rcases hl k hk with h | h
      · exact .inl h
      · have := hal.size; exact .inr (by omega)⟩
  have HFIN := Lib.hid hfin
  have HP := Lib.hid hp0
  have HQ := Lib.hid hq0
  have HD := Lib.hid hd
  have HNP := Lib.hid hnp
  have HNQ := Lib.hid hnq
  have hsame : ∀ w', Below w0.heap.size w0 w' → TP w B p q A S w' := fun w' hb => TP.same ⟨v1, v2, u1, u2, hp, hq, hd, hA⟩ (hal.trans (hb.mono hal.size))
  have HSM := Lib.hid hsame
  have HK := Lib.hid (hK.below hal)
  have HKL := Lib.hid (fun b off e h0 hf => hKl b off e h0 ((hA b).2 hf))
  have HRR := Lib.hid hr
  clear hp hq hp0 hq0 hfin hsame hnew hal hS hK hKl hnp hnq
  go_enter Tryz.func7, Tryz.ntmps7
  go_upto_region 5 with fail
  rw [← hw0, ← HRR.out]
  clear hw0
  by_cases r0 : r = 0
  · subst r0
    have ht : T = S := HT.out.trans (by simp)
    have h1 := load_any B p v1 v2 S at' rc w0 HP.out hW hL
    have h2 := fun w' (hb : Below w0.heap.size w0 w') => rload_any B q u1 u2 S at' rc w' (HQ.out.below hb) hW hL
    obtain ⟨c, k, hck⟩ : ∃ c k, loadP S at' rc = (c, k) := ⟨_, _, rfl⟩
    rw [hck] at h1
    simp only [hck] at h2
    unfold loadV at h1 h2
    dsimp only at h1 h2
    have hev := eql_tt c.s
    have hgv := fun x y w => eguard_str c.s c.s x y w
    obtain ⟨V, hV⟩ : ∃ V : Value, strV c.s = V := ⟨_, rfl⟩
    rw [hV] at h1
    simp only [hV] at h2 hev hgv
    generalize (c.n : Int) = n at *
    have H1 := Lib.hid h1
    have H2 := Lib.hid h2
    have HTT := Lib.hid ht
    clear h1 h2 hck ht hV
    go_wp2_with fail
    refine H1.out.mono ?_
    rintro e w1 ⟨rfl, hb1⟩
    have c1 : w1.cell? ⟨w.heap.size, 1, none⟩ = some (.int .i64 at') := by rw [World.cell?_of_block (w := w0) (hb1.block _ (World.block_lt_of_cell? w0 _ b1))]; exact b1
    have c2 : w1.cell? ⟨w.heap.size, 2, none⟩ = some (.int .i64 rc) := by rw [World.cell?_of_block (w := w0) (hb1.block _ (World.block_lt_of_cell? w0 _ b2))]; exact b2
    have HB1 := Lib.hid hb1
    have h3 := H2.out w1 hb1
    have H3 := Lib.hid h3
    clear hb1 h3
    go_wp2_with fail
    refine H3.out.mono ?_
    rintro e w2 ⟨rfl, hb2⟩
    have HB2 := Lib.hid (HB1.out.trans (hb2.mono HB1.out.size))
    clear hb2
    go_wp2
    go_ret
    exact ⟨rfl, by rw [HTT.out]; exact HSM.out _ HB2.out⟩
  by_cases r1 : r = 1
  · subst r1
    have ht : T = (saveP S at' rc seq xs).2 := HT.out.trans (by simp)
    have hd0 : Below w0.heap.size w0 w0.drew := (Below.refl _ _).drew
    have h1 := save_any B p v1 v2 S at' rc seq xs w0.drew (HP.out.below hd0) hs0 N hok (by omega) hs (by omega)
    have h2 := fun w' (hh : RD w' B q u1 u2 S) (hb : B ≤ w'.heap.size) => rsave_any B q u1 u2 S at' rc seq xs w' hh hb N hok (by omega) hs (by omega)
    rcases hw : saveP S at' rc seq xs with ⟨E, T1⟩
    rw [hw] at ht h1
    simp only [hw] at h2
    dsimp only at ht h1
    subst ht
    rw [hdata] at h1
    simp only [hdata] at h2
    have hq1 := fun w1 (h : PP w0.drew B p v1 v2 T w1) => rd_after (HQ.out.below hd0) HD.out h
    have hkp : ∀ w1, PP w0.drew B p v1 v2 T w1 → w1.cell? ⟨w.heap.size, 1, none⟩ = some (.int .i64 at') ∧ w1.cell? ⟨w.heap.size, 2, none⟩ = some (.int .i64 rc) ∧ w1.cell? ⟨w.heap.size, 3, none⟩ = some (.int .u64 seq) ∧ w1.cell? ⟨w.heap.size, 4, none⟩ = some (.string data) := fun w1 h =>
      ⟨fr_cell (i := 1) (pp_fr h) b1 (fun e => HNP.out _ e rfl), fr_cell (i := 2) (pp_fr h) b2 (fun e => HNP.out _ e rfl), fr_cell (i := 3) (pp_fr h) b3 (fun e => HNP.out _ e rfl), fr_cell (i := 4) (pp_fr h) b4 (fun e => HNP.out _ e rfl)⟩
    have hkr : ∀ w1 w2, PP w0.drew B p v1 v2 T w1 → RP w1 B q u1 u2 T w2 → w2.cell? ⟨w.heap.size, 1, none⟩ = some (.int .i64 at') ∧ w2.cell? ⟨w.heap.size, 2, none⟩ = some (.int .i64 rc) ∧ w2.cell? ⟨w.heap.size, 3, none⟩ = some (.int .u64 seq) ∧ w2.cell? ⟨w.heap.size, 4, none⟩ = some (.string data) := fun w1 w2 h h2 => by
      obtain ⟨_, _, _, hf, _⟩ := h2
      exact ⟨fr_cell (i := 1) hf (hkp w1 h).1 (fun e => HNQ.out _ e rfl), fr_cell (i := 2) hf (hkp w1 h).2.1 (fun e => HNQ.out _ e rfl), fr_cell (i := 3) hf (hkp w1 h).2.2.1 (fun e => HNQ.out _ e rfl), fr_cell (i := 4) hf (hkp w1 h).2.2.2 (fun e => HNQ.out _ e rfl)⟩
    have H1 := Lib.hid h1
    have H2 := Lib.hid h2
    have HQ1 := Lib.hid hq1
    have HKP := Lib.hid hkp
    have HKR := Lib.hid hkr
    have HW := Lib.hid hw
    have HST := Lib.hid (And.intro b1 (And.intro b2 (And.intro b3 b4)))
    have HXS := Lib.hid (And.intro hs hx)
    clear h1 h2 hq1 hkp hkr hw hd0 b0 b5 hs hx hdata
    go_wp2_with fail
    go_region_held3 (fun w' => w'.cell? ⟨w.heap.size, 1, none⟩ = some (.int .i64 at') ∧ w'.cell? ⟨w.heap.size, 2, none⟩ = some (.int .i64 rc) ∧ w'.cell? ⟨w.heap.size, 3, none⟩ = some (.int .u64 seq) ∧ w'.cell? ⟨w.heap.size, 4, none⟩ = some (.string data)) (first | exact HST.out | exact HKP.out _ hpp | exact HKR.out _ _ hpp hrp)
      (first
      | (go_at_call 15; refine H1.out.mono ?_; rintro e w1 ⟨rfl, hpp⟩)
      | (go_at_call 17; refine (H2.out w1 (HQ1.out w1 hpp) (Nat.le_trans hs0 (pp_fr hpp).size)).mono ?_; rintro e w2 ⟨rfl, hrp⟩))
    all_goals (
      rename_i hHeld
      clear hHeld
      go_wp2
      go_ret
      exact ⟨rfl, HFIN.out _ _ _ (pp_undrew hpp) hrp⟩)
  by_cases r2 : r = 2
  · subst r2
    have ht : T = (S.write at' ⟨(pad64 xs).toArray⟩).2 := HT.out.trans (by simp)
    have hd0 : Below w0.heap.size w0 w0.drew := (Below.refl _ _).drew
    obtain ⟨pd, hpd⟩ : ∃ d : ByteArray, d = ⟨(pad64 xs).toArray⟩ := ⟨_, rfl⟩
    have h0 := fun w => padded_any xs w (by omega)
    rw [← hpd] at ht
    rw [show strV (pad64 xs) = .string pd from by rw [hpd]; rfl, hdata] at h0
    have h1 := write_any B p v1 v2 S at' pd w0.drew (HP.out.below hd0) hs0 N hok (by omega)
    have h2 := fun w' (hh : RD w' B q u1 u2 S) (hb : B ≤ w'.heap.size) => rwrite_any B q u1 u2 S at' pd w' hh hb N hok (by omega)
    rcases hw : S.write at' pd with ⟨E, T1⟩
    rw [hw] at ht h1
    simp only [hw] at h2
    dsimp only at ht h1
    subst ht
    have hq1 := fun w1 (h : PP w0.drew B p v1 v2 T w1) => rd_after (HQ.out.below hd0) HD.out h
    have hkp : ∀ w1, PP w0.drew B p v1 v2 T w1 → w1.cell? ⟨w.heap.size, 1, none⟩ = some (.int .i64 at') ∧ w1.cell? ⟨w.heap.size, 4, none⟩ = some (.string data) := fun w1 h =>
      ⟨fr_cell (i := 1) (pp_fr h) b1 (fun e => HNP.out _ e rfl), fr_cell (i := 4) (pp_fr h) b4 (fun e => HNP.out _ e rfl)⟩
    have hkr : ∀ w1 w2, PP w0.drew B p v1 v2 T w1 → RP w1 B q u1 u2 T w2 → w2.cell? ⟨w.heap.size, 1, none⟩ = some (.int .i64 at') ∧ w2.cell? ⟨w.heap.size, 4, none⟩ = some (.string data) := fun w1 w2 h h2 => by
      obtain ⟨_, _, _, hf, _⟩ := h2
      exact ⟨fr_cell (i := 1) hf (hkp w1 h).1 (fun e => HNQ.out _ e rfl), fr_cell (i := 4) hf (hkp w1 h).2 (fun e => HNQ.out _ e rfl)⟩
    have H0 := Lib.hid h0
    have H1 := Lib.hid h1
    have H2 := Lib.hid h2
    have HQ1 := Lib.hid hq1
    have HKP := Lib.hid hkp
    have HKR := Lib.hid hkr
    have HW := Lib.hid hw
    have HST := Lib.hid (And.intro b1 b4)
    have HXS := Lib.hid (And.intro hs hx)
    clear h0 h1 h2 hq1 hkp hkr hw hd0 b0 b2 b3 b5 hs hx hdata hpd
    go_wp2_with fail
    go_region_held3 (fun w' => w'.cell? ⟨w.heap.size, 1, none⟩ = some (.int .i64 at') ∧ w'.cell? ⟨w.heap.size, 4, none⟩ = some (.string data)) (first | exact HST.out | exact HKP.out _ hpp | exact HKR.out _ _ hpp hrp)
      (first
      | (go_at_call 19; refine (H0.out _).mono ?_; rintro e w' ⟨rfl, hw'⟩; obtain rfl := hw'.symm; clear hw')
      | (go_at_call 18; refine H1.out.mono ?_; rintro e w1 ⟨rfl, hpp⟩)
      | (go_at_call 20; refine (H2.out w1 (HQ1.out w1 hpp) (Nat.le_trans hs0 (pp_fr hpp).size)).mono ?_; rintro e w2 ⟨rfl, hrp⟩))
    all_goals (
      rename_i hHeld
      clear hHeld
      go_wp2
      go_ret
      exact ⟨rfl, HFIN.out _ _ _ (pp_undrew hpp) hrp⟩)
  by_cases r3 : r = 3
  · subst r3
    have ht : T = (S.crash K).up.2 := HT.out.trans (by simp)
    have h1 := crash_any B p v1 v2 S ka kn kc K w0 HP.out hs0 N hok (by omega) HK.out (fun b off e h0 hf => HKL.out b off e h0 (.inl hf))
    have H1 := Lib.hid h1
    have HTT := Lib.hid ht
    have HXS := Lib.hid (And.intro hs hx)
    clear h1 ht hs hx hdata
    go_wp2_with fail
    refine H1.out.mono ?_
    rintro e w1 ⟨rfl, hpp⟩
    have c5 := fr_cell (i := 5) (pp_fr hpp) b5 (fun e => HNP.out _ e rfl)
    have h3 := rcrash_any B q u1 u2 S ka kn kc K w1 (rd_after HQ.out HD.out hpp) (Nat.le_trans hs0 (pp_fr hpp).size) N hok (by omega) (HK.out.fr (pp_fr hpp) (fun b off e h0 hf => HKL.out b off e h0 (.inl hf))) (fun b off e h0 hf => HKL.out b off e h0 (.inr hf))
    have H3 := Lib.hid h3
    have HPP := Lib.hid hpp
    clear h3 hpp
    go_wp2_with fail
    refine H3.out.mono ?_
    rintro e w2 ⟨rfl, hrp⟩
    have htp := HFIN.out _ _ _ HPP.out hrp
    have HTP := Lib.hid htp
    obtain ⟨A', ⟨x1, x2, y1, y2, hp', hq', hd', hA'⟩, hF, hl⟩ := htp
    have HP' := Lib.hid hp'
    have HQ' := Lib.hid hq'
    have HD' := Lib.hid hd'
    have HA' := Lib.hid hA'
    have HFL := Lib.hid (And.intro hF hl)
    have h4 := up_any B p x1 x2 (S.crash K) w2 hp'
    have h5 := fun w' (hh : RD w' B q y1 y2 (S.crash K)) => rup_any B q y1 y2 (S.crash K) w' hh
    rcases hw : (S.crash K).up with ⟨E, T1⟩
    rw [hw] at h4
    simp only [hw] at h5
    have H4 := Lib.hid h4
    have H5 := Lib.hid h5
    have HW := Lib.hid hw
    clear hrp hp' hq' hd' hA' hF hl h4 h5 hw c5
    go_wp2_with fail
    refine H4.out.mono ?_
    rintro e w3 ⟨rfl, hpp⟩
    have h6 := H5.out w3 (rd_after HQ'.out HD'.out hpp)
    have H6 := Lib.hid h6
    have HPP2 := Lib.hid hpp
    clear h6 hpp
    go_wp2_with fail
    refine H6.out.mono ?_
    rintro e w4 ⟨rfl, hrp⟩
    have hres : TP w B p q A T w4 := by
      have e : T = T1 := by rw [HTT.out, HW.out]
      rw [e]
      have h7 := two_after HQ'.out HP'.out HD'.out HA'.out HPP2.out hrp
      exact tp_join HFL.out h7
    have HRES := Lib.hid hres
    clear hrp hres
    go_wp2
    go_ret
    exact ⟨rfl, HRES.out⟩
  have ht : T = S.fuse at' := HT.out.trans (by simp [r0, r1, r2, r3])
  subst ht
  have t0 : (r == 0) = false := by simpa using r0
  have t1 : (r == 1) = false := by simpa using r1
  have t2 : (r == 2) = false := by simpa using r2
  have t3 : (r == 3) = false := by simpa using r3
  have h1 := fuse_any B p v1 v2 S at' w0 HP.out
  have H1 := Lib.hid h1
  have HXS := Lib.hid (And.intro hs hx)
  clear h1 hs hx hdata r0 r1 r2 r3
  go_wp2_with fail
  refine H1.out.mono ?_
  rintro e w1 ⟨rfl, hpp⟩
  have c1 := fr_cell (i := 1) (pp_fr hpp) b1 (fun e => HNP.out _ e rfl)
  have h3 := rfuse_any B q u1 u2 S at' w1 (rd_after HQ.out HD.out hpp)
  have H3 := Lib.hid h3
  have HPP := Lib.hid hpp
  clear h3 hpp
  go_wp2_with fail
  refine H3.out.mono ?_
  rintro e w2 ⟨rfl, hrp⟩
  have HRP := Lib.hid hrp
  clear hrp
  go_wp2
  go_ret
  exact ⟨rfl, HFIN.out _ _ _ HPP.out HRP.out⟩

end Go.Proofs.YtdefdmmlmgkpnaaGreatDoor


/-
  Texts put together: HG.
-/
import Derived.Test.YtpkeikbiblfidaaGreatDoorMHF
import Derived.Test.YtpkeikbiblfidaaGreatDoorMU2
import Derived.Test.YtpkeikbiblfidaaGreatDoorMPW
/-
  An act of law13's plays to both disks (do).
-/
namespace Go.Proofs.YtpkeikbiblfidaaGreatDoor
open Go.RowKit
set_option linter.unusedVariables false
set_option linter.unusedSimpArgs false

theorem htp_join {w w1 w2 : World} {B p q : Nat} {A A' : Nat → Prop} {S2 : DS} (h : Fr A w w1 ∧ ∀ k, A' k → A k ∨ w.heap.size ≤ k) (k : TP w1 B p q A' S2 w2) : TP w B p q A S2 w2 := by
  obtain ⟨hF, hl⟩ := h
  obtain ⟨A2, hT2, hF2, hl2⟩ := k
  exact ⟨A2, hT2, hF.trans hF2 (fun i hi => hl i hi), fun i hi => (hl2 i hi).elim (hl i) (fun h => .inr (Nat.le_trans hF.size h))⟩

theorem ri_kept0 {w w' : World} {a : Option Addr} {n cap : Nat} {xs : List Int} (h : Ri w a n cap xs) (hs : w.heap.size ≤ w'.heap.size)
    (hb : ∀ b off, a = some ⟨b, off, none⟩ → 0 < n → b < w.heap.size → w'.heap[b]? = w.heap[b]?) : Ri w' a n cap xs where
  len := h.len
  le := h.le
  big := h.big
  cm := h.cm
  at0 := fun h0 => by
    obtain ⟨b, off, ha, hlt, hc⟩ := h.at0 h0
    exact ⟨b, off, ha, Nat.lt_of_lt_of_le hlt hs, fun i hi => by rw [World.cell?_of_block (w := w) (hb b off ha h0 hlt)]; exact hc i hi⟩
  nil := h.nil

/-- What Rehash leaves is a disk that keeps its bounds. -/
theorem putNP_len (N F C U : Int) (D : DS) (node : Int) (s : ByteArray) : (putNP N F C U D node s).2.L.length = D.L.length := by
  unfold putNP
  split
  · rfl
  · split
    · rfl
    · exact write_len' _ _ _
theorem putNP_sz {D : DS} (h : D.sz) (N F C U : Int) (node : Int) (s : ByteArray) : (putNP N F C U D node s).2.sz := by
  unfold putNP
  split
  · exact h
  · split
    · exact h
    · exact h.write _ _
theorem savL_sz {D : DS} (h : D.sz) (N F C U : Int) (m : Nat → Bool) (L : List ByteArray) (k : Nat) : (savL N F C U m L D k).1.sz :=
  runE_inv (fun _ (T : DS) => T.sz) h (fun j t h => by
    unfold savF
    split
    · exact h
    · exact putNP_sz h _ _ _ _ _ _) (fun j t h => h) k
theorem savL_len (N F C U : Int) (m : Nat → Bool) (L : List ByteArray) (D : DS) (k : Nat) : (savL N F C U m L D k).1.L.length = D.L.length :=
  runE_inv (fun _ (T : DS) => T.L.length = D.L.length) rfl (fun j t h => by
    unfold savF
    split
    · exact h
    · exact (putNP_len _ _ _ _ _ _ _).trans h) (fun j t h => h) k
theorem savR_all {D : DS} {M : Nat} (h : D.ok M) (hz : D.sz) (N F C U : Int) (m : Nat → Bool) (L : List ByteArray) (n : Nat) : (savR N F C U m L D n).2.ok (M + n + 1) ∧ (savR N F C U m L D n).2.sz ∧ (savR N F C U m L D n).2.L.length = D.L.length := by
  unfold savR
  split
  · exact ⟨(savL_ok h _ _ _ _ _ _ _).mono (by omega), savL_sz hz _ _ _ _ _ _ _, savL_len _ _ _ _ _ _ _ _⟩
  · exact ⟨(savL_ok h _ _ _ _ _ _ _).flush, (savL_sz hz _ _ _ _ _ _ _).flush, (flush_len' _).trans (savL_len _ _ _ _ _ _ _ _)⟩
theorem rehQ_all {D : DS} {M : Nat} (h : D.ok M) (hz : D.sz) (N F C U : Int) (m : Nat → Bool) : (rehQ N F C U m D).2.ok (M + 256) ∧ (rehQ N F C U m D).2.sz ∧ (rehQ N F C U m D).2.L.length = D.L.length := by
  have hn := nodes_le N F C U
  unfold rehQ
  split
  · exact ⟨h.mono (by omega), hz, rfl⟩
  · split
    · exact ⟨h.mono (by omega), hz, rfl⟩
    · split
      · obtain ⟨h1, h2, h3⟩ := savR_all h hz N F C U m (cmpL N F C U m D (othL N F C U m D (nodes N F C U)).1 (nodes N F C U)).1 (nodes N F C U)
        exact ⟨h1.mono (by omega), h2, h3⟩
      · obtain ⟨h1, h2, h3⟩ := savR_all h hz N F C U m (cmpL N F C U m D (othL N F C U m D (nodes N F C U)).1 (nodes N F C U)).1 (nodes N F C U)
        exact ⟨h1.mono (by omega), h2, h3⟩
theorem rehP_all {D : DS} {M : Nat} (h : D.ok M) (hz : D.sz) (N F C U : Int) (l : List Int) : (rehP N F C U D l).2.ok (M + 256) ∧ (rehP N F C U D l).2.sz ∧ (rehP N F C U D l).2.L.length = D.L.length := by
  by_cases hok : okG N F C U
  · by_cases hr : ∀ x ∈ l, 0 ≤ x ∧ x < N
    · by_cases h0 : l = []
      · subst h0; rw [rehP_none hok]; exact ⟨h.mono (by omega), hz, rfl⟩
      · rw [rehP_some hok hr h0]; exact rehQ_all h hz _ _ _ _ _
    · rw [rehP_range hok hr]; exact ⟨h.mono (by omega), hz, rfl⟩
  · rw [rehP_geom hok]; exact ⟨h.mono (by omega), hz, rfl⟩

/-- An act. -/
structure NK where
  kind : Int
  at' : Int
  data : ByteArray
  la : Option Addr
  ln : Nat
  lc : Nat
  Lv : List Int
  ka : Option Addr
  kn : Nat
  kc : Nat
  K : List Bool

def NK.val (x : NK) : Value := .agg #[.int .i64 x.kind, .int .i64 x.at', .string x.data, .slice x.la x.ln x.lc, .slice x.ka x.kn x.kc]

def DS.nact (S : DS) (N F C U : Int) (x : NK) : DS := if x.kind.tmod 8 = 0 then S else if x.kind.tmod 8 = 1 then (putNP N F C U S x.at' x.data).2 else if x.kind.tmod 8 = 2 then S else if x.kind.tmod 8 = 3 then (rehP N F C U S x.Lv).2 else if x.kind.tmod 8 = 4 then (fullP N F C U S).2 else if x.kind.tmod 8 = 5 then (S.write x.at' x.data).2 else if x.kind.tmod 8 = 6 then S.fuse x.at' else (S.crash x.K).up.2

theorem nact_all {S : DS} {M : Nat} (h : S.ok M) (hz : S.sz) (N F C U : Int) (x : NK) (hx : x.at' ≤ 9223372036854775807) : (S.nact N F C U x).ok (M + 256) ∧ (S.nact N F C U x).sz ∧ (S.nact N F C U x).L.length = S.L.length := by
  unfold DS.nact
  split
  · exact ⟨h.mono (by omega), hz, rfl⟩
  · split
    · exact ⟨(putNP_ok h _ _ _ _ _ _).mono (by omega), putNP_sz hz _ _ _ _ _ _, putNP_len _ _ _ _ _ _ _⟩
    · split
      · exact ⟨h.mono (by omega), hz, rfl⟩
      · split
        · exact rehP_all h hz _ _ _ _ _
        · split
          · exact rehP_all h hz _ _ _ _ _
          · split
            · exact ⟨(h.write _ _).mono (by omega), hz.write _ _, write_len' _ _ _⟩
            · split
              · exact ⟨(h.fuse _ hx).mono (by omega), hz.fuse _, rfl⟩
              · exact ⟨(h.crash _).up.mono (by omega), (hz.crash _).up, (up_len' _).trans (appK_length _ _ _ _)⟩

set_option maxRecDepth 20000 in
set_option maxHeartbeats 16000000 in
theorem ndo_any (B p q : Nat) (A : Nat → Prop) (S : DS) (N F C U : Int) (x : NK) (w : World) (h : Two w B p q A S) (hB : B ≤ w.heap.size) (hKn : Dg.Kon w) (M : Nat) (hok : S.ok M) (hM : M + 300 ≤ 1000000) (hz : S.sz) (hdl : x.data.size ≤ 9223372036854775807) (hLv : Ri w x.la x.ln x.lc x.Lv) (hLl : ∀ b off, x.la = some ⟨b, off, none⟩ → 0 < x.ln → ¬ A b) (hK : Bl w x.ka x.kn x.K) (hKl : ∀ b off, x.ka = some ⟨b, off, none⟩ → 0 < x.kn → ¬ A b) :
    Calls Tryz.prog 12 #[.pointer (some ⟨p, 0, none⟩), .pointer (some ⟨q, 0, none⟩), geo N F C U, x.val] w fun e w' => e = .returned (.bool true) ∧ TP w B p q A (S.nact N F C U x) w' := by
  have hW : S.W.length ≤ 1000000 := by have := hok.few; have := hok.did; omega
  obtain ⟨v1, v2, u1, u2, hp, hq, hd, hA⟩ := h
  obtain ⟨kind, at', data, la, ln, lc, Lv, ka, kn, kc, K⟩ := x
  obtain ⟨r, hr⟩ : ∃ r, r = kind.tmod 8 := ⟨_, rfl⟩
  obtain ⟨T, hT⟩ : ∃ T, T = if r = 0 then S else if r = 1 then (putNP N F C U S at' data).2 else if r = 2 then S else if r = 3 then (rehP N F C U S Lv).2 else if r = 4 then (fullP N F C U S).2 else if r = 5 then (S.write at' data).2 else if r = 6 then S.fuse at' else (S.crash K).up.2 := ⟨_, rfl⟩
  have hS : DS.nact S N F C U ⟨kind, at', data, la, ln, lc, Lv, ka, kn, kc, K⟩ = T := by rw [hT, hr]; rfl
  rw [hS]
  have HT := Lib.hid hT
  clear hT hS
  unfold NK.val geo
  dsimp only at hK hKl hLv hLl hdl ⊢
  obtain ⟨w0, hw0⟩ : ∃ w0, w0 = (w.alloc (.cells #[.int .i64 N, .int .i64 F, .int .i64 C, .int .i64 U] 23)).alloc (.cells #[.int .i64 kind, .int .i64 at', .string data, .slice la ln lc, .slice ka kn kc] 37) := ⟨_, rfl⟩
  have hal : Below w.heap.size w w0 := by rw [hw0]; exact ((Below.refl _ w).alloc (Nat.le_refl _) _).alloc (by simp) _
  have hs2 : w0.heap.size = w.heap.size + 2 := by rw [hw0]; simp
  have hg0 : w0.heap[w.heap.size]? = some (.cells #[.int .i64 N, .int .i64 F, .int .i64 C, .int .i64 U] 23 (0, 0)) := by rw [hw0]; exact (Below.heap_alloc _ _ _ (by simp)).trans (heap_alloc_new w _)
  have ha0 : w0.heap[w.heap.size + 1]? = some (.cells #[.int .i64 kind, .int .i64 at', .string data, .slice la ln lc, .slice ka kn kc] 37 (0, 0)) := by
    have e := heap_alloc_new (w.alloc (.cells #[.int .i64 N, .int .i64 F, .int .i64 C, .int .i64 U] 23)) (.cells #[.int .i64 kind, .int .i64 at', .string data, .slice la ln lc, .slice ka kn kc] 37)
    rw [World.size_alloc] at e
    rw [hw0]; exact e
  have hp0 := hp.below hal
  have hq0 := hq.below hal
  have hs0 : B ≤ w0.heap.size := Nat.le_trans hB hal.size
  have hnp : ∀ j, foot p v1 v2 j → j < w.heap.size := fun j hj => (hp.foot_low j hj).2
  have hnq : ∀ j, foot q u1 u2 j → j < w.heap.size := fun j hj => (hq.foot_low j hj).2
  have hcg : ∀ w' : World, w'.heap[w.heap.size]? = w0.heap[w.heap.size]? → w'.cell? ⟨w.heap.size, 0, none⟩ = some (.int .i64 N) ∧ w'.cell? ⟨w.heap.size, 1, none⟩ = some (.int .i64 F) ∧ w'.cell? ⟨w.heap.size, 2, none⟩ = some (.int .i64 C) ∧ w'.cell? ⟨w.heap.size, 3, none⟩ = some (.int .i64 U) := fun w' e => by
    have e := e.trans hg0
    refine ⟨?_, ?_, ?_, ?_⟩ <;> (rw [cell_of_blk e]; rfl)
  have hca : ∀ w' : World, w'.heap[w.heap.size + 1]? = w0.heap[w.heap.size + 1]? → w'.cell? ⟨w.heap.size + 1, 0, none⟩ = some (.int .i64 kind) ∧ w'.cell? ⟨w.heap.size + 1, 1, none⟩ = some (.int .i64 at') ∧ w'.cell? ⟨w.heap.size + 1, 2, none⟩ = some (.string data) ∧ w'.cell? ⟨w.heap.size + 1, 3, none⟩ = some (.slice la ln lc) ∧ w'.cell? ⟨w.heap.size + 1, 4, none⟩ = some (.slice ka kn kc) := fun w' e => by
    have e := e.trans ha0
    refine ⟨?_, ?_, ?_, ?_, ?_⟩ <;> (rw [cell_of_blk e]; rfl)
  have hpo : ∀ T w1 j, PP w0 B p v1 v2 T w1 → w.heap.size ≤ j → j < w0.heap.size → w1.heap[j]? = w0.heap[j]? := fun T w1 j h h1 h2 => h.old j h2 (fun hf => by have := hnp j hf; omega)
  have hro : ∀ T T' w1 w2 j, PP w0 B p v1 v2 T w1 → RP w1 B q u1 u2 T' w2 → w.heap.size ≤ j → j < w0.heap.size → w2.heap[j]? = w0.heap[j]? := fun T T' w1 w2 j h h3 h1 h2 => (h3.old j (Nat.lt_of_lt_of_le h2 h.size) (fun hf => by have := hnq j hf; omega)).trans (hpo T w1 j h h1 h2)
  have hfin : ∀ S' w1 w2, PP w0 B p v1 v2 S' w1 → RP w1 B q u1 u2 S' w2 → TP w B p q A S' w2 := fun S' w1 w2 h1 h2 => by
    obtain ⟨A', hT, hF, hl⟩ := two_after hq0 hp0 hd hA h1 h2
    exact ⟨A', hT, ⟨hF.os.trans hal.os, hF.tape.trans hal.tape, hF.output.trans hal.output, Nat.le_trans hal.size hF.size, fun k hk hn => (hF.block k (Nat.lt_of_lt_of_le hk hal.size) hn).trans (hal.block k hk)⟩, fun k hk => by
      rcases hl k hk with h | h
      · exact .inl h
      · have := hal.size; exact .inr (by omega)⟩
  have HFIN := Lib.hid hfin
  have HP := Lib.hid hp0
  have HQ := Lib.hid hq0
  have HD := Lib.hid hd
  have HPO := Lib.hid hpo
  have HRO := Lib.hid hro
  have HCG := Lib.hid hcg
  have HCA := Lib.hid hca
  have HS2 := Lib.hid hs2
  have HNQ := Lib.hid hnq
  have hsame : ∀ w', Below w0.heap.size w0 w' → TP w B p q A S w' := fun w' hb => TP.same ⟨v1, v2, u1, u2, hp, hq, hd, hA⟩ (hal.trans (hb.mono hal.size))
  have HSM := Lib.hid hsame
  have HK := Lib.hid (hK.below hal)
  have HKL := Lib.hid (fun b off e h0 hf => hKl b off e h0 ((hA b).2 hf))
  have HLV := Lib.hid (hLv.later hal)
  have HLL := Lib.hid (fun b off e h0 hf => hLl b off e h0 ((hA b).2 hf))
  have HRR := Lib.hid hr
  have HSZ := Lib.hid hz
  have HOK := Lib.hid hok
  have HDL := Lib.hid hdl
  have HWL := Lib.hid hW
  have HKN := Lib.hid (hKn.below hal)
  obtain ⟨c0, c1, c2, c3⟩ := hcg w0 rfl
  obtain ⟨d0, d1, d2, d3, d4⟩ := hca w0 rfl
  clear hp hq hp0 hq0 hfin hsame hal hK hKl hLv hLl hnp hnq hpo hro hcg hca hs2 hg0 ha0 hz hok hdl hW hKn
  go_enter Tryz.func12, Tryz.ntmps12
  go_upto_region 5 with fail
  rw [← hw0, ← HRR.out]
  clear hw0
  by_cases r0 : r = 0
  · subst r0
    have ht : T = S := HT.out.trans (by simp)
    have h1 := nget_any B p v1 v2 S N F C U at' w0 HP.out M HOK.out (by omega)
    have h2 := fun w' (hb : Below w0.heap.size w0 w') => rnget_any B q u1 u2 S N F C U at' w' (HQ.out.below hb) M HOK.out (by omega)
    obtain ⟨g1, g2, hg⟩ : ∃ a b, getP N F C U S at' = (a, b) := ⟨_, _, rfl⟩
    simp only [hg] at h1 h2
    obtain ⟨s, hs⟩ : ∃ s : ByteArray, s = ⟨g1.toArray⟩ := ⟨_, rfl⟩
    have hss : strV g1 = Value.string s := by rw [hs]; rfl
    rw [hss] at h1 h2
    obtain ⟨V, hV⟩ : ∃ V, V = Value.string s := ⟨_, rfl⟩
    have hgd := fun x y w => guard_txt .eql x y s s w
    have heq := fun w => eql_txt s s w
    simp only [← hV, decide_true] at h1 h2 hgd heq
    have HGD := Lib.hid hgd
    have HEQ := Lib.hid heq
    clear hgd heq hV
    unfold geo at h1 h2
    have H1 := Lib.hid h1
    have H2 := Lib.hid h2
    have HTT := Lib.hid ht
    clear h1 h2 ht hs hss
    go_wp2_with fail
    refine H1.out.mono ?_
    rintro e w1 ⟨rfl, hb1⟩
    obtain ⟨c0, c1, c2, c3⟩ := HCG.out w1 (hb1.block _ (by have := HS2.out; omega))
    obtain ⟨d0, d1, d2, d3, d4⟩ := HCA.out w1 (hb1.block _ (by have := HS2.out; omega))
    have H3 := Lib.hid (H2.out w1 hb1)
    have HB1 := Lib.hid hb1
    clear hb1 H1 H2
    go_wp2_with fail
    refine H3.out.mono ?_
    rintro e w2 ⟨rfl, hb2⟩
    have HB2 := Lib.hid (HB1.out.trans (hb2.mono HB1.out.size))
    clear hb2 c0 c1 c2 c3 d0 d1 d2 d3 d4 H3
    have hgd := HGD.out
    have heq := HEQ.out
    go_wp2
    go_ret
    exact ⟨rfl, by rw [HTT.out]; exact HSM.out _ HB2.out⟩
  by_cases r1 : r = 1
  · subst r1
    have ht : T = (putNP N F C U S at' data).2 := HT.out.trans (by simp)
    have hd0 : Below w0.heap.size w0 w0.drew := (Below.refl _ _).drew
    have h1 := nput_any B p v1 v2 S N F C U at' data w0.drew (HP.out.below hd0) hs0 M HOK.out (by omega) HDL.out
    have h2 := fun w' (hh : RD w' B q u1 u2 S) (hb : B ≤ w'.heap.size) => rnput_any B q u1 u2 S N F C U at' data w' hh hb M HOK.out (by omega) HDL.out
    rcases hw : putNP N F C U S at' data with ⟨E, T1⟩
    rw [hw] at ht h1
    simp only [hw] at h2
    dsimp only at ht h1
    subst ht
    unfold geo at h1 h2
    have hq1 := fun w1 (h : PP w0.drew B p v1 v2 T w1) => rd_after (HQ.out.below hd0) HD.out h
    have hcw : ∀ w' : World, w'.heap[w.heap.size]? = w0.heap[w.heap.size]? → w'.heap[w.heap.size + 1]? = w0.heap[w.heap.size + 1]? → (w'.cell? ⟨w.heap.size, 0, none⟩ = some (.int .i64 N) ∧ w'.cell? ⟨w.heap.size, 1, none⟩ = some (.int .i64 F) ∧ w'.cell? ⟨w.heap.size, 2, none⟩ = some (.int .i64 C) ∧ w'.cell? ⟨w.heap.size, 3, none⟩ = some (.int .i64 U)) ∧ w'.cell? ⟨w.heap.size + 1, 1, none⟩ = some (.int .i64 at') ∧ w'.cell? ⟨w.heap.size + 1, 2, none⟩ = some (.string data) := fun w' e e' => by
      obtain ⟨e0, e1, e2, e3, e4⟩ := HCA.out w' e'
      exact ⟨HCG.out w' e, e1, e2⟩
    have hkp : ∀ w', PP w0.drew B p v1 v2 T w' → (w'.cell? ⟨w.heap.size, 0, none⟩ = some (.int .i64 N) ∧ w'.cell? ⟨w.heap.size, 1, none⟩ = some (.int .i64 F) ∧ w'.cell? ⟨w.heap.size, 2, none⟩ = some (.int .i64 C) ∧ w'.cell? ⟨w.heap.size, 3, none⟩ = some (.int .i64 U)) ∧ w'.cell? ⟨w.heap.size + 1, 1, none⟩ = some (.int .i64 at') ∧ w'.cell? ⟨w.heap.size + 1, 2, none⟩ = some (.string data) := fun w1 h => hcw w1 (HPO.out _ _ _ (pp_undrew h) (Nat.le_refl _) (by have := HS2.out; omega)) (HPO.out _ _ _ (pp_undrew h) (by omega) (by have := HS2.out; omega))
    have hkr : ∀ w1 w', PP w0.drew B p v1 v2 T w1 → RP w1 B q u1 u2 T w' → (w'.cell? ⟨w.heap.size, 0, none⟩ = some (.int .i64 N) ∧ w'.cell? ⟨w.heap.size, 1, none⟩ = some (.int .i64 F) ∧ w'.cell? ⟨w.heap.size, 2, none⟩ = some (.int .i64 C) ∧ w'.cell? ⟨w.heap.size, 3, none⟩ = some (.int .i64 U)) ∧ w'.cell? ⟨w.heap.size + 1, 1, none⟩ = some (.int .i64 at') ∧ w'.cell? ⟨w.heap.size + 1, 2, none⟩ = some (.string data) := fun w1 w2 h h2 => hcw w2 (HRO.out _ _ _ _ _ (pp_undrew h) h2 (Nat.le_refl _) (by have := HS2.out; omega)) (HRO.out _ _ _ _ _ (pp_undrew h) h2 (by omega) (by have := HS2.out; omega))
    have H1 := Lib.hid h1
    have H2 := Lib.hid h2
    have HQ1 := Lib.hid hq1
    have HKP := Lib.hid hkp
    have HKR := Lib.hid hkr
    have HST := Lib.hid (And.intro (And.intro c0 (And.intro c1 (And.intro c2 c3))) (And.intro d1 d2))
    clear h1 h2 hq1 hkp hkr hcw hw hd0 d0 d3 d4
    go_wp2_with fail
    go_region_held3 (fun w' : World => (w'.cell? ⟨w.heap.size, 0, none⟩ = some (.int .i64 N) ∧ w'.cell? ⟨w.heap.size, 1, none⟩ = some (.int .i64 F) ∧ w'.cell? ⟨w.heap.size, 2, none⟩ = some (.int .i64 C) ∧ w'.cell? ⟨w.heap.size, 3, none⟩ = some (.int .i64 U)) ∧ w'.cell? ⟨w.heap.size + 1, 1, none⟩ = some (.int .i64 at') ∧ w'.cell? ⟨w.heap.size + 1, 2, none⟩ = some (.string data)) (first | exact HST.out | exact HKP.out _ hpp | exact HKR.out _ _ hpp hrp)
      (first
      | (go_at_call 48; refine H1.out.mono ?_; rintro e w1 ⟨rfl, hpp⟩)
      | (go_at_call 49; refine (H2.out w1 (HQ1.out w1 hpp) (Nat.le_trans hs0 (pp_fr hpp).size)).mono ?_; rintro e w2 ⟨rfl, hrp⟩))
    all_goals (
      rename_i hHeld
      clear hHeld
      go_wp2
      go_ret
      exact ⟨rfl, HFIN.out _ _ _ (pp_undrew hpp) hrp⟩)
  by_cases r2 : r = 2
  · subst r2
    have ht : T = S := HT.out.trans (by simp)
    have h1 := nall_any B p v1 v2 S N F C U w0 HP.out M HOK.out (by omega)
    have h2 := fun w' (hb : Below w0.heap.size w0 w') => rnall_any B q u1 u2 S N F C U w' (HQ.out.below hb) M HOK.out (by omega)
    obtain ⟨g1, g2, hg⟩ : ∃ a b, allP N F C U S = (a, b) := ⟨_, _, rfl⟩
    simp only [hg] at h1 h2
    unfold geo at h1 h2
    have H1 := Lib.hid h1
    have H2 := Lib.hid h2
    have HTT := Lib.hid ht
    clear h1 h2 ht
    go_wp2_with fail
    refine H1.out.mono ?_
    rintro e w1 ⟨⟨va, rfl, ho1⟩, hb1⟩
    obtain ⟨a1, n1, rfl, hs1, _⟩ := towns_shape ho1
    obtain ⟨c0, c1, c2, c3⟩ := HCG.out w1 (hb1.block _ (by have := HS2.out; omega))
    obtain ⟨d0, d1, d2, d3, d4⟩ := HCA.out w1 (hb1.block _ (by have := HS2.out; omega))
    have H3 := Lib.hid (H2.out w1 hb1)
    have HB1 := Lib.hid hb1
    have HE1 := Lib.hid hs1
    clear hb1 H1 H2 hs1 ho1
    go_wp2_with fail
    refine H3.out.mono ?_
    rintro e w2 ⟨⟨vb, rfl, ho2⟩, hb2⟩
    obtain ⟨a2, n2, rfl, hs2, _⟩ := towns_shape ho2
    have h4 := rtexts_any a1 a2 g1.length g1.length n1 n2 g1 g1 w2 (HE1.out.later hb2) hs2
    rw [decide_eq_true rfl] at h4
    have H4 := Lib.hid h4
    have HB2 := Lib.hid (HB1.out.trans (hb2.mono HB1.out.size))
    clear hb2 hs2 ho2 h4 c0 c1 c2 c3 d0 d1 d2 d3 d4 H3
    go_wp2_with fail
    refine H4.out.mono ?_
    rintro e w3 ⟨rfl, hb3⟩
    have HB3 := Lib.hid (HB2.out.trans (hb3.mono HB2.out.size))
    clear hb3
    go_wp2
    go_ret
    exact ⟨rfl, by rw [HTT.out]; exact HSM.out _ HB3.out⟩
  by_cases r3 : r = 3
  · subst r3
    have ht : T = (rehP N F C U S Lv).2 := HT.out.trans (by simp)
    have h1 := reh_any B p v1 v2 S N F C U la ln lc Lv w0 HP.out hs0 HKN.out M HOK.out hM HSZ.out HLV.out
    have h2 := fun w1 (h : PP w0 B p v1 v2 T w1) => rreh_any B q u1 u2 S N F C U la ln lc Lv w1 (rd_after HQ.out HD.out h) (Nat.le_trans hs0 h.size) M HOK.out hM HSZ.out (ri_kept0 HLV.out h.size (fun b off e h0 hlt => h.old b hlt (fun hf => HLL.out b off e h0 (.inl hf))))
    obtain ⟨g1, g2, T1, hg⟩ : ∃ a b c, rehP N F C U S Lv = ((a, b), c) := ⟨_, _, _, rfl⟩
    simp only [hg] at ht h1 h2
    subst ht
    obtain ⟨s, hs⟩ : ∃ s : ByteArray, s = ⟨g1.toArray⟩ := ⟨_, rfl⟩
    have hss : strV g1 = Value.string s := by rw [hs]; rfl
    rw [hss] at h1 h2
    obtain ⟨V, hV⟩ : ∃ V, V = Value.string s := ⟨_, rfl⟩
    have hgd := fun x y w => guard_txt .eql x y s s w
    have heq := fun w => eql_txt s s w
    simp only [← hV, decide_true] at h1 h2 hgd heq
    have HGD := Lib.hid hgd
    have HEQ := Lib.hid heq
    clear hgd heq hV
    unfold geo at h1 h2
    have H1 := Lib.hid h1
    have H2 := Lib.hid h2
    clear h1 h2 hs hss
    go_wp2_with fail
    refine H1.out.mono ?_
    rintro e w1 ⟨rfl, hpp⟩
    obtain ⟨c0, c1, c2, c3⟩ := HCG.out w1 (HPO.out _ _ _ hpp (Nat.le_refl _) (by have := HS2.out; omega))
    obtain ⟨d0, d1, d2, d3, d4⟩ := HCA.out w1 (HPO.out _ _ _ hpp (by omega) (by have := HS2.out; omega))
    have H3 := Lib.hid (H2.out w1 hpp)
    have HPP := Lib.hid hpp
    clear hpp H1 H2
    go_wp2_with fail
    refine H3.out.mono ?_
    rintro e w2 ⟨rfl, hrp⟩
    have HRES := Lib.hid (HFIN.out _ _ _ HPP.out hrp)
    clear hrp c0 c1 c2 c3 d0 d1 d2 d3 d4 H3
    have hgd := HGD.out
    have heq := HEQ.out
    go_wp2
    go_ret
    exact ⟨rfl, HRES.out⟩
  by_cases r4 : r = 4
  · subst r4
    have ht : T = (fullP N F C U S).2 := HT.out.trans (by simp)
    have h1 := nfull_any B p v1 v2 S N F C U w0 HP.out hs0 HKN.out M HOK.out hM HSZ.out
    have h2 := fun w1 (h : PP w0 B p v1 v2 T w1) => rnfull_any B q u1 u2 S N F C U w1 (rd_after HQ.out HD.out h) (Nat.le_trans hs0 h.size) M HOK.out hM HSZ.out
    obtain ⟨g1, g2, T1, hg⟩ : ∃ a b c, fullP N F C U S = ((a, b), c) := ⟨_, _, _, rfl⟩
    simp only [hg] at ht h1 h2
    subst ht
    obtain ⟨s, hs⟩ : ∃ s : ByteArray, s = ⟨g1.toArray⟩ := ⟨_, rfl⟩
    have hss : strV g1 = Value.string s := by rw [hs]; rfl
    rw [hss] at h1 h2
    obtain ⟨V, hV⟩ : ∃ V, V = Value.string s := ⟨_, rfl⟩
    have hgd := fun x y w => guard_txt .eql x y s s w
    have heq := fun w => eql_txt s s w
    simp only [← hV, decide_true] at h1 h2 hgd heq
    have HGD := Lib.hid hgd
    have HEQ := Lib.hid heq
    clear hgd heq hV
    unfold geo at h1 h2
    have H1 := Lib.hid h1
    have H2 := Lib.hid h2
    clear h1 h2 hs hss
    go_wp2_with fail
    refine H1.out.mono ?_
    rintro e w1 ⟨rfl, hpp⟩
    obtain ⟨c0, c1, c2, c3⟩ := HCG.out w1 (HPO.out _ _ _ hpp (Nat.le_refl _) (by have := HS2.out; omega))
    obtain ⟨d0, d1, d2, d3, d4⟩ := HCA.out w1 (HPO.out _ _ _ hpp (by omega) (by have := HS2.out; omega))
    have H3 := Lib.hid (H2.out w1 hpp)
    have HPP := Lib.hid hpp
    clear hpp H1 H2
    go_wp2_with fail
    refine H3.out.mono ?_
    rintro e w2 ⟨rfl, hrp⟩
    have HRES := Lib.hid (HFIN.out _ _ _ HPP.out hrp)
    clear hrp c0 c1 c2 c3 d0 d1 d2 d3 d4 H3
    have hgd := HGD.out
    have heq := HEQ.out
    go_wp2
    go_ret
    exact ⟨rfl, HRES.out⟩
  by_cases r5 : r = 5
  · subst r5
    have ht : T = (S.write at' data).2 := HT.out.trans (by simp)
    have hd0 : Below w0.heap.size w0 w0.drew := (Below.refl _ _).drew
    have h1 := write_any B p v1 v2 S at' data w0.drew (HP.out.below hd0) hs0 M HOK.out (by omega)
    have h2 := fun w' (hh : RD w' B q u1 u2 S) (hb : B ≤ w'.heap.size) => rwrite_any B q u1 u2 S at' data w' hh hb M HOK.out (by omega)
    rcases hw : S.write at' data with ⟨E, T1⟩
    rw [hw] at ht h1
    simp only [hw] at h2
    dsimp only at ht h1
    subst ht
    have hq1 := fun w1 (h : PP w0.drew B p v1 v2 T w1) => rd_after (HQ.out.below hd0) HD.out h
    have hcw : ∀ w' : World, w'.heap[w.heap.size + 1]? = w0.heap[w.heap.size + 1]? → w'.cell? ⟨w.heap.size + 1, 1, none⟩ = some (.int .i64 at') ∧ w'.cell? ⟨w.heap.size + 1, 2, none⟩ = some (.string data) := fun w' e => by
      obtain ⟨e0, e1, e2, e3, e4⟩ := HCA.out w' e
      exact ⟨e1, e2⟩
    have hkp : ∀ w', PP w0.drew B p v1 v2 T w' → w'.cell? ⟨w.heap.size + 1, 1, none⟩ = some (.int .i64 at') ∧ w'.cell? ⟨w.heap.size + 1, 2, none⟩ = some (.string data) := fun w1 h => hcw w1 (HPO.out _ _ _ (pp_undrew h) (by omega) (by have := HS2.out; omega))
    have hkr : ∀ w1 w', PP w0.drew B p v1 v2 T w1 → RP w1 B q u1 u2 T w' → w'.cell? ⟨w.heap.size + 1, 1, none⟩ = some (.int .i64 at') ∧ w'.cell? ⟨w.heap.size + 1, 2, none⟩ = some (.string data) := fun w1 w2 h h2 => hcw w2 (HRO.out _ _ _ _ _ (pp_undrew h) h2 (by omega) (by have := HS2.out; omega))
    have H1 := Lib.hid h1
    have H2 := Lib.hid h2
    have HQ1 := Lib.hid hq1
    have HKP := Lib.hid hkp
    have HKR := Lib.hid hkr
    have HST := Lib.hid (And.intro d1 d2)
    clear h1 h2 hq1 hkp hkr hcw hw hd0 c0 c1 c2 c3 d0 d3 d4
    go_wp2_with fail
    go_region_held3 (fun w' : World => w'.cell? ⟨w.heap.size + 1, 1, none⟩ = some (.int .i64 at') ∧ w'.cell? ⟨w.heap.size + 1, 2, none⟩ = some (.string data)) (first | exact HST.out | exact HKP.out _ hpp | exact HKR.out _ _ hpp hrp)
      (first
      | (go_at_call 18; refine H1.out.mono ?_; rintro e w1 ⟨rfl, hpp⟩)
      | (go_at_call 53; refine (H2.out w1 (HQ1.out w1 hpp) (Nat.le_trans hs0 (pp_fr hpp).size)).mono ?_; rintro e w2 ⟨rfl, hrp⟩))
    all_goals (
      rename_i hHeld
      clear hHeld
      go_wp2
      go_ret
      exact ⟨rfl, HFIN.out _ _ _ (pp_undrew hpp) hrp⟩)
  by_cases r6 : r = 6
  · subst r6
    have ht : T = S.fuse at' := HT.out.trans (by simp)
    subst ht
    have h1 := fuse_any B p v1 v2 S at' w0 HP.out
    have H1 := Lib.hid h1
    clear h1 c0 c1 c2 c3 d2 d3 d4
    go_wp2_with fail
    refine H1.out.mono ?_
    rintro e w1 ⟨rfl, hpp⟩
    obtain ⟨d0, d1, d2, d3, d4⟩ := HCA.out w1 (HPO.out _ _ _ hpp (by omega) (by have := HS2.out; omega))
    have h3 := rfuse_any B q u1 u2 S at' w1 (rd_after HQ.out HD.out hpp)
    have H3 := Lib.hid h3
    have HPP := Lib.hid hpp
    clear h3 hpp d2 d3 d4
    go_wp2_with fail
    refine H3.out.mono ?_
    rintro e w2 ⟨rfl, hrp⟩
    have HRP := Lib.hid hrp
    clear hrp
    go_wp2
    go_ret
    exact ⟨rfl, HFIN.out _ _ _ HPP.out HRP.out⟩
  have ht : T = (S.crash K).up.2 := HT.out.trans (by simp [r0, r1, r2, r3, r4, r5, r6])
  have t0 : (r == 0) = false := by simpa using r0
  have t1 : (r == 1) = false := by simpa using r1
  have t2 : (r == 2) = false := by simpa using r2
  have t3 : (r == 3) = false := by simpa using r3
  have t4 : (r == 4) = false := by simpa using r4
  have t5 : (r == 5) = false := by simpa using r5
  have t6 : (r == 6) = false := by simpa using r6
  have h1 := crash_any B p v1 v2 S ka kn kc K w0 HP.out hs0 M HOK.out (by omega) HK.out (fun b off e h0 hf => HKL.out b off e h0 (.inl hf))
  have H1 := Lib.hid h1
  have HTT := Lib.hid ht
  clear h1 ht c0 c1 c2 c3 d1 d2 d3 r0 r1 r2 r3 r4 r5 r6
  go_wp2_with fail
  refine H1.out.mono ?_
  rintro e w1 ⟨rfl, hpp⟩
  obtain ⟨d0, d1, d2, d3, d4⟩ := HCA.out w1 (HPO.out _ _ _ hpp (by omega) (by have := HS2.out; omega))
  have h3 := rcrash_any B q u1 u2 S ka kn kc K w1 (rd_after HQ.out HD.out hpp) (Nat.le_trans hs0 (pp_fr hpp).size) M HOK.out (by omega) (HK.out.fr (pp_fr hpp) (fun b off e h0 hf => HKL.out b off e h0 (.inl hf))) (fun b off e h0 hf => HKL.out b off e h0 (.inr hf))
  have H3 := Lib.hid h3
  have HPP := Lib.hid hpp
  clear h3 hpp d1 d2 d3
  go_wp2_with fail
  refine H3.out.mono ?_
  rintro e w2 ⟨rfl, hrp⟩
  have htp := HFIN.out _ _ _ HPP.out hrp
  have HTP := Lib.hid htp
  obtain ⟨A', ⟨x1, x2, y1, y2, hp', hq', hd', hA'⟩, hF, hl⟩ := htp
  have HP' := Lib.hid hp'
  have HQ' := Lib.hid hq'
  have HD' := Lib.hid hd'
  have HA' := Lib.hid hA'
  have HFL := Lib.hid (And.intro hF hl)
  have h4 := up_any B p x1 x2 (S.crash K) w2 hp'
  have h5 := fun w' (hh : RD w' B q y1 y2 (S.crash K)) => rup_any B q y1 y2 (S.crash K) w' hh
  rcases hw : (S.crash K).up with ⟨E, T1⟩
  rw [hw] at h4
  simp only [hw] at h5
  have H4 := Lib.hid h4
  have H5 := Lib.hid h5
  have HW := Lib.hid hw
  clear hrp hp' hq' hd' hA' hF hl h4 h5 hw d0 d4
  go_wp2_with fail
  refine H4.out.mono ?_
  rintro e w3 ⟨rfl, hpp⟩
  have h6 := H5.out w3 (rd_after HQ'.out HD'.out hpp)
  have H6 := Lib.hid h6
  have HPP2 := Lib.hid hpp
  clear h6 hpp
  go_wp2_with fail
  refine H6.out.mono ?_
  rintro e w4 ⟨rfl, hrp⟩
  have hres : TP w B p q A T w4 := by
    have e : T = T1 := by rw [HTT.out, HW.out]
    rw [e]
    have h7 := two_after HQ'.out HP'.out HD'.out HA'.out HPP2.out hrp
    exact htp_join HFL.out h7
  have HRES := Lib.hid hres
  clear hrp hres
  go_wp2
  go_ret
  exact ⟨rfl, HRES.out⟩
end Go.Proofs.YtpkeikbiblfidaaGreatDoor

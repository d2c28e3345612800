/-
  Texts put together: OC, OD, QX.
-/
import Derived.Test.YtjohgagiccndpaaGreatDoorMOA
import Derived.Test.YtjohgagiccndpaaGreatDoorMQ3
import Derived.Test.YtjohgagiccndpaaGreatDoorMPJ
import Derived.Test.YtjohgagiccndpaaGreatDoorMQ6
import Derived.ProofKit
import Derived.OpenShut
import Derived.ChangeOld
import Derived.Below
import Derived.SizedLaws
import Derived.Deep.SlicePairs
import Derived.Deep.Grids
/-
  An act of law17's plays to both disks (do).
-/
namespace Go.Proofs.YtjohgagiccndpaaGreatDoor
open Go.RowKit
set_option linter.unusedVariables false
set_option linter.unusedSimpArgs false

/-- An act. -/
structure WK where
  kind : Int
  k : Int
  epoch : Nat
  place : Int
  data : ByteArray
  ka : Option Addr
  kn : Nat
  kc : Nat
  K : List Bool

def WK.val (x : WK) : Value := .agg #[.int .i64 x.kind, .int .i64 x.k, .int .u64 (x.epoch : Int), .int .i64 x.place, .string x.data, .slice x.ka x.kn x.kc]

def DS.kact (S : DS) (N F C U : Int) (x : WK) : DS := if x.kind.tmod 5 = 0 then (capP N F C U S x.k x.epoch x.place).ds else if x.kind.tmod 5 = 1 then S else if x.kind.tmod 5 = 2 then (S.write x.place x.data).2 else if x.kind.tmod 5 = 3 then S.fuse x.k else (S.crash x.K).up.2

theorem kact_ok {S : DS} {M : Nat} (h : S.ok M) (N F C U : Int) (x : WK) (hx : x.k ≤ 9223372036854775807) : (S.kact N F C U x).ok (M + 4) := by
  unfold DS.kact
  split
  · exact capP_ok h _ _ _
  · split
    · exact h.mono (by omega)
    · split
      · exact (h.write _ _).mono (by omega)
      · split
        · exact (h.fuse _ hx).mono (by omega)
        · exact (h.crash _).up.mono (by omega)
theorem kact_sz {S : DS} (h : S.sz) (N F C U : Int) (x : WK) : (S.kact N F C U x).sz := by
  unfold DS.kact
  split
  · exact h.cap _ _ _ _ _ _ _
  · split
    · exact h
    · split
      · exact h.write _ _
      · split
        · exact h.fuse _
        · exact (h.crash _).up
theorem kact_len (S : DS) (N F C U : Int) (x : WK) : (S.kact N F C U x).L.length = S.L.length := by
  unfold DS.kact
  split
  · exact cap_len' _ _ _ _ _ _ _ _
  · split
    · rfl
    · split
      · exact write_len' _ _ _
      · split
        · rfl
        · exact (up_len' _).trans (appK_length _ _ _ _)

set_option maxRecDepth 20000 in
set_option maxHeartbeats 8000000 in
theorem kdo_any (B p q : Nat) (A : Nat → Prop) (S : DS) (N F C U : Int) (x : WK) (w : World) (h : Two w B p q A S) (hB : B ≤ w.heap.size) (M : Nat) (hok : S.ok M) (hM : M + 4 ≤ 1000000) (hz : S.sz) (hep : x.epoch < 18446744073709551616) (hK : Bl w x.ka x.kn x.K) (hKl : ∀ b off, x.ka = some ⟨b, off, none⟩ → 0 < x.kn → ¬ A b) :
    Calls Tryz.prog 38 #[.pointer (some ⟨p, 0, none⟩), .pointer (some ⟨q, 0, none⟩), geo N F C U, x.val] w fun e w' => e = .returned (.bool true) ∧ TP w B p q A (S.kact N F C U x) w' := by
  have hW : S.W.length ≤ 1000000 := by have := hok.few; have := hok.did; omega
  obtain ⟨v1, v2, u1, u2, hp, hq, hd, hA⟩ := h
  obtain ⟨kind, k, epoch, place, data, ka, kn, kc, K⟩ := x
  obtain ⟨r, hr⟩ : ∃ r, r = kind.tmod 5 := ⟨_, rfl⟩
  obtain ⟨T, hT⟩ : ∃ T, T = if r = 0 then (capP N F C U S k epoch place).ds else if r = 1 then S else if r = 2 then (S.write place data).2 else if r = 3 then S.fuse k else (S.crash K).up.2 := ⟨_, rfl⟩
  have hS : DS.kact S N F C U ⟨kind, k, epoch, place, data, ka, kn, kc, K⟩ = T := by rw [hT, hr]; rfl
  rw [hS]
  have HT := Lib.hid hT
  clear hT hS
  unfold WK.val geo
  dsimp only at hK hKl hep ⊢
  obtain ⟨w0, hw0⟩ : ∃ w0, w0 = (w.alloc (.cells #[.int .i64 N, .int .i64 F, .int .i64 C, .int .i64 U] 23)).alloc (.cells #[.int .i64 kind, .int .i64 k, .int .u64 epoch, .int .i64 place, .string data, .slice ka kn kc] 82) := ⟨_, rfl⟩
  have hal : Below w.heap.size w w0 := by rw [hw0]; exact ((Below.refl _ w).alloc (Nat.le_refl _) _).alloc (by simp) _
  have hs2 : w0.heap.size = w.heap.size + 2 := by rw [hw0]; simp
  have hg0 : w0.heap[w.heap.size]? = some (.cells #[.int .i64 N, .int .i64 F, .int .i64 C, .int .i64 U] 23 (0, 0)) := by rw [hw0]; exact (Below.heap_alloc _ _ _ (by simp)).trans (heap_alloc_new w _)
  have ha0 : w0.heap[w.heap.size + 1]? = some (.cells #[.int .i64 kind, .int .i64 k, .int .u64 epoch, .int .i64 place, .string data, .slice ka kn kc] 82 (0, 0)) := by
    have e := heap_alloc_new (w.alloc (.cells #[.int .i64 N, .int .i64 F, .int .i64 C, .int .i64 U] 23)) (.cells #[.int .i64 kind, .int .i64 k, .int .u64 epoch, .int .i64 place, .string data, .slice ka kn kc] 82)
    rw [World.size_alloc] at e
    rw [hw0]; exact e
  have hp0 := hp.below hal
  have hq0 := hq.below hal
  have hs0 : B ≤ w0.heap.size := Nat.le_trans hB hal.size
  have hnp : ∀ j, foot p v1 v2 j → j < w.heap.size := fun j hj => (hp.foot_low j hj).2
  have hnq : ∀ j, foot q u1 u2 j → j < w.heap.size := fun j hj => (hq.foot_low j hj).2
  have hcg : ∀ w' : World, w'.heap[w.heap.size]? = w0.heap[w.heap.size]? → w'.cell? ⟨w.heap.size, 0, none⟩ = some (.int .i64 N) ∧ w'.cell? ⟨w.heap.size, 1, none⟩ = some (.int .i64 F) ∧ w'.cell? ⟨w.heap.size, 2, none⟩ = some (.int .i64 C) ∧ w'.cell? ⟨w.heap.size, 3, none⟩ = some (.int .i64 U) := fun w' e => by
    have e := e.trans hg0
    refine ⟨?_, ?_, ?_, ?_⟩ <;> (rw [cell_of_blk e]; rfl)
  have hca : ∀ w' : World, w'.heap[w.heap.size + 1]? = w0.heap[w.heap.size + 1]? → w'.cell? ⟨w.heap.size + 1, 0, none⟩ = some (.int .i64 kind) ∧ w'.cell? ⟨w.heap.size + 1, 1, none⟩ = some (.int .i64 k) ∧ w'.cell? ⟨w.heap.size + 1, 2, none⟩ = some (.int .u64 epoch) ∧ w'.cell? ⟨w.heap.size + 1, 3, none⟩ = some (.int .i64 place) ∧ w'.cell? ⟨w.heap.size + 1, 4, none⟩ = some (.string data) ∧ w'.cell? ⟨w.heap.size + 1, 5, none⟩ = some (.slice ka kn kc) := fun w' e => by
    have e := e.trans ha0
    refine ⟨?_, ?_, ?_, ?_, ?_, ?_⟩ <;> (rw [cell_of_blk e]; rfl)
  have hpo : ∀ T w1 j, PP w0 B p v1 v2 T w1 → w.heap.size ≤ j → j < w0.heap.size → w1.heap[j]? = w0.heap[j]? := fun T w1 j h h1 h2 => h.old j h2 (fun hf => by have := hnp j hf; omega)
  have hro : ∀ T T' w1 w2 j, PP w0 B p v1 v2 T w1 → RP w1 B q u1 u2 T' w2 → w.heap.size ≤ j → j < w0.heap.size → w2.heap[j]? = w0.heap[j]? := fun T T' w1 w2 j h h3 h1 h2 => (h3.old j (Nat.lt_of_lt_of_le h2 h.size) (fun hf => by have := hnq j hf; omega)).trans (hpo T w1 j h h1 h2)
  have hfin : ∀ S' w1 w2, PP w0 B p v1 v2 S' w1 → RP w1 B q u1 u2 S' w2 → TP w B p q A S' w2 := fun S' w1 w2 h1 h2 => by
    obtain ⟨A', hT, hF, hl⟩ := two_after hq0 hp0 hd hA h1 h2
    exact ⟨A', hT, ⟨hF.os.trans hal.os, hF.tape.trans hal.tape, hF.output.trans hal.output, Nat.le_trans hal.size hF.size, fun k hk hn => (hF.block k (Nat.lt_of_lt_of_le hk hal.size) hn).trans (hal.block k hk)⟩, fun k hk => by
      rcases hl k hk with h | h
      · exact .inl h
      · have := hal.size; exact .inr (by omega)⟩
  have HFIN := Lib.hid hfin
  have HP := Lib.hid hp0
  have HQ := Lib.hid hq0
  have HD := Lib.hid hd
  have HPO := Lib.hid hpo
  have HRO := Lib.hid hro
  have HCG := Lib.hid hcg
  have HCA := Lib.hid hca
  have HS2 := Lib.hid hs2
  have HNQ := Lib.hid hnq
  have hsame : ∀ w', Below w0.heap.size w0 w' → TP w B p q A S w' := fun w' hb => TP.same ⟨v1, v2, u1, u2, hp, hq, hd, hA⟩ (hal.trans (hb.mono hal.size))
  have HSM := Lib.hid hsame
  have HK := Lib.hid (hK.below hal)
  have HKL := Lib.hid (fun b off e h0 hf => hKl b off e h0 ((hA b).2 hf))
  have HRR := Lib.hid hr
  have HSZ := Lib.hid hz
  have HOK := Lib.hid hok
  have HLT := Lib.hid (And.intro True.intro hep)
  have HWL := Lib.hid hW
  obtain ⟨c0, c1, c2, c3⟩ := hcg w0 rfl
  obtain ⟨d0, d1, d2, d3, d4, d5⟩ := hca w0 rfl
  clear hp hq hp0 hq0 hfin hsame hal hK hKl hnp hnq hpo hro hcg hca hs2 hg0 ha0 hz hok hep hW
  go_enter Tryz.func38, Tryz.ntmps38
  go_upto_region 5 with fail
  rw [← hw0, ← HRR.out]
  clear hw0
  by_cases r0 : r = 0
  · subst r0
    have ht : T = (capP N F C U S k epoch place).ds := HT.out.trans (by simp)
    have h1 := cappend_any B p v1 v2 S N F C U k epoch place w0 HP.out hs0 M HOK.out (by omega) HLT.out.2 (fun T x e => by rw [e]; exact HSZ.out.read x)
    have h2 := fun w' (hh : RD w' B q u1 u2 S) (hb : B ≤ w'.heap.size) => rcappend_any B q u1 u2 S N F C U k epoch place w' hh hb M HOK.out (by omega) HLT.out.2 HSZ.out.read
    obtain ⟨AR, hAR⟩ : ∃ r, r = capP N F C U S k epoch place := ⟨_, rfl⟩
    rw [← hAR] at ht h1
    simp only [← hAR] at h2
    obtain ⟨why, en, T1⟩ := AR
    dsimp only at ht
    subst ht
    unfold geo ApR.val En.val at h1 h2
    dsimp only at h1 h2
    have H1 := Lib.hid h1
    have H2 := Lib.hid h2
    clear h1 h2 hAR
    go_wp2_with fail
    refine H1.out.mono ?_
    rintro e w1 ⟨rfl, hpp⟩
    have HPP := Lib.hid hpp
    obtain ⟨W1, hW1⟩ : ∃ W1, W1 = w1.alloc (.cells #[.int .u64 (en.tag : Int), .int .u64 (en.epoch : Int), .int .i64 en.place, .string en.old] 55) := ⟨_, rfl⟩
    have hx1 := heap_alloc_new w1 (.cells #[.int .u64 (en.tag : Int), .int .u64 (en.epoch : Int), .int .i64 en.place, .string en.old] 55)
    rw [← hW1] at hx1
    have hbl1 : Below w1.heap.size w1 W1 := by rw [hW1]; exact (Below.refl _ _).alloc (Nat.le_refl _) _
    have hpp1 := pp_then hpp hbl1
    obtain ⟨c0, c1, c2, c3⟩ := HCG.out W1 (HPO.out _ _ _ hpp1 (Nat.le_refl _) (by have := HS2.out; omega))
    obtain ⟨d0, d1, d2, d3, d4, d5⟩ := HCA.out W1 (HPO.out _ _ _ hpp1 (by omega) (by have := HS2.out; omega))
    obtain ⟨bx, hbx⟩ : ∃ bx, bx = w1.heap.size := ⟨_, rfl⟩
    rw [← hbx] at hx1
    have hbq : ¬ foot q u1 u2 bx := fun hf => by have h1 := HNQ.out _ hf; have h2 := HPP.out.size; have h3 := HS2.out; omega
    have HX1 := Lib.hid hx1
    have HPP1 := Lib.hid hpp1
    have HBQ := Lib.hid hbq
    have HW1 := Lib.hid hW1
    have HBX := Lib.hid hbx
    have h3 := H2.out W1 (rd_after HQ.out HD.out hpp1) (Nat.le_trans hs0 hpp1.size)
    have H3 := Lib.hid h3
    clear hpp hx1 hbl1 hpp1 hbq hW1 hbx h3
    go_upto_region 7 with fail
    rw [← HW1.out, ← HBX.out]
    go_wp2_with fail
    refine H3.out.mono ?_
    rintro e w2 ⟨rfl, hrp⟩
    have hx2 := rp_box hrp HX1.out HBQ.out
    obtain ⟨W2, hW2⟩ : ∃ W2, W2 = w2.alloc (.cells #[.int .u64 (en.tag : Int), .int .u64 (en.epoch : Int), .int .i64 en.place, .string en.old] 55) := ⟨_, rfl⟩
    have hy2 := heap_alloc_new w2 (.cells #[.int .u64 (en.tag : Int), .int .u64 (en.epoch : Int), .int .i64 en.place, .string en.old] 55)
    rw [← hW2] at hy2
    have hbl2 : Below w2.heap.size w2 W2 := by rw [hW2]; exact (Below.refl _ _).alloc (Nat.le_refl _) _
    have hx3 := (hbl2.block _ (lt_of_block hx2)).trans hx2
    obtain ⟨by', hby⟩ : ∃ by', by' = w2.heap.size := ⟨_, rfl⟩
    rw [← hby] at hy2
    have x0 : W2.cell? ⟨bx, 0, none⟩ = some (.int .u64 (en.tag : Int)) := by rw [cell_of_blk hx3]; rfl
    have x1 : W2.cell? ⟨bx, 1, none⟩ = some (.int .u64 (en.epoch : Int)) := by rw [cell_of_blk hx3]; rfl
    have x2 : W2.cell? ⟨bx, 2, none⟩ = some (.int .i64 en.place) := by rw [cell_of_blk hx3]; rfl
    have x3 : W2.cell? ⟨bx, 3, none⟩ = some (.string en.old) := by rw [cell_of_blk hx3]; rfl
    have y0 : W2.cell? ⟨by', 0, none⟩ = some (.int .u64 (en.tag : Int)) := by rw [cell_of_blk hy2]; rfl
    have y1 : W2.cell? ⟨by', 1, none⟩ = some (.int .u64 (en.epoch : Int)) := by rw [cell_of_blk hy2]; rfl
    have y2 : W2.cell? ⟨by', 2, none⟩ = some (.int .i64 en.place) := by rw [cell_of_blk hy2]; rfl
    have y3 : W2.cell? ⟨by', 3, none⟩ = some (.string en.old) := by rw [cell_of_blk hy2]; rfl
    have HRES := Lib.hid (HFIN.out _ _ _ HPP1.out (rp_then hrp hbl2))
    have gE : ∀ op x y w, Sem.run Tryz.prog (eqGuard op 55 x y (.agg #[.int .u64 (en.tag : Int), .int .u64 (en.epoch : Int), .int .i64 en.place, .string en.old]) (.agg #[.int .u64 (en.tag : Int), .int .u64 (en.epoch : Int), .int .i64 en.place, .string en.old])) w = .ok () w := fun op x y w => guard_en op x y _ _ _ _ _ _ _ _ w
    have qE : ∀ w, (binOp .eql 55 (.agg #[.int .u64 (en.tag : Int), .int .u64 (en.epoch : Int), .int .i64 en.place, .string en.old]) (.agg #[.int .u64 (en.tag : Int), .int .u64 (en.epoch : Int), .int .i64 en.place, .string en.old])).run Tryz.prog w = .ok (.bool true) w := fun w => by rw [eql_en]; simp
    have HW2 := Lib.hid hW2
    have HBY := Lib.hid hby
    clear hrp hx2 hy2 hbl2 hx3 hW2 hby c0 c1 c2 c3 d0 d1 d2 d3 d4 d5 H1 H2 H3
    go_upto_region 8 with fail
    rw [← HW2.out, ← HBY.out]
    go_wp2
    go_ret
    exact ⟨rfl, HRES.out⟩
  by_cases r1 : r = 1
  · subst r1
    have ht : T = S := HT.out.trans (by simp)
    have h1 := cscan_any B p v1 v2 S N F C U epoch w0 HP.out M HOK.out (by omega) HSZ.out.read
    have h2 := fun w' (hb : Below w0.heap.size w0 w') => rcscan_any B q u1 u2 S N F C U epoch w' (HQ.out.below hb) M HOK.out (by omega) HLT.out.2 HSZ.out.read
    obtain ⟨SC, hSC⟩ : ∃ s, s = cscanP N F C U S epoch := ⟨_, rfl⟩
    rw [← hSC] at h1
    simp only [← hSC] at h2
    obtain ⟨sl, sc⟩ := SC
    unfold geo at h1 h2
    dsimp only at h1 h2
    have H1 := Lib.hid h1
    have H2 := Lib.hid h2
    have HTT := Lib.hid ht
    clear h1 h2 hSC ht
    go_wp2_with fail
    refine H1.out.mono ?_
    rintro e w1 ⟨⟨a1, n1, rfl, hes1, _⟩, hb1⟩
    obtain ⟨c0, c1, c2, c3⟩ := HCG.out w1 (hb1.block _ (by have := HS2.out; omega))
    obtain ⟨d0, d1, d2, d3, d4, d5⟩ := HCA.out w1 (hb1.block _ (by have := HS2.out; omega))
    have h3 := H2.out w1 hb1
    have H3 := Lib.hid h3
    have HB1 := Lib.hid hb1
    have HE1 := Lib.hid hes1
    clear h3 hb1 hes1 H1 H2
    go_wp2_with fail
    refine H3.out.mono ?_
    rintro e w2 ⟨⟨a2, n2, rfl, hes2, _⟩, hb2⟩
    have HB2 := Lib.hid (HB1.out.trans (hb2.mono HB1.out.size))
    have HX1 := Lib.hid (HE1.out.later hb2)
    have HX2 := Lib.hid hes2
    obtain ⟨d0, d1, d2, d3, d4, d5⟩ := HCA.out w2 (HB2.out.block _ (by have := HS2.out; omega))
    obtain ⟨FR, hFR⟩ : ∃ r, r = findE sl place := ⟨_, rfl⟩
    have h4 := cfind_any a1 sl.length n1 sl place w2 HX1.out
    have h5 := fun w' (hb : Below w2.heap.size w2 w') => rfind_prog a2 sl.length n2 sl place w' (HX2.out.later hb)
    rw [← hFR] at h4
    simp only [← hFR] at h5
    obtain ⟨f1, f2, hf⟩ : ∃ f1 f2, findV FR = .tuple #[.string f1, .bool f2] := by cases FR <;> exact ⟨_, _, rfl⟩
    rw [hf] at h4
    simp only [hf] at h5
    have H4 := Lib.hid h4
    have H5 := Lib.hid h5
    clear hb2 hes2 h4 h5 hFR hf H3 c0 c1 c2 c3 HE1
    go_wp2_with fail
    refine H4.out.mono ?_
    rintro e w3 ⟨rfl, hb3⟩
    have HB3 := Lib.hid (HB2.out.trans (hb3.mono HB2.out.size))
    have h6 := H5.out w3 hb3
    have H6 := Lib.hid h6
    have HY := Lib.hid hb3
    obtain ⟨d0, d1, d2, d3, d4, d5⟩ := HCA.out w3 (HB3.out.block _ (by have := HS2.out; omega))
    clear hb3 h6 H4 H5
    go_wp2_with fail
    refine H6.out.mono ?_
    rintro e w4 ⟨rfl, hb4⟩
    have HB4 := Lib.hid (HB3.out.trans (hb4.mono HB3.out.size))
    have HY4 := Lib.hid (HY.out.trans (hb4.mono HY.out.size))
    have h7 := fun w' (hb : Below w4.heap.size w4 w') => entries_same a1 a2 sl.length n1 n2 sl w' ((HX1.out.later HY4.out).later hb) ((HX2.out.later HY4.out).later hb)
    have H7 := Lib.hid h7
    clear hb4 h7 H6 d0 d1 d2 d3 d4 d5
    go_wp2_with fail
    refine (H7.out _ (by first | exact Below.refl _ _ | exact (Below.refl _ _).drew)).mono ?_
    rintro e w5 ⟨rfl, hb5⟩
    have HB5 := Lib.hid (HB4.out.trans (Below.mono (show Below w4.heap.size w4 w5 from ⟨hb5.os, hb5.tape, hb5.output, hb5.size, hb5.block⟩) HB4.out.size))
    clear hb5
    go_wp2
    go_ret
    exact ⟨rfl, by rw [HTT.out]; exact HSM.out _ HB5.out⟩
  by_cases r2 : r = 2
  · subst r2
    have ht : T = (S.write place data).2 := HT.out.trans (by simp)
    have hd0 : Below w0.heap.size w0 w0.drew := (Below.refl _ _).drew
    have h1 := write_any B p v1 v2 S place data w0.drew (HP.out.below hd0) hs0 M HOK.out (by omega)
    have h2 := fun w' (hh : RD w' B q u1 u2 S) (hb : B ≤ w'.heap.size) => rwrite_any B q u1 u2 S place data w' hh hb M HOK.out (by omega)
    rcases hw : S.write place data with ⟨E, T1⟩
    rw [hw] at ht h1
    simp only [hw] at h2
    dsimp only at ht h1
    subst ht
    have hq1 := fun w1 (h : PP w0.drew B p v1 v2 T w1) => rd_after (HQ.out.below hd0) HD.out h
    have hcw : ∀ w' : World, w'.heap[w.heap.size + 1]? = w0.heap[w.heap.size + 1]? → w'.cell? ⟨w.heap.size + 1, 3, none⟩ = some (.int .i64 place) ∧ w'.cell? ⟨w.heap.size + 1, 4, none⟩ = some (.string data) := fun w' e => by
      obtain ⟨e0, e1, e2, e3, e4, e5⟩ := HCA.out w' e
      exact ⟨e3, e4⟩
    have hkp : ∀ w', PP w0.drew B p v1 v2 T w' → w'.cell? ⟨w.heap.size + 1, 3, none⟩ = some (.int .i64 place) ∧ w'.cell? ⟨w.heap.size + 1, 4, none⟩ = some (.string data) := fun w1 h => hcw w1 (HPO.out _ _ _ (pp_undrew h) (by omega) (by have := HS2.out; omega))
    have hkr : ∀ w1 w', PP w0.drew B p v1 v2 T w1 → RP w1 B q u1 u2 T w' → w'.cell? ⟨w.heap.size + 1, 3, none⟩ = some (.int .i64 place) ∧ w'.cell? ⟨w.heap.size + 1, 4, none⟩ = some (.string data) := fun w1 w2 h h2 => hcw w2 (HRO.out _ _ _ _ _ (pp_undrew h) h2 (by omega) (by have := HS2.out; omega))
    have H1 := Lib.hid h1
    have H2 := Lib.hid h2
    have HQ1 := Lib.hid hq1
    have HKP := Lib.hid hkp
    have HKR := Lib.hid hkr
    have HST := Lib.hid (And.intro d3 d4)
    clear h1 h2 hq1 hkp hkr hcw hw hd0 c0 c1 c2 c3 d1 d2 d5
    go_wp2_with fail
    go_region_held3 (fun w' : World => w'.cell? ⟨w.heap.size + 1, 3, none⟩ = some (.int .i64 place) ∧ w'.cell? ⟨w.heap.size + 1, 4, none⟩ = some (.string data)) (first | exact HST.out | exact HKP.out _ hpp | exact HKR.out _ _ hpp hrp)
      (first
      | (go_at_call 27; refine H1.out.mono ?_; rintro e w1 ⟨rfl, hpp⟩)
      | (go_at_call 47; refine (H2.out w1 (HQ1.out w1 hpp) (Nat.le_trans hs0 (pp_fr hpp).size)).mono ?_; rintro e w2 ⟨rfl, hrp⟩))
    all_goals (
      rename_i hHeld
      clear hHeld
      go_wp2
      go_ret
      exact ⟨rfl, HFIN.out _ _ _ (pp_undrew hpp) hrp⟩)
  by_cases r3 : r = 3
  · subst r3
    have ht : T = S.fuse k := HT.out.trans (by simp)
    subst ht
    have h1 := fuse_any B p v1 v2 S k w0 HP.out
    have H1 := Lib.hid h1
    clear h1 c0 c1 c2 c3 d2 d3 d4 d5
    go_wp2_with fail
    refine H1.out.mono ?_
    rintro e w1 ⟨rfl, hpp⟩
    obtain ⟨d0, d1, d2, d3, d4, d5⟩ := HCA.out w1 (HPO.out _ _ _ hpp (by omega) (by have := HS2.out; omega))
    have h3 := rfuse_any B q u1 u2 S k w1 (rd_after HQ.out HD.out hpp)
    have H3 := Lib.hid h3
    have HPP := Lib.hid hpp
    clear h3 hpp d2 d3 d4 d5
    go_wp2_with fail
    refine H3.out.mono ?_
    rintro e w2 ⟨rfl, hrp⟩
    have HRP := Lib.hid hrp
    clear hrp
    go_wp2
    go_ret
    exact ⟨rfl, HFIN.out _ _ _ HPP.out HRP.out⟩
  have ht : T = (S.crash K).up.2 := HT.out.trans (by simp [r0, r1, r2, r3])
  have t0 : (r == 0) = false := by simpa using r0
  have t1 : (r == 1) = false := by simpa using r1
  have t2 : (r == 2) = false := by simpa using r2
  have t3 : (r == 3) = false := by simpa using r3
  have h1 := crash_any B p v1 v2 S ka kn kc K w0 HP.out hs0 M HOK.out (by omega) HK.out (fun b off e h0 hf => HKL.out b off e h0 (.inl hf))
  have H1 := Lib.hid h1
  have HTT := Lib.hid ht
  clear h1 ht c0 c1 c2 c3 d1 d2 d3 d4 r0 r1 r2 r3
  go_wp2_with fail
  refine H1.out.mono ?_
  rintro e w1 ⟨rfl, hpp⟩
  obtain ⟨d0, d1, d2, d3, d4, d5⟩ := HCA.out w1 (HPO.out _ _ _ hpp (by omega) (by have := HS2.out; omega))
  have h3 := rcrash_any B q u1 u2 S ka kn kc K w1 (rd_after HQ.out HD.out hpp) (Nat.le_trans hs0 (pp_fr hpp).size) M HOK.out (by omega) (HK.out.fr (pp_fr hpp) (fun b off e h0 hf => HKL.out b off e h0 (.inl hf))) (fun b off e h0 hf => HKL.out b off e h0 (.inr hf))
  have H3 := Lib.hid h3
  have HPP := Lib.hid hpp
  clear h3 hpp d1 d2 d3 d4
  go_wp2_with fail
  refine H3.out.mono ?_
  rintro e w2 ⟨rfl, hrp⟩
  have htp := HFIN.out _ _ _ HPP.out hrp
  have HTP := Lib.hid htp
  obtain ⟨A', ⟨x1, x2, y1, y2, hp', hq', hd', hA'⟩, hF, hl⟩ := htp
  have HP' := Lib.hid hp'
  have HQ' := Lib.hid hq'
  have HD' := Lib.hid hd'
  have HA' := Lib.hid hA'
  have HFL := Lib.hid (And.intro hF hl)
  have h4 := up_any B p x1 x2 (S.crash K) w2 hp'
  have h5 := fun w' (hh : RD w' B q y1 y2 (S.crash K)) => rup_any B q y1 y2 (S.crash K) w' hh
  rcases hw : (S.crash K).up with ⟨E, T1⟩
  rw [hw] at h4
  simp only [hw] at h5
  have H4 := Lib.hid h4
  have H5 := Lib.hid h5
  have HW := Lib.hid hw
  clear hrp hp' hq' hd' hA' hF hl h4 h5 hw d0 d5
  go_wp2_with fail
  refine H4.out.mono ?_
  rintro e w3 ⟨rfl, hpp⟩
  have h6 := H5.out w3 (rd_after HQ'.out HD'.out hpp)
  have H6 := Lib.hid h6
  have HPP2 := Lib.hid hpp
  clear h6 hpp
  go_wp2_with fail
  refine H6.out.mono ?_
  rintro e w4 ⟨rfl, hrp⟩
  have hres : TP w B p q A T w4 := by
    have e : T = T1 := by rw [HTT.out, HW.out]
    rw [e]
    have h7 := two_after HQ'.out HP'.out HD'.out HA'.out HPP2.out hrp
    exact tp_join HFL.out h7
  have HRES := Lib.hid hres
  clear hrp hres
  go_wp2
  go_ret
  exact ⟨rfl, HRES.out⟩

end Go.Proofs.YtjohgagiccndpaaGreatDoor
/-
  The walk of CowPlays.
-/
namespace Go.Proofs.YtjohgagiccndpaaGreatDoor
open Go.RowKit
set_option linter.unusedVariables false
set_option linter.unusedSimpArgs false

/-- The slice value reads as acts, all below B. -/
structure WActs (w : World) (a : Option Addr) (n B : Nat) (X : Nat → WK) : Prop where
  big : n ≤ 9223372036854775807
  at0 : 0 < n → ∃ b off, a = some ⟨b, off, none⟩ ∧ b < B ∧ ∀ i, i < n → w.cell? ⟨b, off + i * 6, none⟩ = some (.int .i64 (X i).kind) ∧ w.cell? ⟨b, off + i * 6 + 1, none⟩ = some (.int .i64 (X i).k) ∧ w.cell? ⟨b, off + i * 6 + 2, none⟩ = some (.int .u64 ((X i).epoch : Int)) ∧ w.cell? ⟨b, off + i * 6 + 3, none⟩ = some (.int .i64 (X i).place) ∧ w.cell? ⟨b, off + i * 6 + 4, none⟩ = some (.string (X i).data) ∧ w.cell? ⟨b, off + i * 6 + 5, none⟩ = some (.slice (X i).ka (X i).kn (X i).kc)
  keep : ∀ i, i < n → Bl w (X i).ka (X i).kn (X i).K
  klow : ∀ i, i < n → ∀ b off, (X i).ka = some ⟨b, off, none⟩ → 0 < (X i).kn → b < B
  high : ∀ i, i < n → (X i).k ≤ 9223372036854775807 ∧ (X i).epoch < 18446744073709551616

theorem WActs.below {w w' : World} {a n B X} (h : WActs w a n B X) (hb : Below B w w') : WActs w' a n B X where
  big := h.big
  at0 := fun h0 => by
    obtain ⟨b, off, e, hl, hc⟩ := h.at0 h0
    refine ⟨b, off, e, hl, fun i hi => ?_⟩
    obtain ⟨d0, d1, d2, d3, d4, d5⟩ := hc i hi
    exact ⟨(hb.cell (by exact hl)).trans d0, (hb.cell (by exact hl)).trans d1, (hb.cell (by exact hl)).trans d2, (hb.cell (by exact hl)).trans d3, (hb.cell (by exact hl)).trans d4, (hb.cell (by exact hl)).trans d5⟩
  keep := fun i hi => (h.keep i hi).kept hb.size fun b off e h0 => hb.block b (h.klow i hi b off e h0)
  klow := h.klow
  high := h.high

set_option maxRecDepth 20000 in
set_option maxHeartbeats 8000000 in
theorem cplays_walk (N F C U n : Int) (a : Option Addr) (l c : Nat) (X : Nat → WK) (w : World) (hA : WActs w a l w.heap.size X) (hlc : l ≤ c) (hcm : c ≤ maxLen) :
    Calls Tryz.prog 6 #[geo N F C U, .int .i64 n, .slice a l c] w fun e w' => e = .returned (.bool true) ∧ Below w.heap.size w w' := by
  have hcx : (c : Int) ≤ 9223372036854775807 := by unfold maxLen at hcm; omega
  have hlx : (l : Int) ≤ (c : Int) := by omega
  have HKN := Lib.hid (fun w1 (hb : Below w.heap.size w w1) => (known17_any w1).mono (R' := fun e w' => e = .returned (.bool true) ∧ Below w.heap.size w w') (fun e w' h => ⟨h.1, hb.trans (h.2.mono hb.size)⟩))
  obtain ⟨W, hW⟩ : ∃ W, W = w.alloc (.cells #[.int .i64 N, .int .i64 F, .int .i64 C, .int .i64 U] 23) := ⟨_, rfl⟩
  have hs0 : W.heap.size = w.heap.size + 1 := by rw [hW]; exact World.size_alloc _ _
  have hb0 : Below w.heap.size w W := by rw [hW]; exact (Below.refl _ w).alloc (Nat.le_refl _) _
  have hgc : ∀ w', Below W.heap.size W w' → w'.cell? ⟨w.heap.size, 0, none⟩ = some (.int .i64 N) ∧ w'.cell? ⟨w.heap.size, 1, none⟩ = some (.int .i64 F) ∧ w'.cell? ⟨w.heap.size, 2, none⟩ = some (.int .i64 C) ∧ w'.cell? ⟨w.heap.size, 3, none⟩ = some (.int .i64 U) := fun w' hb => by
    have := gb_cells w N F C U w' (by unfold gbox; rw [← hW, ← hs0]; exact hb)
    exact this
  have HA := Lib.hid (hA.below hb0)
  have HGC := Lib.hid hgc
  have HB0 := Lib.hid hb0
  have HW := Lib.hid hW
  have HS0 := Lib.hid hs0
  clear hA hgc hb0 hW hs0
  unfold geo
  by_cases h1 : n < 1
  · go_enter Tryz.func6, Tryz.ntmps6
    go_wp2_with fail
    rw [← HW.out]
    refine (HKN.out _ HB0.out).mono ?_
    rintro e w1 ⟨rfl, hb⟩
    go_wp2
    go_ret
    exact ⟨rfl, hb⟩
  by_cases h2 : 120 < n
  · go_enter Tryz.func6, Tryz.ntmps6
    go_wp2_with fail
    rw [← HW.out]
    refine (HKN.out _ HB0.out).mono ?_
    rintro e w1 ⟨rfl, hb⟩
    go_wp2
    go_ret
    exact ⟨rfl, hb⟩
  by_cases h3 : (40 : Int) < (l : Int)
  · go_enter Tryz.func6, Tryz.ntmps6
    go_wp2_with fail
    rw [← HW.out]
    refine (HKN.out _ HB0.out).mono ?_
    rintro e w1 ⟨rfl, hb⟩
    go_wp2
    go_ret
    exact ⟨rfl, hb⟩
  obtain ⟨m, rfl⟩ : ∃ m : Nat, n = (m : Int) := ⟨n.toNat, by omega⟩
  have hm1 : 1 ≤ m := by omega
  have hm2 : m ≤ 120 := by omega
  have hl40 : l ≤ 40 := by omega
  have HN1 := Lib.hid (dnew_any m W hm1 (by omega))
  go_enter Tryz.func6, Tryz.ntmps6
  go_upto_region 3 with fail
  rw [← HW.out]
  clear h1 h2 h3
  go_wp2_with fail
  refine HN1.out.mono ?_
  rintro e w1 ⟨p, v1, rfl, hp, hb1⟩
  have HP := Lib.hid hp
  have HB1 := Lib.hid hb1
  have HN2 := Lib.hid (rnew_any m w1 hm1 (by omega))
  clear hp hb1
  go_wp2_with fail
  refine HN2.out.mono ?_
  rintro e w2 ⟨q, u1, rfl, hq, hb2⟩
  obtain ⟨A0, hT0, _⟩ := two_new HP.out hq hb2 HB1.out.size
  have HT0 := Lib.hid hT0
  have HB2 := Lib.hid (HB1.out.trans (hb2.mono HB1.out.size))
  clear hq hb2 hT0
  go_wp2
  go_loopw [11] (fun i wr => ∃ (k : Nat) (A : Nat → Prop) (S : DS), k ≤ l ∧ i = .int .i64 k ∧ Two wr W.heap.size p q A S ∧ S.ok (4 * k) ∧ S.sz ∧ S.L.length = m ∧ Below W.heap.size W wr) (fun i _ => l - (intOf i).toNat)
  case atStart => exact ⟨0, A0, ds0 m, by omega, rfl, HT0.out, ds0_ok m (by omega), ds0_sz m, by simp [ds0], HB2.out⟩
  case round =>
    obtain ⟨k, A, S, hk, rfl, hT, hok, hsz, hlm, hB⟩ := hrel
    have hwk : ∀ w', Below W.heap.size W w' → Below w.heap.size w w' := fun w' hb => HB0.out.trans (hb.mono HB0.out.size)
    by_cases hlt : k < l
    · have i0 : (0 : Int) ≤ (k : Int) := by omega
      have i1 : (k : Int) < (l : Int) := by omega
      have wr1 : IntKind.i64.wrap ((k : Int) + 1) = (k : Int) + 1 := IntWalk.i64_in _ (by omega)
      have hbm := hB.mono HB0.out.size
      have hAw := HA.out.below hbm
      obtain ⟨b, off, rfl, hbl, hcl⟩ := hAw.at0 (by omega)
      obtain ⟨d0, d1, d2, d3, d4, d5⟩ := hcl k hlt
      obtain ⟨c0, c1, c2, c3⟩ := HGC.out wr hB
      have hd0 : Below wr.heap.size wr wr.drew := (Below.refl _ _).drew
      have hdo := kdo_any W.heap.size p q A S N F C U (X k) wr.drew (hT.below hd0) hB.size (4 * k) hok (by omega) hsz (hAw.high k hlt).2 ((hAw.keep k hlt).below hd0) (fun b' off' e h0 hf => by have h5 := hAw.klow k hlt b' off' e h0; have h6 := (hT.low _ hf).1; have h7 := HS0.out; omega)
      have hok2 := kact_ok hok N F C U (X k) (hAw.high k hlt).1
      have hsz2 := kact_sz hsz N F C U (X k)
      have hlm2 : (S.kact N F C U (X k)).L.length = m := (kact_len S N F C U (X k)).trans hlm
      have hkp : ∀ w', Below W.heap.size W w' → (w'.cell? ⟨w.heap.size, 0, none⟩ = some (.int .i64 N) ∧ w'.cell? ⟨w.heap.size, 1, none⟩ = some (.int .i64 F) ∧ w'.cell? ⟨w.heap.size, 2, none⟩ = some (.int .i64 C) ∧ w'.cell? ⟨w.heap.size, 3, none⟩ = some (.int .i64 U)) ∧ w'.cell? ⟨b, off + k * 6, none⟩ = some (.int .i64 (X k).kind) ∧ w'.cell? ⟨b, off + k * 6 + 1, none⟩ = some (.int .i64 (X k).k) ∧ w'.cell? ⟨b, off + k * 6 + 2, none⟩ = some (.int .u64 ((X k).epoch : Int)) ∧ w'.cell? ⟨b, off + k * 6 + 3, none⟩ = some (.int .i64 (X k).place) ∧ w'.cell? ⟨b, off + k * 6 + 4, none⟩ = some (.string (X k).data) ∧ w'.cell? ⟨b, off + k * 6 + 5, none⟩ = some (.slice (X k).ka (X k).kn (X k).kc) := fun w' hb => by
        obtain ⟨b2, off2, e2, hbl2, hcl2⟩ := (HA.out.below (hb.mono HB0.out.size)).at0 (by omega)
        simp only [Option.some.injEq, Addr.mk.injEq] at e2
        obtain ⟨rfl, rfl, _⟩ := e2
        exact ⟨HGC.out w' hb, hcl2 k hlt⟩
      have HTT := Lib.hid (hT.below hd0)
      have HBB := Lib.hid hB
      have HOK := Lib.hid (And.intro hok2 (And.intro hsz2 hlm2))
      have HWK := Lib.hid hwk
      unfold WK.val geo at hdo
      have HDO := Lib.hid hdo
      have HKP := Lib.hid hkp
      clear hcl hAw hT hok hB hok2 hdo hlm hsz hsz2 hlm2 hbm hwk hkp hd0
      generalize S.kact N F C U (X k) = S' at HDO HOK
      generalize (X k).kind = x0 at *
      generalize (X k).k = x1 at *
      generalize ((X k).epoch : Int) = x3 at *
      generalize (X k).place = x4 at *
      generalize (X k).data = x5 at *
      generalize (X k).ka = x6 at *
      generalize (X k).kn = x7 at *
      generalize (X k).kc = x8 at *
      by_cases h200 : (200 : Int) < (x5.size : Int)
      · go_wp2_with fail
        refine (HKN.out _ (HWK.out _ HBB.out)).mono ?_
        rintro e w3 ⟨rfl, hb3⟩
        go_wp2
        go_ret
        exact ⟨rfl, hb3⟩
      go_wp2_with fail
      go_region_held3 (fun w' : World => (w'.cell? ⟨w.heap.size, 0, none⟩ = some (.int .i64 N) ∧ w'.cell? ⟨w.heap.size, 1, none⟩ = some (.int .i64 F) ∧ w'.cell? ⟨w.heap.size, 2, none⟩ = some (.int .i64 C) ∧ w'.cell? ⟨w.heap.size, 3, none⟩ = some (.int .i64 U)) ∧ w'.cell? ⟨b, off + k * 6, none⟩ = some (.int .i64 x0) ∧ w'.cell? ⟨b, off + k * 6 + 1, none⟩ = some (.int .i64 x1) ∧ w'.cell? ⟨b, off + k * 6 + 2, none⟩ = some (.int .u64 x3) ∧ w'.cell? ⟨b, off + k * 6 + 3, none⟩ = some (.int .i64 x4) ∧ w'.cell? ⟨b, off + k * 6 + 4, none⟩ = some (.string x5) ∧ w'.cell? ⟨b, off + k * 6 + 5, none⟩ = some (.slice x6 x7 x8)) (first | exact HKP.out wr HBB.out | exact HKP.out _ HBB.out.drew | exact HKP.out _ hb3)
        (first | (go_at_call 38; refine HDO.out.mono ?_; rintro e w3 ⟨rfl, htp⟩; have hb3 := TP.below htp HTT.out HBB.out.drew))
      all_goals (
        rename_i hHeld
        clear hHeld
        obtain ⟨A', hT', _, _⟩ := htp
        have HT' := Lib.hid hT'
        have HB3 := Lib.hid hb3
        clear hT' hb3
        go_wp2
        go_roundw
        case rel => exact ⟨k + 1, A', S', by omega, by first | rfl | go_num, HT'.out, HOK.out.1, HOK.out.2.1, HOK.out.2.2, HB3.out⟩
        case measure => simp [intOf]; omega)
    · have i1 : ¬ (k : Int) < (l : Int) := by omega
      have HT' := Lib.hid hT
      have HB' := Lib.hid hB
      have HOK := Lib.hid hok
      have HLM := Lib.hid hlm
      have HWK := Lib.hid hwk
      clear hT hB hok hlm hsz hwk
      go_wp2
      go_loopw [12] (fun i wq => ∃ j : Nat, j ≤ m ∧ i = .int .i64 j ∧ wq = wr) (fun i _ => m - (intOf i).toNat)
      case atStart => exact ⟨0, by omega, rfl, rfl⟩
      case round =>
        obtain ⟨j, hj, rfl, hwq⟩ := hrel
        subst hwq
        obtain ⟨v1, v2, u1, u2, hp, hq, hd, hA'⟩ := HT'.out
        have hqo := hq.own1
        obtain ⟨a', c', rfl, hle', hcm', hg'⟩ := owns_shape1 hqo
        obtain ⟨a2, cc2, rfl, _, _, _⟩ := owns_shape1 hq.own2
        have hmx : (c' : Int) ≤ 9223372036854775807 := by unfold maxLen at hcm'; omega
        have hlc' : (S.L.length : Int) ≤ (c' : Int) := by omega
        by_cases hjl : j < m
        · have j0 : (0 : Int) ≤ (j : Int) := by omega
          have j1 : (j : Int) < (m : Int) := by omega
          have hjS : j < S.L.length := by have := HLM.out; omega
          have j2 : (j : Int) < (S.L.length : Int) := by omega
          have wr1 : IntKind.i64.wrap ((j : Int) + 1) = (j : Int) + 1 := IntWalk.i64_in _ (by omega)
          obtain ⟨g, rfl, hgo, _, _⟩ := hg' (by omega)
          have h1 := kept_any W.heap.size p v1 v2 S j _ hp (by have := HLM.out; omega)
          have hkk : S.kept (j : Int) = (lAt S.L j, 0) := by unfold DS.kept; rw [if_pos (has_of_lt hjS)]; rfl
          have h5 := owns_cell hqo hgo j _ (strs_at hjS)
          obtain ⟨e0, e1, e2, e3, e4, hg⟩ := hq.cells
          rw [hkk] at h1
          obtain ⟨s0, hs0⟩ : ∃ s, s = lAt S.L j := ⟨_, rfl⟩
          rw [← hs0] at h1 h5
          unfold two at h1
          have H1 := Lib.hid h1
          clear h1 hkk hs0 hp hq hd hA' e1 e2 e3 e4 hg hqo
          go_wp2_with fail
          refine H1.out.mono ?_
          rintro e w3 ⟨rfl, hw3⟩; obtain rfl := hw3.symm; clear hw3
          go_wp2
          go_roundw
          case rel => exact ⟨j + 1, by omega, by go_num, by first | rfl | trivial⟩
          case measure => simp [intOf]; omega
        · obtain rfl : j = m := by omega
          clear hjl hj
          have j1 : ¬ ((j : Nat) : Int) < (j : Int) := by omega
          have hbd : Below wr.heap.size wr wr.drew := (Below.refl _ _).drew
          have hpd := hp.below hbd
          have hqd := hq.below hbd
          obtain ⟨fu, e, c0, c1, c2, c3, c4, c5, hf⟩ := hpd.cells
          obtain ⟨d0, d1, d2, d3, d4, hg⟩ := hqd.cells
          have hWl : S.W.length ≤ 1000000 := by have := HOK.out.few; have := HOK.out.did; omega
          have h3 := done_any p _ wr.drew c5
          have h4 := waits_any W.heap.size p _ v2 S wr.drew hpd hWl
          have h5 : ∀ w4 v', w4.ownsRow wr.drew.heap.size 98 2 v' S.W.length (puts S.W) → Below wr.drew.heap.size wr.drew w4 → Calls Tryz.prog 14 #[v', .slice a2 S.W.length cc2] w4 fun e w' => e = .returned (.bool true) ∧ Below w4.heap.size w4 w' := fun w4 v' ho hb =>
            rputs_same v' (.slice a2 S.W.length cc2) S.W w4 (Wr.of_owns ho hWl) (Wr.of_owns (hqd.below hb).own2 hWl)
          have hkp : ∀ w4, Below wr.drew.heap.size wr.drew w4 → w4.cell? ⟨q, 1, none⟩ = some (.slice a2 S.W.length cc2) ∧ w4.cell? ⟨q, 4, none⟩ = some (.int .i64 (S.did : Int)) := fun w4 hb =>
            ⟨(hb.cell (p := ⟨q, 1, none⟩) hqd.lt).trans d1, (hb.cell (p := ⟨q, 4, none⟩) hqd.lt).trans d4⟩
          have hst : wr.drew.cell? ⟨q, 1, none⟩ = some (.slice a2 S.W.length cc2) ∧ wr.drew.cell? ⟨q, 4, none⟩ = some (.int .i64 (S.did : Int)) := hkp _ (Below.refl _ _)
          have h6 := fun w5 (hb : Below wr.drew.heap.size wr.drew w5) => (known17_any w5).mono (R' := fun e w' => e = .returned (.bool true) ∧ Below wr.drew.heap.size wr.drew w') (fun e w' h => ⟨h.1, hb.trans (h.2.mono hb.size)⟩)
          have H3 := Lib.hid h3
          have H4 := Lib.hid h4
          have H5 := Lib.hid h5
          have H6 := Lib.hid h6
          have HKP := Lib.hid hkp
          have HST := Lib.hid hst
          have HBD := Lib.hid (HB'.out.drew)
          clear h3 h4 h5 h6 hkp hst hp hq hpd hqd c0 c1 c2 c3 c4 c5 hf d0 d1 d2 d3 d4 hg e hbd hqo hd hA' hg'
          obtain ⟨dd, hdd⟩ : ∃ b, b = (S.did : Int) := ⟨_, rfl⟩
          rw [← hdd] at H3 HKP HST
          clear hdd
          go_wp2_with fail
          go_region_held3 (fun w' : World => w'.cell? ⟨q, 1, none⟩ = some (.slice a2 S.W.length cc2) ∧ w'.cell? ⟨q, 4, none⟩ = some (.int .i64 dd))
            (first | exact HST.out | exact HKP.out _ hb4 | exact HKP.out _ hb5 | exact HKP.out _ hb6)
            (first
            | (go_at_call 13; refine H3.out.mono ?_; rintro r w' ⟨rfl, rfl⟩)
            | (go_at_call 15; refine H4.out.mono ?_; rintro r w4 ⟨vw, rfl, how4, hb4⟩)
            | (go_at_call 14; refine (H5.out w4 vw how4 hb4).mono ?_; rintro r w5 ⟨rfl, hb45⟩; have hb5 := hb4.trans (hb45.mono hb4.size))
            | (go_at_call 37; refine (H6.out _ hb5).mono ?_; rintro r w6 ⟨rfl, hb6⟩))
          all_goals (
            rename_i hHeld
            clear hHeld
            have HFIN := Lib.hid (HWK.out _ (HBD.out.trans (hb6.mono HBD.out.size)))
            clear hb6
            go_wp2
            go_ret
            exact ⟨rfl, HFIN.out⟩)
end Go.Proofs.YtjohgagiccndpaaGreatDoor
/-
  A list of acts of CowPlays that came in, opened.
-/
namespace Go.Proofs.YtjohgagiccndpaaGreatDoor
open Go.RowKit Go.ChangeShapes Go.WideShapes Go.ChangeAt
set_option linter.unusedVariables false
set_option linter.unusedSimpArgs false

instance : Inhabited WK := ⟨⟨0, 0, 0, 0, ⟨#[]⟩, none, 0, 0, []⟩⟩
theorem cbl_of_bools {W : World} {a : Addr} {len cap : Nat} {F : Nat → Bool} (hl : len ≤ cap) (hm : cap ≤ maxLen) (hc : ∀ i, i < cap → W.cell? (a.add i) = some (.bool (F i))) :
    Bl W (some a) len ((List.range len).map F) ∧ ∀ b off, some a = some (⟨b, off, none⟩ : Addr) → 0 < len → b < W.heap.size := by
  have hz : 0 < len → a.spot = none := fun h0 => by
    have := hc 0 (by omega)
    simpa [Addr.add] using World.cell?_spot this
  have hlt : 0 < len → a.block < W.heap.size := fun h0 => by
    have := World.block_lt_of_cell? W _ (hc 0 (by omega))
    rwa [add_block] at this
  refine ⟨⟨by simp, by unfold maxLen at hm; omega, fun h0 => ?_⟩, fun b off e h0 => by cases e; exact hlt h0⟩
  obtain ⟨b, off, sp⟩ := a
  obtain rfl : sp = none := hz h0
  refine ⟨b, off, rfl, hlt h0, fun i hi => ?_⟩
  have := hc i (by omega)
  rw [Addr.add_none] at this
  rw [this]
  simp [hi]

/-- The list of acts as it came in. -/
def Openeda17 (W : World) (a : Option Addr) (len cap : Nat) : Prop := ∃ X, WActs W a len W.heap.size X ∧ len ≤ cap ∧ cap ≤ maxLen

set_option maxHeartbeats 1000000 in
set_option maxRecDepth 100000 in
theorem acts_open17 {H : Type} {enc : TypeId × Value → H} {W : World} {fuel : Nat} {cs : List Value} {x : DataW H × List MemPlace} (hf : DataW.trod enc Tryz.prog W 0 (fun _ => true) true fuel 80 cs = some x) {a : Option Addr} {len cap : Nat} (hcs : cs = [.slice a len cap]) : Openeda17 W a len cap := by
  have he := Tryz.underlying82
  have ce : Tryz.prog.cellsOf 82 = 6 := by kernel_rfl
  have c3 : Tryz.prog.cellsOf 3 = 1 := by kernel_rfl
  have c9 : Tryz.prog.cellsOf 9 = 1 := by kernel_rfl
  have cu : Tryz.prog.cellsOf 33 = 1 := by kernel_rfl
  have cb : Tryz.prog.cellsOf 34 = 1 := by kernel_rfl
  rcases Go.Deep.open_slice Tryz.underlying80 hf with ⟨hn, _⟩ | ⟨ad, l, c, m, n, D, Pl, hn, _, hl, hm, hmm, _, hx⟩
  · rw [hcs] at hn
    simp at hn
    obtain ⟨rfl, rfl, rfl⟩ := hn
    exact ⟨fun _ => ⟨0, 0, 0, 0, ⟨#[]⟩, none, 0, 0, []⟩, ⟨by omega, fun h => by omega, fun i h => by omega, fun i h => by omega, fun i h => by omega⟩, by omega, by unfold maxLen; omega⟩
  · rw [hcs] at hn
    simp at hn
    obtain ⟨rfl, rfl, rfl⟩ := hn
    simp only [if_true] at hmm
    have hmm' := hmm.symm
    subst hmm'
    rw [ce] at hx
    have each : ∀ i, i < cap → ∃ y : WK, (W.cell? (ad.add (i * 6)) = some (.int .i64 y.kind) ∧ W.cell? (ad.add (i * 6 + 1)) = some (.int .i64 y.k) ∧ W.cell? (ad.add (i * 6 + 2)) = some (.int .u64 (y.epoch : Int)) ∧ W.cell? (ad.add (i * 6 + 3)) = some (.int .i64 y.place) ∧ W.cell? (ad.add (i * 6 + 4)) = some (.string y.data) ∧ W.cell? (ad.add (i * 6 + 5)) = some (.slice y.ka y.kn y.kc)) ∧ Bl W y.ka y.kn y.K ∧ (∀ b off, y.ka = some ⟨b, off, none⟩ → 0 < y.kn → b < W.heap.size) ∧ y.k ≤ 9223372036854775807 ∧ y.epoch < 18446744073709551616 := by
      intro i hi
      obtain ⟨cs', h1, h2⟩ := hx i hi
      obtain ⟨_, hlen, hcell⟩ := World.cells?_some h1
      obtain ⟨xs, k, _, _, _, hxl, hf⟩ := DataW.trod_struct he h2
      match xs, hxl, cs', hlen with
      | [y0, y1, y2, y3, y4, y5], _, [u0, u1, u2, u3, u4, u5], _ =>
        have g0 := hf 0 _ rfl
        have g1 := hf 1 _ rfl
        have g2 := hf 2 _ rfl
        have g3 := hf 3 _ rfl
        have g4 := hf 4 _ rfl
        have g5 := hf 5 _ rfl
        simp [c3, c9, cu, cb] at g0 g1 g2 g3 g4 g5
        have e0 := hcell 0 (by omega)
        have e1 := hcell 1 (by omega)
        have e2 := hcell 2 (by omega)
        have e3 := hcell 3 (by omega)
        have e4 := hcell 4 (by omega)
        have e5 := hcell 5 (by omega)
        rw [Go.Deep.add_add] at e0 e1 e2 e3 e4 e5
        obtain ⟨n0, q0, _, w0⟩ := DataW.trod_int Tryz.underlying3 g0
        obtain ⟨n1, q1, _, w1⟩ := DataW.trod_int Tryz.underlying3 g1
        obtain ⟨n2, q2, _, w2⟩ := DataW.trod_int Tryz.underlying33 g2
        obtain ⟨n3, q3, _, w3⟩ := DataW.trod_int Tryz.underlying3 g3
        obtain ⟨s4, q4, _⟩ := DataW.trod_string Tryz.underlying9 g4
        simp at q0 q1 q2 q3 q4
        have hw1 : n1 ≤ 9223372036854775807 := by
          simp [Lit.wf, IntKind.max, IntKind.min, IntKind.signed, IntKind.bits] at w1
          omega
        have hw2 : 0 ≤ n2 ∧ n2 < 18446744073709551616 := by
          have m0 : IntKind.u64.min = 0 := rfl
          have m1 : IntKind.u64.max = 18446744073709551615 := rfl
          simp [Lit.wf] at w2
          omega
        obtain ⟨z2, rfl⟩ : ∃ k : Nat, n2 = k := ⟨n2.toNat, by omega⟩
        rcases Go.Deep.open_bools Tryz.underlying34 Tryz.underlying4 (by kernel_rfl) g5 with ⟨q5, _⟩ | ⟨a3, l3, c3', F, q5, _, hl3, hm3, _, hc3⟩
        · simp at q5
          exact ⟨⟨n0, n1, z2, n3, s4, none, 0, 0, []⟩, ⟨by simpa [q0] using e0, by simpa [q1] using e1, by simpa [q2] using e2, by simpa [q3] using e3, by simpa [q4] using e4, by simpa [q5] using e5⟩, ⟨rfl, Nat.zero_le _, fun h => by simp at h⟩, fun b off h => by simp at h, hw1, by show z2 < _; omega⟩
        · simp at q5
          obtain ⟨hb1, hb2⟩ := cbl_of_bools hl3 hm3 hc3
          exact ⟨⟨n0, n1, z2, n3, s4, some a3, l3, c3', (List.range l3).map F⟩, ⟨by simpa [q0] using e0, by simpa [q1] using e1, by simpa [q2] using e2, by simpa [q3] using e3, by simpa [q4] using e4, by simpa [q5] using e5⟩, hb1, hb2, hw1, by show z2 < _; omega⟩
    obtain ⟨X, hX⟩ := Go.Deep.choose_lt each
    refine ⟨X, ⟨by unfold maxLen at hm; omega, fun h0 => ?_, fun i hi => (hX i (by omega)).2.1, fun i hi => (hX i (by omega)).2.2.1, fun i hi => (hX i (by omega)).2.2.2⟩, hl, hm⟩
    obtain ⟨b, off, sp⟩ := ad
    obtain rfl : sp = none := by
      have := (hX 0 (by omega)).1.1
      simpa [Addr.add] using World.cell?_spot this
    have hb := World.block_lt_of_cell? W _ (hX 0 (by omega)).1.1
    rw [Addr.add_none] at hb
    refine ⟨b, off, rfl, hb, fun i hi => ?_⟩
    obtain ⟨⟨h0, h1, h2, h3, h4, h5⟩, _⟩ := hX i (by omega)
    simp only [Addr.add_none, ← Nat.add_assoc] at h0 h1 h2 h3 h4 h5
    exact ⟨h0, h1, h2, h3, h4, h5⟩

theorem cowplays_any (N F C U n : Int) (a : Option Addr) (l c : Nat) (X : Nat → WK) (w : World) (h : WActs w a l w.heap.size X ∧ l ≤ c ∧ c ≤ maxLen) :
    Calls Tryz.prog 6 #[geo N F C U, .int .i64 n, .slice a l c] w fun e w' => e = .returned (.bool true) ∧ Below w.heap.size w w' := cplays_walk N F C U n a l c X w h.1 h.2.1 h.2.2

end Go.Proofs.YtjohgagiccndpaaGreatDoor

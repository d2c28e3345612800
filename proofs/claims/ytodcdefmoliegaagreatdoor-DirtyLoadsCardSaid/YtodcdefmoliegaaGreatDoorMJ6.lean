/-
  Texts put together: J6.
-/
import Derived.Test.YtodcdefmoliegaaGreatDoorMJ5
import Derived.Test.YtodcdefmoliegaaGreatDoorMID
import Derived.Deep.DeepCutAuto
/-
  A map out of its body: the contract of decode.
-/
namespace Go.Proofs.YtodcdefmoliegaaGreatDoor
open Go.RowKit
set_option linter.unusedVariables false
set_option linter.unusedSimpArgs false

theorem Box5.set23 {W p t a b c d e} (h : Box5 W p t a b c d e) (c' d' : Value) : Box5 ((W.setCell ⟨p, 2, none⟩ c').setCell ⟨p, 3, none⟩ d') p t a b c' d' e :=
  blk_setCell (i := 3) (blk_setCell (i := 2) h)
theorem Box5.set4 {W p t a b c d e} (h : Box5 W p t a b c d e) (e' : Value) : Box5 (W.setCell ⟨p, 4, none⟩ e') p t a b c d e' := blk_setCell (i := 4) h
theorem Box5.other {W p t a b c d e} (h : Box5 W p t a b c d e) {q : Nat} (i : Nat) (hne : p ≠ q) (v : Value) : Box5 (W.setCell ⟨q, i, none⟩ v) p t a b c d e :=
  (show (W.setCell ⟨q, i, none⟩ v).heap[p]? = W.heap[p]? by simp [World.setCell, Array.getElem?_modify]; intro e; exact absurd e.symm hne).trans h

/-- A body's five numbers. -/
def dA (xs : List UInt8) : Nat := numN ((xs.take 16).take 8)
def dB (xs : List UInt8) : Nat := numN ((xs.take 16).drop 8)
def dC (xs : List UInt8) : Nat := numN (((xs.take 32).drop 16).take 8)
def dD (xs : List UInt8) : Nat := numN (((xs.take 32).drop 16).drop 8)
def dE (xs : List UInt8) : Nat := numN ((xs.drop 32).take 8)
def decV (xs : List UInt8) : Value := mapV (dA xs) (dB xs) (dC xs) (dD xs) (dE xs)

theorem from_ok (xs : List UInt8) (h : xs.length = 16) (w : World) :
    Calls Tryz.prog 54 #[strV xs] w fun e w' => e = .returned (.tuple #[setV (numN (xs.take 8)) (numN (xs.drop 8)), .int .i64 0]) ∧ Below w.heap.size w w' := by
  have := from_any ⟨xs.toArray⟩ w
  rw [show (⟨xs.toArray⟩ : ByteArray).data.toList = xs from rfl] at this
  have hv : fromV xs = .tuple #[setV (numN (xs.take 8)) (numN (xs.drop 8)), .int .i64 0] := by
    unfold fromV fromP
    rw [if_pos h]; rfl
  rw [hv] at this
  exact this

set_option maxRecDepth 20000 in
set_option maxHeartbeats 4000000 in
theorem decode_any (xs : List UInt8) (w : World) (hl : xs.length = 40) :
    Calls Tryz.prog 34 #[strV xs] w fun x w' => x = .returned (decV xs) ∧ Below w.heap.size w w' := by
  have h1 := fun w => from_ok (xs.take 16) (by rw [List.length_take]; omega) w
  have h2 := fun w => from_ok ((xs.take 32).drop 16) (by rw [List.length_drop, List.length_take]; omega) w
  have s1 := fun w => cut_to xs 16 (by omega) w
  have s2 := fun w => cut_both xs 16 32 (by omega) (by omega) w
  have hcv := fun w => cv_str xs (by omega) w
  have hget := fun a n c w (h : Rd w a n c xs) (h3 : 32 + 8 ≤ n) => get_ok a n c xs 32 8 w h (by omega) (by omega) h3
  unfold decV mapV
  rw [show numN ((xs.take 16).take 8) = dA xs from rfl, show numN ((xs.take 16).drop 8) = dB xs from rfl] at h1
  rw [show numN (((xs.take 32).drop 16).take 8) = dC xs from rfl, show numN (((xs.take 32).drop 16).drop 8) = dD xs from rfl] at h2
  rw [show numN ((xs.drop 32).take 8) = dE xs from rfl] at hget
  generalize dA xs = a at *
  generalize dB xs = b at *
  generalize dC xs = c at *
  generalize dD xs = d at *
  generalize dE xs = e at *
  obtain ⟨V1, hV1⟩ : ∃ V, strV (xs.take 16) = V := ⟨_, rfl⟩
  obtain ⟨V2, hV2⟩ : ∃ V, strV ((xs.take 32).drop 16) = V := ⟨_, rfl⟩
  obtain ⟨V, hV⟩ : ∃ V, strV xs = V := ⟨_, rfl⟩
  rw [hV1] at h1 s1
  rw [hV2] at h2 s2
  rw [hV] at s1 s2 hcv ⊢
  simp only [show ((16 : Nat) : Int) = 16 from rfl, show ((32 : Nat) : Int) = 32 from rfl, show ((8 : Nat) : Int) = 8 from rfl] at s1 s2 hget
  unfold setV at h1 h2
  have bR := (Box5.new w 41 (.int .u64 0) (.int .u64 0) (.int .u64 0) (.int .u64 0) (.int .u64 0)).alloc (.cells #[.int .u64 0, .int .u64 0, .int .u64 0, .int .u64 0, .int .u64 0] 41)
  have bM := Box5.new (w.alloc (.cells #[.int .u64 0, .int .u64 0, .int .u64 0, .int .u64 0, .int .u64 0] 41)) 41 (.int .u64 0) (.int .u64 0) (.int .u64 0) (.int .u64 0) (.int .u64 0)
  have hB0 := below2 w (.cells #[.int .u64 0, .int .u64 0, .int .u64 0, .int .u64 0, .int .u64 0] 41) (.cells #[.int .u64 0, .int .u64 0, .int .u64 0, .int .u64 0, .int .u64 0] 41)
  simp only [World.size_alloc] at bM
  have H1 := Lib.hid h1
  have H2 := Lib.hid h2
  have HCV := Lib.hid hcv
  have HG := Lib.hid hget
  have HL := Lib.hid hl
  have HR := Lib.hid bR
  have HM := Lib.hid bM
  have HB0 := Lib.hid hB0
  clear h1 h2 hcv hget hl hV1 hV2 hV bR bM hB0
  go_enter Tryz.func34, Tryz.ntmps34
  go_wp2_with fail
  refine (H1.out _).mono ?_
  rintro r w1 ⟨rfl, hb⟩
  have r1 := HR.out.below hb HR.out.lt
  have m1 := HM.out.below hb HM.out.lt
  have hB1 := HB0.out.trans (hb.mono HB0.out.size)
  have c0 := m1.c0
  have c1 := m1.c1
  have f0 := m1.fr 0
  have f1 := m1.fr 1
  have HR1 := Lib.hid ((r1.other (q := w.heap.size + 1) 0 (by omega) (.int .u64 (a : Int))).other (q := w.heap.size + 1) 1 (by omega) (.int .u64 (b : Int)))
  have HM1 := Lib.hid (m1.set01 (.int .u64 (a : Int)) (.int .u64 (b : Int)))
  have HB1 := Lib.hid (below_set (b := w.heap.size + 1) (i := 1) (v := .int .u64 (b : Int)) (below_set (b := w.heap.size + 1) (i := 0) (v := .int .u64 (a : Int)) hB1 (by omega)) (by omega))
  clear hb r1 m1 hB1 HR HM HB0 H1
  go_wp2_with fail
  generalize (w1.setCell ⟨w.heap.size + 1, 0, none⟩ (.int .u64 (a : Int))).setCell ⟨w.heap.size + 1, 1, none⟩ (.int .u64 (b : Int)) = W1 at *
  clear c0 c1 f0 f1
  refine (H2.out _).mono ?_
  rintro r w2 ⟨rfl, hb⟩
  have r1 := HR1.out.below hb HR1.out.lt
  have m1 := HM1.out.below hb HM1.out.lt
  have hB1 := HB1.out.trans (hb.mono HB1.out.size)
  have c0 := m1.c2
  have c1 := m1.c3
  have f0 := m1.fr 2
  have f1 := m1.fr 3
  have HR2 := Lib.hid ((r1.other (q := w.heap.size + 1) 2 (by omega) (.int .u64 (c : Int))).other (q := w.heap.size + 1) 3 (by omega) (.int .u64 (d : Int)))
  have HM2 := Lib.hid (m1.set23 (.int .u64 (c : Int)) (.int .u64 (d : Int)))
  have HB2 := Lib.hid (below_set (b := w.heap.size + 1) (i := 3) (v := .int .u64 (d : Int)) (below_set (b := w.heap.size + 1) (i := 2) (v := .int .u64 (c : Int)) hB1 (by omega)) (by omega))
  obtain ⟨W2, hW2⟩ : ∃ W, W = (w2.setCell ⟨w.heap.size + 1, 2, none⟩ (.int .u64 (c : Int))).setCell ⟨w.heap.size + 1, 3, none⟩ (.int .u64 (d : Int)) := ⟨_, rfl⟩
  obtain ⟨cc, w3, hcv, hrd, hb3⟩ := HCV.out W2
  rw [← hW2] at HR2 HM2 HB2
  have HR3 := Lib.hid (HR2.out.below hb3 HR2.out.lt)
  have HM3 := Lib.hid (HM2.out.below hb3 HM2.out.lt)
  have HB3 := Lib.hid (HB2.out.trans (hb3.mono HB2.out.size))
  obtain ⟨g, hg⟩ : ∃ g, g = W2.heap.size := ⟨_, rfl⟩
  rw [← hg] at hcv hrd
  have hgt := HG.out _ _ _ w3 hrd (by have := HL.out; omega)
  have HGT := Lib.hid hgt
  have HC2 := Lib.hid hcv
  have HW2 := Lib.hid hW2
  clear hb r1 m1 hB1 HR1 HM1 HB1 H2 hb3 HR2 HM2 HB2 hg hrd hgt hcv hW2
  go_upto_region 4 with fail
  rw [← HW2.out]
  have hcv := HC2.out
  go_wp2_with fail
  refine HGT.out.mono ?_
  rintro r w4 ⟨rfl, rfl⟩
  clear hcv HC2 HGT HG HCV c0 c1 f0 f1
  have c4 := HM3.out.c4
  have f4 := HM3.out.fr 4
  have m5 := HM3.out.set4 (.int .u64 (e : Int))
  have r5 := HR3.out.other (q := w.heap.size + 1) 4 (by omega) (.int .u64 (e : Int))
  have hB5 := below_set (b := w.heap.size + 1) (i := 4) (v := .int .u64 (e : Int)) HB3.out (by omega)
  go_upto_region 5 with fail
  generalize w3.setCell ⟨w.heap.size + 1, 4, none⟩ (.int .u64 (e : Int)) = W4 at *
  have d0 := m5.c0
  have d1 := m5.c1
  have d2 := m5.c2
  have d3 := m5.c3
  have d4 := m5.c4
  have e0 := r5.c0
  have e1 := r5.c1
  have e2 := r5.c2
  have e3 := r5.c3
  have e4 := r5.c4
  have g0 := r5.fr 0
  have g1 := r5.fr 1
  have g2 := r5.fr 2
  have g3 := r5.fr 3
  have g4 := r5.fr 4
  have b6 := r5.set (.int .u64 (a : Int)) (.int .u64 (b : Int)) (.int .u64 (c : Int)) (.int .u64 (d : Int)) (.int .u64 (e : Int))
  have hfin := below5 (p := w.heap.size) (a := .int .u64 (a : Int)) (b := .int .u64 (b : Int)) (c := .int .u64 (c : Int)) (d := .int .u64 (d : Int)) (e := .int .u64 (e : Int)) hB5 (Nat.le_refl _)
  have HF := Lib.hid hfin
  have H6 := Lib.hid b6
  clear m5 r5 hB5 c4 f4 HM3 HR3 HB3 HW2 hfin b6
  go_wp2
  have b6 := H6.out
  refine bodyPost_ret (by simp [results, Tryz.f34, go_sem, b6.c0, b6.c1, b6.c2, b6.c3, b6.c4]; try rfl) rfl ?_
  exact ⟨rfl, HF.out⟩
end Go.Proofs.YtodcdefmoliegaaGreatDoor

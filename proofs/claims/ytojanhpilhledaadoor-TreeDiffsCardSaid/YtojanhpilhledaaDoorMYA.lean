/-
  Texts put together: YA.
-/
import Derived.Test.YtojanhpilhledaaDoorMY9
import Derived.Test.YtojanhpilhledaaDoorMY6
/-
  The walk of TreeDiffs.
-/
namespace Go.Proofs.YtojanhpilhledaaDoor
open Go.RowKit
set_option linter.unusedVariables false
set_option linter.unusedSimpArgs false

/-- What a comparison gives. -/
def DRes (n i : Int) (xs : List Int) (w : World) (e : Ending) (w' : World) : Prop :=
  ∃ sv, e = .returned (.tuple #[sv, .int .i64 n, .int .i64 i]) ∧ Li w' sv xs ∧ Below w.heap.size w w'
theorem GT.lower {ty : TypeId} {w : World} {B p : Nat} {v : Value} {N F C U : Int} {L : List ByteArray} (h : GT ty w B p v N F C U L) : GT ty w 0 p v N F C U L := ⟨h.blk, Nat.zero_le _, towns_low h.own (Nat.zero_le _), h.ne⟩
theorem two_boxes {w wr : World} {N F C U N2 F2 C2 U2 : Int} (h : Below ((w.alloc (gbox N F C U)).alloc (gbox N2 F2 C2 U2)).heap.size ((w.alloc (gbox N F C U)).alloc (gbox N2 F2 C2 U2)) wr) :
    wr.cell? ⟨w.heap.size, 0, none⟩ = some (.int .i64 N) ∧ wr.cell? ⟨w.heap.size, 1, none⟩ = some (.int .i64 F) ∧ wr.cell? ⟨w.heap.size, 2, none⟩ = some (.int .i64 C) ∧ wr.cell? ⟨w.heap.size, 3, none⟩ = some (.int .i64 U) ∧
    wr.cell? ⟨w.heap.size + 1, 0, none⟩ = some (.int .i64 N2) ∧ wr.cell? ⟨w.heap.size + 1, 1, none⟩ = some (.int .i64 F2) ∧ wr.cell? ⟨w.heap.size + 1, 2, none⟩ = some (.int .i64 C2) ∧ wr.cell? ⟨w.heap.size + 1, 3, none⟩ = some (.int .i64 U2) := by
  have hs : (w.alloc (gbox N F C U)).heap.size = w.heap.size + 1 := World.size_alloc _ _
  have h2 := gbox_cells (w := w.alloc (gbox N F C U)) (N := N2) (F := F2) (C := C2) (U := U2) (wr := wr) (by rw [World.size_alloc] at h; exact h)
  rw [hs] at h2
  have h1 := gbox_cells (w := w) (N := N) (F := F) (C := C) (U := U) (wr := wr) (((Below.refl _ _).alloc (by rw [hs]; exact Nat.le_refl _) _).trans (h.mono (by simp)))
  exact ⟨h1.1, h1.2.1, h1.2.2.1, h1.2.2.2, h2⟩
theorem ints_same (va vb : Value) (xs : List Int) (w : World) (ha : Li w va xs) (hb : Li w vb xs) : Calls Tryd.prog 28 #[va, vb] w fun e w' => e = .returned (.bool true) ∧ Below w.heap.size w w' := by
  have := ints_any va vb xs xs w ha hb
  rw [decide_eq_true rfl] at this
  exact this.mono fun e w' h => ⟨h.1, h.2.below⟩

set_option maxRecDepth 20000 in
set_option maxHeartbeats 2000000 in
theorem tdiffs_far (N F C U N2 F2 C2 U2 : Int) (a : Option Addr) (l cap : Nat) (Ks : List ByteArray) (a2 : Option Addr) (l2 cap2 : Nat) (Ls : List ByteArray) (w : World) (hP : Rs w a l cap Ks) (hQ : Rs w a2 l2 cap2 Ls) (hK : Kon w) (hx : 30 < N) :
    Calls Tryd.prog 6 #[geo N F C U, geo N2 F2 C2 U2, .slice a l cap, .slice a2 l2 cap2] w fun e w' => e = .returned (.bool true) ∧ Below w.heap.size w w' := by
  have hb0 := ((Below.refl w.heap.size w).alloc (Nat.le_refl _) (gbox N F C U)).alloc (by simp) (gbox N2 F2 C2 U2)
  have hs1 := fun w => small_any N F C U w
  have hs2 := fun w => small_any N2 F2 C2 U2 w
  have hkn := fun w' (hb : Below w.heap.size w w') => tknown_any w' (hK.below hb)
  have hgc := fun wr => two_boxes (w := w) (wr := wr) (N := N) (F := F) (C := C) (U := U) (N2 := N2) (F2 := F2) (C2 := C2) (U2 := U2)
  have hcx : (cap : Int) ≤ 9223372036854775807 := by have := hP.cm; unfold maxLen at this; omega
  have hcx2 : (cap2 : Int) ≤ 9223372036854775807 := by have := hQ.cm; unfold maxLen at this; omega
  simp only [show decide (N ≤ 30) = false from decide_eq_false (by omega)] at hs1
  unfold geo at *
  obtain ⟨w1, hw1⟩ : ∃ w1, w1 = (w.alloc (gbox N F C U)).alloc (gbox N2 F2 C2 U2) := ⟨_, rfl⟩
  rw [← hw1] at hb0
  simp only [← hw1] at hgc
  have HS1 := Lib.hid hs1
  have HS2 := Lib.hid hs2
  have HKN := Lib.hid hkn
  have HGC := Lib.hid hgc
  have HB0 := Lib.hid hb0
  have HW0 := Lib.hid hw1
  clear hs1 hs2 hkn hgc hb0 hw1 hK hP hQ
  unfold gbox at HW0
  go_enter Tryd.func6, Tryd.ntmps6
  go_wp2_with fail
  rw [← HW0.out]
  obtain ⟨g0, g1, g2, g3, g4, g5, g6, g7⟩ := HGC.out _ (Below.refl _ _)
  go_wp2_with fail
  refine (HS1.out _).mono ?_
  rintro e w2 ⟨rfl, hb⟩
  have HB2 := Lib.hid (HB0.out.trans (hb.mono HB0.out.size))
  have HC2 := Lib.hid hb
  clear hb HS1 HB0 g0 g1 g2 g3 g4 g5 g6 g7
  go_wp2_with fail
  refine (HKN.out _ HB2.out).mono ?_
  rintro e w99 ⟨rfl, hb⟩
  have HBB := Lib.hid (HB2.out.trans (hb.mono HB2.out.size))
  clear hb
  go_wp2
  go_ret
  exact ⟨rfl, HBB.out⟩

set_option maxRecDepth 20000 in
set_option maxHeartbeats 2000000 in
theorem tdiffs_far2 (N F C U N2 F2 C2 U2 : Int) (a : Option Addr) (l cap : Nat) (Ks : List ByteArray) (a2 : Option Addr) (l2 cap2 : Nat) (Ls : List ByteArray) (w : World) (hP : Rs w a l cap Ks) (hQ : Rs w a2 l2 cap2 Ls) (hK : Kon w) (hN : N ≤ 30) (hx : 30 < N2) :
    Calls Tryd.prog 6 #[geo N F C U, geo N2 F2 C2 U2, .slice a l cap, .slice a2 l2 cap2] w fun e w' => e = .returned (.bool true) ∧ Below w.heap.size w w' := by
  have hb0 := ((Below.refl w.heap.size w).alloc (Nat.le_refl _) (gbox N F C U)).alloc (by simp) (gbox N2 F2 C2 U2)
  have hs1 := fun w => small_any N F C U w
  have hs2 := fun w => small_any N2 F2 C2 U2 w
  have hkn := fun w' (hb : Below w.heap.size w w') => tknown_any w' (hK.below hb)
  have hgc := fun wr => two_boxes (w := w) (wr := wr) (N := N) (F := F) (C := C) (U := U) (N2 := N2) (F2 := F2) (C2 := C2) (U2 := U2)
  have hcx : (cap : Int) ≤ 9223372036854775807 := by have := hP.cm; unfold maxLen at this; omega
  have hcx2 : (cap2 : Int) ≤ 9223372036854775807 := by have := hQ.cm; unfold maxLen at this; omega
  simp only [show decide (N ≤ 30) = true from decide_eq_true hN] at hs1
  simp only [show decide (N2 ≤ 30) = false from decide_eq_false (by omega)] at hs2
  unfold geo at *
  obtain ⟨w1, hw1⟩ : ∃ w1, w1 = (w.alloc (gbox N F C U)).alloc (gbox N2 F2 C2 U2) := ⟨_, rfl⟩
  rw [← hw1] at hb0
  simp only [← hw1] at hgc
  have HS1 := Lib.hid hs1
  have HS2 := Lib.hid hs2
  have HKN := Lib.hid hkn
  have HGC := Lib.hid hgc
  have HB0 := Lib.hid hb0
  have HW0 := Lib.hid hw1
  clear hs1 hs2 hkn hgc hb0 hw1 hK hP hQ
  unfold gbox at HW0
  go_enter Tryd.func6, Tryd.ntmps6
  go_wp2_with fail
  rw [← HW0.out]
  obtain ⟨g0, g1, g2, g3, g4, g5, g6, g7⟩ := HGC.out _ (Below.refl _ _)
  go_wp2_with fail
  refine (HS1.out _).mono ?_
  rintro e w2 ⟨rfl, hb⟩
  have HB2 := Lib.hid (HB0.out.trans (hb.mono HB0.out.size))
  have HC2 := Lib.hid hb
  clear hb HS1 HB0 g0 g1 g2 g3 g4 g5 g6 g7
  obtain ⟨g0, g1, g2, g3, g4, g5, g6, g7⟩ := HGC.out _ HC2.out
  go_wp2_with fail
  refine (HS2.out _).mono ?_
  rintro e w3 ⟨rfl, hb⟩
  have HB3 := Lib.hid (HB2.out.trans (hb.mono HB2.out.size))
  have HC3 := Lib.hid (HC2.out.trans (hb.mono HC2.out.size))
  clear hb HS2 HC2 g0 g1 g2 g3 g4 g5 g6 g7
  go_wp2_with fail
  refine (HKN.out _ HB3.out).mono ?_
  rintro e w99 ⟨rfl, hb⟩
  have HBB := Lib.hid (HB3.out.trans (hb.mono HB3.out.size))
  clear hb
  go_wp2
  go_ret
  exact ⟨rfl, HBB.out⟩

set_option maxRecDepth 20000 in
set_option maxHeartbeats 2000000 in
theorem tdiffs_long (N F C U N2 F2 C2 U2 : Int) (a : Option Addr) (l cap : Nat) (Ks : List ByteArray) (a2 : Option Addr) (l2 cap2 : Nat) (Ls : List ByteArray) (w : World) (hP : Rs w a l cap Ks) (hQ : Rs w a2 l2 cap2 Ls) (hK : Kon w) (hN : N ≤ 30) (hN2 : N2 ≤ 30) (hx : 80 < l) :
    Calls Tryd.prog 6 #[geo N F C U, geo N2 F2 C2 U2, .slice a l cap, .slice a2 l2 cap2] w fun e w' => e = .returned (.bool true) ∧ Below w.heap.size w w' := by
  have hb0 := ((Below.refl w.heap.size w).alloc (Nat.le_refl _) (gbox N F C U)).alloc (by simp) (gbox N2 F2 C2 U2)
  have hs1 := fun w => small_any N F C U w
  have hs2 := fun w => small_any N2 F2 C2 U2 w
  have hkn := fun w' (hb : Below w.heap.size w w') => tknown_any w' (hK.below hb)
  have hgc := fun wr => two_boxes (w := w) (wr := wr) (N := N) (F := F) (C := C) (U := U) (N2 := N2) (F2 := F2) (C2 := C2) (U2 := U2)
  have hcx : (cap : Int) ≤ 9223372036854775807 := by have := hP.cm; unfold maxLen at this; omega
  have hcx2 : (cap2 : Int) ≤ 9223372036854775807 := by have := hQ.cm; unfold maxLen at this; omega
  simp only [show decide (N ≤ 30) = true from decide_eq_true hN] at hs1
  simp only [show decide (N2 ≤ 30) = true from decide_eq_true hN2] at hs2
  have j1 : (80 : Int) < (l : Int) := by omega
  unfold geo at *
  obtain ⟨w1, hw1⟩ : ∃ w1, w1 = (w.alloc (gbox N F C U)).alloc (gbox N2 F2 C2 U2) := ⟨_, rfl⟩
  rw [← hw1] at hb0
  simp only [← hw1] at hgc
  have HS1 := Lib.hid hs1
  have HS2 := Lib.hid hs2
  have HKN := Lib.hid hkn
  have HGC := Lib.hid hgc
  have HB0 := Lib.hid hb0
  have HW0 := Lib.hid hw1
  clear hs1 hs2 hkn hgc hb0 hw1 hK hP hQ
  unfold gbox at HW0
  go_enter Tryd.func6, Tryd.ntmps6
  go_wp2_with fail
  rw [← HW0.out]
  obtain ⟨g0, g1, g2, g3, g4, g5, g6, g7⟩ := HGC.out _ (Below.refl _ _)
  go_wp2_with fail
  refine (HS1.out _).mono ?_
  rintro e w2 ⟨rfl, hb⟩
  have HB2 := Lib.hid (HB0.out.trans (hb.mono HB0.out.size))
  have HC2 := Lib.hid hb
  clear hb HS1 HB0 g0 g1 g2 g3 g4 g5 g6 g7
  obtain ⟨g0, g1, g2, g3, g4, g5, g6, g7⟩ := HGC.out _ HC2.out
  go_wp2_with fail
  refine (HS2.out _).mono ?_
  rintro e w3 ⟨rfl, hb⟩
  have HB3 := Lib.hid (HB2.out.trans (hb.mono HB2.out.size))
  have HC3 := Lib.hid (HC2.out.trans (hb.mono HC2.out.size))
  clear hb HS2 HC2 g0 g1 g2 g3 g4 g5 g6 g7
  go_wp2_with fail
  refine (HKN.out _ HB3.out).mono ?_
  rintro e w99 ⟨rfl, hb⟩
  have HBB := Lib.hid (HB3.out.trans (hb.mono HB3.out.size))
  clear hb
  go_wp2
  go_ret
  exact ⟨rfl, HBB.out⟩

set_option maxRecDepth 20000 in
set_option maxHeartbeats 2000000 in
theorem tdiffs_long2 (N F C U N2 F2 C2 U2 : Int) (a : Option Addr) (l cap : Nat) (Ks : List ByteArray) (a2 : Option Addr) (l2 cap2 : Nat) (Ls : List ByteArray) (w : World) (hP : Rs w a l cap Ks) (hQ : Rs w a2 l2 cap2 Ls) (hK : Kon w) (hN : N ≤ 30) (hN2 : N2 ≤ 30) (hl : l ≤ 80) (hx : 80 < l2) :
    Calls Tryd.prog 6 #[geo N F C U, geo N2 F2 C2 U2, .slice a l cap, .slice a2 l2 cap2] w fun e w' => e = .returned (.bool true) ∧ Below w.heap.size w w' := by
  have hb0 := ((Below.refl w.heap.size w).alloc (Nat.le_refl _) (gbox N F C U)).alloc (by simp) (gbox N2 F2 C2 U2)
  have hs1 := fun w => small_any N F C U w
  have hs2 := fun w => small_any N2 F2 C2 U2 w
  have hkn := fun w' (hb : Below w.heap.size w w') => tknown_any w' (hK.below hb)
  have hgc := fun wr => two_boxes (w := w) (wr := wr) (N := N) (F := F) (C := C) (U := U) (N2 := N2) (F2 := F2) (C2 := C2) (U2 := U2)
  have hcx : (cap : Int) ≤ 9223372036854775807 := by have := hP.cm; unfold maxLen at this; omega
  have hcx2 : (cap2 : Int) ≤ 9223372036854775807 := by have := hQ.cm; unfold maxLen at this; omega
  simp only [show decide (N ≤ 30) = true from decide_eq_true hN] at hs1
  simp only [show decide (N2 ≤ 30) = true from decide_eq_true hN2] at hs2
  have j1 : ¬ ((80 : Int) < (l : Int)) := by omega
  have j2 : (80 : Int) < (l2 : Int) := by omega
  unfold geo at *
  obtain ⟨w1, hw1⟩ : ∃ w1, w1 = (w.alloc (gbox N F C U)).alloc (gbox N2 F2 C2 U2) := ⟨_, rfl⟩
  rw [← hw1] at hb0
  simp only [← hw1] at hgc
  have HS1 := Lib.hid hs1
  have HS2 := Lib.hid hs2
  have HKN := Lib.hid hkn
  have HGC := Lib.hid hgc
  have HB0 := Lib.hid hb0
  have HW0 := Lib.hid hw1
  clear hs1 hs2 hkn hgc hb0 hw1 hK hP hQ
  unfold gbox at HW0
  go_enter Tryd.func6, Tryd.ntmps6
  go_wp2_with fail
  rw [← HW0.out]
  obtain ⟨g0, g1, g2, g3, g4, g5, g6, g7⟩ := HGC.out _ (Below.refl _ _)
  go_wp2_with fail
  refine (HS1.out _).mono ?_
  rintro e w2 ⟨rfl, hb⟩
  have HB2 := Lib.hid (HB0.out.trans (hb.mono HB0.out.size))
  have HC2 := Lib.hid hb
  clear hb HS1 HB0 g0 g1 g2 g3 g4 g5 g6 g7
  obtain ⟨g0, g1, g2, g3, g4, g5, g6, g7⟩ := HGC.out _ HC2.out
  go_wp2_with fail
  refine (HS2.out _).mono ?_
  rintro e w3 ⟨rfl, hb⟩
  have HB3 := Lib.hid (HB2.out.trans (hb.mono HB2.out.size))
  have HC3 := Lib.hid (HC2.out.trans (hb.mono HC2.out.size))
  clear hb HS2 HC2 g0 g1 g2 g3 g4 g5 g6 g7
  go_wp2_with fail
  refine (HKN.out _ HB3.out).mono ?_
  rintro e w99 ⟨rfl, hb⟩
  have HBB := Lib.hid (HB3.out.trans (hb.mono HB3.out.size))
  clear hb
  go_wp2
  go_ret
  exact ⟨rfl, HBB.out⟩

set_option maxRecDepth 20000 in
set_option maxHeartbeats 2000000 in
theorem tdiffs_00 (N F C U N2 F2 C2 U2 : Int) (a : Option Addr) (l cap : Nat) (Ks : List ByteArray) (a2 : Option Addr) (l2 cap2 : Nat) (Ls : List ByteArray) (w : World) (hP : Rs w a l cap Ks) (hQ : Rs w a2 l2 cap2 Ls) (hK : Kon w) (hN : N ≤ 30) (hN2 : N2 ≤ 30) (hl : l ≤ 80) (hx : l2 ≤ 80) (er1 er2 : Int) (h1 : er1 = fromErr N F C U Ks) (h2 : er2 = fromErr N2 F2 C2 U2 Ls) (he1 : er1 ≠ 0) (he2 : er2 ≠ 0) :
    Calls Tryd.prog 6 #[geo N F C U, geo N2 F2 C2 U2, .slice a l cap, .slice a2 l2 cap2] w fun e w' => e = .returned (.bool true) ∧ Below w.heap.size w w' := by
  have hb0 := ((Below.refl w.heap.size w).alloc (Nat.le_refl _) (gbox N F C U)).alloc (by simp) (gbox N2 F2 C2 U2)
  have hs1 := fun w => small_any N F C U w
  have hs2 := fun w => small_any N2 F2 C2 U2 w
  have hkn := fun w' (hb : Below w.heap.size w w') => tknown_any w' (hK.below hb)
  have hgc := fun wr => two_boxes (w := w) (wr := wr) (N := N) (F := F) (C := C) (U := U) (N2 := N2) (F2 := F2) (C2 := C2) (U2 := U2)
  have hcx : (cap : Int) ≤ 9223372036854775807 := by have := hP.cm; unfold maxLen at this; omega
  have hcx2 : (cap2 : Int) ≤ 9223372036854775807 := by have := hQ.cm; unfold maxLen at this; omega
  simp only [show decide (N ≤ 30) = true from decide_eq_true hN] at hs1
  simp only [show decide (N2 ≤ 30) = true from decide_eq_true hN2] at hs2
  have j1 : ¬ ((80 : Int) < (l : Int)) := by omega
  have j2 : ¬ ((80 : Int) < (l2 : Int)) := by omega
  have hf1 := fun w' (hb : Below w.heap.size w w') => tfrom_any N F C U a l cap Ks w' (hP.later hb)
  have hf2 := fun w' (hb : Below w.heap.size w w') => tfrom_any N2 F2 C2 U2 a2 l2 cap2 Ls w' (hQ.later hb)
  have hf3 := fun w' (hb : Below w.heap.size w w') => rfrom_any N F C U a l cap Ks w' (hP.later hb)
  have hf4 := fun w' (hb : Below w.heap.size w w') => rfrom_any N2 F2 C2 U2 a2 l2 cap2 Ls w' (hQ.later hb)
  simp only [← h1] at hf1 hf3
  simp only [← h2] at hf2 hf4
  replace hf1 := fun w' hb => pend_no (hf1 w' hb) he1
  replace hf2 := fun w' hb => pend_no (hf2 w' hb) he2
  replace hf3 := fun w' hb => tend_no (hf3 w' hb) he1
  replace hf4 := fun w' hb => tend_no (hf4 w' hb) he2
  have q1 : (er1 == 0) = false := by simpa using he1
  have q2 : (er1 != 0) = true := by simpa using he1
  have q3 : (er2 == 0) = false := by simpa using he2
  have q4 : (er2 != 0) = true := by simpa using he2
  unfold geo at *
  obtain ⟨w1, hw1⟩ : ∃ w1, w1 = (w.alloc (gbox N F C U)).alloc (gbox N2 F2 C2 U2) := ⟨_, rfl⟩
  rw [← hw1] at hb0
  simp only [← hw1] at hgc
  have HS1 := Lib.hid hs1
  have HS2 := Lib.hid hs2
  have HKN := Lib.hid hkn
  have HGC := Lib.hid hgc
  have HB0 := Lib.hid hb0
  have HW0 := Lib.hid hw1
  have HF1 := Lib.hid hf1
  have HF2 := Lib.hid hf2
  have HF3 := Lib.hid hf3
  have HF4 := Lib.hid hf4
  have HX1 := Lib.hid he1
  have HX2 := Lib.hid he2
  clear hf1 hf2 hf3 hf4 h1 h2 he1 he2
  clear hs1 hs2 hkn hgc hb0 hw1 hK hP hQ
  unfold gbox at HW0
  go_enter Tryd.func6, Tryd.ntmps6
  go_wp2_with fail
  rw [← HW0.out]
  obtain ⟨g0, g1, g2, g3, g4, g5, g6, g7⟩ := HGC.out _ (Below.refl _ _)
  go_wp2_with fail
  refine (HS1.out _).mono ?_
  rintro e w2 ⟨rfl, hb⟩
  have HB2 := Lib.hid (HB0.out.trans (hb.mono HB0.out.size))
  have HC2 := Lib.hid hb
  clear hb HS1 HB0 g0 g1 g2 g3 g4 g5 g6 g7
  obtain ⟨g0, g1, g2, g3, g4, g5, g6, g7⟩ := HGC.out _ HC2.out
  go_wp2_with fail
  refine (HS2.out _).mono ?_
  rintro e w3 ⟨rfl, hb⟩
  have HB3 := Lib.hid (HB2.out.trans (hb.mono HB2.out.size))
  have HC3 := Lib.hid (HC2.out.trans (hb.mono HC2.out.size))
  clear hb HS2 HC2 g0 g1 g2 g3 g4 g5 g6 g7
  obtain ⟨g0, g1, g2, g3, g4, g5, g6, g7⟩ := HGC.out _ HC3.out
  go_wp2_with fail
  refine (HF1.out _ HB3.out).mono ?_
  rintro e w4 ⟨rfl, hb⟩
  have HB4 := Lib.hid (HB3.out.trans (hb.mono HB3.out.size))
  have HC4 := Lib.hid (HC3.out.trans (hb.mono HC3.out.size))
  clear hb HF1 HC3 g0 g1 g2 g3 g4 g5 g6 g7
  obtain ⟨g0, g1, g2, g3, g4, g5, g6, g7⟩ := HGC.out _ HC4.out
  go_wp2_with fail
  refine (HF2.out _ HB4.out).mono ?_
  rintro e w5 ⟨rfl, hb⟩
  have HB5 := Lib.hid (HB4.out.trans (hb.mono HB4.out.size))
  have HC5 := Lib.hid (HC4.out.trans (hb.mono HC4.out.size))
  clear hb HF2 HC4 g0 g1 g2 g3 g4 g5 g6 g7
  obtain ⟨g0, g1, g2, g3, g4, g5, g6, g7⟩ := HGC.out _ HC5.out
  go_wp2_with fail
  refine (HF3.out _ HB5.out).mono ?_
  rintro e w6 ⟨rfl, hb⟩
  have HB6 := Lib.hid (HB5.out.trans (hb.mono HB5.out.size))
  have HC6 := Lib.hid (HC5.out.trans (hb.mono HC5.out.size))
  clear hb HF3 HC5 g0 g1 g2 g3 g4 g5 g6 g7
  obtain ⟨g0, g1, g2, g3, g4, g5, g6, g7⟩ := HGC.out _ HC6.out
  go_wp2_with fail
  refine (HF4.out _ HB6.out).mono ?_
  rintro e w7 ⟨rfl, hb⟩
  have HB7 := Lib.hid (HB6.out.trans (hb.mono HB6.out.size))
  have HC7 := Lib.hid (HC6.out.trans (hb.mono HC6.out.size))
  clear hb HF4 HC6 g0 g1 g2 g3 g4 g5 g6 g7
  go_wp2_with fail
  refine (tdiff_nil _ (.inl rfl) _).mono ?_
  rintro e w8 ⟨rfl, hb⟩
  have HB8 := Lib.hid (HB7.out.trans (hb.mono HB7.out.size))
  clear hb
  go_wp2_with fail
  refine (HKN.out _ HB8.out).mono ?_
  rintro e w99 ⟨rfl, hb⟩
  have HBB := Lib.hid (HB8.out.trans (hb.mono HB8.out.size))
  clear hb
  go_wp2
  go_ret
  exact ⟨rfl, HBB.out⟩

set_option maxRecDepth 20000 in
set_option maxHeartbeats 2000000 in
theorem tdiffs_01 (N F C U N2 F2 C2 U2 : Int) (a : Option Addr) (l cap : Nat) (Ks : List ByteArray) (a2 : Option Addr) (l2 cap2 : Nat) (Ls : List ByteArray) (w : World) (hP : Rs w a l cap Ks) (hQ : Rs w a2 l2 cap2 Ls) (hK : Kon w) (hN : N ≤ 30) (hN2 : N2 ≤ 30) (hl : l ≤ 80) (hx : l2 ≤ 80) (er1 er2 : Int) (h1 : er1 = fromErr N F C U Ks) (h2 : er2 = fromErr N2 F2 C2 U2 Ls) (he1 : er1 ≠ 0) (he2 : er2 = 0) :
    Calls Tryd.prog 6 #[geo N F C U, geo N2 F2 C2 U2, .slice a l cap, .slice a2 l2 cap2] w fun e w' => e = .returned (.bool true) ∧ Below w.heap.size w w' := by
  have hb0 := ((Below.refl w.heap.size w).alloc (Nat.le_refl _) (gbox N F C U)).alloc (by simp) (gbox N2 F2 C2 U2)
  have hs1 := fun w => small_any N F C U w
  have hs2 := fun w => small_any N2 F2 C2 U2 w
  have hkn := fun w' (hb : Below w.heap.size w w') => tknown_any w' (hK.below hb)
  have hgc := fun wr => two_boxes (w := w) (wr := wr) (N := N) (F := F) (C := C) (U := U) (N2 := N2) (F2 := F2) (C2 := C2) (U2 := U2)
  have hcx : (cap : Int) ≤ 9223372036854775807 := by have := hP.cm; unfold maxLen at this; omega
  have hcx2 : (cap2 : Int) ≤ 9223372036854775807 := by have := hQ.cm; unfold maxLen at this; omega
  simp only [show decide (N ≤ 30) = true from decide_eq_true hN] at hs1
  simp only [show decide (N2 ≤ 30) = true from decide_eq_true hN2] at hs2
  have j1 : ¬ ((80 : Int) < (l : Int)) := by omega
  have j2 : ¬ ((80 : Int) < (l2 : Int)) := by omega
  have hf1 := fun w' (hb : Below w.heap.size w w') => tfrom_any N F C U a l cap Ks w' (hP.later hb)
  have hf2 := fun w' (hb : Below w.heap.size w w') => tfrom_any N2 F2 C2 U2 a2 l2 cap2 Ls w' (hQ.later hb)
  have hf3 := fun w' (hb : Below w.heap.size w w') => rfrom_any N F C U a l cap Ks w' (hP.later hb)
  have hf4 := fun w' (hb : Below w.heap.size w w') => rfrom_any N2 F2 C2 U2 a2 l2 cap2 Ls w' (hQ.later hb)
  simp only [← h1] at hf1 hf3
  simp only [← h2] at hf2 hf4
  replace hf1 := fun w' hb => pend_no (hf1 w' hb) he1
  replace hf2 := fun w' hb => pend_ok (hf2 w' hb) he2
  replace hf3 := fun w' hb => tend_no (hf3 w' hb) he1
  replace hf4 := fun w' hb => tend_ok (hf4 w' hb) he2
  have q1 : (er1 == 0) = false := by simpa using he1
  have q2 : (er1 != 0) = true := by simpa using he1
  unfold geo at *
  obtain ⟨w1, hw1⟩ : ∃ w1, w1 = (w.alloc (gbox N F C U)).alloc (gbox N2 F2 C2 U2) := ⟨_, rfl⟩
  rw [← hw1] at hb0
  simp only [← hw1] at hgc
  have HS1 := Lib.hid hs1
  have HS2 := Lib.hid hs2
  have HKN := Lib.hid hkn
  have HGC := Lib.hid hgc
  have HB0 := Lib.hid hb0
  have HW0 := Lib.hid hw1
  have HF1 := Lib.hid hf1
  have HF2 := Lib.hid hf2
  have HF3 := Lib.hid hf3
  have HF4 := Lib.hid hf4
  have HX1 := Lib.hid he1
  have HX2 := Lib.hid he2
  clear hf1 hf2 hf3 hf4 h1 h2 he1 he2
  clear hs1 hs2 hkn hgc hb0 hw1 hK hP hQ
  unfold gbox at HW0
  go_enter Tryd.func6, Tryd.ntmps6
  go_wp2_with fail
  rw [← HW0.out]
  obtain ⟨g0, g1, g2, g3, g4, g5, g6, g7⟩ := HGC.out _ (Below.refl _ _)
  go_wp2_with fail
  refine (HS1.out _).mono ?_
  rintro e w2 ⟨rfl, hb⟩
  have HB2 := Lib.hid (HB0.out.trans (hb.mono HB0.out.size))
  have HC2 := Lib.hid hb
  clear hb HS1 HB0 g0 g1 g2 g3 g4 g5 g6 g7
  obtain ⟨g0, g1, g2, g3, g4, g5, g6, g7⟩ := HGC.out _ HC2.out
  go_wp2_with fail
  refine (HS2.out _).mono ?_
  rintro e w3 ⟨rfl, hb⟩
  have HB3 := Lib.hid (HB2.out.trans (hb.mono HB2.out.size))
  have HC3 := Lib.hid (HC2.out.trans (hb.mono HC2.out.size))
  clear hb HS2 HC2 g0 g1 g2 g3 g4 g5 g6 g7
  obtain ⟨g0, g1, g2, g3, g4, g5, g6, g7⟩ := HGC.out _ HC3.out
  go_wp2_with fail
  refine (HF1.out _ HB3.out).mono ?_
  rintro e w4 ⟨rfl, hb⟩
  have HB4 := Lib.hid (HB3.out.trans (hb.mono HB3.out.size))
  have HC4 := Lib.hid (HC3.out.trans (hb.mono HC3.out.size))
  clear hb HF1 HC3 g0 g1 g2 g3 g4 g5 g6 g7
  obtain ⟨g0, g1, g2, g3, g4, g5, g6, g7⟩ := HGC.out _ HC4.out
  go_wp2_with fail
  refine (HF2.out _ HB4.out).mono ?_
  rintro e w5 ⟨p2, v2, rfl, hT2, hb⟩
  have HB5 := Lib.hid (HB4.out.trans (hb.mono HB4.out.size))
  have HC5 := Lib.hid (HC4.out.trans (hb.mono HC4.out.size))
  have HT2 := Lib.hid hT2.lower
  clear hT2
  clear hb HF2 HC4 g0 g1 g2 g3 g4 g5 g6 g7
  obtain ⟨g0, g1, g2, g3, g4, g5, g6, g7⟩ := HGC.out _ HC5.out
  go_wp2_with fail
  refine (HF3.out _ HB5.out).mono ?_
  rintro e w6 ⟨rfl, hb⟩
  have HB6 := Lib.hid (HB5.out.trans (hb.mono HB5.out.size))
  have HC6 := Lib.hid (HC5.out.trans (hb.mono HC5.out.size))
  replace HT2 := Lib.hid (HT2.out.below hb)
  clear hb HF3 HC5 g0 g1 g2 g3 g4 g5 g6 g7
  obtain ⟨g0, g1, g2, g3, g4, g5, g6, g7⟩ := HGC.out _ HC6.out
  go_wp2_with fail
  refine (HF4.out _ HB6.out).mono ?_
  rintro e w7 ⟨p4, v4, rfl, hT4, hb⟩
  have HB7 := Lib.hid (HB6.out.trans (hb.mono HB6.out.size))
  have HC7 := Lib.hid (HC6.out.trans (hb.mono HC6.out.size))
  replace HT2 := Lib.hid (HT2.out.below hb)
  have HT4 := Lib.hid hT4.lower
  clear hT4
  clear hb HF4 HC6 g0 g1 g2 g3 g4 g5 g6 g7
  go_wp2_with fail
  refine (tdiff_nil _ (.inr ⟨_, rfl⟩) _).mono ?_
  rintro e w8 ⟨rfl, hb⟩
  have HB8 := Lib.hid (HB7.out.trans (hb.mono HB7.out.size))
  replace HT2 := Lib.hid (HT2.out.below hb)
  replace HT4 := Lib.hid (HT4.out.below hb)
  clear hb
  go_wp2_with fail
  refine (HKN.out _ HB8.out).mono ?_
  rintro e w99 ⟨rfl, hb⟩
  have HBB := Lib.hid (HB8.out.trans (hb.mono HB8.out.size))
  clear hb
  go_wp2
  go_ret
  exact ⟨rfl, HBB.out⟩

set_option maxRecDepth 20000 in
set_option maxHeartbeats 2000000 in
theorem tdiffs_10 (N F C U N2 F2 C2 U2 : Int) (a : Option Addr) (l cap : Nat) (Ks : List ByteArray) (a2 : Option Addr) (l2 cap2 : Nat) (Ls : List ByteArray) (w : World) (hP : Rs w a l cap Ks) (hQ : Rs w a2 l2 cap2 Ls) (hK : Kon w) (hN : N ≤ 30) (hN2 : N2 ≤ 30) (hl : l ≤ 80) (hx : l2 ≤ 80) (er1 er2 : Int) (h1 : er1 = fromErr N F C U Ks) (h2 : er2 = fromErr N2 F2 C2 U2 Ls) (he1 : er1 = 0) (he2 : er2 ≠ 0) :
    Calls Tryd.prog 6 #[geo N F C U, geo N2 F2 C2 U2, .slice a l cap, .slice a2 l2 cap2] w fun e w' => e = .returned (.bool true) ∧ Below w.heap.size w w' := by
  have hb0 := ((Below.refl w.heap.size w).alloc (Nat.le_refl _) (gbox N F C U)).alloc (by simp) (gbox N2 F2 C2 U2)
  have hs1 := fun w => small_any N F C U w
  have hs2 := fun w => small_any N2 F2 C2 U2 w
  have hkn := fun w' (hb : Below w.heap.size w w') => tknown_any w' (hK.below hb)
  have hgc := fun wr => two_boxes (w := w) (wr := wr) (N := N) (F := F) (C := C) (U := U) (N2 := N2) (F2 := F2) (C2 := C2) (U2 := U2)
  have hcx : (cap : Int) ≤ 9223372036854775807 := by have := hP.cm; unfold maxLen at this; omega
  have hcx2 : (cap2 : Int) ≤ 9223372036854775807 := by have := hQ.cm; unfold maxLen at this; omega
  simp only [show decide (N ≤ 30) = true from decide_eq_true hN] at hs1
  simp only [show decide (N2 ≤ 30) = true from decide_eq_true hN2] at hs2
  have j1 : ¬ ((80 : Int) < (l : Int)) := by omega
  have j2 : ¬ ((80 : Int) < (l2 : Int)) := by omega
  have hf1 := fun w' (hb : Below w.heap.size w w') => tfrom_any N F C U a l cap Ks w' (hP.later hb)
  have hf2 := fun w' (hb : Below w.heap.size w w') => tfrom_any N2 F2 C2 U2 a2 l2 cap2 Ls w' (hQ.later hb)
  have hf3 := fun w' (hb : Below w.heap.size w w') => rfrom_any N F C U a l cap Ks w' (hP.later hb)
  have hf4 := fun w' (hb : Below w.heap.size w w') => rfrom_any N2 F2 C2 U2 a2 l2 cap2 Ls w' (hQ.later hb)
  simp only [← h1] at hf1 hf3
  simp only [← h2] at hf2 hf4
  replace hf1 := fun w' hb => pend_ok (hf1 w' hb) he1
  replace hf2 := fun w' hb => pend_no (hf2 w' hb) he2
  replace hf3 := fun w' hb => tend_ok (hf3 w' hb) he1
  replace hf4 := fun w' hb => tend_no (hf4 w' hb) he2
  have q3 : (er2 == 0) = false := by simpa using he2
  have q4 : (er2 != 0) = true := by simpa using he2
  unfold geo at *
  obtain ⟨w1, hw1⟩ : ∃ w1, w1 = (w.alloc (gbox N F C U)).alloc (gbox N2 F2 C2 U2) := ⟨_, rfl⟩
  rw [← hw1] at hb0
  simp only [← hw1] at hgc
  have HS1 := Lib.hid hs1
  have HS2 := Lib.hid hs2
  have HKN := Lib.hid hkn
  have HGC := Lib.hid hgc
  have HB0 := Lib.hid hb0
  have HW0 := Lib.hid hw1
  have HF1 := Lib.hid hf1
  have HF2 := Lib.hid hf2
  have HF3 := Lib.hid hf3
  have HF4 := Lib.hid hf4
  have HX1 := Lib.hid he1
  have HX2 := Lib.hid he2
  clear hf1 hf2 hf3 hf4 h1 h2 he1 he2
  clear hs1 hs2 hkn hgc hb0 hw1 hK hP hQ
  unfold gbox at HW0
  go_enter Tryd.func6, Tryd.ntmps6
  go_wp2_with fail
  rw [← HW0.out]
  obtain ⟨g0, g1, g2, g3, g4, g5, g6, g7⟩ := HGC.out _ (Below.refl _ _)
  go_wp2_with fail
  refine (HS1.out _).mono ?_
  rintro e w2 ⟨rfl, hb⟩
  have HB2 := Lib.hid (HB0.out.trans (hb.mono HB0.out.size))
  have HC2 := Lib.hid hb
  clear hb HS1 HB0 g0 g1 g2 g3 g4 g5 g6 g7
  obtain ⟨g0, g1, g2, g3, g4, g5, g6, g7⟩ := HGC.out _ HC2.out
  go_wp2_with fail
  refine (HS2.out _).mono ?_
  rintro e w3 ⟨rfl, hb⟩
  have HB3 := Lib.hid (HB2.out.trans (hb.mono HB2.out.size))
  have HC3 := Lib.hid (HC2.out.trans (hb.mono HC2.out.size))
  clear hb HS2 HC2 g0 g1 g2 g3 g4 g5 g6 g7
  obtain ⟨g0, g1, g2, g3, g4, g5, g6, g7⟩ := HGC.out _ HC3.out
  go_wp2_with fail
  refine (HF1.out _ HB3.out).mono ?_
  rintro e w4 ⟨p1, v1, rfl, hT1, hb⟩
  have HB4 := Lib.hid (HB3.out.trans (hb.mono HB3.out.size))
  have HC4 := Lib.hid (HC3.out.trans (hb.mono HC3.out.size))
  have HT1 := Lib.hid hT1.lower
  clear hT1
  clear hb HF1 HC3 g0 g1 g2 g3 g4 g5 g6 g7
  obtain ⟨g0, g1, g2, g3, g4, g5, g6, g7⟩ := HGC.out _ HC4.out
  go_wp2_with fail
  refine (HF2.out _ HB4.out).mono ?_
  rintro e w5 ⟨rfl, hb⟩
  have HB5 := Lib.hid (HB4.out.trans (hb.mono HB4.out.size))
  have HC5 := Lib.hid (HC4.out.trans (hb.mono HC4.out.size))
  replace HT1 := Lib.hid (HT1.out.below hb)
  clear hb HF2 HC4 g0 g1 g2 g3 g4 g5 g6 g7
  obtain ⟨g0, g1, g2, g3, g4, g5, g6, g7⟩ := HGC.out _ HC5.out
  go_wp2_with fail
  refine (HF3.out _ HB5.out).mono ?_
  rintro e w6 ⟨p3, v3, rfl, hT3, hb⟩
  have HB6 := Lib.hid (HB5.out.trans (hb.mono HB5.out.size))
  have HC6 := Lib.hid (HC5.out.trans (hb.mono HC5.out.size))
  replace HT1 := Lib.hid (HT1.out.below hb)
  have HT3 := Lib.hid hT3.lower
  clear hT3
  clear hb HF3 HC5 g0 g1 g2 g3 g4 g5 g6 g7
  obtain ⟨g0, g1, g2, g3, g4, g5, g6, g7⟩ := HGC.out _ HC6.out
  go_wp2_with fail
  refine (HF4.out _ HB6.out).mono ?_
  rintro e w7 ⟨rfl, hb⟩
  have HB7 := Lib.hid (HB6.out.trans (hb.mono HB6.out.size))
  have HC7 := Lib.hid (HC6.out.trans (hb.mono HC6.out.size))
  replace HT1 := Lib.hid (HT1.out.below hb)
  replace HT3 := Lib.hid (HT3.out.below hb)
  clear hb HF4 HC6 g0 g1 g2 g3 g4 g5 g6 g7
  go_wp2_with fail
  refine (tdiff_other _ _).mono ?_
  rintro e w8 ⟨rfl, hb⟩
  have HB8 := Lib.hid (HB7.out.trans (hb.mono HB7.out.size))
  replace HT1 := Lib.hid (HT1.out.below hb)
  replace HT3 := Lib.hid (HT3.out.below hb)
  clear hb
  go_wp2_with fail
  refine (rdiff_nil _ _).mono ?_
  rintro e w9 ⟨rfl, hb⟩
  have HB9 := Lib.hid (HB8.out.trans (hb.mono HB8.out.size))
  replace HT1 := Lib.hid (HT1.out.below hb)
  replace HT3 := Lib.hid (HT3.out.below hb)
  clear hb
  go_wp2_with fail
  refine (ints_same _ _ [] _ (li_nil _) (li_nil _)).mono ?_
  rintro e w10 ⟨rfl, hb⟩
  have HB10 := Lib.hid (HB9.out.trans (hb.mono HB9.out.size))
  replace HT1 := Lib.hid (HT1.out.below hb)
  replace HT3 := Lib.hid (HT3.out.below hb)
  clear hb
  go_wp2_with fail
  refine (HKN.out _ HB10.out).mono ?_
  rintro e w99 ⟨rfl, hb⟩
  have HBB := Lib.hid (HB10.out.trans (hb.mono HB10.out.size))
  clear hb
  go_wp2
  go_ret
  exact ⟨rfl, HBB.out⟩

set_option maxRecDepth 20000 in
set_option maxHeartbeats 2000000 in
theorem tdiffs_11 (N F C U N2 F2 C2 U2 : Int) (a : Option Addr) (l cap : Nat) (Ks : List ByteArray) (a2 : Option Addr) (l2 cap2 : Nat) (Ls : List ByteArray) (w : World) (hP : Rs w a l cap Ks) (hQ : Rs w a2 l2 cap2 Ls) (hK : Kon w) (hN : N ≤ 30) (hN2 : N2 ≤ 30) (hl : l ≤ 80) (hx : l2 ≤ 80) (er1 er2 : Int) (h1 : er1 = fromErr N F C U Ks) (h2 : er2 = fromErr N2 F2 C2 U2 Ls) (he1 : er1 = 0) (he2 : er2 = 0) (n i : Int) (xs : List Int) (hd1 : ∀ p v q v' w', PT w' 0 p v N F C U Ks → PT w' 0 q v' N2 F2 C2 U2 Ls → Calls Tryd.prog 26 #[.pointer (some ⟨p, 0, none⟩), .pointer (some ⟨q, 0, none⟩)] w' fun e w'' => DRes n i xs w' e w'') (hd2 : ∀ p v q v' w', RT w' 0 p v N F C U Ks → RT w' 0 q v' N2 F2 C2 U2 Ls → Calls Tryd.prog 27 #[.pointer (some ⟨p, 0, none⟩), .pointer (some ⟨q, 0, none⟩)] w' fun e w'' => DRes n i xs w' e w'') :
    Calls Tryd.prog 6 #[geo N F C U, geo N2 F2 C2 U2, .slice a l cap, .slice a2 l2 cap2] w fun e w' => e = .returned (.bool true) ∧ Below w.heap.size w w' := by
  have hb0 := ((Below.refl w.heap.size w).alloc (Nat.le_refl _) (gbox N F C U)).alloc (by simp) (gbox N2 F2 C2 U2)
  have hs1 := fun w => small_any N F C U w
  have hs2 := fun w => small_any N2 F2 C2 U2 w
  have hkn := fun w' (hb : Below w.heap.size w w') => tknown_any w' (hK.below hb)
  have hgc := fun wr => two_boxes (w := w) (wr := wr) (N := N) (F := F) (C := C) (U := U) (N2 := N2) (F2 := F2) (C2 := C2) (U2 := U2)
  have hcx : (cap : Int) ≤ 9223372036854775807 := by have := hP.cm; unfold maxLen at this; omega
  have hcx2 : (cap2 : Int) ≤ 9223372036854775807 := by have := hQ.cm; unfold maxLen at this; omega
  simp only [show decide (N ≤ 30) = true from decide_eq_true hN] at hs1
  simp only [show decide (N2 ≤ 30) = true from decide_eq_true hN2] at hs2
  have j1 : ¬ ((80 : Int) < (l : Int)) := by omega
  have j2 : ¬ ((80 : Int) < (l2 : Int)) := by omega
  have hf1 := fun w' (hb : Below w.heap.size w w') => tfrom_any N F C U a l cap Ks w' (hP.later hb)
  have hf2 := fun w' (hb : Below w.heap.size w w') => tfrom_any N2 F2 C2 U2 a2 l2 cap2 Ls w' (hQ.later hb)
  have hf3 := fun w' (hb : Below w.heap.size w w') => rfrom_any N F C U a l cap Ks w' (hP.later hb)
  have hf4 := fun w' (hb : Below w.heap.size w w') => rfrom_any N2 F2 C2 U2 a2 l2 cap2 Ls w' (hQ.later hb)
  simp only [← h1] at hf1 hf3
  simp only [← h2] at hf2 hf4
  replace hf1 := fun w' hb => pend_ok (hf1 w' hb) he1
  replace hf2 := fun w' hb => pend_ok (hf2 w' hb) he2
  replace hf3 := fun w' hb => tend_ok (hf3 w' hb) he1
  replace hf4 := fun w' hb => tend_ok (hf4 w' hb) he2
  have q5 : (n == n) = true := by simp
  have q6 : (i == i) = true := by simp
  unfold geo at *
  obtain ⟨w1, hw1⟩ : ∃ w1, w1 = (w.alloc (gbox N F C U)).alloc (gbox N2 F2 C2 U2) := ⟨_, rfl⟩
  rw [← hw1] at hb0
  simp only [← hw1] at hgc
  have HS1 := Lib.hid hs1
  have HS2 := Lib.hid hs2
  have HKN := Lib.hid hkn
  have HGC := Lib.hid hgc
  have HB0 := Lib.hid hb0
  have HW0 := Lib.hid hw1
  have HF1 := Lib.hid hf1
  have HF2 := Lib.hid hf2
  have HF3 := Lib.hid hf3
  have HF4 := Lib.hid hf4
  have HX1 := Lib.hid he1
  have HX2 := Lib.hid he2
  clear hf1 hf2 hf3 hf4 h1 h2 he1 he2
  have HD1 := Lib.hid hd1
  have HD2 := Lib.hid hd2
  clear hd1 hd2
  clear hs1 hs2 hkn hgc hb0 hw1 hK hP hQ
  unfold gbox at HW0
  go_enter Tryd.func6, Tryd.ntmps6
  go_wp2_with fail
  rw [← HW0.out]
  obtain ⟨g0, g1, g2, g3, g4, g5, g6, g7⟩ := HGC.out _ (Below.refl _ _)
  go_wp2_with fail
  refine (HS1.out _).mono ?_
  rintro e w2 ⟨rfl, hb⟩
  have HB2 := Lib.hid (HB0.out.trans (hb.mono HB0.out.size))
  have HC2 := Lib.hid hb
  clear hb HS1 HB0 g0 g1 g2 g3 g4 g5 g6 g7
  obtain ⟨g0, g1, g2, g3, g4, g5, g6, g7⟩ := HGC.out _ HC2.out
  go_wp2_with fail
  refine (HS2.out _).mono ?_
  rintro e w3 ⟨rfl, hb⟩
  have HB3 := Lib.hid (HB2.out.trans (hb.mono HB2.out.size))
  have HC3 := Lib.hid (HC2.out.trans (hb.mono HC2.out.size))
  clear hb HS2 HC2 g0 g1 g2 g3 g4 g5 g6 g7
  obtain ⟨g0, g1, g2, g3, g4, g5, g6, g7⟩ := HGC.out _ HC3.out
  go_wp2_with fail
  refine (HF1.out _ HB3.out).mono ?_
  rintro e w4 ⟨p1, v1, rfl, hT1, hb⟩
  have HB4 := Lib.hid (HB3.out.trans (hb.mono HB3.out.size))
  have HC4 := Lib.hid (HC3.out.trans (hb.mono HC3.out.size))
  have HT1 := Lib.hid hT1.lower
  clear hT1
  clear hb HF1 HC3 g0 g1 g2 g3 g4 g5 g6 g7
  obtain ⟨g0, g1, g2, g3, g4, g5, g6, g7⟩ := HGC.out _ HC4.out
  go_wp2_with fail
  refine (HF2.out _ HB4.out).mono ?_
  rintro e w5 ⟨p2, v2, rfl, hT2, hb⟩
  have HB5 := Lib.hid (HB4.out.trans (hb.mono HB4.out.size))
  have HC5 := Lib.hid (HC4.out.trans (hb.mono HC4.out.size))
  replace HT1 := Lib.hid (HT1.out.below hb)
  have HT2 := Lib.hid hT2.lower
  clear hT2
  clear hb HF2 HC4 g0 g1 g2 g3 g4 g5 g6 g7
  obtain ⟨g0, g1, g2, g3, g4, g5, g6, g7⟩ := HGC.out _ HC5.out
  go_wp2_with fail
  refine (HF3.out _ HB5.out).mono ?_
  rintro e w6 ⟨p3, v3, rfl, hT3, hb⟩
  have HB6 := Lib.hid (HB5.out.trans (hb.mono HB5.out.size))
  have HC6 := Lib.hid (HC5.out.trans (hb.mono HC5.out.size))
  replace HT1 := Lib.hid (HT1.out.below hb)
  replace HT2 := Lib.hid (HT2.out.below hb)
  have HT3 := Lib.hid hT3.lower
  clear hT3
  clear hb HF3 HC5 g0 g1 g2 g3 g4 g5 g6 g7
  obtain ⟨g0, g1, g2, g3, g4, g5, g6, g7⟩ := HGC.out _ HC6.out
  go_wp2_with fail
  refine (HF4.out _ HB6.out).mono ?_
  rintro e w7 ⟨p4, v4, rfl, hT4, hb⟩
  have HB7 := Lib.hid (HB6.out.trans (hb.mono HB6.out.size))
  have HC7 := Lib.hid (HC6.out.trans (hb.mono HC6.out.size))
  replace HT1 := Lib.hid (HT1.out.below hb)
  replace HT2 := Lib.hid (HT2.out.below hb)
  replace HT3 := Lib.hid (HT3.out.below hb)
  have HT4 := Lib.hid hT4.lower
  clear hT4
  clear hb HF4 HC6 g0 g1 g2 g3 g4 g5 g6 g7
  go_wp2_with fail
  refine (HD1.out _ _ _ _ _ HT1.out HT2.out).mono ?_
  rintro e w8 ⟨sx, rfl, hli, hb⟩
  have HB8 := Lib.hid (HB7.out.trans (hb.mono HB7.out.size))
  replace HT1 := Lib.hid (HT1.out.below hb)
  replace HT2 := Lib.hid (HT2.out.below hb)
  replace HT3 := Lib.hid (HT3.out.below hb)
  replace HT4 := Lib.hid (HT4.out.below hb)
  have HL1 := Lib.hid hli
  clear hli
  obtain ⟨xa, xn, xc, e9, hri9⟩ := HL1.out
  subst e9
  clear hri9
  clear hb
  go_wp2_with fail
  refine (HD2.out _ _ _ _ _ HT3.out HT4.out).mono ?_
  rintro e w9 ⟨sy, rfl, hli, hb⟩
  have HB9 := Lib.hid (HB8.out.trans (hb.mono HB8.out.size))
  replace HT1 := Lib.hid (HT1.out.below hb)
  replace HT2 := Lib.hid (HT2.out.below hb)
  replace HT3 := Lib.hid (HT3.out.below hb)
  replace HT4 := Lib.hid (HT4.out.below hb)
  have HL2 := Lib.hid hli
  have HL3 := Lib.hid (HL1.out.later hb)
  clear hli HL1
  obtain ⟨ya, yn, yc, e9, hri9⟩ := HL2.out
  subst e9
  clear hri9
  clear hb
  go_wp2_with fail
  refine (ints_same _ _ _ _ HL3.out HL2.out).mono ?_
  rintro e w10 ⟨rfl, hb⟩
  have HB10 := Lib.hid (HB9.out.trans (hb.mono HB9.out.size))
  replace HT1 := Lib.hid (HT1.out.below hb)
  replace HT2 := Lib.hid (HT2.out.below hb)
  replace HT3 := Lib.hid (HT3.out.below hb)
  replace HT4 := Lib.hid (HT4.out.below hb)
  clear hb
  go_wp2_with fail
  refine (HKN.out _ HB10.out).mono ?_
  rintro e w99 ⟨rfl, hb⟩
  have HBB := Lib.hid (HB10.out.trans (hb.mono HB10.out.size))
  clear hb
  go_wp2
  go_ret
  exact ⟨rfl, HBB.out⟩

theorem tdiffs_any (N F C U N2 F2 C2 U2 : Int) (a : Option Addr) (l cap : Nat) (Ks : List ByteArray) (a2 : Option Addr) (l2 cap2 : Nat) (Ls : List ByteArray) (w : World) (hP : Rs w a l cap Ks) (hQ : Rs w a2 l2 cap2 Ls) (hK : Kon w) :
    Calls Tryd.prog 6 #[geo N F C U, geo N2 F2 C2 U2, .slice a l cap, .slice a2 l2 cap2] w fun e w' => e = .returned (.bool true) ∧ Below w.heap.size w w' := by
  by_cases hN : N ≤ 30
  · by_cases hN2 : N2 ≤ 30
    · by_cases hl : l ≤ 80
      · by_cases hl2 : l2 ≤ 80
        · by_cases h1 : fromErr N F C U Ks = 0
          · by_cases h2 : fromErr N2 F2 C2 U2 Ls = 0
            · obtain ⟨ok1, n1, s1⟩ := fromErr_ok h1
              obtain ⟨ok2, n2, s2⟩ := fromErr_ok h2
              by_cases hs : N = N2 ∧ F = F2
              · obtain ⟨rfl, rfl⟩ := hs
                have hnn : nodes N F C2 U2 = nodes N F C U := by unfold nodes; rw [if_pos ok1, if_pos ok2]
                have hsm := diff_small (L := Ks) (O := Ls) ok1
                have hsl : (diffP N F C U Ks Ls).1.length ≤ 21845 := by
                  have := lvs_fst (nxD N F C U Ks Ls) (lfD N Ks Ls) (lfD_le N Ks Ls) (height N F C U + 1) [((nodes N F C U - 1 : Nat) : Int)]
                  unfold diffP at hsm ⊢
                  omega
                refine tdiffs_11 N F C U N F C2 U2 a l cap Ks a2 l2 cap2 Ls w hP hQ hK hN hN2 hl hl2 _ _ rfl rfl h1 h2 ((diffP N F C U Ks Ls).2 : Int) 0 (diffP N F C U Ks Ls).1 (fun p v q v' w' hA hB => ?_) (fun p v q v' w' hA hB => ?_)
                · exact (tdiff_ok 0 p q v v' N F C U C2 U2 Ks Ls w' hA hB ok1 n1 (n2.trans hnn)).mono fun e w'' ⟨sv, h3, h4, h5⟩ => ⟨sv, h3, li_owns h4 (by omega), h5⟩
                · exact (rdiff_ok 0 p 0 q v v' N F C U C2 U2 Ks Ls w' hA hB ok1 n1 (n2.trans hnn)).mono fun e w'' ⟨sv, h3, h4, h5⟩ => ⟨sv, h3, li_owns h4 (by omega), h5⟩
              · have hb : N ≠ N2 ∨ F ≠ F2 := by
                  by_cases hNN : N = N2
                  · exact .inr fun hF => hs ⟨hNN, hF⟩
                  · exact .inl hNN
                refine tdiffs_11 N F C U N2 F2 C2 U2 a l cap Ks a2 l2 cap2 Ls w hP hQ hK hN hN2 hl hl2 _ _ rfl rfl h1 h2 0 12 [] (fun p v q v' w' hA hB => ?_) (fun p v q v' w' hA hB => ?_)
                · exact (tdiff_bad 0 p q v v' N F C U N2 F2 C2 U2 Ks Ls w' hA hB hb).mono fun e w'' ⟨h3, h5⟩ => ⟨_, h3, li_nil _, h5⟩
                · exact (rdiff_bad 0 p 0 q v v' N F C U N2 F2 C2 U2 Ks Ls w' hA hB hb).mono fun e w'' ⟨h3, h5⟩ => ⟨_, h3, li_nil _, h5⟩
            · exact tdiffs_10 N F C U N2 F2 C2 U2 a l cap Ks a2 l2 cap2 Ls w hP hQ hK hN hN2 hl hl2 _ _ rfl rfl h1 h2
          · by_cases h2 : fromErr N2 F2 C2 U2 Ls = 0
            · exact tdiffs_01 N F C U N2 F2 C2 U2 a l cap Ks a2 l2 cap2 Ls w hP hQ hK hN hN2 hl hl2 _ _ rfl rfl h1 h2
            · exact tdiffs_00 N F C U N2 F2 C2 U2 a l cap Ks a2 l2 cap2 Ls w hP hQ hK hN hN2 hl hl2 _ _ rfl rfl h1 h2
        · exact tdiffs_long2 N F C U N2 F2 C2 U2 a l cap Ks a2 l2 cap2 Ls w hP hQ hK hN hN2 hl (by omega)
      · exact tdiffs_long N F C U N2 F2 C2 U2 a l cap Ks a2 l2 cap2 Ls w hP hQ hK hN hN2 (by omega)
    · exact tdiffs_far2 N F C U N2 F2 C2 U2 a l cap Ks a2 l2 cap2 Ls w hP hQ hK hN (by omega)
  · exact tdiffs_far N F C U N2 F2 C2 U2 a l cap Ks a2 l2 cap2 Ls w hP hQ hK (by omega)
end Go.Proofs.YtojanhpilhledaaDoor

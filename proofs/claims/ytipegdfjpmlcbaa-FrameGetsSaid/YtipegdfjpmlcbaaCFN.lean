/-
  The document's told: a frame with just the fields that its kind tells.
-/
import Derived.Test.YtipegdfjpmlcbaaCFM
namespace Go.Proofs.Ytipegdfjpmlcbaa
open Go.RowKit
set_option linter.unusedVariables false
set_option linter.unusedSimpArgs false

/-- Three places: a box with cells C, an empty row, a row with cells D. -/
structure TB (w0 w : World) (C D : Array Value) : Prop where
  box : w.heap[w0.heap.size]? = some (.cells C 26 (0, 0))
  res : w.heap[w0.heap.size + 1]? = some (.cells frZ 26 (0, 0))
  new : w.heap[w0.heap.size + 1 + 1]? = some (.cells D 26 (0, 0))
  bel : Below w0.heap.size w0 w
theorem TB.set {w0 w : World} {C D : Array Value} (h : TB w0 w C D) (i : Nat) (v : Value) : TB w0 (w.setCell ⟨w0.heap.size + 1 + 1, i, none⟩ v) C (D.setIfInBounds i v) where
  box := (Below.heap_setCell _ _ _ _ (by simp; omega)).trans h.box
  res := (Below.heap_setCell _ _ _ _ (by simp)).trans h.res
  new := blk_setCell h.new
  bel := Below.setCell h.bel (show w0.heap.size ≤ w0.heap.size + 1 + 1 by omega) v
theorem TB.begin (w : World) (C D : Array Value) : TB w (((w.alloc (.cells C 26)).alloc (.cells frZ 26)).alloc (.cells D 26)) C D where
  box := (heap_alloc_old _ _ (by simp; omega)).trans (heap_alloc2_old w _ _)
  res := (heap_alloc_old _ _ (by simp)).trans (heap_alloc2_new w _ _)
  new := by have := heap_alloc_new ((w.alloc (.cells C 26)).alloc (.cells frZ 26)) (.cells D 26); simpa using this
  bel := (((Below.refl _ _).alloc (Nat.le_refl _) _).alloc (by simp) _).alloc (by simp; omega) _

set_option maxRecDepth 20000 in
set_option maxHeartbeats 1000000 in
theorem rtold_1 (se ep sq vo : Nat) (nn ff ix co : Int) (da : List UInt8) (li : List (List UInt8)) (a : Option Addr) (n c : Nat) (w : World) :
    Calls Try.prog 20 #[frV (⟨1, se, ep, sq, vo, nn, ff, ix, co, da, li⟩ : FR) (.slice a n c)] w fun e w' => e = .returned (frV (⟨1, se, ep, sq, vo, nn, ff, 0, 0, da, []⟩ : FR) (.slice none 0 0)) ∧ Below w.heap.size w w' := by
  obtain ⟨sd, hSD⟩ : ∃ x, Value.string x = strV da := ⟨_, rfl⟩
  have hi0 : (Try.prog.info? 26).map (·.size) = some (frC (⟨1, se, ep, sq, vo, nn, ff, ix, co, da, li⟩ : FR) (.slice a n c)).size := by kernel_rfl
  obtain ⟨G, hG⟩ : ∃ x, x = frC (⟨1, se, ep, sq, vo, nn, ff, 0, 0, da, []⟩ : FR) (.slice none 0 0) := ⟨_, rfl⟩
  have hv : frV (⟨1, se, ep, sq, vo, nn, ff, 0, 0, da, []⟩ : FR) (.slice none 0 0) = .agg G := by rw [hG]; rfl
  have hig : (Try.prog.info? 26).map (·.size) = some G.size := by rw [hG]; kernel_rfl
  have HO1 := Lib.hid (show G.all (·.oneCell') = true by rw [hG]; exact frC_one _ _ _ _)
  have HS1 := Lib.hid (show frZ.size = G.size by rw [hG]; rfl)
  obtain ⟨U, hU⟩ : ∃ x, x = ((w.alloc (.cells (frC (⟨1, se, ep, sq, vo, nn, ff, ix, co, da, li⟩ : FR) (.slice a n c)) 26)).alloc (.cells frZ 26)).alloc (.cells (hdC (⟨1, se, ep, sq, vo, nn, ff, ix, co, da, li⟩ : FR)) 26) := ⟨_, rfl⟩
  have t0 : TB w U (frC (⟨1, se, ep, sq, vo, nn, ff, ix, co, da, li⟩ : FR) (.slice a n c)) (hdC (⟨1, se, ep, sq, vo, nn, ff, ix, co, da, li⟩ : FR)) := by rw [hU]; exact TB.begin w _ _
  have c0 : U.cell? ⟨w.heap.size, 0, none⟩ = some (.int .i64 1) := by rw [cell_of_blk t0.box 0]; rfl
  have l0 : (U).cell? ⟨w.heap.size, 4, none⟩ = some (.int .u32 (vo : Int)) := by rw [cell_of_blk t0.box 4]; rfl
  have f0 : (U).frozen? ⟨w.heap.size + 1 + 1, 4, none⟩ = false := free_of_blk t0.new 4
  have o0 : (U).cell? ⟨w.heap.size + 1 + 1, 4, none⟩ = some (.int .u32 0) := by rw [cell_of_blk t0.new 4]; rfl
  have t1 := t0.set 4 (.int .u32 (vo : Int))
  have l1 : ((U).setCell ⟨w.heap.size + 1 + 1, 4, none⟩ (.int .u32 (vo : Int))).cell? ⟨w.heap.size, 5, none⟩ = some (.int .i64 nn) := by rw [cell_of_blk t1.box 5]; rfl
  have f1 : ((U).setCell ⟨w.heap.size + 1 + 1, 4, none⟩ (.int .u32 (vo : Int))).frozen? ⟨w.heap.size + 1 + 1, 5, none⟩ = false := free_of_blk t1.new 5
  have o1 : ((U).setCell ⟨w.heap.size + 1 + 1, 4, none⟩ (.int .u32 (vo : Int))).cell? ⟨w.heap.size + 1 + 1, 5, none⟩ = some (.int .i64 0) := by rw [cell_of_blk t1.new 5]; rfl
  have t2 := t1.set 5 (.int .i64 nn)
  have l2 : (((U).setCell ⟨w.heap.size + 1 + 1, 4, none⟩ (.int .u32 (vo : Int))).setCell ⟨w.heap.size + 1 + 1, 5, none⟩ (.int .i64 nn)).cell? ⟨w.heap.size, 6, none⟩ = some (.int .i64 ff) := by rw [cell_of_blk t2.box 6]; rfl
  have f2 : (((U).setCell ⟨w.heap.size + 1 + 1, 4, none⟩ (.int .u32 (vo : Int))).setCell ⟨w.heap.size + 1 + 1, 5, none⟩ (.int .i64 nn)).frozen? ⟨w.heap.size + 1 + 1, 6, none⟩ = false := free_of_blk t2.new 6
  have o2 : (((U).setCell ⟨w.heap.size + 1 + 1, 4, none⟩ (.int .u32 (vo : Int))).setCell ⟨w.heap.size + 1 + 1, 5, none⟩ (.int .i64 nn)).cell? ⟨w.heap.size + 1 + 1, 6, none⟩ = some (.int .i64 0) := by rw [cell_of_blk t2.new 6]; rfl
  have t3 := t2.set 6 (.int .i64 ff)
  have l3 : ((((U).setCell ⟨w.heap.size + 1 + 1, 4, none⟩ (.int .u32 (vo : Int))).setCell ⟨w.heap.size + 1 + 1, 5, none⟩ (.int .i64 nn)).setCell ⟨w.heap.size + 1 + 1, 6, none⟩ (.int .i64 ff)).cell? ⟨w.heap.size, 9, none⟩ = some (.string sd) := by rw [cell_of_blk t3.box 9]; rw [hSD]; rfl
  have f3 : ((((U).setCell ⟨w.heap.size + 1 + 1, 4, none⟩ (.int .u32 (vo : Int))).setCell ⟨w.heap.size + 1 + 1, 5, none⟩ (.int .i64 nn)).setCell ⟨w.heap.size + 1 + 1, 6, none⟩ (.int .i64 ff)).frozen? ⟨w.heap.size + 1 + 1, 9, none⟩ = false := free_of_blk t3.new 9
  have o3 : ((((U).setCell ⟨w.heap.size + 1 + 1, 4, none⟩ (.int .u32 (vo : Int))).setCell ⟨w.heap.size + 1 + 1, 5, none⟩ (.int .i64 nn)).setCell ⟨w.heap.size + 1 + 1, 6, none⟩ (.int .i64 ff)).cell? ⟨w.heap.size + 1 + 1, 9, none⟩ = some (.string ⟨#[]⟩) := by rw [cell_of_blk t3.new 9]; rfl
  have t4 := t3.set 9 (.string sd)
  have tf : TB w (((((U).setCell ⟨w.heap.size + 1 + 1, 4, none⟩ (.int .u32 (vo : Int))).setCell ⟨w.heap.size + 1 + 1, 5, none⟩ (.int .i64 nn)).setCell ⟨w.heap.size + 1 + 1, 6, none⟩ (.int .i64 ff)).setCell ⟨w.heap.size + 1 + 1, 9, none⟩ (.string sd)) (frC (⟨1, se, ep, sq, vo, nn, ff, ix, co, da, li⟩ : FR) (.slice a n c)) G := by rw [hG]; rw [hSD]; rw [hSD] at t4; exact t4
  have hrs := tf.res
  have hnw := tf.new
  have HB := Lib.hid (below_setRow tf.bel (show w.heap.size ≤ w.heap.size + 1 by omega) G)
  have hw5 := setRow_heap (((((U).setCell ⟨w.heap.size + 1 + 1, 4, none⟩ (.int .u32 (vo : Int))).setCell ⟨w.heap.size + 1 + 1, 5, none⟩ (.int .i64 nn)).setCell ⟨w.heap.size + 1 + 1, 6, none⟩ (.int .i64 ff)).setCell ⟨w.heap.size + 1 + 1, 9, none⟩ (.string sd)) _ _ G _ _ hrs
  have HU := Lib.hid hU
  have HV := Lib.hid hv
  rw [hv]
  unfold frC hdC frZ at HU
  unfold frV
  simp only at HU
  simp only [← hSD] at HU
  simp only [← hSD]
  clear t0 t1 t2 t3 t4 tf hU hv hG hSD
  go_enter Try.func20, Try.ntmps20
  go_upto_region 2 with fail
  rw [← HU.out]
  go_wp2_with (first
    | (with_reducible refine wpList_load_row (o := ⟨some 55, _, _, _, _, _⟩) rfl 26 (.tmp 3) rfl (w.heap.size + 1 + 1) rfl 26 G (0, 0) _ hnw Try.underlying26 rfl hig ?_)
    | (with_reducible refine wpList_store_row (o := ⟨none, _, _, _, _, _⟩) rfl 26 (.tmp 2) (.tmp 55) rfl (w.heap.size + 1) G rfl rfl 26 frZ hrs hig HS1.out HO1.out ?_))
  refine bodyPost_ret (results_row_one (p := 2) (ty := 26) rfl _ _ (w.heap.size + 1) 26 G (0, 0) _ rfl hw5 Try.underlying26 rfl hig) rfl ?_
  exact ⟨rfl, HB.out⟩

set_option maxRecDepth 20000 in
set_option maxHeartbeats 1000000 in
theorem rtold_2 (se ep sq vo : Nat) (nn ff ix co : Int) (da : List UInt8) (li : List (List UInt8)) (a : Option Addr) (n c : Nat) (w : World) :
    Calls Try.prog 20 #[frV (⟨2, se, ep, sq, vo, nn, ff, ix, co, da, li⟩ : FR) (.slice a n c)] w fun e w' => e = .returned (frV (⟨2, se, ep, sq, 0, 0, 0, 0, co, [], []⟩ : FR) (.slice none 0 0)) ∧ Below w.heap.size w w' := by
  obtain ⟨sd, hSD⟩ : ∃ x, Value.string x = strV da := ⟨_, rfl⟩
  have hi0 : (Try.prog.info? 26).map (·.size) = some (frC (⟨2, se, ep, sq, vo, nn, ff, ix, co, da, li⟩ : FR) (.slice a n c)).size := by kernel_rfl
  obtain ⟨G, hG⟩ : ∃ x, x = frC (⟨2, se, ep, sq, 0, 0, 0, 0, co, [], []⟩ : FR) (.slice none 0 0) := ⟨_, rfl⟩
  have hv : frV (⟨2, se, ep, sq, 0, 0, 0, 0, co, [], []⟩ : FR) (.slice none 0 0) = .agg G := by rw [hG]; rfl
  have hig : (Try.prog.info? 26).map (·.size) = some G.size := by rw [hG]; kernel_rfl
  have HO1 := Lib.hid (show G.all (·.oneCell') = true by rw [hG]; exact frC_one _ _ _ _)
  have HS1 := Lib.hid (show frZ.size = G.size by rw [hG]; rfl)
  obtain ⟨U, hU⟩ : ∃ x, x = ((w.alloc (.cells (frC (⟨2, se, ep, sq, vo, nn, ff, ix, co, da, li⟩ : FR) (.slice a n c)) 26)).alloc (.cells frZ 26)).alloc (.cells (hdC (⟨2, se, ep, sq, vo, nn, ff, ix, co, da, li⟩ : FR)) 26) := ⟨_, rfl⟩
  have t0 : TB w U (frC (⟨2, se, ep, sq, vo, nn, ff, ix, co, da, li⟩ : FR) (.slice a n c)) (hdC (⟨2, se, ep, sq, vo, nn, ff, ix, co, da, li⟩ : FR)) := by rw [hU]; exact TB.begin w _ _
  have c0 : U.cell? ⟨w.heap.size, 0, none⟩ = some (.int .i64 2) := by rw [cell_of_blk t0.box 0]; rfl
  have l0 : (U).cell? ⟨w.heap.size, 8, none⟩ = some (.int .i64 co) := by rw [cell_of_blk t0.box 8]; rfl
  have f0 : (U).frozen? ⟨w.heap.size + 1 + 1, 8, none⟩ = false := free_of_blk t0.new 8
  have o0 : (U).cell? ⟨w.heap.size + 1 + 1, 8, none⟩ = some (.int .i64 0) := by rw [cell_of_blk t0.new 8]; rfl
  have t1 := t0.set 8 (.int .i64 co)
  have tf : TB w ((U).setCell ⟨w.heap.size + 1 + 1, 8, none⟩ (.int .i64 co)) (frC (⟨2, se, ep, sq, vo, nn, ff, ix, co, da, li⟩ : FR) (.slice a n c)) G := by rw [hG]; exact t1
  have hrs := tf.res
  have hnw := tf.new
  have HB := Lib.hid (below_setRow tf.bel (show w.heap.size ≤ w.heap.size + 1 by omega) G)
  have hw5 := setRow_heap ((U).setCell ⟨w.heap.size + 1 + 1, 8, none⟩ (.int .i64 co)) _ _ G _ _ hrs
  have HU := Lib.hid hU
  have HV := Lib.hid hv
  rw [hv]
  unfold frC hdC frZ at HU
  unfold frV
  simp only at HU
  simp only [← hSD] at HU
  simp only [← hSD]
  clear t0 t1 tf hU hv hG hSD
  go_enter Try.func20, Try.ntmps20
  go_upto_region 2 with fail
  rw [← HU.out]
  go_wp2_with (first
    | (with_reducible refine wpList_load_row (o := ⟨some 55, _, _, _, _, _⟩) rfl 26 (.tmp 3) rfl (w.heap.size + 1 + 1) rfl 26 G (0, 0) _ hnw Try.underlying26 rfl hig ?_)
    | (with_reducible refine wpList_store_row (o := ⟨none, _, _, _, _, _⟩) rfl 26 (.tmp 2) (.tmp 55) rfl (w.heap.size + 1) G rfl rfl 26 frZ hrs hig HS1.out HO1.out ?_))
  refine bodyPost_ret (results_row_one (p := 2) (ty := 26) rfl _ _ (w.heap.size + 1) 26 G (0, 0) _ rfl hw5 Try.underlying26 rfl hig) rfl ?_
  exact ⟨rfl, HB.out⟩

set_option maxRecDepth 20000 in
set_option maxHeartbeats 1000000 in
theorem rtold_4 (se ep sq vo : Nat) (nn ff ix co : Int) (da : List UInt8) (li : List (List UInt8)) (a : Option Addr) (n c : Nat) (w : World) :
    Calls Try.prog 20 #[frV (⟨4, se, ep, sq, vo, nn, ff, ix, co, da, li⟩ : FR) (.slice a n c)] w fun e w' => e = .returned (frV (⟨4, se, ep, sq, 0, 0, 0, ix, 0, [], li⟩ : FR) (.slice a n c)) ∧ Below w.heap.size w w' := by
  obtain ⟨sd, hSD⟩ : ∃ x, Value.string x = strV da := ⟨_, rfl⟩
  have hi0 : (Try.prog.info? 26).map (·.size) = some (frC (⟨4, se, ep, sq, vo, nn, ff, ix, co, da, li⟩ : FR) (.slice a n c)).size := by kernel_rfl
  obtain ⟨G, hG⟩ : ∃ x, x = frC (⟨4, se, ep, sq, 0, 0, 0, ix, 0, [], li⟩ : FR) (.slice a n c) := ⟨_, rfl⟩
  have hv : frV (⟨4, se, ep, sq, 0, 0, 0, ix, 0, [], li⟩ : FR) (.slice a n c) = .agg G := by rw [hG]; rfl
  have hig : (Try.prog.info? 26).map (·.size) = some G.size := by rw [hG]; kernel_rfl
  have HO1 := Lib.hid (show G.all (·.oneCell') = true by rw [hG]; exact frC_one _ _ _ _)
  have HS1 := Lib.hid (show frZ.size = G.size by rw [hG]; rfl)
  obtain ⟨U, hU⟩ : ∃ x, x = ((w.alloc (.cells (frC (⟨4, se, ep, sq, vo, nn, ff, ix, co, da, li⟩ : FR) (.slice a n c)) 26)).alloc (.cells frZ 26)).alloc (.cells (hdC (⟨4, se, ep, sq, vo, nn, ff, ix, co, da, li⟩ : FR)) 26) := ⟨_, rfl⟩
  have t0 : TB w U (frC (⟨4, se, ep, sq, vo, nn, ff, ix, co, da, li⟩ : FR) (.slice a n c)) (hdC (⟨4, se, ep, sq, vo, nn, ff, ix, co, da, li⟩ : FR)) := by rw [hU]; exact TB.begin w _ _
  have c0 : U.cell? ⟨w.heap.size, 0, none⟩ = some (.int .i64 4) := by rw [cell_of_blk t0.box 0]; rfl
  have l0 : (U).cell? ⟨w.heap.size, 7, none⟩ = some (.int .i64 ix) := by rw [cell_of_blk t0.box 7]; rfl
  have f0 : (U).frozen? ⟨w.heap.size + 1 + 1, 7, none⟩ = false := free_of_blk t0.new 7
  have o0 : (U).cell? ⟨w.heap.size + 1 + 1, 7, none⟩ = some (.int .i64 0) := by rw [cell_of_blk t0.new 7]; rfl
  have t1 := t0.set 7 (.int .i64 ix)
  have l1 : ((U).setCell ⟨w.heap.size + 1 + 1, 7, none⟩ (.int .i64 ix)).cell? ⟨w.heap.size, 10, none⟩ = some (.slice a n c) := by rw [cell_of_blk t1.box 10]; rfl
  have f1 : ((U).setCell ⟨w.heap.size + 1 + 1, 7, none⟩ (.int .i64 ix)).frozen? ⟨w.heap.size + 1 + 1, 10, none⟩ = false := free_of_blk t1.new 10
  have o1 : ((U).setCell ⟨w.heap.size + 1 + 1, 7, none⟩ (.int .i64 ix)).cell? ⟨w.heap.size + 1 + 1, 10, none⟩ = some (.slice none 0 0) := by rw [cell_of_blk t1.new 10]; rfl
  have t2 := t1.set 10 (.slice a n c)
  have tf : TB w (((U).setCell ⟨w.heap.size + 1 + 1, 7, none⟩ (.int .i64 ix)).setCell ⟨w.heap.size + 1 + 1, 10, none⟩ (.slice a n c)) (frC (⟨4, se, ep, sq, vo, nn, ff, ix, co, da, li⟩ : FR) (.slice a n c)) G := by rw [hG]; exact t2
  have hrs := tf.res
  have hnw := tf.new
  have HB := Lib.hid (below_setRow tf.bel (show w.heap.size ≤ w.heap.size + 1 by omega) G)
  have hw5 := setRow_heap (((U).setCell ⟨w.heap.size + 1 + 1, 7, none⟩ (.int .i64 ix)).setCell ⟨w.heap.size + 1 + 1, 10, none⟩ (.slice a n c)) _ _ G _ _ hrs
  have HU := Lib.hid hU
  have HV := Lib.hid hv
  rw [hv]
  unfold frC hdC frZ at HU
  unfold frV
  simp only at HU
  simp only [← hSD] at HU
  simp only [← hSD]
  clear t0 t1 t2 tf hU hv hG hSD
  go_enter Try.func20, Try.ntmps20
  go_upto_region 2 with fail
  rw [← HU.out]
  go_wp2_with (first
    | (with_reducible refine wpList_load_row (o := ⟨some 55, _, _, _, _, _⟩) rfl 26 (.tmp 3) rfl (w.heap.size + 1 + 1) rfl 26 G (0, 0) _ hnw Try.underlying26 rfl hig ?_)
    | (with_reducible refine wpList_store_row (o := ⟨none, _, _, _, _, _⟩) rfl 26 (.tmp 2) (.tmp 55) rfl (w.heap.size + 1) G rfl rfl 26 frZ hrs hig HS1.out HO1.out ?_))
  refine bodyPost_ret (results_row_one (p := 2) (ty := 26) rfl _ _ (w.heap.size + 1) 26 G (0, 0) _ rfl hw5 Try.underlying26 rfl hig) rfl ?_
  exact ⟨rfl, HB.out⟩

set_option maxRecDepth 20000 in
set_option maxHeartbeats 1000000 in
theorem rtold_6 (se ep sq vo : Nat) (nn ff ix co : Int) (da : List UInt8) (li : List (List UInt8)) (a : Option Addr) (n c : Nat) (w : World) :
    Calls Try.prog 20 #[frV (⟨6, se, ep, sq, vo, nn, ff, ix, co, da, li⟩ : FR) (.slice a n c)] w fun e w' => e = .returned (frV (⟨6, se, ep, sq, 0, 0, 0, ix, 0, da, []⟩ : FR) (.slice none 0 0)) ∧ Below w.heap.size w w' := by
  obtain ⟨sd, hSD⟩ : ∃ x, Value.string x = strV da := ⟨_, rfl⟩
  have hi0 : (Try.prog.info? 26).map (·.size) = some (frC (⟨6, se, ep, sq, vo, nn, ff, ix, co, da, li⟩ : FR) (.slice a n c)).size := by kernel_rfl
  obtain ⟨G, hG⟩ : ∃ x, x = frC (⟨6, se, ep, sq, 0, 0, 0, ix, 0, da, []⟩ : FR) (.slice none 0 0) := ⟨_, rfl⟩
  have hv : frV (⟨6, se, ep, sq, 0, 0, 0, ix, 0, da, []⟩ : FR) (.slice none 0 0) = .agg G := by rw [hG]; rfl
  have hig : (Try.prog.info? 26).map (·.size) = some G.size := by rw [hG]; kernel_rfl
  have HO1 := Lib.hid (show G.all (·.oneCell') = true by rw [hG]; exact frC_one _ _ _ _)
  have HS1 := Lib.hid (show frZ.size = G.size by rw [hG]; rfl)
  obtain ⟨U, hU⟩ : ∃ x, x = ((w.alloc (.cells (frC (⟨6, se, ep, sq, vo, nn, ff, ix, co, da, li⟩ : FR) (.slice a n c)) 26)).alloc (.cells frZ 26)).alloc (.cells (hdC (⟨6, se, ep, sq, vo, nn, ff, ix, co, da, li⟩ : FR)) 26) := ⟨_, rfl⟩
  have t0 : TB w U (frC (⟨6, se, ep, sq, vo, nn, ff, ix, co, da, li⟩ : FR) (.slice a n c)) (hdC (⟨6, se, ep, sq, vo, nn, ff, ix, co, da, li⟩ : FR)) := by rw [hU]; exact TB.begin w _ _
  have c0 : U.cell? ⟨w.heap.size, 0, none⟩ = some (.int .i64 6) := by rw [cell_of_blk t0.box 0]; rfl
  have l0 : (U).cell? ⟨w.heap.size, 7, none⟩ = some (.int .i64 ix) := by rw [cell_of_blk t0.box 7]; rfl
  have f0 : (U).frozen? ⟨w.heap.size + 1 + 1, 7, none⟩ = false := free_of_blk t0.new 7
  have o0 : (U).cell? ⟨w.heap.size + 1 + 1, 7, none⟩ = some (.int .i64 0) := by rw [cell_of_blk t0.new 7]; rfl
  have t1 := t0.set 7 (.int .i64 ix)
  have l1 : ((U).setCell ⟨w.heap.size + 1 + 1, 7, none⟩ (.int .i64 ix)).cell? ⟨w.heap.size, 9, none⟩ = some (.string sd) := by rw [cell_of_blk t1.box 9]; rw [hSD]; rfl
  have f1 : ((U).setCell ⟨w.heap.size + 1 + 1, 7, none⟩ (.int .i64 ix)).frozen? ⟨w.heap.size + 1 + 1, 9, none⟩ = false := free_of_blk t1.new 9
  have o1 : ((U).setCell ⟨w.heap.size + 1 + 1, 7, none⟩ (.int .i64 ix)).cell? ⟨w.heap.size + 1 + 1, 9, none⟩ = some (.string ⟨#[]⟩) := by rw [cell_of_blk t1.new 9]; rfl
  have t2 := t1.set 9 (.string sd)
  have tf : TB w (((U).setCell ⟨w.heap.size + 1 + 1, 7, none⟩ (.int .i64 ix)).setCell ⟨w.heap.size + 1 + 1, 9, none⟩ (.string sd)) (frC (⟨6, se, ep, sq, vo, nn, ff, ix, co, da, li⟩ : FR) (.slice a n c)) G := by rw [hG]; rw [hSD]; rw [hSD] at t2; exact t2
  have hrs := tf.res
  have hnw := tf.new
  have HB := Lib.hid (below_setRow tf.bel (show w.heap.size ≤ w.heap.size + 1 by omega) G)
  have hw5 := setRow_heap (((U).setCell ⟨w.heap.size + 1 + 1, 7, none⟩ (.int .i64 ix)).setCell ⟨w.heap.size + 1 + 1, 9, none⟩ (.string sd)) _ _ G _ _ hrs
  have HU := Lib.hid hU
  have HV := Lib.hid hv
  rw [hv]
  unfold frC hdC frZ at HU
  unfold frV
  simp only at HU
  simp only [← hSD] at HU
  simp only [← hSD]
  clear t0 t1 t2 tf hU hv hG hSD
  go_enter Try.func20, Try.ntmps20
  go_upto_region 2 with fail
  rw [← HU.out]
  go_wp2_with (first
    | (with_reducible refine wpList_load_row (o := ⟨some 55, _, _, _, _, _⟩) rfl 26 (.tmp 3) rfl (w.heap.size + 1 + 1) rfl 26 G (0, 0) _ hnw Try.underlying26 rfl hig ?_)
    | (with_reducible refine wpList_store_row (o := ⟨none, _, _, _, _, _⟩) rfl 26 (.tmp 2) (.tmp 55) rfl (w.heap.size + 1) G rfl rfl 26 frZ hrs hig HS1.out HO1.out ?_))
  refine bodyPost_ret (results_row_one (p := 2) (ty := 26) rfl _ _ (w.heap.size + 1) 26 G (0, 0) _ rfl hw5 Try.underlying26 rfl hig) rfl ?_
  exact ⟨rfl, HB.out⟩

set_option maxRecDepth 20000 in
set_option maxHeartbeats 1000000 in
theorem rtold_7 (se ep sq vo : Nat) (nn ff ix co : Int) (da : List UInt8) (li : List (List UInt8)) (a : Option Addr) (n c : Nat) (w : World) :
    Calls Try.prog 20 #[frV (⟨7, se, ep, sq, vo, nn, ff, ix, co, da, li⟩ : FR) (.slice a n c)] w fun e w' => e = .returned (frV (⟨7, se, ep, sq, 0, 0, 0, 0, 0, [], []⟩ : FR) (.slice none 0 0)) ∧ Below w.heap.size w w' := by
  obtain ⟨sd, hSD⟩ : ∃ x, Value.string x = strV da := ⟨_, rfl⟩
  have hi0 : (Try.prog.info? 26).map (·.size) = some (frC (⟨7, se, ep, sq, vo, nn, ff, ix, co, da, li⟩ : FR) (.slice a n c)).size := by kernel_rfl
  obtain ⟨G, hG⟩ : ∃ x, x = frC (⟨7, se, ep, sq, 0, 0, 0, 0, 0, [], []⟩ : FR) (.slice none 0 0) := ⟨_, rfl⟩
  have hv : frV (⟨7, se, ep, sq, 0, 0, 0, 0, 0, [], []⟩ : FR) (.slice none 0 0) = .agg G := by rw [hG]; rfl
  have hig : (Try.prog.info? 26).map (·.size) = some G.size := by rw [hG]; kernel_rfl
  have HO1 := Lib.hid (show G.all (·.oneCell') = true by rw [hG]; exact frC_one _ _ _ _)
  have HS1 := Lib.hid (show frZ.size = G.size by rw [hG]; rfl)
  obtain ⟨U, hU⟩ : ∃ x, x = ((w.alloc (.cells (frC (⟨7, se, ep, sq, vo, nn, ff, ix, co, da, li⟩ : FR) (.slice a n c)) 26)).alloc (.cells frZ 26)).alloc (.cells (hdC (⟨7, se, ep, sq, vo, nn, ff, ix, co, da, li⟩ : FR)) 26) := ⟨_, rfl⟩
  have t0 : TB w U (frC (⟨7, se, ep, sq, vo, nn, ff, ix, co, da, li⟩ : FR) (.slice a n c)) (hdC (⟨7, se, ep, sq, vo, nn, ff, ix, co, da, li⟩ : FR)) := by rw [hU]; exact TB.begin w _ _
  have c0 : U.cell? ⟨w.heap.size, 0, none⟩ = some (.int .i64 7) := by rw [cell_of_blk t0.box 0]; rfl
  have tf : TB w (U) (frC (⟨7, se, ep, sq, vo, nn, ff, ix, co, da, li⟩ : FR) (.slice a n c)) G := by rw [hG]; exact t0
  have hrs := tf.res
  have hnw := tf.new
  have HB := Lib.hid (below_setRow tf.bel (show w.heap.size ≤ w.heap.size + 1 by omega) G)
  have hw5 := setRow_heap (U) _ _ G _ _ hrs
  have HU := Lib.hid hU
  have HV := Lib.hid hv
  rw [hv]
  unfold frC hdC frZ at HU
  unfold frV
  simp only at HU
  simp only [← hSD] at HU
  simp only [← hSD]
  clear t0 tf hU hv hG hSD
  go_enter Try.func20, Try.ntmps20
  go_upto_region 2 with fail
  rw [← HU.out]
  go_wp2_with (first
    | (with_reducible refine wpList_load_row (o := ⟨some 55, _, _, _, _, _⟩) rfl 26 (.tmp 3) rfl (w.heap.size + 1 + 1) rfl 26 G (0, 0) _ hnw Try.underlying26 rfl hig ?_)
    | (with_reducible refine wpList_store_row (o := ⟨none, _, _, _, _, _⟩) rfl 26 (.tmp 2) (.tmp 55) rfl (w.heap.size + 1) G rfl rfl 26 frZ hrs hig HS1.out HO1.out ?_))
  refine bodyPost_ret (results_row_one (p := 2) (ty := 26) rfl _ _ (w.heap.size + 1) 26 G (0, 0) _ rfl hw5 Try.underlying26 rfl hig) rfl ?_
  exact ⟨rfl, HB.out⟩

set_option maxRecDepth 20000 in
set_option maxHeartbeats 1000000 in
theorem rtold_e (kd : Int) (hk : kd ≠ 1 ∧ kd ≠ 2 ∧ kd ≠ 4 ∧ kd ≠ 6 ∧ kd ≠ 7) (se ep sq vo : Nat) (nn ff ix co : Int) (da : List UInt8) (li : List (List UInt8)) (a : Option Addr) (n c : Nat) (w : World) :
    Calls Try.prog 20 #[frV (⟨kd, se, ep, sq, vo, nn, ff, ix, co, da, li⟩ : FR) (.slice a n c)] w fun e w' => e = .returned (frV (⟨kd, se, ep, sq, 0, 0, 0, ix, 0, [], []⟩ : FR) (.slice none 0 0)) ∧ Below w.heap.size w w' := by
  obtain ⟨sd, hSD⟩ : ∃ x, Value.string x = strV da := ⟨_, rfl⟩
  have hi0 : (Try.prog.info? 26).map (·.size) = some (frC (⟨kd, se, ep, sq, vo, nn, ff, ix, co, da, li⟩ : FR) (.slice a n c)).size := by kernel_rfl
  obtain ⟨G, hG⟩ : ∃ x, x = frC (⟨kd, se, ep, sq, 0, 0, 0, ix, 0, [], []⟩ : FR) (.slice none 0 0) := ⟨_, rfl⟩
  have hv : frV (⟨kd, se, ep, sq, 0, 0, 0, ix, 0, [], []⟩ : FR) (.slice none 0 0) = .agg G := by rw [hG]; rfl
  have hig : (Try.prog.info? 26).map (·.size) = some G.size := by rw [hG]; kernel_rfl
  have HO1 := Lib.hid (show G.all (·.oneCell') = true by rw [hG]; exact frC_one _ _ _ _)
  have HS1 := Lib.hid (show frZ.size = G.size by rw [hG]; rfl)
  obtain ⟨U, hU⟩ : ∃ x, x = ((w.alloc (.cells (frC (⟨kd, se, ep, sq, vo, nn, ff, ix, co, da, li⟩ : FR) (.slice a n c)) 26)).alloc (.cells frZ 26)).alloc (.cells (hdC (⟨kd, se, ep, sq, vo, nn, ff, ix, co, da, li⟩ : FR)) 26) := ⟨_, rfl⟩
  have t0 : TB w U (frC (⟨kd, se, ep, sq, vo, nn, ff, ix, co, da, li⟩ : FR) (.slice a n c)) (hdC (⟨kd, se, ep, sq, vo, nn, ff, ix, co, da, li⟩ : FR)) := by rw [hU]; exact TB.begin w _ _
  have c0 : U.cell? ⟨w.heap.size, 0, none⟩ = some (.int .i64 kd) := by rw [cell_of_blk t0.box 0]; rfl
  have l0 : (U).cell? ⟨w.heap.size, 7, none⟩ = some (.int .i64 ix) := by rw [cell_of_blk t0.box 7]; rfl
  have f0 : (U).frozen? ⟨w.heap.size + 1 + 1, 7, none⟩ = false := free_of_blk t0.new 7
  have o0 : (U).cell? ⟨w.heap.size + 1 + 1, 7, none⟩ = some (.int .i64 0) := by rw [cell_of_blk t0.new 7]; rfl
  have t1 := t0.set 7 (.int .i64 ix)
  have tf : TB w ((U).setCell ⟨w.heap.size + 1 + 1, 7, none⟩ (.int .i64 ix)) (frC (⟨kd, se, ep, sq, vo, nn, ff, ix, co, da, li⟩ : FR) (.slice a n c)) G := by rw [hG]; exact t1
  have hrs := tf.res
  have hnw := tf.new
  have HB := Lib.hid (below_setRow tf.bel (show w.heap.size ≤ w.heap.size + 1 by omega) G)
  have hw5 := setRow_heap ((U).setCell ⟨w.heap.size + 1 + 1, 7, none⟩ (.int .i64 ix)) _ _ G _ _ hrs
  have HU := Lib.hid hU
  have HV := Lib.hid hv
  rw [hv]
  unfold frC hdC frZ at HU
  unfold frV
  simp only at HU
  simp only [← hSD] at HU
  simp only [← hSD]
  have q1 : (kd == 1) = false := by simp [hk]
  have q2 : (kd == 2) = false := by simp [hk]
  have q4 : (kd == 4) = false := by simp [hk]
  have q6 : (kd == 6) = false := by simp [hk]
  have q7 : (kd == 7) = false := by simp [hk]
  clear t0 t1 tf hU hv hG hSD hk
  go_enter Try.func20, Try.ntmps20
  go_upto_region 2 with fail
  rw [← HU.out]
  go_wp2_with (first
    | (with_reducible refine wpList_load_row (o := ⟨some 55, _, _, _, _, _⟩) rfl 26 (.tmp 3) rfl (w.heap.size + 1 + 1) rfl 26 G (0, 0) _ hnw Try.underlying26 rfl hig ?_)
    | (with_reducible refine wpList_store_row (o := ⟨none, _, _, _, _, _⟩) rfl 26 (.tmp 2) (.tmp 55) rfl (w.heap.size + 1) G rfl rfl 26 frZ hrs hig HS1.out HO1.out ?_))
  refine bodyPost_ret (results_row_one (p := 2) (ty := 26) rfl _ _ (w.heap.size + 1) 26 G (0, 0) _ rfl hw5 Try.underlying26 rfl hig) rfl ?_
  exact ⟨rfl, HB.out⟩

theorem rtold_any (f : FR) (a : Option Addr) (n c : Nat) (w : World) (hT : Tx w a n c f.list) :
    Calls Try.prog 20 #[frV f (.slice a n c)] w fun e w' => ∃ a' n' c', e = .returned (frV (toldP f) (.slice a' n' c')) ∧ Tx w' a' n' c' (toldP f).list ∧ Below w.heap.size w w' := by
  obtain ⟨kd, se, ep, sq, vo, nn, ff, ix, co, da, li⟩ := f
  by_cases k1 : kd = 1
  · subst k1; exact (rtold_1 se ep sq vo nn ff ix co da li a n c w).mono fun e w' h => ⟨none, 0, 0, h.1, tx_nil _, h.2⟩
  by_cases k2 : kd = 2
  · subst k2; exact (rtold_2 se ep sq vo nn ff ix co da li a n c w).mono fun e w' h => ⟨none, 0, 0, h.1, tx_nil _, h.2⟩
  by_cases k4 : kd = 4
  · subst k4; exact (rtold_4 se ep sq vo nn ff ix co da li a n c w).mono fun e w' h => ⟨a, n, c, h.1, hT.later h.2, h.2⟩
  by_cases k6 : kd = 6
  · subst k6; exact (rtold_6 se ep sq vo nn ff ix co da li a n c w).mono fun e w' h => ⟨none, 0, 0, h.1, tx_nil _, h.2⟩
  by_cases k7 : kd = 7
  · subst k7; exact (rtold_7 se ep sq vo nn ff ix co da li a n c w).mono fun e w' h => ⟨none, 0, 0, h.1, tx_nil _, h.2⟩
  refine (rtold_e kd ⟨k1, k2, k4, k6, k7⟩ se ep sq vo nn ff ix co da li a n c w).mono fun e w' h => ⟨none, 0, 0, ?_, ?_, h.2⟩
  · unfold toldP; simp only [k1, k2, k4, k6, k7, if_false]; exact h.1
  · unfold toldP; simp only [k1, k2, k4, k6, k7, if_false]; exact tx_nil _
end Go.Proofs.Ytipegdfjpmlcbaa


/-
  Contracts: the table.
-/
import Derived.Test.YtipegdfjpmlcbaaK2
import Derived.RegionTactic
import Derived.BigRegion
import Derived.Laws.Tables
namespace Go.Proofs.Ytipegdfjpmlcbaa
open Go.RowKit
set_option linter.unusedVariables false

/-- The lowest bit of k, as the code reckons it; and k without it. -/
def lowN (k : Nat) : Nat := (bits .and .i64 (k : Int) (-(k : Int))).toNat
def hiN (k : Nat) : Nat := (bits .xor .i64 (k : Int) (lowN k : Int)).toNat

theorem low_facts : ∀ k : Fin 256, bits .and .i64 (k.val : Int) (-(k.val : Int)) = (lowN k.val : Int) ∧
    (lowN k.val = k.val ∨ (lowN k.val < k.val ∧ bits .xor .i64 (k.val : Int) (lowN k.val : Int) = (hiN k.val : Int) ∧ hiN k.val < k.val ∧
      bits .xor .u32 (ent (lowN k.val) : Int) (ent (hiN k.val) : Int) = (ent k.val : Int))) := by decide +kernel

theorem zero_table (w : World) : (zeroValue 70).run Try.prog w = .ok (.agg (Array.replicate 256 (.int .u32 0))) w := by kernel_rfl

/-- A row of the call's own whose first k cells are the first k entries. -/
structure Tab (w : World) (g k : Nat) : Prop where
  row : ∃ C : Array Value, w.heap[g]? = some (.cells C 70 (0, 0)) ∧ C.size = 256 ∧ ∀ j, j < k → C[j]? = some (.int .u32 (ent j : Int))

theorem Tab.step {w : World} {g k : Nat} (h : Tab w g k) (hk : k < 256) : Tab (w.setCell ⟨g, k, none⟩ (.int .u32 (ent k : Int))) g (k + 1) := by
  obtain ⟨C, hC, hs, hc⟩ := h.row
  refine ⟨C.setIfInBounds k (.int .u32 (ent k : Int)), heap_setCell_same w g k C 70 _ hC, by simp [hs], fun j hj => ?_⟩
  by_cases e : j = k
  · subst e; rw [Array.getElem?_setIfInBounds_self, if_pos (by omega)]
  · rw [Array.getElem?_setIfInBounds_ne (by omega)]; exact hc j (by omega)

theorem Tab.other {w : World} {b g k : Nat} {v : Value} {o : Obj} (h : w.heap[b]? = some o) (hne : b ≠ g) : (w.setCell ⟨g, k, none⟩ v).heap[b]? = some o := by
  rw [heap_setCell_other w _ b _ hne]; exact h

theorem Tab.drew {w : World} {g k : Nat} (h : Tab w g k) : Tab w.drew g k := ⟨h.row⟩

theorem tab_eq {C : Array Value} (hs : C.size = 256) (hc : ∀ j, j < 256 → C[j]? = some (.int .u32 (ent j : Int))) : C = ((List.range 256).map fun i => Value.int .u32 (ent i : Int)).toArray := by
  apply Array.ext
  · simp [hs]
  · intro j h1 h2
    have := hc j (by omega)
    rw [Array.getElem?_eq_getElem h1] at this
    simpa using this

theorem all_ent : (((List.range 256).map fun i => Value.int .u32 (ent i : Int)).toArray).all (·.oneCell') = true :=
  Array.all_eq_true_iff_forall_mem.2 (fun v hv => by
    simp only [List.mem_toArray, List.mem_map] at hv
    obtain ⟨_, _, rfl⟩ := hv
    rfl)

set_option maxRecDepth 20000 in
set_option maxHeartbeats 1000000 in
theorem table_any (w : World) :
    Calls Try.prog 45 #[] w fun e w' => e = .returned (.agg ((List.range 256).map fun i => Value.int .u32 (ent i : Int)).toArray) ∧ Below w.heap.size w w' := by
  obtain ⟨Z, hZ⟩ : ∃ Z : Array Value, Z = Array.replicate 256 (.int .u32 0) := ⟨_, rfl⟩
  have hz := zero_table
  rw [← hZ] at hz
  have hzs : Z.size = 256 := by rw [hZ]; simp
  have HZ := Lib.hid hzs
  clear hzs hZ
  go_enter Try.func45, Try.ntmps45
  go_wp2
  generalize hg : w.heap.size + 1 = g
  have HG := Lib.hid hg
  have hrow : Tab ((w.alloc (.cells Z 70)).alloc (.cells Z 70)) g 0 := ⟨Z, by rw [← hg]; exact heap_alloc2_new w _ _, HZ.out, fun j hj => by omega⟩
  have hold : ((w.alloc (.cells Z 70)).alloc (.cells Z 70)).heap[w.heap.size]? = some (.cells Z 70 (0, 0)) := heap_alloc2_old w _ _
  have hB : Below w.heap.size w ((w.alloc (.cells Z 70)).alloc (.cells Z 70)) := ((Below.refl _ _).alloc (Nat.le_refl _) _).alloc (by simp) _
  clear hg
  go_loopw [4] (fun i wr => ∃ k : Nat, k ≤ 256 ∧ i = .int .i64 k ∧ Tab wr g k ∧ wr.heap[w.heap.size]? = some (.cells Z 70 (0, 0)) ∧ Below w.heap.size w wr) (fun i _ => 256 - (intOf i).toNat)
  case atStart => exact ⟨0, by omega, rfl, hrow, hold, hB⟩
  case round =>
    clear hrow hold hB hz
    obtain ⟨k, hk, rfl, hrow, hold, hB⟩ := hrel
    by_cases hlt : k < 256
    · obtain ⟨h1, h2⟩ := low_facts ⟨k, hlt⟩
      simp only at h1 h2
      obtain ⟨C, hC, hsz, hcs⟩ := hrow.row
      have hcell : ∀ j, j < k → wr.cell? ⟨g, j, none⟩ = some (.int .u32 (ent j : Int)) := fun j hj => (cell_of_row wr g j C 70 (0, 0) hC).trans (hcs j hj)
      have hfree : wr.frozen? ⟨g, k, none⟩ = false := frozen_of_row wr g k C 70 hC
      obtain ⟨u, hu⟩ : ∃ u, C[k]? = some u := ⟨_, Array.getElem?_eq_getElem (by omega)⟩
      have hck : wr.cell? ⟨g, k, none⟩ = some u := (cell_of_row wr g k C 70 (0, 0) hC).trans hu
      have HC := Lib.hid hC
      have HB := Lib.hid hB
      have HO := Lib.hid hold
      clear hC hold hB hu
      rcases h2 with h2 | ⟨h2, h3, h4, h5⟩
      · rw [h2] at h1
        clear h2 hcell
        go_wp2_with (go_at_call 47; refine (entry_any k _ hlt).mono ?_; rintro r w' ⟨rfl, rfl⟩)
        go_roundw
        case rel => exact ⟨k + 1, by omega, by go_num, Tab.step hrow (by omega), Tab.other HO.out (by have := HG.out; omega), HB.out.setCell (by have := HG.out; show w.heap.size ≤ g; omega) _⟩
        case measure => simp [intOf]; omega
      · have hl := hcell _ h2
        have hh := hcell _ h4
        generalize lowN k = l at h1 h2 h3 hl h5
        generalize hiN k = m at h3 h4 hh h5
        clear hcell hcs
        have hne : ¬ (k : Int) = l := by omega
        have i1 : (0 : Int) ≤ (l : Int) := by omega
        have i2 : (l : Int) < 256 := by omega
        have i3 : (0 : Int) ≤ (m : Int) := by omega
        have i4 : (m : Int) < 256 := by omega
        have i5 : (0 : Int) ≤ (k : Int) := by omega
        have i6 : (k : Int) < 256 := by omega
        go_wp2
        go_region
        all_goals go_wp2
        go_roundw
        case rel => exact ⟨k + 1, by omega, by go_num, Tab.drew (Tab.step hrow (by omega)), Tab.other HO.out (by have := HG.out; omega), (HB.out.setCell (by have := HG.out; show w.heap.size ≤ g; omega) _).drew⟩
        case measure => simp [intOf]; omega
    · obtain rfl : k = 256 := by omega
      obtain ⟨C, hC, hsz, hcs⟩ := hrow.row
      have hCT : C = ((List.range 256).map fun i => Value.int .u32 (ent i : Int)).toArray := tab_eq hsz hcs
      have hone : C.all (·.oneCell') = true := by
        rw [hCT]; exact all_ent
      have hi31 : (Try.prog.info? 70).map (·.size) = some C.size := by rw [hsz]; kernel_rfl
      have hZC : Z.size = C.size := by rw [HZ.out, hsz]
      have H1 := Lib.hid hCT
      have hB2 : Below w.heap.size w (wr.setRow w.heap.size C) := below_setRow hB (Nat.le_refl _) _
      have hrw := setRow_heap wr w.heap.size Z C 70 (0, 0) hold
      clear hCT hcs hrow
      go_wp2_with (first | (with_reducible refine wpList_load_row (o := ⟨some 31, _, _, _, _, _⟩) rfl 70 (.tmp 1) rfl g rfl 70 C (0, 0) _ hC Try.underlying70 rfl hi31 ?_) | (with_reducible refine wpList_store_row (o := ⟨none, _, _, _, _, _⟩) rfl 70 (.tmp 0) (.tmp 31) rfl w.heap.size C rfl rfl 70 Z hold hi31 hZC hone ?_))
      refine bodyPost_ret (v := .agg C) (results_cell_row (p := 0) (ty := 70) rfl _ _ w.heap.size 70 C (0, 0) _ rfl hrw Try.underlying70 rfl hi31) rfl ⟨by rw [H1.out], hB2⟩
end Go.Proofs.Ytipegdfjpmlcbaa


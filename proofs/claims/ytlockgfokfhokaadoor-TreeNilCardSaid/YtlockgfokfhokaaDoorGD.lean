/-
  Contracts of places: isSide, location, areaSectors, area, areaStart, Data, Size, Node, Area.
-/
import Derived.Test.YtlockgfokfhokaaDoorGC
import Derived.Deep.RegionWith
import Derived.Deep.RegionHeld3
import Derived.Deep.DrawnRows
import Derived.BigRegion
namespace Go.Proofs.YtlockgfokfhokaaDoor
open Go.RowKit
set_option linter.unusedVariables false
set_option linter.unusedSimpArgs false

/-- How many sectors a side's area has. -/
def sec (C U side : Int) : Int := if side = 0 then 2 * C else 2 * U
def isS (side : Int) : Prop := side = 0 ∨ side = 1
instance (side : Int) : Decidable (isS side) := by unfold isS; infer_instance
def sizeOf' (N F C U side : Int) : Int := if okG N F C U ∧ isS side then 6 + N + nodes N F C U + sec C U side else 0
def dataAt (N F C U i : Int) : Int := if okG N F C U ∧ 0 ≤ i ∧ i < N then 6 + i else -1
def nodeAt (N F C U i : Int) : Int := if okG N F C U ∧ 0 ≤ i ∧ i < nodes N F C U then 6 + N + i else -1
def areaAt (N F C U side i : Int) : Int := if okG N F C U ∧ isS side ∧ 0 ≤ i ∧ i < sec C U side then 6 + N + nodes N F C U + i else -1




/-- The reference's area, whatever the numbers. -/
def rsec (C U side : Int) : Int := if side = 0 then wrap64 (2 * C) else if side = 1 then wrap64 (2 * U) else -1


theorem held_cells {w w1 : World} {N F C U : Int} (h : Below (w.heap.size + 1) (w.alloc (gbox N F C U)) w1) :
    (w1.drew.cell? ⟨w.heap.size, 0, none⟩ = some (.int .i64 N) ∧ w1.drew.cell? ⟨w.heap.size, 1, none⟩ = some (.int .i64 F) ∧ w1.drew.cell? ⟨w.heap.size, 2, none⟩ = some (.int .i64 C) ∧ w1.drew.cell? ⟨w.heap.size, 3, none⟩ = some (.int .i64 U)) ∧
    (∀ w', Below w1.drew.heap.size w1.drew w' → w'.cell? ⟨w.heap.size, 0, none⟩ = some (.int .i64 N) ∧ w'.cell? ⟨w.heap.size, 1, none⟩ = some (.int .i64 F) ∧ w'.cell? ⟨w.heap.size, 2, none⟩ = some (.int .i64 C) ∧ w'.cell? ⟨w.heap.size, 3, none⟩ = some (.int .i64 U)) ∧
    (∀ w', Below w1.drew.heap.size w1.drew w' → Below w.heap.size w w') := by
  have hsz : w.heap.size + 1 ≤ w1.heap.size := by have := h.size; simpa using this
  have hd := h.drew
  refine ⟨gbox_cells hd, fun w' hb => gbox_cells (hd.trans (hb.mono hsz)), fun w' hb => ?_⟩
  exact ((Below.refl w.heap.size w).alloc (Nat.le_refl _) (gbox N F C U)).trans ((hd.trans (hb.mono hsz)).mono (by omega))




end Go.Proofs.YtlockgfokfhokaaDoor


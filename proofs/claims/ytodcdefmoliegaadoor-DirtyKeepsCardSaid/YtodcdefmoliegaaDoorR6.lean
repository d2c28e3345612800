/-
  Contract of the reference's Kind.
-/
import Derived.Test.YtodcdefmoliegaaDoorR5
import Derived.Deep.RegionWith
import Derived.Deep.RegionHeld3
import Derived.Deep.DrawnRows
import Derived.BigRegion
namespace Go.Proofs.YtodcdefmoliegaaDoor
open Go.RowKit
set_option linter.unusedVariables false
set_option linter.unusedSimpArgs false


theorem allz_iff (xs : List UInt8) (hl : xs.length = 64) : allz xs = true ↔ ∀ j, 2 + nb xs 1 ≤ j → j < 60 → nb xs j = 0 := by
  unfold allz
  rw [List.all_eq_true]
  constructor
  · intro h j h1 h2
    have hj : xs[j]? = some (xs[j]'(by omega)) := List.getElem?_eq_getElem (by omega)
    have hm : xs[j]'(by omega) ∈ (xs.take 60).drop (2 + nb xs 1) := by
      rw [List.mem_iff_getElem?]
      refine ⟨j - (2 + nb xs 1), ?_⟩
      rw [List.getElem?_drop, List.getElem?_take_of_lt (by omega), show 2 + nb xs 1 + (j - (2 + nb xs 1)) = j from by omega]
      exact hj
    have := h _ hm
    unfold nb
    rw [hj]
    simp only [Option.getD_some]
    have e : xs[j]'(by omega) = 0 := by simpa using this
    rw [e]; rfl
  · intro h x hx
    rw [List.mem_iff_getElem?] at hx
    obtain ⟨i, hi⟩ := hx
    rw [List.getElem?_drop] at hi
    have hlt : 2 + nb xs 1 + i < 60 := by
      rcases Nat.lt_or_ge (2 + nb xs 1 + i) 60 with g | g
      · exact g
      · rw [List.getElem?_eq_none (by simp; omega)] at hi
        cases hi
    rw [List.getElem?_take_of_lt hlt] at hi
    have := h (2 + nb xs 1 + i) (by omega) hlt
    change (xs[2 + nb xs 1 + i]?.getD 0).toNat = 0 at this
    rw [hi] at this
    simp only [Option.getD_some] at this
    have e : x = 0 := by
      apply UInt8.toNat_inj.1
      rw [this]; rfl
    rw [e]; rfl

theorem seal_iff (xs : List UInt8) (hl : xs.length = 64) : enc (addN 0 (xs.take 60)) 4 = xs.drop 60 ↔ xs = sealL (xs.take 60) := by
  have e : xs = xs.take 60 ++ xs.drop 60 := (List.take_append_drop 60 xs).symm
  constructor
  · intro h
    unfold sealL
    rw [h]
    exact e
  · intro h
    have h2 := e.symm.trans h
    unfold sealL at h2
    exact (List.append_cancel_left h2).symm


end Go.Proofs.YtodcdefmoliegaaDoor


/-
  Contracts: both List.
-/
import Derived.Test.YtodcdefmoliegaaI9
namespace Go.Proofs.Ytodcdefmoliegaa
open Go.RowKit
set_option linter.unusedVariables false
set_option linter.unusedSimpArgs false

/-- The numbers below k that are there, rising. -/
def listL (f : Nat → Bool) (k : Nat) : List Int := ((List.range k).filter f).map fun (i : Nat) => (i : Int)
theorem listL_succ (f : Nat → Bool) (k : Nat) : listL f (k + 1) = if f k then listL f k ++ [(k : Int)] else listL f k := by
  unfold listL
  rw [List.range_succ, List.filter_append]
  by_cases h : f k = true
  · rw [if_pos h, List.filter_cons_of_pos h]; simp
  · rw [if_neg h, List.filter_cons_of_neg h]; simp
theorem listL_le (f : Nat → Bool) (k : Nat) : (listL f k).length ≤ k := by
  unfold listL
  rw [List.length_map]
  have := List.length_filter_le f (List.range k)
  simpa using this
theorem listL_cnt (f : Nat → Bool) : ∀ k, (listL f k).length = cnt f k
  | 0 => rfl
  | k + 1 => by
    have ih := listL_cnt f k
    rw [listL_succ]
    show _ = cnt f k + (if f k then 1 else 0)
    by_cases h : f k = true
    · rw [if_pos h, if_pos h, List.length_append, ih]; rfl
    · rw [if_neg h, if_neg h, ih]; rfl
theorem listL_mem (f : Nat → Bool) (k : Nat) (x : Int) : x ∈ listL f k ↔ ∃ i : Nat, i < k ∧ f i = true ∧ x = (i : Int) := by
  unfold listL
  simp only [List.mem_map, List.mem_filter, List.mem_range]
  constructor
  · rintro ⟨i, ⟨h1, h2⟩, rfl⟩; exact ⟨i, h1, h2, rfl⟩
  · rintro ⟨i, h1, h2, rfl⟩; exact ⟨i, ⟨h1, h2⟩, rfl⟩



end Go.Proofs.Ytodcdefmoliegaa


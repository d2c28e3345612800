/-
  Contracts of both Differ.
-/
import Derived.Test.YtodcdefmoliegaaGreatDoorF0
namespace Go.Proofs.YtodcdefmoliegaaGreatDoor
open Go.RowKit
set_option linter.unusedVariables false
set_option linter.unusedSimpArgs false

/-- At how many of the first k bytes two texts are not alike, and the first of these. -/
def cnt (a b : List UInt8) : Nat → Nat × Nat
  | 0 => (0, 0)
  | k + 1 => if k < a.length ∧ k < b.length ∧ bt a k = bt b k then cnt a b k else ((cnt a b k).1 + 1, if (cnt a b k).1 = 0 then k else (cnt a b k).2)

theorem cnt_le (a b) : ∀ k, (cnt a b k).1 ≤ k ∧ (cnt a b k).2 ≤ k
  | 0 => ⟨Nat.le_refl _, Nat.le_refl _⟩
  | k + 1 => by
    have := cnt_le a b k
    unfold cnt
    split
    · omega
    · refine ⟨by omega, ?_⟩
      show (if (cnt a b k).1 = 0 then k else (cnt a b k).2) ≤ k + 1
      split <;> omega
theorem cnt_same {a b k} (h : k < a.length ∧ k < b.length ∧ bt a k = bt b k) : cnt a b (k + 1) = cnt a b k := by
  show (if _ then _ else _) = _; rw [if_pos h]
theorem cnt_first {a b k} (h : ¬ (k < a.length ∧ k < b.length ∧ bt a k = bt b k)) (h0 : (cnt a b k).1 = 0) : cnt a b (k + 1) = (1, k) := by
  show (if _ then _ else _) = _; rw [if_neg h, h0]; rfl
theorem cnt_more {a b k} (h : ¬ (k < a.length ∧ k < b.length ∧ bt a k = bt b k)) (h0 : (cnt a b k).1 ≠ 0) : cnt a b (k + 1) = ((cnt a b k).1 + 1, (cnt a b k).2) := by
  show (if _ then _ else _) = _; rw [if_neg h, if_neg h0]

def differ (a b : ByteArray) : Value := .tuple #[.int .i64 ((cnt a.data.toList b.data.toList (max a.size b.size)).1 : Int), .int .i64 ((cnt a.data.toList b.data.toList (max a.size b.size)).2 : Int)]


end Go.Proofs.YtodcdefmoliegaaGreatDoor


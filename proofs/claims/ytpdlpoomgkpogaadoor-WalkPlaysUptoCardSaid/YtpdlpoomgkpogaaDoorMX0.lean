/-
  Texts put together: X0.
-/
import Derived.Test.YtpdlpoomgkpogaaDoorMW2
import Derived.Test.YtpdlpoomgkpogaaDoorMU
/-
  The program's Bad: the nodes whose digests are not those of their children.
-/
namespace Go.Proofs.YtpdlpoomgkpogaaDoor
open Go.RowKit
set_option linter.unusedVariables false
set_option linter.unusedSimpArgs false

def badUp (N F C U : Int) (L : List ByteArray) (n m : Nat) : List Int :=
  (List.range m).flatMap fun j => if lAt L (n + j) = nodeB (kids L (children N F C U ((n + j : Nat) : Int))) then [] else [((n + j : Nat) : Int)]
def badL (N F C U : Int) (L : List ByteArray) : List Int := badUp N F C U L N.toNat (L.length - N.toNat)
theorem badUp_same {N F C U : Int} {L : List ByteArray} {n m : Nat} (h : lAt L (n + m) = nodeB (kids L (children N F C U ((n + m : Nat) : Int)))) : badUp N F C U L n (m + 1) = badUp N F C U L n m := by
  unfold badUp
  rw [List.range_succ, List.flatMap_append]
  simp only [List.flatMap_cons, List.flatMap_nil, if_pos h, List.append_nil]
theorem badUp_other {N F C U : Int} {L : List ByteArray} {n m : Nat} (h : ¬ lAt L (n + m) = nodeB (kids L (children N F C U ((n + m : Nat) : Int)))) : badUp N F C U L n (m + 1) = badUp N F C U L n m ++ [((n + m : Nat) : Int)] := by
  unfold badUp
  rw [List.range_succ, List.flatMap_append]
  simp only [List.flatMap_cons, List.flatMap_nil, if_neg h, List.append_nil]
theorem badUp_len (N F C U : Int) (L : List ByteArray) (n : Nat) : ∀ m, (badUp N F C U L n m).length ≤ m
  | 0 => Nat.le_refl _
  | m + 1 => by
    have ih := badUp_len N F C U L n m
    by_cases h : lAt L (n + m) = nodeB (kids L (children N F C U ((n + m : Nat) : Int)))
    · rw [badUp_same h]; omega
    · rw [badUp_other h, List.length_append]; simp; omega
end Go.Proofs.YtpdlpoomgkpogaaDoor

/-
  Contracts of digest: Back.
-/
import Derived.Test.YtlockgfokfhokaaDoorD5
namespace Go.Proofs.YtlockgfokfhokaaDoor
open Go.RowKit
set_option linter.unusedVariables false
set_option linter.unusedSimpArgs false

theorem or_pair : ∀ A, A < 16 → ∀ B, B < 16 → bits .or .i64 ((A : Nat) * 16 : Int) (B : Nat) = ((16 * A + B : Nat) : Int) := by decide +kernel


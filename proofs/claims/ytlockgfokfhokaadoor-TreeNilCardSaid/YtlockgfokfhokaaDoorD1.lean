/-
  Contracts of digest: Right, worth, and the reference's digit.
-/
import Derived.Test.YtlockgfokfhokaaDoorS8
import Derived.Test.YtlockgfokfhokaaDoorS11
namespace Go.Proofs.YtlockgfokfhokaaDoor
open Go.RowKit
set_option linter.unusedVariables false
set_option linter.unusedSimpArgs false

/-- What a digit stands for; -1: it is none. -/
def wor (c : Nat) : Int := if 48 ≤ c ∧ c ≤ 57 then (c : Int) - 48 else if 97 ≤ c ∧ c ≤ 102 then (c : Int) - 87 else -1



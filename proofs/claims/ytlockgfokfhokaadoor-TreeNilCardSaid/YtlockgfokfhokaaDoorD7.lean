/-
  Contracts of digest: the reference's Undigits and Back.
-/
import Derived.Test.YtlockgfokfhokaaDoorD6
namespace Go.Proofs.YtlockgfokfhokaaDoor
open Go.RowKit
set_option linter.unusedVariables false
set_option linter.unusedSimpArgs false

/-- What Undigits answers for 64 digits. -/
def undP (xs : List UInt8) : List UInt8 × Bool := match unP xs 32 with
  | none => ([], false)
  | some o => (o, true)
def undV (s : ByteArray) : Value := .tuple #[strV (undP s.data.toList).1, .bool (undP s.data.toList).2]



/-
  Contracts of the reference's Data, Node, Size, Area.
-/
import Derived.Test.YtlockgfokfhokaaDoorGE
namespace Go.Proofs.YtlockgfokfhokaaDoor
open Go.RowKit
set_option linter.unusedVariables false
set_option linter.unusedSimpArgs false





end Go.Proofs.YtlockgfokfhokaaDoor


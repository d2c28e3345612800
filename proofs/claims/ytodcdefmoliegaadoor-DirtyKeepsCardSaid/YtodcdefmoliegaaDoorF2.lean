/-
  Contract of the reference's Differ.
-/
import Derived.Test.YtodcdefmoliegaaDoorF1
namespace Go.Proofs.YtodcdefmoliegaaDoor
open Go.RowKit
set_option linter.unusedVariables false
set_option linter.unusedSimpArgs false


end Go.Proofs.YtodcdefmoliegaaDoor


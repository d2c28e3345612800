/-
  Contract of the reference's Differ.
-/
import Derived.Test.YtodcdefmoliegaaGreatDoorF1
namespace Go.Proofs.YtodcdefmoliegaaGreatDoor
open Go.RowKit
set_option linter.unusedVariables false
set_option linter.unusedSimpArgs false


end Go.Proofs.YtodcdefmoliegaaGreatDoor


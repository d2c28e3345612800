/-
  Contract of the reference's Differ.
-/
import Derived.Test.YtdefdmmlmgkpnaaGreatDoorF1
namespace Go.Proofs.YtdefdmmlmgkpnaaGreatDoor
open Go.RowKit
set_option linter.unusedVariables false
set_option linter.unusedSimpArgs false


end Go.Proofs.YtdefdmmlmgkpnaaGreatDoor


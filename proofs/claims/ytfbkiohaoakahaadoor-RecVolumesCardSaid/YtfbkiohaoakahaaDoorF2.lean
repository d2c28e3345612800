/-
  Contract of the reference's Differ.
-/
import Derived.Test.YtfbkiohaoakahaaDoorF1
namespace Go.Proofs.YtfbkiohaoakahaaDoor
open Go.RowKit
set_option linter.unusedVariables false
set_option linter.unusedSimpArgs false


end Go.Proofs.YtfbkiohaoakahaaDoor


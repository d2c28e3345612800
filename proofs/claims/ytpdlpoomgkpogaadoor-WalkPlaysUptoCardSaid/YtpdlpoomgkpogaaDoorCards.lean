/-
  DERIVED. GIVEN WITH THE SEED: THE CARDS: each row of YtpdlpoomgkpogaaDoorRows.lean that lists a variable, with what it lists TIED to the program's text (the seventh form; the later family's looks); each row that meets fmt, with fmt's text TOLD by the authors' own Lean function (tested against real Go, not proved from fmt's source: count such statements apart). THE CARD IS WHAT COUNTS. Prove the row's statement (the work); the ties are given (YtpdlpoomgkpogaaDoorTie.lean); close each card by the builder's one call (the guide's Derived/Test/ToyasCard.lean, 'card_holds'). Laid BY PROGRAM, IN A SANDBOX (cutbox-door.mjs). By AI agents, Wed Nov 11 2026. No macro, syntax, notation, axiom, sorry.
-/
import Derived.Test.YtpdlpoomgkpogaaDoorRows
import GoSem.ClaimSeven
namespace Go.Proofs.YtpdlpoomgkpogaaDoor
namespace Rows

/-- THE TIED CARD OF 'pentimentolaw14.WalkPlays'. -/
def walkPlaysCard : Claim7 := { stood := { row := walkPlaysRow, standIns := [], harness := (true, "af83fa8e9a3bf3313a04d67f17cc84ee6fc2c02c9fc692082f574ee1e60c9f73"), looks := false }, kinds := [], alts := [], laidByText := true, laidKinds := [.data], laidTests := true, laidLooks := .later }
def WalkPlaysCardSaid : Prop := Claim7.holds Tryd.pinned (.plain (OpenSpec.ofChange walkPlaysSpec)) walkPlaysCard

/-- THE SECOND FORM's CARD OF 'pentimentolaw14.WalkPlays'. -/
def walkPlaysUptoCard : Claim7 := { stood := { row := walkPlaysUptoRow, standIns := [], harness := (true, "af83fa8e9a3bf3313a04d67f17cc84ee6fc2c02c9fc692082f574ee1e60c9f73"), looks := false }, kinds := [], alts := [], laidByText := true, laidKinds := [.data], laidTests := true, laidLooks := .later }
def WalkPlaysUptoCardSaid : Prop := Claim7.holds Tryd.pinned (.plain (OpenSpec.upto walkPlaysSpec)) walkPlaysUptoCard
end Rows
end Go.Proofs.YtpdlpoomgkpogaaDoor

/-
  DERIVED. GIVEN WITH THE SEED: THE CARDS: each row of YtpkeikbiblfidaaGreatDoorRows.lean that lists a variable, with what it lists TIED to the program's text (the seventh form; the later family's looks); each row that meets fmt, with fmt's text TOLD by the authors' own Lean function (tested against real Go, not proved from fmt's source: count such statements apart). THE CARD IS WHAT COUNTS. Prove the row's statement (the work); the ties are given (YtpkeikbiblfidaaGreatDoorTie.lean); close each card by the builder's one call (the guide's Derived/Test/ToyasCard.lean, 'card_holds'). Laid BY PROGRAM, IN A SANDBOX (cutbox-door.mjs). By AI agents, Wed Nov 11 2026. No macro, syntax, notation, axiom, sorry.
-/
import Derived.Test.YtpkeikbiblfidaaGreatDoorRows
import GoSem.ClaimSeven
namespace Go.Proofs.YtpkeikbiblfidaaGreatDoor
namespace Rows

/-- THE TIED CARD OF 'pentimentolaw13.NodesPlays'. -/
def nodesPlaysCard : Claim7 := { stood := { row := nodesPlaysRow, standIns := [], harness := (true, "f331e06b3b483862e69c8b5f82dcd1c2de46ad24bc7648b9c3e748db567090a9"), looks := false }, kinds := [], alts := [], laidByText := true, laidKinds := [.data, .data, .pinned], laidTests := true, laidLooks := .later }
def NodesPlaysCardSaid : Prop := Claim7.holds Tryz.pinned (.plain (OpenSpec.ofChange nodesPlaysSpec)) nodesPlaysCard

/-- THE TIED CARD OF 'pentimentolaw13.NodesFresh'. -/
def nodesFreshCard : Claim7 := { stood := { row := nodesFreshRow, standIns := [], harness := (true, "f331e06b3b483862e69c8b5f82dcd1c2de46ad24bc7648b9c3e748db567090a9"), looks := false }, kinds := [], alts := [], laidByText := true, laidKinds := [.data, .data, .pinned], laidTests := true, laidLooks := .later }
def NodesFreshCardSaid : Prop := Claim7.holds Tryz.pinned (.plain (OpenSpec.ofChange nodesFreshSpec)) nodesFreshCard

/-- THE TIED CARD OF 'pentimentolaw20.ScrubFinds'. -/
def scrubFindsCard : Claim7 := { stood := { row := scrubFindsRow, standIns := [], harness := (true, "f331e06b3b483862e69c8b5f82dcd1c2de46ad24bc7648b9c3e748db567090a9"), looks := false }, kinds := [], alts := [], laidByText := true, laidKinds := [.data, .data, .pinned], laidTests := true, laidLooks := .later }
def ScrubFindsCardSaid : Prop := Claim7.holds Tryz.pinned (.plain (OpenSpec.ofChange scrubFindsSpec)) scrubFindsCard

/-- THE TIED CARD OF 'pentimentolaw20.ScrubTells'. -/
def scrubTellsCard : Claim7 := { stood := { row := scrubTellsRow, standIns := [], harness := (true, "f331e06b3b483862e69c8b5f82dcd1c2de46ad24bc7648b9c3e748db567090a9"), looks := false }, kinds := [], alts := [], laidByText := true, laidKinds := [.data, .data, .pinned], laidTests := true, laidLooks := .later }
def ScrubTellsCardSaid : Prop := Claim7.holds Tryz.pinned (.plain (OpenSpec.ofChange scrubTellsSpec)) scrubTellsCard

/-- THE TIED CARD OF 'pentimentolaw20.ScrubEquals'. -/
def scrubEqualsCard : Claim7 := { stood := { row := scrubEqualsRow, standIns := [], harness := (true, "f331e06b3b483862e69c8b5f82dcd1c2de46ad24bc7648b9c3e748db567090a9"), looks := false }, kinds := [], alts := [], laidByText := true, laidKinds := [.data, .data, .pinned], laidTests := true, laidLooks := .later }
def ScrubEqualsCardSaid : Prop := Claim7.holds Tryz.pinned (.plain (OpenSpec.ofChange scrubEqualsSpec)) scrubEqualsCard

/-- THE SECOND FORM's CARD OF 'pentimentolaw13.NodesPlays'. -/
def nodesPlaysUptoCard : Claim7 := { stood := { row := nodesPlaysUptoRow, standIns := [], harness := (true, "f331e06b3b483862e69c8b5f82dcd1c2de46ad24bc7648b9c3e748db567090a9"), looks := false }, kinds := [], alts := [], laidByText := true, laidKinds := [.data, .data, .pinned], laidTests := true, laidLooks := .later }
def NodesPlaysUptoCardSaid : Prop := Claim7.holds Tryz.pinned (.plain (OpenSpec.upto nodesPlaysSpec)) nodesPlaysUptoCard

/-- THE SECOND FORM's CARD OF 'pentimentolaw13.NodesFresh'. -/
def nodesFreshUptoCard : Claim7 := { stood := { row := nodesFreshUptoRow, standIns := [], harness := (true, "f331e06b3b483862e69c8b5f82dcd1c2de46ad24bc7648b9c3e748db567090a9"), looks := false }, kinds := [], alts := [], laidByText := true, laidKinds := [.data, .data, .pinned], laidTests := true, laidLooks := .later }
def NodesFreshUptoCardSaid : Prop := Claim7.holds Tryz.pinned (.plain (OpenSpec.upto nodesFreshSpec)) nodesFreshUptoCard

/-- THE SECOND FORM's CARD OF 'pentimentolaw20.ScrubFinds'. -/
def scrubFindsUptoCard : Claim7 := { stood := { row := scrubFindsUptoRow, standIns := [], harness := (true, "f331e06b3b483862e69c8b5f82dcd1c2de46ad24bc7648b9c3e748db567090a9"), looks := false }, kinds := [], alts := [], laidByText := true, laidKinds := [.data, .data, .pinned], laidTests := true, laidLooks := .later }
def ScrubFindsUptoCardSaid : Prop := Claim7.holds Tryz.pinned (.plain (OpenSpec.upto scrubFindsSpec)) scrubFindsUptoCard

/-- THE SECOND FORM's CARD OF 'pentimentolaw20.ScrubTells'. -/
def scrubTellsUptoCard : Claim7 := { stood := { row := scrubTellsUptoRow, standIns := [], harness := (true, "f331e06b3b483862e69c8b5f82dcd1c2de46ad24bc7648b9c3e748db567090a9"), looks := false }, kinds := [], alts := [], laidByText := true, laidKinds := [.data, .data, .pinned], laidTests := true, laidLooks := .later }
def ScrubTellsUptoCardSaid : Prop := Claim7.holds Tryz.pinned (.plain (OpenSpec.upto scrubTellsSpec)) scrubTellsUptoCard

/-- THE SECOND FORM's CARD OF 'pentimentolaw20.ScrubEquals'. -/
def scrubEqualsUptoCard : Claim7 := { stood := { row := scrubEqualsUptoRow, standIns := [], harness := (true, "f331e06b3b483862e69c8b5f82dcd1c2de46ad24bc7648b9c3e748db567090a9"), looks := false }, kinds := [], alts := [], laidByText := true, laidKinds := [.data, .data, .pinned], laidTests := true, laidLooks := .later }
def ScrubEqualsUptoCardSaid : Prop := Claim7.holds Tryz.pinned (.plain (OpenSpec.upto scrubEqualsSpec)) scrubEqualsUptoCard
end Rows
end Go.Proofs.YtpkeikbiblfidaaGreatDoor

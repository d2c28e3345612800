/-
  DERIVED. GIVEN WITH THE SEED: THE CARDS: each row of YtjohgagiccndpaaGreatDoorRows.lean that lists a variable, with what it lists TIED to the program's text (the seventh form; the later family's looks); each row that meets fmt, with fmt's text TOLD by the authors' own Lean function (tested against real Go, not proved from fmt's source: count such statements apart). THE CARD IS WHAT COUNTS. Prove the row's statement (the work); the ties are given (YtjohgagiccndpaaGreatDoorTie.lean); close each card by the builder's one call (the guide's Derived/Test/ToyasCard.lean, 'card_holds'). Laid BY PROGRAM, IN A SANDBOX (cutbox-door.mjs). By AI agents, Wed Nov 11 2026. No macro, syntax, notation, axiom, sorry.
-/
import Derived.Test.YtjohgagiccndpaaGreatDoorRows
import GoSem.ClaimSeven
namespace Go.Proofs.YtjohgagiccndpaaGreatDoor
namespace Rows

/-- THE TIED CARD OF 'pentimentolaw15.UndoPlays'. -/
def undoPlaysCard : Claim7 := { stood := { row := undoPlaysRow, standIns := [], harness := (true, "ce5f6f8402bff24c8bb31330b9dc7b111cd5346fd756d039ed738a33710c6dc4"), looks := false }, kinds := [], alts := [], laidByText := true, laidKinds := [.data, .pinned], laidTests := true, laidLooks := .later }
def UndoPlaysCardSaid : Prop := Claim7.holds Tryz.pinned (.plain (OpenSpec.ofChange undoPlaysSpec)) undoPlaysCard

/-- THE TIED CARD OF 'pentimentolaw15.UndoKeeps'. -/
def undoKeepsCard : Claim7 := { stood := { row := undoKeepsRow, standIns := [], harness := (true, "ce5f6f8402bff24c8bb31330b9dc7b111cd5346fd756d039ed738a33710c6dc4"), looks := false }, kinds := [], alts := [], laidByText := true, laidKinds := [.data, .pinned], laidTests := true, laidLooks := .later }
def UndoKeepsCardSaid : Prop := Claim7.holds Tryz.pinned (.plain (OpenSpec.ofChange undoKeepsSpec)) undoKeepsCard

/-- THE TIED CARD OF 'pentimentolaw16.RollBack'. -/
def rollBackCard : Claim7 := { stood := { row := rollBackRow, standIns := [], harness := (true, "ce5f6f8402bff24c8bb31330b9dc7b111cd5346fd756d039ed738a33710c6dc4"), looks := false }, kinds := [], alts := [], laidByText := true, laidKinds := [.data, .pinned], laidTests := true, laidLooks := .later }
def RollBackCardSaid : Prop := Claim7.holds Tryz.pinned (.plain (OpenSpec.ofChange rollBackSpec)) rollBackCard

/-- THE TIED CARD OF 'pentimentolaw17.CowPlays'. -/
def cowPlaysCard : Claim7 := { stood := { row := cowPlaysRow, standIns := [], harness := (true, "ce5f6f8402bff24c8bb31330b9dc7b111cd5346fd756d039ed738a33710c6dc4"), looks := false }, kinds := [], alts := [], laidByText := true, laidKinds := [.data, .pinned], laidTests := true, laidLooks := .later }
def CowPlaysCardSaid : Prop := Claim7.holds Tryz.pinned (.plain (OpenSpec.ofChange cowPlaysSpec)) cowPlaysCard

/-- THE TIED CARD OF 'pentimentolaw17.CowKeeps'. -/
def cowKeepsCard : Claim7 := { stood := { row := cowKeepsRow, standIns := [], harness := (true, "ce5f6f8402bff24c8bb31330b9dc7b111cd5346fd756d039ed738a33710c6dc4"), looks := false }, kinds := [], alts := [], laidByText := true, laidKinds := [.data, .pinned], laidTests := true, laidLooks := .later }
def CowKeepsCardSaid : Prop := Claim7.holds Tryz.pinned (.plain (OpenSpec.ofChange cowKeepsSpec)) cowKeepsCard

/-- THE SECOND FORM's CARD OF 'pentimentolaw15.UndoPlays'. -/
def undoPlaysUptoCard : Claim7 := { stood := { row := undoPlaysUptoRow, standIns := [], harness := (true, "ce5f6f8402bff24c8bb31330b9dc7b111cd5346fd756d039ed738a33710c6dc4"), looks := false }, kinds := [], alts := [], laidByText := true, laidKinds := [.data, .pinned], laidTests := true, laidLooks := .later }
def UndoPlaysUptoCardSaid : Prop := Claim7.holds Tryz.pinned (.plain (OpenSpec.upto undoPlaysSpec)) undoPlaysUptoCard

/-- THE SECOND FORM's CARD OF 'pentimentolaw15.UndoKeeps'. -/
def undoKeepsUptoCard : Claim7 := { stood := { row := undoKeepsUptoRow, standIns := [], harness := (true, "ce5f6f8402bff24c8bb31330b9dc7b111cd5346fd756d039ed738a33710c6dc4"), looks := false }, kinds := [], alts := [], laidByText := true, laidKinds := [.data, .pinned], laidTests := true, laidLooks := .later }
def UndoKeepsUptoCardSaid : Prop := Claim7.holds Tryz.pinned (.plain (OpenSpec.upto undoKeepsSpec)) undoKeepsUptoCard

/-- THE SECOND FORM's CARD OF 'pentimentolaw16.RollBack'. -/
def rollBackUptoCard : Claim7 := { stood := { row := rollBackUptoRow, standIns := [], harness := (true, "ce5f6f8402bff24c8bb31330b9dc7b111cd5346fd756d039ed738a33710c6dc4"), looks := false }, kinds := [], alts := [], laidByText := true, laidKinds := [.data, .pinned], laidTests := true, laidLooks := .later }
def RollBackUptoCardSaid : Prop := Claim7.holds Tryz.pinned (.plain (OpenSpec.upto rollBackSpec)) rollBackUptoCard

/-- THE SECOND FORM's CARD OF 'pentimentolaw17.CowPlays'. -/
def cowPlaysUptoCard : Claim7 := { stood := { row := cowPlaysUptoRow, standIns := [], harness := (true, "ce5f6f8402bff24c8bb31330b9dc7b111cd5346fd756d039ed738a33710c6dc4"), looks := false }, kinds := [], alts := [], laidByText := true, laidKinds := [.data, .pinned], laidTests := true, laidLooks := .later }
def CowPlaysUptoCardSaid : Prop := Claim7.holds Tryz.pinned (.plain (OpenSpec.upto cowPlaysSpec)) cowPlaysUptoCard

/-- THE SECOND FORM's CARD OF 'pentimentolaw17.CowKeeps'. -/
def cowKeepsUptoCard : Claim7 := { stood := { row := cowKeepsUptoRow, standIns := [], harness := (true, "ce5f6f8402bff24c8bb31330b9dc7b111cd5346fd756d039ed738a33710c6dc4"), looks := false }, kinds := [], alts := [], laidByText := true, laidKinds := [.data, .pinned], laidTests := true, laidLooks := .later }
def CowKeepsUptoCardSaid : Prop := Claim7.holds Tryz.pinned (.plain (OpenSpec.upto cowKeepsSpec)) cowKeepsUptoCard
end Rows
end Go.Proofs.YtjohgagiccndpaaGreatDoor

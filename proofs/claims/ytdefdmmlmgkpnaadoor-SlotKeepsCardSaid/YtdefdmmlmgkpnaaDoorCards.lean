/-
  DERIVED. GIVEN WITH THE SEED: THE CARDS: each row of YtdefdmmlmgkpnaaDoorRows.lean that lists a variable, with what it lists TIED to the program's text (the seventh form; the later family's looks); each row that meets fmt, with fmt's text TOLD by the authors' own Lean function (tested against real Go, not proved from fmt's source: count such statements apart). THE CARD IS WHAT COUNTS. Prove the row's statement (the work); the ties are given (YtdefdmmlmgkpnaaDoorTie.lean); close each card by the builder's one call (the guide's Derived/Test/ToyasCard.lean, 'card_holds'). Laid BY PROGRAM, IN A SANDBOX (cutbox-door.mjs). By AI agents, Wed Nov 11 2026. No macro, syntax, notation, axiom, sorry.
-/
import Derived.Test.YtdefdmmlmgkpnaaDoorRows
import GoSem.ClaimSeven
namespace Go.Proofs.YtdefdmmlmgkpnaaDoor
namespace Rows

/-- THE TIED CARD OF 'pentimentolaw09.SlotKeeps'. -/
def slotKeepsCard : Claim7 := { stood := { row := slotKeepsRow, standIns := [], harness := (true, "7accacc3b055703ffd85dbe52ef83ca1f37850ddb4fa74c994dcc1ee4ea0222b"), looks := false }, kinds := [], alts := [], laidByText := true, laidKinds := [.data, .pinned], laidTests := true, laidLooks := .later }
def SlotKeepsCardSaid : Prop := Claim7.holds Tryd.pinned (.plain (OpenSpec.ofChange slotKeepsSpec)) slotKeepsCard

/-- THE SECOND FORM's CARD OF 'pentimentolaw09.SlotKeeps'. -/
def slotKeepsUptoCard : Claim7 := { stood := { row := slotKeepsUptoRow, standIns := [], harness := (true, "7accacc3b055703ffd85dbe52ef83ca1f37850ddb4fa74c994dcc1ee4ea0222b"), looks := false }, kinds := [], alts := [], laidByText := true, laidKinds := [.data, .pinned], laidTests := true, laidLooks := .later }
def SlotKeepsUptoCardSaid : Prop := Claim7.holds Tryd.pinned (.plain (OpenSpec.upto slotKeepsSpec)) slotKeepsUptoCard
end Rows
end Go.Proofs.YtdefdmmlmgkpnaaDoor

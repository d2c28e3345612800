/-
  DERIVED. GIVEN WITH THE SEED: THE CARDS: each row of YtfbkiohaoakahaaDoorRows.lean that lists a variable, with what it lists TIED to the program's text (the seventh form; the later family's looks); each row that meets fmt, with fmt's text TOLD by the authors' own Lean function (tested against real Go, not proved from fmt's source: count such statements apart). THE CARD IS WHAT COUNTS. Prove the row's statement (the work); the ties are given (YtfbkiohaoakahaaDoorTie.lean); close each card by the builder's one call (the guide's Derived/Test/ToyasCard.lean, 'card_holds'). Laid BY PROGRAM, IN A SANDBOX (cutbox-door.mjs). By AI agents, Wed Nov 11 2026. No macro, syntax, notation, axiom, sorry.
-/
import Derived.Test.YtfbkiohaoakahaaDoorRows
import GoSem.ClaimSeven
namespace Go.Proofs.YtfbkiohaoakahaaDoor
namespace Rows

/-- THE TIED CARD OF 'pentimentolaw08.RecMakes'. -/
def recMakesCard : Claim7 := { stood := { row := recMakesRow, standIns := [], harness := (true, "7911f39f741cd65854e25fd2a807fb294b682a1201c3b79d1c1eb91a80c08a84"), looks := false }, kinds := [], alts := [], laidByText := true, laidKinds := [.data, .pinned], laidTests := true, laidLooks := .later }
def RecMakesCardSaid : Prop := Claim7.holds Tryd.pinned (.plain (OpenSpec.ofChange recMakesSpec)) recMakesCard

/-- THE TIED CARD OF 'pentimentolaw08.RecOpens'. -/
def recOpensCard : Claim7 := { stood := { row := recOpensRow, standIns := [], harness := (true, "7911f39f741cd65854e25fd2a807fb294b682a1201c3b79d1c1eb91a80c08a84"), looks := false }, kinds := [], alts := [], laidByText := true, laidKinds := [.data, .pinned], laidTests := true, laidLooks := .later }
def RecOpensCardSaid : Prop := Claim7.holds Tryd.pinned (.plain (OpenSpec.ofChange recOpensSpec)) recOpensCard

/-- THE TIED CARD OF 'pentimentolaw08.RecByte'. -/
def recByteCard : Claim7 := { stood := { row := recByteRow, standIns := [], harness := (true, "7911f39f741cd65854e25fd2a807fb294b682a1201c3b79d1c1eb91a80c08a84"), looks := false }, kinds := [], alts := [], laidByText := true, laidKinds := [.data, .pinned], laidTests := true, laidLooks := .later }
def RecByteCardSaid : Prop := Claim7.holds Tryd.pinned (.plain (OpenSpec.ofChange recByteSpec)) recByteCard

/-- THE TIED CARD OF 'pentimentolaw08.RecVolumes'. -/
def recVolumesCard : Claim7 := { stood := { row := recVolumesRow, standIns := [], harness := (true, "7911f39f741cd65854e25fd2a807fb294b682a1201c3b79d1c1eb91a80c08a84"), looks := false }, kinds := [], alts := [], laidByText := true, laidKinds := [.data, .pinned], laidTests := true, laidLooks := .later }
def RecVolumesCardSaid : Prop := Claim7.holds Tryd.pinned (.plain (OpenSpec.ofChange recVolumesSpec)) recVolumesCard

/-- THE SECOND FORM's CARD OF 'pentimentolaw08.RecMakes'. -/
def recMakesUptoCard : Claim7 := { stood := { row := recMakesUptoRow, standIns := [], harness := (true, "7911f39f741cd65854e25fd2a807fb294b682a1201c3b79d1c1eb91a80c08a84"), looks := false }, kinds := [], alts := [], laidByText := true, laidKinds := [.data, .pinned], laidTests := true, laidLooks := .later }
def RecMakesUptoCardSaid : Prop := Claim7.holds Tryd.pinned (.plain (OpenSpec.upto recMakesSpec)) recMakesUptoCard

/-- THE SECOND FORM's CARD OF 'pentimentolaw08.RecOpens'. -/
def recOpensUptoCard : Claim7 := { stood := { row := recOpensUptoRow, standIns := [], harness := (true, "7911f39f741cd65854e25fd2a807fb294b682a1201c3b79d1c1eb91a80c08a84"), looks := false }, kinds := [], alts := [], laidByText := true, laidKinds := [.data, .pinned], laidTests := true, laidLooks := .later }
def RecOpensUptoCardSaid : Prop := Claim7.holds Tryd.pinned (.plain (OpenSpec.upto recOpensSpec)) recOpensUptoCard

/-- THE SECOND FORM's CARD OF 'pentimentolaw08.RecByte'. -/
def recByteUptoCard : Claim7 := { stood := { row := recByteUptoRow, standIns := [], harness := (true, "7911f39f741cd65854e25fd2a807fb294b682a1201c3b79d1c1eb91a80c08a84"), looks := false }, kinds := [], alts := [], laidByText := true, laidKinds := [.data, .pinned], laidTests := true, laidLooks := .later }
def RecByteUptoCardSaid : Prop := Claim7.holds Tryd.pinned (.plain (OpenSpec.upto recByteSpec)) recByteUptoCard

/-- THE SECOND FORM's CARD OF 'pentimentolaw08.RecVolumes'. -/
def recVolumesUptoCard : Claim7 := { stood := { row := recVolumesUptoRow, standIns := [], harness := (true, "7911f39f741cd65854e25fd2a807fb294b682a1201c3b79d1c1eb91a80c08a84"), looks := false }, kinds := [], alts := [], laidByText := true, laidKinds := [.data, .pinned], laidTests := true, laidLooks := .later }
def RecVolumesUptoCardSaid : Prop := Claim7.holds Tryd.pinned (.plain (OpenSpec.upto recVolumesSpec)) recVolumesUptoCard
end Rows
end Go.Proofs.YtfbkiohaoakahaaDoor

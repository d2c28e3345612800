/-
  The package-level table of sha, for digest: what the row's condition gives the walks; the world of the witness; the card's last step.
-/
import Derived.Test.YtangadeihfkhpaaDoorD8
import Derived.Test.YtangadeihfkhpaaDoorB1
import Derived.Test.YtangadeihfkhpaaDoorTie
import Derived.Test.YtangadeihfkhpaaDoorCards
import Derived.LaidMore
import Derived.OpenShut
import Derived.Stop.Joined
import Derived.SevenTiedAt
namespace Go.Proofs.YtangadeihfkhpaaDoor
open Go.ChangeShapes Go.WideShapes Go.ChangeAt Go.RowKit
set_option linter.unusedVariables false

def laidR : List (String × DataW Unit) := [("pentimento/sha.rounds", Rows.laid_pentimento_sha_rounds)]
theorem gR : Tryd.prog.globalNamed "pentimento/sha.rounds" = some 0 := by kernel_rfl
theorem tR : (Tryd.prog.globals[0]?).map (·.type) = some 57 := by kernel_rfl

/-- The door's own heap meets the condition. -/
theorem door_met (os : Os) (args : Array Value) : laidMetH Tryd.prog laidR ((World.doorLaid Tryd.prog 400 os).forCall (fun _ _ => 0) ⟨#[], args, []⟩).memory :=
  laidMetH_of_parts3 (fuel := 8) (laidMet_of_run' 8 (by kernel_rfl) (by kernel_rfl)) (by kernel_rfl) (by kernel_rfl)

theorem rounds_list : (Rows.laid_pentimento_sha_rounds : DataW Unit) = .agg (kon.map fun (n : Nat) => .lit (.int .u32 (n : Int))) := by rfl

theorem of_laid {W : World} (h : laidMetH Tryd.prog laidR W) : Kon W := by
  rw [MakeChecks.laidMetH_plain _ _ _ (by kernel_rfl)] at h
  obtain ⟨ps, ⟨g0, t0, cs0, f0, p0, q0, hg0, ht0, hv0, hd0, _, _⟩, _, _⟩ := h
  obtain rfl := Option.some.inj (gR.symm.trans hg0)
  obtain rfl := Option.some.inj (tR.symm.trans ht0)
  obtain ⟨xs, m1, rfl, hx1, hlen, hn3, hel⟩ := DataW.trod_array Tryd.underlying57 hd0
  have c3 : Tryd.prog.cellsOf 45 = 1 := by kernel_rfl
  intro j hj
  have h0 := hel j hj
  rw [c3, Nat.mul_one] at h0
  have hjx : j < xs.length := by omega
  rw [List.getElem?_eq_getElem hjx] at h0
  obtain ⟨k, e1, e2, _⟩ := DataW.trod_int Tryd.underlying45 h0
  have hx2 := congrArg Prod.fst hx1
  simp only [rounds_list, DataW.agg.injEq] at hx2
  have hjk : j < kon.length := hj
  have hx3 := congrArg (fun l => l[j]?) hx2
  simp only [List.getElem?_map, List.getElem?_eq_getElem hjx, List.getElem?_eq_getElem hjk, Option.map_some, e2, Option.some.injEq, DataW.lit.injEq, Lit.int.injEq, true_and] at hx3
  have := World.var?_cell hg0 hv0 j
  rw [this]
  have e3 : cs0[j]? = some (.int .u32 k) := by
    have e4 := congrArg (fun l => l[0]?) e1
    simpa using e4
  rw [e3, ← hx3]
  simp [konAt, List.getD, List.getElem?_eq_getElem hjk]
end Go.Proofs.YtangadeihfkhpaaDoor

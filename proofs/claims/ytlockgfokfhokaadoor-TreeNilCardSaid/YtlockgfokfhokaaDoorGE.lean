/-
  Contracts of Size and Area; the reference's Size, Data, Node, Area.
-/
import Derived.Test.YtlockgfokfhokaaDoorGD
namespace Go.Proofs.YtlockgfokfhokaaDoor
open Go.RowKit
set_option linter.unusedVariables false
set_option linter.unusedSimpArgs false

theorem sec_ok {N F C U side : Int} (hok : okG N F C U) : 0 ≤ sec C U side ∧ sec C U side ≤ 640 := by
  obtain ⟨_, _, _, _, h1, h2, h3, h4⟩ := hok
  unfold sec; split <;> omega
theorem rsec_ok {N F C U side : Int} (hok : okG N F C U) (hs : isS side) : rsec C U side = sec C U side := by
  obtain ⟨_, _, _, _, h1, h2, h3, h4⟩ := hok
  unfold rsec sec
  rcases hs with rfl | rfl
  · rw [if_pos rfl, if_pos rfl, IntWalk.wrap64_in _ (by omega)]
  · rw [if_neg (show ¬ (1 : Int) = 0 by omega), if_pos rfl, if_neg (show ¬ (1 : Int) = 0 by omega), IntWalk.wrap64_in _ (by omega)]
theorem rsec_no {C U side : Int} (hs : ¬ isS side) : rsec C U side = -1 := by
  unfold rsec
  rw [if_neg (fun h => hs (.inl h)), if_neg (fun h => hs (.inr h))]



end Go.Proofs.YtlockgfokfhokaaDoor


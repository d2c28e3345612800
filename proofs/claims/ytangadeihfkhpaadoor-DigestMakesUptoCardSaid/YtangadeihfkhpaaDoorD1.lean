/-
  Contracts of digest: Right, worth, and the reference's digit.
-/
import Derived.Test.YtangadeihfkhpaaDoorS8
import Derived.Test.YtangadeihfkhpaaDoorS11
namespace Go.Proofs.YtangadeihfkhpaaDoor
open Go.RowKit
set_option linter.unusedVariables false
set_option linter.unusedSimpArgs false

/-- What a digit stands for; -1: it is none. -/
def wor (c : Nat) : Int := if 48 ≤ c ∧ c ≤ 57 then (c : Int) - 48 else if 97 ≤ c ∧ c ≤ 102 then (c : Int) - 87 else -1

set_option maxHeartbeats 400000 in
theorem worth_any (c : Nat) (w : World) (hc : c < 256) :
    Calls Tryd.prog 18 #[.int .u8 c] w fun e w' => e = .returned (.int .i64 (wor c)) ∧ w' = w := by
  by_cases h1 : 48 ≤ c
  · by_cases h2 : c ≤ 57
    · have hw : wor c = (c : Int) - 48 := by unfold wor; rw [if_pos ⟨h1, h2⟩]
      have k1 : (48 : Int) ≤ (c : Int) := by omega
      have k2 : (c : Int) ≤ 57 := by omega
      go_enter Tryd.func18, Tryd.ntmps18
      go_wp2
      go_ret
      exact ⟨by rw [hw]; go_num, rfl⟩
    · have k1 : (48 : Int) ≤ (c : Int) := by omega
      have k2 : ¬ (c : Int) ≤ 57 := by omega
      by_cases h3 : 97 ≤ c ∧ c ≤ 102
      · have hw : wor c = (c : Int) - 87 := by unfold wor; rw [if_neg (by omega), if_pos h3]
        have k3 : (97 : Int) ≤ (c : Int) := by omega
        have k4 : (c : Int) ≤ 102 := by omega
        go_enter Tryd.func18, Tryd.ntmps18
        go_wp2
        go_ret
        exact ⟨congrArg (fun x => Ending.returned (Value.int .i64 x)) (show (c : Int) - 97 + 10 = (c : Int) - 87 by omega), rfl⟩
      · have hw : wor c = -1 := by unfold wor; rw [if_neg (by omega), if_neg h3]
        by_cases h4 : 97 ≤ c
        · have k3 : (97 : Int) ≤ (c : Int) := by omega
          have k4 : ¬ (c : Int) ≤ 102 := by omega
          go_enter Tryd.func18, Tryd.ntmps18
          go_wp2
          go_ret
          exact ⟨rfl, rfl⟩
        · have k3 : ¬ (97 : Int) ≤ (c : Int) := by omega
          go_enter Tryd.func18, Tryd.ntmps18
          go_wp2
          go_ret
          exact ⟨rfl, rfl⟩
  · have hw : wor c = -1 := by unfold wor; rw [if_neg (by omega), if_neg (by omega)]
    have k1 : ¬ (48 : Int) ≤ (c : Int) := by omega
    have k3 : ¬ (97 : Int) ≤ (c : Int) := by omega
    go_enter Tryd.func18, Tryd.ntmps18
    go_wp2
    go_ret
    exact ⟨rfl, rfl⟩

set_option maxHeartbeats 400000 in
theorem rdigit_any (c : Nat) (w : World) (hc : c < 256) :
    Calls Tryd.prog 27 #[.int .u8 c] w fun e w' => e = .returned (.int .i64 (wor c)) ∧ w' = w := by
  by_cases h1 : 48 ≤ c
  · by_cases h2 : c ≤ 57
    · have hw : wor c = (c : Int) - 48 := by unfold wor; rw [if_pos ⟨h1, h2⟩]
      have k1 : (48 : Int) ≤ (c : Int) := by omega
      have k2 : (c : Int) ≤ 57 := by omega
      go_enter Tryd.func27, Tryd.ntmps27
      go_wp2
      go_ret
      exact ⟨by rw [hw]; go_num, rfl⟩
    · have k1 : (48 : Int) ≤ (c : Int) := by omega
      have k2 : ¬ (c : Int) ≤ 57 := by omega
      by_cases h3 : 97 ≤ c ∧ c ≤ 102
      · have hw : wor c = (c : Int) - 87 := by unfold wor; rw [if_neg (by omega), if_pos h3]
        have k3 : (97 : Int) ≤ (c : Int) := by omega
        have k4 : (c : Int) ≤ 102 := by omega
        go_enter Tryd.func27, Tryd.ntmps27
        go_wp2
        go_ret
        exact ⟨congrArg (fun x => Ending.returned (Value.int .i64 x)) (show (c : Int) - 97 + 10 = (c : Int) - 87 by omega), rfl⟩
      · have hw : wor c = -1 := by unfold wor; rw [if_neg (by omega), if_neg h3]
        by_cases h4 : 97 ≤ c
        · have k3 : (97 : Int) ≤ (c : Int) := by omega
          have k4 : ¬ (c : Int) ≤ 102 := by omega
          go_enter Tryd.func27, Tryd.ntmps27
          go_wp2
          go_ret
          exact ⟨rfl, rfl⟩
        · have k3 : ¬ (97 : Int) ≤ (c : Int) := by omega
          go_enter Tryd.func27, Tryd.ntmps27
          go_wp2
          go_ret
          exact ⟨rfl, rfl⟩
  · have hw : wor c = -1 := by unfold wor; rw [if_neg (by omega), if_neg (by omega)]
    have k1 : ¬ (48 : Int) ≤ (c : Int) := by omega
    have k3 : ¬ (97 : Int) ≤ (c : Int) := by omega
    go_enter Tryd.func27, Tryd.ntmps27
    go_wp2
    go_ret
    exact ⟨rfl, rfl⟩
end Go.Proofs.YtangadeihfkhpaaDoor

/-
  Contracts: isWidth, number, Get of the program and of the reference.
-/
import Derived.Test.YtdefdmmlmgkpnaaDoorRows
import Derived.Test.YtdefdmmlmgkpnaaDoorA0
import Derived.Test.YtdefdmmlmgkpnaaDoorB0
import Derived.WalkKit
import Derived.WalkSpells
import Derived.WalkLawsBesides
import Derived.Lib.Hide
namespace Go.Proofs.YtdefdmmlmgkpnaaDoor
open Go.RowKit
set_option linter.unusedVariables false

theorem ret_u64 {a b : Int} (h : a = b) : Ending.returned (.int .u64 a) = .returned (.int .u64 b) := by rw [h]

set_option maxHeartbeats 400000 in
theorem isWidth_yes (n : Int) (w : World) (h1 : 1 ≤ n) (h2 : n ≤ 8) :
    Calls Tryd.prog 25 #[.int .i64 n] w fun e w' => e = .returned (.bool true) ∧ w = w' := by
  go_enter Tryd.func25, Tryd.ntmps25
  go_wp2
  go_ret
  exact ⟨rfl, rfl⟩

set_option maxHeartbeats 400000 in
theorem isWidth_no (n : Int) (w : World) (h : n < 1 ∨ 8 < n) :
    Calls Tryd.prog 25 #[.int .i64 n] w fun e w' => e = .returned (.bool false) ∧ w = w' := by
  rcases h with h | h
  · go_enter Tryd.func25, Tryd.ntmps25
    go_wp2
    go_ret
    exact ⟨rfl, rfl⟩
  · have h1 : 1 ≤ n := by omega
    have h2 : decide (n ≤ 8) = false := by simp; omega
    go_enter Tryd.func25, Tryd.ntmps25
    go_wp2
    go_ret
    exact ⟨rfl, rfl⟩

set_option maxHeartbeats 400000 in
theorem number_any (a : Option Addr) (n cap : Nat) (xs : List UInt8) (w : World) (h : Rd w a n cap xs) (h8 : n ≤ 8) :
    Calls Tryd.prog 44 #[.slice a n cap] w fun e w' => e = .returned (.int .u64 (numN xs : Int)) ∧ w = w' := by
  have hlen := Lib.hid h.len
  go_enter Tryd.func44, Tryd.ntmps44
  go_wp2
  go_loop [3, 8] (fun t i => ∃ k : Nat, k ≤ n ∧ i = .int .i64 k ∧ t = .int .u64 (numN (xs.take k) : Int)) (fun _ i => n - (intOf i).toNat)
  case atStart => exact ⟨0, Nat.zero_le _, rfl, rfl⟩
  case round =>
    obtain ⟨k, hk, rfl, rfl⟩ := hrel
    by_cases hlt : k < n
    · obtain ⟨b, off, rfl, hb, hc⟩ := h.at0 (by omega)
      have hcell := hc k hlt
      clear hc
      go_wp2
      go_round
      case rel => exact ⟨k + 1, by omega, by go_num, by rw [num_step xs k (by rw [hlen.out]; exact hlt) (by omega)]⟩
      case measure => simp [intOf]; omega
    · go_wp2
      go_ret
      exact ⟨ret_u64 (by rw [List.take_of_length_le (by rw [hlen.out]; omega)]), rfl⟩

/-! ### Get -/



/-! ### the reference's Get -/


theorem part_at (xs : List UInt8) (i m k : Nat) (hk : k < m) : ((xs.drop i).take m)[k]?.getD 0 = xs[i + k]?.getD 0 := by
  rw [List.getElem?_take_of_lt hk, List.getElem?_drop]


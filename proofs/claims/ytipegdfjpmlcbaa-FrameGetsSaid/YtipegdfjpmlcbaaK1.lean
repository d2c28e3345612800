/-
  Contracts: the table entry, of the program and of the reference.
-/
import Derived.Test.YtipegdfjpmlcbaaB0
import Derived.Test.YtipegdfjpmlcbaaK0
namespace Go.Proofs.Ytipegdfjpmlcbaa
open Go.RowKit
set_option linter.unusedVariables false

theorem and_one (n : Nat) (h : n < 4294967296) : bits .and .u32 (n : Int) 1 = ((n % 2 : Nat) : Int) := by
  have := u32_and_nat n 1 h (by omega)
  rw [Nat.and_one_is_mod] at this
  exact this

theorem xor_poly (n : Nat) (h : n < 4294967296) : bits .xor .u32 ((n : Int) / 2) 2197175160 = (((n / 2) ^^^ 2197175160 : Nat) : Int) := by
  have := u32_xor_nat (n / 2) 2197175160 (by omega) (by omega)
  rw [← this]
  simp

theorem step_odd (n : Nat) (h : n % 2 = 1) : stepN n = (n / 2) ^^^ 2197175160 := by unfold stepN; rw [if_pos h]
theorem step_even (n : Nat) (h : ¬ n % 2 = 1) : stepN n = n / 2 := by unfold stepN; rw [if_neg h]

set_option maxRecDepth 20000 in
set_option maxHeartbeats 400000 in
theorem entry_any (i : Nat) (w : World) (hi : i < 256) :
    Calls Try.prog 47 #[.int .u8 i] w fun e w' => e = .returned (.int .u32 (ent i : Int)) ∧ w = w' := by
  go_enter Try.func47, Try.ntmps47
  go_wp2
  go_loop [3, 7] (fun t c => ∃ k : Nat, k ≤ 8 ∧ c = .int .i64 k ∧ t = .int .u32 (stepK k i : Int)) (fun _ c => 8 - (intOf c).toNat)
  case atStart => exact ⟨0, by omega, rfl, by simp [stepK]⟩
  case round =>
    obtain ⟨k, hk, rfl, rfl⟩ := hrel
    have hlt := stepK_lt i (by omega) k
    obtain ⟨n, hn⟩ : ∃ n, n = stepK k i := ⟨_, rfl⟩
    have hs : stepK (k + 1) i = stepN (stepK k i) := rfl
    rw [← hn] at hlt hs ⊢
    have HN := Lib.hid hn
    have HS := Lib.hid hs
    have ha := and_one n hlt
    clear hn hs
    by_cases h8 : k < 8
    · by_cases hodd : n % 2 = 1
      · rw [hodd] at ha
        go_wp2
        go_round
        case rel => exact ⟨k + 1, by omega, by go_num, by rw [HS.out, step_odd n hodd, xor_poly n hlt]⟩
        case measure => simp [intOf]; omega
      · rw [show n % 2 = 0 from by omega] at ha
        go_wp2
        go_round
        case rel => exact ⟨k + 1, by omega, by go_num, by rw [HS.out, step_even n hodd]; simp⟩
        case measure => simp [intOf]; omega
    · obtain rfl : k = 8 := by omega
      clear ha
      go_wp2
      go_ret
      exact ⟨by rw [HN.out]; rfl, rfl⟩

set_option maxRecDepth 20000 in
set_option maxHeartbeats 400000 in
theorem rentry_any (i : Nat) (w : World) (hi : i < 256) :
    Calls Try.prog 46 #[.int .u8 i] w fun e w' => e = .returned (.int .u32 (ent i : Int)) ∧ w = w' := by
  go_enter Try.func46, Try.ntmps46
  go_wp2
  go_loop [3, 4] (fun t c => ∃ k : Nat, k ≤ 8 ∧ c = .int .i64 k ∧ t = .int .u32 (stepK k i : Int)) (fun _ c => 8 - (intOf c).toNat)
  case atStart => exact ⟨0, by omega, rfl, by simp [stepK]⟩
  case round =>
    obtain ⟨k, hk, rfl, rfl⟩ := hrel
    have hlt := stepK_lt i (by omega) k
    obtain ⟨n, hn⟩ : ∃ n, n = stepK k i := ⟨_, rfl⟩
    have hs : stepK (k + 1) i = stepN (stepK k i) := rfl
    rw [← hn] at hlt hs ⊢
    have HN := Lib.hid hn
    have HS := Lib.hid hs
    clear hn hs
    by_cases h8 : k < 8
    · by_cases hodd : n % 2 = 1
      · have hodd2 : (n : Int) % 2 = 1 := by omega
        go_wp2
        go_round
        case rel => exact ⟨k + 1, by omega, by go_num, by rw [HS.out, step_odd n hodd, xor_poly n hlt]⟩
        case measure => simp [intOf]; omega
      · have hodd2 : (n : Int) % 2 = 0 := by omega
        go_wp2
        go_round
        case rel => exact ⟨k + 1, by omega, by go_num, by rw [HS.out, step_even n hodd]; simp⟩
        case measure => simp [intOf]; omega
    · obtain rfl : k = 8 := by omega
      go_wp2
      go_ret
      exact ⟨by rw [HN.out]; rfl, rfl⟩

end Go.Proofs.Ytipegdfjpmlcbaa


/-
  Contracts: isWidth, number, Get of the program and of the reference.
-/
import Derived.Test.YtipegdfjpmlcbaaRows
import Derived.Test.YtipegdfjpmlcbaaA0
import Derived.Test.YtipegdfjpmlcbaaB0
import Derived.WalkKit
import Derived.WalkSpells
import Derived.WalkLawsBesides
import Derived.Lib.Hide
namespace Go.Proofs.Ytipegdfjpmlcbaa
open Go.RowKit
set_option linter.unusedVariables false

theorem ret_u64 {a b : Int} (h : a = b) : Ending.returned (.int .u64 a) = .returned (.int .u64 b) := by rw [h]

set_option maxRecDepth 20000 in
set_option maxHeartbeats 400000 in
theorem isWidth_yes (n : Int) (w : World) (h1 : 1 ≤ n) (h2 : n ≤ 8) :
    Calls Try.prog 35 #[.int .i64 n] w fun e w' => e = .returned (.bool true) ∧ w = w' := by
  go_enter Try.func35, Try.ntmps35
  go_wp2
  go_ret
  exact ⟨rfl, rfl⟩

set_option maxRecDepth 20000 in
set_option maxHeartbeats 400000 in
theorem isWidth_no (n : Int) (w : World) (h : n < 1 ∨ 8 < n) :
    Calls Try.prog 35 #[.int .i64 n] w fun e w' => e = .returned (.bool false) ∧ w = w' := by
  rcases h with h | h
  · go_enter Try.func35, Try.ntmps35
    go_wp2
    go_ret
    exact ⟨rfl, rfl⟩
  · have h1 : 1 ≤ n := by omega
    have h2 : decide (n ≤ 8) = false := by simp; omega
    go_enter Try.func35, Try.ntmps35
    go_wp2
    go_ret
    exact ⟨rfl, rfl⟩

set_option maxRecDepth 20000 in
set_option maxHeartbeats 400000 in
theorem number_any (a : Option Addr) (n cap : Nat) (xs : List UInt8) (w : World) (h : Rd w a n cap xs) (h8 : n ≤ 8) :
    Calls Try.prog 42 #[.slice a n cap] w fun e w' => e = .returned (.int .u64 (numN xs : Int)) ∧ w = w' := by
  have hlen := Lib.hid h.len
  go_enter Try.func42, Try.ntmps42
  go_wp2
  go_loop [3, 8] (fun t i => ∃ k : Nat, k ≤ n ∧ i = .int .i64 k ∧ t = .int .u64 (numN (xs.take k) : Int)) (fun _ i => n - (intOf i).toNat)
  case atStart => exact ⟨0, Nat.zero_le _, rfl, rfl⟩
  case round =>
    obtain ⟨k, hk, rfl, rfl⟩ := hrel
    by_cases hlt : k < n
    · obtain ⟨b, off, rfl, hb, hc⟩ := h.at0 (by omega)
      have hcell := hc k hlt
      clear hc
      go_wp2
      go_round
      case rel => exact ⟨k + 1, by omega, by go_num, by rw [num_step xs k (by rw [hlen.out]; exact hlt) (by omega)]⟩
      case measure => simp [intOf]; omega
    · go_wp2
      go_ret
      exact ⟨ret_u64 (by rw [List.take_of_length_le (by rw [hlen.out]; omega)]), rfl⟩

/-! ### Get -/
set_option maxRecDepth 20000 in
set_option maxHeartbeats 400000 in
theorem get_arg (v : Value) (at_ wd : Int) (w : World) (h : wd < 1 ∨ 8 < wd ∨ at_ < 0) :
    Calls Try.prog 25 #[v, .int .i64 at_, .int .i64 wd] w fun e w' => e = .returned (.tuple #[.int .u64 0, .int .i64 2]) ∧ w = w' := by
  by_cases hw : wd < 1 ∨ 8 < wd
  · go_enter Try.func25, Try.ntmps25
    go_wp2_with (go_at_call 35; refine (isWidth_no _ _ hw).mono ?_; rintro e w' ⟨rfl, rfl⟩)
    go_ret2
    exact ⟨rfl, rfl⟩
  · have h1 : 1 ≤ wd := by omega
    have h2 : wd ≤ 8 := by omega
    have h3 : at_ < 0 := by omega
    go_enter Try.func25, Try.ntmps25
    go_wp2_with (go_at_call 35; refine (isWidth_yes _ _ h1 h2).mono ?_; rintro e w' ⟨rfl, rfl⟩)
    go_ret2
    exact ⟨rfl, rfl⟩

set_option maxRecDepth 20000 in
set_option maxHeartbeats 400000 in
theorem get_short (a : Option Addr) (n cap : Nat) (at_ wd : Int) (w : World) (hn : n ≤ 140737488355328) (h1 : 1 ≤ wd) (h2 : wd ≤ 8) (h3 : 0 ≤ at_) (h4 : at_ ≤ 9223372036854775807) (h : (n : Int) - at_ < wd) :
    Calls Try.prog 25 #[.slice a n cap, .int .i64 at_, .int .i64 wd] w fun e w' => e = .returned (.tuple #[.int .u64 0, .int .i64 7]) ∧ w = w' := by
  go_enter Try.func25, Try.ntmps25
  go_wp2_with (go_at_call 35; refine (isWidth_yes _ _ h1 h2).mono ?_; rintro e w' ⟨rfl, rfl⟩)
  go_ret2
  exact ⟨rfl, rfl⟩

set_option maxRecDepth 20000 in
set_option maxHeartbeats 400000 in
theorem get_ok (a : Option Addr) (n cap : Nat) (xs : List UInt8) (at_ wd : Nat) (w : World) (h : Rd w a n cap xs) (h1 : 1 ≤ wd) (h2 : wd ≤ 8) (h3 : at_ + wd ≤ n) :
    Calls Try.prog 25 #[.slice a n cap, .int .i64 at_, .int .i64 wd] w fun e w' => e = .returned (.tuple #[.int .u64 (numN ((xs.drop at_).take wd) : Int), .int .i64 0]) ∧ w = w' := by
  obtain ⟨b, off, rfl, hb, hc⟩ := h.at0 (by omega)
  have hp := h.part rfl at_ wd h3 hb hc
  have hbig := h.big
  have hle := h.le
  clear hc
  go_enter Try.func25, Try.ntmps25
  go_wp2_with (go_at_call 35; refine (isWidth_yes _ _ (by omega) (by omega)).mono ?_; rintro e w' ⟨rfl, rfl⟩)
  refine (number_any _ _ _ _ _ hp (by omega)).mono ?_
  rintro e w' ⟨rfl, rfl⟩
  go_wp2
  go_ret2
  exact ⟨rfl, rfl⟩

/-! ### the reference's Get -/
set_option maxRecDepth 20000 in
set_option maxHeartbeats 400000 in
theorem rget_arg (v : Value) (at_ wd : Int) (w : World) (h : wd < 1 ∨ 8 < wd ∨ at_ < 0) :
    Calls Try.prog 44 #[v, .int .i64 at_, .int .i64 wd] w fun e w' => e = .returned (.tuple #[.int .u64 0, .int .i64 2]) ∧ w = w' := by
  by_cases h1 : wd < 1
  · go_enter Try.func44, Try.ntmps44
    go_wp2
    go_ret2
    exact ⟨rfl, rfl⟩
  · by_cases h2 : 8 < wd
    · go_enter Try.func44, Try.ntmps44
      go_wp2
      go_ret2
      exact ⟨rfl, rfl⟩
    · have h3 : at_ < 0 := by omega
      go_enter Try.func44, Try.ntmps44
      go_wp2
      go_ret2
      exact ⟨rfl, rfl⟩

set_option maxRecDepth 20000 in
set_option maxHeartbeats 400000 in
theorem rget_short (a : Option Addr) (n cap : Nat) (at_ wd : Int) (w : World) (hn : n ≤ 140737488355328) (h1 : 1 ≤ wd) (h2 : wd ≤ 8) (h3 : 0 ≤ at_) (h4 : at_ ≤ 9223372036854775807) (h : (n : Int) - at_ < wd) :
    Calls Try.prog 44 #[.slice a n cap, .int .i64 at_, .int .i64 wd] w fun e w' => e = .returned (.tuple #[.int .u64 0, .int .i64 7]) ∧ w = w' := by
  by_cases h5 : (n : Int) < at_
  · go_enter Try.func44, Try.ntmps44
    go_wp2
    go_ret2
    exact ⟨rfl, rfl⟩
  · go_enter Try.func44, Try.ntmps44
    go_wp2
    go_ret2
    exact ⟨rfl, rfl⟩

theorem part_at (xs : List UInt8) (i m k : Nat) (hk : k < m) : ((xs.drop i).take m)[k]?.getD 0 = xs[i + k]?.getD 0 := by
  rw [List.getElem?_take_of_lt hk, List.getElem?_drop]

set_option maxRecDepth 20000 in
set_option maxHeartbeats 400000 in
theorem rget_ok (a : Option Addr) (n cap : Nat) (xs : List UInt8) (at_ wd : Nat) (w : World) (h : Rd w a n cap xs) (h1 : 1 ≤ wd) (h2 : wd ≤ 8) (h3 : at_ + wd ≤ n) :
    Calls Try.prog 44 #[.slice a n cap, .int .i64 at_, .int .i64 wd] w fun e w' => e = .returned (.tuple #[.int .u64 (numN ((xs.drop at_).take wd) : Int), .int .i64 0]) ∧ w = w' := by
  obtain ⟨b, off, rfl, hb, hc⟩ := h.at0 (by omega)
  have hbig := h.big
  have hle := h.le
  have hlen := Lib.hid h.len
  have HC := Lib.hid hc
  clear hc
  go_enter Try.func44, Try.ntmps44
  go_wp2
  go_loop [8, 9] (fun t i => ∃ k : Nat, k ≤ wd ∧ i = .int .i64 k ∧ t = .int .u64 (numN (((xs.drop at_).take wd).take k) : Int)) (fun _ i => wd - (intOf i).toNat)
  case atStart => exact ⟨0, Nat.zero_le _, rfl, rfl⟩
  case round =>
    obtain ⟨k, hk, rfl, rfl⟩ := hrel
    by_cases hlt : k < wd
    · have hcell := HC.out (at_ + k) (by omega)
      go_wp2
      go_round
      case rel => exact ⟨k + 1, by omega, by go_num, by rw [← num_step_add ((xs.drop at_).take wd) k (by simp; rw [hlen.out]; omega) (by omega), part_at xs at_ wd k hlt]⟩
      case measure => simp [intOf]; omega
    · go_wp2
      go_ret2
      obtain rfl : k = wd := by omega
      exact ⟨by rw [List.take_of_length_le (by simp; omega)]; rfl, rfl⟩
end Go.Proofs.Ytipegdfjpmlcbaa


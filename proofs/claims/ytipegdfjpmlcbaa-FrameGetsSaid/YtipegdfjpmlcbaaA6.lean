/-
  Contracts for every argument: Get and Put of the program and of the reference, told by one plain function each.
-/
import Derived.Test.YtipegdfjpmlcbaaA5
namespace Go.Proofs.Ytipegdfjpmlcbaa
open Go.RowKit
set_option linter.unusedVariables false

/-- What Get answers. -/
def getR (xs : List UInt8) (at_ wd : Int) : Nat × Int :=
  if wd < 1 ∨ 8 < wd ∨ at_ < 0 then (0, 2) else if (xs.length : Int) - at_ < wd then (0, 7) else (numN ((xs.drop at_.toNat).take wd.toNat), 0)

/-- What Put answers. -/
def putR (xs : List UInt8) (wd : Int) (v : Nat) : List UInt8 := if wd < 1 ∨ 8 < wd then xs else xs ++ enc v wd.toNat

theorem get_any (a : Option Addr) (n cap : Nat) (xs : List UInt8) (at_ wd : Int) (w : World) (h : Rd w a n cap xs) (hm : at_ ≤ 9223372036854775807) :
    Calls Try.prog 25 #[.slice a n cap, .int .i64 at_, .int .i64 wd] w fun e w' => e = .returned (.tuple #[.int .u64 ((getR xs at_ wd).1 : Int), .int .i64 (getR xs at_ wd).2]) ∧ w = w' := by
  by_cases h1 : wd < 1 ∨ 8 < wd ∨ at_ < 0
  · have hr : getR xs at_ wd = (0, 2) := by unfold getR; rw [if_pos h1]
    rw [hr]
    exact get_arg _ _ _ _ h1
  · by_cases h2 : (xs.length : Int) - at_ < wd
    · have hr : getR xs at_ wd = (0, 7) := by unfold getR; rw [if_neg h1, if_pos h2]
      rw [hr]
      exact get_short a n cap at_ wd w h.big (by omega) (by omega) (by omega) hm (by rw [← h.len]; exact h2)
    · have hr : getR xs at_ wd = (numN ((xs.drop at_.toNat).take wd.toNat), 0) := by unfold getR; rw [if_neg h1, if_neg h2]
      rw [hr]
      obtain ⟨i, rfl⟩ := Int.eq_ofNat_of_zero_le (a := at_) (by omega)
      obtain ⟨m, rfl⟩ := Int.eq_ofNat_of_zero_le (a := wd) (by omega)
      rw [Int.toNat_natCast, Int.toNat_natCast]
      have := h.len
      exact get_ok a n cap xs i m w h (by omega) (by omega) (by omega)

theorem rget_any (a : Option Addr) (n cap : Nat) (xs : List UInt8) (at_ wd : Int) (w : World) (h : Rd w a n cap xs) (hm : at_ ≤ 9223372036854775807) :
    Calls Try.prog 44 #[.slice a n cap, .int .i64 at_, .int .i64 wd] w fun e w' => e = .returned (.tuple #[.int .u64 ((getR xs at_ wd).1 : Int), .int .i64 (getR xs at_ wd).2]) ∧ w = w' := by
  by_cases h1 : wd < 1 ∨ 8 < wd ∨ at_ < 0
  · have hr : getR xs at_ wd = (0, 2) := by unfold getR; rw [if_pos h1]
    rw [hr]
    exact rget_arg _ _ _ _ h1
  · by_cases h2 : (xs.length : Int) - at_ < wd
    · have hr : getR xs at_ wd = (0, 7) := by unfold getR; rw [if_neg h1, if_pos h2]
      rw [hr]
      exact rget_short a n cap at_ wd w h.big (by omega) (by omega) (by omega) hm (by rw [← h.len]; exact h2)
    · have hr : getR xs at_ wd = (numN ((xs.drop at_.toNat).take wd.toNat), 0) := by unfold getR; rw [if_neg h1, if_neg h2]
      rw [hr]
      obtain ⟨i, rfl⟩ := Int.eq_ofNat_of_zero_le (a := at_) (by omega)
      obtain ⟨m, rfl⟩ := Int.eq_ofNat_of_zero_le (a := wd) (by omega)
      rw [Int.toNat_natCast, Int.toNat_natCast]
      have := h.len
      exact rget_ok a n cap xs i m w h (by omega) (by omega) (by omega)

theorem put_any (a : Option Addr) (n cap : Nat) (xs : List UInt8) (wd : Int) (v : Nat) (w : World) (h : Rd w a n cap xs) (hn : n ≤ 140737488351232) (hv : v < 18446744073709551616) :
    Calls Try.prog 17 #[.slice a n cap, .int .i64 wd, .int .u64 v] w fun e w' => ∃ a' m c, e = .returned (.slice a' m c) ∧ Rd w' a' m c (putR xs wd v) ∧ Below w.heap.size w w' := by
  by_cases h1 : wd < 1 ∨ 8 < wd
  · have hr : putR xs wd v = xs := by unfold putR; rw [if_pos h1]
    rw [hr]
    exact (put_no a n cap xs wd _ w h h1 (by omega)).mono fun e w' ⟨a', c, e1, e2, e3⟩ => ⟨a', n, c, e1, e2, e3⟩
  · have hr : putR xs wd v = xs ++ enc v wd.toNat := by unfold putR; rw [if_neg h1]
    rw [hr]
    obtain ⟨m, rfl⟩ := Int.eq_ofNat_of_zero_le (a := wd) (by omega)
    rw [Int.toNat_natCast]
    exact (put_ok a n cap xs m v w h (by omega) (by omega) hv (by omega)).mono fun e w' ⟨g, c, e1, _, e2, e3⟩ => ⟨_, _, c, e1, e2, e3⟩

theorem rput_any (a : Option Addr) (n cap : Nat) (xs : List UInt8) (wd : Int) (v : Nat) (w : World) (h : Rd w a n cap xs) (hn : n ≤ 140737488351232) (hv : v < 18446744073709551616) :
    Calls Try.prog 40 #[.slice a n cap, .int .i64 wd, .int .u64 v] w fun e w' => ∃ a' m c, e = .returned (.slice a' m c) ∧ Rd w' a' m c (putR xs wd v) ∧ Below w.heap.size w w' := by
  by_cases h1 : wd < 1 ∨ 8 < wd
  · have hr : putR xs wd v = xs := by unfold putR; rw [if_pos h1]
    rw [hr]
    exact (rput_no a n cap xs wd _ w h h1).mono fun e w' ⟨a', c, e1, e2, e3⟩ => ⟨a', n, c, e1, e2, e3⟩
  · have hr : putR xs wd v = xs ++ enc v wd.toNat := by unfold putR; rw [if_neg h1]
    rw [hr]
    obtain ⟨m, rfl⟩ := Int.eq_ofNat_of_zero_le (a := wd) (by omega)
    rw [Int.toNat_natCast]
    exact (rput_ok a n cap xs m v w h (by omega) (by omega) hv (by omega)).mono fun e w' ⟨g, c, e1, e2, e3⟩ => ⟨_, _, c, e1, e2, e3⟩

theorem run_string_rd2 {w : World} {a : Option Addr} {n cap : Nat} {xs : List UInt8} {s : ByteArray} (hs : Hid (s = ⟨xs.toArray⟩)) (h : Rd w a n cap xs) :
    (convert 29 9 (.slice a n cap)).run Try.prog w = .ok (.string s) w := by rw [hs.out]; exact run_string_rd h

end Go.Proofs.Ytipegdfjpmlcbaa


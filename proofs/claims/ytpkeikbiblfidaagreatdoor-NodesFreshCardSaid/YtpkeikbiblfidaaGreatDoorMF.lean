/-
  Texts put together: F0, F1, F2, F3.
-/
import Derived.Test.YtpkeikbiblfidaaGreatDoorME
import Derived.Deep.RegionHeldLaw
import Derived.Laws.BitsLemmas
import Derived.Laws.IdiomStrings
import Derived.Laws.Concat
import Derived.BigQuiet
import Derived.Deep.QuietTactic
import Derived.Lib.MinMax
/-
  Texts, for the sector's laws: a byte of a text, digits of base 16, a text behind a text.
-/
namespace Go.Proofs.YtpkeikbiblfidaaGreatDoor
open Go.RowKit
set_option linter.unusedVariables false
set_option linter.unusedSimpArgs false

/-- A text as the program's value. -/
def strV (xs : List UInt8) : Value := .string ⟨xs.toArray⟩

/-- One of the sixteen digits. -/
def hx (n : Nat) : UInt8 := [48, 49, 50, 51, 52, 53, 54, 55, 56, 57, 97, 98, 99, 100, 101, 102].getD n 0
/-- Bytes in digits of base 16. -/
def hexL : List UInt8 → List UInt8
  | [] => []
  | b :: bs => hx (b.toNat / 16) :: hx (b.toNat % 16) :: hexL bs

theorem hexL_append (xs ys : List UInt8) : hexL (xs ++ ys) = hexL xs ++ hexL ys := by
  induction xs with
  | nil => rfl
  | cons x xs ih => simp [hexL, ih]

theorem hexL_length (xs : List UInt8) : (hexL xs).length = 2 * xs.length := by
  induction xs with
  | nil => rfl
  | cons x xs ih => simp [hexL, ih]; omega

theorem take_next (xs : List UInt8) (k : Nat) (h : k < xs.length) : xs.take (k + 1) = xs.take k ++ [xs[k]?.getD 0] := by
  rw [List.take_add_one, List.getElem?_eq_getElem h]; rfl

theorem hexL_step (xs : List UInt8) (k : Nat) (h : k < xs.length) : hexL (xs.take (k + 1)) = hexL (xs.take k) ++ [hx ((xs[k]?.getD 0).toNat / 16), hx ((xs[k]?.getD 0).toNat % 16)] := by
  rw [take_next xs k h, hexL_append]; rfl

/-- Byte k of a text. -/
theorem index_text (s : ByteArray) (k : Nat) (h : k < s.size) (w : World) : (Instr.index 9 (.string s) (.int .i64 (k : Int))).run Tryz.prog w = .ok (.int .u8 (((s.data.toList)[k]?.getD 0).toNat : Int)) w := by
  rw [run_index_string w 9 s .i64 (k : Int) Tryz.underlying9, dif_pos ⟨by omega, by omega⟩]
  have h' : k < s.data.size := h
  have e : (s.data.toList)[k]?.getD 0 = s[k] := by
    rw [List.getElem?_eq_getElem (by simpa using h')]; rfl
  rw [e]
  rfl

def sixteen : ByteArray := ⟨#[48, 49, 50, 51, 52, 53, 54, 55, 56, 57, 97, 98, 99, 100, 101, 102]⟩
theorem index_digit (n : Nat) (h : n < 16) (w : World) : (Instr.index 9 (.string ⟨#[48, 49, 50, 51, 52, 53, 54, 55, 56, 57, 97, 98, 99, 100, 101, 102]⟩) (.int .u8 (n : Int))).run Tryz.prog w = .ok (.int .u8 ((hx n).toNat : Int)) w := by
  rw [run_index_string w 9 ⟨#[48, 49, 50, 51, 52, 53, 54, 55, 56, 57, 97, 98, 99, 100, 101, 102]⟩ .u8 (n : Int) Tryz.underlying9, dif_pos ⟨by omega, by show (n : Int) < (16 : Nat); omega⟩]
  match n, h with
  | 0, _ => rfl
  | 1, _ => rfl
  | 2, _ => rfl
  | 3, _ => rfl
  | 4, _ => rfl
  | 5, _ => rfl
  | 6, _ => rfl
  | 7, _ => rfl
  | 8, _ => rfl
  | 9, _ => rfl
  | 10, _ => rfl
  | 11, _ => rfl
  | 12, _ => rfl
  | 13, _ => rfl
  | 14, _ => rfl
  | 15, _ => rfl
  | n + 16, h => exact absurd h (by omega)

set_option maxRecDepth 20000 in
theorem digit_cut (n : Nat) (h : n < 16) (w : World) : (Instr.sliceAt 9 (.string ⟨#[48, 49, 50, 51, 52, 53, 54, 55, 56, 57, 97, 98, 99, 100, 101, 102]⟩) (some (.int .u8 (n : Int))) (some (.int .u8 ((n : Int) + 1))) none).run Tryz.prog w = .ok (.string ⟨#[hx n]⟩) w := by
  match n, h with
  | 0, _ => (change _ = _; kernel_rfl)
  | 1, _ => (change _ = _; kernel_rfl)
  | 2, _ => (change _ = _; kernel_rfl)
  | 3, _ => (change _ = _; kernel_rfl)
  | 4, _ => (change _ = _; kernel_rfl)
  | 5, _ => (change _ = _; kernel_rfl)
  | 6, _ => (change _ = _; kernel_rfl)
  | 7, _ => (change _ = _; kernel_rfl)
  | 8, _ => (change _ = _; kernel_rfl)
  | 9, _ => (change _ = _; kernel_rfl)
  | 10, _ => (change _ = _; kernel_rfl)
  | 11, _ => (change _ = _; kernel_rfl)
  | 12, _ => (change _ = _; kernel_rfl)
  | 13, _ => (change _ = _; kernel_rfl)
  | 14, _ => (change _ = _; kernel_rfl)
  | 15, _ => (change _ = _; kernel_rfl)
  | n + 16, h => exact absurd h (by omega)

/-- Two texts, one behind the other. -/
theorem add_texts (xs ys : List UInt8) (hx : xs.length + ys.length ≤ 9223372036854775807) (w : World) : (binOp .add 9 (strV xs) (strV ys)).run Tryz.prog w = .ok (strV (xs ++ ys)) w := by
  unfold strV
  rw [binOp_string_add, run_string_add_sum w _ _ (by simp [ByteArray.size]; omega), ByteArray.mk_append_mk]

/-- Byte i of a text. -/
def bt (xs : List UInt8) (i : Nat) : Nat := (xs[i]?.getD 0).toNat
theorem bt_lt (xs : List UInt8) (i : Nat) : bt xs i < 256 := UInt8.toNat_lt _

end Go.Proofs.YtpkeikbiblfidaaGreatDoor
/-
  Contracts of both Differ.
-/
namespace Go.Proofs.YtpkeikbiblfidaaGreatDoor
open Go.RowKit
set_option linter.unusedVariables false
set_option linter.unusedSimpArgs false

/-- At how many of the first k bytes two texts are not alike, and the first of these. -/
def cnt (a b : List UInt8) : Nat → Nat × Nat
  | 0 => (0, 0)
  | k + 1 => if k < a.length ∧ k < b.length ∧ bt a k = bt b k then cnt a b k else ((cnt a b k).1 + 1, if (cnt a b k).1 = 0 then k else (cnt a b k).2)

theorem cnt_le (a b) : ∀ k, (cnt a b k).1 ≤ k ∧ (cnt a b k).2 ≤ k
  | 0 => ⟨Nat.le_refl _, Nat.le_refl _⟩
  | k + 1 => by
    have := cnt_le a b k
    unfold cnt
    split
    · omega
    · refine ⟨by omega, ?_⟩
      show (if (cnt a b k).1 = 0 then k else (cnt a b k).2) ≤ k + 1
      split <;> omega
theorem cnt_same {a b k} (h : k < a.length ∧ k < b.length ∧ bt a k = bt b k) : cnt a b (k + 1) = cnt a b k := by
  show (if _ then _ else _) = _; rw [if_pos h]
theorem cnt_first {a b k} (h : ¬ (k < a.length ∧ k < b.length ∧ bt a k = bt b k)) (h0 : (cnt a b k).1 = 0) : cnt a b (k + 1) = (1, k) := by
  show (if _ then _ else _) = _; rw [if_neg h, h0]; rfl
theorem cnt_more {a b k} (h : ¬ (k < a.length ∧ k < b.length ∧ bt a k = bt b k)) (h0 : (cnt a b k).1 ≠ 0) : cnt a b (k + 1) = ((cnt a b k).1 + 1, (cnt a b k).2) := by
  show (if _ then _ else _) = _; rw [if_neg h, if_neg h0]

def differ (a b : ByteArray) : Value := .tuple #[.int .i64 ((cnt a.data.toList b.data.toList (max a.size b.size)).1 : Int), .int .i64 ((cnt a.data.toList b.data.toList (max a.size b.size)).2 : Int)]


end Go.Proofs.YtpkeikbiblfidaaGreatDoor
/-
  Contract of the reference's Differ.
-/
namespace Go.Proofs.YtpkeikbiblfidaaGreatDoor
open Go.RowKit
set_option linter.unusedVariables false
set_option linter.unusedSimpArgs false


end Go.Proofs.YtpkeikbiblfidaaGreatDoor
/-
  Contracts of both Pad; the reference's Digits of numbers below 100.
-/
namespace Go.Proofs.YtpkeikbiblfidaaGreatDoor
open Go.RowKit
set_option linter.unusedVariables false
set_option linter.unusedSimpArgs false

/-- A text filled up to a sector. -/
def padL (xs : List UInt8) : List UInt8 := xs ++ List.replicate (64 - xs.length) 0
def padV (s : ByteArray) : Value := if s.size ≤ 64 then .tuple #[strV (padL s.data.toList), .int .i64 0] else .tuple #[strV [], .int .i64 4]

theorem strV_self (s : ByteArray) : strV s.data.toList = .string s := rfl

set_option maxRecDepth 20000 in
set_option maxHeartbeats 400000 in
theorem pad_any (s : ByteArray) (w : World) :
    Calls Tryz.prog 143 #[.string s] w fun e w' => e = .returned (padV s) ∧ Below w.heap.size w w' := by
  by_cases h : s.size ≤ 64
  · have hp : padV s = .tuple #[strV (padL s.data.toList), .int .i64 0] := if_pos h
    have hr := repeat_any 0 0 rfl (64 - (s.size : Int)) (64 - s.size) (by omega) (by omega) ⟨(List.replicate (64 - s.size) 0).toArray⟩ rfl w
    have ha := add_texts s.data.toList (List.replicate (64 - s.size) 0) (by simp; have : s.data.toList.length = s.size := rfl; simp at this; omega)
    have hl : s.data.toList ++ List.replicate (64 - s.size) 0 = padL s.data.toList := rfl
    rw [hl, strV_self] at ha
    change Calls _ _ _ _ fun e w' => e = .returned (strV (List.replicate (64 - s.size) 0)) ∧ Below w.heap.size w w' at hr
    rw [hp]
    generalize strV (padL s.data.toList) = V1 at ha ⊢
    generalize strV (List.replicate (64 - s.size) 0) = V2 at ha hr
    have i1 : (s.size : Int) ≤ 64 := by omega
    have i2 : ¬ (64 : Int) < (s.size : Int) := by omega
    have i3 : (0 : Int) ≤ (s.size : Int) := by omega
    have HR := Lib.hid hr
    clear hr hp hl
    go_enter Tryz.func143, Tryz.ntmps143
    go_wp2_with fail
    refine HR.out.mono ?_
    rintro e w1 ⟨rfl, hb⟩
    go_wp2
    refine bodyPost_ret (results_tmp2 rfl _ _ _) rfl ?_
    exact ⟨rfl, hb⟩
  · have hp : padV s = .tuple #[strV [], .int .i64 4] := if_neg h
    rw [hp]
    have i2 : (64 : Int) < (s.size : Int) := by omega
    clear hp h
    go_enter Tryz.func143, Tryz.ntmps143
    go_wp2
    refine bodyPost_ret (results_tmp2 rfl _ _ _) rfl ?_
    exact ⟨rfl, Below.refl _ _⟩

theorem sec_from (k : Nat) (h : k ≤ 64) (w : World) : (Instr.sliceAt 9 (.string (secOf 0)) (some (.int .i64 (k : Int))) none none).run Tryz.prog w = .ok (strV (List.replicate (64 - k) 0)) w := by
  rw [run_sliceAt_string _ _ _ _ _ _ Tryz.underlying9, run_slice_string_l w 9 (secOf 0) Tryz.underlying9 .i64 (k : Int) (by omega) (by rw [secOf_size]; omega)]
  have e : (secOf 0).extract (k : Int).toNat (secOf 0).size = ⟨(List.replicate (64 - k) (0 : UInt8)).toArray⟩ := by
    apply ByteArray.ext
    rw [ByteArray.data_extract, secOf_size]
    apply Array.toList_inj.mp
    have hrep : ∀ n j : Nat, List.take (n - j) (List.drop j (List.replicate n (0 : UInt8))) = List.replicate (n - j) 0 := fun n j => by rw [List.drop_replicate, List.take_replicate, Nat.min_self]
    rw [Array.toList_extract]
    exact hrep 64 k
  rw [e]; rfl


end Go.Proofs.YtpkeikbiblfidaaGreatDoor

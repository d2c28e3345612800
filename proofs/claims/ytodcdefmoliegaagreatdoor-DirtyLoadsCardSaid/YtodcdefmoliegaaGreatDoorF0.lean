/-
  Texts, for the sector's laws: a byte of a text, digits of base 16, a text behind a text.
-/
import Derived.Test.YtodcdefmoliegaaGreatDoorE0
import Derived.Deep.RegionHeldLaw
import Derived.Laws.BitsLemmas
import Derived.Laws.IdiomStrings
import Derived.Laws.Concat
import Derived.BigQuiet
import Derived.Deep.QuietTactic
import Derived.Lib.MinMax
namespace Go.Proofs.YtodcdefmoliegaaGreatDoor
open Go.RowKit
set_option linter.unusedVariables false
set_option linter.unusedSimpArgs false

/-- A text as the program's value. -/
def strV (xs : List UInt8) : Value := .string ⟨xs.toArray⟩

/-- One of the sixteen digits. -/
def hx (n : Nat) : UInt8 := [48, 49, 50, 51, 52, 53, 54, 55, 56, 57, 97, 98, 99, 100, 101, 102].getD n 0
/-- Bytes in digits of base 16. -/
def hexL : List UInt8 → List UInt8
  | [] => []
  | b :: bs => hx (b.toNat / 16) :: hx (b.toNat % 16) :: hexL bs

theorem hexL_append (xs ys : List UInt8) : hexL (xs ++ ys) = hexL xs ++ hexL ys := by
  induction xs with
  | nil => rfl
  | cons x xs ih => simp [hexL, ih]

theorem hexL_length (xs : List UInt8) : (hexL xs).length = 2 * xs.length := by
  induction xs with
  | nil => rfl
  | cons x xs ih => simp [hexL, ih]; omega

theorem take_next (xs : List UInt8) (k : Nat) (h : k < xs.length) : xs.take (k + 1) = xs.take k ++ [xs[k]?.getD 0] := by
  rw [List.take_add_one, List.getElem?_eq_getElem h]; rfl

theorem hexL_step (xs : List UInt8) (k : Nat) (h : k < xs.length) : hexL (xs.take (k + 1)) = hexL (xs.take k) ++ [hx ((xs[k]?.getD 0).toNat / 16), hx ((xs[k]?.getD 0).toNat % 16)] := by
  rw [take_next xs k h, hexL_append]; rfl

/-- Byte k of a text. -/
theorem index_text (s : ByteArray) (k : Nat) (h : k < s.size) (w : World) : (Instr.index 9 (.string s) (.int .i64 (k : Int))).run Tryz.prog w = .ok (.int .u8 (((s.data.toList)[k]?.getD 0).toNat : Int)) w := by
  rw [run_index_string w 9 s .i64 (k : Int) Tryz.underlying9, dif_pos ⟨by omega, by omega⟩]
  have h' : k < s.data.size := h
  have e : (s.data.toList)[k]?.getD 0 = s[k] := by
    rw [List.getElem?_eq_getElem (by simpa using h')]; rfl
  rw [e]
  rfl

def sixteen : ByteArray := ⟨#[48, 49, 50, 51, 52, 53, 54, 55, 56, 57, 97, 98, 99, 100, 101, 102]⟩
theorem index_digit (n : Nat) (h : n < 16) (w : World) : (Instr.index 9 (.string ⟨#[48, 49, 50, 51, 52, 53, 54, 55, 56, 57, 97, 98, 99, 100, 101, 102]⟩) (.int .u8 (n : Int))).run Tryz.prog w = .ok (.int .u8 ((hx n).toNat : Int)) w := by
  rw [run_index_string w 9 ⟨#[48, 49, 50, 51, 52, 53, 54, 55, 56, 57, 97, 98, 99, 100, 101, 102]⟩ .u8 (n : Int) Tryz.underlying9, dif_pos ⟨by omega, by show (n : Int) < (16 : Nat); omega⟩]
  match n, h with
  | 0, _ => rfl
  | 1, _ => rfl
  | 2, _ => rfl
  | 3, _ => rfl
  | 4, _ => rfl
  | 5, _ => rfl
  | 6, _ => rfl
  | 7, _ => rfl
  | 8, _ => rfl
  | 9, _ => rfl
  | 10, _ => rfl
  | 11, _ => rfl
  | 12, _ => rfl
  | 13, _ => rfl
  | 14, _ => rfl
  | 15, _ => rfl
  | n + 16, h => exact absurd h (by omega)

set_option maxRecDepth 20000 in
theorem digit_cut (n : Nat) (h : n < 16) (w : World) : (Instr.sliceAt 9 (.string ⟨#[48, 49, 50, 51, 52, 53, 54, 55, 56, 57, 97, 98, 99, 100, 101, 102]⟩) (some (.int .u8 (n : Int))) (some (.int .u8 ((n : Int) + 1))) none).run Tryz.prog w = .ok (.string ⟨#[hx n]⟩) w := by
  match n, h with
  | 0, _ => (change _ = _; kernel_rfl)
  | 1, _ => (change _ = _; kernel_rfl)
  | 2, _ => (change _ = _; kernel_rfl)
  | 3, _ => (change _ = _; kernel_rfl)
  | 4, _ => (change _ = _; kernel_rfl)
  | 5, _ => (change _ = _; kernel_rfl)
  | 6, _ => (change _ = _; kernel_rfl)
  | 7, _ => (change _ = _; kernel_rfl)
  | 8, _ => (change _ = _; kernel_rfl)
  | 9, _ => (change _ = _; kernel_rfl)
  | 10, _ => (change _ = _; kernel_rfl)
  | 11, _ => (change _ = _; kernel_rfl)
  | 12, _ => (change _ = _; kernel_rfl)
  | 13, _ => (change _ = _; kernel_rfl)
  | 14, _ => (change _ = _; kernel_rfl)
  | 15, _ => (change _ = _; kernel_rfl)
  | n + 16, h => exact absurd h (by omega)

/-- Two texts, one behind the other. -/
theorem add_texts (xs ys : List UInt8) (hx : xs.length + ys.length ≤ 9223372036854775807) (w : World) : (binOp .add 9 (strV xs) (strV ys)).run Tryz.prog w = .ok (strV (xs ++ ys)) w := by
  unfold strV
  rw [binOp_string_add, run_string_add_sum w _ _ (by simp [ByteArray.size]; omega), ByteArray.mk_append_mk]

/-- Byte i of a text. -/
def bt (xs : List UInt8) (i : Nat) : Nat := (xs[i]?.getD 0).toNat
theorem bt_lt (xs : List UInt8) (i : Nat) : bt xs i < 256 := UInt8.toNat_lt _

end Go.Proofs.YtodcdefmoliegaaGreatDoor


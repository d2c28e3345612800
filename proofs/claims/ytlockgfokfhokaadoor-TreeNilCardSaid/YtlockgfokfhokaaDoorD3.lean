/-
  Contracts of digest: Hex and the reference's.
-/
import Derived.Test.YtlockgfokfhokaaDoorD2
import Derived.Deep.RegionHeldLaw
import Derived.Laws.BitsLemmas
namespace Go.Proofs.YtlockgfokfhokaaDoor
open Go.RowKit
set_option linter.unusedVariables false
set_option linter.unusedSimpArgs false

/-- One of the sixteen digits. -/
def hx (n : Nat) : UInt8 := [48, 49, 50, 51, 52, 53, 54, 55, 56, 57, 97, 98, 99, 100, 101, 102].getD n 0
/-- Bytes in digits of base 16. -/
def hexL : List UInt8 → List UInt8
  | [] => []
  | b :: bs => hx (b.toNat / 16) :: hx (b.toNat % 16) :: hexL bs

theorem hexL_append (xs ys : List UInt8) : hexL (xs ++ ys) = hexL xs ++ hexL ys := by
  induction xs with
  | nil => rfl
  | cons x xs ih => simp [hexL, ih]

theorem hexL_length (xs : List UInt8) : (hexL xs).length = 2 * xs.length := by
  induction xs with
  | nil => rfl
  | cons x xs ih => simp [hexL, ih]; omega

theorem take_next (xs : List UInt8) (k : Nat) (h : k < xs.length) : xs.take (k + 1) = xs.take k ++ [xs[k]?.getD 0] := by
  rw [List.take_add_one, List.getElem?_eq_getElem h]; rfl

theorem hexL_step (xs : List UInt8) (k : Nat) (h : k < xs.length) : hexL (xs.take (k + 1)) = hexL (xs.take k) ++ [hx ((xs[k]?.getD 0).toNat / 16), hx ((xs[k]?.getD 0).toNat % 16)] := by
  rw [take_next xs k h, hexL_append]; rfl

theorem make_c (c : Nat) (h : c ≤ 1000) (w : World) : (Instr.makeSlice 44 (.int .i64 0) (.int .i64 (c : Int))).run Tryd.prog w = .ok (.slice (some ⟨w.heap.size, 0, none⟩) 0 c) (w.alloc (.cells (madeCells #[.int .u8 0] c) 5)) := by
  obtain ⟨i, hi, hz, hs, hb⟩ := info_parts Tryd.info5
  have := run_make (P := Tryd.prog) w 44 5 i (.int .u8 0) Tryd.underlying44 hi hz .i64 .i64 0 (c : Int) (by omega) (by omega) (by rw [hb]; omega) (by omega)
  simp [hs] at this
  exact this

theorem owns_madec {w : World} {B g c : Nat} (hB : B ≤ g) (hc : c ≤ 1000) (h : w.heap[g]? = some (.cells (madeCells #[.int .u8 0] c) 5 (0, 0))) : w.ownsRow B 5 1 (.slice (some ⟨g, 0, none⟩) 0 c) 0 (bvs []) :=
  ⟨rfl, .inr ⟨g, c, _, rfl, hB, h, by omega, by unfold maxLen; omega, by simp [size_madeCells], by simp [bvs]⟩⟩

/-- Byte k of a text. -/
theorem index_text (s : ByteArray) (k : Nat) (h : k < s.size) (w : World) : (Instr.index 9 (.string s) (.int .i64 (k : Int))).run Tryd.prog w = .ok (.int .u8 (((s.data.toList)[k]?.getD 0).toNat : Int)) w := by
  rw [run_index_string w 9 s .i64 (k : Int) Tryd.underlying9, dif_pos ⟨by omega, by omega⟩]
  have h' : k < s.data.size := h
  have e : (s.data.toList)[k]?.getD 0 = s[k] := by
    rw [List.getElem?_eq_getElem (by simpa using h')]; rfl
  rw [e]
  rfl

def sixteen : ByteArray := ⟨#[48, 49, 50, 51, 52, 53, 54, 55, 56, 57, 97, 98, 99, 100, 101, 102]⟩
theorem index_digit (n : Nat) (h : n < 16) (w : World) : (Instr.index 9 (.string ⟨#[48, 49, 50, 51, 52, 53, 54, 55, 56, 57, 97, 98, 99, 100, 101, 102]⟩) (.int .u8 (n : Int))).run Tryd.prog w = .ok (.int .u8 ((hx n).toNat : Int)) w := by
  rw [run_index_string w 9 ⟨#[48, 49, 50, 51, 52, 53, 54, 55, 56, 57, 97, 98, 99, 100, 101, 102]⟩ .u8 (n : Int) Tryd.underlying9, dif_pos ⟨by omega, by show (n : Int) < (16 : Nat); omega⟩]
  match n, h with
  | 0, _ => rfl
  | 1, _ => rfl
  | 2, _ => rfl
  | 3, _ => rfl
  | 4, _ => rfl
  | 5, _ => rfl
  | 6, _ => rfl
  | 7, _ => rfl
  | 8, _ => rfl
  | 9, _ => rfl
  | 10, _ => rfl
  | 11, _ => rfl
  | 12, _ => rfl
  | 13, _ => rfl
  | 14, _ => rfl
  | 15, _ => rfl
  | n + 16, h => exact absurd h (by omega)

/-- What Hex answers. -/
def hexV (s : ByteArray) : Value := if s.size = 32 then strV (hexL s.data.toList) else strV []


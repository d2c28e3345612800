/-
  Contracts of digest: the reference's Digits and Hex.
-/
import Derived.Test.YtlockgfokfhokaaDoorD3
import Derived.BigQuiet
import Derived.Laws.Concat
namespace Go.Proofs.YtlockgfokfhokaaDoor
open Go.RowKit
set_option linter.unusedVariables false
set_option linter.unusedSimpArgs false

set_option maxRecDepth 20000 in
theorem digit_cut (n : Nat) (h : n < 16) (w : World) : (Instr.sliceAt 9 (.string ⟨#[48, 49, 50, 51, 52, 53, 54, 55, 56, 57, 97, 98, 99, 100, 101, 102]⟩) (some (.int .u8 (n : Int))) (some (.int .u8 ((n : Int) + 1))) none).run Tryd.prog w = .ok (.string ⟨#[hx n]⟩) w := by
  match n, h with
  | 0, _ => (change _ = _; kernel_rfl)
  | 1, _ => (change _ = _; kernel_rfl)
  | 2, _ => (change _ = _; kernel_rfl)
  | 3, _ => (change _ = _; kernel_rfl)
  | 4, _ => (change _ = _; kernel_rfl)
  | 5, _ => (change _ = _; kernel_rfl)
  | 6, _ => (change _ = _; kernel_rfl)
  | 7, _ => (change _ = _; kernel_rfl)
  | 8, _ => (change _ = _; kernel_rfl)
  | 9, _ => (change _ = _; kernel_rfl)
  | 10, _ => (change _ = _; kernel_rfl)
  | 11, _ => (change _ = _; kernel_rfl)
  | 12, _ => (change _ = _; kernel_rfl)
  | 13, _ => (change _ = _; kernel_rfl)
  | 14, _ => (change _ = _; kernel_rfl)
  | 15, _ => (change _ = _; kernel_rfl)
  | n + 16, h => exact absurd h (by omega)

/-- Two texts, one behind the other. -/
theorem add_texts (xs ys : List UInt8) (hx : xs.length + ys.length ≤ 9223372036854775807) (w : World) : (binOp .add 9 (strV xs) (strV ys)).run Tryd.prog w = .ok (strV (xs ++ ys)) w := by
  unfold strV
  rw [binOp_string_add, run_string_add_sum w _ _ (by simp [ByteArray.size]; omega), ByteArray.mk_append_mk]


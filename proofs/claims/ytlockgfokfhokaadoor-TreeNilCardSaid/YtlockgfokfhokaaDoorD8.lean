/-
  The fixed calls of the laws of digest; the reference's Leaf and Node.
-/
import Derived.Test.YtlockgfokfhokaaDoorD7
namespace Go.Proofs.YtlockgfokfhokaaDoor
open Go.RowKit
set_option linter.unusedVariables false
set_option linter.unusedSimpArgs false

def dA : List UInt8 := [110, 52, 11, 156, 255, 179, 122, 152, 156, 165, 68, 230, 187, 120, 10, 44, 120, 144, 29, 63, 179, 55, 56, 118, 133, 17, 163, 6, 23, 175, 160, 29]
def dN : List UInt8 := [75, 245, 18, 47, 52, 69, 84, 197, 59, 222, 46, 187, 140, 210, 183, 227, 209, 96, 10, 214, 49, 195, 133, 165, 215, 204, 226, 60, 119, 133, 69, 154]
def dX : List UInt8 := [54, 101, 51, 52, 48, 98, 57, 99, 102, 102, 98, 51, 55, 97, 57, 56, 57, 99, 97, 53, 52, 52, 101, 54, 98, 98, 55, 56, 48, 97, 50, 99, 55, 56, 57, 48, 49, 100, 51, 102, 98, 51, 51, 55, 51, 56, 55, 54, 56, 53, 49, 49, 97, 51, 48, 54, 49, 55, 97, 102, 97, 48, 49, 100]
theorem dig_A : dig [0] = dA := by decide +kernel
theorem dig_N : dig [1] = dN := by decide +kernel
theorem hex_A : hexL dA = dX := by decide +kernel
theorem back_A : backP dX = (dA, 0) := by decide +kernel

theorem len_A (w : World) : (Builtin.len_ #[9] 3 #[strV dA]).run Tryd.prog w = .ok (.int .i64 32) w := by kernel_rfl
theorem len_X (w : World) : (Builtin.len_ #[9] 3 #[strV dX]).run Tryd.prog w = .ok (.int .i64 64) w := by kernel_rfl
theorem neq_NA (w : World) : (binOp .neq 9 (strV dN) (strV dA)).run Tryd.prog w = .ok (.bool true) w := by kernel_rfl
theorem guard_NA (x y : Operand) (w : World) : (eqGuard .neq 9 x y (strV dN) (strV dA)).run Tryd.prog w = .ok () w := by unfold strV; go_simp


/-
  Contract: Count.
-/
import Derived.Test.YtodcdefmoliegaaI7
namespace Go.Proofs.Ytodcdefmoliegaa
open Go.RowKit
set_option linter.unusedVariables false
set_option linter.unusedSimpArgs false

theorem cnt_bitp (a b : Nat) : cnt (bitp a b) 128 = cnt a.testBit 64 + cnt b.testBit 64 := by
  rw [show (128 : Nat) = 64 + 64 from rfl, cnt_add]
  have h1 : cnt (bitp a b) 64 = cnt a.testBit 64 := cnt_congr _ fun i hi => by unfold bitp; rw [if_pos hi]
  have h2 : cnt (fun i => bitp a b (64 + i)) 64 = cnt b.testBit 64 := cnt_congr _ fun i hi => by unfold bitp; rw [if_neg (by omega), Nat.add_sub_cancel_left]
  rw [h1, h2]

theorem index_set (x y : Value) (w : World) : (Instr.index 27 (.agg #[x, y]) (.int .i64 0)).run Try.prog w = .ok x w ∧ (Instr.index 27 (.agg #[x, y]) (.int .i64 1)).run Try.prog w = .ok y w := by
  have u3 := Try.underlying22
  have a3 := Try.isAgg22
  have z3 := Try.sizeOf22
  constructor
  · simp [Instr.index, run_underlying Try.underlying27, asIntOf, go_sem, part, a3, z3]
  · simp [Instr.index, run_underlying Try.underlying27, asIntOf, go_sem, part, a3, z3]


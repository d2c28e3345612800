/-
  Geometries: contracts of within, both Right.
-/
import Derived.Test.YtlockgfokfhokaaDoorG0
namespace Go.Proofs.YtlockgfokfhokaaDoor
open Go.RowKit
set_option linter.unusedVariables false
set_option linter.unusedSimpArgs false

/-- A geometry as a value. -/
def geo (N F C U : Int) : Value := .agg #[.int .i64 N, .int .i64 F, .int .i64 C, .int .i64 U]

/-- A geometry that is valid. -/
def okG (N F C U : Int) : Prop := 1 ≤ N ∧ N ≤ 128 ∧ 2 ≤ F ∧ F ≤ 4 ∧ 0 ≤ C ∧ C ≤ 64 ∧ 1 ≤ U ∧ U ≤ 320
instance (N F C U : Int) : Decidable (okG N F C U) := by unfold okG; infer_instance

set_option maxRecDepth 20000 in
set_option maxHeartbeats 400000 in
theorem within_any (n a b : Int) (w : World) :
    Calls Tryd.prog 64 #[.int .i64 n, .int .i64 a, .int .i64 b] w fun e w' => e = .returned (.bool (decide (a ≤ n ∧ n ≤ b))) ∧ w' = w := by
  go_enter Tryd.func64, Tryd.ntmps64
  go_wp2
  all_goals go_ret
  all_goals refine ⟨?_, rfl⟩
  · rename_i h
    by_cases h2 : n ≤ b <;> simp [h, h2]
  · rename_i h
    have : ¬ (a ≤ n) := by omega
    simp [this]

set_option maxRecDepth 20000 in
set_option maxHeartbeats 400000 in
theorem gright_any (N F C U : Int) (w : World) :
    Calls Tryd.prog 59 #[geo N F C U] w fun e w' => e = .returned (.bool (decide (okG N F C U))) ∧ Below w.heap.size w w' := by
  have hb := fun o => (Below.refl w.heap.size w).alloc (Nat.le_refl _) o
  go_enter Tryd.func59, Tryd.ntmps59
  unfold geo
  go_wp2
  all_goals go_ret
  all_goals refine ⟨congrArg (fun b => Ending.returned (Value.bool b)) ?_, hb _⟩
  · rw [decide_eq_decide]; unfold okG; omega
  all_goals (symm; rw [decide_eq_false_iff_not]; unfold okG; omega)

set_option maxRecDepth 20000 in
set_option maxHeartbeats 400000 in
theorem grright_any (N F C U : Int) (w : World) :
    Calls Tryd.prog 21 #[geo N F C U] w fun e w' => e = .returned (.bool (decide (okG N F C U))) ∧ Below w.heap.size w w' := by
  have hb := fun o => (Below.refl w.heap.size w).alloc (Nat.le_refl _) o
  go_enter Tryd.func21, Tryd.ntmps21
  unfold geo
  go_wp2
  all_goals go_ret
  all_goals refine ⟨congrArg (fun b => Ending.returned (Value.bool b)) ?_, hb _⟩
  · rw [decide_eq_decide]; unfold okG; omega
  all_goals (symm; rw [decide_eq_false_iff_not]; unfold okG; omega)

end Go.Proofs.YtlockgfokfhokaaDoor


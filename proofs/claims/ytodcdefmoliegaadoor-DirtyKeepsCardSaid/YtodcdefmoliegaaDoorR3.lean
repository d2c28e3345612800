/-
  Contract of the reference's Make.
-/
import Derived.Test.YtodcdefmoliegaaDoorR2
namespace Go.Proofs.YtodcdefmoliegaaDoor
open Go.RowKit
set_option linter.unusedVariables false
set_option linter.unusedSimpArgs false

theorem len_str (xs : List UInt8) (w : World) : (Builtin.len_ #[9] 3 #[strV xs]).run Tryd.prog w = .ok (.int .i64 (xs.length : Int)) w := by
  unfold strV
  have : (⟨xs.toArray⟩ : ByteArray).size = xs.length := by show (List.toArray xs).size = _; simp
  rw [← this]
  generalize (⟨xs.toArray⟩ : ByteArray) = s
  go_simp

theorem sec_mid (k : Nat) (h : k ≤ 60) (w : World) : (Instr.sliceAt 9 (.string (secOf 0)) (some (.int .i64 (k : Int))) (some (.int .i64 60)) none).run Tryd.prog w = .ok (strV (List.replicate (60 - k) 0)) w := by
  have e : (.string (secOf 0) : Value) = strV (List.replicate 64 0) := rfl
  rw [e]
  have := cut_both (List.replicate 64 0) k 60 h (by simp) w
  rw [List.take_replicate, List.drop_replicate] at this
  exact this


end Go.Proofs.YtodcdefmoliegaaDoor


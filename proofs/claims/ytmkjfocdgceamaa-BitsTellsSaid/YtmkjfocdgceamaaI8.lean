/-
  Contract: Count.
-/
import Derived.Test.YtmkjfocdgceamaaI7
namespace Go.Proofs.Ytmkjfocdgceamaa
open Go.RowKit
set_option linter.unusedVariables false
set_option linter.unusedSimpArgs false

theorem cnt_bitp (a b : Nat) : cnt (bitp a b) 128 = cnt a.testBit 64 + cnt b.testBit 64 := by
  rw [show (128 : Nat) = 64 + 64 from rfl, cnt_add]
  have h1 : cnt (bitp a b) 64 = cnt a.testBit 64 := cnt_congr _ fun i hi => by unfold bitp; rw [if_pos hi]
  have h2 : cnt (fun i => bitp a b (64 + i)) 64 = cnt b.testBit 64 := cnt_congr _ fun i hi => by unfold bitp; rw [if_neg (by omega), Nat.add_sub_cancel_left]
  rw [h1, h2]

theorem index_set (x y : Value) (w : World) : (Instr.index 26 (.agg #[x, y]) (.int .i64 0)).run Try.prog w = .ok x w ∧ (Instr.index 26 (.agg #[x, y]) (.int .i64 1)).run Try.prog w = .ok y w := by
  have u3 := Try.underlying23
  have a3 := Try.isAgg23
  have z3 := Try.sizeOf23
  constructor
  · simp [Instr.index, run_underlying Try.underlying26, asIntOf, go_sem, part, a3, z3]
  · simp [Instr.index, run_underlying Try.underlying26, asIntOf, go_sem, part, a3, z3]

set_option maxRecDepth 20000 in
set_option maxHeartbeats 2000000 in
theorem count_any (a b : Nat) (w : World) (ha : a < 18446744073709551616) (hb : b < 18446744073709551616) :
    Calls Try.prog 15 #[setV a b] w fun e w' => e = .returned (.int .i64 (cnt (bitp a b) 128 : Int)) ∧ Below w.heap.size w w' := by
  have h1 := fun w => ones_any a w ha
  have h2 := fun w => ones_any b w hb
  have l1 := cnt_le a.testBit 64
  have l2 := cnt_le b.testBit 64
  rw [cnt_bitp]
  generalize cnt a.testBit 64 = p at *
  generalize cnt b.testBit 64 = q at *
  have hB0 : Below w.heap.size w (w.alloc (.cells #[.int .u64 (a : Int), .int .u64 (b : Int)] 26)) := (Below.refl _ w).alloc (Nat.le_refl _) _
  unfold setV
  have x0 := fun w => (index_set (.int .u64 (a : Int)) (.int .u64 (b : Int)) w).1
  have x1 := fun w => (index_set (.int .u64 (a : Int)) (.int .u64 (b : Int)) w).2
  have H1 := Lib.hid h1
  have H2 := Lib.hid h2
  have HB0 := Lib.hid hB0
  clear h1 h2 ha hb hB0
  go_enter Try.func15, Try.ntmps15
  go_wp2
  generalize (w.alloc (.cells #[.int .u64 (a : Int), .int .u64 (b : Int)] 26)) = W0 at *
  go_loopw [3, 7] (fun n i wr => ((n = .int .i64 0 ∧ i = .int .i64 0) ∨ (n = .int .i64 (p : Int) ∧ i = .int .i64 1) ∨ (n = .int .i64 ((p : Int) + (q : Int)) ∧ i = .int .i64 2)) ∧ wr = W0) (fun _ i _ => 2 - (intOf i).toNat)
  case atStart => exact ⟨.inl ⟨rfl, rfl⟩, rfl⟩
  case round =>
    obtain ⟨hk, hw⟩ := hrel
    obtain rfl := hw.symm
    clear hw
    rcases hk with ⟨rfl, rfl⟩ | ⟨rfl, rfl⟩ | ⟨rfl, rfl⟩
    · go_wp2_with fail
      refine (H1.out _).mono ?_
      rintro r w1 ⟨rfl, hw⟩
      obtain rfl := hw.symm
      clear hw
      go_wp2
      exact ⟨⟨.inr (.inl ⟨rfl, rfl⟩), trivial⟩, by simp [intOf]⟩
    · go_wp2_with fail
      refine (H2.out _).mono ?_
      rintro r w1 ⟨rfl, hw⟩
      obtain rfl := hw.symm
      clear hw
      go_wp2
      exact ⟨⟨.inr (.inr ⟨rfl, rfl⟩), trivial⟩, by simp [intOf]⟩
    · go_wp2
      refine bodyPost_ret (results_tmp rfl _ _ _) rfl ?_
      exact ⟨by simp, HB0.out⟩
end Go.Proofs.Ytmkjfocdgceamaa

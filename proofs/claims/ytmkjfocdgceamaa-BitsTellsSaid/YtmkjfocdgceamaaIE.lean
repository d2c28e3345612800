/-
  The fixed calls; the walk of BitsPairs.
-/
import Derived.Test.YtmkjfocdgceamaaID
namespace Go.Proofs.Ytmkjfocdgceamaa
open Go.RowKit
set_option linter.unusedVariables false
set_option linter.unusedSimpArgs false

theorem of_fix1 : ofV [0, 64] = .tuple #[setV 1 1, .int .i64 0] := by
  have h : ofP [0, 64] = ((1, 1), 0) := by decide +kernel
  unfold ofV; rw [h]; rfl
theorem of_fix2 : ofV [128] = .tuple #[setV 0 0, .int .i64 3] := by
  have h : ofP [128] = ((0, 0), 3) := by decide +kernel
  unfold ofV; rw [h]; rfl
theorem list_fix : listL (bitp 1 1) 128 = [0, 64] := by decide +kernel
theorem cnt_fix : cnt (bitp 1 1) 128 = 2 := by decide +kernel

set_option maxRecDepth 20000 in
set_option maxHeartbeats 1000000 in
theorem known_any (w : World) :
    Calls Try.prog 6 #[] w fun e w' => e = .returned (.bool true) ∧ Below w.heap.size w w' := by
  have h1 := of_any (.slice (some ⟨w.heap.size, 0, none⟩) 2 2) [0, 64] (w.alloc (.cells #[.int .i64 0, .int .i64 64] 3)) (li_new w [0, 64] (by simp))
  have h2 := fun (w : World) => of_any (.slice (some ⟨w.heap.size, 0, none⟩) 1 1) [128] (w.alloc (.cells #[.int .i64 128] 3)) (li_new w [128] (by simp))
  have h3 := fun w => count_any 1 1 w (by omega) (by omega)
  have h4 := fun w => list_any 1 1 w (by omega) (by omega)
  rw [of_fix1] at h1
  rw [of_fix2] at h2
  rw [cnt_fix] at h3
  rw [list_fix] at h4
  have q1 : ∀ w, (binOp .eql 26 (.agg #[.int .u64 1, .int .u64 1]) (.agg #[.int .u64 1, .int .u64 1])).run Try.prog w = .ok (.bool true) w := eql_set 1 1 1 1
  have q2 : ∀ op x y w, Sem.run Try.prog (eqGuard op 26 x y (.agg #[.int .u64 1, .int .u64 1]) (.agg #[.int .u64 1, .int .u64 1])) w = .ok () w := fun op x y => guard_set op x y 1 1 1 1
  have hB0 : Below w.heap.size w (w.alloc (.cells #[.int .i64 0, .int .i64 64] 3)) := (Below.refl _ w).alloc (Nat.le_refl _) _
  have H1 := Lib.hid (show Calls Try.prog 7 #[.slice (some ⟨w.heap.size, 0, none⟩) 2 2] (w.alloc (.cells #[.int .i64 0, .int .i64 64] 3)) fun e w' => e = .returned (.tuple #[.agg #[.int .u64 1, .int .u64 1], .int .i64 0]) ∧ Below (w.alloc (.cells #[.int .i64 0, .int .i64 64] 3)).heap.size (w.alloc (.cells #[.int .i64 0, .int .i64 64] 3)) w' from h1)
  have H2 := Lib.hid (show ∀ w : World, Calls Try.prog 7 #[.slice (some ⟨w.heap.size, 0, none⟩) 1 1] (w.alloc (.cells #[.int .i64 128] 3)) fun e w' => e = .returned (.tuple #[.agg #[.int .u64 0, .int .u64 0], .int .i64 3]) ∧ Below (w.alloc (.cells #[.int .i64 128] 3)).heap.size (w.alloc (.cells #[.int .i64 128] 3)) w' from h2)
  have H3 := Lib.hid (show ∀ w, Calls Try.prog 15 #[.agg #[.int .u64 1, .int .u64 1]] w fun e w' => e = .returned (.int .i64 2) ∧ Below w.heap.size w w' from h3)
  have H4 := Lib.hid (show ∀ w, Calls Try.prog 18 #[.agg #[.int .u64 1, .int .u64 1]] w fun e w' => ∃ v, e = .returned v ∧ Lf w' w.heap.size v [0, 64] ∧ Below w.heap.size w w' from h4)
  have HB0 := Lib.hid hB0
  clear h1 h2 h3 h4 hB0
  go_enter Try.func6, Try.ntmps6
  go_wp2_with fail
  refine H1.out.mono ?_
  rintro r w1 ⟨rfl, hb⟩
  have hB1 := HB0.out.trans (hb.mono HB0.out.size)
  have b1 := Box2.new w1 26 (.int .u64 1) (.int .u64 1)
  have hB2 : Below w.heap.size w (w1.alloc (.cells #[.int .u64 1, .int .u64 1] 26)) := hB1.alloc hB1.size _
  clear hb
  have HB2 := Lib.hid hB2
  have hz1 : w.heap.size ≤ w1.heap.size := hB1.size
  obtain ⟨q, hq⟩ : ∃ q, q = w1.heap.size := ⟨_, rfl⟩
  have hz2 : (w1.alloc (.cells #[.int .u64 1, .int .u64 1] 26)).heap.size = w1.heap.size + 1 := World.size_alloc _ _
  rw [← hq] at b1 hz2
  have HB1 := Lib.hid b1
  have HZ2 := Lib.hid hz2
  clear b1 hB1 hB2 hz2
  go_wp2_with fail
  rw [← hq] at hz1 ⊢
  clear hq
  generalize w1.alloc (.cells #[.int .u64 1, .int .u64 1] 26) = W2 at *
  have h2' := H2.out W2
  rw [HZ2.out] at h2'
  refine h2'.mono ?_
  rintro r w3 ⟨rfl, hb⟩
  have b3 := (HB1.out.alloc (.cells #[.int .i64 128] 3)).below hb (HB1.out.alloc _).lt
  have hB3 := (HB2.out.alloc HB2.out.size (.cells #[.int .i64 128] 3)).trans (hb.mono (HB2.out.alloc HB2.out.size (.cells #[.int .i64 128] 3)).size)
  have b4 := b3.alloc (.cells #[.int .u64 0, .int .u64 0] 26)
  have hB4 : Below w.heap.size w (w3.alloc (.cells #[.int .u64 0, .int .u64 0] 26)) := hB3.alloc hB3.size _
  have c0 := b4.c0
  have c1 := b4.c1
  have HB4 := Lib.hid hB4
  have HX4 := Lib.hid b4
  clear hb b3 hB3 b4 hB4
  go_wp2_with fail
  generalize w3.alloc (.cells #[.int .u64 0, .int .u64 0] 26) = W4 at *
  refine (H3.out _).mono ?_
  rintro r w5 ⟨rfl, hb⟩
  have b5 := HX4.out.below hb HX4.out.lt
  have hB5 := HB4.out.trans (hb.mono HB4.out.size)
  have d0 := b5.c0
  have d1 := b5.c1
  have HB5 := Lib.hid hB5
  clear hb b5 hB5
  go_wp2_with fail
  refine (H4.out _).mono ?_
  rintro r w6 ⟨v, rfl, hl, hb⟩
  have hB6 := HB5.out.trans (hb.mono HB5.out.size)
  have hl7 := hl.li.later ((Below.refl w6.heap.size w6).alloc (Nat.le_refl _) (.cells #[.int .i64 0, .int .i64 64] 3))
  have hB7 : Below w.heap.size w (w6.alloc (.cells #[.int .i64 0, .int .i64 64] 3)) := hB6.alloc hB6.size _
  have hi := ints_any v (.slice (some ⟨w6.heap.size, 0, none⟩) 2 2) [0, 64] [0, 64] (w6.alloc (.cells #[.int .i64 0, .int .i64 64] 3)) hl7 (li_new w6 [0, 64] (by simp))
  rw [decide_eq_true rfl] at hi
  have HI := Lib.hid hi
  have HB7 := Lib.hid hB7
  clear hi hB7 hl7 hl hb hB6
  go_wp2_with fail
  refine HI.out.mono ?_
  rintro r w8 ⟨rfl, hd⟩
  have hB8 := HB7.out.trans (hd.below.mono HB7.out.size)
  clear hd
  go_wp2
  refine bodyPost_ret (results_tmp rfl _ _ _) rfl ?_
  exact ⟨rfl, hB8⟩
end Go.Proofs.Ytmkjfocdgceamaa

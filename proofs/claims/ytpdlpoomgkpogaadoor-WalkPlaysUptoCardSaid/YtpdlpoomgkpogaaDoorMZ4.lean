/-
  Texts put together: Z4, Z5.
-/
import Derived.Test.YtpdlpoomgkpogaaDoorMZ2
/-
  What is awaited: the program's first, Next, Done, Counts; the document's Next, Done.
-/
namespace Go.Proofs.YtpdlpoomgkpogaaDoor
open Go.RowKit
set_option linter.unusedVariables false
set_option linter.unusedSimpArgs false

def firstP (s : WS) : Int × (Int × ByteArray) :=
  match s.asks with
  | x :: _ => (1, x)
  | [] => match s.wants with
    | x :: _ => (2, x)
    | [] => (0, (0, noBytes))
theorem OQ.head {w : World} {B : Nat} {e : TypeId} {v : Value} {x : Int × ByteArray} {q : FL} (h : OQ w B e 2 v (x :: q).length (fvs (x :: q))) : ∃ g o cap, v = .slice (some ⟨g, o, none⟩) (x :: q).length cap ∧ v.ownBlock = some g ∧ (x :: q).length ≤ cap ∧ cap ≤ maxLen ∧ w.cell? ⟨g, o, none⟩ = some (.int .i64 x.1) ∧ w.cell? ⟨g, o + 1, none⟩ = some (.string x.2) := by
  obtain ⟨g, o, cap, h1, h2, h3, h4, h5⟩ := h.cell (by simp)
  exact ⟨g, o, cap, h1, h2, h3, h4, h5 0 _ rfl, h5 1 _ rfl⟩

set_option maxRecDepth 20000 in
set_option maxHeartbeats 2000000 in
theorem wfirst_nil (w : World) : Calls Tryd.prog 37 #[.pointer none] w fun e w' => e = .returned (.tuple #[.int .i64 0, .agg #[.int .i64 0, .string noBytes]]) ∧ Below w.heap.size w w' := by
  have hb : Below w.heap.size w (w.alloc (.cells #[.int .i64 0, .string ⟨#[]⟩] 71)) := (Below.refl _ _).alloc (Nat.le_refl _) _
  have HB := Lib.hid hb
  clear hb
  go_enter Tryd.func37, Tryd.ntmps37
  go_wp2
  have t0 : (w.alloc (.cells #[.int .i64 0, .string ⟨#[]⟩] 71)).cell? ⟨w.heap.size, 0, none⟩ = some (.int .i64 0) := by rw [cell_of_blk (heap_alloc_new w _)]; rfl
  have t1 : (w.alloc (.cells #[.int .i64 0, .string ⟨#[]⟩] 71)).cell? ⟨w.heap.size, 1, none⟩ = some (.string ⟨#[]⟩) := by rw [cell_of_blk (heap_alloc_new w _)]; rfl
  refine bodyPost_ret (by simp [results, Tryd.results37, go_sem, t0, t1]; rfl) rfl ?_
  exact ⟨rfl, HB.out⟩

set_option maxRecDepth 20000 in
set_option maxHeartbeats 2000000 in
theorem wfirst_any (B pw : Nat) (va vw : Value) (p : Nat) (v : Value) (N F C U : Int) (L : List ByteArray) (s : WS) (w : World) (h : PW w B pw va vw p v N F C U L s) :
    Calls Tryd.prog 37 #[.pointer (some ⟨pw, 0, none⟩)] w fun e w' => e = .returned (.tuple #[.int .i64 (firstP s).1, .agg #[.int .i64 (firstP s).2.1, .string (firstP s).2.2]]) ∧ Below w.heap.size w w' := by
  obtain ⟨asks, wants, asked, told, came⟩ := s
  have hb : Below w.heap.size w (w.alloc (.cells #[.int .i64 0, .string ⟨#[]⟩] 71)) := (Below.refl _ _).alloc (Nat.le_refl _) _
  have h' := h.below hb
  obtain ⟨⟨aa, ca, rfl⟩, ⟨aw, cw, rfl⟩⟩ := h.shapes
  cases asks with
  | cons x q =>
    obtain ⟨g, o, cap, e1, -, hle, hm, h0, h1⟩ := h'.qa.head
    cases e1
    obtain ⟨-, c1, c2, -, -, -, -⟩ := h'.cells
    have hF : firstP ⟨x :: q, wants, asked, told, came⟩ = (1, x) := rfl
    rw [hF]
    have j1 : (0 : Int) < ((x :: q).length : Int) := by simp only [List.length_cons]; omega
    have hn : 0 < (x :: q).length := by simp
    have hcap : (ca : Int) ≤ 9223372036854775807 := by unfold maxLen at hm; omega
    obtain ⟨xk, xd⟩ := x
    generalize ((xk, xd) :: q).length = n at *
    have hb2 : Below w.heap.size w ((w.alloc (.cells #[.int .i64 xk, .string xd] 71)).drew) := ((Below.refl _ _).alloc (Nat.le_refl _) _).drew
    have t0 : (w.alloc (.cells #[.int .i64 xk, .string xd] 71)).cell? ⟨w.heap.size, 0, none⟩ = some (.int .i64 xk) := by rw [cell_of_blk (heap_alloc_new w _)]; rfl
    have t1 : (w.alloc (.cells #[.int .i64 xk, .string xd] 71)).cell? ⟨w.heap.size, 1, none⟩ = some (.string xd) := by rw [cell_of_blk (heap_alloc_new w _)]; rfl
    have HB := Lib.hid hb2
    clear hb h h' hF hb2
    go_enter Tryd.func37, Tryd.ntmps37
    go_wp2
    go_region
    go_wp2
    refine bodyPost_ret (by simp [results, Tryd.results37, go_sem, t0, t1]; rfl) rfl ?_
    exact ⟨rfl, HB.out⟩
  | nil =>
    have i1 : ¬ (0 : Int) < ((([] : FL).length : Nat) : Int) := by simp
    cases wants with
    | cons x q =>
      obtain ⟨g, o, cap, e1, -, hle, hm, h0, h1⟩ := h'.qw.head
      cases e1
      obtain ⟨-, c1, c2, -, -, -, -⟩ := h'.cells
      have i2 : ¬ (0 : Int) < 0 := by omega
      have hF : firstP ⟨[], x :: q, asked, told, came⟩ = (2, x) := rfl
      rw [hF]
      have j1 : (0 : Int) < ((x :: q).length : Int) := by simp only [List.length_cons]; omega
      have hn : 0 < (x :: q).length := by simp
      have hcap : (cw : Int) ≤ 9223372036854775807 := by unfold maxLen at hm; omega
      obtain ⟨xk, xd⟩ := x
      generalize ((xk, xd) :: q).length = n at *
      have hb2 : Below w.heap.size w ((w.alloc (.cells #[.int .i64 xk, .string xd] 71)).drew) := ((Below.refl _ _).alloc (Nat.le_refl _) _).drew
      have t0 : (w.alloc (.cells #[.int .i64 xk, .string xd] 71)).cell? ⟨w.heap.size, 0, none⟩ = some (.int .i64 xk) := by rw [cell_of_blk (heap_alloc_new w _)]; rfl
      have t1 : (w.alloc (.cells #[.int .i64 xk, .string xd] 71)).cell? ⟨w.heap.size, 1, none⟩ = some (.string xd) := by rw [cell_of_blk (heap_alloc_new w _)]; rfl
      have HB := Lib.hid hb2
      clear hb h h' hF hb2
      go_enter Tryd.func37, Tryd.ntmps37
      go_wp2
      go_region
      go_wp2
      refine bodyPost_ret (by simp [results, Tryd.results37, go_sem, t0, t1]; rfl) rfl ?_
      exact ⟨rfl, HB.out⟩
    | nil =>
      obtain ⟨-, c1, c2, -, -, -, -⟩ := h'.cells
      have t0 : (w.alloc (.cells #[.int .i64 0, .string ⟨#[]⟩] 71)).cell? ⟨w.heap.size, 0, none⟩ = some (.int .i64 0) := by rw [cell_of_blk (heap_alloc_new w _)]; rfl
      have t1 : (w.alloc (.cells #[.int .i64 0, .string ⟨#[]⟩] 71)).cell? ⟨w.heap.size, 1, none⟩ = some (.string ⟨#[]⟩) := by rw [cell_of_blk (heap_alloc_new w _)]; rfl
      have hF : firstP ⟨[], [], asked, told, came⟩ = (0, (0, noBytes)) := rfl
      rw [hF]
      have HB := Lib.hid hb
      clear hb h h' hF
      go_enter Tryd.func37, Tryd.ntmps37
      go_wp2
      refine bodyPost_ret (by simp [results, Tryd.results37, go_sem, t0, t1]; rfl) rfl ?_
      exact ⟨rfl, HB.out⟩
end Go.Proofs.YtpdlpoomgkpogaaDoor
/-
  The program's Next, Done, Counts; the document's Next, Done.
-/
namespace Go.Proofs.YtpdlpoomgkpogaaDoor
open Go.RowKit
set_option linter.unusedVariables false
set_option linter.unusedSimpArgs false

def nextP (s : WS) : Int × Int := ((firstP s).1, (firstP s).2.1)
set_option maxRecDepth 20000 in
set_option maxHeartbeats 1000000 in
theorem next_of (u : Value) (k n : Int) (d : ByteArray) (w : World) (hf : Calls Tryd.prog 37 #[u] w fun e w' => e = .returned (.tuple #[.int .i64 k, .agg #[.int .i64 n, .string d]]) ∧ Below w.heap.size w w') :
    Calls Tryd.prog 13 #[u] w fun e w' => e = .returned (.tuple #[.int .i64 k, .int .i64 n]) ∧ Below w.heap.size w w' := by
  have HF := Lib.hid hf
  clear hf
  go_enter Tryd.func13, Tryd.ntmps13
  go_wp2_with fail
  refine HF.out.mono ?_
  rintro e w1 ⟨rfl, hb⟩
  have hb2 : Below w.heap.size w (w1.alloc (.cells #[.int .i64 n, .string d] 71)) := hb.alloc hb.size _
  have HB := Lib.hid (Fr.of_below (A := fun _ => False) hb2)
  clear hb HF hb2
  have hz : w.heap.size ≤ w.heap.size := Nat.le_refl _
  go_wp2
  go_region
  go_wp2
  refine bodyPost_ret (results_tmp2 rfl _ _ _) rfl ?_
  exact ⟨rfl, HB.out.os, HB.out.tape, HB.out.output, HB.out.size, fun k hk => HB.out.block k hk id⟩
set_option maxRecDepth 20000 in
set_option maxHeartbeats 1000000 in
theorem done_of (u : Value) (k n : Int) (d : ByteArray) (w : World) (hf : Calls Tryd.prog 37 #[u] w fun e w' => e = .returned (.tuple #[.int .i64 k, .agg #[.int .i64 n, .string d]]) ∧ Below w.heap.size w w') :
    Calls Tryd.prog 16 #[u] w fun e w' => e = .returned (.bool (k == 0)) ∧ Below w.heap.size w w' := by
  have HF := Lib.hid hf
  clear hf
  go_enter Tryd.func16, Tryd.ntmps16
  go_wp2_with fail
  refine HF.out.mono ?_
  rintro e w1 ⟨rfl, hb⟩
  have hb2 : Below w.heap.size w (w1.alloc (.cells #[.int .i64 n, .string d] 71)) := hb.alloc hb.size _
  have HB := Lib.hid hb2
  clear hb HF hb2
  go_wp2
  go_ret
  exact ⟨rfl, HB.out⟩
set_option maxRecDepth 20000 in
set_option maxHeartbeats 1000000 in
theorem counts_nil (w : World) : Calls Tryd.prog 15 #[.pointer none] w fun e w' => e = .returned (.tuple #[.int .i64 0, .int .i64 0, .int .i64 0]) ∧ Below w.heap.size w w' := by
  go_enter Tryd.func15, Tryd.ntmps15
  go_wp2
  refine bodyPost_ret (by simp [results, Tryd.results15, go_sem]; rfl) rfl ?_
  exact ⟨rfl, Below.refl _ _⟩
set_option maxRecDepth 20000 in
set_option maxHeartbeats 1000000 in
theorem counts_any (B pw : Nat) (va vw : Value) (p : Nat) (v : Value) (N F C U : Int) (L : List ByteArray) (s : WS) (w : World) (h : PW w B pw va vw p v N F C U L s) :
    Calls Tryd.prog 15 #[.pointer (some ⟨pw, 0, none⟩)] w fun e w' => e = .returned (.tuple #[.int .i64 s.asked, .int .i64 s.told, .int .i64 s.came]) ∧ Below w.heap.size w w' := by
  obtain ⟨-, -, -, c3, c4, c5, -⟩ := h.cells
  clear h
  have HB := Lib.hid (fun nq => below_drewN (Below.refl w.heap.size w) nq)
  go_enter Tryd.func15, Tryd.ntmps15
  go_wp2
  go_quiet (fail)
  go_wp2
  refine bodyPost_ret (by simp [results, Tryd.results15, go_sem]; rfl) rfl ?_
  exact ⟨rfl, HB.out _⟩
set_option maxRecDepth 20000 in
set_option maxHeartbeats 2000000 in
theorem rnext_any (B pw : Nat) (va vw : Value) (p : Nat) (v : Value) (N F C U : Int) (L : List ByteArray) (s : WS) (w : World) (h : RW w B pw va vw p v N F C U L s) :
    Calls Tryd.prog 14 #[.pointer (some ⟨pw, 0, none⟩)] w fun e w' => e = .returned (.tuple #[.int .i64 (nextP s).1, .int .i64 (nextP s).2]) ∧ Below w.heap.size w w' := by
  have HB := Lib.hid (fun nq => below_drewN (Below.refl w.heap.size w) nq)
  obtain ⟨asks, wants, asked, told, came⟩ := s
  obtain ⟨⟨aa, ca, rfl⟩, ⟨aw, cw, rfl⟩⟩ := h.shapes
  cases asks with
  | cons x q =>
    obtain ⟨g, o, cap, e1, -, hle, hm, h0, h1⟩ := h.qa.head
    cases e1
    obtain ⟨-, c1, c2, -, -, -, -⟩ := h.cells
    have hF : nextP ⟨x :: q, wants, asked, told, came⟩ = (1, x.1) := rfl
    rw [hF]
    have j1 : (0 : Int) < ((x :: q).length : Int) := by simp only [List.length_cons]; omega
    have hn : 0 < (x :: q).length := by simp
    have hcap : (ca : Int) ≤ 9223372036854775807 := by unfold maxLen at hm; omega
    obtain ⟨xk, xd⟩ := x
    generalize ((xk, xd) :: q).length = n at *
    clear h hF
    go_enter Tryd.func14, Tryd.ntmps14
    go_wp2
    go_quiet (fail)
    go_wp2
    refine bodyPost_ret (results_tmp2 rfl _ _ _) rfl ?_
    exact ⟨rfl, HB.out _⟩
  | nil =>
    have i1 : ¬ (0 : Int) < ((([] : FL).length : Nat) : Int) := by simp
    cases wants with
    | cons x q =>
      obtain ⟨g, o, cap, e1, -, hle, hm, h0, h1⟩ := h.qw.head
      cases e1
      obtain ⟨-, c1, c2, -, -, -, -⟩ := h.cells
      have hF : nextP ⟨[], x :: q, asked, told, came⟩ = (2, x.1) := rfl
      rw [hF]
      have j1 : (0 : Int) < ((x :: q).length : Int) := by simp only [List.length_cons]; omega
      have hn : 0 < (x :: q).length := by simp
      have hcap : (cw : Int) ≤ 9223372036854775807 := by unfold maxLen at hm; omega
      obtain ⟨xk, xd⟩ := x
      generalize ((xk, xd) :: q).length = n at *
      clear h hF
      go_enter Tryd.func14, Tryd.ntmps14
      go_wp2
      go_quiet (fail)
      go_wp2
      refine bodyPost_ret (results_tmp2 rfl _ _ _) rfl ?_
      exact ⟨rfl, HB.out _⟩
    | nil =>
      obtain ⟨-, c1, c2, -, -, -, -⟩ := h.cells
      have hF : nextP ⟨[], [], asked, told, came⟩ = (0, 0) := rfl
      rw [hF]
      clear h hF
      go_enter Tryd.func14, Tryd.ntmps14
      go_wp2
      refine bodyPost_ret (results_tmp2 rfl _ _ _) rfl ?_
      exact ⟨rfl, Below.refl _ _⟩
theorem firstP_done (s : WS) : ((firstP s).1 == 0) = ((s.asks.length + s.wants.length == 0 : Bool)) := by
  obtain ⟨asks, wants, asked, told, came⟩ := s
  cases asks <;> cases wants <;> simp [firstP]
set_option maxRecDepth 20000 in
set_option maxHeartbeats 1000000 in
theorem rdone_any (B pw : Nat) (va vw : Value) (p : Nat) (v : Value) (N F C U : Int) (L : List ByteArray) (s : WS) (w : World) (h : RW w B pw va vw p v N F C U L s) (ha : s.asks.length ≤ 100000) (hw : s.wants.length ≤ 100000) :
    Calls Tryd.prog 17 #[.pointer (some ⟨pw, 0, none⟩)] w fun e w' => e = .returned (.bool ((firstP s).1 == 0)) ∧ Below w.heap.size w w' := by
  have HB := Lib.hid (fun nq => below_drewN (Below.refl w.heap.size w) nq)
  rw [firstP_done]
  obtain ⟨⟨aa, ca, rfl⟩, ⟨aw, cw, rfl⟩⟩ := h.shapes
  obtain ⟨-, c1, c2, -, -, -, -⟩ := h.cells
  generalize s.asks.length = n1 at *
  generalize s.wants.length = n2 at *
  have hr : (((n1 + n2 : Nat) : Int) == 0) = ((n1 + n2 == 0 : Bool)) := by
    by_cases h : n1 + n2 = 0
    · rw [h]; rfl
    · have h1 : ¬ (((n1 + n2 : Nat) : Int) = 0) := by omega
      rw [beq_eq_false_iff_ne.2 h1, beq_eq_false_iff_ne.2 h]
  have hwr : IntKind.i64.wrap ((n1 : Int) + (n2 : Int)) = ((n1 + n2 : Nat) : Int) := (IntWalk.i64_in _ (by omega)).trans (by push_cast; rfl)
  generalize (n1 + n2 == 0 : Bool) = r at *
  generalize (n1 + n2 : Nat) = m at *
  clear h
  go_enter Tryd.func17, Tryd.ntmps17
  go_wp2
  go_quiet (fail)
  go_wp2
  go_ret
  exact ⟨by simp [hr], HB.out _⟩
end Go.Proofs.YtpdlpoomgkpogaaDoor

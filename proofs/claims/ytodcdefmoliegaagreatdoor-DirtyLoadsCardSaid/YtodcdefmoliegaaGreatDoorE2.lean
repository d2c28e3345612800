/-
  Contracts of the program's disk: state, has, burn, forget, Len, Down, Done, Kept, Fuse, Up, Write.
-/
import Derived.Test.YtodcdefmoliegaaGreatDoorE1
import Derived.Lib.MinMax
namespace Go.Proofs.YtodcdefmoliegaaGreatDoor
open Go.RowKit
set_option linter.unusedVariables false
set_option linter.unusedSimpArgs false

/-- The program's disk at block p. -/
def PD (w : World) (B p : Nat) (v1 v2 : Value) (S : DS) : Prop :=
  ∃ fu : Int, Dk w B p 61 [.bool S.off, .bool (decide (0 ≤ S.left)), .int .i64 fu, .int .i64 (S.did : Int)] v1 v2 S ∧ (0 ≤ S.left → fu = S.left)

theorem PD.dk {w B p v1 v2 S} (h : PD w B p v1 v2 S) : ∃ rest, Dk w B p 61 rest v1 v2 S := by
  obtain ⟨fu, h, _⟩ := h; exact ⟨_, h⟩
theorem PD.lt {w B p v1 v2 S} (h : PD w B p v1 v2 S) : p < w.heap.size := by obtain ⟨_, d⟩ := h.dk; exact d.lt
theorem PD.low {w B p v1 v2 S} (h : PD w B p v1 v2 S) : B ≤ p := by obtain ⟨_, d⟩ := h.dk; exact d.low
theorem PD.foot_low {w B p v1 v2 S} (h : PD w B p v1 v2 S) : ∀ k, foot p v1 v2 k → B ≤ k ∧ k < w.heap.size := by obtain ⟨_, d⟩ := h.dk; exact d.foot_low
theorem PD.kept {w w' : World} {B p v1 v2 S} (h : PD w B p v1 v2 S) (hk : ∀ k, foot p v1 v2 k → w'.heap[k]? = w.heap[k]?) : PD w' B p v1 v2 S := by
  obtain ⟨fu, d, e⟩ := h; exact ⟨fu, d.kept hk, e⟩
theorem PD.fr {w w' : World} {A : Nat → Prop} {B p v1 v2 S} (h : PD w B p v1 v2 S) (hf : Fr A w w') (hd : ∀ k, foot p v1 v2 k → ¬ A k) : PD w' B p v1 v2 S :=
  h.kept fun k hk => hf.block k (h.foot_low k hk).2 (hd k hk)
theorem PD.below {w w' : World} {B p v1 v2 S} (h : PD w B p v1 v2 S) (hb : Below w.heap.size w w') : PD w' B p v1 v2 S := h.kept fun k hk => hb.block k (h.foot_low k hk).2

/-- What a call leaves of the disk. -/
def PP (w : World) (B p : Nat) (v1 v2 : Value) (S : DS) (w' : World) : Prop :=
  ∃ v1' v2', PD w' B p v1' v2' S ∧ Fr (foot p v1 v2) w w' ∧ ∀ k, foot p v1' v2' k → foot p v1 v2 k ∨ w.heap.size ≤ k

theorem PP.same {w : World} {B p v1 v2 S} (h : PD w B p v1 v2 S) : PP w B p v1 v2 S w := ⟨v1, v2, h, Fr.refl _ _, fun k hk => .inl hk⟩

theorem PD.cells {w B p v1 v2 S} (h : PD w B p v1 v2 S) : ∃ fu : Int, (0 ≤ S.left → fu = S.left) ∧ w.cell? ⟨p, 0, none⟩ = some v1 ∧ w.cell? ⟨p, 1, none⟩ = some v2 ∧ w.cell? ⟨p, 2, none⟩ = some (.bool S.off) ∧
    w.cell? ⟨p, 3, none⟩ = some (.bool (decide (0 ≤ S.left))) ∧ w.cell? ⟨p, 4, none⟩ = some (.int .i64 fu) ∧ w.cell? ⟨p, 5, none⟩ = some (.int .i64 (S.did : Int)) ∧ (∀ i, w.frozen? ⟨p, i, none⟩ = false) := by
  obtain ⟨fu, d, e⟩ := h
  exact ⟨fu, e, by rw [cell_of_blk d.blk]; rfl, by rw [cell_of_blk d.blk]; rfl, by rw [cell_of_blk d.blk]; rfl, by rw [cell_of_blk d.blk]; rfl, by rw [cell_of_blk d.blk]; rfl, by rw [cell_of_blk d.blk]; rfl, fun i => free_of_blk d.blk i⟩

/-- The head has been written: what there is then. -/
theorem PD.head {w w' : World} {B p v1 v2 v2' S S'} (h : PD w B p v1 v2 S) (hg : w.grownBy w' (some p)) (fu : Int) {cs : Array Value} (hb : w'.heap[p]? = some (.cells cs 61 (0, 0)))
    (hcs : cs = #[v1, v2', .bool S'.off, .bool (decide (0 ≤ S'.left)), .int .i64 fu, .int .i64 (S'.did : Int)])
    (hf : 0 ≤ S'.left → fu = S'.left) (hL : S'.L = S.L) (hW : v2' = v2 ∧ S'.W = S.W ∨ v2' = .slice none 0 0 ∧ S'.W = []) : PD w' B p v1 v2' S' := by
  subst hcs
  obtain ⟨f0, d, e⟩ := h
  exact ⟨fu, d.head hg (by decide) (by decide) hb hL hW, hf⟩

theorem fr_head {w w' : World} {p : Nat} {v1 v2 : Value} (hg : w.grownBy w' (some p)) : Fr (foot p v1 v2) w w' := (Fr.refl _ _).grown hg (fun k e => by cases e; exact .inl (.inl rfl))

theorem PP.head {w w' : World} {B p v1 v2 v2' S'} (h' : PD w' B p v1 v2' S') (hg : w.grownBy w' (some p)) (hv : v2' = v2 ∨ v2' = .slice none 0 0) : PP w B p v1 v2 S' w' := by
  refine ⟨v1, v2', h', fr_head hg, ?_⟩
  rintro k (rfl | e | e)
  · exact .inl (.inl rfl)
  · exact .inl (.inr (.inl e))
  · rcases hv with rfl | rfl
    · exact .inl (.inr (.inr e))
    · simp [Value.ownBlock] at e

theorem PD.blk {w B p v1 v2 S} (h : PD w B p v1 v2 S) : ∃ fu : Int, (0 ≤ S.left → fu = S.left) ∧ w.heap[p]? = some (.cells #[v1, v2, .bool S.off, .bool (decide (0 ≤ S.left)), .int .i64 fu, .int .i64 (S.did : Int)] 61 (0, 0)) := by
  obtain ⟨fu, d, e⟩ := h
  exact ⟨fu, e, d.blk⟩

set_option maxRecDepth 20000 in
set_option maxHeartbeats 400000 in
theorem state_any (p : Nat) (c : Bool) (w : World) (hc : w.cell? ⟨p, 2, none⟩ = some (.bool c)) :
    Calls Tryz.prog 25 #[.pointer (some ⟨p, 0, none⟩)] w fun e w' => e = .returned (.int .i64 (if c = true then 5 else 0)) ∧ w' = w := by
  cases c <;> (
  go_enter Tryz.func25, Tryz.ntmps25
  go_wp2
  go_ret
  exact ⟨rfl, rfl⟩)

set_option maxRecDepth 20000 in
set_option maxHeartbeats 400000 in
theorem state_nil (w : World) :
    Calls Tryz.prog 25 #[.pointer none] w fun e w' => e = .returned (.int .i64 1) ∧ w' = w := by
  go_enter Tryz.func25, Tryz.ntmps25
  go_wp2
  go_ret
  exact ⟨rfl, rfl⟩

set_option maxRecDepth 20000 in
set_option maxHeartbeats 400000 in
theorem has_any (p : Nat) (at' : Int) (a : Option Addr) (n c : Nat) (w : World) (hc : w.cell? ⟨p, 0, none⟩ = some (.slice a n c)) :
    Calls Tryz.prog 26 #[.pointer (some ⟨p, 0, none⟩), .int .i64 at'] w fun e w' => e = .returned (.bool (decide (0 ≤ at' ∧ at' < (n : Int)))) ∧ w' = w := by
  by_cases h0 : 0 ≤ at'
  · by_cases h1 : at' < (n : Int)
    · go_enter Tryz.func26, Tryz.ntmps26
      go_wp2
      go_ret
      exact ⟨by simp [h0, h1], rfl⟩
    · go_enter Tryz.func26, Tryz.ntmps26
      go_wp2
      go_ret
      exact ⟨by simp [h0, h1], rfl⟩
  · go_enter Tryz.func26, Tryz.ntmps26
    go_wp2
    go_ret
    exact ⟨by simp; intro h; omega, rfl⟩

set_option maxRecDepth 20000 in
set_option maxHeartbeats 400000 in
theorem burn_out (B p : Nat) (v1 v2 : Value) (S : DS) (w : World) (h : PD w B p v1 v2 S) (hl : S.left = 0) :
    Calls Tryz.prog 28 #[.pointer (some ⟨p, 0, none⟩)] w fun e w' => e = .returned (.int .i64 5) ∧ PD w' B p v1 v2 S.burnt ∧ w.grownBy w' (some p) := by
  obtain ⟨fu, e, c0, c1, c2, c3, c4, c5, hf⟩ := h.cells
  obtain ⟨fu', e', hb⟩ := h.blk
  obtain rfl := e (by omega)
  rw [hl] at c3 c4
  have H := Lib.hid h
  have HB := Lib.hid hb
  clear h hb
  go_enter Tryz.func28, Tryz.ntmps28
  go_wp2
  go_ret
  refine ⟨rfl, H.out.head (gb_setCell (gb_setCell (World.grownBy.refl _ _))) fu' (blk_setCell (blk_setCell HB.out)) ?_ ?_ ?_ (.inl ⟨rfl, ?_⟩), (gb_setCell (gb_setCell (World.grownBy.refl _ _)))⟩
  · simp [DS.burnt, hl]
  · simp [DS.burnt, hl]
  · simp [DS.burnt, hl]
  · simp [DS.burnt, hl]

set_option maxRecDepth 20000 in
set_option maxHeartbeats 400000 in
theorem burn_go (B p : Nat) (v1 v2 : Value) (S : DS) (w : World) (h : PD w B p v1 v2 S) (hl : S.left ≠ 0) (hhi : S.left ≤ 9223372036854775807) (hd : (S.did : Int) ≤ 1000000) :
    Calls Tryz.prog 28 #[.pointer (some ⟨p, 0, none⟩)] w fun e w' => e = .returned (.int .i64 0) ∧ PD w' B p v1 v2 S.burnt ∧ w.grownBy w' (some p) := by
  obtain ⟨fu, e, c0, c1, c2, c3, c4, c5, hf⟩ := h.cells
  have hb := (h.blk)
  have H := Lib.hid h
  by_cases h0 : 0 ≤ S.left
  · obtain rfl := e h0
    obtain ⟨fu', e', hb⟩ := hb
    obtain rfl := e' h0
    have HB := Lib.hid hb
    clear h hb e e'
    simp only [h0, decide_true] at c3
    generalize hx : S.left = x at c4
    have hx0 : 0 < x := by omega
    have hbt : S.burnt = { S with left := S.left - 1, did := S.did + 1 } := by
      unfold DS.burnt; rw [if_neg hl, if_pos (by omega)]
    generalize hy : (S.did : Int) = y at c5
    have e1 : (x == 0) = false := by simp; omega
    go_enter Tryz.func28, Tryz.ntmps28
    go_wp2
    go_ret
    refine ⟨rfl, H.out.head (gb_setCell (gb_setCell (World.grownBy.refl _ _))) (x - 1) (blk_setCell (blk_setCell HB.out)) ?_ ?_ ?_ (.inl ⟨rfl, ?_⟩), (gb_setCell (gb_setCell (World.grownBy.refl _ _)))⟩
    · rw [hbt]
      simp [← hx, ← hy, h0]
      omega
    · rw [hbt]; intro _; show x - 1 = S.left - 1; rw [hx]
    · rw [hbt]
    · rw [hbt]
  · obtain ⟨fu', e', hb⟩ := hb
    have HB := Lib.hid hb
    clear h hb e e'
    simp only [h0, decide_false] at c3
    have hbt : S.burnt = { S with left := S.left, did := S.did + 1 } := by
      unfold DS.burnt; rw [if_neg hl, if_neg (by omega)]
    generalize hy : (S.did : Int) = y at c5
    go_enter Tryz.func28, Tryz.ntmps28
    go_wp2
    go_ret
    refine ⟨rfl, H.out.head (gb_setCell (World.grownBy.refl _ _)) fu' (blk_setCell HB.out) ?_ ?_ ?_ (.inl ⟨rfl, ?_⟩), (gb_setCell (World.grownBy.refl _ _))⟩
    · try rw [hbt]
      simp [← hy]
    · try rw [hbt]
      intro h5
      have h6 : 0 ≤ S.left := h5
      omega
    · first | rfl | (rw [hbt])
    · first | rfl | (rw [hbt])

set_option maxRecDepth 20000 in
set_option maxHeartbeats 400000 in
theorem forget_any (p : Nat) (v1 v2 : Value) (x : Bool) (y : Bool) (fu did : Int) (w : World) (hb : w.heap[p]? = some (.cells #[v1, v2, .bool x, .bool y, .int .i64 fu, .int .i64 did] 61 (0, 0))) :
    Calls Tryz.prog 31 #[.pointer (some ⟨p, 0, none⟩)] w fun e w' => e = .returned (.tuple #[]) ∧ w'.heap[p]? = some (.cells #[v1, .slice none 0 0, .bool x, .bool false, .int .i64 0, .int .i64 did] 61 (0, 0)) ∧ w.grownBy w' (some p) := by
  have c1 : w.cell? ⟨p, 1, none⟩ = some v2 := by rw [cell_of_blk hb]; rfl
  have c3 : w.cell? ⟨p, 3, none⟩ = some (.bool y) := by rw [cell_of_blk hb]; rfl
  have c4 : w.cell? ⟨p, 4, none⟩ = some (.int .i64 fu) := by rw [cell_of_blk hb]; rfl
  have hf : ∀ i, w.frozen? ⟨p, i, none⟩ = false := fun i => free_of_blk hb i
  have HB := Lib.hid hb
  clear hb
  go_enter Tryz.func31, Tryz.ntmps31
  go_wp2
  refine bodyPost_end (results_none rfl _ _ _) rfl ?_
  exact ⟨rfl, (blk_setCell (blk_setCell (blk_setCell HB.out))).trans (by simp), gb_setCell (gb_setCell (gb_setCell (World.grownBy.refl _ _)))⟩


/-- An answer of a text and a number. -/
def two (x : ByteArray × Int) : Value := .tuple #[.string x.1, .int .i64 x.2]

theorem has_nat {S : DS} {at' : Int} (h : S.has at') : ∃ k : Nat, at' = (k : Int) ∧ k < S.L.length := by
  obtain ⟨h0, h1⟩ := h
  exact ⟨at'.toNat, by omega, by omega⟩







end Go.Proofs.YtodcdefmoliegaaGreatDoor


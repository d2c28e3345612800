/-
  Contracts: the program's reader: New, Why, Left, next.
-/
import Derived.Test.YtipegdfjpmlcbaaA2
import Derived.RegionTactic
import Derived.WalkMore
import Derived.ScopeJumps
import Derived.BigRegion
namespace Go.Proofs.Ytipegdfjpmlcbaa
open Go.RowKit
set_option linter.unusedVariables false

/-- The program's reader at block p: what is left is ys, why it stopped e. -/
structure RW (w : World) (p : Nat) (ys : List UInt8) (e : Int) : Prop where
  blk : ∃ a n cap, w.heap[p]? = some (.cells #[.slice a n cap, .int .i64 e] 68 (0, 0)) ∧ Rd w a n cap ys ∧ ∀ x, a = some x → x.block < p

theorem RW.lt {w : World} {p : Nat} {ys : List UInt8} {e : Int} (h : RW w p ys e) : p < w.heap.size := by
  obtain ⟨a, n, cap, h, _⟩ := h.blk
  exact (Array.getElem?_eq_some_iff.1 h).1

set_option maxRecDepth 20000 in
set_option maxHeartbeats 400000 in
theorem why_any (p : Nat) (ys : List UInt8) (e : Int) (w : World) (h : RW w p ys e) :
    Calls Try.prog 34 #[.pointer (some ⟨p, 0, none⟩)] w fun r w' => r = .returned (.int .i64 e) ∧ w = w' := by
  obtain ⟨a, n, cap, hb, hr, hl⟩ := h.blk
  have hc : w.cell? ⟨p, 1, none⟩ = some (.int .i64 e) := cell_of_blk hb 1
  clear hb
  go_enter Try.func34, Try.ntmps34
  go_wp2
  go_ret
  exact ⟨rfl, rfl⟩

set_option maxRecDepth 20000 in
set_option maxHeartbeats 400000 in
theorem why_nil (w : World) :
    Calls Try.prog 34 #[.pointer none] w fun r w' => r = .returned (.int .i64 1) ∧ w = w' := by
  go_enter Try.func34, Try.ntmps34
  go_wp2
  go_ret
  exact ⟨rfl, rfl⟩

set_option maxRecDepth 20000 in
set_option maxHeartbeats 400000 in
theorem left_any (p : Nat) (ys : List UInt8) (e : Int) (w : World) (h : RW w p ys e) :
    Calls Try.prog 31 #[.pointer (some ⟨p, 0, none⟩)] w fun r w' => r = .returned (.int .i64 (ys.length : Int)) ∧ w = w' := by
  obtain ⟨a, n, cap, hb, hr, hl⟩ := h.blk
  have hc : w.cell? ⟨p, 0, none⟩ = some (.slice a n cap) := cell_of_blk hb 0
  clear hb
  go_enter Try.func31, Try.ntmps31
  go_wp2
  go_ret
  exact ⟨by rw [hr.len]; rfl, rfl⟩

set_option maxRecDepth 20000 in
set_option maxHeartbeats 400000 in
theorem left_nil (w : World) :
    Calls Try.prog 31 #[.pointer none] w fun r w' => r = .returned (.int .i64 0) ∧ w = w' := by
  go_enter Try.func31, Try.ntmps31
  go_wp2
  go_ret
  exact ⟨rfl, rfl⟩

set_option maxRecDepth 20000 in
set_option maxHeartbeats 1000000 in
theorem new_any (a : Option Addr) (n cap : Nat) (xs : List UInt8) (w : World) (h : Rd w a n cap xs) :
    Calls Try.prog 26 #[.slice a n cap] w fun e w' => ∃ p, e = .returned (.pointer (some ⟨p, 0, none⟩)) ∧ w.heap.size ≤ p ∧ RW w' p xs 0 ∧ Below w.heap.size w w' := by
  have hlen := Lib.hid h.len
  have hbig := h.big
  have hmk := make_same n hbig
  have hsz5 : (Try.prog.info? 5).map (·.size) = some 1 := by kernel_rfl
  have hb1 : Below w.heap.size w (w.alloc (.cells (madeCells #[.int .u8 0] n) 5)) := (Below.refl _ _).alloc (Nat.le_refl _) _
  go_enter Try.func26, Try.ntmps26
  go_wp2_with (with_reducible refine wpList_copy_splice (o := ⟨some 9, _, _, _, _, _⟩) rfl (.tmp 7) (.tmp 8) 29 29 rfl 5 Try.underlying29 hsz5 _ _ _ _ _ _ rfl rfl w.heap.size 0 (madeCells #[.int .u8 0] n).toList 5 ?hg (bvs xs) ?hn ?hpos ?hfit (bvs_one xs) w.heap.size w hb1 (Nat.le_refl _) ?_)
  case hg => simpa using heap_alloc_new w _
  case hn => rw [bvs_length, hlen.out]; simp
  case hpos => exact h.src hb1
  case hfit => simp [bvs_length, hlen.out, size_madeCells]
  intro w1 HG hB1
  have hown := owns_splice (Nat.le_refl _) hlen.out (Nat.le_refl _) hbig HG.out
  have hrd := rd_of_owns hown hbig
  have hlt := (hown.lt w.heap.size rfl).2
  clear HG hb1 hmk hsz5 hown
  go_wp2
  go_ret
  refine ⟨_, rfl, by omega, ⟨_, _, _, heap_alloc_new w1 _, ?_, ?_⟩, hB1.alloc (by omega) _⟩
  · exact hrd.kept (by simp) fun b off e => by cases e; exact Below.heap_alloc _ _ _ hlt
  · intro x e; cases e; exact hlt

/-! ### next -/
set_option maxRecDepth 20000 in
set_option maxHeartbeats 400000 in
theorem next_stop (p : Nat) (ys : List UInt8) (e : Int) (v : Value) (f : Bool) (w : World) (h : RW w p ys e) (he : (e == 0) = false) :
    Calls Try.prog 43 #[.pointer (some ⟨p, 0, none⟩), v, .bool f] w fun r w' => r = .returned (.slice none 0 0) ∧ w = w' := by
  have he2 : (e != 0) = true := by rw [bne, he]; rfl
  go_enter Try.func43, Try.ntmps43
  go_wp2
  refine wp_scope_once 0 rfl ?_
  go_wp2_with (go_at_call 34; refine (why_any p ys e _ h).mono ?_; rintro r w' ⟨rfl, rfl⟩)
  go_step3
  refine ⟨rfl, ?_⟩
  go_wp2
  rw [Exit.noGoto_ret]
  go_ret
  exact ⟨rfl, rfl⟩

set_option maxRecDepth 20000 in
set_option maxHeartbeats 400000 in
theorem next_nil (v : Value) (f : Bool) (w : World) :
    Calls Try.prog 43 #[.pointer none, v, .bool f] w fun r w' => r = .returned (.slice none 0 0) ∧ w = w' := by
  go_enter Try.func43, Try.ntmps43
  go_wp2
  refine wp_scope_once 0 rfl ?_
  go_wp2_with (go_at_call 34; refine (why_nil _).mono ?_; rintro r w' ⟨rfl, rfl⟩)
  go_step3
  refine ⟨rfl, ?_⟩
  go_wp2
  rw [Exit.noGoto_ret]
  go_ret
  exact ⟨rfl, rfl⟩

set_option maxRecDepth 20000 in
set_option maxHeartbeats 400000 in
theorem next_unfit (p : Nat) (ys : List UInt8) (v : Value) (w : World) (h : RW w p ys 0) :
    Calls Try.prog 43 #[.pointer (some ⟨p, 0, none⟩), v, .bool false] w fun r w' => r = .returned (.slice none 0 0) ∧ RW w' p [] 2 ∧ w.grownBy w' (some p) := by
  obtain ⟨a, n, cap, hb, hr, hl⟩ := h.blk
  have c0 : w.cell? ⟨p, 0, none⟩ = some (.slice a n cap) := cell_of_blk hb 0
  have c1 : w.cell? ⟨p, 1, none⟩ = some (.int .i64 0) := cell_of_blk hb 1
  have f0 : w.frozen? ⟨p, 0, none⟩ = false := free_of_blk hb 0
  have f1 : w.frozen? ⟨p, 1, none⟩ = false := free_of_blk hb 1
  have HB := Lib.hid hb
  clear hb
  go_enter Try.func43, Try.ntmps43
  go_wp2
  refine wp_scope_once 0 rfl ?_
  go_wp2_with (go_at_call 34; refine (why_any p ys 0 _ h).mono ?_; rintro r w' ⟨rfl, rfl⟩)
  go_step3
  refine ⟨rfl, ?_⟩
  go_wp2
  rw [Exit.noGoto_ret]
  go_ret
  exact ⟨rfl, ⟨none, 0, 0, blk_setCell (blk_setCell HB.out), rd_nil _, fun _ e => by cases e⟩, gb_setCell (gb_setCell (World.grownBy.refl _ _))⟩

set_option maxRecDepth 20000 in
set_option maxHeartbeats 400000 in
theorem next_short (p : Nat) (ys : List UInt8) (m : Int) (w : World) (h : RW w p ys 0) (hm : (ys.length : Int) < m) :
    Calls Try.prog 43 #[.pointer (some ⟨p, 0, none⟩), .int .i64 m, .bool true] w fun r w' => r = .returned (.slice none 0 0) ∧ RW w' p [] 7 ∧ w.grownBy w' (some p) := by
  obtain ⟨a, n, cap, hb, hr, hl⟩ := h.blk
  have c0 : w.cell? ⟨p, 0, none⟩ = some (.slice a n cap) := cell_of_blk hb 0
  have c1 : w.cell? ⟨p, 1, none⟩ = some (.int .i64 0) := cell_of_blk hb 1
  have f0 : w.frozen? ⟨p, 0, none⟩ = false := free_of_blk hb 0
  have f1 : w.frozen? ⟨p, 1, none⟩ = false := free_of_blk hb 1
  have HB := Lib.hid hb
  clear hb
  rw [hr.len] at hm
  go_enter Try.func43, Try.ntmps43
  go_wp2
  refine wp_scope_once 0 rfl ?_
  go_wp2_with (go_at_call 34; refine (why_any p ys 0 _ h).mono ?_; rintro r w' ⟨rfl, rfl⟩)
  go_step3
  refine ⟨rfl, ?_⟩
  go_wp2
  rw [Exit.noGoto_ret]
  go_ret
  exact ⟨rfl, ⟨none, 0, 0, blk_setCell (blk_setCell HB.out), rd_nil _, fun _ e => by cases e⟩, gb_setCell (gb_setCell (World.grownBy.refl _ _))⟩

set_option maxRecDepth 20000 in
set_option maxHeartbeats 1000000 in
theorem next_ok (p : Nat) (ys : List UInt8) (m : Nat) (w : World) (h : RW w p ys 0) (hm : m ≤ ys.length) :
    Calls Try.prog 43 #[.pointer (some ⟨p, 0, none⟩), .int .i64 m, .bool true] w fun r w' => ∃ a c, r = .returned (.slice a m c) ∧ Rd w' a m c (ys.take m) ∧ (∀ x, a = some x → x.block < p) ∧ RW w' p (ys.drop m) 0 ∧ w.grownBy w' (some p) := by
  obtain ⟨a, n, cap, hb, hr, hl⟩ := h.blk
  have c0 : w.cell? ⟨p, 0, none⟩ = some (.slice a n cap) := cell_of_blk hb 0
  have c1 : w.cell? ⟨p, 1, none⟩ = some (.int .i64 0) := cell_of_blk hb 1
  have f0 : w.frozen? ⟨p, 0, none⟩ = false := free_of_blk hb 0
  have f1 : w.frozen? ⟨p, 1, none⟩ = false := free_of_blk hb 1
  have HB := Lib.hid hb
  clear hb
  rw [hr.len] at hm
  have hle := hr.le
  have hbig := hr.big
  go_enter Try.func43, Try.ntmps43
  go_wp2
  refine wp_scope_once 0 rfl ?_
  go_wp2_with (go_at_call 34; refine (why_any p ys 0 _ h).mono ?_; rintro r w' ⟨rfl, rfl⟩)
  go_region
  all_goals go_wp2
  all_goals go_step3
  all_goals go_wp2
  all_goals simp only [Exit.jump]
  all_goals go_ret
  · have hcm : cap = m := by assumption
    subst hcm
    have hb2 : ∀ x, a = some x → (w.setCell ⟨p, 0, none⟩ (.slice a (n - cap) 0)).drew.heap[x.block]? = w.heap[x.block]? := fun x e => Below.heap_setCell _ _ _ _ (fun e2 => by have := hl x e; simp at e2; omega)
    exact ⟨_, _, rfl, (hr.pre hm).kept (by simp [World.setCell, World.drew]) (fun b off e => hb2 ⟨b, off, none⟩ e), hl, ⟨_, _, _, blk_setCell HB.out, (hr.suf_end hm rfl).kept (by simp [World.setCell, World.drew]) (fun b off e => hb2 ⟨b, off, none⟩ e), hl⟩, gb_drew (gb_setCell (World.grownBy.refl _ _))⟩
  · have hl2 : ∀ x, Option.map (fun x => x.add m) a = some x → x.block < p := fun x e => by
      cases a with
      | none => cases e
      | some y => simp only [Option.map_some, Option.some.injEq] at e; subst e; rw [add_block]; exact hl y rfl
    have hb2 : ∀ x : Addr, x.block < p → (w.setCell ⟨p, 0, none⟩ (.slice (Option.map (fun x => x.add m) a) (n - m) (cap - m))).drew.heap[x.block]? = w.heap[x.block]? := fun x e => Below.heap_setCell _ _ _ _ (fun e2 => by simp at e2; omega)
    exact ⟨_, _, rfl, (hr.pre hm).kept (by simp [World.setCell, World.drew]) (fun b off e => hb2 ⟨b, off, none⟩ (hl _ e)), hl, ⟨_, _, _, blk_setCell HB.out, (hr.suf hm).kept (by simp [World.setCell, World.drew]) (fun b off e => hb2 ⟨b, off, none⟩ (hl2 _ e)), hl2⟩, gb_drew (gb_setCell (World.grownBy.refl _ _))⟩
end Go.Proofs.Ytipegdfjpmlcbaa


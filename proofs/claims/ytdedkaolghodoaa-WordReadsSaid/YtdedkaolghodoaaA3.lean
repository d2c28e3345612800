/-
  Contracts: the program's reader: New, Why, Left, next.
-/
import Derived.Test.YtdedkaolghodoaaA2
import Derived.RegionTactic
import Derived.WalkMore
import Derived.ScopeJumps
import Derived.BigRegion
namespace Go.Proofs.Ytdedkaolghodoaa
open Go.RowKit
set_option linter.unusedVariables false

/-- The program's reader at block p: what is left is ys, why it stopped e. -/
structure RW (w : World) (p : Nat) (ys : List UInt8) (e : Int) : Prop where
  blk : ∃ a n cap, w.heap[p]? = some (.cells #[.slice a n cap, .int .i64 e] 48 (0, 0)) ∧ Rd w a n cap ys ∧ ∀ x, a = some x → x.block < p

theorem RW.lt {w : World} {p : Nat} {ys : List UInt8} {e : Int} (h : RW w p ys e) : p < w.heap.size := by
  obtain ⟨a, n, cap, h, _⟩ := h.blk
  exact (Array.getElem?_eq_some_iff.1 h).1

theorem cell_of_blk {w : World} {p : Nat} {cs : Array Value} {t : TypeId} (h : w.heap[p]? = some (.cells cs t (0, 0))) (i : Nat) : w.cell? ⟨p, i, none⟩ = cs[i]? := by
  unfold World.cell?
  simp [h]

theorem free_of_blk {w : World} {p : Nat} {cs : Array Value} {t : TypeId} (h : w.heap[p]? = some (.cells cs t (0, 0))) (i : Nat) : w.frozen? ⟨p, i, none⟩ = false := by
  unfold World.frozen?
  simp only [h]
  simp

set_option maxHeartbeats 400000 in
theorem why_any (p : Nat) (ys : List UInt8) (e : Int) (w : World) (h : RW w p ys e) :
    Calls Try.prog 19 #[.pointer (some ⟨p, 0, none⟩)] w fun r w' => r = .returned (.int .i64 e) ∧ w = w' := by
  obtain ⟨a, n, cap, hb, hr, hl⟩ := h.blk
  have hc : w.cell? ⟨p, 1, none⟩ = some (.int .i64 e) := cell_of_blk hb 1
  clear hb
  go_enter Try.func19, Try.ntmps19
  go_wp2
  go_ret
  exact ⟨rfl, rfl⟩

set_option maxHeartbeats 400000 in
theorem why_nil (w : World) :
    Calls Try.prog 19 #[.pointer none] w fun r w' => r = .returned (.int .i64 1) ∧ w = w' := by
  go_enter Try.func19, Try.ntmps19
  go_wp2
  go_ret
  exact ⟨rfl, rfl⟩

set_option maxHeartbeats 400000 in
theorem left_any (p : Nat) (ys : List UInt8) (e : Int) (w : World) (h : RW w p ys e) :
    Calls Try.prog 17 #[.pointer (some ⟨p, 0, none⟩)] w fun r w' => r = .returned (.int .i64 (ys.length : Int)) ∧ w = w' := by
  obtain ⟨a, n, cap, hb, hr, hl⟩ := h.blk
  have hc : w.cell? ⟨p, 0, none⟩ = some (.slice a n cap) := cell_of_blk hb 0
  clear hb
  go_enter Try.func17, Try.ntmps17
  go_wp2
  go_ret
  exact ⟨by rw [hr.len]; rfl, rfl⟩

set_option maxHeartbeats 400000 in
theorem left_nil (w : World) :
    Calls Try.prog 17 #[.pointer none] w fun r w' => r = .returned (.int .i64 0) ∧ w = w' := by
  go_enter Try.func17, Try.ntmps17
  go_wp2
  go_ret
  exact ⟨rfl, rfl⟩

theorem make_same (n : Nat) (h : n ≤ 140737488355328) (w : World) :
    (Instr.makeSlice 22 (.int .i64 (n : Int)) (.int .i64 (n : Int))).run Try.prog w = .ok (.slice (some ⟨w.heap.size, 0, none⟩) n n) (w.alloc (.cells (madeCells #[.int .u8 0] n) 5)) :=
  run_make_row' 22 5 (.int .u8 0) 1 Try.underlying22 Try.info5 rfl .i64 .i64 n (by omega) (by omega) w

/-- Bytes that are read stay, where the block is kept. -/
theorem Rd.kept {w w' : World} {a : Option Addr} {n cap : Nat} {xs : List UInt8} (h : Rd w a n cap xs) (hs : w.heap.size ≤ w'.heap.size)
    (hb : ∀ b off, a = some ⟨b, off, none⟩ → w'.heap[b]? = w.heap[b]?) : Rd w' a n cap xs where
  len := h.len
  le := h.le
  big := h.big
  cm := h.cm
  at0 := fun h0 => by
    obtain ⟨b, off, ha, hlt, hc⟩ := h.at0 h0
    exact ⟨b, off, ha, by omega, fun i hi => by rw [World.cell?_of_block (w := w) (hb b off ha)]; exact hc i hi⟩
  nil := h.nil

theorem Rd.below {w w' : World} {B : Nat} {a : Option Addr} {n cap : Nat} {xs : List UInt8} (h : Rd w a n cap xs) (hb : Below B w w') (ha : ∀ b off, a = some ⟨b, off, none⟩ → b < B) : Rd w' a n cap xs :=
  h.kept hb.size fun b off e => hb.block b (ha b off e)

set_option maxHeartbeats 1000000 in
theorem new_any (a : Option Addr) (n cap : Nat) (xs : List UInt8) (w : World) (h : Rd w a n cap xs) :
    Calls Try.prog 12 #[.slice a n cap] w fun e w' => ∃ p, e = .returned (.pointer (some ⟨p, 0, none⟩)) ∧ w.heap.size ≤ p ∧ RW w' p xs 0 ∧ Below w.heap.size w w' := by
  have hlen := Lib.hid h.len
  have hbig := h.big
  have hmk := make_same n hbig
  have hsz5 : (Try.prog.info? 5).map (·.size) = some 1 := by kernel_rfl
  have hb1 : Below w.heap.size w (w.alloc (.cells (madeCells #[.int .u8 0] n) 5)) := (Below.refl _ _).alloc (Nat.le_refl _) _
  go_enter Try.func12, Try.ntmps12
  go_wp2_with (with_reducible refine wpList_copy_splice (o := ⟨some 9, _, _, _, _, _⟩) rfl (.tmp 7) (.tmp 8) 22 22 rfl 5 Try.underlying22 hsz5 _ _ _ _ _ _ rfl rfl w.heap.size 0 (madeCells #[.int .u8 0] n).toList 5 ?hg (bvs xs) ?hn ?hpos ?hfit (bvs_one xs) w.heap.size w hb1 (Nat.le_refl _) ?_)
  case hg => simpa using heap_alloc_new w _
  case hn => rw [bvs_length, hlen.out]; simp
  case hpos => exact h.src hb1
  case hfit => simp [bvs_length, hlen.out, size_madeCells]
  intro w1 HG hB1
  have hown := owns_splice (Nat.le_refl _) hlen.out (Nat.le_refl _) hbig HG.out
  have hrd := rd_of_owns hown hbig
  have hlt := (hown.lt w.heap.size rfl).2
  clear HG hb1 hmk hsz5 hown
  go_wp2
  go_ret
  refine ⟨_, rfl, by omega, ⟨_, _, _, heap_alloc_new w1 _, ?_, ?_⟩, hB1.alloc (by omega) _⟩
  · exact hrd.kept (by simp) fun b off e => by cases e; exact Below.heap_alloc _ _ _ hlt
  · intro x e; cases e; exact hlt

/-! ### next -/
theorem Rd.pre {w : World} {a : Option Addr} {n cap m : Nat} {xs : List UInt8} (h : Rd w a n cap xs) (hm : m ≤ n) : Rd w a m cap (xs.take m) where
  len := by simp [h.len]; omega
  le := Nat.le_trans hm h.le
  big := Nat.le_trans hm h.big
  cm := h.cm
  at0 := fun h0 => by
    obtain ⟨b, off, ha, hlt, hc⟩ := h.at0 (by omega)
    exact ⟨b, off, ha, hlt, fun i hi => by rw [hc i (by omega), List.getElem?_take_of_lt hi]⟩
  nil := h.nil

theorem Rd.suf {w : World} {a : Option Addr} {n cap m : Nat} {xs : List UInt8} (h : Rd w a n cap xs) (hm : m ≤ n) : Rd w (Option.map (fun x => x.add m) a) (n - m) (cap - m) (xs.drop m) where
  len := by simp [h.len]
  le := by have := h.le; omega
  big := by have := h.big; omega
  cm := by have := h.cm; omega
  at0 := fun h0 => by
    obtain ⟨b, off, rfl, hlt, hc⟩ := h.at0 (by omega)
    refine ⟨b, off + m, by simp [Addr.add_none], hlt, fun i hi => ?_⟩
    rw [Nat.add_assoc, hc (m + i) (by omega), List.getElem?_drop]
  nil := fun e => by
    have : a = none := by simpa using e
    have := h.nil this
    omega

theorem Rd.suf_end {w : World} {a : Option Addr} {n cap m : Nat} {xs : List UInt8} (h : Rd w a n cap xs) (hm : m ≤ n) (hc : cap = m) : Rd w a (n - m) 0 (xs.drop m) where
  len := by simp [h.len]
  le := by have := h.le; omega
  big := by have := h.big; omega
  cm := by unfold maxLen; omega
  at0 := fun h0 => by have := h.le; omega
  nil := fun _ => rfl

theorem add_block (x : Addr) (m : Nat) : (x.add m).block = x.block := by unfold Addr.add; split <;> rfl

theorem blk_setCell {w : World} {b i : Nat} {cs : Array Value} {u : Value} {t : TypeId} (h : w.heap[b]? = some (.cells cs t (0, 0))) : (w.setCell ⟨b, i, none⟩ u).heap[b]? = some (.cells (cs.setIfInBounds i u) t (0, 0)) := by
  have hlt := lt_of_block h
  have h' : w.heap[b] = .cells cs t (0, 0) := by simpa [Array.getElem?_eq_getElem hlt] using h
  show (w.heap.modify b _)[b]? = _
  rw [Array.getElem?_eq_getElem (by simpa using hlt), Array.getElem_modify_self, h']
  rfl

theorem gb_setCell {w w' : World} {p i : Nat} {u : Value} (h : w.grownBy w' (some p)) : w.grownBy (w'.setCell ⟨p, i, none⟩ u) (some p) :=
  ⟨h.os, h.tape, h.output, by simpa [World.setCell] using h.size, fun k hk hne => by
    rw [Below.heap_setCell _ _ _ _ (fun e => hne (by rw [e]))]; exact h.block k hk hne⟩

theorem gb_drew {w w' : World} {row : Option Nat} (h : w.grownBy w' row) : w.grownBy w'.drew row := ⟨h.os, h.tape, h.output, h.size, h.block⟩

theorem gb_trans {a b c : World} {row : Option Nat} (h : a.grownBy b row) (k : b.grownBy c row) : a.grownBy c row :=
  ⟨k.os.trans h.os, k.tape.trans h.tape, k.output.trans h.output, Nat.le_trans h.size k.size, fun i hi hne => (k.block i (Nat.lt_of_lt_of_le hi h.size) hne).trans (h.block i hi hne)⟩

theorem rd_nil (w : World) : Rd w none 0 0 [] := ⟨rfl, Nat.le_refl _, by omega, by unfold maxLen; omega, fun h => by omega, fun _ => rfl⟩

set_option maxHeartbeats 400000 in
theorem next_stop (p : Nat) (ys : List UInt8) (e : Int) (v : Value) (f : Bool) (w : World) (h : RW w p ys e) (he : (e == 0) = false) :
    Calls Try.prog 22 #[.pointer (some ⟨p, 0, none⟩), v, .bool f] w fun r w' => r = .returned (.slice none 0 0) ∧ w = w' := by
  have he2 : (e != 0) = true := by rw [bne, he]; rfl
  go_enter Try.func22, Try.ntmps22
  go_wp2
  refine wp_scope_once 0 rfl ?_
  go_wp2_with (go_at_call 19; refine (why_any p ys e _ h).mono ?_; rintro r w' ⟨rfl, rfl⟩)
  go_step3
  refine ⟨rfl, ?_⟩
  go_wp2
  rw [Exit.noGoto_ret]
  go_ret
  exact ⟨rfl, rfl⟩

set_option maxHeartbeats 400000 in
theorem next_nil (v : Value) (f : Bool) (w : World) :
    Calls Try.prog 22 #[.pointer none, v, .bool f] w fun r w' => r = .returned (.slice none 0 0) ∧ w = w' := by
  go_enter Try.func22, Try.ntmps22
  go_wp2
  refine wp_scope_once 0 rfl ?_
  go_wp2_with (go_at_call 19; refine (why_nil _).mono ?_; rintro r w' ⟨rfl, rfl⟩)
  go_step3
  refine ⟨rfl, ?_⟩
  go_wp2
  rw [Exit.noGoto_ret]
  go_ret
  exact ⟨rfl, rfl⟩

set_option maxHeartbeats 400000 in
theorem next_unfit (p : Nat) (ys : List UInt8) (v : Value) (w : World) (h : RW w p ys 0) :
    Calls Try.prog 22 #[.pointer (some ⟨p, 0, none⟩), v, .bool false] w fun r w' => r = .returned (.slice none 0 0) ∧ RW w' p [] 2 ∧ w.grownBy w' (some p) := by
  obtain ⟨a, n, cap, hb, hr, hl⟩ := h.blk
  have c0 : w.cell? ⟨p, 0, none⟩ = some (.slice a n cap) := cell_of_blk hb 0
  have c1 : w.cell? ⟨p, 1, none⟩ = some (.int .i64 0) := cell_of_blk hb 1
  have f0 : w.frozen? ⟨p, 0, none⟩ = false := free_of_blk hb 0
  have f1 : w.frozen? ⟨p, 1, none⟩ = false := free_of_blk hb 1
  have HB := Lib.hid hb
  clear hb
  go_enter Try.func22, Try.ntmps22
  go_wp2
  refine wp_scope_once 0 rfl ?_
  go_wp2_with (go_at_call 19; refine (why_any p ys 0 _ h).mono ?_; rintro r w' ⟨rfl, rfl⟩)
  go_step3
  refine ⟨rfl, ?_⟩
  go_wp2
  rw [Exit.noGoto_ret]
  go_ret
  exact ⟨rfl, ⟨none, 0, 0, blk_setCell (blk_setCell HB.out), rd_nil _, fun _ e => by cases e⟩, gb_setCell (gb_setCell (World.grownBy.refl _ _))⟩

set_option maxHeartbeats 400000 in
theorem next_short (p : Nat) (ys : List UInt8) (m : Int) (w : World) (h : RW w p ys 0) (hm : (ys.length : Int) < m) :
    Calls Try.prog 22 #[.pointer (some ⟨p, 0, none⟩), .int .i64 m, .bool true] w fun r w' => r = .returned (.slice none 0 0) ∧ RW w' p [] 7 ∧ w.grownBy w' (some p) := by
  obtain ⟨a, n, cap, hb, hr, hl⟩ := h.blk
  have c0 : w.cell? ⟨p, 0, none⟩ = some (.slice a n cap) := cell_of_blk hb 0
  have c1 : w.cell? ⟨p, 1, none⟩ = some (.int .i64 0) := cell_of_blk hb 1
  have f0 : w.frozen? ⟨p, 0, none⟩ = false := free_of_blk hb 0
  have f1 : w.frozen? ⟨p, 1, none⟩ = false := free_of_blk hb 1
  have HB := Lib.hid hb
  clear hb
  rw [hr.len] at hm
  go_enter Try.func22, Try.ntmps22
  go_wp2
  refine wp_scope_once 0 rfl ?_
  go_wp2_with (go_at_call 19; refine (why_any p ys 0 _ h).mono ?_; rintro r w' ⟨rfl, rfl⟩)
  go_step3
  refine ⟨rfl, ?_⟩
  go_wp2
  rw [Exit.noGoto_ret]
  go_ret
  exact ⟨rfl, ⟨none, 0, 0, blk_setCell (blk_setCell HB.out), rd_nil _, fun _ e => by cases e⟩, gb_setCell (gb_setCell (World.grownBy.refl _ _))⟩

set_option maxHeartbeats 1000000 in
theorem next_ok (p : Nat) (ys : List UInt8) (m : Nat) (w : World) (h : RW w p ys 0) (hm : m ≤ ys.length) :
    Calls Try.prog 22 #[.pointer (some ⟨p, 0, none⟩), .int .i64 m, .bool true] w fun r w' => ∃ a c, r = .returned (.slice a m c) ∧ Rd w' a m c (ys.take m) ∧ (∀ x, a = some x → x.block < p) ∧ RW w' p (ys.drop m) 0 ∧ w.grownBy w' (some p) := by
  obtain ⟨a, n, cap, hb, hr, hl⟩ := h.blk
  have c0 : w.cell? ⟨p, 0, none⟩ = some (.slice a n cap) := cell_of_blk hb 0
  have c1 : w.cell? ⟨p, 1, none⟩ = some (.int .i64 0) := cell_of_blk hb 1
  have f0 : w.frozen? ⟨p, 0, none⟩ = false := free_of_blk hb 0
  have f1 : w.frozen? ⟨p, 1, none⟩ = false := free_of_blk hb 1
  have HB := Lib.hid hb
  clear hb
  rw [hr.len] at hm
  have hle := hr.le
  have hbig := hr.big
  go_enter Try.func22, Try.ntmps22
  go_wp2
  refine wp_scope_once 0 rfl ?_
  go_wp2_with (go_at_call 19; refine (why_any p ys 0 _ h).mono ?_; rintro r w' ⟨rfl, rfl⟩)
  go_region
  all_goals go_wp2
  all_goals go_step3
  all_goals go_wp2
  all_goals simp only [Exit.jump]
  all_goals go_ret
  · have hcm : cap = m := by assumption
    subst hcm
    have hb2 : ∀ x, a = some x → (w.setCell ⟨p, 0, none⟩ (.slice a (n - cap) 0)).drew.heap[x.block]? = w.heap[x.block]? := fun x e => Below.heap_setCell _ _ _ _ (fun e2 => by have := hl x e; simp at e2; omega)
    exact ⟨_, _, rfl, (hr.pre hm).kept (by simp [World.setCell, World.drew]) (fun b off e => hb2 ⟨b, off, none⟩ e), hl, ⟨_, _, _, blk_setCell HB.out, (hr.suf_end hm rfl).kept (by simp [World.setCell, World.drew]) (fun b off e => hb2 ⟨b, off, none⟩ e), hl⟩, gb_drew (gb_setCell (World.grownBy.refl _ _))⟩
  · have hl2 : ∀ x, Option.map (fun x => x.add m) a = some x → x.block < p := fun x e => by
      cases a with
      | none => cases e
      | some y => simp only [Option.map_some, Option.some.injEq] at e; subst e; rw [add_block]; exact hl y rfl
    have hb2 : ∀ x : Addr, x.block < p → (w.setCell ⟨p, 0, none⟩ (.slice (Option.map (fun x => x.add m) a) (n - m) (cap - m))).drew.heap[x.block]? = w.heap[x.block]? := fun x e => Below.heap_setCell _ _ _ _ (fun e2 => by simp at e2; omega)
    exact ⟨_, _, rfl, (hr.pre hm).kept (by simp [World.setCell, World.drew]) (fun b off e => hb2 ⟨b, off, none⟩ (hl _ e)), hl, ⟨_, _, _, blk_setCell HB.out, (hr.suf hm).kept (by simp [World.setCell, World.drew]) (fun b off e => hb2 ⟨b, off, none⟩ (hl2 _ e)), hl2⟩, gb_drew (gb_setCell (World.grownBy.refl _ _))⟩
end Go.Proofs.Ytdedkaolghodoaa

/-
  Texts put together: A3, A4, A5, A6, A7.
-/
import Derived.Test.YtpkeikbiblfidaaGreatDoorMA
import Derived.RegionTactic
import Derived.WalkMore
import Derived.ScopeJumps
import Derived.BigRegion
import Derived.Laws.IdiomStrings
import Derived.Deep.QuietTactic
import Derived.BigQuiet
/-
  Contracts: the program's reader: New, Why, Left, next.
-/
namespace Go.Proofs.YtpkeikbiblfidaaGreatDoor
open Go.RowKit
set_option linter.unusedVariables false

/-- The program's reader at block p: what is left is ys, why it stopped e. -/
structure RW (w : World) (p : Nat) (ys : List UInt8) (e : Int) : Prop where
  blk : ∃ a n cap, w.heap[p]? = some (.cells #[.slice a n cap, .int .i64 e] 154 (0, 0)) ∧ Rd w a n cap ys ∧ ∀ x, a = some x → x.block < p

theorem RW.lt {w : World} {p : Nat} {ys : List UInt8} {e : Int} (h : RW w p ys e) : p < w.heap.size := by
  obtain ⟨a, n, cap, h, _⟩ := h.blk
  exact (Array.getElem?_eq_some_iff.1 h).1

set_option maxRecDepth 20000 in
set_option maxHeartbeats 400000 in
theorem why_any (p : Nat) (ys : List UInt8) (e : Int) (w : World) (h : RW w p ys e) :
    Calls Tryz.prog 162 #[.pointer (some ⟨p, 0, none⟩)] w fun r w' => r = .returned (.int .i64 e) ∧ w = w' := by
  obtain ⟨a, n, cap, hb, hr, hl⟩ := h.blk
  have hc : w.cell? ⟨p, 1, none⟩ = some (.int .i64 e) := cell_of_blk hb 1
  clear hb
  go_enter Tryz.func162, Tryz.ntmps162
  go_wp2
  go_ret
  exact ⟨rfl, rfl⟩

set_option maxRecDepth 20000 in
set_option maxHeartbeats 400000 in
theorem why_nil (w : World) :
    Calls Tryz.prog 162 #[.pointer none] w fun r w' => r = .returned (.int .i64 1) ∧ w = w' := by
  go_enter Tryz.func162, Tryz.ntmps162
  go_wp2
  go_ret
  exact ⟨rfl, rfl⟩



set_option maxRecDepth 20000 in
set_option maxHeartbeats 1000000 in
theorem new_any (a : Option Addr) (n cap : Nat) (xs : List UInt8) (w : World) (h : Rd w a n cap xs) :
    Calls Tryz.prog 92 #[.slice a n cap] w fun e w' => ∃ p, e = .returned (.pointer (some ⟨p, 0, none⟩)) ∧ w.heap.size ≤ p ∧ RW w' p xs 0 ∧ Below w.heap.size w w' := by
  have hlen := Lib.hid h.len
  have hbig := h.big
  have hmk := make_same n hbig
  have hsz5 : (Tryz.prog.info? 5).map (·.size) = some 1 := by kernel_rfl
  have hb1 : Below w.heap.size w (w.alloc (.cells (madeCells #[.int .u8 0] n) 5)) := (Below.refl _ _).alloc (Nat.le_refl _) _
  go_enter Tryz.func92, Tryz.ntmps92
  go_wp2_with (with_reducible refine wpList_copy_splice (o := ⟨some 9, _, _, _, _, _⟩) rfl (.tmp 7) (.tmp 8) 128 128 rfl 5 Tryz.underlying128 hsz5 _ _ _ _ _ _ rfl rfl w.heap.size 0 (madeCells #[.int .u8 0] n).toList 5 ?hg (bvs xs) ?hn ?hpos ?hfit (bvs_one xs) w.heap.size w hb1 (Nat.le_refl _) ?_)
  case hg => simpa using heap_alloc_new w _
  case hn => rw [bvs_length, hlen.out]; simp
  case hpos => exact h.src hb1
  case hfit => simp [bvs_length, hlen.out, size_madeCells]
  intro w1 HG hB1
  have hown := owns_splice (Nat.le_refl _) hlen.out (Nat.le_refl _) hbig HG.out
  have hrd := rd_of_owns hown hbig
  have hlt := (hown.lt w.heap.size rfl).2
  clear HG hb1 hmk hsz5 hown
  go_wp2
  go_ret
  refine ⟨_, rfl, by omega, ⟨_, _, _, heap_alloc_new w1 _, ?_, ?_⟩, hB1.alloc (by omega) _⟩
  · exact hrd.kept (by simp) fun b off e => by cases e; exact Below.heap_alloc _ _ _ hlt
  · intro x e; cases e; exact hlt

/-! ### next -/
set_option maxRecDepth 20000 in
set_option maxHeartbeats 400000 in
theorem next_stop (p : Nat) (ys : List UInt8) (e : Int) (v : Value) (f : Bool) (w : World) (h : RW w p ys e) (he : (e == 0) = false) :
    Calls Tryz.prog 134 #[.pointer (some ⟨p, 0, none⟩), v, .bool f] w fun r w' => r = .returned (.slice none 0 0) ∧ w = w' := by
  have he2 : (e != 0) = true := by rw [bne, he]; rfl
  go_enter Tryz.func134, Tryz.ntmps134
  go_wp2
  refine wp_scope_once 0 rfl ?_
  go_wp2_with (go_at_call 162; refine (why_any p ys e _ h).mono ?_; rintro r w' ⟨rfl, rfl⟩)
  go_step3
  refine ⟨rfl, ?_⟩
  go_wp2
  rw [Exit.noGoto_ret]
  go_ret
  exact ⟨rfl, rfl⟩

set_option maxRecDepth 20000 in
set_option maxHeartbeats 400000 in
theorem next_nil (v : Value) (f : Bool) (w : World) :
    Calls Tryz.prog 134 #[.pointer none, v, .bool f] w fun r w' => r = .returned (.slice none 0 0) ∧ w = w' := by
  go_enter Tryz.func134, Tryz.ntmps134
  go_wp2
  refine wp_scope_once 0 rfl ?_
  go_wp2_with (go_at_call 162; refine (why_nil _).mono ?_; rintro r w' ⟨rfl, rfl⟩)
  go_step3
  refine ⟨rfl, ?_⟩
  go_wp2
  rw [Exit.noGoto_ret]
  go_ret
  exact ⟨rfl, rfl⟩

set_option maxRecDepth 20000 in
set_option maxHeartbeats 400000 in
theorem next_unfit (p : Nat) (ys : List UInt8) (v : Value) (w : World) (h : RW w p ys 0) :
    Calls Tryz.prog 134 #[.pointer (some ⟨p, 0, none⟩), v, .bool false] w fun r w' => r = .returned (.slice none 0 0) ∧ RW w' p [] 2 ∧ w.grownBy w' (some p) := by
  obtain ⟨a, n, cap, hb, hr, hl⟩ := h.blk
  have c0 : w.cell? ⟨p, 0, none⟩ = some (.slice a n cap) := cell_of_blk hb 0
  have c1 : w.cell? ⟨p, 1, none⟩ = some (.int .i64 0) := cell_of_blk hb 1
  have f0 : w.frozen? ⟨p, 0, none⟩ = false := free_of_blk hb 0
  have f1 : w.frozen? ⟨p, 1, none⟩ = false := free_of_blk hb 1
  have HB := Lib.hid hb
  clear hb
  go_enter Tryz.func134, Tryz.ntmps134
  go_wp2
  refine wp_scope_once 0 rfl ?_
  go_wp2_with (go_at_call 162; refine (why_any p ys 0 _ h).mono ?_; rintro r w' ⟨rfl, rfl⟩)
  go_step3
  refine ⟨rfl, ?_⟩
  go_wp2
  rw [Exit.noGoto_ret]
  go_ret
  exact ⟨rfl, ⟨none, 0, 0, blk_setCell (blk_setCell HB.out), rd_nil _, fun _ e => by cases e⟩, gb_setCell (gb_setCell (World.grownBy.refl _ _))⟩

set_option maxRecDepth 20000 in
set_option maxHeartbeats 400000 in
theorem next_short (p : Nat) (ys : List UInt8) (m : Int) (w : World) (h : RW w p ys 0) (hm : (ys.length : Int) < m) :
    Calls Tryz.prog 134 #[.pointer (some ⟨p, 0, none⟩), .int .i64 m, .bool true] w fun r w' => r = .returned (.slice none 0 0) ∧ RW w' p [] 7 ∧ w.grownBy w' (some p) := by
  obtain ⟨a, n, cap, hb, hr, hl⟩ := h.blk
  have c0 : w.cell? ⟨p, 0, none⟩ = some (.slice a n cap) := cell_of_blk hb 0
  have c1 : w.cell? ⟨p, 1, none⟩ = some (.int .i64 0) := cell_of_blk hb 1
  have f0 : w.frozen? ⟨p, 0, none⟩ = false := free_of_blk hb 0
  have f1 : w.frozen? ⟨p, 1, none⟩ = false := free_of_blk hb 1
  have HB := Lib.hid hb
  clear hb
  rw [hr.len] at hm
  go_enter Tryz.func134, Tryz.ntmps134
  go_wp2
  refine wp_scope_once 0 rfl ?_
  go_wp2_with (go_at_call 162; refine (why_any p ys 0 _ h).mono ?_; rintro r w' ⟨rfl, rfl⟩)
  go_step3
  refine ⟨rfl, ?_⟩
  go_wp2
  rw [Exit.noGoto_ret]
  go_ret
  exact ⟨rfl, ⟨none, 0, 0, blk_setCell (blk_setCell HB.out), rd_nil _, fun _ e => by cases e⟩, gb_setCell (gb_setCell (World.grownBy.refl _ _))⟩

set_option maxRecDepth 20000 in
set_option maxHeartbeats 1000000 in
theorem next_ok (p : Nat) (ys : List UInt8) (m : Nat) (w : World) (h : RW w p ys 0) (hm : m ≤ ys.length) :
    Calls Tryz.prog 134 #[.pointer (some ⟨p, 0, none⟩), .int .i64 m, .bool true] w fun r w' => ∃ a c, r = .returned (.slice a m c) ∧ Rd w' a m c (ys.take m) ∧ (∀ x, a = some x → x.block < p) ∧ RW w' p (ys.drop m) 0 ∧ w.grownBy w' (some p) := by
  obtain ⟨a, n, cap, hb, hr, hl⟩ := h.blk
  have c0 : w.cell? ⟨p, 0, none⟩ = some (.slice a n cap) := cell_of_blk hb 0
  have c1 : w.cell? ⟨p, 1, none⟩ = some (.int .i64 0) := cell_of_blk hb 1
  have f0 : w.frozen? ⟨p, 0, none⟩ = false := free_of_blk hb 0
  have f1 : w.frozen? ⟨p, 1, none⟩ = false := free_of_blk hb 1
  have HB := Lib.hid hb
  clear hb
  rw [hr.len] at hm
  have hle := hr.le
  have hbig := hr.big
  go_enter Tryz.func134, Tryz.ntmps134
  go_wp2
  refine wp_scope_once 0 rfl ?_
  go_wp2_with (go_at_call 162; refine (why_any p ys 0 _ h).mono ?_; rintro r w' ⟨rfl, rfl⟩)
  go_region
  all_goals go_wp2
  all_goals go_step3
  all_goals go_wp2
  all_goals simp only [Exit.jump]
  all_goals go_ret
  · have hcm : cap = m := by assumption
    subst hcm
    have hb2 : ∀ x, a = some x → (w.setCell ⟨p, 0, none⟩ (.slice a (n - cap) 0)).drew.heap[x.block]? = w.heap[x.block]? := fun x e => Below.heap_setCell _ _ _ _ (fun e2 => by have := hl x e; simp at e2; omega)
    exact ⟨_, _, rfl, (hr.pre hm).kept (by simp [World.setCell, World.drew]) (fun b off e => hb2 ⟨b, off, none⟩ e), hl, ⟨_, _, _, blk_setCell HB.out, (hr.suf_end hm rfl).kept (by simp [World.setCell, World.drew]) (fun b off e => hb2 ⟨b, off, none⟩ e), hl⟩, gb_drew (gb_setCell (World.grownBy.refl _ _))⟩
  · have hl2 : ∀ x, Option.map (fun x => x.add m) a = some x → x.block < p := fun x e => by
      cases a with
      | none => cases e
      | some y => simp only [Option.map_some, Option.some.injEq] at e; subst e; rw [add_block]; exact hl y rfl
    have hb2 : ∀ x : Addr, x.block < p → (w.setCell ⟨p, 0, none⟩ (.slice (Option.map (fun x => x.add m) a) (n - m) (cap - m))).drew.heap[x.block]? = w.heap[x.block]? := fun x e => Below.heap_setCell _ _ _ _ (fun e2 => by simp at e2; omega)
    exact ⟨_, _, rfl, (hr.pre hm).kept (by simp [World.setCell, World.drew]) (fun b off e => hb2 ⟨b, off, none⟩ (hl _ e)), hl, ⟨_, _, _, blk_setCell HB.out, (hr.suf hm).kept (by simp [World.setCell, World.drew]) (fun b off e => hb2 ⟨b, off, none⟩ (hl2 _ e)), hl2⟩, gb_drew (gb_setCell (World.grownBy.refl _ _))⟩
end Go.Proofs.YtpkeikbiblfidaaGreatDoor
/-
  Contracts: the program's reader: Num, Bytes.
-/
namespace Go.Proofs.YtpkeikbiblfidaaGreatDoor
open Go.RowKit
set_option linter.unusedVariables false

/-- What a reader answers that is asked for a number of wd bytes; what is left; why it stopped. -/
def rnum (ys : List UInt8) (e wd : Int) : Nat × List UInt8 × Int :=
  if e ≠ 0 then (0, ys, e) else if wd < 1 ∨ 8 < wd then (0, [], 2) else if (ys.length : Int) < wd then (0, [], 7) else (numN (ys.take wd.toNat), ys.drop wd.toNat, 0)

/-- The same for m bytes. -/
def rbytes (ys : List UInt8) (e m : Int) : List UInt8 × List UInt8 × Int :=
  if e ≠ 0 then ([], ys, e) else if m < 0 then ([], [], 2) else if (ys.length : Int) < m then ([], [], 7) else (ys.take m.toNat, ys.drop m.toNat, 0)

set_option maxRecDepth 20000 in
set_option maxHeartbeats 1000000 in
theorem num_any (p : Nat) (ys : List UInt8) (e wd : Int) (w : World) (h : RW w p ys e) :
    Calls Tryz.prog 93 #[.pointer (some ⟨p, 0, none⟩), .int .i64 wd] w fun r w' => r = .returned (.int .u64 ((rnum ys e wd).1 : Int)) ∧ RW w' p (rnum ys e wd).2.1 (rnum ys e wd).2.2 ∧ w.grownBy w' (some p) := by
  by_cases he : e ≠ 0
  · have hr : rnum ys e wd = (0, ys, e) := by unfold rnum; rw [if_pos he]
    rw [hr]
    have he2 : (e == 0) = false := by simpa using he
    clear hr he
    by_cases hw : wd < 1 ∨ 8 < wd
    · go_enter Tryz.func93, Tryz.ntmps93
      go_wp2_with (first | (go_at_call 135; refine (isWidth_no _ _ hw).mono ?_; rintro r w' ⟨rfl, rfl⟩) | (go_at_call 134; refine (next_stop p ys e _ _ _ h he2).mono ?_; rintro r w' ⟨rfl, rfl⟩) | (go_at_call 133; refine (number_any _ _ _ _ _ (rd_nil _) (by omega)).mono ?_; rintro r w' ⟨rfl, rfl⟩))
      go_ret
      exact ⟨rfl, h, World.grownBy.refl _ _⟩
    · go_enter Tryz.func93, Tryz.ntmps93
      go_wp2_with (first | (go_at_call 135; refine (isWidth_yes _ _ (by omega) (by omega)).mono ?_; rintro r w' ⟨rfl, rfl⟩) | (go_at_call 134; refine (next_stop p ys e _ _ _ h he2).mono ?_; rintro r w' ⟨rfl, rfl⟩) | (go_at_call 133; refine (number_any _ _ _ _ _ (rd_nil _) (by omega)).mono ?_; rintro r w' ⟨rfl, rfl⟩))
      go_ret
      exact ⟨rfl, h, World.grownBy.refl _ _⟩
  · have he0 : e = 0 := by omega
    subst he0
    clear he
    by_cases hw : wd < 1 ∨ 8 < wd
    · have hr : rnum ys 0 wd = (0, [], 2) := by unfold rnum; rw [if_neg (by simp), if_pos hw]
      rw [hr]
      clear hr
      go_enter Tryz.func93, Tryz.ntmps93
      go_wp2_with (first | (go_at_call 135; refine (isWidth_no _ _ hw).mono ?_; rintro r w' ⟨rfl, rfl⟩) | (go_at_call 134; refine (next_unfit p ys _ _ h).mono ?_; rintro r w' ⟨rfl, hrw, hg⟩) | (go_at_call 133; refine (number_any _ _ _ _ _ (rd_nil _) (by omega)).mono ?_; rintro r w' ⟨rfl, rfl⟩))
      go_ret
      exact ⟨rfl, by assumption, by assumption⟩
    · by_cases hs : (ys.length : Int) < wd
      · have hr : rnum ys 0 wd = (0, [], 7) := by unfold rnum; rw [if_neg (by simp), if_neg hw, if_pos hs]
        rw [hr]
        clear hr
        go_enter Tryz.func93, Tryz.ntmps93
        go_wp2_with (first | (go_at_call 135; refine (isWidth_yes _ _ (by omega) (by omega)).mono ?_; rintro r w' ⟨rfl, rfl⟩) | (go_at_call 134; refine (next_short p ys _ _ h hs).mono ?_; rintro r w' ⟨rfl, hrw, hg⟩) | (go_at_call 133; refine (number_any _ _ _ _ _ (rd_nil _) (by omega)).mono ?_; rintro r w' ⟨rfl, rfl⟩))
        go_ret
        exact ⟨rfl, by assumption, by assumption⟩
      · have hr : rnum ys 0 wd = (numN (ys.take wd.toNat), ys.drop wd.toNat, 0) := by unfold rnum; rw [if_neg (by simp), if_neg hw, if_neg hs]
        rw [hr]
        clear hr
        obtain ⟨m, rfl⟩ := Int.eq_ofNat_of_zero_le (a := wd) (by omega)
        rw [Int.toNat_natCast]
        go_enter Tryz.func93, Tryz.ntmps93
        go_wp2_with (first | (go_at_call 135; refine (isWidth_yes _ _ (by omega) (by omega)).mono ?_; rintro r w' ⟨rfl, rfl⟩))
        refine (next_ok p ys m _ h (by omega)).mono ?_
        rintro r w1 ⟨a, c, rfl, hrd, hbl, hrw, hg⟩
        go_wp2_with (go_at_call 133; refine (number_any _ _ _ _ _ hrd (by omega)).mono ?_; rintro r w' ⟨rfl, rfl⟩)
        go_ret
        exact ⟨rfl, hrw, hg⟩

set_option maxRecDepth 20000 in
theorem num_nil (v : Int) (w : World) :
    Calls Tryz.prog 93 #[.pointer none, .int .i64 v] w fun r w' => r = .returned (.int .u64 0) ∧ w = w' := by
  by_cases hw : v < 1 ∨ 8 < v
  · go_enter Tryz.func93, Tryz.ntmps93
    go_wp2_with (first | (go_at_call 135; refine (isWidth_no _ _ hw).mono ?_; rintro r w' ⟨rfl, rfl⟩) | (go_at_call 134; refine (next_nil _ _ _).mono ?_; rintro r w' ⟨rfl, rfl⟩) | (go_at_call 133; refine (number_any _ _ _ _ _ (rd_nil _) (by omega)).mono ?_; rintro r w' ⟨rfl, rfl⟩))
    go_ret
    exact ⟨rfl, rfl⟩
  · go_enter Tryz.func93, Tryz.ntmps93
    go_wp2_with (first | (go_at_call 135; refine (isWidth_yes _ _ (by omega) (by omega)).mono ?_; rintro r w' ⟨rfl, rfl⟩) | (go_at_call 134; refine (next_nil _ _ _).mono ?_; rintro r w' ⟨rfl, rfl⟩) | (go_at_call 133; refine (number_any _ _ _ _ _ (rd_nil _) (by omega)).mono ?_; rintro r w' ⟨rfl, rfl⟩))
    go_ret
    exact ⟨rfl, rfl⟩

/-! ### Bytes -/
/-- What Bytes does with the part that next gave: a copy of its own. -/
theorem gb_below {w w1 w2 : World} {p : Nat} (h : w.grownBy w1 (some p)) (hb : Below w1.heap.size w1 w2) : w.grownBy w2 (some p) :=
  ⟨hb.os.trans h.os, hb.tape.trans h.tape, hb.output.trans h.output, Nat.le_trans h.size hb.size, fun k hk hne => (hb.block k (Nat.lt_of_lt_of_le hk h.size)).trans (h.block k hk hne)⟩

theorem RW.below {w w' : World} {p : Nat} {ys : List UInt8} {e : Int} (h : RW w p ys e) (hb : Below w.heap.size w w') : RW w' p ys e := by
  have hlt := h.lt
  obtain ⟨a, n, cap, hbk, hr, hl⟩ := h.blk
  exact ⟨a, n, cap, (hb.block p hlt).trans hbk, hr.below hb (fun b off e => Nat.lt_trans (hl _ e) hlt), hl⟩

theorem make_zero (w : World) : (Instr.makeSlice 128 (.int .i64 0) (.int .i64 0)).run Tryz.prog w = .ok (.slice (some ⟨w.heap.size, 0, none⟩) 0 0) (w.alloc (.cells (madeCells #[.int .u8 0] 0) 5)) := make_same 0 (by omega) w

theorem rd_empty (w : World) (g : Nat) : Rd w (some ⟨g, 0, none⟩) 0 0 [] := ⟨rfl, Nat.le_refl _, by omega, by unfold maxLen; omega, fun h => by omega, fun e => by cases e⟩

set_option maxRecDepth 20000 in
set_option maxHeartbeats 1000000 in
theorem bytes_nil (v : Int) (w : World) :
    Calls Tryz.prog 94 #[.pointer none, .int .i64 v] w fun r w' => ∃ a c, r = .returned (.slice a 0 c) ∧ Rd w' a 0 c [] ∧ Below w.heap.size w w' := by
  have hmk := make_zero
  have hsz5 : (Tryz.prog.info? 5).map (·.size) = some 1 := by kernel_rfl
  have hb1 : Below w.heap.size w (w.alloc (.cells (madeCells #[.int .u8 0] 0) 5)) := (Below.refl _ _).alloc (Nat.le_refl _) _
  go_enter Tryz.func94, Tryz.ntmps94
  go_wp2_with (first | (go_at_call 134; refine (next_nil _ _ _).mono ?_; rintro r w' ⟨rfl, rfl⟩) | (with_reducible refine wpList_copy_nothing (o := ⟨some 17, _, _, _, _, _⟩) rfl (.tmp 15) (.tmp 16) 128 128 rfl 5 Tryz.underlying128 hsz5 _ _ _ _ _ _ rfl rfl rfl ?_))
  go_ret
  exact ⟨_, _, rfl, rd_empty _ _, hb1⟩

set_option maxRecDepth 20000 in
set_option maxHeartbeats 2000000 in
theorem bytes_any (p : Nat) (ys : List UInt8) (e m : Int) (w : World) (h : RW w p ys e) :
    Calls Tryz.prog 94 #[.pointer (some ⟨p, 0, none⟩), .int .i64 m] w fun r w' => ∃ a n c, r = .returned (.slice a n c) ∧ Rd w' a n c (rbytes ys e m).1 ∧ (∀ x, a = some x → w.heap.size ≤ x.block) ∧ RW w' p (rbytes ys e m).2.1 (rbytes ys e m).2.2 ∧ w.grownBy w' (some p) := by
  have hmk := make_zero
  have hsz5 : (Tryz.prog.info? 5).map (·.size) = some 1 := by kernel_rfl
  by_cases he : e ≠ 0
  · have hr : rbytes ys e m = ([], ys, e) := by unfold rbytes; rw [if_pos he]
    rw [hr]
    have he2 : (e == 0) = false := by simpa using he
    clear hr he
    have hb1 : Below w.heap.size w (w.alloc (.cells (madeCells #[.int .u8 0] 0) 5)) := (Below.refl _ _).alloc (Nat.le_refl _) _
    go_enter Tryz.func94, Tryz.ntmps94
    go_wp2_with (first | (go_at_call 134; refine (next_stop p ys e _ _ _ h he2).mono ?_; rintro r w' ⟨rfl, rfl⟩) | (with_reducible refine wpList_copy_nothing (o := ⟨some 17, _, _, _, _, _⟩) rfl (.tmp 15) (.tmp 16) 128 128 rfl 5 Tryz.underlying128 hsz5 _ _ _ _ _ _ rfl rfl rfl ?_))
    go_ret
    exact ⟨_, _, _, rfl, rd_empty _ _, (fun x e => by cases e; exact Nat.le_refl _), h.below hb1, gb_below (World.grownBy.refl _ _) hb1⟩
  · have he0 : e = 0 := by omega
    subst he0
    clear he
    by_cases hw : m < 0
    · have hr : rbytes ys 0 m = ([], [], 2) := by unfold rbytes; rw [if_neg (by simp), if_pos hw]
      rw [hr]
      clear hr
      have hf : decide (0 ≤ m) = false := by simp; omega
      go_enter Tryz.func94, Tryz.ntmps94
      go_wp2_with (first | (go_at_call 134; refine (next_unfit p ys _ _ h).mono ?_; rintro r w1 ⟨rfl, hrw, hg⟩) | (with_reducible refine wpList_copy_nothing (o := ⟨some 17, _, _, _, _, _⟩) rfl (.tmp 15) (.tmp 16) 128 128 rfl 5 Tryz.underlying128 hsz5 _ _ _ _ _ _ rfl rfl rfl ?_))
      go_ret
      have hb1 : Below w1.heap.size w1 (w1.alloc (.cells (madeCells #[.int .u8 0] 0) 5)) := (Below.refl _ _).alloc (Nat.le_refl _) _
      exact ⟨_, _, _, rfl, rd_empty _ _, (fun x e => by cases e; exact hg.size), hrw.below hb1, gb_below hg hb1⟩
    · have hf : decide (0 ≤ m) = true := by simp; omega
      by_cases hs : (ys.length : Int) < m
      · have hr : rbytes ys 0 m = ([], [], 7) := by unfold rbytes; rw [if_neg (by simp), if_neg hw, if_pos hs]
        rw [hr]
        clear hr
        go_enter Tryz.func94, Tryz.ntmps94
        go_wp2_with (first | (go_at_call 134; refine (next_short p ys _ _ h hs).mono ?_; rintro r w1 ⟨rfl, hrw, hg⟩) | (with_reducible refine wpList_copy_nothing (o := ⟨some 17, _, _, _, _, _⟩) rfl (.tmp 15) (.tmp 16) 128 128 rfl 5 Tryz.underlying128 hsz5 _ _ _ _ _ _ rfl rfl rfl ?_))
        go_ret
        have hb1 : Below w1.heap.size w1 (w1.alloc (.cells (madeCells #[.int .u8 0] 0) 5)) := (Below.refl _ _).alloc (Nat.le_refl _) _
        exact ⟨_, _, _, rfl, rd_empty _ _, (fun x e => by cases e; exact hg.size), hrw.below hb1, gb_below hg hb1⟩
      · have hr : rbytes ys 0 m = (ys.take m.toNat, ys.drop m.toNat, 0) := by unfold rbytes; rw [if_neg (by simp), if_neg hw, if_neg hs]
        rw [hr]
        clear hr hmk
        obtain ⟨m, rfl⟩ := Int.eq_ofNat_of_zero_le (a := m) (by omega)
        rw [Int.toNat_natCast]
        go_enter Tryz.func94, Tryz.ntmps94
        go_wp2_with fail
        refine (next_ok p ys m _ h (by omega)).mono ?_
        rintro r w1 ⟨a, c, rfl, hrd, hbl, hrw, hg⟩
        have hlen := Lib.hid hrd.len
        have hbig := hrd.big
        have hmk := make_same m hbig
        have hb1 : Below w1.heap.size w1 (w1.alloc (.cells (madeCells #[.int .u8 0] m) 5)) := (Below.refl _ _).alloc (Nat.le_refl _) _
        go_wp2_with (with_reducible refine wpList_copy_splice (o := ⟨some 17, _, _, _, _, _⟩) rfl (.tmp 15) (.tmp 16) 128 128 rfl 5 Tryz.underlying128 hsz5 _ _ _ _ _ _ rfl rfl w1.heap.size 0 (madeCells #[.int .u8 0] m).toList 5 ?hg (bvs (ys.take m)) ?hn ?hpos ?hfit (bvs_one _) w1.heap.size w1 hb1 (Nat.le_refl _) ?_)
        case hg => simpa using heap_alloc_new w1 _
        case hn => rw [bvs_length, hlen.out]; simp
        case hpos => exact hrd.src hb1
        case hfit => rw [bvs_length, hlen.out]; simp [size_madeCells]
        intro w2 HG hB1
        have hown := owns_splice (Nat.le_refl _) hlen.out (Nat.le_refl _) hbig HG.out
        have hrd2 := rd_of_owns hown hbig
        clear HG hb1 hmk hsz5 hown
        go_wp2
        go_ret
        exact ⟨_, _, _, rfl, hrd2, (fun x e => by cases e; exact hg.size), hrw.below hB1, gb_below hg hB1⟩

end Go.Proofs.YtpkeikbiblfidaaGreatDoor
/-
  The fixed calls ('known') and the law of the reader that is not there.
-/
namespace Go.Proofs.YtpkeikbiblfidaaGreatDoor
open Go.RowKit
set_option linter.unusedVariables false

theorem run_string_rd {w : World} {a : Option Addr} {n cap : Nat} {xs : List UInt8} (h : Rd w a n cap xs) :
    (convert 128 9 (.slice a n cap)).run Tryz.prog w = .ok (.string ⟨xs.toArray⟩) w := by
  cases a with
  | none =>
    have hc := h.nil rfl
    have hn : n = 0 := by have := h.le; omega
    subst hn
    obtain rfl : xs = [] := List.eq_nil_of_length_eq_zero h.len
    rw [run_convert_bytes_string w 128 9 5 none 0 cap Tryz.underlying128 Tryz.underlying5 Tryz.underlying9]
    simp [Conv.bytesToString]
    rfl
  | some x =>
    have := run_convert_bytes_back (P := Tryz.prog) w 128 9 5 x cap xs Tryz.underlying128 Tryz.underlying5 Tryz.underlying9 (fun j hj => by
      obtain ⟨b, off, e, hlt, hc⟩ := h.at0 (by rw [← h.len]; omega)
      cases e
      rw [Addr.add_none, hc j (by rw [← h.len]; exact hj), List.getElem?_eq_getElem hj]
      rfl)
    rwa [h.len] at this

theorem three_rd (w : World) : Rd (w.alloc (.cells #[.int .u8 1, .int .u8 2, .int .u8 3] 5)) (some ⟨w.heap.size, 0, none⟩) 3 3 [1, 2, 3] := by
  refine ⟨rfl, Nat.le_refl _, by omega, by unfold maxLen; omega, fun _ => ⟨_, _, rfl, by simp, fun i hi => ?_⟩, fun e => by cases e⟩
  rw [World.cell?_alloc_at _ _ _ _ rfl, Nat.zero_add]
  match i, hi with
  | 0, _ => rfl
  | 1, _ => rfl
  | 2, _ => rfl

theorem gb_low {w w1 : World} {B p : Nat} (h : w.grownBy w1 (some p)) (hp : B ≤ p) (hB : B ≤ w.heap.size) : Below B w w1 :=
  ⟨h.os, h.tape, h.output, h.size, fun k hk => h.block k (by omega) (by simp; omega)⟩
end Go.Proofs.YtpkeikbiblfidaaGreatDoor
/-
  Contracts for every argument: Get and Put of the program and of the reference, told by one plain function each.
-/
namespace Go.Proofs.YtpkeikbiblfidaaGreatDoor
open Go.RowKit
set_option linter.unusedVariables false

/-- What Get answers. -/
def getR (xs : List UInt8) (at_ wd : Int) : Nat × Int :=
  if wd < 1 ∨ 8 < wd ∨ at_ < 0 then (0, 2) else if (xs.length : Int) - at_ < wd then (0, 7) else (numN ((xs.drop at_.toNat).take wd.toNat), 0)

/-- What Put answers. -/
def putR (xs : List UInt8) (wd : Int) (v : Nat) : List UInt8 := if wd < 1 ∨ 8 < wd then xs else xs ++ enc v wd.toNat



theorem put_any (a : Option Addr) (n cap : Nat) (xs : List UInt8) (wd : Int) (v : Nat) (w : World) (h : Rd w a n cap xs) (hn : n ≤ 140737488351232) (hv : v < 18446744073709551616) :
    Calls Tryz.prog 104 #[.slice a n cap, .int .i64 wd, .int .u64 v] w fun e w' => ∃ a' m c, e = .returned (.slice a' m c) ∧ Rd w' a' m c (putR xs wd v) ∧ Below w.heap.size w w' := by
  by_cases h1 : wd < 1 ∨ 8 < wd
  · have hr : putR xs wd v = xs := by unfold putR; rw [if_pos h1]
    rw [hr]
    exact (put_no a n cap xs wd _ w h h1 (by omega)).mono fun e w' ⟨a', c, e1, e2, e3⟩ => ⟨a', n, c, e1, e2, e3⟩
  · have hr : putR xs wd v = xs ++ enc v wd.toNat := by unfold putR; rw [if_neg h1]
    rw [hr]
    obtain ⟨m, rfl⟩ := Int.eq_ofNat_of_zero_le (a := wd) (by omega)
    rw [Int.toNat_natCast]
    exact (put_ok a n cap xs m v w h (by omega) (by omega) hv (by omega)).mono fun e w' ⟨g, c, e1, _, e2, e3⟩ => ⟨_, _, c, e1, e2, e3⟩

theorem rput_any (a : Option Addr) (n cap : Nat) (xs : List UInt8) (wd : Int) (v : Nat) (w : World) (h : Rd w a n cap xs) (hn : n ≤ 140737488351232) (hv : v < 18446744073709551616) :
    Calls Tryz.prog 142 #[.slice a n cap, .int .i64 wd, .int .u64 v] w fun e w' => ∃ a' m c, e = .returned (.slice a' m c) ∧ Rd w' a' m c (putR xs wd v) ∧ Below w.heap.size w w' := by
  by_cases h1 : wd < 1 ∨ 8 < wd
  · have hr : putR xs wd v = xs := by unfold putR; rw [if_pos h1]
    rw [hr]
    exact (rput_no a n cap xs wd _ w h h1).mono fun e w' ⟨a', c, e1, e2, e3⟩ => ⟨a', n, c, e1, e2, e3⟩
  · have hr : putR xs wd v = xs ++ enc v wd.toNat := by unfold putR; rw [if_neg h1]
    rw [hr]
    obtain ⟨m, rfl⟩ := Int.eq_ofNat_of_zero_le (a := wd) (by omega)
    rw [Int.toNat_natCast]
    exact (rput_ok a n cap xs m v w h (by omega) (by omega) hv (by omega)).mono fun e w' ⟨g, c, e1, e2, e3⟩ => ⟨_, _, c, e1, e2, e3⟩

theorem run_string_rd2 {w : World} {a : Option Addr} {n cap : Nat} {xs : List UInt8} {s : ByteArray} (hs : Hid (s = ⟨xs.toArray⟩)) (h : Rd w a n cap xs) :
    (convert 128 9 (.slice a n cap)).run Tryz.prog w = .ok (.string s) w := by rw [hs.out]; exact run_string_rd h

end Go.Proofs.YtpkeikbiblfidaaGreatDoor
/-
  Contracts: the reference's reader: Num, Bytes, Left.
-/
namespace Go.Proofs.YtpkeikbiblfidaaGreatDoor
open Go.RowKit
set_option linter.unusedVariables false


/-- What is left of it. -/
def restOf (xs : List UInt8) (i : Nat) (e : Int) : List UInt8 := if e = 0 then xs.drop i else []





end Go.Proofs.YtpkeikbiblfidaaGreatDoor

/-
  Contracts: the program's reader: Num, Bytes.
-/
import Derived.Test.YtipegdfjpmlcbaaA3
namespace Go.Proofs.Ytipegdfjpmlcbaa
open Go.RowKit
set_option linter.unusedVariables false

/-- What a reader answers that is asked for a number of wd bytes; what is left; why it stopped. -/
def rnum (ys : List UInt8) (e wd : Int) : Nat × List UInt8 × Int :=
  if e ≠ 0 then (0, ys, e) else if wd < 1 ∨ 8 < wd then (0, [], 2) else if (ys.length : Int) < wd then (0, [], 7) else (numN (ys.take wd.toNat), ys.drop wd.toNat, 0)

/-- The same for m bytes. -/
def rbytes (ys : List UInt8) (e m : Int) : List UInt8 × List UInt8 × Int :=
  if e ≠ 0 then ([], ys, e) else if m < 0 then ([], [], 2) else if (ys.length : Int) < m then ([], [], 7) else (ys.take m.toNat, ys.drop m.toNat, 0)

set_option maxRecDepth 20000 in
set_option maxHeartbeats 1000000 in
theorem num_any (p : Nat) (ys : List UInt8) (e wd : Int) (w : World) (h : RW w p ys e) :
    Calls Try.prog 27 #[.pointer (some ⟨p, 0, none⟩), .int .i64 wd] w fun r w' => r = .returned (.int .u64 ((rnum ys e wd).1 : Int)) ∧ RW w' p (rnum ys e wd).2.1 (rnum ys e wd).2.2 ∧ w.grownBy w' (some p) := by
  by_cases he : e ≠ 0
  · have hr : rnum ys e wd = (0, ys, e) := by unfold rnum; rw [if_pos he]
    rw [hr]
    have he2 : (e == 0) = false := by simpa using he
    clear hr he
    by_cases hw : wd < 1 ∨ 8 < wd
    · go_enter Try.func27, Try.ntmps27
      go_wp2_with (first | (go_at_call 35; refine (isWidth_no _ _ hw).mono ?_; rintro r w' ⟨rfl, rfl⟩) | (go_at_call 43; refine (next_stop p ys e _ _ _ h he2).mono ?_; rintro r w' ⟨rfl, rfl⟩) | (go_at_call 42; refine (number_any _ _ _ _ _ (rd_nil _) (by omega)).mono ?_; rintro r w' ⟨rfl, rfl⟩))
      go_ret
      exact ⟨rfl, h, World.grownBy.refl _ _⟩
    · go_enter Try.func27, Try.ntmps27
      go_wp2_with (first | (go_at_call 35; refine (isWidth_yes _ _ (by omega) (by omega)).mono ?_; rintro r w' ⟨rfl, rfl⟩) | (go_at_call 43; refine (next_stop p ys e _ _ _ h he2).mono ?_; rintro r w' ⟨rfl, rfl⟩) | (go_at_call 42; refine (number_any _ _ _ _ _ (rd_nil _) (by omega)).mono ?_; rintro r w' ⟨rfl, rfl⟩))
      go_ret
      exact ⟨rfl, h, World.grownBy.refl _ _⟩
  · have he0 : e = 0 := by omega
    subst he0
    clear he
    by_cases hw : wd < 1 ∨ 8 < wd
    · have hr : rnum ys 0 wd = (0, [], 2) := by unfold rnum; rw [if_neg (by simp), if_pos hw]
      rw [hr]
      clear hr
      go_enter Try.func27, Try.ntmps27
      go_wp2_with (first | (go_at_call 35; refine (isWidth_no _ _ hw).mono ?_; rintro r w' ⟨rfl, rfl⟩) | (go_at_call 43; refine (next_unfit p ys _ _ h).mono ?_; rintro r w' ⟨rfl, hrw, hg⟩) | (go_at_call 42; refine (number_any _ _ _ _ _ (rd_nil _) (by omega)).mono ?_; rintro r w' ⟨rfl, rfl⟩))
      go_ret
      exact ⟨rfl, by assumption, by assumption⟩
    · by_cases hs : (ys.length : Int) < wd
      · have hr : rnum ys 0 wd = (0, [], 7) := by unfold rnum; rw [if_neg (by simp), if_neg hw, if_pos hs]
        rw [hr]
        clear hr
        go_enter Try.func27, Try.ntmps27
        go_wp2_with (first | (go_at_call 35; refine (isWidth_yes _ _ (by omega) (by omega)).mono ?_; rintro r w' ⟨rfl, rfl⟩) | (go_at_call 43; refine (next_short p ys _ _ h hs).mono ?_; rintro r w' ⟨rfl, hrw, hg⟩) | (go_at_call 42; refine (number_any _ _ _ _ _ (rd_nil _) (by omega)).mono ?_; rintro r w' ⟨rfl, rfl⟩))
        go_ret
        exact ⟨rfl, by assumption, by assumption⟩
      · have hr : rnum ys 0 wd = (numN (ys.take wd.toNat), ys.drop wd.toNat, 0) := by unfold rnum; rw [if_neg (by simp), if_neg hw, if_neg hs]
        rw [hr]
        clear hr
        obtain ⟨m, rfl⟩ := Int.eq_ofNat_of_zero_le (a := wd) (by omega)
        rw [Int.toNat_natCast]
        go_enter Try.func27, Try.ntmps27
        go_wp2_with (first | (go_at_call 35; refine (isWidth_yes _ _ (by omega) (by omega)).mono ?_; rintro r w' ⟨rfl, rfl⟩))
        refine (next_ok p ys m _ h (by omega)).mono ?_
        rintro r w1 ⟨a, c, rfl, hrd, hbl, hrw, hg⟩
        go_wp2_with (go_at_call 42; refine (number_any _ _ _ _ _ hrd (by omega)).mono ?_; rintro r w' ⟨rfl, rfl⟩)
        go_ret
        exact ⟨rfl, hrw, hg⟩

set_option maxRecDepth 20000 in
theorem num_nil (v : Int) (w : World) :
    Calls Try.prog 27 #[.pointer none, .int .i64 v] w fun r w' => r = .returned (.int .u64 0) ∧ w = w' := by
  by_cases hw : v < 1 ∨ 8 < v
  · go_enter Try.func27, Try.ntmps27
    go_wp2_with (first | (go_at_call 35; refine (isWidth_no _ _ hw).mono ?_; rintro r w' ⟨rfl, rfl⟩) | (go_at_call 43; refine (next_nil _ _ _).mono ?_; rintro r w' ⟨rfl, rfl⟩) | (go_at_call 42; refine (number_any _ _ _ _ _ (rd_nil _) (by omega)).mono ?_; rintro r w' ⟨rfl, rfl⟩))
    go_ret
    exact ⟨rfl, rfl⟩
  · go_enter Try.func27, Try.ntmps27
    go_wp2_with (first | (go_at_call 35; refine (isWidth_yes _ _ (by omega) (by omega)).mono ?_; rintro r w' ⟨rfl, rfl⟩) | (go_at_call 43; refine (next_nil _ _ _).mono ?_; rintro r w' ⟨rfl, rfl⟩) | (go_at_call 42; refine (number_any _ _ _ _ _ (rd_nil _) (by omega)).mono ?_; rintro r w' ⟨rfl, rfl⟩))
    go_ret
    exact ⟨rfl, rfl⟩

/-! ### Bytes -/
/-- What Bytes does with the part that next gave: a copy of its own. -/
theorem gb_below {w w1 w2 : World} {p : Nat} (h : w.grownBy w1 (some p)) (hb : Below w1.heap.size w1 w2) : w.grownBy w2 (some p) :=
  ⟨hb.os.trans h.os, hb.tape.trans h.tape, hb.output.trans h.output, Nat.le_trans h.size hb.size, fun k hk hne => (hb.block k (Nat.lt_of_lt_of_le hk h.size)).trans (h.block k hk hne)⟩

theorem RW.below {w w' : World} {p : Nat} {ys : List UInt8} {e : Int} (h : RW w p ys e) (hb : Below w.heap.size w w') : RW w' p ys e := by
  have hlt := h.lt
  obtain ⟨a, n, cap, hbk, hr, hl⟩ := h.blk
  exact ⟨a, n, cap, (hb.block p hlt).trans hbk, hr.below hb (fun b off e => Nat.lt_trans (hl _ e) hlt), hl⟩

theorem make_zero (w : World) : (Instr.makeSlice 29 (.int .i64 0) (.int .i64 0)).run Try.prog w = .ok (.slice (some ⟨w.heap.size, 0, none⟩) 0 0) (w.alloc (.cells (madeCells #[.int .u8 0] 0) 5)) := make_same 0 (by omega) w

theorem rd_empty (w : World) (g : Nat) : Rd w (some ⟨g, 0, none⟩) 0 0 [] := ⟨rfl, Nat.le_refl _, by omega, by unfold maxLen; omega, fun h => by omega, fun e => by cases e⟩

set_option maxRecDepth 20000 in
set_option maxHeartbeats 1000000 in
theorem bytes_nil (v : Int) (w : World) :
    Calls Try.prog 30 #[.pointer none, .int .i64 v] w fun r w' => ∃ a c, r = .returned (.slice a 0 c) ∧ Rd w' a 0 c [] ∧ Below w.heap.size w w' := by
  have hmk := make_zero
  have hsz5 : (Try.prog.info? 5).map (·.size) = some 1 := by kernel_rfl
  have hb1 : Below w.heap.size w (w.alloc (.cells (madeCells #[.int .u8 0] 0) 5)) := (Below.refl _ _).alloc (Nat.le_refl _) _
  go_enter Try.func30, Try.ntmps30
  go_wp2_with (first | (go_at_call 43; refine (next_nil _ _ _).mono ?_; rintro r w' ⟨rfl, rfl⟩) | (with_reducible refine wpList_copy_nothing (o := ⟨some 17, _, _, _, _, _⟩) rfl (.tmp 15) (.tmp 16) 29 29 rfl 5 Try.underlying29 hsz5 _ _ _ _ _ _ rfl rfl rfl ?_))
  go_ret
  exact ⟨_, _, rfl, rd_empty _ _, hb1⟩

set_option maxRecDepth 20000 in
set_option maxHeartbeats 2000000 in
theorem bytes_any (p : Nat) (ys : List UInt8) (e m : Int) (w : World) (h : RW w p ys e) :
    Calls Try.prog 30 #[.pointer (some ⟨p, 0, none⟩), .int .i64 m] w fun r w' => ∃ a n c, r = .returned (.slice a n c) ∧ Rd w' a n c (rbytes ys e m).1 ∧ (∀ x, a = some x → w.heap.size ≤ x.block) ∧ RW w' p (rbytes ys e m).2.1 (rbytes ys e m).2.2 ∧ w.grownBy w' (some p) := by
  have hmk := make_zero
  have hsz5 : (Try.prog.info? 5).map (·.size) = some 1 := by kernel_rfl
  by_cases he : e ≠ 0
  · have hr : rbytes ys e m = ([], ys, e) := by unfold rbytes; rw [if_pos he]
    rw [hr]
    have he2 : (e == 0) = false := by simpa using he
    clear hr he
    have hb1 : Below w.heap.size w (w.alloc (.cells (madeCells #[.int .u8 0] 0) 5)) := (Below.refl _ _).alloc (Nat.le_refl _) _
    go_enter Try.func30, Try.ntmps30
    go_wp2_with (first | (go_at_call 43; refine (next_stop p ys e _ _ _ h he2).mono ?_; rintro r w' ⟨rfl, rfl⟩) | (with_reducible refine wpList_copy_nothing (o := ⟨some 17, _, _, _, _, _⟩) rfl (.tmp 15) (.tmp 16) 29 29 rfl 5 Try.underlying29 hsz5 _ _ _ _ _ _ rfl rfl rfl ?_))
    go_ret
    exact ⟨_, _, _, rfl, rd_empty _ _, (fun x e => by cases e; exact Nat.le_refl _), h.below hb1, gb_below (World.grownBy.refl _ _) hb1⟩
  · have he0 : e = 0 := by omega
    subst he0
    clear he
    by_cases hw : m < 0
    · have hr : rbytes ys 0 m = ([], [], 2) := by unfold rbytes; rw [if_neg (by simp), if_pos hw]
      rw [hr]
      clear hr
      have hf : decide (0 ≤ m) = false := by simp; omega
      go_enter Try.func30, Try.ntmps30
      go_wp2_with (first | (go_at_call 43; refine (next_unfit p ys _ _ h).mono ?_; rintro r w1 ⟨rfl, hrw, hg⟩) | (with_reducible refine wpList_copy_nothing (o := ⟨some 17, _, _, _, _, _⟩) rfl (.tmp 15) (.tmp 16) 29 29 rfl 5 Try.underlying29 hsz5 _ _ _ _ _ _ rfl rfl rfl ?_))
      go_ret
      have hb1 : Below w1.heap.size w1 (w1.alloc (.cells (madeCells #[.int .u8 0] 0) 5)) := (Below.refl _ _).alloc (Nat.le_refl _) _
      exact ⟨_, _, _, rfl, rd_empty _ _, (fun x e => by cases e; exact hg.size), hrw.below hb1, gb_below hg hb1⟩
    · have hf : decide (0 ≤ m) = true := by simp; omega
      by_cases hs : (ys.length : Int) < m
      · have hr : rbytes ys 0 m = ([], [], 7) := by unfold rbytes; rw [if_neg (by simp), if_neg hw, if_pos hs]
        rw [hr]
        clear hr
        go_enter Try.func30, Try.ntmps30
        go_wp2_with (first | (go_at_call 43; refine (next_short p ys _ _ h hs).mono ?_; rintro r w1 ⟨rfl, hrw, hg⟩) | (with_reducible refine wpList_copy_nothing (o := ⟨some 17, _, _, _, _, _⟩) rfl (.tmp 15) (.tmp 16) 29 29 rfl 5 Try.underlying29 hsz5 _ _ _ _ _ _ rfl rfl rfl ?_))
        go_ret
        have hb1 : Below w1.heap.size w1 (w1.alloc (.cells (madeCells #[.int .u8 0] 0) 5)) := (Below.refl _ _).alloc (Nat.le_refl _) _
        exact ⟨_, _, _, rfl, rd_empty _ _, (fun x e => by cases e; exact hg.size), hrw.below hb1, gb_below hg hb1⟩
      · have hr : rbytes ys 0 m = (ys.take m.toNat, ys.drop m.toNat, 0) := by unfold rbytes; rw [if_neg (by simp), if_neg hw, if_neg hs]
        rw [hr]
        clear hr hmk
        obtain ⟨m, rfl⟩ := Int.eq_ofNat_of_zero_le (a := m) (by omega)
        rw [Int.toNat_natCast]
        go_enter Try.func30, Try.ntmps30
        go_wp2_with fail
        refine (next_ok p ys m _ h (by omega)).mono ?_
        rintro r w1 ⟨a, c, rfl, hrd, hbl, hrw, hg⟩
        have hlen := Lib.hid hrd.len
        have hbig := hrd.big
        have hmk := make_same m hbig
        have hb1 : Below w1.heap.size w1 (w1.alloc (.cells (madeCells #[.int .u8 0] m) 5)) := (Below.refl _ _).alloc (Nat.le_refl _) _
        go_wp2_with (with_reducible refine wpList_copy_splice (o := ⟨some 17, _, _, _, _, _⟩) rfl (.tmp 15) (.tmp 16) 29 29 rfl 5 Try.underlying29 hsz5 _ _ _ _ _ _ rfl rfl w1.heap.size 0 (madeCells #[.int .u8 0] m).toList 5 ?hg (bvs (ys.take m)) ?hn ?hpos ?hfit (bvs_one _) w1.heap.size w1 hb1 (Nat.le_refl _) ?_)
        case hg => simpa using heap_alloc_new w1 _
        case hn => rw [bvs_length, hlen.out]; simp
        case hpos => exact hrd.src hb1
        case hfit => rw [bvs_length, hlen.out]; simp [size_madeCells]
        intro w2 HG hB1
        have hown := owns_splice (Nat.le_refl _) hlen.out (Nat.le_refl _) hbig HG.out
        have hrd2 := rd_of_owns hown hbig
        clear HG hb1 hmk hsz5 hown
        go_wp2
        go_ret
        exact ⟨_, _, _, rfl, hrd2, (fun x e => by cases e; exact hg.size), hrw.below hB1, gb_below hg hB1⟩

end Go.Proofs.Ytipegdfjpmlcbaa


/-
  Contracts: the program's reader: Num, Bytes.
-/
import Derived.Test.YtodcdefmoliegaaGreatDoorA3
namespace Go.Proofs.YtodcdefmoliegaaGreatDoor
open Go.RowKit
set_option linter.unusedVariables false

/-- What a reader answers that is asked for a number of wd bytes; what is left; why it stopped. -/
def rnum (ys : List UInt8) (e wd : Int) : Nat × List UInt8 × Int :=
  if e ≠ 0 then (0, ys, e) else if wd < 1 ∨ 8 < wd then (0, [], 2) else if (ys.length : Int) < wd then (0, [], 7) else (numN (ys.take wd.toNat), ys.drop wd.toNat, 0)

/-- The same for m bytes. -/
def rbytes (ys : List UInt8) (e m : Int) : List UInt8 × List UInt8 × Int :=
  if e ≠ 0 then ([], ys, e) else if m < 0 then ([], [], 2) else if (ys.length : Int) < m then ([], [], 7) else (ys.take m.toNat, ys.drop m.toNat, 0)

set_option maxRecDepth 20000 in
set_option maxHeartbeats 1000000 in
theorem num_any (p : Nat) (ys : List UInt8) (e wd : Int) (w : World) (h : RW w p ys e) :
    Calls Tryz.prog 72 #[.pointer (some ⟨p, 0, none⟩), .int .i64 wd] w fun r w' => r = .returned (.int .u64 ((rnum ys e wd).1 : Int)) ∧ RW w' p (rnum ys e wd).2.1 (rnum ys e wd).2.2 ∧ w.grownBy w' (some p) := by
  by_cases he : e ≠ 0
  · have hr : rnum ys e wd = (0, ys, e) := by unfold rnum; rw [if_pos he]
    rw [hr]
    have he2 : (e == 0) = false := by simpa using he
    clear hr he
    by_cases hw : wd < 1 ∨ 8 < wd
    · go_enter Tryz.func72, Tryz.ntmps72
      go_wp2_with (first | (go_at_call 73; refine (isWidth_no _ _ hw).mono ?_; rintro r w' ⟨rfl, rfl⟩) | (go_at_call 85; refine (next_stop p ys e _ _ _ h he2).mono ?_; rintro r w' ⟨rfl, rfl⟩) | (go_at_call 74; refine (number_any _ _ _ _ _ (rd_nil _) (by omega)).mono ?_; rintro r w' ⟨rfl, rfl⟩))
      go_ret
      exact ⟨rfl, h, World.grownBy.refl _ _⟩
    · go_enter Tryz.func72, Tryz.ntmps72
      go_wp2_with (first | (go_at_call 73; refine (isWidth_yes _ _ (by omega) (by omega)).mono ?_; rintro r w' ⟨rfl, rfl⟩) | (go_at_call 85; refine (next_stop p ys e _ _ _ h he2).mono ?_; rintro r w' ⟨rfl, rfl⟩) | (go_at_call 74; refine (number_any _ _ _ _ _ (rd_nil _) (by omega)).mono ?_; rintro r w' ⟨rfl, rfl⟩))
      go_ret
      exact ⟨rfl, h, World.grownBy.refl _ _⟩
  · have he0 : e = 0 := by omega
    subst he0
    clear he
    by_cases hw : wd < 1 ∨ 8 < wd
    · have hr : rnum ys 0 wd = (0, [], 2) := by unfold rnum; rw [if_neg (by simp), if_pos hw]
      rw [hr]
      clear hr
      go_enter Tryz.func72, Tryz.ntmps72
      go_wp2_with (first | (go_at_call 73; refine (isWidth_no _ _ hw).mono ?_; rintro r w' ⟨rfl, rfl⟩) | (go_at_call 85; refine (next_unfit p ys _ _ h).mono ?_; rintro r w' ⟨rfl, hrw, hg⟩) | (go_at_call 74; refine (number_any _ _ _ _ _ (rd_nil _) (by omega)).mono ?_; rintro r w' ⟨rfl, rfl⟩))
      go_ret
      exact ⟨rfl, by assumption, by assumption⟩
    · by_cases hs : (ys.length : Int) < wd
      · have hr : rnum ys 0 wd = (0, [], 7) := by unfold rnum; rw [if_neg (by simp), if_neg hw, if_pos hs]
        rw [hr]
        clear hr
        go_enter Tryz.func72, Tryz.ntmps72
        go_wp2_with (first | (go_at_call 73; refine (isWidth_yes _ _ (by omega) (by omega)).mono ?_; rintro r w' ⟨rfl, rfl⟩) | (go_at_call 85; refine (next_short p ys _ _ h hs).mono ?_; rintro r w' ⟨rfl, hrw, hg⟩) | (go_at_call 74; refine (number_any _ _ _ _ _ (rd_nil _) (by omega)).mono ?_; rintro r w' ⟨rfl, rfl⟩))
        go_ret
        exact ⟨rfl, by assumption, by assumption⟩
      · have hr : rnum ys 0 wd = (numN (ys.take wd.toNat), ys.drop wd.toNat, 0) := by unfold rnum; rw [if_neg (by simp), if_neg hw, if_neg hs]
        rw [hr]
        clear hr
        obtain ⟨m, rfl⟩ := Int.eq_ofNat_of_zero_le (a := wd) (by omega)
        rw [Int.toNat_natCast]
        go_enter Tryz.func72, Tryz.ntmps72
        go_wp2_with (first | (go_at_call 73; refine (isWidth_yes _ _ (by omega) (by omega)).mono ?_; rintro r w' ⟨rfl, rfl⟩))
        refine (next_ok p ys m _ h (by omega)).mono ?_
        rintro r w1 ⟨a, c, rfl, hrd, hbl, hrw, hg⟩
        go_wp2_with (go_at_call 74; refine (number_any _ _ _ _ _ hrd (by omega)).mono ?_; rintro r w' ⟨rfl, rfl⟩)
        go_ret
        exact ⟨rfl, hrw, hg⟩

set_option maxRecDepth 20000 in
theorem num_nil (v : Int) (w : World) :
    Calls Tryz.prog 72 #[.pointer none, .int .i64 v] w fun r w' => r = .returned (.int .u64 0) ∧ w = w' := by
  by_cases hw : v < 1 ∨ 8 < v
  · go_enter Tryz.func72, Tryz.ntmps72
    go_wp2_with (first | (go_at_call 73; refine (isWidth_no _ _ hw).mono ?_; rintro r w' ⟨rfl, rfl⟩) | (go_at_call 85; refine (next_nil _ _ _).mono ?_; rintro r w' ⟨rfl, rfl⟩) | (go_at_call 74; refine (number_any _ _ _ _ _ (rd_nil _) (by omega)).mono ?_; rintro r w' ⟨rfl, rfl⟩))
    go_ret
    exact ⟨rfl, rfl⟩
  · go_enter Tryz.func72, Tryz.ntmps72
    go_wp2_with (first | (go_at_call 73; refine (isWidth_yes _ _ (by omega) (by omega)).mono ?_; rintro r w' ⟨rfl, rfl⟩) | (go_at_call 85; refine (next_nil _ _ _).mono ?_; rintro r w' ⟨rfl, rfl⟩) | (go_at_call 74; refine (number_any _ _ _ _ _ (rd_nil _) (by omega)).mono ?_; rintro r w' ⟨rfl, rfl⟩))
    go_ret
    exact ⟨rfl, rfl⟩

/-! ### Bytes -/
/-- What Bytes does with the part that next gave: a copy of its own. -/
theorem gb_below {w w1 w2 : World} {p : Nat} (h : w.grownBy w1 (some p)) (hb : Below w1.heap.size w1 w2) : w.grownBy w2 (some p) :=
  ⟨hb.os.trans h.os, hb.tape.trans h.tape, hb.output.trans h.output, Nat.le_trans h.size hb.size, fun k hk hne => (hb.block k (Nat.lt_of_lt_of_le hk h.size)).trans (h.block k hk hne)⟩

theorem RW.below {w w' : World} {p : Nat} {ys : List UInt8} {e : Int} (h : RW w p ys e) (hb : Below w.heap.size w w') : RW w' p ys e := by
  have hlt := h.lt
  obtain ⟨a, n, cap, hbk, hr, hl⟩ := h.blk
  exact ⟨a, n, cap, (hb.block p hlt).trans hbk, hr.below hb (fun b off e => Nat.lt_trans (hl _ e) hlt), hl⟩

theorem make_zero (w : World) : (Instr.makeSlice 77 (.int .i64 0) (.int .i64 0)).run Tryz.prog w = .ok (.slice (some ⟨w.heap.size, 0, none⟩) 0 0) (w.alloc (.cells (madeCells #[.int .u8 0] 0) 5)) := make_same 0 (by omega) w

theorem rd_empty (w : World) (g : Nat) : Rd w (some ⟨g, 0, none⟩) 0 0 [] := ⟨rfl, Nat.le_refl _, by omega, by unfold maxLen; omega, fun h => by omega, fun e => by cases e⟩



end Go.Proofs.YtodcdefmoliegaaGreatDoor


/-
  Contracts: the reference's reader: Bytes.
-/
import Derived.Test.YtipegdfjpmlcbaaA7
import Derived.IntWalk
namespace Go.Proofs.Ytipegdfjpmlcbaa
open Go.RowKit
set_option linter.unusedVariables false

/-- What the reference's Bytes answers and leaves. -/
def RbPost (q B : Nat) (xs : List UInt8) (i : Nat) (e m : Int) (w : World) (r : Ending) (w' : World) : Prop :=
  ∃ a n c, r = .returned (.slice a n c) ∧ Rd w' a n c (rbytes (restOf xs i e) e m).1 ∧ w.grownBy w' (some q) ∧
    ∃ i', RS w' q B xs i' (rbytes (restOf xs i e) e m).2.2 ∧ restOf xs i' (rbytes (restOf xs i e) e m).2.2 = (rbytes (restOf xs i e) e m).2.1

set_option maxRecDepth 20000 in
set_option maxHeartbeats 1000000 in
theorem rbytes_any (q B : Nat) (xs : List UInt8) (i : Nat) (e m : Int) (w : World) (h : RS w q B xs i e) :
    Calls Try.prog 29 #[.pointer (some ⟨q, 0, none⟩), .int .i64 m] w (RbPost q B xs i e m w) := by
  obtain ⟨a, n, cap, hb, hr, hi, hlB, hBq⟩ := h.blk
  have hl : ∀ x, a = some x → 0 < n → x.block < q := fun x e h0 => Nat.lt_of_lt_of_le (hlB x e h0) hBq
  have c0 : w.cell? ⟨q, 0, none⟩ = some (.slice a n cap) := cell_of_blk hb 0
  have c1 : w.cell? ⟨q, 1, none⟩ = some (.int .i64 i) := cell_of_blk hb 1
  have c2 : w.cell? ⟨q, 2, none⟩ = some (.int .i64 e) := cell_of_blk hb 2
  have f1 : w.frozen? ⟨q, 1, none⟩ = false := free_of_blk hb 1
  have f2 : w.frozen? ⟨q, 2, none⟩ = false := free_of_blk hb 2
  have hbig := hr.big
  have HB := Lib.hid hb
  clear hb
  by_cases he : e ≠ 0
  · have hrn : rbytes (restOf xs i e) e m = ([], restOf xs i e, e) := by unfold rbytes; rw [if_pos he]
    have he2 : (e != 0) = true := by simpa using he
    have he3 : (e == 0) = false := by simpa using he
    have HN := Lib.hid hrn
    clear hrn he
    go_enter Try.func29, Try.ntmps29
    go_wp2
    go_quiet (fail)
    go_wp2
    go_ret
    unfold RbPost
    rw [HN.out]
    exact ⟨_, _, _, rfl, rd_nil _, gb_drewN _ _ _, i, h.same rfl, rfl⟩
  · have he0 : e = 0 := by omega
    subst he0
    clear he
    have hrest : restOf xs i 0 = xs.drop i := rfl
    have hlen := hr.len
    by_cases h1 : m < 0
    · have hrn : rbytes (xs.drop i) 0 m = ([], [], 2) := by unfold rbytes; rw [if_neg (by simp), if_pos h1]
      have HN := Lib.hid hrn
      have HH := Lib.hid hrest
      clear hrn hrest hlen
      go_enter Try.func29, Try.ntmps29
      go_wp2
      go_quiet (fail)
      go_wp2
      go_ret
      unfold RbPost
      rw [HH.out, HN.out]
      exact ⟨_, _, _, rfl, rd_nil _, gb_trans (gb_setCell (World.grownBy.refl _ _)) (gb_drewN _ _ _), i, RS.same (w := w.setCell ⟨q, 2, none⟩ (.int .i64 2)) ⟨a, n, cap, blk_setCell HB.out, hr.kept_set hl, hi, hlB, hBq⟩ rfl, rfl⟩
    · by_cases h2 : (((xs.drop i).length : Nat) : Int) < m
      · have hrn : rbytes (xs.drop i) 0 m = ([], [], 7) := by unfold rbytes; rw [if_neg (by simp), if_neg h1, if_pos h2]
        have h3 : (n : Int) - i < m := by rw [List.length_drop] at h2; omega
        have HN := Lib.hid hrn
        have HH := Lib.hid hrest
        clear hrn hrest hlen h2
        go_enter Try.func29, Try.ntmps29
        go_wp2
        go_quiet (fail)
        go_wp2
        go_ret
        unfold RbPost
        rw [HH.out, HN.out]
        exact ⟨_, _, _, rfl, rd_nil _, gb_setCell (gb_drewN _ _ _), i, ⟨a, n, cap, blk_setCell (w := w.drewN _) HB.out, (Rd.same (w' := w.drewN _) hr rfl).kept_set hl, hi, hlB, hBq⟩, rfl⟩
      · obtain ⟨m, rfl⟩ := Int.eq_ofNat_of_zero_le (a := m) (by omega)
        have h3 : i + m ≤ n := by rw [List.length_drop] at h2; omega
        have hrn : rbytes (xs.drop i) 0 m = ((xs.drop i).take m, (xs.drop i).drop m, 0) := by unfold rbytes; rw [if_neg (by simp), if_neg h1, if_neg h2, Int.toNat_natCast]
        have hle := hr.le
        have HN := Lib.hid hrn
        have HH := Lib.hid hrest
        clear hrn hrest hlen h2 h1
        have i1 : ¬ (n : Int) - i < m := by omega
        have i2 : decide ((n : Int) - i < m) = false := by simp; omega
        go_enter Try.func29, Try.ntmps29
        go_wp2
        go_quiet (fail)
        go_wp2
        have i3 : IntKind.i64.wrap (i : Int) = i := IntWalk.i64_in _ (by omega)
        have i4 : (0 : Int) ≤ (i : Int) := by omega
        have i5 : (i : Int) ≤ (i : Int) + m := by omega
        have i6 : (i : Int) + m ≤ (cap : Int) := by omega
        go_quiet (fail)
        go_wp2
        all_goals go_ret
        all_goals unfold RbPost
        all_goals rw [HH.out, HN.out]
        · have hcm : cap = i := by assumption
          refine ⟨_, _, _, rfl, Rd.same (w := (w.drewN _).setCell _ _) (((Rd.same (w' := w.drewN _) hr rfl).suf_end hi hcm).pre (by omega) |>.kept_set (fun x e h0 => hl x e (by omega))) rfl, gb_trans (gb_setCell (gb_drewN _ _ _)) (gb_drewN _ _ _), i + m, RS.same (w := (w.drewN _).setCell ⟨q, 1, none⟩ (.int .i64 ((i : Int) + m))) ⟨a, n, cap, blk_setCell (w := w.drewN _) HB.out, (Rd.same (w' := w.drewN _) hr rfl).kept_set hl, h3, hlB, hBq⟩ rfl, ?_⟩
          simp [restOf, List.drop_drop]
        · have hl2 : ∀ x, Option.map (fun x => x.add i) a = some x → 0 < n → x.block < q := fun x e h0 => by
            cases a with
            | none => cases e
            | some y => simp only [Option.map_some, Option.some.injEq] at e; subst e; rw [add_block]; exact hl y rfl h0
          refine ⟨_, _, _, rfl, Rd.same (w := (w.drewN _).setCell _ _) (((Rd.same (w' := w.drewN _) hr rfl).suf hi).pre (by omega) |>.kept_set (fun x e h0 => hl2 x e (by omega))) rfl, gb_trans (gb_setCell (gb_drewN _ _ _)) (gb_drewN _ _ _), i + m, RS.same (w := (w.drewN _).setCell ⟨q, 1, none⟩ (.int .i64 ((i : Int) + m))) ⟨a, n, cap, blk_setCell (w := w.drewN _) HB.out, (Rd.same (w' := w.drewN _) hr rfl).kept_set hl, h3, hlB, hBq⟩ rfl, ?_⟩
          simp [restOf, List.drop_drop]
end Go.Proofs.Ytipegdfjpmlcbaa


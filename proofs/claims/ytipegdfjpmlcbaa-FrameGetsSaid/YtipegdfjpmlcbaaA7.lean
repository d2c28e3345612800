/-
  Contracts: the reference's reader: Num, Bytes, Left.
-/
import Derived.Test.YtipegdfjpmlcbaaA6
import Derived.RegionTactic
import Derived.BigRegion
import Derived.Deep.QuietTactic
import Derived.BigQuiet
namespace Go.Proofs.Ytipegdfjpmlcbaa
open Go.RowKit
set_option linter.unusedVariables false

/-- The reference's reader at block q: its bytes xs, its place i, why it stopped e. -/
structure RS (w : World) (q B : Nat) (xs : List UInt8) (i : Nat) (e : Int) : Prop where
  blk : ∃ a n cap, w.heap[q]? = some (.cells #[.slice a n cap, .int .i64 i, .int .i64 e] 57 (0, 0)) ∧ Rd w a n cap xs ∧ i ≤ n ∧ (∀ x, a = some x → 0 < n → x.block < B) ∧ B ≤ q

/-- What is left of it. -/
def restOf (xs : List UInt8) (i : Nat) (e : Int) : List UInt8 := if e = 0 then xs.drop i else []


theorem RS.lt {w : World} {q B : Nat} {xs : List UInt8} {i : Nat} {e : Int} (h : RS w q B xs i e) : q < w.heap.size := by
  obtain ⟨a, n, cap, h, _⟩ := h.blk
  exact (Array.getElem?_eq_some_iff.1 h).1

theorem RS.same {w w' : World} {q B : Nat} {xs : List UInt8} {i : Nat} {e : Int} (h : RS w q B xs i e) (hs : w'.heap = w.heap) : RS w' q B xs i e := by
  obtain ⟨a, n, cap, hb, hr, hi, hlB, hBq⟩ := h.blk
  have hl : ∀ x, a = some x → 0 < n → x.block < q := fun x e h0 => Nat.lt_of_lt_of_le (hlB x e h0) hBq
  exact ⟨a, n, cap, by rw [hs]; exact hb, hr.kept (by rw [hs]; exact Nat.le_refl _) (fun _ _ _ => by rw [hs]), hi, hlB, hBq⟩

set_option maxRecDepth 20000 in
set_option maxHeartbeats 1000000 in
theorem rnum_any (q B : Nat) (xs : List UInt8) (i : Nat) (e wd : Int) (w : World) (h : RS w q B xs i e) :
    Calls Try.prog 28 #[.pointer (some ⟨q, 0, none⟩), .int .i64 wd] w fun r w' => r = .returned (.int .u64 ((rnum (restOf xs i e) e wd).1 : Int)) ∧ w.grownBy w' (some q) ∧
      ∃ i', RS w' q B xs i' (rnum (restOf xs i e) e wd).2.2 ∧ restOf xs i' (rnum (restOf xs i e) e wd).2.2 = (rnum (restOf xs i e) e wd).2.1 := by
  obtain ⟨a, n, cap, hb, hr, hi, hlB, hBq⟩ := h.blk
  have hl : ∀ x, a = some x → 0 < n → x.block < q := fun x e h0 => Nat.lt_of_lt_of_le (hlB x e h0) hBq
  have c0 : w.cell? ⟨q, 0, none⟩ = some (.slice a n cap) := cell_of_blk hb 0
  have c1 : w.cell? ⟨q, 1, none⟩ = some (.int .i64 i) := cell_of_blk hb 1
  have c2 : w.cell? ⟨q, 2, none⟩ = some (.int .i64 e) := cell_of_blk hb 2
  have f1 : w.frozen? ⟨q, 1, none⟩ = false := free_of_blk hb 1
  have f2 : w.frozen? ⟨q, 2, none⟩ = false := free_of_blk hb 2
  have hbig := hr.big
  have HB := Lib.hid hb
  clear hb
  by_cases he : e ≠ 0
  · have hrn : rnum (restOf xs i e) e wd = (0, restOf xs i e, e) := by unfold rnum; rw [if_pos he]
    rw [hrn]
    have he2 : (e != 0) = true := by simpa using he
    clear hrn he
    go_enter Try.func28, Try.ntmps28
    go_wp2
    go_ret
    exact ⟨rfl, World.grownBy.refl _ _, i, h, rfl⟩
  · have he0 : e = 0 := by omega
    subst he0
    clear he
    have hrest : restOf xs i 0 = xs.drop i := rfl
    rw [hrest]
    clear hrest
    have hlen := hr.len
    by_cases h1 : wd < 1 ∨ 8 < wd
    · have hrn : rnum (xs.drop i) 0 wd = (0, [], 2) := by unfold rnum; rw [if_neg (by simp), if_pos h1]
      rw [hrn]
      have hg := fun w h => rget_any a n cap xs i wd w h (by omega)
      rw [show getR xs i wd = (0, 2) from by unfold getR; rw [if_pos (by omega)]] at hg
      have HG := Lib.hid hg
      clear hg hrn hlen
      go_enter Try.func28, Try.ntmps28
      go_wp2
      go_quiet ((go_at_call 44; exact Calls.quiet_of_same ((HG.out _ (by exact hr.same rfl)).mono fun e w' ⟨h1, h2⟩ => ⟨h1, h2.symm⟩)))
      go_wp2
      go_ret
      exact ⟨rfl, gb_setCell (gb_drewN _ _ _), i, ⟨a, n, cap, blk_setCell (w := w.drewN _) HB.out, (Rd.same (w' := w.drewN _) hr rfl).kept_set hl, hi, hlB, hBq⟩, rfl⟩
    · by_cases h2 : (((xs.drop i).length : Nat) : Int) < wd
      · have hrn : rnum (xs.drop i) 0 wd = (0, [], 7) := by unfold rnum; rw [if_neg (by simp), if_neg h1, if_pos h2]
        rw [hrn]
        have hg := fun w h => rget_any a n cap xs i wd w h (by omega)
        rw [show getR xs i wd = (0, 7) from by unfold getR; rw [List.length_drop] at h2; rw [if_neg (by omega), if_pos (by omega)]] at hg
        have HG := Lib.hid hg
        clear hg hrn hlen h2
        go_enter Try.func28, Try.ntmps28
        go_wp2
        go_quiet ((go_at_call 44; exact Calls.quiet_of_same ((HG.out _ (by exact hr.same rfl)).mono fun e w' ⟨h1, h2⟩ => ⟨h1, h2.symm⟩)))
        go_wp2
        go_ret
        exact ⟨rfl, gb_setCell (gb_drewN _ _ _), i, ⟨a, n, cap, blk_setCell (w := w.drewN _) HB.out, (Rd.same (w' := w.drewN _) hr rfl).kept_set hl, hi, hlB, hBq⟩, rfl⟩
      · obtain ⟨m, rfl⟩ := Int.eq_ofNat_of_zero_le (a := wd) (by omega)
        have h2' : i + m ≤ n := by rw [List.length_drop] at h2; omega
        have hrn : rnum (xs.drop i) 0 m = (numN ((xs.drop i).take m), (xs.drop i).drop m, 0) := by unfold rnum; rw [if_neg (by simp), if_neg h1, if_neg h2, Int.toNat_natCast]
        rw [hrn]
        have hg := fun w h => rget_any a n cap xs i m w h (by omega)
        rw [show getR xs i m = (numN ((xs.drop i).take m), 0) from by unfold getR; rw [if_neg (by omega), if_neg (by omega), Int.toNat_natCast, Int.toNat_natCast]] at hg
        have HG := Lib.hid hg
        clear hg hrn hlen h2
        go_enter Try.func28, Try.ntmps28
        go_wp2
        go_quiet ((go_at_call 44; exact Calls.quiet_of_same ((HG.out _ (by exact hr.same rfl)).mono fun e w' ⟨h1, h2⟩ => ⟨h1, h2.symm⟩)))
        go_wp2
        go_ret
        refine ⟨rfl, gb_setCell (gb_setCell (gb_drewN _ _ _)), i + m, ⟨a, n, cap, blk_setCell (blk_setCell (w := w.drewN _) HB.out), ((Rd.same (w' := w.drewN _) hr rfl).kept_set hl).kept_set hl, h2', hlB, hBq⟩, ?_⟩
        simp [restOf, List.drop_drop]

end Go.Proofs.Ytipegdfjpmlcbaa


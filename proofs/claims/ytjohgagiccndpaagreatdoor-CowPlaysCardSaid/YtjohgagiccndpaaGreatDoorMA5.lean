/-
  Texts put together: A5, A6, A7.
-/
import Derived.Test.YtjohgagiccndpaaGreatDoorMA
import Derived.Laws.IdiomStrings
import Derived.RegionTactic
import Derived.BigRegion
import Derived.Deep.QuietTactic
import Derived.BigQuiet
/-
  The fixed calls ('known') and the law of the reader that is not there.
-/
namespace Go.Proofs.YtjohgagiccndpaaGreatDoor
open Go.RowKit
set_option linter.unusedVariables false

theorem run_string_rd {w : World} {a : Option Addr} {n cap : Nat} {xs : List UInt8} (h : Rd w a n cap xs) :
    (convert 103 9 (.slice a n cap)).run Tryz.prog w = .ok (.string ⟨xs.toArray⟩) w := by
  cases a with
  | none =>
    have hc := h.nil rfl
    have hn : n = 0 := by have := h.le; omega
    subst hn
    obtain rfl : xs = [] := List.eq_nil_of_length_eq_zero h.len
    rw [run_convert_bytes_string w 103 9 5 none 0 cap Tryz.underlying103 Tryz.underlying5 Tryz.underlying9]
    simp [Conv.bytesToString]
    rfl
  | some x =>
    have := run_convert_bytes_back (P := Tryz.prog) w 103 9 5 x cap xs Tryz.underlying103 Tryz.underlying5 Tryz.underlying9 (fun j hj => by
      obtain ⟨b, off, e, hlt, hc⟩ := h.at0 (by rw [← h.len]; omega)
      cases e
      rw [Addr.add_none, hc j (by rw [← h.len]; exact hj), List.getElem?_eq_getElem hj]
      rfl)
    rwa [h.len] at this

theorem three_rd (w : World) : Rd (w.alloc (.cells #[.int .u8 1, .int .u8 2, .int .u8 3] 5)) (some ⟨w.heap.size, 0, none⟩) 3 3 [1, 2, 3] := by
  refine ⟨rfl, Nat.le_refl _, by omega, by unfold maxLen; omega, fun _ => ⟨_, _, rfl, by simp, fun i hi => ?_⟩, fun e => by cases e⟩
  rw [World.cell?_alloc_at _ _ _ _ rfl, Nat.zero_add]
  match i, hi with
  | 0, _ => rfl
  | 1, _ => rfl
  | 2, _ => rfl

theorem gb_low {w w1 : World} {B p : Nat} (h : w.grownBy w1 (some p)) (hp : B ≤ p) (hB : B ≤ w.heap.size) : Below B w w1 :=
  ⟨h.os, h.tape, h.output, h.size, fun k hk => h.block k (by omega) (by simp; omega)⟩
end Go.Proofs.YtjohgagiccndpaaGreatDoor
/-
  Contracts for every argument: Get and Put of the program and of the reference, told by one plain function each.
-/
namespace Go.Proofs.YtjohgagiccndpaaGreatDoor
open Go.RowKit
set_option linter.unusedVariables false

/-- What Get answers. -/
def getR (xs : List UInt8) (at_ wd : Int) : Nat × Int :=
  if wd < 1 ∨ 8 < wd ∨ at_ < 0 then (0, 2) else if (xs.length : Int) - at_ < wd then (0, 7) else (numN ((xs.drop at_.toNat).take wd.toNat), 0)

/-- What Put answers. -/
def putR (xs : List UInt8) (wd : Int) (v : Nat) : List UInt8 := if wd < 1 ∨ 8 < wd then xs else xs ++ enc v wd.toNat


theorem rget_any (a : Option Addr) (n cap : Nat) (xs : List UInt8) (at_ wd : Int) (w : World) (h : Rd w a n cap xs) (hm : at_ ≤ 9223372036854775807) :
    Calls Tryz.prog 92 #[.slice a n cap, .int .i64 at_, .int .i64 wd] w fun e w' => e = .returned (.tuple #[.int .u64 ((getR xs at_ wd).1 : Int), .int .i64 (getR xs at_ wd).2]) ∧ w = w' := by
  by_cases h1 : wd < 1 ∨ 8 < wd ∨ at_ < 0
  · have hr : getR xs at_ wd = (0, 2) := by unfold getR; rw [if_pos h1]
    rw [hr]
    exact rget_arg _ _ _ _ h1
  · by_cases h2 : (xs.length : Int) - at_ < wd
    · have hr : getR xs at_ wd = (0, 7) := by unfold getR; rw [if_neg h1, if_pos h2]
      rw [hr]
      exact rget_short a n cap at_ wd w h.big (by omega) (by omega) (by omega) hm (by rw [← h.len]; exact h2)
    · have hr : getR xs at_ wd = (numN ((xs.drop at_.toNat).take wd.toNat), 0) := by unfold getR; rw [if_neg h1, if_neg h2]
      rw [hr]
      obtain ⟨i, rfl⟩ := Int.eq_ofNat_of_zero_le (a := at_) (by omega)
      obtain ⟨m, rfl⟩ := Int.eq_ofNat_of_zero_le (a := wd) (by omega)
      rw [Int.toNat_natCast, Int.toNat_natCast]
      have := h.len
      exact rget_ok a n cap xs i m w h (by omega) (by omega) (by omega)

theorem put_any (a : Option Addr) (n cap : Nat) (xs : List UInt8) (wd : Int) (v : Nat) (w : World) (h : Rd w a n cap xs) (hn : n ≤ 140737488351232) (hv : v < 18446744073709551616) :
    Calls Tryz.prog 101 #[.slice a n cap, .int .i64 wd, .int .u64 v] w fun e w' => ∃ a' m c, e = .returned (.slice a' m c) ∧ Rd w' a' m c (putR xs wd v) ∧ Below w.heap.size w w' := by
  by_cases h1 : wd < 1 ∨ 8 < wd
  · have hr : putR xs wd v = xs := by unfold putR; rw [if_pos h1]
    rw [hr]
    exact (put_no a n cap xs wd _ w h h1 (by omega)).mono fun e w' ⟨a', c, e1, e2, e3⟩ => ⟨a', n, c, e1, e2, e3⟩
  · have hr : putR xs wd v = xs ++ enc v wd.toNat := by unfold putR; rw [if_neg h1]
    rw [hr]
    obtain ⟨m, rfl⟩ := Int.eq_ofNat_of_zero_le (a := wd) (by omega)
    rw [Int.toNat_natCast]
    exact (put_ok a n cap xs m v w h (by omega) (by omega) hv (by omega)).mono fun e w' ⟨g, c, e1, _, e2, e3⟩ => ⟨_, _, c, e1, e2, e3⟩

theorem rput_any (a : Option Addr) (n cap : Nat) (xs : List UInt8) (wd : Int) (v : Nat) (w : World) (h : Rd w a n cap xs) (hn : n ≤ 140737488351232) (hv : v < 18446744073709551616) :
    Calls Tryz.prog 107 #[.slice a n cap, .int .i64 wd, .int .u64 v] w fun e w' => ∃ a' m c, e = .returned (.slice a' m c) ∧ Rd w' a' m c (putR xs wd v) ∧ Below w.heap.size w w' := by
  by_cases h1 : wd < 1 ∨ 8 < wd
  · have hr : putR xs wd v = xs := by unfold putR; rw [if_pos h1]
    rw [hr]
    exact (rput_no a n cap xs wd _ w h h1).mono fun e w' ⟨a', c, e1, e2, e3⟩ => ⟨a', n, c, e1, e2, e3⟩
  · have hr : putR xs wd v = xs ++ enc v wd.toNat := by unfold putR; rw [if_neg h1]
    rw [hr]
    obtain ⟨m, rfl⟩ := Int.eq_ofNat_of_zero_le (a := wd) (by omega)
    rw [Int.toNat_natCast]
    exact (rput_ok a n cap xs m v w h (by omega) (by omega) hv (by omega)).mono fun e w' ⟨g, c, e1, e2, e3⟩ => ⟨_, _, c, e1, e2, e3⟩

theorem run_string_rd2 {w : World} {a : Option Addr} {n cap : Nat} {xs : List UInt8} {s : ByteArray} (hs : Hid (s = ⟨xs.toArray⟩)) (h : Rd w a n cap xs) :
    (convert 103 9 (.slice a n cap)).run Tryz.prog w = .ok (.string s) w := by rw [hs.out]; exact run_string_rd h

end Go.Proofs.YtjohgagiccndpaaGreatDoor
/-
  Contracts: the reference's reader: Num, Bytes, Left.
-/
namespace Go.Proofs.YtjohgagiccndpaaGreatDoor
open Go.RowKit
set_option linter.unusedVariables false

/-- The reference's reader at block q: its bytes xs, its place i, why it stopped e. -/
structure RS (w : World) (q B : Nat) (xs : List UInt8) (i : Nat) (e : Int) : Prop where
  blk : ∃ a n cap, w.heap[q]? = some (.cells #[.slice a n cap, .int .i64 i, .int .i64 e] 160 (0, 0)) ∧ Rd w a n cap xs ∧ i ≤ n ∧ (∀ x, a = some x → 0 < n → x.block < B) ∧ B ≤ q

/-- What is left of it. -/
def restOf (xs : List UInt8) (i : Nat) (e : Int) : List UInt8 := if e = 0 then xs.drop i else []


theorem RS.lt {w : World} {q B : Nat} {xs : List UInt8} {i : Nat} {e : Int} (h : RS w q B xs i e) : q < w.heap.size := by
  obtain ⟨a, n, cap, h, _⟩ := h.blk
  exact (Array.getElem?_eq_some_iff.1 h).1

theorem RS.same {w w' : World} {q B : Nat} {xs : List UInt8} {i : Nat} {e : Int} (h : RS w q B xs i e) (hs : w'.heap = w.heap) : RS w' q B xs i e := by
  obtain ⟨a, n, cap, hb, hr, hi, hlB, hBq⟩ := h.blk
  have hl : ∀ x, a = some x → 0 < n → x.block < q := fun x e h0 => Nat.lt_of_lt_of_le (hlB x e h0) hBq
  exact ⟨a, n, cap, by rw [hs]; exact hb, hr.kept (by rw [hs]; exact Nat.le_refl _) (fun _ _ _ => by rw [hs]), hi, hlB, hBq⟩

set_option maxRecDepth 20000 in
set_option maxHeartbeats 1000000 in
theorem rnum_any (q B : Nat) (xs : List UInt8) (i : Nat) (e wd : Int) (w : World) (h : RS w q B xs i e) :
    Calls Tryz.prog 118 #[.pointer (some ⟨q, 0, none⟩), .int .i64 wd] w fun r w' => r = .returned (.int .u64 ((rnum (restOf xs i e) e wd).1 : Int)) ∧ w.grownBy w' (some q) ∧
      ∃ i', RS w' q B xs i' (rnum (restOf xs i e) e wd).2.2 ∧ restOf xs i' (rnum (restOf xs i e) e wd).2.2 = (rnum (restOf xs i e) e wd).2.1 := by
  obtain ⟨a, n, cap, hb, hr, hi, hlB, hBq⟩ := h.blk
  have hl : ∀ x, a = some x → 0 < n → x.block < q := fun x e h0 => Nat.lt_of_lt_of_le (hlB x e h0) hBq
  have c0 : w.cell? ⟨q, 0, none⟩ = some (.slice a n cap) := cell_of_blk hb 0
  have c1 : w.cell? ⟨q, 1, none⟩ = some (.int .i64 i) := cell_of_blk hb 1
  have c2 : w.cell? ⟨q, 2, none⟩ = some (.int .i64 e) := cell_of_blk hb 2
  have f1 : w.frozen? ⟨q, 1, none⟩ = false := free_of_blk hb 1
  have f2 : w.frozen? ⟨q, 2, none⟩ = false := free_of_blk hb 2
  have hbig := hr.big
  have HB := Lib.hid hb
  clear hb
  by_cases he : e ≠ 0
  · have hrn : rnum (restOf xs i e) e wd = (0, restOf xs i e, e) := by unfold rnum; rw [if_pos he]
    rw [hrn]
    have he2 : (e != 0) = true := by simpa using he
    clear hrn he
    go_enter Tryz.func118, Tryz.ntmps118
    go_wp2
    go_ret
    exact ⟨rfl, World.grownBy.refl _ _, i, h, rfl⟩
  · have he0 : e = 0 := by omega
    subst he0
    clear he
    have hrest : restOf xs i 0 = xs.drop i := rfl
    rw [hrest]
    clear hrest
    have hlen := hr.len
    by_cases h1 : wd < 1 ∨ 8 < wd
    · have hrn : rnum (xs.drop i) 0 wd = (0, [], 2) := by unfold rnum; rw [if_neg (by simp), if_pos h1]
      rw [hrn]
      have hg := fun w h => rget_any a n cap xs i wd w h (by omega)
      rw [show getR xs i wd = (0, 2) from by unfold getR; rw [if_pos (by omega)]] at hg
      have HG := Lib.hid hg
      clear hg hrn hlen
      go_enter Tryz.func118, Tryz.ntmps118
      go_wp2
      go_quiet ((go_at_call 92; exact Calls.quiet_of_same ((HG.out _ (by exact hr.same rfl)).mono fun e w' ⟨h1, h2⟩ => ⟨h1, h2.symm⟩)))
      go_wp2
      go_ret
      exact ⟨rfl, gb_setCell (gb_drewN _ _ _), i, ⟨a, n, cap, blk_setCell (w := w.drewN _) HB.out, (Rd.same (w' := w.drewN _) hr rfl).kept_set hl, hi, hlB, hBq⟩, rfl⟩
    · by_cases h2 : (((xs.drop i).length : Nat) : Int) < wd
      · have hrn : rnum (xs.drop i) 0 wd = (0, [], 7) := by unfold rnum; rw [if_neg (by simp), if_neg h1, if_pos h2]
        rw [hrn]
        have hg := fun w h => rget_any a n cap xs i wd w h (by omega)
        rw [show getR xs i wd = (0, 7) from by unfold getR; rw [List.length_drop] at h2; rw [if_neg (by omega), if_pos (by omega)]] at hg
        have HG := Lib.hid hg
        clear hg hrn hlen h2
        go_enter Tryz.func118, Tryz.ntmps118
        go_wp2
        go_quiet ((go_at_call 92; exact Calls.quiet_of_same ((HG.out _ (by exact hr.same rfl)).mono fun e w' ⟨h1, h2⟩ => ⟨h1, h2.symm⟩)))
        go_wp2
        go_ret
        exact ⟨rfl, gb_setCell (gb_drewN _ _ _), i, ⟨a, n, cap, blk_setCell (w := w.drewN _) HB.out, (Rd.same (w' := w.drewN _) hr rfl).kept_set hl, hi, hlB, hBq⟩, rfl⟩
      · obtain ⟨m, rfl⟩ := Int.eq_ofNat_of_zero_le (a := wd) (by omega)
        have h2' : i + m ≤ n := by rw [List.length_drop] at h2; omega
        have hrn : rnum (xs.drop i) 0 m = (numN ((xs.drop i).take m), (xs.drop i).drop m, 0) := by unfold rnum; rw [if_neg (by simp), if_neg h1, if_neg h2, Int.toNat_natCast]
        rw [hrn]
        have hg := fun w h => rget_any a n cap xs i m w h (by omega)
        rw [show getR xs i m = (numN ((xs.drop i).take m), 0) from by unfold getR; rw [if_neg (by omega), if_neg (by omega), Int.toNat_natCast, Int.toNat_natCast]] at hg
        have HG := Lib.hid hg
        clear hg hrn hlen h2
        go_enter Tryz.func118, Tryz.ntmps118
        go_wp2
        go_quiet ((go_at_call 92; exact Calls.quiet_of_same ((HG.out _ (by exact hr.same rfl)).mono fun e w' ⟨h1, h2⟩ => ⟨h1, h2.symm⟩)))
        go_wp2
        go_ret
        refine ⟨rfl, gb_setCell (gb_setCell (gb_drewN _ _ _)), i + m, ⟨a, n, cap, blk_setCell (blk_setCell (w := w.drewN _) HB.out), ((Rd.same (w' := w.drewN _) hr rfl).kept_set hl).kept_set hl, h2', hlB, hBq⟩, ?_⟩
        simp [restOf, List.drop_drop]

end Go.Proofs.YtjohgagiccndpaaGreatDoor

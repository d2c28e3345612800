/-
  Contracts of both Nodes, Height, Root.
-/
import Derived.Test.YtlockgfokfhokaaDoorG3
namespace Go.Proofs.YtlockgfokfhokaaDoor
open Go.RowKit
set_option linter.unusedVariables false
set_option linter.unusedSimpArgs false

/-- The sum of the first i numbers. -/
def pre (xs : List Int) : Nat → Int
  | 0 => 0
  | i + 1 => pre xs i + xs[i]?.getD 0

theorem lev_at (n f h i : Nat) (hi : i ≤ h) : (lev n f h)[i]?.getD 0 = (q n f i : Int) := by
  simp [lev, List.getElem?_map, List.getElem?_range (show i < h + 1 by omega)]

theorem lev_pre (n f h : Nat) : ∀ i, i ≤ h + 1 → pre (lev n f h) i = (S n f i : Int)
  | 0, _ => rfl
  | i + 1, hi => by
    show pre _ i + _ = ((S n f i + q n f i : Nat) : Int)
    rw [lev_pre n f h i (by omega), lev_at n f h i (by omega)]
    omega

theorem levels_len (N F C U : Int) : (levels N F C U).length = if okG N F C U then H N.toNat F.toNat + 1 else 0 := by
  unfold levels; split <;> simp

theorem levels_pre (N F C U : Int) : (levels N F C U).length ≤ 8 ∧ (∀ i, i ≤ (levels N F C U).length → 0 ≤ pre (levels N F C U) i ∧ pre (levels N F C U) i ≤ 255) ∧ pre (levels N F C U) (levels N F C U).length = (nodes N F C U : Int) := by
  by_cases h : okG N F C U
  · obtain ⟨n, f, rfl, rfl, hh⟩ := ok_of h
    have e : levels n f C U = lev n f (H n f) := by unfold levels; rw [if_pos h]; rfl
    have e2 : nodes n f C U = S n f (H n f + 1) := by unfold nodes; rw [if_pos h]; rfl
    rw [e, lev_length, e2]
    refine ⟨by have := (H_spec hh).2.2; omega, fun i hi => ?_, lev_pre _ _ _ _ (by omega)⟩
    rw [lev_pre _ _ _ _ hi]
    have := @S_mono n f i (H n f + 1) hi
    have := S_le hh
    omega
  · have e : levels N F C U = [] := by unfold levels; rw [if_neg h]
    have e2 : nodes N F C U = 0 := by unfold nodes; rw [if_neg h]
    rw [e, e2]
    exact ⟨by simp, fun i hi => by obtain rfl : i = 0 := by simpa using hi
                                   exact ⟨Int.le_refl _, by show (0 : Int) ≤ 255; omega⟩, rfl⟩

set_option maxRecDepth 20000 in
set_option maxHeartbeats 400000 in
theorem nodes_any (N F C U : Int) (w : World) :
    Calls Tryd.prog 38 #[geo N F C U] w fun e w' => e = .returned (.int .i64 (nodes N F C U : Int)) ∧ Below w.heap.size w w' := by
  have hr := levels_any N F C U
  obtain ⟨p1, p2, p3⟩ := levels_pre N F C U
  rw [← p3]
  clear p3
  generalize levels N F C U = xs at *
  have hb0 := (Below.refl w.heap.size w).alloc (Nat.le_refl _) (gbox N F C U)
  unfold geo at hr ⊢
  go_enter Tryd.func38, Tryd.ntmps38
  go_wp2_with fail
  refine (hr _).mono ?_
  rintro e w1 ⟨⟨v, rfl, a, n, c, rfl, hri, -⟩, hb⟩
  have hb1 : Below w.heap.size w w1 := hb0.trans (hb.mono (by simp))
  clear hb
  have hl := hri.len
  have hle := hri.le
  go_wp2
  go_loopw [9, 3] (fun x s wr => ∃ i : Nat, i ≤ n ∧ x = .int .i64 (i : Int) ∧ s = .int .i64 (pre xs i) ∧ wr = w1) (fun x _ _ => n - (intOf x).toNat)
  case atStart => exact ⟨0, by omega, rfl, rfl, rfl⟩
  case round =>
    obtain ⟨i, hi, rfl, rfl, rfl⟩ := hrel
    have hp := p2 i (by omega)
    by_cases hlt : i < n
    · have i0 : (i : Int) < (n : Int) := by omega
      have i1 : (0 : Int) ≤ (i : Int) := by omega
      have hp1 := p2 (i + 1) (by omega)
      have he : pre xs (i + 1) = pre xs i + xs[i]?.getD 0 := rfl
      rw [he] at hp1
      obtain ⟨b, off, rfl, hbl, hc⟩ := hri.at0 (by omega)
      have hci := hc i hlt
      generalize xs[i]?.getD 0 = y at *
      have HE := Lib.hid he
      clear he hc
      go_wp2
      go_roundw
      case rel => exact ⟨i + 1, by omega, by go_num, by rw [HE.out], by first | trivial | rfl⟩
      case measure => simp [intOf]; omega
    · obtain rfl : i = n := by omega
      go_wp2
      go_ret
      exact ⟨by rw [hl]; rfl, hb1⟩

set_option maxRecDepth 20000 in
set_option maxHeartbeats 400000 in
theorem rnodes_any (N F C U : Int) (w : World) :
    Calls Tryd.prog 42 #[geo N F C U] w fun e w' => e = .returned (.int .i64 (nodes N F C U : Int)) ∧ Below w.heap.size w w' := by
  have hr := rlevels_any N F C U
  obtain ⟨p1, p2, p3⟩ := levels_pre N F C U
  rw [← p3]
  clear p3
  generalize levels N F C U = xs at *
  have hb0 := (Below.refl w.heap.size w).alloc (Nat.le_refl _) (gbox N F C U)
  unfold geo at hr ⊢
  go_enter Tryd.func42, Tryd.ntmps42
  go_wp2_with fail
  refine (hr _).mono ?_
  rintro e w1 ⟨⟨v, rfl, a, n, c, rfl, hri, -⟩, hb⟩
  have hb1 : Below w.heap.size w w1 := hb0.trans (hb.mono (by simp))
  clear hb
  have hl := hri.len
  have hle := hri.le
  go_wp2
  go_loopw [5, 3] (fun x s wr => ∃ i : Nat, i ≤ n ∧ x = .int .i64 (i : Int) ∧ s = .int .i64 (pre xs i) ∧ wr = w1) (fun x _ _ => n - (intOf x).toNat)
  case atStart => exact ⟨0, by omega, rfl, rfl, rfl⟩
  case round =>
    obtain ⟨i, hi, rfl, rfl, rfl⟩ := hrel
    have hp := p2 i (by omega)
    by_cases hlt : i < n
    · have i0 : (i : Int) < (n : Int) := by omega
      have i1 : (0 : Int) ≤ (i : Int) := by omega
      have hp1 := p2 (i + 1) (by omega)
      have he : pre xs (i + 1) = pre xs i + xs[i]?.getD 0 := rfl
      rw [he] at hp1
      obtain ⟨b, off, rfl, hbl, hc⟩ := hri.at0 (by omega)
      have hci := hc i hlt
      generalize xs[i]?.getD 0 = y at *
      have HE := Lib.hid he
      clear he hc
      go_wp2
      go_roundw
      case rel => exact ⟨i + 1, by omega, by go_num, by rw [HE.out], by first | trivial | rfl⟩
      case measure => simp [intOf]; omega
    · obtain rfl : i = n := by omega
      go_wp2
      go_ret
      exact ⟨by rw [hl]; rfl, hb1⟩


/-- One less, and 0 at least. -/
theorem max_less (k : Nat) : max ((k : Int) - 1) 0 = ((k - 1 : Nat) : Int) := by omega

set_option maxRecDepth 20000 in
set_option maxHeartbeats 400000 in
theorem height_any (N F C U : Int) (w : World) :
    Calls Tryd.prog 75 #[geo N F C U] w fun e w' => e = .returned (.int .i64 (height N F C U : Int)) ∧ Below w.heap.size w w' := by
  have hr := levels_any N F C U
  obtain ⟨p1, p2, p3⟩ := levels_pre N F C U
  have hh : height N F C U = (levels N F C U).length - 1 := by rw [levels_len]; unfold height; split <;> rfl
  rw [hh]
  generalize levels N F C U = xs at *
  have hb0 := (Below.refl w.heap.size w).alloc (Nat.le_refl _) (gbox N F C U)
  unfold geo at hr ⊢
  go_enter Tryd.func75, Tryd.ntmps75
  go_wp2_with fail
  refine (hr _).mono ?_
  rintro e w1 ⟨⟨v, rfl, a, n, c, rfl, hri, -⟩, hb⟩
  have hb1 : Below w.heap.size w w1 := hb0.trans (hb.mono (by simp))
  clear hb
  have hl := hri.len
  have hle := hri.le
  have HL := Lib.hid hl
  have n8 : n ≤ 8 := by omega
  clear hh hl p2 p3 hr p1
  go_wp2
  go_ret
  exact ⟨by rw [HL.out]; exact congrArg (fun x => Ending.returned (Value.int .i64 x)) (max_less n), hb1⟩

set_option maxRecDepth 20000 in
set_option maxHeartbeats 400000 in
theorem root_any (N F C U : Int) (w : World) :
    Calls Tryd.prog 57 #[geo N F C U] w fun e w' => e = .returned (.int .i64 ((nodes N F C U - 1 : Nat) : Int)) ∧ Below w.heap.size w w' := by
  have hr := nodes_any N F C U
  have hn : nodes N F C U ≤ 255 := by have := levels_pre N F C U; have := this.2.1 _ (Nat.le_refl _); omega
  generalize nodes N F C U = n at *
  have hb0 := (Below.refl w.heap.size w).alloc (Nat.le_refl _) (gbox N F C U)
  unfold geo at hr ⊢
  go_enter Tryd.func57, Tryd.ntmps57
  go_wp2_with fail
  refine (hr _).mono ?_
  rintro e w1 ⟨rfl, hb⟩
  have hb1 : Below w.heap.size w w1 := hb0.trans (hb.mono (by simp))
  clear hb
  go_wp2
  go_ret
  exact ⟨congrArg (fun x => Ending.returned (Value.int .i64 x)) (max_less n), hb1⟩

set_option maxRecDepth 20000 in
set_option maxHeartbeats 400000 in
theorem rheight_any (N F C U : Int) (w : World) :
    Calls Tryd.prog 27 #[geo N F C U] w fun e w' => e = .returned (.int .i64 (height N F C U : Int)) ∧ Below w.heap.size w w' := by
  have hr := rlevels_any N F C U
  obtain ⟨p1, p2, p3⟩ := levels_pre N F C U
  have hh : height N F C U = (levels N F C U).length - 1 := by rw [levels_len]; unfold height; split <;> rfl
  rw [hh]
  generalize levels N F C U = xs at *
  have hb0 := (Below.refl w.heap.size w).alloc (Nat.le_refl _) (gbox N F C U)
  unfold geo at hr ⊢
  go_enter Tryd.func27, Tryd.ntmps27
  go_wp2_with fail
  refine (hr _).mono ?_
  rintro e w1 ⟨⟨v, rfl, a, n, c, rfl, hri, -⟩, hb⟩
  have hb1 : Below w.heap.size w w1 := hb0.trans (hb.mono (by simp))
  clear hb
  have hl := hri.len
  have hle := hri.le
  have HL := Lib.hid hl
  have n8 : n ≤ 8 := by omega
  clear hh hl p2 p3 hr p1
  go_wp2
  go_ret
  exact ⟨by rw [HL.out]; exact congrArg (fun x => Ending.returned (Value.int .i64 x)) (max_less n), hb1⟩

set_option maxRecDepth 20000 in
set_option maxHeartbeats 400000 in
theorem rroot_any (N F C U : Int) (w : World) :
    Calls Tryd.prog 54 #[geo N F C U] w fun e w' => e = .returned (.int .i64 ((nodes N F C U - 1 : Nat) : Int)) ∧ Below w.heap.size w w' := by
  have hr := rnodes_any N F C U
  have hn : nodes N F C U ≤ 255 := by have := levels_pre N F C U; have := this.2.1 _ (Nat.le_refl _); omega
  generalize nodes N F C U = n at *
  have hb0 := (Below.refl w.heap.size w).alloc (Nat.le_refl _) (gbox N F C U)
  unfold geo at hr ⊢
  go_enter Tryd.func54, Tryd.ntmps54
  go_wp2_with fail
  refine (hr _).mono ?_
  rintro e w1 ⟨rfl, hb⟩
  have hb1 : Below w.heap.size w w1 := hb0.trans (hb.mono (by simp))
  clear hb
  go_wp2
  go_ret
  exact ⟨congrArg (fun x => Ending.returned (Value.int .i64 x)) (max_less n), hb1⟩

end Go.Proofs.YtlockgfokfhokaaDoor


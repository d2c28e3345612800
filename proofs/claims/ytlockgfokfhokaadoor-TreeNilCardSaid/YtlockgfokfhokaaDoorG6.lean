/-
  Contract of levelOf.
-/
import Derived.Test.YtlockgfokfhokaaDoorG5
namespace Go.Proofs.YtlockgfokfhokaaDoor
open Go.RowKit
set_option linter.unusedVariables false
set_option linter.unusedSimpArgs false

/-- The first of k places from i on where x lies. -/
def lvo (p : Nat → Int) (x : Int) : Nat → Nat → Int
  | 0, _ => -1
  | k + 1, i => if p i ≤ x ∧ x ≤ p (i + 1) - 1 then (i : Int) else lvo p x k (i + 1)

theorem lvo_spec (p : Nat → Int) (x : Int) : ∀ k i, (lvo p x k i = -1 ∧ ∀ j, i ≤ j → j < i + k → ¬ (p j ≤ x ∧ x ≤ p (j + 1) - 1)) ∨ ∃ j : Nat, i ≤ j ∧ j < i + k ∧ lvo p x k i = (j : Int) ∧ p j ≤ x ∧ x ≤ p (j + 1) - 1
  | 0, i => .inl ⟨rfl, fun j h1 h2 => by omega⟩
  | k + 1, i => by
    unfold lvo
    split
    · rename_i h; exact .inr ⟨i, Nat.le_refl _, by omega, rfl, h.1, h.2⟩
    · rename_i h
      rcases lvo_spec p x k (i + 1) with ⟨h1, h2⟩ | ⟨j, h1, h2, h3⟩
      · refine .inl ⟨h1, fun j h3 h4 => ?_⟩
        by_cases e : j = i
        · subst e; exact h
        · exact h2 j (by omega) (by omega)
      · exact .inr ⟨j, by omega, by omega, h3⟩

/-- The same world, but for what was drawn. -/
def Dr (w w' : World) : Prop := ∃ k, w' = w.drewN k
theorem Dr.refl (w : World) : Dr w w := ⟨0, rfl⟩
theorem Dr.next {w w' : World} (h : Dr w w') (n : Nat) : Dr w (w'.drewN n) := by
  obtain ⟨k, rfl⟩ := h; exact ⟨_, World.drewN_drewN _ _ _⟩
theorem Dr.below {w w' : World} (h : Dr w w') : Below w.heap.size w w' := by
  obtain ⟨k, rfl⟩ := h; exact (Below.refl _ _).grown (gb_drewNG w k none) (Nat.le_refl _) (fun j h => by cases h)

set_option maxRecDepth 20000 in
set_option maxHeartbeats 400000 in
theorem levelOf_any (xs : List Int) (m : Nat) (hm : m ≤ 8) (hp : ∀ i, i ≤ m → 0 ≤ pre xs i ∧ pre xs i ≤ 255) (v : Value) (x : Int) (w : World) (hv : Li w v (stt xs m)) :
    Calls Tryd.prog 74 #[v, .int .i64 x] w fun e w' => e = .returned (.int .i64 (lvo (pre xs) x m 0)) ∧ Dr w w' := by
  obtain ⟨a, n, c, rfl, hri⟩ := hv
  have hl := hri.len
  rw [stt_length] at hl
  subst hl
  have hle := hri.le
  go_enter Tryd.func74, Tryd.ntmps74
  go_wp2
  go_loopw [9] (fun y wr => ∃ i : Nat, i ≤ m ∧ y = .int .i64 (i : Int) ∧ lvo (pre xs) x m 0 = lvo (pre xs) x (m - i) i ∧ Dr w wr) (fun y _ => m - (intOf y).toNat)
  case atStart => exact ⟨0, by omega, rfl, rfl, Dr.refl _⟩
  case round =>
    obtain ⟨i, hi9, rfl, hlv, hD⟩ := hrel
    have HD := Lib.hid hD
    by_cases hlt : i < m
    · have i00 : (i : Int) < (m : Int) := by omega
      have i1 : (0 : Int) ≤ (i : Int) := by omega
      have hp0 := hp i (by omega)
      have hp1 := hp (i + 1) (by omega)
      obtain ⟨b, off, rfl, hbl, hc⟩ := (hri.later hD.below).at0 (by omega)
      clear hD
      have hc1 := hc i (by omega)
      have hc2 := hc (i + 1) (by omega)
      rw [stt_at xs m i (by omega)] at hc1
      rw [stt_at xs m (i + 1) (by omega)] at hc2
      have hw := within_any x (pre xs i) (pre xs (i + 1) - 1)
      have hd : (m - i) = (m - (i + 1)) + 1 := by omega
      have hnx : lvo (pre xs) x (m - i) i = if pre xs i ≤ x ∧ x ≤ pre xs (i + 1) - 1 then (i : Int) else lvo (pre xs) x (m - (i + 1)) (i + 1) := by rw [hd]; rfl
      have i2 : (i : Int) < (m : Int) + 1 := by omega
      have i3 : (i : Int) + 1 < (m : Int) + 1 := by omega
      have i4 : (i : Int) + 1 ≤ 9223372036854775807 := by omega
      have i5 : (0 : Int) ≤ (i : Int) + 1 := by omega
      clear hc hd
      generalize pre xs i = z1 at *
      generalize pre xs (i + 1) = z2 at *
      obtain ⟨bq, hq⟩ : ∃ bq : Bool, decide (z1 ≤ x ∧ x ≤ z2 - 1) = bq := ⟨_, rfl⟩
      rw [hq] at hw
      have wr1 : IntKind.i64.wrap ((i : Int) + 1) = (i : Int) + 1 := IntWalk.i64_in _ (by omega)
      have wr2 : IntKind.i64.wrap (z2 - 1) = z2 - 1 := IntWalk.i64_in _ (by omega)
      have HQ := Lib.hid hq
      have HW := Lib.hid hw
      have HX := Lib.hid hnx
      have HV := Lib.hid hlv
      clear hq hnx hlv hw
      go_wp2_with fail
      go_quiet ((go_at_call 64; with_reducible exact Calls.quiet_of_same (HW.out _)))
      cases bq
      · have e1 : ¬ (z1 ≤ x ∧ x ≤ z2 - 1) := by simpa using HQ.out
        have E1 := Lib.hid e1
        clear e1
        go_wp2
        go_roundw
        case rel => exact ⟨i + 1, by omega, by go_num, by rw [HV.out, HX.out, if_neg E1.out], HD.out.next _⟩
        case measure => simp [intOf]; omega
      · have e1 : (z1 ≤ x ∧ x ≤ z2 - 1) := by simpa using HQ.out
        have E1 := Lib.hid e1
        clear e1
        go_wp2
        go_ret
        exact ⟨by rw [HV.out, HX.out, if_pos E1.out]; rfl, HD.out.next _⟩
    · obtain rfl : i = m := by omega
      rw [Nat.sub_self] at hlv
      go_wp2
      go_ret
      exact ⟨by rw [hlv]; rfl, hD⟩

end Go.Proofs.YtlockgfokfhokaaDoor


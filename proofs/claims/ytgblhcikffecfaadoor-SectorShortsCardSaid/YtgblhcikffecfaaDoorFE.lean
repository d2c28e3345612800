/-
  The reference's Undigits at two digits.
-/
import Derived.Test.YtgblhcikffecfaaDoorFD
namespace Go.Proofs.YtgblhcikffecfaaDoor
open Go.RowKit Go.Shelf
set_option linter.unusedVariables false
set_option linter.unusedSimpArgs false

/-- What a digit stands for; -1: it is none. -/
def wor (c : Nat) : Int := if 48 ≤ c ∧ c ≤ 57 then (c : Int) - 48 else if 97 ≤ c ∧ c ≤ 102 then (c : Int) - 87 else -1

set_option maxHeartbeats 400000 in
theorem rdigit_any (c : Nat) (w : World) (hc : c < 256) :
    Calls Tryd.prog 51 #[.int .u8 c] w fun e w' => e = .returned (.int .i64 (wor c)) ∧ w' = w := by
  by_cases h1 : 48 ≤ c
  · by_cases h2 : c ≤ 57
    · have hw : wor c = (c : Int) - 48 := by unfold wor; rw [if_pos ⟨h1, h2⟩]
      have k1 : (48 : Int) ≤ (c : Int) := by omega
      have k2 : (c : Int) ≤ 57 := by omega
      go_enter Tryd.func51, Tryd.ntmps51
      go_wp2
      go_ret
      exact ⟨by rw [hw]; go_num, rfl⟩
    · have k1 : (48 : Int) ≤ (c : Int) := by omega
      have k2 : ¬ (c : Int) ≤ 57 := by omega
      by_cases h3 : 97 ≤ c ∧ c ≤ 102
      · have hw : wor c = (c : Int) - 87 := by unfold wor; rw [if_neg (by omega), if_pos h3]
        have k3 : (97 : Int) ≤ (c : Int) := by omega
        have k4 : (c : Int) ≤ 102 := by omega
        go_enter Tryd.func51, Tryd.ntmps51
        go_wp2
        go_ret
        exact ⟨congrArg (fun x => Ending.returned (Value.int .i64 x)) (show (c : Int) - 97 + 10 = (c : Int) - 87 by omega), rfl⟩
      · have hw : wor c = -1 := by unfold wor; rw [if_neg (by omega), if_neg h3]
        by_cases h4 : 97 ≤ c
        · have k3 : (97 : Int) ≤ (c : Int) := by omega
          have k4 : ¬ (c : Int) ≤ 102 := by omega
          go_enter Tryd.func51, Tryd.ntmps51
          go_wp2
          go_ret
          exact ⟨rfl, rfl⟩
        · have k3 : ¬ (97 : Int) ≤ (c : Int) := by omega
          go_enter Tryd.func51, Tryd.ntmps51
          go_wp2
          go_ret
          exact ⟨rfl, rfl⟩
  · have hw : wor c = -1 := by unfold wor; rw [if_neg (by omega), if_neg (by omega)]
    have k1 : ¬ (48 : Int) ≤ (c : Int) := by omega
    have k3 : ¬ (97 : Int) ≤ (c : Int) := by omega
    go_enter Tryd.func51, Tryd.ntmps51
    go_wp2
    go_ret
    exact ⟨rfl, rfl⟩
/-- The byte that two digits stand for. -/
def pairB (a b : Nat) : UInt8 := UInt8.ofNat (16 * (wor a).toNat + (wor b).toNat)

/-- The first k pairs of digits read back. -/
def unP (xs : List UInt8) : Nat → Option (List UInt8)
  | 0 => some []
  | k + 1 => match unP xs k with
    | none => none
    | some o => if wor (bt xs (2 * k)) < 0 ∨ wor (bt xs (2 * k + 1)) < 0 then none else some (o ++ [pairB (bt xs (2 * k)) (bt xs (2 * k + 1))])

theorem wor_lt (c : Nat) : wor c < 16 ∧ -1 ≤ wor c := by
  unfold wor
  split
  · omega
  · split <;> omega

theorem unP_bad {xs : List UInt8} {k : Nat} {o : List UInt8} (h : unP xs k = some o) (hb : wor (bt xs (2 * k)) < 0 ∨ wor (bt xs (2 * k + 1)) < 0) : unP xs (k + 1) = none := by
  simp only [unP, h, if_pos hb]

theorem unP_good {xs : List UInt8} {k : Nat} {o : List UInt8} (h : unP xs k = some o) (h1 : ¬ wor (bt xs (2 * k)) < 0) (h2 : ¬ wor (bt xs (2 * k + 1)) < 0) :
    unP xs (k + 1) = some (o ++ [pairB (bt xs (2 * k)) (bt xs (2 * k + 1))]) := by
  simp only [unP, h]; rw [if_neg (by omega)]

theorem unP_none {xs : List UInt8} {i j : Nat} (hij : i ≤ j) (h : unP xs i = none) : unP xs j = none := by
  induction j with
  | zero => obtain rfl : i = 0 := by omega
            exact h
  | succ j ih =>
    rcases Nat.lt_or_ge j i with h1 | h1
    · obtain rfl : i = j + 1 := by omega
      exact h
    · simp only [unP, ih h1]

theorem unP_length {xs : List UInt8} : ∀ {k : Nat} {o : List UInt8}, unP xs k = some o → o.length = k := by
  intro k
  induction k with
  | zero => intro o h; simp only [unP, Option.some.injEq] at h; subst h; rfl
  | succ k ih =>
    intro o h
    cases hk : unP xs k with
    | none => simp only [unP, hk] at h; cases h
    | some o1 =>
      simp only [unP, hk] at h
      split at h
      · cases h
      · simp only [Option.some.injEq] at h
        subst h
        have := ih hk
        simp; omega

theorem pair_nat (a b : Nat) : (pairB a b).toNat = 16 * (wor a).toNat + (wor b).toNat := by
  have h1 := wor_lt a; have h2 := wor_lt b
  unfold pairB
  rw [UInt8.toNat_ofNat']
  omega

/-- What Undigits answers for two digits. -/
def undP (xs : List UInt8) : List UInt8 × Bool := match unP xs 1 with
  | none => ([], false)
  | some o => (o, true)
def undV (s : ByteArray) : Value := .tuple #[strV (undP s.data.toList).1, .bool (undP s.data.toList).2]

set_option maxRecDepth 20000 in
set_option maxHeartbeats 1000000 in
theorem und_any (s : ByteArray) (w : World) (h64 : s.size = 2) :
    Calls Tryd.prog 33 #[.string s] w fun e w' => e = .returned (undV s) ∧ Below w.heap.size w w' := by
  obtain ⟨i5, hi, hz0, hz1, hz2⟩ := info_parts Tryd.info5
  have el : s.data.toList.length = s.size := rfl
  have hv : undP s.data.toList = match unP s.data.toList 1 with
      | none => ([], false)
      | some o => (o, true) := rfl
  have j1 : (s.size : Int) = 2 := by omega
  have HV := Lib.hid hv
  have H64 := Lib.hid h64
  clear hv
  go_enter Tryd.func33, Tryd.ntmps33
  go_wp2
  have hown : w.ownsRow w.heap.size 5 1 (.slice none 0 0) 0 (bvs []) := World.ownsRow_nil _ _ _ _
  have hB := Below.refl w.heap.size w
  go_loopw [4, 5] (fun o i wr => ∃ (k : Nat) (xs : List UInt8), k ≤ 1 ∧ i = .int .i64 ((2 * k : Nat) : Int) ∧ unP s.data.toList k = some xs ∧ wr.ownsRow w.heap.size 5 1 o k (bvs xs) ∧ Below w.heap.size w wr) (fun _ i _ => 2 - (intOf i).toNat)
  case atStart => exact ⟨0, [], by omega, rfl, rfl, hown, hB⟩
  case round =>
    clear hown hB
    obtain ⟨k, xs, hk, rfl, hu, hown, hB⟩ := hrel
    obtain ⟨ao, co, rfl, hrd, _⟩ := owns_shape hown (by omega)
    by_cases hlt : k < 1
    · obtain ⟨p, hp⟩ : ∃ p, p = 2 * k := ⟨_, rfl⟩
      rw [← hp]
      have hbad := fun h => unP_bad hu h
      have hgood := fun h1 h2 => unP_good hu h1 h2
      rw [← hp] at hbad hgood
      have hix1 := index_text s p (by omega)
      have hix2 := index_text s (p + 1) (by omega)
      rw [show ((p + 1 : Nat) : Int) = (p : Int) + 1 from by omega] at hix2
      change ∀ w, _ = Result.ok (Value.int .u8 (bt s.data.toList p : Int)) w at hix1
      change ∀ w, _ = Result.ok (Value.int .u8 (bt s.data.toList (p + 1) : Int)) w at hix2
      have hb1 := bt_lt s.data.toList p
      have hb2 := bt_lt s.data.toList (p + 1)
      generalize bt s.data.toList p = b1 at hix1 hb1 hbad hgood
      generalize bt s.data.toList (p + 1) = b2 at hix2 hb2 hbad hgood
      have hw1 := fun w => rdigit_any b1 w hb1
      have hw2 := fun w => rdigit_any b2 w hb2
      have hr1 := wor_lt b1
      have hr2 := wor_lt b2
      have hpb := pair_nat b1 b2
      generalize pairB b1 b2 = pb at hpb hgood
      generalize wor b1 = v1 at hw1 hr1 hbad hgood hpb
      generalize wor b2 = v2 at hw2 hr2 hbad hgood hpb
      have HW1 := Lib.hid hw1
      have HW2 := Lib.hid hw2
      have HGOOD := Lib.hid hgood
      have HO := Lib.hid hown
      have HB := Lib.hid hB
      have HPB := Lib.hid hpb
      have HP := Lib.hid hp
      have bad : v1 < 0 ∨ v2 < 0 → undP s.data.toList = ([], false) := fun h => by
        have h1 := unP_none (show k + 1 ≤ 1 by omega) (hbad h)
        rw [HV.out, h1]
      have i1 : (0 : Int) ≤ (p : Int) := by omega
      have i2 : (p : Int) + 1 < 2 := by omega
      clear hbad hgood hown hB hw1 hw2 hrd hu hpb hp
      go_wp2_with fail
      refine (HW1.out _).mono ?_
      rintro e w1 ⟨rfl, rfl⟩
      go_wp2_with fail
      refine (HW2.out _).mono ?_
      rintro e w2 ⟨rfl, rfl⟩
      by_cases n1 : v1 < 0
      · have e1 := bad (.inl n1)
        have E1 := Lib.hid e1
        clear e1 bad
        go_wp2
        go_ret2
        exact ⟨by unfold undV; rw [E1.out]; rfl, HB.out⟩
      · by_cases n2 : v2 < 0
        · have e1 := bad (.inr n2)
          have E1 := Lib.hid e1
          clear e1 bad
          go_wp2
          go_ret2
          exact ⟨by unfold undV; rw [E1.out]; rfl, HB.out⟩
        · clear bad
          obtain ⟨A, rfl⟩ : ∃ A : Nat, v1 = A := ⟨v1.toNat, by omega⟩
          obtain ⟨B, rfl⟩ : ∃ B : Nat, v2 = B := ⟨v2.toNat, by omega⟩
          have hpv : (16 : Int) * (A : Int) + (B : Int) = (pb.toNat : Int) := by have h1 := HPB.out; omega
          have HPV := Lib.hid hpv
          clear hpv
          go_wp2_with (at_builtin; refine wpList_append_rd (o := ⟨some 37, _, _, _, _, _⟩) rfl (.tmp 30) (.tmp 36) 37 rfl w.heap.size 5 i5 Tryd.underlying37 hi hz0 hz1 hz2 _ k xs rfl (HO.out.alloc _) (some ⟨_, 0, none⟩) 1 1 [pb] rfl (one_rd _ _ _ HPV.out) (by omega) (by have := HB.out.size; simp; omega) ?_)
          intro v2 w2 hown2 hgrow
          have hB2 := (HB.out.alloc HB.out.size _).grown hgrow (by have := HB.out.size; simp; omega) (fun j hj => (HO.out.lt j hj).1)
          have hu2 := HGOOD.out n1 n2
          clear hgrow
          go_wp2
          go_roundw
          case rel => exact ⟨k + 1, xs ++ [pb], by omega, by have := HP.out; go_num, hu2, hown2, hB2⟩
          case measure => simp [intOf]; omega
    · obtain rfl : k = 1 := by omega
      have hcv := rd_string hrd
      have hv := HV.out
      rw [hu] at hv
      have HV2 := Lib.hid hv
      have i3 : ¬ ((2 * 1 : Nat) : Int) + 1 < 2 := by omega
      clear hv HV
      go_wp2
      go_ret2
      exact ⟨by unfold undV; rw [HV2.out]; rfl, hB⟩

end Go.Proofs.YtgblhcikffecfaaDoor

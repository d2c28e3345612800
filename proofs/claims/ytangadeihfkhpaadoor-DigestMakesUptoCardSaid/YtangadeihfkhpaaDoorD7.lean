/-
  Contracts of digest: the reference's Undigits and Back.
-/
import Derived.Test.YtangadeihfkhpaaDoorD6
namespace Go.Proofs.YtangadeihfkhpaaDoor
open Go.RowKit
set_option linter.unusedVariables false
set_option linter.unusedSimpArgs false

/-- What Undigits answers for 64 digits. -/
def undP (xs : List UInt8) : List UInt8 × Bool := match unP xs 32 with
  | none => ([], false)
  | some o => (o, true)
def undV (s : ByteArray) : Value := .tuple #[strV (undP s.data.toList).1, .bool (undP s.data.toList).2]

set_option maxRecDepth 20000 in
set_option maxHeartbeats 1000000 in
theorem und_any (s : ByteArray) (w : World) (h64 : s.size = 64) :
    Calls Tryd.prog 19 #[.string s] w fun e w' => e = .returned (undV s) ∧ Below w.heap.size w w' := by
  obtain ⟨i5, hi, hz0, hz1, hz2⟩ := info_parts Tryd.info5
  have el : s.data.toList.length = s.size := rfl
  have hv : undP s.data.toList = match unP s.data.toList 32 with
      | none => ([], false)
      | some o => (o, true) := rfl
  have j1 : (s.size : Int) = 64 := by omega
  have HV := Lib.hid hv
  have H64 := Lib.hid h64
  clear hv
  go_enter Tryd.func19, Tryd.ntmps19
  go_wp2
  have hown : w.ownsRow w.heap.size 5 1 (.slice none 0 0) 0 (bvs []) := World.ownsRow_nil _ _ _ _
  have hB := Below.refl w.heap.size w
  go_loopw [4, 5] (fun o i wr => ∃ (k : Nat) (xs : List UInt8), k ≤ 32 ∧ i = .int .i64 ((2 * k : Nat) : Int) ∧ unP s.data.toList k = some xs ∧ wr.ownsRow w.heap.size 5 1 o k (bvs xs) ∧ Below w.heap.size w wr) (fun _ i _ => 64 - (intOf i).toNat)
  case atStart => exact ⟨0, [], by omega, rfl, rfl, hown, hB⟩
  case round =>
    clear hown hB
    obtain ⟨k, xs, hk, rfl, hu, hown, hB⟩ := hrel
    obtain ⟨ao, co, rfl, hrd, _⟩ := owns_shape hown (by omega)
    by_cases hlt : k < 32
    · obtain ⟨p, hp⟩ : ∃ p, p = 2 * k := ⟨_, rfl⟩
      rw [← hp]
      have hbad := fun h => unP_bad hu h
      have hgood := fun h1 h2 => unP_good hu h1 h2
      rw [← hp] at hbad hgood
      have hix1 := index_text s p (by omega)
      have hix2 := index_text s (p + 1) (by omega)
      rw [show ((p + 1 : Nat) : Int) = (p : Int) + 1 from by omega] at hix2
      change ∀ w, _ = Result.ok (Value.int .u8 (bt s.data.toList p : Int)) w at hix1
      change ∀ w, _ = Result.ok (Value.int .u8 (bt s.data.toList (p + 1) : Int)) w at hix2
      have hb1 := bt_lt s.data.toList p
      have hb2 := bt_lt s.data.toList (p + 1)
      generalize bt s.data.toList p = b1 at hix1 hb1 hbad hgood
      generalize bt s.data.toList (p + 1) = b2 at hix2 hb2 hbad hgood
      have hw1 := fun w => rdigit_any b1 w hb1
      have hw2 := fun w => rdigit_any b2 w hb2
      have hr1 := wor_lt b1
      have hr2 := wor_lt b2
      have hpb := pair_nat b1 b2
      generalize pairB b1 b2 = pb at hpb hgood
      generalize wor b1 = v1 at hw1 hr1 hbad hgood hpb
      generalize wor b2 = v2 at hw2 hr2 hbad hgood hpb
      have HW1 := Lib.hid hw1
      have HW2 := Lib.hid hw2
      have HGOOD := Lib.hid hgood
      have HO := Lib.hid hown
      have HB := Lib.hid hB
      have HPB := Lib.hid hpb
      have HP := Lib.hid hp
      have bad : v1 < 0 ∨ v2 < 0 → undP s.data.toList = ([], false) := fun h => by
        have h1 := unP_none (show k + 1 ≤ 32 by omega) (hbad h)
        rw [HV.out, h1]
      have i1 : (0 : Int) ≤ (p : Int) := by omega
      have i2 : (p : Int) + 1 < 64 := by omega
      clear hbad hgood hown hB hw1 hw2 hrd hu hpb hp
      go_wp2_with fail
      refine (HW1.out _).mono ?_
      rintro e w1 ⟨rfl, rfl⟩
      go_wp2_with fail
      refine (HW2.out _).mono ?_
      rintro e w2 ⟨rfl, rfl⟩
      by_cases n1 : v1 < 0
      · have e1 := bad (.inl n1)
        have E1 := Lib.hid e1
        clear e1 bad
        go_wp2
        go_ret2
        exact ⟨by unfold undV; rw [E1.out]; rfl, HB.out⟩
      · by_cases n2 : v2 < 0
        · have e1 := bad (.inr n2)
          have E1 := Lib.hid e1
          clear e1 bad
          go_wp2
          go_ret2
          exact ⟨by unfold undV; rw [E1.out]; rfl, HB.out⟩
        · clear bad
          obtain ⟨A, rfl⟩ : ∃ A : Nat, v1 = A := ⟨v1.toNat, by omega⟩
          obtain ⟨B, rfl⟩ : ∃ B : Nat, v2 = B := ⟨v2.toNat, by omega⟩
          have hpv : (16 : Int) * (A : Int) + (B : Int) = (pb.toNat : Int) := by have h1 := HPB.out; omega
          have HPV := Lib.hid hpv
          clear hpv
          go_wp2_with (at_builtin; refine wpList_append_rd (o := ⟨some 37, _, _, _, _, _⟩) rfl (.tmp 30) (.tmp 36) 35 rfl w.heap.size 5 i5 Tryd.underlying35 hi hz0 hz1 hz2 _ k xs rfl (HO.out.alloc _) (some ⟨_, 0, none⟩) 1 1 [pb] rfl (one_rd _ _ _ HPV.out) (by omega) (by have := HB.out.size; simp; omega) ?_)
          intro v2 w2 hown2 hgrow
          have hB2 := (HB.out.alloc HB.out.size _).grown hgrow (by have := HB.out.size; simp; omega) (fun j hj => (HO.out.lt j hj).1)
          have hu2 := HGOOD.out n1 n2
          clear hgrow
          go_wp2
          go_roundw
          case rel => exact ⟨k + 1, xs ++ [pb], by omega, by have := HP.out; go_num, hu2, hown2, hB2⟩
          case measure => simp [intOf]; omega
    · obtain rfl : k = 32 := by omega
      have hcv := run_string_rd hrd
      have hv := HV.out
      rw [hu] at hv
      have HV2 := Lib.hid hv
      have i3 : ¬ ((2 * 32 : Nat) : Int) + 1 < 64 := by omega
      clear hv HV
      go_wp2
      go_ret2
      exact ⟨by unfold undV; rw [HV2.out]; rfl, hB⟩

set_option maxHeartbeats 400000 in
theorem rback_any (s : ByteArray) (w : World) (hl : s.size ≤ 9223372036854775807) :
    Calls Tryd.prog 14 #[.string s] w fun e w' => e = .returned (backV s) ∧ Below w.heap.size w w' := by
  have el : s.data.toList.length = s.size := rfl
  by_cases h64 : s.size = 64
  · have hd := und_any s w h64
    have j1 : (s.size : Int) = 64 := by omega
    cases hu : unP s.data.toList 32 with
    | none =>
      have hv : backP s.data.toList = ([], 6) := by unfold backP; rw [if_pos (by omega), hu]
      have hw : undP s.data.toList = ([], false) := by unfold undP; rw [hu]
      unfold undV at hd
      rw [hw] at hd
      have HV := Lib.hid hv
      have HD := Lib.hid hd
      clear hv hd hw hu
      go_enter Tryd.func14, Tryd.ntmps14
      go_wp2_with fail
      refine HD.out.mono ?_
      rintro e w2 ⟨rfl, hb⟩
      go_wp2
      go_ret2
      exact ⟨by unfold backV; rw [HV.out]; rfl, hb⟩
    | some o =>
      have hv : backP s.data.toList = (o, 0) := by unfold backP; rw [if_pos (by omega), hu]
      have hw : undP s.data.toList = (o, true) := by unfold undP; rw [hu]
      unfold undV at hd
      rw [hw] at hd
      have HV := Lib.hid hv
      have HD := Lib.hid hd
      clear hv hd hw hu
      go_enter Tryd.func14, Tryd.ntmps14
      go_wp2_with fail
      refine HD.out.mono ?_
      rintro e w2 ⟨rfl, hb⟩
      go_wp2
      go_ret2
      exact ⟨by unfold backV; rw [HV.out]; rfl, hb⟩
  · have hv : backP s.data.toList = ([], 4) := if_neg (by omega)
    have j1 : ¬ (s.size : Int) = 64 := by omega
    have HV := Lib.hid hv
    clear hv
    go_enter Tryd.func14, Tryd.ntmps14
    go_wp2
    go_ret2
    exact ⟨by unfold backV; rw [HV.out]; rfl, Below.refl _ _⟩
end Go.Proofs.YtangadeihfkhpaaDoor

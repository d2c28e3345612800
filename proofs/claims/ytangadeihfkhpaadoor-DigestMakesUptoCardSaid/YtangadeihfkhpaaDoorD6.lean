/-
  Contracts of digest: Back.
-/
import Derived.Test.YtangadeihfkhpaaDoorD5
namespace Go.Proofs.YtangadeihfkhpaaDoor
open Go.RowKit
set_option linter.unusedVariables false
set_option linter.unusedSimpArgs false

theorem or_pair : ∀ A, A < 16 → ∀ B, B < 16 → bits .or .i64 ((A : Nat) * 16 : Int) (B : Nat) = ((16 * A + B : Nat) : Int) := by decide +kernel

set_option maxRecDepth 20000 in
set_option maxHeartbeats 1000000 in
theorem back_any (s : ByteArray) (w : World) (hl : s.size ≤ 9223372036854775807) :
    Calls Tryd.prog 13 #[.string s] w fun e w' => e = .returned (backV s) ∧ Below w.heap.size w w' := by
  obtain ⟨i5, hi, hz0, hz1, hz2⟩ := info_parts Tryd.info5
  have el : s.data.toList.length = s.size := rfl
  by_cases h64 : s.size = 64
  · have hv : backP s.data.toList = match unP s.data.toList 32 with
        | none => ([], 6)
        | some o => (o, 0) := if_pos (by omega)
    have hmk : ∀ w, (Instr.makeSlice 35 (.int .i64 0) (.int .i64 32)).run Tryd.prog w = .ok (.slice (some ⟨w.heap.size, 0, none⟩) 0 32) (w.alloc (.cells (madeCells #[.int .u8 0] 32) 5)) := make_c 32 (by omega)
    have j1 : (s.size : Int) = 64 := by omega
    have HV := Lib.hid hv
    have H64 := Lib.hid h64
    clear hv
    go_enter Tryd.func13, Tryd.ntmps13
    go_wp2
    have hown := owns_madec (Nat.le_refl w.heap.size) (by omega : 32 ≤ 1000) (heap_alloc_new w (.cells (madeCells #[.int .u8 0] 32) 5))
    have hB : Below w.heap.size w (w.alloc (.cells (madeCells #[.int .u8 0] 32) 5)) := (Below.refl _ _).alloc (Nat.le_refl _) _
    generalize w.alloc (.cells (madeCells #[.int .u8 0] 32) 5) = w2 at hown hB ⊢
    clear hmk
    go_loopw [4, 5] (fun o i wr => ∃ (k : Nat) (xs : List UInt8), k ≤ 32 ∧ i = .int .i64 ((2 * k : Nat) : Int) ∧ unP s.data.toList k = some xs ∧ wr.ownsRow w.heap.size 5 1 o k (bvs xs) ∧ Below w.heap.size w wr) (fun _ i _ => 64 - (intOf i).toNat)
    case atStart => exact ⟨0, [], by omega, rfl, rfl, hown, hB⟩
    case round =>
      clear hown hB
      obtain ⟨k, xs, hk, rfl, hu, hown, hB⟩ := hrel
      obtain ⟨ao, co, rfl, hrd, _⟩ := owns_shape hown (by omega)
      by_cases hlt : k < 32
      · obtain ⟨p, hp⟩ : ∃ p, p = 2 * k := ⟨_, rfl⟩
        rw [← hp]
        have hbad := fun h => unP_bad hu h
        have hgood := fun h1 h2 => unP_good hu h1 h2
        rw [← hp] at hbad hgood
        have hix1 := index_text s p (by omega)
        have hix2 := index_text s (p + 1) (by omega)
        rw [show ((p + 1 : Nat) : Int) = (p : Int) + 1 from by omega] at hix2
        change ∀ w, _ = Result.ok (Value.int .u8 (bt s.data.toList p : Int)) w at hix1
        change ∀ w, _ = Result.ok (Value.int .u8 (bt s.data.toList (p + 1) : Int)) w at hix2
        have hb1 := bt_lt s.data.toList p
        have hb2 := bt_lt s.data.toList (p + 1)
        generalize bt s.data.toList p = b1 at hix1 hb1 hbad hgood
        generalize bt s.data.toList (p + 1) = b2 at hix2 hb2 hbad hgood
        have hw1 := fun w => worth_any b1 w hb1
        have hw2 := fun w => worth_any b2 w hb2
        have hr1 := wor_lt b1
        have hr2 := wor_lt b2
        have hpb := pair_nat b1 b2
        generalize pairB b1 b2 = pb at hpb hgood
        generalize wor b1 = v1 at hw1 hr1 hbad hgood hpb
        generalize wor b2 = v2 at hw2 hr2 hbad hgood hpb
        have HW1 := Lib.hid hw1
        have HW2 := Lib.hid hw2
        have HBAD := Lib.hid hbad
        have HGOOD := Lib.hid hgood
        have HO := Lib.hid hown
        have HB := Lib.hid hB
        have HPB := Lib.hid hpb
        have HP := Lib.hid hp
        have i1 : (0 : Int) ≤ (p : Int) := by omega
        have i2 : (p : Int) < (s.size : Int) := by omega
        have i3 : (p : Int) < 64 := by omega
        clear hbad hgood hown hB hw1 hw2 hrd hu hpb hp
        go_wp2_with fail
        go_quiet (first
          | (go_at_call 18; with_reducible exact Calls.quiet_of_same (HW1.out _))
          | (go_at_call 18; with_reducible exact Calls.quiet_of_same (HW2.out _)))
        have hBr : ∀ n, Below w.heap.size w (wr.drewN n) := fun n => HB.out.grown (gb_drewN _ _ none) HB.out.size (fun j h => by cases h)
        have bad : v1 < 0 ∨ v2 < 0 → backP s.data.toList = ([], 6) := fun h => by
          have h1 := unP_none (show k + 1 ≤ 32 by omega) (HBAD.out h)
          rw [HV.out, h1]
        by_cases n1 : v1 < 0
        · have e1 := bad (.inl n1)
          have E1 := Lib.hid e1
          clear e1 bad
          go_wp2
          go_ret2
          exact ⟨by unfold backV; rw [E1.out]; rfl, hBr _⟩
        · by_cases n2 : v2 < 0
          · have e1 := bad (.inr n2)
            have E1 := Lib.hid e1
            clear e1 bad
            go_wp2
            go_ret2
            exact ⟨by unfold backV; rw [E1.out]; rfl, hBr _⟩
          · clear bad
            obtain ⟨A, rfl⟩ : ∃ A : Nat, v1 = A := ⟨v1.toNat, by omega⟩
            obtain ⟨B, rfl⟩ : ∃ B : Nat, v2 = B := ⟨v2.toNat, by omega⟩
            have hor := or_pair A (by omega) B (by omega)
            have hwr : IntKind.i64.wrap ((A : Int) * 16) = (A : Int) * 16 := by rw [IntKind.wrap_i64]; omega
            have hpv : (16 : Int) * (A : Int) + (B : Int) = (pb.toNat : Int) := by have h1 := HPB.out; omega
            have HPV := Lib.hid hpv
            have HR := Lib.hid hBr
            clear hpv hBr
            go_wp2_with (at_builtin; refine wpList_append_rd (o := ⟨some 40, _, _, _, _, _⟩) rfl (.tmp 33) (.tmp 39) 35 rfl w.heap.size 5 i5 Tryd.underlying35 hi hz0 hz1 hz2 _ k xs rfl (HO.out.alloc (w := wr.drewN _) _) (some ⟨wr.heap.size, 0, none⟩) 1 1 [pb] rfl (one_rd (wr.drewN _) _ _ HPV.out) (by omega) (by have := HB.out.size; show _ ≤ (wr.alloc _).heap.size; simp; omega) ?_)
            intro v2 w2 hown2 hgrow
            have hB2 := ((HR.out _).alloc (HR.out _).size _).grown hgrow (by have := HB.out.size; show _ ≤ (wr.alloc _).heap.size; simp; omega) (fun j hj => (HO.out.lt j hj).1)
            have hu2 := HGOOD.out n1 n2
            clear hgrow
            go_wp2
            go_roundw
            case rel => exact ⟨k + 1, xs ++ [pb], by omega, by have := HP.out; go_num, hu2, hown2, hB2⟩
            case measure => simp [intOf]; omega
      · obtain rfl : k = 32 := by omega
        have hcv := run_string_rd hrd
        have hv := HV.out
        rw [hu] at hv
        have HV2 := Lib.hid hv
        have i3 : ¬ ((2 * 32 : Nat) : Int) < 64 := by omega
        clear hv HV
        go_wp2
        go_ret2
        exact ⟨by unfold backV; rw [HV2.out]; rfl, hB⟩
  · have hv : backP s.data.toList = ([], 4) := if_neg (by omega)
    have j1 : ¬ (s.size : Int) = 64 := by omega
    have HV := Lib.hid hv
    clear hv
    go_enter Tryd.func13, Tryd.ntmps13
    go_wp2
    go_ret2
    exact ⟨by unfold backV; rw [HV.out]; rfl, Below.refl _ _⟩
end Go.Proofs.YtangadeihfkhpaaDoor

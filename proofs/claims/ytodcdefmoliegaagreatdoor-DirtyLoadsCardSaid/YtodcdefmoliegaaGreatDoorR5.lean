/-
  Contract of the program's Kind.
-/
import Derived.Test.YtodcdefmoliegaaGreatDoorR4
namespace Go.Proofs.YtodcdefmoliegaaGreatDoor
open Go.RowKit
set_option linter.unusedVariables false
set_option linter.unusedSimpArgs false

theorem size_str (xs : List UInt8) : (⟨xs.toArray⟩ : ByteArray).size = xs.length := by show (List.toArray xs).size = _; simp

theorem right_str (xs : List UInt8) (w : World) : Calls Tryz.prog 27 #[strV xs] w fun e w' => e = .returned (.bool (decide (xs.length = 64))) ∧ w' = w := by
  have := right_any ⟨xs.toArray⟩ w
  rwa [size_str] at this

theorem trim_str (xs : List UInt8) (hx : xs.length ≤ 1000) (w : World) : Calls Tryz.prog 70 #[strV xs, .string ⟨#[0]⟩] w fun e w' => e = .returned (strV (Lib.trimB xs 0)) ∧ (w' = w ∨ w' = w.drew) :=
  Tryz.strings_Trim_one ⟨xs.toArray⟩ 0 (by decide) w (by rw [size_str]; omega)

set_option maxRecDepth 20000 in
set_option maxHeartbeats 2000000 in
theorem kind_any (xs : List UInt8) (w : World) :
    Calls Tryz.prog 52 #[strV xs] w fun e w' => e = .returned (kindV (kindP xs)) ∧ Below w.heap.size w w' := by
  have hr := right_str xs
  by_cases hl : xs.length = 64
  · rw [show decide (xs.length = 64) = true from by simpa using hl] at hr
    have hc := fun w => cut_to xs 60 (by omega) w
    have hse := fun w => seal_any (xs.take 60) w (by simp; omega)
    have hne := neq_str xs (sealL (xs.take 60))
    have hgd := nguard_str xs (sealL (xs.take 60))
    obtain ⟨V1, hV1⟩ : ∃ V, V = strV (xs.take 60) := ⟨_, rfl⟩
    obtain ⟨V2, hV2⟩ : ∃ V, V = strV (sealL (xs.take 60)) := ⟨_, rfl⟩
    simp only [← hV1] at hc hse
    simp only [← hV2] at hse hne hgd
    by_cases hs : xs = sealL (xs.take 60)
    · rw [show decide (xs = sealL (xs.take 60)) = true from by simpa using hs] at hne
      have hx0 := fun w => idx_str xs 0 (by omega) w
      have hx1 := fun w => idx_str xs 1 (by omega) w
      have hb0 := nb_lt xs 0
      have hb1 := nb_lt xs 1
      have hik := isKind_any (nb xs 0 : Int)
      have hbe := bodyEnd_any xs hl
      by_cases hk : 1 ≤ nb xs 0 ∧ nb xs 0 ≤ 8
      · rw [show decide (1 ≤ (nb xs 0 : Int) ∧ (nb xs 0 : Int) ≤ 8) = true from by rw [decide_eq_true_iff]; omega] at hik
        by_cases h1 : nb xs 1 ≤ 58
        · have hcb := fun w => cut_both xs (2 + nb xs 1) 60 (by omega) (by omega) w
          have htr := fun w => trim_str ((xs.take 60).drop (2 + nb xs 1)) (by simp; omega) w
          have htz := trim_zero ((xs.take 60).drop (2 + nb xs 1))
          have hne2 := neq_str (Lib.trimB ((xs.take 60).drop (2 + nb xs 1)) 0) []
          have hgd2 := nguard_str (Lib.trimB ((xs.take 60).drop (2 + nb xs 1)) 0) []
          obtain ⟨VS, hVS⟩ : ∃ V, V = strV xs := ⟨_, rfl⟩
          obtain ⟨V3, hV3⟩ : ∃ V, V = strV ((xs.take 60).drop (2 + nb xs 1)) := ⟨_, rfl⟩
          obtain ⟨V4, hV4⟩ : ∃ V, V = strV (Lib.trimB ((xs.take 60).drop (2 + nb xs 1)) 0) := ⟨_, rfl⟩
          simp only [← hV3] at hcb htr
          simp only [← hV4] at htr hne2 hgd2
          have hne2' : ∀ w, (binOp .neq 9 V4 (.string ⟨#[]⟩)).run Tryz.prog w = .ok (.bool (!decide (Lib.trimB ((xs.take 60).drop (2 + nb xs 1)) 0 = []))) w := hne2
          have hgd2' : ∀ (x y : Operand) w, (eqGuard .neq 9 x y V4 (.string ⟨#[]⟩)).run Tryz.prog w = .ok () w := hgd2
          have hkp : kindP xs = if allz xs = true then (nb xs 0, 0) else (0, 6) := by
            unfold kindP
            rw [if_neg (by omega), if_neg (fun g => g hs)]
            by_cases hz : allz xs = true
            · rw [if_neg (by simp; exact ⟨hk.1, hk.2, h1, hz⟩), if_pos hz]
            · rw [if_pos (fun g => hz g.2.2.2), if_neg hz]
          have hzz : decide (Lib.trimB ((xs.take 60).drop (2 + nb xs 1)) 0 = []) = allz xs := by
            rw [Bool.eq_iff_iff, decide_eq_true_iff, htz]
            rfl
          rw [hzz] at hne2'
          rw [hkp]
          generalize hB : allz xs = B at *
          simp only [← hVS] at hr hc hne hgd hx0 hx1 hbe hcb ⊢
          have hcb' : ∀ w, (Instr.sliceAt 9 VS (some (.int .i64 (2 + (nb xs 1 : Int)))) (some (.int .i64 60)) none).run Tryz.prog w = .ok V3 w := fun w => hcb w
          have hc' : ∀ w, (Instr.sliceAt 9 VS none (some (.int .i64 60)) none).run Tryz.prog w = .ok V1 w := hc
          have hx0' : ∀ w, (Instr.index 9 VS (.int .i64 0)).run Tryz.prog w = .ok (.int .u8 (nb xs 0 : Int)) w := hx0
          have hx1' : ∀ w, (Instr.index 9 VS (.int .i64 1)).run Tryz.prog w = .ok (.int .u8 (nb xs 1 : Int)) w := hx1
          generalize nb xs 0 = n0 at *
          generalize nb xs 1 = n1 at *
          have HR := Lib.hid hr
          have HSE := Lib.hid hse
          have HIK := Lib.hid hik
          have HBE := Lib.hid hbe
          have HTR := Lib.hid htr
          clear hV1 hV2 hV3 hV4 hVS hr hse hik hbe htr htz hzz hne2 hgd2 hkp hs hl hB hc hx0 hx1 hcb
          unfold kindV
          go_enter Tryz.func52, Tryz.ntmps52
          go_wp2_with fail
          refine (HR.out _).mono ?_
          rintro e w1 ⟨rfl, hw⟩
          obtain rfl := hw.symm
          clear hw
          go_wp2_with fail
          refine (HSE.out _).mono ?_
          rintro e w2 ⟨rfl, hb⟩
          have HB2 := Lib.hid hb
          clear hb
          go_wp2_with fail
          refine (HIK.out _).mono ?_
          rintro e w3 ⟨rfl, hw⟩
          obtain rfl := hw.symm
          clear hw
          go_wp2_with fail
          refine (HBE.out _).mono ?_
          rintro e w4 ⟨rfl, hw⟩
          obtain rfl := hw.symm
          clear hw
          go_wp2_with fail
          refine (HTR.out _).mono ?_
          rintro e w5 ⟨rfl, hw⟩
          have hb5 : Below w.heap.size w w5 := by
            rcases hw with rfl | rfl
            · exact HB2.out
            · exact HB2.out.drew
          clear hw HB2
          cases B
          · go_wp2
            refine bodyPost_ret (results_tmp2 rfl _ _ _) rfl ?_
            exact ⟨rfl, hb5⟩
          · go_wp2
            refine bodyPost_ret (results_tmp2 rfl _ _ _) rfl ?_
            exact ⟨rfl, hb5⟩
        · have hkp : kindP xs = (0, 6) := by
            unfold kindP
            rw [if_neg (by omega), if_neg (fun g => g hs), if_pos (fun g => h1 g.2.2.1)]
          rw [hkp]
          have h1' : 58 < nb xs 1 := by omega
          obtain ⟨VS, hVS⟩ : ∃ V, V = strV xs := ⟨_, rfl⟩
          simp only [← hVS] at hr hc hne hgd hx0 hx1 ⊢
          have hc' : ∀ w, (Instr.sliceAt 9 VS none (some (.int .i64 60)) none).run Tryz.prog w = .ok V1 w := hc
          have hx0' : ∀ w, (Instr.index 9 VS (.int .i64 0)).run Tryz.prog w = .ok (.int .u8 (nb xs 0 : Int)) w := hx0
          have hx1' : ∀ w, (Instr.index 9 VS (.int .i64 1)).run Tryz.prog w = .ok (.int .u8 (nb xs 1 : Int)) w := hx1
          generalize nb xs 0 = n0 at *
          generalize nb xs 1 = n1 at *
          have HR := Lib.hid hr
          have HSE := Lib.hid hse
          have HIK := Lib.hid hik
          clear hV1 hV2 hVS hr hse hik hbe hkp hs hl hc hx0 hx1
          clear h1
          unfold kindV
          go_enter Tryz.func52, Tryz.ntmps52
          go_wp2_with fail
          refine (HR.out _).mono ?_
          rintro e w1 ⟨rfl, hw⟩
          obtain rfl := hw.symm
          clear hw
          go_wp2_with fail
          refine (HSE.out _).mono ?_
          rintro e w2 ⟨rfl, hb⟩
          have HB2 := Lib.hid hb
          clear hb
          go_wp2_with fail
          refine (HIK.out _).mono ?_
          rintro e w3 ⟨rfl, hw⟩
          obtain rfl := hw.symm
          clear hw
          go_wp2
          refine bodyPost_ret (results_tmp2 rfl _ _ _) rfl ?_
          exact ⟨rfl, HB2.out⟩
      · rw [show decide (1 ≤ (nb xs 0 : Int) ∧ (nb xs 0 : Int) ≤ 8) = false from by rw [decide_eq_false_iff_not]; omega] at hik
        have hkp : kindP xs = (0, 6) := by
          unfold kindP
          rw [if_neg (by omega), if_neg (fun g => g hs), if_pos (fun g => hk ⟨g.1, g.2.1⟩)]
        rw [hkp]
        obtain ⟨VS, hVS⟩ : ∃ V, V = strV xs := ⟨_, rfl⟩
        simp only [← hVS] at hr hc hne hgd hx0 hx1 ⊢
        have hc' : ∀ w, (Instr.sliceAt 9 VS none (some (.int .i64 60)) none).run Tryz.prog w = .ok V1 w := hc
        have hx0' : ∀ w, (Instr.index 9 VS (.int .i64 0)).run Tryz.prog w = .ok (.int .u8 (nb xs 0 : Int)) w := hx0
        have hx1' : ∀ w, (Instr.index 9 VS (.int .i64 1)).run Tryz.prog w = .ok (.int .u8 (nb xs 1 : Int)) w := hx1
        generalize nb xs 0 = n0 at *
        generalize nb xs 1 = n1 at *
        have HR := Lib.hid hr
        have HSE := Lib.hid hse
        have HIK := Lib.hid hik
        clear hV1 hV2 hVS hr hse hik hbe hkp hs hl hc hx0 hx1
        clear hk
        unfold kindV
        go_enter Tryz.func52, Tryz.ntmps52
        go_wp2_with fail
        refine (HR.out _).mono ?_
        rintro e w1 ⟨rfl, hw⟩
        obtain rfl := hw.symm
        clear hw
        go_wp2_with fail
        refine (HSE.out _).mono ?_
        rintro e w2 ⟨rfl, hb⟩
        have HB2 := Lib.hid hb
        clear hb
        go_wp2_with fail
        refine (HIK.out _).mono ?_
        rintro e w3 ⟨rfl, hw⟩
        obtain rfl := hw.symm
        clear hw
        go_wp2
        refine bodyPost_ret (results_tmp2 rfl _ _ _) rfl ?_
        exact ⟨rfl, HB2.out⟩
    · rw [show decide (xs = sealL (xs.take 60)) = false from by simpa using hs] at hne
      have hkp : kindP xs = (0, 9) := by
        unfold kindP
        rw [if_neg (by omega), if_pos hs]
      rw [hkp]
      obtain ⟨VS, hVS⟩ : ∃ V, V = strV xs := ⟨_, rfl⟩
      simp only [← hVS] at hr hc hne hgd ⊢
      have hc' : ∀ w, (Instr.sliceAt 9 VS none (some (.int .i64 60)) none).run Tryz.prog w = .ok V1 w := hc
      have HR := Lib.hid hr
      have HSE := Lib.hid hse
      clear hV1 hV2 hVS hr hse hkp hs hl hc
      unfold kindV
      go_enter Tryz.func52, Tryz.ntmps52
      go_wp2_with fail
      refine (HR.out _).mono ?_
      rintro e w1 ⟨rfl, hw⟩
      obtain rfl := hw.symm
      clear hw
      go_wp2_with fail
      refine (HSE.out _).mono ?_
      rintro e w2 ⟨rfl, hb⟩
      have HB2 := Lib.hid hb
      clear hb
      go_wp2
      refine bodyPost_ret (results_tmp2 rfl _ _ _) rfl ?_
      exact ⟨rfl, HB2.out⟩
  · rw [show decide (xs.length = 64) = false from by simpa using hl] at hr
    have hkp : kindP xs = (0, 4) := by
      unfold kindP
      rw [if_pos hl]
    rw [hkp]
    generalize strV xs = VS at *
    have HR := Lib.hid hr
    clear hr hkp hl
    unfold kindV
    go_enter Tryz.func52, Tryz.ntmps52
    go_wp2_with fail
    refine (HR.out _).mono ?_
    rintro e w1 ⟨rfl, hw⟩
    obtain rfl := hw.symm
    clear hw
    go_wp2
    refine bodyPost_ret (results_tmp2 rfl _ _ _) rfl ?_
    exact ⟨rfl, Below.refl _ _⟩

end Go.Proofs.YtodcdefmoliegaaGreatDoor


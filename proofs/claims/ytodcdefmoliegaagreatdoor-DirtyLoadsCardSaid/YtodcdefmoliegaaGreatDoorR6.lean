/-
  Contract of the reference's Kind.
-/
import Derived.Test.YtodcdefmoliegaaGreatDoorR5
import Derived.Deep.RegionWith
import Derived.Deep.RegionHeld3
import Derived.Deep.DrawnRows
import Derived.BigRegion
namespace Go.Proofs.YtodcdefmoliegaaGreatDoor
open Go.RowKit
set_option linter.unusedVariables false
set_option linter.unusedSimpArgs false

theorem rright_str (xs : List UInt8) (w : World) : Calls Tryz.prog 29 #[strV xs] w fun e w' => e = .returned (.bool (decide (xs.length = 64))) ∧ w' = w := by
  have := rright_any ⟨xs.toArray⟩ w
  rwa [size_str] at this

theorem allz_iff (xs : List UInt8) (hl : xs.length = 64) : allz xs = true ↔ ∀ j, 2 + nb xs 1 ≤ j → j < 60 → nb xs j = 0 := by
  unfold allz
  rw [List.all_eq_true]
  constructor
  · intro h j h1 h2
    have hj : xs[j]? = some (xs[j]'(by omega)) := List.getElem?_eq_getElem (by omega)
    have hm : xs[j]'(by omega) ∈ (xs.take 60).drop (2 + nb xs 1) := by
      rw [List.mem_iff_getElem?]
      refine ⟨j - (2 + nb xs 1), ?_⟩
      rw [List.getElem?_drop, List.getElem?_take_of_lt (by omega), show 2 + nb xs 1 + (j - (2 + nb xs 1)) = j from by omega]
      exact hj
    have := h _ hm
    unfold nb
    rw [hj]
    simp only [Option.getD_some]
    have e : xs[j]'(by omega) = 0 := by simpa using this
    rw [e]; rfl
  · intro h x hx
    rw [List.mem_iff_getElem?] at hx
    obtain ⟨i, hi⟩ := hx
    rw [List.getElem?_drop] at hi
    have hlt : 2 + nb xs 1 + i < 60 := by
      rcases Nat.lt_or_ge (2 + nb xs 1 + i) 60 with g | g
      · exact g
      · rw [List.getElem?_eq_none (by simp; omega)] at hi
        cases hi
    rw [List.getElem?_take_of_lt hlt] at hi
    have := h (2 + nb xs 1 + i) (by omega) hlt
    change (xs[2 + nb xs 1 + i]?.getD 0).toNat = 0 at this
    rw [hi] at this
    simp only [Option.getD_some] at this
    have e : x = 0 := by
      apply UInt8.toNat_inj.1
      rw [this]; rfl
    rw [e]; rfl

theorem seal_iff (xs : List UInt8) (hl : xs.length = 64) : enc (addN 0 (xs.take 60)) 4 = xs.drop 60 ↔ xs = sealL (xs.take 60) := by
  have e : xs = xs.take 60 ++ xs.drop 60 := (List.take_append_drop 60 xs).symm
  constructor
  · intro h
    unfold sealL
    rw [h]
    exact e
  · intro h
    have h2 := e.symm.trans h
    unfold sealL at h2
    exact (List.append_cancel_left h2).symm

set_option maxRecDepth 20000 in
set_option maxHeartbeats 2000000 in
theorem rkind_any (xs : List UInt8) (w : World) :
    Calls Tryz.prog 57 #[strV xs] w fun e w' => e = .returned (kindV (kindP xs)) ∧ Below w.heap.size w w' := by
  have hr := rright_str xs
  by_cases hl : xs.length = 64
  · rw [show decide (xs.length = 64) = true from by simpa using hl] at hr
    have hc := fun w => cut_to xs 60 (by omega) w
    have hcf := fun w => cut_from xs 60 (by omega) w
    have hlt : (xs.take 60).length = 60 := by simp; omega
    obtain ⟨c, w1, hcv, hrd, hb1⟩ := cv_str (xs.take 60) (by rw [hlt]; omega) w.drew
    rw [hlt] at hcv hrd
    have hsm := rsum_any _ _ _ _ w1 hrd
    have hnl := addN_lt 0 (xs.take 60)
    have hne := neq_str (enc (addN 0 (xs.take 60)) 4) (xs.drop 60)
    have hgd := nguard_str (enc (addN 0 (xs.take 60)) 4) (xs.drop 60)
    have hsi := seal_iff xs hl
    generalize addN 0 (xs.take 60) = n at *
    have ht := fun w => text_any 4 n w (by omega) (by omega) (by omega)
    obtain ⟨V1, hV1⟩ : ∃ V, V = strV (xs.take 60) := ⟨_, rfl⟩
    obtain ⟨V2, hV2⟩ : ∃ V, V = strV (enc n 4) := ⟨_, rfl⟩
    obtain ⟨V3, hV3⟩ : ∃ V, V = strV (xs.drop 60) := ⟨_, rfl⟩
    obtain ⟨VS, hVS⟩ : ∃ V, V = strV xs := ⟨_, rfl⟩
    have hx := fun (i : Nat) (h : i < 64) (w : World) => idx_str xs i (by omega) w
    simp only [← hV1] at hc hcv
    simp only [← hV2] at ht hne hgd
    simp only [← hV3] at hcf hne hgd
    simp only [← hVS] at hr hc hcf hx ⊢
    have hc' : ∀ w, (Instr.sliceAt 9 VS none (some (.int .i64 60)) none).run Tryz.prog w = .ok V1 w := hc
    have hcf' : ∀ w, (Instr.sliceAt 9 VS (some (.int .i64 60)) none none).run Tryz.prog w = .ok V3 w := hcf
    have n1 : (0 : Int) ≤ (n : Int) := by omega
    have n2 : (n : Int) < 4294967296 := by omega
    have hwr : IntKind.u64.wrap (n : Int) = (n : Int) := by simp [IntKind.wrap_u64]; omega
    have HR := Lib.hid hr
    have HSM := Lib.hid hsm
    have HT := Lib.hid ht
    have HX := Lib.hid hx
    have HB1 := Lib.hid hb1
    have HSI := Lib.hid hsi
    have hx0' : ∀ w, (Instr.index 9 VS (.int .i64 0)).run Tryz.prog w = .ok (.int .u8 (nb xs 0 : Int)) w := hx 0 (by omega)
    have hx1' : ∀ w, (Instr.index 9 VS (.int .i64 1)).run Tryz.prog w = .ok (.int .u8 (nb xs 1 : Int)) w := hx 1 (by omega)
    clear hV1 hV2 hV3 hVS hr hsm ht hx hrd hb1 hc hcf hsi hlt
    obtain ⟨B, hB⟩ : ∃ B, decide (enc n 4 = xs.drop 60) = B := ⟨_, rfl⟩
    rw [hB] at hne
    have HBB := Lib.hid hB
    clear hB
    obtain ⟨KP, hKP⟩ : ∃ K, K = kindP xs := ⟨_, rfl⟩
    rw [← hKP]
    have HKP := Lib.hid hKP
    clear hKP
    unfold kindV
    go_enter Tryz.func57, Tryz.ntmps57
    go_wp2_with fail
    refine (HR.out _).mono ?_
    rintro e w2 ⟨rfl, hw⟩
    obtain rfl := hw.symm
    clear hw
    go_wp2_with fail
    go_region_with (first
      | (go_at_call 63; refine HSM.out.mono ?_; rintro r w' ⟨rfl, hw⟩; obtain rfl := hw)
      | (go_at_call 44; refine (HT.out _).mono ?_; rintro r w3 ⟨rfl, hb3⟩))
    have hB3 : Below w.heap.size w w3 := ((Below.refl w.heap.size w).drew.trans HB1.out).trans (hb3.mono (by have := HB1.out.size; exact this))
    have HB3 := Lib.hid hB3
    clear hB3 hb3 hcv HSM HT HR hne hgd
    cases B with
    | false =>
      have hns : ¬ xs = sealL (xs.take 60) := fun g => by
        have h1 := HSI.out.2 g
        have h2 : ¬ (enc n 4 = xs.drop 60) := by simpa using HBB.out
        exact h2 h1
      have hkp : KP = (0, 9) := by
        rw [HKP.out]; unfold kindP
        rw [if_neg (by omega), if_pos hns]
      have HK2 := Lib.hid hkp
      clear hns hkp HX hx0' hx1' hnl n1 n2 hwr hl HSI HBB HKP hc' hcf' HB1
      go_wp2
      refine bodyPost_ret (results_tmp2 rfl _ _ _) rfl ?_
      exact ⟨by rw [HK2.out]; rfl, HB3.out⟩
    | true =>
      have hs : xs = sealL (xs.take 60) := HSI.out.1 (by simpa using HBB.out)
      have hb0 := nb_lt xs 0
      have hb1 := nb_lt xs 1
      have haz := allz_iff xs hl
      have hkp : KP = if ¬ (1 ≤ nb xs 0 ∧ nb xs 0 ≤ 8 ∧ nb xs 1 ≤ 58 ∧ allz xs = true) then (0, 6) else (nb xs 0, 0) := by
        rw [HKP.out]
        show kindP xs = _
        unfold kindP
        rw [if_neg (by omega), if_neg (fun g => g hs)]
      have HK2 := Lib.hid hkp
      have HAZ := Lib.hid haz
      have HX' := HX
      have HL := Lib.hid hl
      clear hs hkp haz HSI HBB HKP hc' hcf' hwr n1 n2 hnl hl
      by_cases k0 : nb xs 0 < 1
      · have HK3 := Lib.hid (HK2.out.trans (if_pos (fun g => by omega)))
        generalize nb xs 0 = m0 at *
        clear HK2 HAZ HX HX'
        go_wp2
        refine bodyPost_ret (results_tmp2 rfl _ _ _) rfl ?_
        exact ⟨by rw [HK3.out]; rfl, HB3.out⟩
      · by_cases k8 : 8 < nb xs 0
        · have HK3 := Lib.hid (HK2.out.trans (if_pos (fun g => by omega)))
          generalize nb xs 0 = m0 at *
          clear HK2 HAZ HX HX'
          go_wp2
          refine bodyPost_ret (results_tmp2 rfl _ _ _) rfl ?_
          exact ⟨by rw [HK3.out]; rfl, HB3.out⟩
        · by_cases k58 : 58 < nb xs 1
          · have HK3 := Lib.hid (HK2.out.trans (if_pos (fun g => by omega)))
            generalize nb xs 0 = m0 at *
            generalize nb xs 1 = m1 at *
            clear HK2 HAZ HX HX'
            go_wp2
            refine bodyPost_ret (results_tmp2 rfl _ _ _) rfl ?_
            exact ⟨by rw [HK3.out]; rfl, HB3.out⟩
          · have HX0 := Lib.hid (show ∀ w, (Instr.index 9 VS (.int .i64 0)).run Tryz.prog w = .ok (.int .u8 (nb xs 0 : Int)) w from hx0')
            obtain ⟨m0, hm0⟩ : ∃ m, m = nb xs 0 := ⟨_, rfl⟩
            obtain ⟨m1, hm1⟩ : ∃ m, m = nb xs 1 := ⟨_, rfl⟩
            rw [← hm0] at hx0' k0 k8 hb0
            rw [← hm1] at hx1' k58 hb1
            have HM0 := Lib.hid hm0
            have HM1 := Lib.hid hm1
            clear hm0 hm1 HX0
            go_wp2
            simp only [show decide ((m0 : Int) < 1) = false from decide_eq_false (by omega), show decide (8 < (m0 : Int)) = false from decide_eq_false (by omega), show decide (58 < (m1 : Int)) = false from decide_eq_false (by omega), Bool.or_self]
            go_loopw [4] (fun y wr => ∃ j : Nat, 2 + m1 ≤ j ∧ j ≤ 60 ∧ y = .int .i64 (j : Int) ∧ (∀ t, 2 + m1 ≤ t → t < j → nb xs t = 0) ∧ wr = w3) (fun y _ => 60 - (intOf y).toNat)
            case atStart => exact ⟨2 + m1, by omega, by omega, by go_num, fun t h1 h2 => by omega, rfl⟩
            case round =>
              obtain ⟨j, hj1, hj2, rfl, hz, hw⟩ := hrel
              obtain rfl := hw.symm
              clear hw
              have hz2 : nb xs j = 0 → ∀ t, 2 + m1 ≤ t → t < j + 1 → nb xs t = 0 := fun h t h1 h2 => by
                by_cases e : t = j
                · subst e; exact h
                · exact hz t h1 (by omega)
              by_cases hlt : j < 60
              · have hxj := HX'.out j (by omega)
                have hbj := nb_lt xs j
                have y1 : (0 : Int) ≤ (j : Int) := by omega
                by_cases hn : nb xs j = 0
                · have HZ := Lib.hid (hz2 hn)
                  rw [hn] at hxj
                  have hxj' : ∀ w, (Instr.index 9 VS (.int .i64 (j : Int))).run Tryz.prog w = .ok (.int .u8 0) w := hxj
                  clear hz hz2 hxj hn hbj HX HX'
                  go_wp2
                  go_roundw
                  case rel => exact ⟨j + 1, by omega, by omega, by go_num, HZ.out, by first | rfl | trivial⟩
                  case measure => simp [intOf]; omega
                · have haz : ¬ allz xs = true := fun g => hn (HAZ.out.1 g j (by rw [← HM1.out]; omega) hlt)
                  have HK3 := Lib.hid (HK2.out.trans (if_pos (fun g => haz g.2.2.2)))
                  generalize nb xs j = bj at *
                  have hne0 : ((bj : Int) == 0) = false := by simpa using hn
                  clear hz hz2 haz HAZ HX HX' HK2 hn
                  go_wp2
                  refine bodyPost_ret (results_tmp2 rfl _ _ _) rfl ?_
                  exact ⟨by rw [HK3.out]; rfl, HB3.out⟩
              · obtain rfl : j = 60 := by omega
                have haz : allz xs = true := HAZ.out.2 fun t h1 h2 => hz t (by rw [HM1.out]; omega) h2
                have HK3 := Lib.hid (HK2.out.trans (if_neg (fun g => g ⟨by rw [← HM0.out]; omega, by rw [← HM0.out]; omega, by rw [← HM1.out]; omega, haz⟩)))
                clear hz hz2 haz HAZ HX HX' HK2
                go_wp2
                refine bodyPost_ret (results_tmp2 rfl _ _ _) rfl ?_
                exact ⟨by rw [HK3.out, ← HM0.out]; rfl, HB3.out⟩
  · rw [show decide (xs.length = 64) = false from by simpa using hl] at hr
    have hkp : kindP xs = (0, 4) := by
      unfold kindP
      rw [if_pos hl]
    rw [hkp]
    generalize strV xs = VS at *
    have HR := Lib.hid hr
    clear hr hkp hl
    unfold kindV
    go_enter Tryz.func57, Tryz.ntmps57
    go_wp2_with fail
    refine (HR.out _).mono ?_
    rintro e w1 ⟨rfl, hw⟩
    obtain rfl := hw.symm
    clear hw
    go_wp2
    refine bodyPost_ret (results_tmp2 rfl _ _ _) rfl ?_
    exact ⟨rfl, Below.refl _ _⟩

end Go.Proofs.YtodcdefmoliegaaGreatDoor


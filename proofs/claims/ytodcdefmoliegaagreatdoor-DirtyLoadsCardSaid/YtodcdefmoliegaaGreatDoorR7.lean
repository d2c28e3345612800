/-
  Contracts of both Open; known.
-/
import Derived.Test.YtodcdefmoliegaaGreatDoorR6
namespace Go.Proofs.YtodcdefmoliegaaGreatDoor
open Go.RowKit
set_option linter.unusedVariables false
set_option linter.unusedSimpArgs false

theorem kindP_ok {xs : List UInt8} (h : (kindP xs).2 = 0) : xs.length = 64 ∧ nb xs 1 ≤ 58 := by
  unfold kindP at h
  split at h
  · simp at h
  · rename_i k1
    split at h
    · simp at h
    · split at h
      · simp at h
      · rename_i k3
        have k4 := Classical.not_not.1 k3
        exact ⟨by simpa using k1, k4.2.2.1⟩

set_option maxRecDepth 20000 in
set_option maxHeartbeats 1000000 in
theorem open_any (kind : Int) (xs : List UInt8) (w : World) :
    Calls Tryz.prog 33 #[.int .i64 kind, strV xs] w fun e w' => e = .returned (tupV (openP kind xs)) ∧ Below w.heap.size w w' := by
  have hkd := kind_any xs w
  unfold kindV at hkd
  unfold tupV
  by_cases h0 : (kindP xs).2 = 0
  · obtain ⟨hl, h58⟩ := kindP_ok h0
    by_cases hk : ((kindP xs).1 : Int) = kind
    · have hop : openP kind xs = ((xs.take (2 + nb xs 1)).drop 2, 0) := by
        unfold openP
        rw [if_neg (by omega), if_neg (by omega)]
      rw [hop]
      dsimp only
      rw [h0, hk] at hkd
      have hcb := fun w => cut_both xs 2 (2 + nb xs 1) (by omega) (by omega) w
      have hbe := bodyEnd_any xs hl
      obtain ⟨VS, hVS⟩ : ∃ V, V = strV xs := ⟨_, rfl⟩
      obtain ⟨VB, hVB⟩ : ∃ V, V = strV ((xs.take (2 + nb xs 1)).drop 2) := ⟨_, rfl⟩
      simp only [← hVB] at hcb ⊢
      simp only [← hVS] at hkd hcb hbe ⊢
      have hcb' : ∀ w, (Instr.sliceAt 9 VS (some (.int .i64 2)) (some (.int .i64 (2 + (nb xs 1 : Int)))) none).run Tryz.prog w = .ok VB w := fun w => hcb w
      generalize nb xs 1 = m1 at *
      have HK := Lib.hid hkd
      have HBE := Lib.hid hbe
      clear hkd hVS hVB hcb hop h0 hk hl hbe
      go_enter Tryz.func33, Tryz.ntmps33
      go_wp2_with fail
      refine HK.out.mono ?_
      rintro e w1 ⟨rfl, hb⟩
      go_wp2_with fail
      refine (HBE.out _).mono ?_
      rintro e w2 ⟨rfl, hw⟩
      obtain rfl := hw.symm
      clear hw
      go_wp2
      refine bodyPost_ret (results_tmp2 rfl _ _ _) rfl ?_
      exact ⟨rfl, hb⟩
    · have hop : openP kind xs = ([], 22) := by
        unfold openP
        rw [if_neg (by omega), if_pos hk]
      rw [hop]
      rw [h0] at hkd
      generalize ((kindP xs).1 : Int) = kk at *
      have hkk : (kk == kind) = false := by simpa using hk
      generalize strV xs = VS at *
      have HK := Lib.hid hkd
      clear hkd hop h0 hk hl h58
      go_enter Tryz.func33, Tryz.ntmps33
      go_wp2_with fail
      refine HK.out.mono ?_
      rintro e w1 ⟨rfl, hb⟩
      go_wp2
      refine bodyPost_ret (results_tmp2 rfl _ _ _) rfl ?_
      exact ⟨rfl, hb⟩
  · have hop : openP kind xs = ([], (kindP xs).2) := by
      unfold openP
      rw [if_pos h0]
    rw [hop]
    dsimp only
    generalize (kindP xs).2 = ke at *
    have hke : ((ke : Int) == 0) = false := by simpa using h0
    generalize strV xs = VS at *
    have HK := Lib.hid hkd
    clear hkd hop h0
    go_enter Tryz.func33, Tryz.ntmps33
    go_wp2_with fail
    refine HK.out.mono ?_
    rintro e w1 ⟨rfl, hb⟩
    go_wp2
    refine bodyPost_ret (results_tmp2 rfl _ _ _) rfl ?_
    exact ⟨rfl, hb⟩

set_option maxRecDepth 20000 in
set_option maxHeartbeats 1000000 in
theorem ropen_any (kind : Int) (xs : List UInt8) (w : World) :
    Calls Tryz.prog 36 #[.int .i64 kind, strV xs] w fun e w' => e = .returned (tupV (openP kind xs)) ∧ Below w.heap.size w w' := by
  have hkd := rkind_any xs w
  unfold kindV at hkd
  unfold tupV
  by_cases h0 : (kindP xs).2 = 0
  · obtain ⟨hl, h58⟩ := kindP_ok h0
    by_cases hk : ((kindP xs).1 : Int) = kind
    · have hop : openP kind xs = ((xs.take (2 + nb xs 1)).drop 2, 0) := by
        unfold openP
        rw [if_neg (by omega), if_neg (by omega)]
      rw [hop]
      dsimp only
      rw [h0, hk] at hkd
      have hcb := fun w => cut_both xs 2 (2 + nb xs 1) (by omega) (by omega) w
      have hx1 := fun w => idx_str xs 1 (by omega) w
      obtain ⟨VS, hVS⟩ : ∃ V, V = strV xs := ⟨_, rfl⟩
      obtain ⟨VB, hVB⟩ : ∃ V, V = strV ((xs.take (2 + nb xs 1)).drop 2) := ⟨_, rfl⟩
      simp only [← hVB] at hcb ⊢
      simp only [← hVS] at hkd hcb hx1 ⊢
      have hcb' : ∀ w, (Instr.sliceAt 9 VS (some (.int .i64 2)) (some (.int .i64 (2 + (nb xs 1 : Int)))) none).run Tryz.prog w = .ok VB w := fun w => hcb w
      have hx1' : ∀ w, (Instr.index 9 VS (.int .i64 1)).run Tryz.prog w = .ok (.int .u8 (nb xs 1 : Int)) w := hx1
      have hb1 := nb_lt xs 1
      generalize nb xs 1 = m1 at *
      have HK := Lib.hid hkd
      clear hkd hVS hVB hcb hop h0 hk hl hx1
      go_enter Tryz.func36, Tryz.ntmps36
      go_wp2_with fail
      refine HK.out.mono ?_
      rintro e w1 ⟨rfl, hb⟩
      go_wp2
      refine bodyPost_ret (results_tmp2 rfl _ _ _) rfl ?_
      exact ⟨rfl, hb⟩
    · have hop : openP kind xs = ([], 22) := by
        unfold openP
        rw [if_neg (by omega), if_pos hk]
      rw [hop]
      rw [h0] at hkd
      generalize ((kindP xs).1 : Int) = kk at *
      have hkk : (kk == kind) = false := by simpa using hk
      generalize strV xs = VS at *
      have HK := Lib.hid hkd
      clear hkd hop h0 hk hl h58
      go_enter Tryz.func36, Tryz.ntmps36
      go_wp2_with fail
      refine HK.out.mono ?_
      rintro e w1 ⟨rfl, hb⟩
      go_wp2
      refine bodyPost_ret (results_tmp2 rfl _ _ _) rfl ?_
      exact ⟨rfl, hb⟩
  · have hop : openP kind xs = ([], (kindP xs).2) := by
      unfold openP
      rw [if_pos h0]
    rw [hop]
    dsimp only
    generalize (kindP xs).2 = ke at *
    have hke : ((ke : Int) == 0) = false := by simpa using h0
    generalize strV xs = VS at *
    have HK := Lib.hid hkd
    clear hkd hop h0
    go_enter Tryz.func36, Tryz.ntmps36
    go_wp2_with fail
    refine HK.out.mono ?_
    rintro e w1 ⟨rfl, hb⟩
    go_wp2
    refine bodyPost_ret (results_tmp2 rfl _ _ _) rfl ?_
    exact ⟨rfl, hb⟩


theorem known_make : makeP 2 [97, 98] = (recL 2 [97, 98], 0) := rfl


end Go.Proofs.YtodcdefmoliegaaGreatDoor


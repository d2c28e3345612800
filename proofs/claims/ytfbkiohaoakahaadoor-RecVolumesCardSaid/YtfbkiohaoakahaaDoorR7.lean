/-
  Contracts of both Open; known.
-/
import Derived.Test.YtfbkiohaoakahaaDoorR6
namespace Go.Proofs.YtfbkiohaoakahaaDoor
open Go.RowKit
set_option linter.unusedVariables false
set_option linter.unusedSimpArgs false

theorem kindP_ok {xs : List UInt8} (h : (kindP xs).2 = 0) : xs.length = 64 ∧ nb xs 1 ≤ 58 := by
  unfold kindP at h
  split at h
  · simp at h
  · rename_i k1
    split at h
    · simp at h
    · split at h
      · simp at h
      · rename_i k3
        have k4 := Classical.not_not.1 k3
        exact ⟨by simpa using k1, k4.2.2.1⟩

set_option maxRecDepth 20000 in
set_option maxHeartbeats 1000000 in
theorem open_any (kind : Int) (xs : List UInt8) (w : World) :
    Calls Tryd.prog 10 #[.int .i64 kind, strV xs] w fun e w' => e = .returned (tupV (openP kind xs)) ∧ Below w.heap.size w w' := by
  have hkd := kind_any xs w
  unfold kindV at hkd
  unfold tupV
  by_cases h0 : (kindP xs).2 = 0
  · obtain ⟨hl, h58⟩ := kindP_ok h0
    by_cases hk : ((kindP xs).1 : Int) = kind
    · have hop : openP kind xs = ((xs.take (2 + nb xs 1)).drop 2, 0) := by
        unfold openP
        rw [if_neg (by omega), if_neg (by omega)]
      rw [hop]
      dsimp only
      rw [h0, hk] at hkd
      have hcb := fun w => cut_both xs 2 (2 + nb xs 1) (by omega) (by omega) w
      have hbe := bodyEnd_any xs hl
      obtain ⟨VS, hVS⟩ : ∃ V, V = strV xs := ⟨_, rfl⟩
      obtain ⟨VB, hVB⟩ : ∃ V, V = strV ((xs.take (2 + nb xs 1)).drop 2) := ⟨_, rfl⟩
      simp only [← hVB] at hcb ⊢
      simp only [← hVS] at hkd hcb hbe ⊢
      have hcb' : ∀ w, (Instr.sliceAt 9 VS (some (.int .i64 2)) (some (.int .i64 (2 + (nb xs 1 : Int)))) none).run Tryd.prog w = .ok VB w := fun w => hcb w
      generalize nb xs 1 = m1 at *
      have HK := Lib.hid hkd
      have HBE := Lib.hid hbe
      clear hkd hVS hVB hcb hop h0 hk hl hbe
      go_enter Tryd.func10, Tryd.ntmps10
      go_wp2_with fail
      refine HK.out.mono ?_
      rintro e w1 ⟨rfl, hb⟩
      go_wp2_with fail
      refine (HBE.out _).mono ?_
      rintro e w2 ⟨rfl, hw⟩
      obtain rfl := hw.symm
      clear hw
      go_wp2
      refine bodyPost_ret (results_tmp2 rfl _ _ _) rfl ?_
      exact ⟨rfl, hb⟩
    · have hop : openP kind xs = ([], 22) := by
        unfold openP
        rw [if_neg (by omega), if_pos hk]
      rw [hop]
      rw [h0] at hkd
      generalize ((kindP xs).1 : Int) = kk at *
      have hkk : (kk == kind) = false := by simpa using hk
      generalize strV xs = VS at *
      have HK := Lib.hid hkd
      clear hkd hop h0 hk hl h58
      go_enter Tryd.func10, Tryd.ntmps10
      go_wp2_with fail
      refine HK.out.mono ?_
      rintro e w1 ⟨rfl, hb⟩
      go_wp2
      refine bodyPost_ret (results_tmp2 rfl _ _ _) rfl ?_
      exact ⟨rfl, hb⟩
  · have hop : openP kind xs = ([], (kindP xs).2) := by
      unfold openP
      rw [if_pos h0]
    rw [hop]
    dsimp only
    generalize (kindP xs).2 = ke at *
    have hke : ((ke : Int) == 0) = false := by simpa using h0
    generalize strV xs = VS at *
    have HK := Lib.hid hkd
    clear hkd hop h0
    go_enter Tryd.func10, Tryd.ntmps10
    go_wp2_with fail
    refine HK.out.mono ?_
    rintro e w1 ⟨rfl, hb⟩
    go_wp2
    refine bodyPost_ret (results_tmp2 rfl _ _ _) rfl ?_
    exact ⟨rfl, hb⟩

set_option maxRecDepth 20000 in
set_option maxHeartbeats 1000000 in
theorem ropen_any (kind : Int) (xs : List UInt8) (w : World) :
    Calls Tryd.prog 11 #[.int .i64 kind, strV xs] w fun e w' => e = .returned (tupV (openP kind xs)) ∧ Below w.heap.size w w' := by
  have hkd := rkind_any xs w
  unfold kindV at hkd
  unfold tupV
  by_cases h0 : (kindP xs).2 = 0
  · obtain ⟨hl, h58⟩ := kindP_ok h0
    by_cases hk : ((kindP xs).1 : Int) = kind
    · have hop : openP kind xs = ((xs.take (2 + nb xs 1)).drop 2, 0) := by
        unfold openP
        rw [if_neg (by omega), if_neg (by omega)]
      rw [hop]
      dsimp only
      rw [h0, hk] at hkd
      have hcb := fun w => cut_both xs 2 (2 + nb xs 1) (by omega) (by omega) w
      have hx1 := fun w => idx_str xs 1 (by omega) w
      obtain ⟨VS, hVS⟩ : ∃ V, V = strV xs := ⟨_, rfl⟩
      obtain ⟨VB, hVB⟩ : ∃ V, V = strV ((xs.take (2 + nb xs 1)).drop 2) := ⟨_, rfl⟩
      simp only [← hVB] at hcb ⊢
      simp only [← hVS] at hkd hcb hx1 ⊢
      have hcb' : ∀ w, (Instr.sliceAt 9 VS (some (.int .i64 2)) (some (.int .i64 (2 + (nb xs 1 : Int)))) none).run Tryd.prog w = .ok VB w := fun w => hcb w
      have hx1' : ∀ w, (Instr.index 9 VS (.int .i64 1)).run Tryd.prog w = .ok (.int .u8 (nb xs 1 : Int)) w := hx1
      have hb1 := nb_lt xs 1
      generalize nb xs 1 = m1 at *
      have HK := Lib.hid hkd
      clear hkd hVS hVB hcb hop h0 hk hl hx1
      go_enter Tryd.func11, Tryd.ntmps11
      go_wp2_with fail
      refine HK.out.mono ?_
      rintro e w1 ⟨rfl, hb⟩
      go_wp2
      refine bodyPost_ret (results_tmp2 rfl _ _ _) rfl ?_
      exact ⟨rfl, hb⟩
    · have hop : openP kind xs = ([], 22) := by
        unfold openP
        rw [if_neg (by omega), if_pos hk]
      rw [hop]
      rw [h0] at hkd
      generalize ((kindP xs).1 : Int) = kk at *
      have hkk : (kk == kind) = false := by simpa using hk
      generalize strV xs = VS at *
      have HK := Lib.hid hkd
      clear hkd hop h0 hk hl h58
      go_enter Tryd.func11, Tryd.ntmps11
      go_wp2_with fail
      refine HK.out.mono ?_
      rintro e w1 ⟨rfl, hb⟩
      go_wp2
      refine bodyPost_ret (results_tmp2 rfl _ _ _) rfl ?_
      exact ⟨rfl, hb⟩
  · have hop : openP kind xs = ([], (kindP xs).2) := by
      unfold openP
      rw [if_pos h0]
    rw [hop]
    dsimp only
    generalize (kindP xs).2 = ke at *
    have hke : ((ke : Int) == 0) = false := by simpa using h0
    generalize strV xs = VS at *
    have HK := Lib.hid hkd
    clear hkd hop h0
    go_enter Tryd.func11, Tryd.ntmps11
    go_wp2_with fail
    refine HK.out.mono ?_
    rintro e w1 ⟨rfl, hb⟩
    go_wp2
    refine bodyPost_ret (results_tmp2 rfl _ _ _) rfl ?_
    exact ⟨rfl, hb⟩


theorem known_make : makeP 2 [97, 98] = (recL 2 [97, 98], 0) := rfl

set_option maxRecDepth 20000 in
set_option maxHeartbeats 2000000 in
theorem known_any (w : World) :
    Calls Tryd.prog 9 #[] w fun e w' => e = .returned (.bool true) ∧ Below w.heap.size w w' := by
  have h1 := fun w => make_any 2 ⟨#[97, 98]⟩ w (by decide)
  have e1 : (⟨#[97, 98]⟩ : ByteArray).data.toList = [97, 98] := rfl
  rw [e1, known_make] at h1
  have hl : [(97 : UInt8), 98].length ≤ 58 := by decide
  have h2 := fun w => open_any 2 (recL 2 [97, 98]) w
  rw [make_open known_make] at h2
  have h3 := fun w => open_any 6 (recL 2 [97, 98]) w
  have hkd := recL_kind 2 [97, 98] (by omega) (by omega) hl
  have e3 : openP 6 (recL 2 [97, 98]) = ([], 22) := by
    unfold openP
    rw [hkd]
    rfl
  rw [e3] at h3
  have h4 := fun w => kind_any (recL 2 [97, 98]) w
  rw [hkd] at h4
  have hln := len_str (recL 2 [97, 98])
  rw [recL_length 2 _ hl] at hln
  unfold tupV at h1 h2 h3
  unfold kindV at h4
  dsimp only at h1 h2 h3 h4
  obtain ⟨V, hV⟩ : ∃ V, V = strV (recL 2 [97, 98]) := ⟨_, rfl⟩
  simp only [← hV] at h1 h2 h3 h4 hln
  have hln' : ∀ w, (Builtin.len_ #[9] 3 #[V]).run Tryd.prog w = .ok (.int .i64 64) w := hln
  have H1 := Lib.hid (show ∀ w, Calls Tryd.prog 7 #[.int .i64 2, .string ⟨#[97, 98]⟩] w fun e w' => e = .returned (.tuple #[V, .int .i64 0]) ∧ Below w.heap.size w w' from h1)
  have H2 := Lib.hid (show ∀ w, Calls Tryd.prog 10 #[.int .i64 2, V] w fun e w' => e = .returned (.tuple #[.string ⟨#[97, 98]⟩, .int .i64 0]) ∧ Below w.heap.size w w' from h2)
  have H3 := Lib.hid (show ∀ w, Calls Tryd.prog 10 #[.int .i64 6, V] w fun e w' => e = .returned (.tuple #[.string ⟨#[]⟩, .int .i64 22]) ∧ Below w.heap.size w w' from h3)
  have H4 := Lib.hid (show ∀ w, Calls Tryd.prog 12 #[V] w fun e w' => e = .returned (.tuple #[.int .i64 2, .int .i64 0]) ∧ Below w.heap.size w w' from h4)
  clear hV h1 h2 h3 h4 hln e3 hkd e1 hl
  go_enter Tryd.func9, Tryd.ntmps9
  go_wp2_with fail
  refine (H1.out _).mono ?_
  rintro e w1 ⟨rfl, hb⟩
  have HB1 := Lib.hid hb
  clear hb
  go_wp2_with fail
  refine (H2.out _).mono ?_
  rintro e w2 ⟨rfl, hb⟩
  have HB2 := Lib.hid (HB1.out.trans (hb.mono HB1.out.size))
  clear hb
  go_wp2_with fail
  refine (H3.out _).mono ?_
  rintro e w3 ⟨rfl, hb⟩
  have HB3 := Lib.hid (HB2.out.trans (hb.mono HB2.out.size))
  clear hb
  go_wp2_with fail
  refine (H4.out _).mono ?_
  rintro e w4 ⟨rfl, hb⟩
  have hB4 := HB3.out.trans (hb.mono HB3.out.size)
  clear hb
  go_wp2
  go_ret
  exact ⟨rfl, hB4⟩

end Go.Proofs.YtfbkiohaoakahaaDoor


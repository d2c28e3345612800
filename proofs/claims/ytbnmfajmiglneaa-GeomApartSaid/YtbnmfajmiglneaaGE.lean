/-
  Contracts of Size and Area; the reference's Size, Data, Node, Area.
-/
import Derived.Test.YtbnmfajmiglneaaGD
namespace Go.Proofs.Ytbnmfajmiglneaa
open Go.RowKit
set_option linter.unusedVariables false
set_option linter.unusedSimpArgs false

theorem sec_ok {N F C U side : Int} (hok : okG N F C U) : 0 ≤ sec C U side ∧ sec C U side ≤ 640 := by
  obtain ⟨_, _, _, _, h1, h2, h3, h4⟩ := hok
  unfold sec; split <;> omega
theorem rsec_ok {N F C U side : Int} (hok : okG N F C U) (hs : isS side) : rsec C U side = sec C U side := by
  obtain ⟨_, _, _, _, h1, h2, h3, h4⟩ := hok
  unfold rsec sec
  rcases hs with rfl | rfl
  · rw [if_pos rfl, if_pos rfl, IntWalk.wrap64_in _ (by omega)]
  · rw [if_neg (show ¬ (1 : Int) = 0 by omega), if_pos rfl, if_neg (show ¬ (1 : Int) = 0 by omega), IntWalk.wrap64_in _ (by omega)]
theorem rsec_no {C U side : Int} (hs : ¬ isS side) : rsec C U side = -1 := by
  unfold rsec
  rw [if_neg (fun h => hs (.inl h)), if_neg (fun h => hs (.inr h))]

set_option maxHeartbeats 1000000 in
theorem size_any (N F C U side : Int) (w : World) :
    Calls Try.prog 25 #[geo N F C U, .int .i64 side] w fun e w' => e = .returned (.int .i64 (sizeOf' N F C U side)) ∧ Below w.heap.size w w' := by
  have hr := right_any N F C U
  have his := isSide_any side
  have hb0 := (Below.refl w.heap.size w).alloc (Nat.le_refl _) (gbox N F C U)
  by_cases hok : okG N F C U
  · have hd : decide (okG N F C U) = true := by simpa using hok
    rw [hd] at hr
    by_cases hs : isS side
    · have hd2 : decide (isS side) = true := by simpa using hs
      rw [hd2] at his
      have hst := areaStart_any N F C U ⟨hok.1, hok.2.1⟩
      have hse := sectors_any N F C U side ⟨hok.2.2.2.2.1, hok.2.2.2.2.2.1⟩ ⟨hok.2.2.2.2.2.2.1, hok.2.2.2.2.2.2.2⟩ hs
      have hsl := sec_ok (side := side) hok
      have hnl := nodes_le N F C U
      have N1 := hok.1
      have N2 := hok.2.1
      have hR : sizeOf' N F C U side = 6 + N + (nodes N F C U : Int) + sec C U side := if_pos ⟨hok, hs⟩
      have HR := Lib.hid hR
      generalize sizeOf' N F C U side = R at *
      generalize nodes N F C U = m at *
      generalize sec C U side = sc at *
      obtain ⟨ast, ha⟩ : ∃ a : Int, a = 6 + N + (m : Int) := ⟨_, rfl⟩
      rw [← ha] at hst HR
      have wr2 : IntKind.i64.wrap (ast + sc) = ast + sc := IntWalk.i64_in _ (by omega)
      clear ha
      unfold geo at *
      clear hd hd2 hok hs hsl
      go_enter Try.func25, Try.ntmps25
      go_wp2_with fail
      refine (hr _).mono ?_
      rintro e w1 ⟨rfl, hb⟩
      have hb1 : Below (w.heap.size + 1) (w.alloc (gbox N F C U)) w1 := hb.mono (by simp)
      obtain ⟨hs0, hkp, hfin⟩ := held_cells hb1
      have HA := Lib.hid hst
      have HE := Lib.hid hse
      have HKP := Lib.hid hkp
      have HST := Lib.hid hs0
      have HF := Lib.hid hfin
      clear hr hkp hs0 hb0 hfin hb hb1 hst hse
      go_wp2_with fail
      refine (his _).mono ?_
      rintro e w2 ⟨rfl, hw2⟩
      obtain rfl := hw2.symm
      clear his hw2
      go_wp2_with fail
      go_region_held3 (fun w' => w'.cell? ⟨w.heap.size, 0, none⟩ = some (.int .i64 N) ∧ w'.cell? ⟨w.heap.size, 1, none⟩ = some (.int .i64 F) ∧ w'.cell? ⟨w.heap.size, 2, none⟩ = some (.int .i64 C) ∧ w'.cell? ⟨w.heap.size, 3, none⟩ = some (.int .i64 U))
        (first | exact HST.out | exact HKP.out _ hb4 | exact HKP.out _ hb5 | exact HKP.out _ (hb4.trans (hb5.mono hb4.size)) | exact HKP.out _ (hb5.trans (hb4.mono hb5.size)))
        (first
        | (go_at_call 37; refine (HA.out _).mono ?_; rintro r w4 ⟨rfl, hb4⟩)
        | (go_at_call 38; refine (HE.out _).mono ?_; rintro r w5 ⟨rfl, hb5⟩))
      all_goals (
        rename_i hHeld
        clear hHeld
        first
          | (have hB := HF.out _ (hb4.trans (hb5.mono hb4.size))
             clear hb4 hb5
             go_wp2
             go_ret
             exact ⟨by rw [HR.out]; rfl, hB⟩)
          | (have hB := HF.out _ (hb5.trans (hb4.mono hb5.size))
             clear hb4 hb5
             go_wp2
             go_ret
             exact ⟨by rw [HR.out]; rfl, hB⟩))
    · have hd2 : decide (isS side) = false := by simpa using hs
      have hR : sizeOf' N F C U side = 0 := if_neg (fun h => hs h.2)
      rw [hd2] at his
      rw [hR]
      unfold geo at *
      clear hd hd2 hok hs hR
      go_enter Try.func25, Try.ntmps25
      go_wp2_with fail
      refine (hr _).mono ?_
      rintro e w1 ⟨rfl, hb⟩
      have hb1 : Below w.heap.size w w1 := hb0.trans (hb.mono (by simp))
      clear hb hr hb0
      go_wp2_with fail
      refine (his _).mono ?_
      rintro e w2 ⟨rfl, hw2⟩
      obtain rfl := hw2.symm
      clear his hw2
      go_wp2
      go_ret
      exact ⟨rfl, hb1⟩
  · have hd : decide (okG N F C U) = false := by simpa using hok
    have hR : sizeOf' N F C U side = 0 := if_neg (fun h => hok h.1)
    rw [hd] at hr
    rw [hR]
    unfold geo at *
    clear hd hok hR his
    go_enter Try.func25, Try.ntmps25
    go_wp2_with fail
    refine (hr _).mono ?_
    rintro e w1 ⟨rfl, hb⟩
    have hb1 : Below w.heap.size w w1 := hb0.trans (hb.mono (by simp))
    clear hb hr hb0
    go_wp2
    go_ret
    exact ⟨rfl, hb1⟩

set_option maxHeartbeats 1000000 in
theorem area_any (N F C U side i : Int) (w : World) :
    Calls Try.prog 31 #[geo N F C U, .int .i64 side, .int .i64 i] w fun e w' => e = .returned (.int .i64 (areaAt N F C U side i)) ∧ Below w.heap.size w w' := by
  have hr := right_any N F C U
  have his := isSide_any side
  have hb0 := (Below.refl w.heap.size w).alloc (Nat.le_refl _) (gbox N F C U)
  by_cases hok : okG N F C U
  · have hd : decide (okG N F C U) = true := by simpa using hok
    rw [hd] at hr
    by_cases hs : isS side
    · have hd2 : decide (isS side) = true := by simpa using hs
      rw [hd2] at his
      have hst := areaStart_any N F C U ⟨hok.1, hok.2.1⟩
      have hse := sectors_any N F C U side ⟨hok.2.2.2.2.1, hok.2.2.2.2.2.1⟩ ⟨hok.2.2.2.2.2.2.1, hok.2.2.2.2.2.2.2⟩ hs
      have hsl := sec_ok (side := side) hok
      have hnl := nodes_le N F C U
      have N1 := hok.1
      have N2 := hok.2.1
      have hl := location_any (6 + N + (nodes N F C U : Int)) (sec C U side) i (areaAt N F C U side i) (by omega) (by omega) (by
        unfold areaAt
        by_cases h : 0 ≤ i ∧ i < sec C U side
        · rw [if_pos ⟨hok, hs, h⟩, if_pos h]
        · rw [if_neg (fun g => h g.2.2), if_neg h])
      generalize areaAt N F C U side i = R at *
      generalize nodes N F C U = m at *
      generalize sec C U side = sc at *
      obtain ⟨ast, ha⟩ : ∃ a : Int, a = 6 + N + (m : Int) := ⟨_, rfl⟩
      rw [← ha] at hst hl
      have HL := Lib.hid hl
      clear ha hl
      unfold geo at *
      clear hd hd2 hok hs hsl
      go_enter Try.func31, Try.ntmps31
      go_wp2_with fail
      refine (hr _).mono ?_
      rintro e w1 ⟨rfl, hb⟩
      have hb1 : Below (w.heap.size + 1) (w.alloc (gbox N F C U)) w1 := hb.mono (by simp)
      obtain ⟨hs0, hkp, hfin⟩ := held_cells hb1
      have HA := Lib.hid hst
      have HE := Lib.hid hse
      have HKP := Lib.hid hkp
      have HST := Lib.hid hs0
      have HF := Lib.hid hfin
      clear hr hkp hs0 hb0 hfin hb hb1 hst hse
      go_wp2_with fail
      refine (his _).mono ?_
      rintro e w2 ⟨rfl, hw2⟩
      obtain rfl := hw2.symm
      clear his hw2
      go_wp2_with fail
      go_region_held3 (fun w' => w'.cell? ⟨w.heap.size, 0, none⟩ = some (.int .i64 N) ∧ w'.cell? ⟨w.heap.size, 1, none⟩ = some (.int .i64 F) ∧ w'.cell? ⟨w.heap.size, 2, none⟩ = some (.int .i64 C) ∧ w'.cell? ⟨w.heap.size, 3, none⟩ = some (.int .i64 U))
        (first | exact HST.out | exact HKP.out _ hb4 | exact HKP.out _ hb5 | exact HKP.out _ (hb4.trans (hb5.mono hb4.size)) | exact HKP.out _ (hb5.trans (hb4.mono hb5.size)))
        (first
        | (go_at_call 37; refine (HA.out _).mono ?_; rintro r w4 ⟨rfl, hb4⟩)
        | (go_at_call 38; refine (HE.out _).mono ?_; rintro r w5 ⟨rfl, hb5⟩)
        | (go_at_call 40; refine (HL.out _).mono ?_; rintro r w6 ⟨rfl, rfl⟩))
      all_goals (
        rename_i hHeld
        clear hHeld
        first
          | (have hB := HF.out _ (hb4.trans (hb5.mono hb4.size))
             clear hb4 hb5
             go_wp2
             go_ret
             exact ⟨rfl, hB⟩)
          | (have hB := HF.out _ (hb5.trans (hb4.mono hb5.size))
             clear hb4 hb5
             go_wp2
             go_ret
             exact ⟨rfl, hB⟩))
    · have hd2 : decide (isS side) = false := by simpa using hs
      have hR : areaAt N F C U side i = -1 := if_neg (fun h => hs h.2.1)
      rw [hd2] at his
      rw [hR]
      unfold geo at *
      clear hd hd2 hok hs hR
      go_enter Try.func31, Try.ntmps31
      go_wp2_with fail
      refine (hr _).mono ?_
      rintro e w1 ⟨rfl, hb⟩
      have hb1 : Below w.heap.size w w1 := hb0.trans (hb.mono (by simp))
      clear hb hr hb0
      go_wp2_with fail
      refine (his _).mono ?_
      rintro e w2 ⟨rfl, hw2⟩
      obtain rfl := hw2.symm
      clear his hw2
      go_wp2
      go_ret
      exact ⟨rfl, hb1⟩
  · have hd : decide (okG N F C U) = false := by simpa using hok
    have hR : areaAt N F C U side i = -1 := if_neg (fun h => hok h.1)
    rw [hd] at hr
    rw [hR]
    unfold geo at *
    clear hd hok hR his
    go_enter Try.func31, Try.ntmps31
    go_wp2_with fail
    refine (hr _).mono ?_
    rintro e w1 ⟨rfl, hb⟩
    have hb1 : Below w.heap.size w w1 := hb0.trans (hb.mono (by simp))
    clear hb hr hb0
    go_wp2
    go_ret
    exact ⟨rfl, hb1⟩

end Go.Proofs.Ytbnmfajmiglneaa

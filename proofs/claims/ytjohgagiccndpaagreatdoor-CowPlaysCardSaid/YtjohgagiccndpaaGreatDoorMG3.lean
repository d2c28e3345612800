/-
  Texts put together: GD, GE, GF, GG, GI.
-/
import Derived.Test.YtjohgagiccndpaaGreatDoorMG2
import Derived.Deep.RegionWith
import Derived.Deep.RegionHeld3
import Derived.Deep.DrawnRows
import Derived.BigRegion
import Derived.ProofKit
import Derived.OpenShut
import Derived.ChangeOld
import Derived.Below
/-
  Contracts of places: isSide, location, areaSectors, area, areaStart, Data, Size, Node, Area.
-/
namespace Go.Proofs.YtjohgagiccndpaaGreatDoor
open Go.RowKit
set_option linter.unusedVariables false
set_option linter.unusedSimpArgs false

/-- How many sectors a side's area has. -/
def sec (C U side : Int) : Int := if side = 0 then 2 * C else 2 * U
def isS (side : Int) : Prop := side = 0 ∨ side = 1
instance (side : Int) : Decidable (isS side) := by unfold isS; infer_instance
def sizeOf' (N F C U side : Int) : Int := if okG N F C U ∧ isS side then 6 + N + nodes N F C U + sec C U side else 0
def dataAt (N F C U i : Int) : Int := if okG N F C U ∧ 0 ≤ i ∧ i < N then 6 + i else -1
def nodeAt (N F C U i : Int) : Int := if okG N F C U ∧ 0 ≤ i ∧ i < nodes N F C U then 6 + N + i else -1
def areaAt (N F C U side i : Int) : Int := if okG N F C U ∧ isS side ∧ 0 ≤ i ∧ i < sec C U side then 6 + N + nodes N F C U + i else -1

set_option maxRecDepth 20000 in
set_option maxHeartbeats 400000 in
theorem isSide_any (side : Int) (w : World) :
    Calls Tryz.prog 121 #[.int .i64 side] w fun e w' => e = .returned (.bool (decide (isS side))) ∧ w' = w := by
  go_enter Tryz.func121, Tryz.ntmps121
  by_cases h0 : side = 0
  · subst h0
    go_wp2
    go_ret
    exact ⟨rfl, rfl⟩
  · have h0' : (side == 0) = false := by simpa using h0
    by_cases h1 : side = 1
    · subst h1
      go_wp2
      go_ret
      exact ⟨rfl, rfl⟩
    · have h1' : (side == 1) = false := by simpa using h1
      have hd : decide (isS side) = false := by rw [decide_eq_false_iff_not]; unfold isS; omega
      have HD := Lib.hid hd
      clear h0 h1 hd
      go_wp2
      go_ret
      exact ⟨by rw [HD.out]; rfl, rfl⟩

set_option maxRecDepth 20000 in
set_option maxHeartbeats 400000 in
theorem location_any (s c i R : Int) (hs : 0 ≤ s ∧ s ≤ 1000) (hc : 0 ≤ c ∧ c ≤ 1000) (hR : R = if 0 ≤ i ∧ i < c then s + i else -1) (w : World) :
    Calls Tryz.prog 109 #[.int .i64 s, .int .i64 c, .int .i64 i] w fun e w' => e = .returned (.int .i64 R) ∧ w' = w := by
  have hw := within_any i 0 (c - 1)
  go_enter Tryz.func109, Tryz.ntmps109
  by_cases h : 0 ≤ i ∧ i < c
  · have hd : decide (0 ≤ i ∧ i ≤ c - 1) = true := by rw [decide_eq_true_iff]; omega
    rw [if_pos h] at hR
    have HI := Lib.hid hR
    rw [hd] at hw
    obtain ⟨h1, h2⟩ := h
    clear hR hd
    go_wp2_with fail
    refine (hw _).mono ?_
    rintro e w2 ⟨rfl, hw2⟩
    obtain rfl := hw2.symm
    clear hw hw2
    go_wp2
    go_ret
    exact ⟨by rw [HI.out]; rfl, rfl⟩
  · have hd : decide (0 ≤ i ∧ i ≤ c - 1) = false := by rw [decide_eq_false_iff_not]; omega
    rw [if_neg h] at hR
    have HI := Lib.hid hR
    rw [hd] at hw
    clear hR hd h
    go_wp2_with fail
    refine (hw _).mono ?_
    rintro e w2 ⟨rfl, hw2⟩
    obtain rfl := hw2.symm
    clear hw hw2
    go_wp2
    go_ret
    exact ⟨by rw [HI.out]; rfl, rfl⟩

set_option maxRecDepth 20000 in
set_option maxHeartbeats 400000 in
theorem sectors_any (N F C U side : Int) (hC : 0 ≤ C ∧ C ≤ 64) (hU : 1 ≤ U ∧ U ≤ 320) (hS : isS side) (w : World) :
    Calls Tryz.prog 123 #[geo N F C U, .int .i64 side] w fun e w' => e = .returned (.int .i64 (sec C U side)) ∧ Below w.heap.size w w' := by
  have hb := fun o => (Below.refl w.heap.size w).alloc (Nat.le_refl _) o
  have HB := Lib.hid hb
  unfold geo
  go_enter Tryz.func123, Tryz.ntmps123
  rcases hS with rfl | rfl
  · clear hb
    go_wp2
    go_ret
    exact ⟨rfl, HB.out _⟩
  · clear hb
    go_wp2
    go_ret
    exact ⟨rfl, HB.out _⟩

/-- The reference's area, whatever the numbers. -/
def rsec (C U side : Int) : Int := if side = 0 then wrap64 (2 * C) else if side = 1 then wrap64 (2 * U) else -1

set_option maxRecDepth 20000 in
set_option maxHeartbeats 400000 in
theorem rarea_any (N F C U side : Int) (w : World) :
    Calls Tryz.prog 53 #[geo N F C U, .int .i64 side] w fun e w' => e = .returned (.int .i64 (rsec C U side)) ∧ Below w.heap.size w w' := by
  have hb := fun o => (Below.refl w.heap.size w).alloc (Nat.le_refl _) o
  have HB := Lib.hid hb
  unfold geo
  go_enter Tryz.func53, Tryz.ntmps53
  by_cases h0 : side = 0
  · subst h0
    clear hb
    go_wp2
    go_ret
    exact ⟨rfl, HB.out _⟩
  · have h0' : (side == 0) = false := by simpa using h0
    by_cases h1 : side = 1
    · subst h1
      clear hb
      go_wp2
      go_ret
      exact ⟨rfl, HB.out _⟩
    · have h1' : (side == 1) = false := by simpa using h1
      have hd : rsec C U side = -1 := by unfold rsec; rw [if_neg h0, if_neg h1]
      have HD := Lib.hid hd
      clear hb h0 h1 hd
      go_wp2
      go_ret
      exact ⟨by rw [HD.out]; rfl, HB.out _⟩

theorem held_cells {w w1 : World} {N F C U : Int} (h : Below (w.heap.size + 1) (w.alloc (gbox N F C U)) w1) :
    (w1.drew.cell? ⟨w.heap.size, 0, none⟩ = some (.int .i64 N) ∧ w1.drew.cell? ⟨w.heap.size, 1, none⟩ = some (.int .i64 F) ∧ w1.drew.cell? ⟨w.heap.size, 2, none⟩ = some (.int .i64 C) ∧ w1.drew.cell? ⟨w.heap.size, 3, none⟩ = some (.int .i64 U)) ∧
    (∀ w', Below w1.drew.heap.size w1.drew w' → w'.cell? ⟨w.heap.size, 0, none⟩ = some (.int .i64 N) ∧ w'.cell? ⟨w.heap.size, 1, none⟩ = some (.int .i64 F) ∧ w'.cell? ⟨w.heap.size, 2, none⟩ = some (.int .i64 C) ∧ w'.cell? ⟨w.heap.size, 3, none⟩ = some (.int .i64 U)) ∧
    (∀ w', Below w1.drew.heap.size w1.drew w' → Below w.heap.size w w') := by
  have hsz : w.heap.size + 1 ≤ w1.heap.size := by have := h.size; simpa using this
  have hd := h.drew
  refine ⟨gbox_cells hd, fun w' hb => gbox_cells (hd.trans (hb.mono hsz)), fun w' hb => ?_⟩
  exact ((Below.refl w.heap.size w).alloc (Nat.le_refl _) (gbox N F C U)).trans ((hd.trans (hb.mono hsz)).mono (by omega))

set_option maxRecDepth 20000 in
set_option maxHeartbeats 1000000 in
theorem areaStart_any (N F C U : Int) (hN : 1 ≤ N ∧ N ≤ 128) (w : World) :
    Calls Tryz.prog 122 #[geo N F C U] w fun e w' => e = .returned (.int .i64 (6 + N + (nodes N F C U : Int))) ∧ Below w.heap.size w w' := by
  have hr := nodes_any N F C U
  have hn := nodes_le N F C U
  generalize nodes N F C U = m at *
  unfold geo at *
  have hb0 : Below (w.heap.size + 1) (w.alloc (gbox N F C U)) (w.alloc (gbox N F C U)) := Below.refl _ _
  obtain ⟨N1, N2⟩ := hN
  have wr1 : IntKind.i64.wrap (6 + N) = 6 + N := IntWalk.i64_in _ (by omega)
  have wr2 : IntKind.i64.wrap (6 + N + (m : Int)) = 6 + N + (m : Int) := IntWalk.i64_in _ (by omega)
  go_enter Tryz.func122, Tryz.ntmps122
  go_wp2_with fail
  change Code.wp _ _ _ _ (w.alloc (gbox N F C U))
  obtain ⟨w0, h0⟩ : ∃ w0, w0 = w.alloc (gbox N F C U) := ⟨_, rfl⟩
  rw [← h0]
  obtain ⟨hs0, hkp, hfin⟩ := held_cells hb0
  rw [← h0] at hs0 hkp hfin
  have HR := Lib.hid (hr w0.drew)
  have HKP := Lib.hid hkp
  have HST := Lib.hid hs0
  have HF := Lib.hid hfin
  clear hr hkp hs0 hb0 h0 hfin
  go_region_held3 (fun w' => w'.cell? ⟨w.heap.size, 0, none⟩ = some (.int .i64 N) ∧ w'.cell? ⟨w.heap.size, 1, none⟩ = some (.int .i64 F) ∧ w'.cell? ⟨w.heap.size, 2, none⟩ = some (.int .i64 C) ∧ w'.cell? ⟨w.heap.size, 3, none⟩ = some (.int .i64 U))
    (first | exact HST.out | exact HKP.out _ hb4)
    (first
    | (go_at_call 119; refine HR.out.mono ?_; rintro r w4 ⟨rfl, hb4⟩))
  rename_i hHeld
  clear hHeld
  have hB := HF.out _ hb4
  clear hb4
  go_wp2
  go_ret
  exact ⟨rfl, hB⟩

set_option maxRecDepth 20000 in
set_option maxHeartbeats 1000000 in
theorem data_any (N F C U i : Int) (w : World) :
    Calls Tryz.prog 79 #[geo N F C U, .int .i64 i] w fun e w' => e = .returned (.int .i64 (dataAt N F C U i)) ∧ Below w.heap.size w w' := by
  have hr := gright_any N F C U
  have hb0 := (Below.refl w.heap.size w).alloc (Nat.le_refl _) (gbox N F C U)
  by_cases hok : okG N F C U
  · have hd : decide (okG N F C U) = true := by simpa using hok
    rw [hd] at hr
    have hl := location_any 6 N i (dataAt N F C U i) (by omega) ⟨by have := hok.1; omega, by have := hok.2.1; omega⟩ (by
      unfold dataAt
      by_cases h : 0 ≤ i ∧ i < N
      · rw [if_pos ⟨hok, h⟩, if_pos h]
      · rw [if_neg (fun g => h g.2), if_neg h])
    generalize dataAt N F C U i = R at *
    unfold geo at *
    clear hd hok
    go_enter Tryz.func79, Tryz.ntmps79
    go_wp2_with fail
    refine (hr _).mono ?_
    rintro e w1 ⟨rfl, hb⟩
    have hb1 : Below (w.heap.size + 1) (w.alloc (gbox N F C U)) w1 := hb.mono (by simp)
    obtain ⟨c1, c2, c3, c4⟩ := gbox_cells hb1
    have HB := Lib.hid (hb0.trans (hb1.mono (by omega)))
    clear hb hb1 hr hb0
    go_wp2_with fail
    refine (hl _).mono ?_
    rintro e w2 ⟨rfl, hw2⟩
    obtain rfl := hw2.symm
    clear hl hw2
    go_wp2
    go_ret
    exact ⟨rfl, HB.out⟩
  · have hd : decide (okG N F C U) = false := by simpa using hok
    have hR : dataAt N F C U i = -1 := if_neg (fun h => hok h.1)
    rw [hd] at hr
    rw [hR]
    unfold geo at *
    clear hd hok hR
    go_enter Tryz.func79, Tryz.ntmps79
    go_wp2_with fail
    refine (hr _).mono ?_
    rintro e w1 ⟨rfl, hb⟩
    have hb1 : Below w.heap.size w w1 := hb0.trans (hb.mono (by simp))
    clear hb hr hb0
    go_wp2
    go_ret
    exact ⟨rfl, hb1⟩

set_option maxRecDepth 20000 in
set_option maxHeartbeats 1000000 in
theorem node_any (N F C U i : Int) (w : World) :
    Calls Tryz.prog 97 #[geo N F C U, .int .i64 i] w fun e w' => e = .returned (.int .i64 (nodeAt N F C U i)) ∧ Below w.heap.size w w' := by
  have hr := gright_any N F C U
  have hn := nodes_any N F C U
  have hnl := nodes_le N F C U
  have hb0 := (Below.refl w.heap.size w).alloc (Nat.le_refl _) (gbox N F C U)
  by_cases hok : okG N F C U
  · have hd : decide (okG N F C U) = true := by simpa using hok
    rw [hd] at hr
    have N1 := hok.1
    have N2 := hok.2.1
    have hl := location_any (6 + N) (nodes N F C U : Int) i (nodeAt N F C U i) (by omega) (by omega) (by
      unfold nodeAt
      by_cases h : 0 ≤ i ∧ i < (nodes N F C U : Int)
      · rw [if_pos ⟨hok, h⟩, if_pos h]
      · rw [if_neg (fun g => h g.2), if_neg h])
    generalize nodeAt N F C U i = R at *
    generalize nodes N F C U = m at *
    have wr1 : IntKind.i64.wrap (6 + N) = 6 + N := IntWalk.i64_in _ (by omega)
    unfold geo at *
    clear hd hok
    go_enter Tryz.func97, Tryz.ntmps97
    go_wp2_with fail
    refine (hr _).mono ?_
    rintro e w1 ⟨rfl, hb⟩
    have hb1 : Below (w.heap.size + 1) (w.alloc (gbox N F C U)) w1 := hb.mono (by simp)
    obtain ⟨hs0, hkp, hfin⟩ := held_cells hb1
    have HN := Lib.hid (hn w1.drew)
    have HL := Lib.hid hl
    have HKP := Lib.hid hkp
    have HST := Lib.hid hs0
    have HF := Lib.hid hfin
    clear hr hkp hs0 hb0 hfin hb hb1 hn hl
    go_wp2_with fail
    go_region_held3 (fun w' => w'.cell? ⟨w.heap.size, 0, none⟩ = some (.int .i64 N) ∧ w'.cell? ⟨w.heap.size, 1, none⟩ = some (.int .i64 F) ∧ w'.cell? ⟨w.heap.size, 2, none⟩ = some (.int .i64 C) ∧ w'.cell? ⟨w.heap.size, 3, none⟩ = some (.int .i64 U))
      (first | exact HST.out | exact HKP.out _ hb4)
      (first
      | (go_at_call 119; refine HN.out.mono ?_; rintro r w4 ⟨rfl, hb4⟩)
      | (go_at_call 109; refine (HL.out _).mono ?_; rintro r w5 ⟨rfl, rfl⟩))
    rename_i hHeld
    clear hHeld
    have hB := HF.out _ hb4
    clear hb4
    go_wp2
    go_ret
    exact ⟨rfl, hB⟩
  · have hd : decide (okG N F C U) = false := by simpa using hok
    have hR : nodeAt N F C U i = -1 := if_neg (fun h => hok h.1)
    rw [hd] at hr
    rw [hR]
    unfold geo at *
    clear hd hok hR
    go_enter Tryz.func97, Tryz.ntmps97
    go_wp2_with fail
    refine (hr _).mono ?_
    rintro e w1 ⟨rfl, hb⟩
    have hb1 : Below w.heap.size w w1 := hb0.trans (hb.mono (by simp))
    clear hb hr hb0
    go_wp2
    go_ret
    exact ⟨rfl, hb1⟩

end Go.Proofs.YtjohgagiccndpaaGreatDoor
/-
  Contracts of Size and Area; the reference's Size, Data, Node, Area.
-/
namespace Go.Proofs.YtjohgagiccndpaaGreatDoor
open Go.RowKit
set_option linter.unusedVariables false
set_option linter.unusedSimpArgs false

theorem sec_ok {N F C U side : Int} (hok : okG N F C U) : 0 ≤ sec C U side ∧ sec C U side ≤ 640 := by
  obtain ⟨_, _, _, _, h1, h2, h3, h4⟩ := hok
  unfold sec; split <;> omega
theorem rsec_ok {N F C U side : Int} (hok : okG N F C U) (hs : isS side) : rsec C U side = sec C U side := by
  obtain ⟨_, _, _, _, h1, h2, h3, h4⟩ := hok
  unfold rsec sec
  rcases hs with rfl | rfl
  · rw [if_pos rfl, if_pos rfl, IntWalk.wrap64_in _ (by omega)]
  · rw [if_neg (show ¬ (1 : Int) = 0 by omega), if_pos rfl, if_neg (show ¬ (1 : Int) = 0 by omega), IntWalk.wrap64_in _ (by omega)]
theorem rsec_no {C U side : Int} (hs : ¬ isS side) : rsec C U side = -1 := by
  unfold rsec
  rw [if_neg (fun h => hs (.inl h)), if_neg (fun h => hs (.inr h))]


set_option maxRecDepth 20000 in
set_option maxHeartbeats 1000000 in
theorem area_any (N F C U side i : Int) (w : World) :
    Calls Tryz.prog 100 #[geo N F C U, .int .i64 side, .int .i64 i] w fun e w' => e = .returned (.int .i64 (areaAt N F C U side i)) ∧ Below w.heap.size w w' := by
  have hr := gright_any N F C U
  have his := isSide_any side
  have hb0 := (Below.refl w.heap.size w).alloc (Nat.le_refl _) (gbox N F C U)
  by_cases hok : okG N F C U
  · have hd : decide (okG N F C U) = true := by simpa using hok
    rw [hd] at hr
    by_cases hs : isS side
    · have hd2 : decide (isS side) = true := by simpa using hs
      rw [hd2] at his
      have hst := areaStart_any N F C U ⟨hok.1, hok.2.1⟩
      have hse := sectors_any N F C U side ⟨hok.2.2.2.2.1, hok.2.2.2.2.2.1⟩ ⟨hok.2.2.2.2.2.2.1, hok.2.2.2.2.2.2.2⟩ hs
      have hsl := sec_ok (side := side) hok
      have hnl := nodes_le N F C U
      have N1 := hok.1
      have N2 := hok.2.1
      have hl := location_any (6 + N + (nodes N F C U : Int)) (sec C U side) i (areaAt N F C U side i) (by omega) (by omega) (by
        unfold areaAt
        by_cases h : 0 ≤ i ∧ i < sec C U side
        · rw [if_pos ⟨hok, hs, h⟩, if_pos h]
        · rw [if_neg (fun g => h g.2.2), if_neg h])
      generalize areaAt N F C U side i = R at *
      generalize nodes N F C U = m at *
      generalize sec C U side = sc at *
      obtain ⟨ast, ha⟩ : ∃ a : Int, a = 6 + N + (m : Int) := ⟨_, rfl⟩
      rw [← ha] at hst hl
      have HL := Lib.hid hl
      clear ha hl
      unfold geo at *
      clear hd hd2 hok hs hsl
      go_enter Tryz.func100, Tryz.ntmps100
      go_wp2_with fail
      refine (hr _).mono ?_
      rintro e w1 ⟨rfl, hb⟩
      have hb1 : Below (w.heap.size + 1) (w.alloc (gbox N F C U)) w1 := hb.mono (by simp)
      obtain ⟨hs0, hkp, hfin⟩ := held_cells hb1
      have HA := Lib.hid hst
      have HE := Lib.hid hse
      have HKP := Lib.hid hkp
      have HST := Lib.hid hs0
      have HF := Lib.hid hfin
      clear hr hkp hs0 hb0 hfin hb hb1 hst hse
      go_wp2_with fail
      refine (his _).mono ?_
      rintro e w2 ⟨rfl, hw2⟩
      obtain rfl := hw2.symm
      clear his hw2
      go_wp2_with fail
      go_region_held3 (fun w' => w'.cell? ⟨w.heap.size, 0, none⟩ = some (.int .i64 N) ∧ w'.cell? ⟨w.heap.size, 1, none⟩ = some (.int .i64 F) ∧ w'.cell? ⟨w.heap.size, 2, none⟩ = some (.int .i64 C) ∧ w'.cell? ⟨w.heap.size, 3, none⟩ = some (.int .i64 U))
        (first | exact HST.out | exact HKP.out _ hb4 | exact HKP.out _ hb5 | exact HKP.out _ (hb4.trans (hb5.mono hb4.size)) | exact HKP.out _ (hb5.trans (hb4.mono hb5.size)))
        (first
        | (go_at_call 122; refine (HA.out _).mono ?_; rintro r w4 ⟨rfl, hb4⟩)
        | (go_at_call 123; refine (HE.out _).mono ?_; rintro r w5 ⟨rfl, hb5⟩)
        | (go_at_call 109; refine (HL.out _).mono ?_; rintro r w6 ⟨rfl, rfl⟩))
      all_goals (
        rename_i hHeld
        clear hHeld
        first
          | (have hB := HF.out _ (hb4.trans (hb5.mono hb4.size))
             clear hb4 hb5
             go_wp2
             go_ret
             exact ⟨rfl, hB⟩)
          | (have hB := HF.out _ (hb5.trans (hb4.mono hb5.size))
             clear hb4 hb5
             go_wp2
             go_ret
             exact ⟨rfl, hB⟩))
    · have hd2 : decide (isS side) = false := by simpa using hs
      have hR : areaAt N F C U side i = -1 := if_neg (fun h => hs h.2.1)
      rw [hd2] at his
      rw [hR]
      unfold geo at *
      clear hd hd2 hok hs hR
      go_enter Tryz.func100, Tryz.ntmps100
      go_wp2_with fail
      refine (hr _).mono ?_
      rintro e w1 ⟨rfl, hb⟩
      have hb1 : Below w.heap.size w w1 := hb0.trans (hb.mono (by simp))
      clear hb hr hb0
      go_wp2_with fail
      refine (his _).mono ?_
      rintro e w2 ⟨rfl, hw2⟩
      obtain rfl := hw2.symm
      clear his hw2
      go_wp2
      go_ret
      exact ⟨rfl, hb1⟩
  · have hd : decide (okG N F C U) = false := by simpa using hok
    have hR : areaAt N F C U side i = -1 := if_neg (fun h => hok h.1)
    rw [hd] at hr
    rw [hR]
    unfold geo at *
    clear hd hok hR his
    go_enter Tryz.func100, Tryz.ntmps100
    go_wp2_with fail
    refine (hr _).mono ?_
    rintro e w1 ⟨rfl, hb⟩
    have hb1 : Below w.heap.size w w1 := hb0.trans (hb.mono (by simp))
    clear hb hr hb0
    go_wp2
    go_ret
    exact ⟨rfl, hb1⟩

end Go.Proofs.YtjohgagiccndpaaGreatDoor
/-
  Contracts of the reference's Data, Node, Size, Area.
-/
namespace Go.Proofs.YtjohgagiccndpaaGreatDoor
open Go.RowKit
set_option linter.unusedVariables false
set_option linter.unusedSimpArgs false

set_option maxRecDepth 20000 in
set_option maxHeartbeats 1000000 in
theorem rdata_any (N F C U i : Int) (w : World) :
    Calls Tryz.prog 28 #[geo N F C U, .int .i64 i] w fun e w' => e = .returned (.int .i64 (dataAt N F C U i)) ∧ Below w.heap.size w w' := by
  have hr := grright_any N F C U
  have hb0 := (Below.refl w.heap.size w).alloc (Nat.le_refl _) (gbox N F C U)
  by_cases hok : okG N F C U
  · have hd : decide (okG N F C U) = true := by simpa using hok
    rw [hd] at hr
    have N1 := hok.1
    have N2 := hok.2.1
    by_cases hi : 0 ≤ i ∧ i < N
    · have hR : dataAt N F C U i = 6 + i := if_pos ⟨hok, hi⟩
      rw [hR]
      obtain ⟨i1, i2⟩ := hi
      unfold geo at *
      clear hd hok hR
      go_enter Tryz.func28, Tryz.ntmps28
      go_wp2_with fail
      refine (hr _).mono ?_
      rintro e w1 ⟨rfl, hb⟩
      have hb1 : Below (w.heap.size + 1) (w.alloc (gbox N F C U)) w1 := hb.mono (by simp)
      obtain ⟨c1, c2, c3, c4⟩ := gbox_cells hb1
      have HB := Lib.hid (hb0.trans (hb1.mono (by omega)))
      clear hb hb1 hr hb0
      go_wp2
      go_ret
      exact ⟨rfl, HB.out⟩
    · have hR : dataAt N F C U i = -1 := if_neg (fun h => hi h.2)
      rw [hR]
      have hi2 : i < 0 ∨ N ≤ i := by omega
      unfold geo at *
      clear hd hok hR hi
      go_enter Tryz.func28, Tryz.ntmps28
      go_wp2_with fail
      refine (hr _).mono ?_
      rintro e w1 ⟨rfl, hb⟩
      have hb1 : Below (w.heap.size + 1) (w.alloc (gbox N F C U)) w1 := hb.mono (by simp)
      obtain ⟨c1, c2, c3, c4⟩ := gbox_cells hb1
      have HB := Lib.hid (hb0.trans (hb1.mono (by omega)))
      clear hb hb1 hr hb0
      by_cases i1 : i < 0
      · clear hi2
        go_wp2
        go_ret
        exact ⟨rfl, HB.out⟩
      · have i2 : N ≤ i := by omega
        clear hi2
        go_wp2
        go_ret
        exact ⟨rfl, HB.out⟩
  · have hd : decide (okG N F C U) = false := by simpa using hok
    have hR : dataAt N F C U i = -1 := if_neg (fun h => hok h.1)
    rw [hd] at hr
    rw [hR]
    unfold geo at *
    clear hd hok hR 
    go_enter Tryz.func28, Tryz.ntmps28
    go_wp2_with fail
    refine (hr _).mono ?_
    rintro e w1 ⟨rfl, hb⟩
    have hb1 : Below w.heap.size w w1 := hb0.trans (hb.mono (by simp))
    clear hb hr hb0
    go_wp2
    go_ret
    exact ⟨rfl, hb1⟩


set_option maxRecDepth 20000 in
set_option maxHeartbeats 1000000 in
theorem rsize_any (N F C U side : Int) (w : World) :
    Calls Tryz.prog 17 #[geo N F C U, .int .i64 side] w fun e w' => e = .returned (.int .i64 (sizeOf' N F C U side)) ∧ Below w.heap.size w w' := by
  have hr := grright_any N F C U
  have ha := rarea_any N F C U side
  have hb0 := (Below.refl w.heap.size w).alloc (Nat.le_refl _) (gbox N F C U)
  generalize hrs : rsec C U side = rs at *
  obtain ⟨R, hRR⟩ : ∃ R, sizeOf' N F C U side = R := ⟨_, rfl⟩
  rw [hRR]
  have hn := rnodes_any N F C U
  have hnl := nodes_le N F C U
  unfold geo at hr ha hn ⊢
  go_enter Tryz.func17, Tryz.ntmps17
  go_wp2_with fail
  refine (ha _).mono ?_
  rintro e w1 ⟨rfl, hb⟩
  have hb1 : Below (w.heap.size + 1) (w.alloc (gbox N F C U)) w1 := hb.mono (by simp)
  clear hb ha
  obtain ⟨c1, c2, c3, c4⟩ := gbox_cells hb1
  have hsz : w.heap.size + 1 ≤ w1.heap.size := by have := hb1.size; simpa using this
  by_cases hok : okG N F C U
  · have hd : decide (okG N F C U) = true := by simpa using hok
    rw [hd] at hr
    go_wp2_with fail
    refine (hr _).mono ?_
    rintro e w2 ⟨rfl, hb⟩
    have hb2 := hb1.trans (hb.mono hsz)
    clear hb hb1 c1 c2 c3 c4 hsz
    by_cases hs : isS side
    · have hR : R = 6 + N + (nodes N F C U : Int) + sec C U side := hRR ▸ if_pos ⟨hok, hs⟩
      have hsl := sec_ok (side := side) hok
      rw [rsec_ok hok hs] at hrs
      rw [hrs] at hR hsl
      have N1 := hok.1
      have N2 := hok.2.1
      have HR := Lib.hid hR
      clear hRR
      generalize nodes N F C U = m at *
      obtain ⟨s1, s2⟩ := hsl
      have wr1 : IntKind.i64.wrap (6 + N) = 6 + N := IntWalk.i64_in _ (by omega)
      have wr2 : IntKind.i64.wrap (6 + N + (m : Int)) = 6 + N + (m : Int) := IntWalk.i64_in _ (by omega)
      have wr3 : IntKind.i64.wrap (6 + N + (m : Int) + rs) = 6 + N + (m : Int) + rs := IntWalk.i64_in _ (by omega)
      obtain ⟨hs0, hkp, hfin⟩ := held_cells hb2
      have HN := Lib.hid (hn w2.drew)
      have HKP := Lib.hid hkp
      have HST := Lib.hid hs0
      have HF := Lib.hid hfin
      clear hr hkp hs0 hb0 hfin hb2 hn hR hrs hs hok hd
      go_wp2
      go_region_held3 (fun w' => w'.cell? ⟨w.heap.size, 0, none⟩ = some (.int .i64 N) ∧ w'.cell? ⟨w.heap.size, 1, none⟩ = some (.int .i64 F) ∧ w'.cell? ⟨w.heap.size, 2, none⟩ = some (.int .i64 C) ∧ w'.cell? ⟨w.heap.size, 3, none⟩ = some (.int .i64 U))
        (first | exact HST.out | exact HKP.out _ hb4)
        (first
        | (go_at_call 34; refine HN.out.mono ?_; rintro r w4 ⟨rfl, hb4⟩))
      all_goals (
        rename_i hHeld
        clear hHeld
        have hB := HF.out _ hb4
        clear hb4
        go_wp2
        go_ret
        exact ⟨by rw [HR.out]; rfl, hB⟩)
    · have hR : R = 0 := hRR ▸ if_neg (fun h => hs h.2)
      have HR := Lib.hid hR
      clear hRR
      rw [rsec_no hs] at hrs
      subst hrs
      have HB := Lib.hid (hb0.trans (hb2.mono (by omega)))
      clear hb2 hb0 hR hs hok hd hr hn
      go_wp2
      go_ret
      exact ⟨by rw [HR.out]; rfl, HB.out⟩
  · have hd : decide (okG N F C U) = false := by simpa using hok
    rw [hd] at hr
    have hR : R = 0 := hRR ▸ if_neg (fun h => hok h.1)
    have HR := Lib.hid hR
    clear hRR
    go_wp2_with fail
    refine (hr _).mono ?_
    rintro e w2 ⟨rfl, hb⟩
    have HB := Lib.hid (hb0.trans ((hb1.trans (hb.mono hsz)).mono (by omega)))
    clear hb hb1 hb0 hR hok hd hr hn c1 c2 c3 c4
    go_wp2
    go_ret
    exact ⟨by rw [HR.out]; rfl, HB.out⟩

set_option maxRecDepth 20000 in
set_option maxHeartbeats 1000000 in
theorem rarea2_any (N F C U side i : Int) (w : World) :
    Calls Tryz.prog 90 #[geo N F C U, .int .i64 side, .int .i64 i] w fun e w' => e = .returned (.int .i64 (areaAt N F C U side i)) ∧ Below w.heap.size w w' := by
  have hr := grright_any N F C U
  have ha := rarea_any N F C U side
  have hb0 := (Below.refl w.heap.size w).alloc (Nat.le_refl _) (gbox N F C U)
  have hn := rnodes_any N F C U
  have hnl := nodes_le N F C U
  by_cases hok : okG N F C U
  · have hd : decide (okG N F C U) = true := by simpa using hok
    rw [hd] at hr
    have N1 := hok.1
    have N2 := hok.2.1
    obtain ⟨rs, hrs, hrl, hcase⟩ : ∃ rs, rsec C U side = rs ∧ rs ≤ 640 ∧ areaAt N F C U side i = if 0 ≤ i ∧ i < rs then 6 + N + (nodes N F C U : Int) + i else -1 := by
      by_cases hs : isS side
      · refine ⟨sec C U side, rsec_ok hok hs, (sec_ok hok).2, ?_⟩
        unfold areaAt
        by_cases h : 0 ≤ i ∧ i < sec C U side
        · rw [if_pos ⟨hok, hs, h⟩, if_pos h]
        · rw [if_neg (fun g => h g.2.2), if_neg h]
      · refine ⟨-1, rsec_no hs, by omega, ?_⟩
        unfold areaAt
        rw [if_neg (fun g => hs g.2.1), if_neg (by omega)]
    rw [hrs] at ha
    generalize areaAt N F C U side i = R at *
    generalize nodes N F C U = m at *
    unfold geo at hr ha hn ⊢
    have HC := Lib.hid hcase
    clear hcase hrs hok hd
    go_enter Tryz.func90, Tryz.ntmps90
    go_wp2_with fail
    refine (hr _).mono ?_
    rintro e w1 ⟨rfl, hb⟩
    have hb1 : Below (w.heap.size + 1) (w.alloc (gbox N F C U)) w1 := hb.mono (by simp)
    have hsz : w.heap.size + 1 ≤ w1.heap.size := by have := hb1.size; simpa using this
    clear hb hr
    obtain ⟨c1, c2, c3, c4⟩ := gbox_cells hb1
    by_cases i1 : i < 0
    · have HR := Lib.hid (HC.out.trans (if_neg (show ¬ (0 ≤ i ∧ i < rs) by omega)))
      have HB := Lib.hid (hb0.trans (hb1.mono (by omega)))
      clear hb1 hb0 ha hn
      go_wp2
      go_ret
      exact ⟨by rw [HR.out]; rfl, HB.out⟩
    · have HB1 := Lib.hid hb1
      clear hb1
      go_wp2_with fail
      refine (ha _).mono ?_
      rintro e w2 ⟨rfl, hb⟩
      have hb2 := HB1.out.trans (hb.mono hsz)
      clear hb HB1 c1 c2 c3 c4 hsz ha
      by_cases i2 : i < rs
      · have HR := Lib.hid (HC.out.trans (if_pos (show 0 ≤ i ∧ i < rs by omega)))
        have wr1 : IntKind.i64.wrap (6 + N) = 6 + N := IntWalk.i64_in _ (by omega)
        have wr2 : IntKind.i64.wrap (6 + N + (m : Int)) = 6 + N + (m : Int) := IntWalk.i64_in _ (by omega)
        have wr3 : IntKind.i64.wrap (6 + N + (m : Int) + i) = 6 + N + (m : Int) + i := IntWalk.i64_in _ (by omega)
        obtain ⟨hs0, hkp, hfin⟩ := held_cells hb2
        have HN := Lib.hid (hn w2.drew)
        have HKP := Lib.hid hkp
        have HST := Lib.hid hs0
        have HF := Lib.hid hfin
        clear hkp hs0 hb0 hfin hb2 hn
        go_wp2
        go_region_held3 (fun w' => w'.cell? ⟨w.heap.size, 0, none⟩ = some (.int .i64 N) ∧ w'.cell? ⟨w.heap.size, 1, none⟩ = some (.int .i64 F) ∧ w'.cell? ⟨w.heap.size, 2, none⟩ = some (.int .i64 C) ∧ w'.cell? ⟨w.heap.size, 3, none⟩ = some (.int .i64 U))
          (first | exact HST.out | exact HKP.out _ hb4)
          (first
          | (go_at_call 34; refine HN.out.mono ?_; rintro r w4 ⟨rfl, hb4⟩))
        all_goals (
          rename_i hHeld
          clear hHeld
          have hB := HF.out _ hb4
          clear hb4
          go_wp2
          go_ret
          exact ⟨by rw [HR.out]; rfl, hB⟩)
      · have HR := Lib.hid (HC.out.trans (if_neg (show ¬ (0 ≤ i ∧ i < rs) by omega)))
        have HB := Lib.hid (hb0.trans (hb2.mono (by omega)))
        have i3 : rs ≤ i := by omega
        clear hb2 hb0 hn i2
        go_wp2
        go_ret
        exact ⟨by rw [HR.out]; rfl, HB.out⟩
  · have hd : decide (okG N F C U) = false := by simpa using hok
    have hR : areaAt N F C U side i = -1 := if_neg (fun h => hok h.1)
    rw [hd] at hr
    rw [hR]
    unfold geo at *
    clear hd hok hR ha hn
    go_enter Tryz.func90, Tryz.ntmps90
    go_wp2_with fail
    refine (hr _).mono ?_
    rintro e w1 ⟨rfl, hb⟩
    have hb1 : Below w.heap.size w w1 := hb0.trans (hb.mono (by simp))
    clear hb hr hb0
    go_wp2
    go_ret
    exact ⟨rfl, hb1⟩

end Go.Proofs.YtjohgagiccndpaaGreatDoor
/-
  Contract of Ints; known.
-/
namespace Go.Proofs.YtjohgagiccndpaaGreatDoor
open Go.RowKit
set_option linter.unusedVariables false
set_option linter.unusedSimpArgs false


/-- A new block of ints is a list. -/
theorem li_new (w : World) (xs : List Int) (h : xs.length ≤ 1000) : Li (w.alloc (.cells (ivs xs).toArray 3)) (.slice (some ⟨w.heap.size, 0, none⟩) xs.length xs.length) xs := by
  refine ⟨_, _, _, rfl, rfl, Nat.le_refl _, by omega, by unfold maxLen; omega, fun _ => ⟨_, _, rfl, by simp, fun i hi => ?_⟩, fun e => by cases e⟩
  rw [World.cell?_alloc_at _ _ _ _ rfl]
  rw [Nat.zero_add]
  simp [ivs, List.getElem?_eq_getElem hi]


end Go.Proofs.YtjohgagiccndpaaGreatDoor
/-
  A geometry as an argument: opened and shut.
-/
namespace Go.Proofs.YtjohgagiccndpaaGreatDoor
open Go.ChangeShapes Go.WideShapes Go.ChangeAt Go.RowKit
set_option linter.unusedVariables false
set_option linter.unusedSimpArgs false

def geoD {H : Type} (N F C U : Int) : DataW H := .agg [.lit (.int .i64 N), .lit (.int .i64 F), .lit (.int .i64 C), .lit (.int .i64 U)]

section
variable {H : Type} {enc : TypeId × Value → H} {w : World} {base : Nat} {spare : Nat → Bool} {held : Bool}

set_option maxRecDepth 20000 in
theorem open_geo {r : Reach} {b0 : Nat} {v : Value} {d : DataW H} {ps : List MemPlace} (hval : Value.okWide Tryz.prog w r b0 23 v) (hd : DataW.Trod enc Tryz.prog w base spare held 23 v d ps) :
    ∃ N F C U, v = geo N F C U ∧ d = geoD N F C U ∧ ps = [] ∧ (Lit.int .i64 N).wf = true ∧ (Lit.int .i64 F).wf = true ∧ (Lit.int .i64 C).wf = true ∧ (Lit.int .i64 U).wf = true := by
  obtain ⟨cs, rfl, hsz⟩ := okWide_struct Tryz.underlying23 hval
  rw [show Tryz.prog.cellsOf 23 = 4 from by kernel_rfl] at hsz
  obtain ⟨l⟩ := cs
  match l, hsz with
  | [c0, c1, c2, c3], _ =>
  obtain ⟨fuel, hf⟩ := hd
  obtain ⟨xs, n, _, hx, _, hlen, hfs⟩ := DataW.trod_struct Tryz.underlying23 hf
  match xs, hlen with
  | [y0, y1, y2, y3], _ =>
  have h0 := hfs 0 _ rfl
  have h1 := hfs 1 _ rfl
  have h2 := hfs 2 _ rfl
  have h3 := hfs 3 _ rfl
  simp only [List.getElem?_cons_zero, List.getElem?_cons_succ] at h0 h1 h2 h3
  obtain ⟨N, e0, rfl, w0⟩ := DataW.trod_int Tryz.underlying3 h0
  obtain ⟨F, e1, rfl, w1⟩ := DataW.trod_int Tryz.underlying3 h1
  obtain ⟨C, e2, rfl, w2⟩ := DataW.trod_int Tryz.underlying3 h2
  obtain ⟨U, e3, rfl, w3⟩ := DataW.trod_int Tryz.underlying3 h3
  have k3 : Tryz.prog.cellsOf 3 = 1 := by kernel_rfl
  simp [Value.cells, k3] at e0 e1 e2 e3
  subst e0 e1 e2 e3
  simp only [Prod.mk.injEq] at hx
  obtain ⟨rfl, rfl⟩ := hx
  exact ⟨N, F, C, U, rfl, rfl, rfl, w0, w1, w2, w3⟩

set_option maxRecDepth 20000 in
theorem shut_geo {N F C U : Int} (w0 : (Lit.int .i64 N).wf = true) (w1 : (Lit.int .i64 F).wf = true) (w2 : (Lit.int .i64 C).wf = true) (w3 : (Lit.int .i64 U).wf = true) :
    DataW.Trod enc Tryz.prog w base spare held 23 (geo N F C U) (geoD N F C U) [] := by
  refine ⟨2, ?_⟩
  have := trod_struct_mk (enc := enc) (P := Tryz.prog) (w := w) (base := base) (spare := spare) (held := held) (n := 1) (cs := [.int .i64 N, .int .i64 F, .int .i64 C, .int .i64 U])
    (xs := [(.lit (.int .i64 N), []), (.lit (.int .i64 F), []), (.lit (.int .i64 C), []), (.lit (.int .i64 U), [])]) Tryz.underlying23 (by kernel_rfl) (by
      have k3 : Tryz.prog.cellsOf 3 = 1 := by kernel_rfl
      simp [k3, trod_int_mk 0 Tryz.underlying3 w0, trod_int_mk 0 Tryz.underlying3 w1, trod_int_mk 0 Tryz.underlying3 w2, trod_int_mk 0 Tryz.underlying3 w3])
  simpa [Value.cells, geo, geoD] using this

end
end Go.Proofs.YtjohgagiccndpaaGreatDoor

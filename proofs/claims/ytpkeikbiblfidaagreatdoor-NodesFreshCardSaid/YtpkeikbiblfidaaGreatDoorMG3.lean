/-
  Texts put together: GD, GE, GF.
-/
import Derived.Test.YtpkeikbiblfidaaGreatDoorMG2
import Derived.Deep.RegionWith
import Derived.Deep.RegionHeld3
import Derived.Deep.DrawnRows
import Derived.BigRegion
/-
  Contracts of places: isSide, location, areaSectors, area, areaStart, Data, Size, Node, Area.
-/
namespace Go.Proofs.YtpkeikbiblfidaaGreatDoor
open Go.RowKit
set_option linter.unusedVariables false
set_option linter.unusedSimpArgs false

/-- How many sectors a side's area has. -/
def sec (C U side : Int) : Int := if side = 0 then 2 * C else 2 * U
def isS (side : Int) : Prop := side = 0 ∨ side = 1
instance (side : Int) : Decidable (isS side) := by unfold isS; infer_instance
def sizeOf' (N F C U side : Int) : Int := if okG N F C U ∧ isS side then 6 + N + nodes N F C U + sec C U side else 0
def dataAt (N F C U i : Int) : Int := if okG N F C U ∧ 0 ≤ i ∧ i < N then 6 + i else -1
def nodeAt (N F C U i : Int) : Int := if okG N F C U ∧ 0 ≤ i ∧ i < nodes N F C U then 6 + N + i else -1
def areaAt (N F C U side i : Int) : Int := if okG N F C U ∧ isS side ∧ 0 ≤ i ∧ i < sec C U side then 6 + N + nodes N F C U + i else -1


set_option maxRecDepth 20000 in
set_option maxHeartbeats 400000 in
theorem location_any (s c i R : Int) (hs : 0 ≤ s ∧ s ≤ 1000) (hc : 0 ≤ c ∧ c ≤ 1000) (hR : R = if 0 ≤ i ∧ i < c then s + i else -1) (w : World) :
    Calls Tryz.prog 132 #[.int .i64 s, .int .i64 c, .int .i64 i] w fun e w' => e = .returned (.int .i64 R) ∧ w' = w := by
  have hw := within_any i 0 (c - 1)
  go_enter Tryz.func132, Tryz.ntmps132
  by_cases h : 0 ≤ i ∧ i < c
  · have hd : decide (0 ≤ i ∧ i ≤ c - 1) = true := by rw [decide_eq_true_iff]; omega
    rw [if_pos h] at hR
    have HI := Lib.hid hR
    rw [hd] at hw
    obtain ⟨h1, h2⟩ := h
    clear hR hd
    go_wp2_with fail
    refine (hw _).mono ?_
    rintro e w2 ⟨rfl, hw2⟩
    obtain rfl := hw2.symm
    clear hw hw2
    go_wp2
    go_ret
    exact ⟨by rw [HI.out]; rfl, rfl⟩
  · have hd : decide (0 ≤ i ∧ i ≤ c - 1) = false := by rw [decide_eq_false_iff_not]; omega
    rw [if_neg h] at hR
    have HI := Lib.hid hR
    rw [hd] at hw
    clear hR hd h
    go_wp2_with fail
    refine (hw _).mono ?_
    rintro e w2 ⟨rfl, hw2⟩
    obtain rfl := hw2.symm
    clear hw hw2
    go_wp2
    go_ret
    exact ⟨by rw [HI.out]; rfl, rfl⟩


/-- The reference's area, whatever the numbers. -/
def rsec (C U side : Int) : Int := if side = 0 then wrap64 (2 * C) else if side = 1 then wrap64 (2 * U) else -1

set_option maxRecDepth 20000 in
set_option maxHeartbeats 400000 in
theorem rarea_any (N F C U side : Int) (w : World) :
    Calls Tryz.prog 63 #[geo N F C U, .int .i64 side] w fun e w' => e = .returned (.int .i64 (rsec C U side)) ∧ Below w.heap.size w w' := by
  have hb := fun o => (Below.refl w.heap.size w).alloc (Nat.le_refl _) o
  have HB := Lib.hid hb
  unfold geo
  go_enter Tryz.func63, Tryz.ntmps63
  by_cases h0 : side = 0
  · subst h0
    clear hb
    go_wp2
    go_ret
    exact ⟨rfl, HB.out _⟩
  · have h0' : (side == 0) = false := by simpa using h0
    by_cases h1 : side = 1
    · subst h1
      clear hb
      go_wp2
      go_ret
      exact ⟨rfl, HB.out _⟩
    · have h1' : (side == 1) = false := by simpa using h1
      have hd : rsec C U side = -1 := by unfold rsec; rw [if_neg h0, if_neg h1]
      have HD := Lib.hid hd
      clear hb h0 h1 hd
      go_wp2
      go_ret
      exact ⟨by rw [HD.out]; rfl, HB.out _⟩

theorem held_cells {w w1 : World} {N F C U : Int} (h : Below (w.heap.size + 1) (w.alloc (gbox N F C U)) w1) :
    (w1.drew.cell? ⟨w.heap.size, 0, none⟩ = some (.int .i64 N) ∧ w1.drew.cell? ⟨w.heap.size, 1, none⟩ = some (.int .i64 F) ∧ w1.drew.cell? ⟨w.heap.size, 2, none⟩ = some (.int .i64 C) ∧ w1.drew.cell? ⟨w.heap.size, 3, none⟩ = some (.int .i64 U)) ∧
    (∀ w', Below w1.drew.heap.size w1.drew w' → w'.cell? ⟨w.heap.size, 0, none⟩ = some (.int .i64 N) ∧ w'.cell? ⟨w.heap.size, 1, none⟩ = some (.int .i64 F) ∧ w'.cell? ⟨w.heap.size, 2, none⟩ = some (.int .i64 C) ∧ w'.cell? ⟨w.heap.size, 3, none⟩ = some (.int .i64 U)) ∧
    (∀ w', Below w1.drew.heap.size w1.drew w' → Below w.heap.size w w') := by
  have hsz : w.heap.size + 1 ≤ w1.heap.size := by have := h.size; simpa using this
  have hd := h.drew
  refine ⟨gbox_cells hd, fun w' hb => gbox_cells (hd.trans (hb.mono hsz)), fun w' hb => ?_⟩
  exact ((Below.refl w.heap.size w).alloc (Nat.le_refl _) (gbox N F C U)).trans ((hd.trans (hb.mono hsz)).mono (by omega))


set_option maxRecDepth 20000 in
set_option maxHeartbeats 1000000 in
theorem data_any (N F C U i : Int) (w : World) :
    Calls Tryz.prog 88 #[geo N F C U, .int .i64 i] w fun e w' => e = .returned (.int .i64 (dataAt N F C U i)) ∧ Below w.heap.size w w' := by
  have hr := gright_any N F C U
  have hb0 := (Below.refl w.heap.size w).alloc (Nat.le_refl _) (gbox N F C U)
  by_cases hok : okG N F C U
  · have hd : decide (okG N F C U) = true := by simpa using hok
    rw [hd] at hr
    have hl := location_any 6 N i (dataAt N F C U i) (by omega) ⟨by have := hok.1; omega, by have := hok.2.1; omega⟩ (by
      unfold dataAt
      by_cases h : 0 ≤ i ∧ i < N
      · rw [if_pos ⟨hok, h⟩, if_pos h]
      · rw [if_neg (fun g => h g.2), if_neg h])
    generalize dataAt N F C U i = R at *
    unfold geo at *
    clear hd hok
    go_enter Tryz.func88, Tryz.ntmps88
    go_wp2_with fail
    refine (hr _).mono ?_
    rintro e w1 ⟨rfl, hb⟩
    have hb1 : Below (w.heap.size + 1) (w.alloc (gbox N F C U)) w1 := hb.mono (by simp)
    obtain ⟨c1, c2, c3, c4⟩ := gbox_cells hb1
    have HB := Lib.hid (hb0.trans (hb1.mono (by omega)))
    clear hb hb1 hr hb0
    go_wp2_with fail
    refine (hl _).mono ?_
    rintro e w2 ⟨rfl, hw2⟩
    obtain rfl := hw2.symm
    clear hl hw2
    go_wp2
    go_ret
    exact ⟨rfl, HB.out⟩
  · have hd : decide (okG N F C U) = false := by simpa using hok
    have hR : dataAt N F C U i = -1 := if_neg (fun h => hok h.1)
    rw [hd] at hr
    rw [hR]
    unfold geo at *
    clear hd hok hR
    go_enter Tryz.func88, Tryz.ntmps88
    go_wp2_with fail
    refine (hr _).mono ?_
    rintro e w1 ⟨rfl, hb⟩
    have hb1 : Below w.heap.size w w1 := hb0.trans (hb.mono (by simp))
    clear hb hr hb0
    go_wp2
    go_ret
    exact ⟨rfl, hb1⟩

set_option maxRecDepth 20000 in
set_option maxHeartbeats 1000000 in
theorem node_any (N F C U i : Int) (w : World) :
    Calls Tryz.prog 90 #[geo N F C U, .int .i64 i] w fun e w' => e = .returned (.int .i64 (nodeAt N F C U i)) ∧ Below w.heap.size w w' := by
  have hr := gright_any N F C U
  have hn := nodes_any N F C U
  have hnl := nodes_le N F C U
  have hb0 := (Below.refl w.heap.size w).alloc (Nat.le_refl _) (gbox N F C U)
  by_cases hok : okG N F C U
  · have hd : decide (okG N F C U) = true := by simpa using hok
    rw [hd] at hr
    have N1 := hok.1
    have N2 := hok.2.1
    have hl := location_any (6 + N) (nodes N F C U : Int) i (nodeAt N F C U i) (by omega) (by omega) (by
      unfold nodeAt
      by_cases h : 0 ≤ i ∧ i < (nodes N F C U : Int)
      · rw [if_pos ⟨hok, h⟩, if_pos h]
      · rw [if_neg (fun g => h g.2), if_neg h])
    generalize nodeAt N F C U i = R at *
    generalize nodes N F C U = m at *
    have wr1 : IntKind.i64.wrap (6 + N) = 6 + N := IntWalk.i64_in _ (by omega)
    unfold geo at *
    clear hd hok
    go_enter Tryz.func90, Tryz.ntmps90
    go_wp2_with fail
    refine (hr _).mono ?_
    rintro e w1 ⟨rfl, hb⟩
    have hb1 : Below (w.heap.size + 1) (w.alloc (gbox N F C U)) w1 := hb.mono (by simp)
    obtain ⟨hs0, hkp, hfin⟩ := held_cells hb1
    have HN := Lib.hid (hn w1.drew)
    have HL := Lib.hid hl
    have HKP := Lib.hid hkp
    have HST := Lib.hid hs0
    have HF := Lib.hid hfin
    clear hr hkp hs0 hb0 hfin hb hb1 hn hl
    go_wp2_with fail
    go_region_held3 (fun w' => w'.cell? ⟨w.heap.size, 0, none⟩ = some (.int .i64 N) ∧ w'.cell? ⟨w.heap.size, 1, none⟩ = some (.int .i64 F) ∧ w'.cell? ⟨w.heap.size, 2, none⟩ = some (.int .i64 C) ∧ w'.cell? ⟨w.heap.size, 3, none⟩ = some (.int .i64 U))
      (first | exact HST.out | exact HKP.out _ hb4)
      (first
      | (go_at_call 116; refine HN.out.mono ?_; rintro r w4 ⟨rfl, hb4⟩)
      | (go_at_call 132; refine (HL.out _).mono ?_; rintro r w5 ⟨rfl, rfl⟩))
    rename_i hHeld
    clear hHeld
    have hB := HF.out _ hb4
    clear hb4
    go_wp2
    go_ret
    exact ⟨rfl, hB⟩
  · have hd : decide (okG N F C U) = false := by simpa using hok
    have hR : nodeAt N F C U i = -1 := if_neg (fun h => hok h.1)
    rw [hd] at hr
    rw [hR]
    unfold geo at *
    clear hd hok hR
    go_enter Tryz.func90, Tryz.ntmps90
    go_wp2_with fail
    refine (hr _).mono ?_
    rintro e w1 ⟨rfl, hb⟩
    have hb1 : Below w.heap.size w w1 := hb0.trans (hb.mono (by simp))
    clear hb hr hb0
    go_wp2
    go_ret
    exact ⟨rfl, hb1⟩

end Go.Proofs.YtpkeikbiblfidaaGreatDoor
/-
  Contracts of Size and Area; the reference's Size, Data, Node, Area.
-/
namespace Go.Proofs.YtpkeikbiblfidaaGreatDoor
open Go.RowKit
set_option linter.unusedVariables false
set_option linter.unusedSimpArgs false

theorem sec_ok {N F C U side : Int} (hok : okG N F C U) : 0 ≤ sec C U side ∧ sec C U side ≤ 640 := by
  obtain ⟨_, _, _, _, h1, h2, h3, h4⟩ := hok
  unfold sec; split <;> omega
theorem rsec_ok {N F C U side : Int} (hok : okG N F C U) (hs : isS side) : rsec C U side = sec C U side := by
  obtain ⟨_, _, _, _, h1, h2, h3, h4⟩ := hok
  unfold rsec sec
  rcases hs with rfl | rfl
  · rw [if_pos rfl, if_pos rfl, IntWalk.wrap64_in _ (by omega)]
  · rw [if_neg (show ¬ (1 : Int) = 0 by omega), if_pos rfl, if_neg (show ¬ (1 : Int) = 0 by omega), IntWalk.wrap64_in _ (by omega)]
theorem rsec_no {C U side : Int} (hs : ¬ isS side) : rsec C U side = -1 := by
  unfold rsec
  rw [if_neg (fun h => hs (.inl h)), if_neg (fun h => hs (.inr h))]



end Go.Proofs.YtpkeikbiblfidaaGreatDoor
/-
  Contracts of the reference's Data, Node, Size, Area.
-/
namespace Go.Proofs.YtpkeikbiblfidaaGreatDoor
open Go.RowKit
set_option linter.unusedVariables false
set_option linter.unusedSimpArgs false

set_option maxRecDepth 20000 in
set_option maxHeartbeats 1000000 in
theorem rdata_any (N F C U i : Int) (w : World) :
    Calls Tryz.prog 17 #[geo N F C U, .int .i64 i] w fun e w' => e = .returned (.int .i64 (dataAt N F C U i)) ∧ Below w.heap.size w w' := by
  have hr := grright_any N F C U
  have hb0 := (Below.refl w.heap.size w).alloc (Nat.le_refl _) (gbox N F C U)
  by_cases hok : okG N F C U
  · have hd : decide (okG N F C U) = true := by simpa using hok
    rw [hd] at hr
    have N1 := hok.1
    have N2 := hok.2.1
    by_cases hi : 0 ≤ i ∧ i < N
    · have hR : dataAt N F C U i = 6 + i := if_pos ⟨hok, hi⟩
      rw [hR]
      obtain ⟨i1, i2⟩ := hi
      unfold geo at *
      clear hd hok hR
      go_enter Tryz.func17, Tryz.ntmps17
      go_wp2_with fail
      refine (hr _).mono ?_
      rintro e w1 ⟨rfl, hb⟩
      have hb1 : Below (w.heap.size + 1) (w.alloc (gbox N F C U)) w1 := hb.mono (by simp)
      obtain ⟨c1, c2, c3, c4⟩ := gbox_cells hb1
      have HB := Lib.hid (hb0.trans (hb1.mono (by omega)))
      clear hb hb1 hr hb0
      go_wp2
      go_ret
      exact ⟨rfl, HB.out⟩
    · have hR : dataAt N F C U i = -1 := if_neg (fun h => hi h.2)
      rw [hR]
      have hi2 : i < 0 ∨ N ≤ i := by omega
      unfold geo at *
      clear hd hok hR hi
      go_enter Tryz.func17, Tryz.ntmps17
      go_wp2_with fail
      refine (hr _).mono ?_
      rintro e w1 ⟨rfl, hb⟩
      have hb1 : Below (w.heap.size + 1) (w.alloc (gbox N F C U)) w1 := hb.mono (by simp)
      obtain ⟨c1, c2, c3, c4⟩ := gbox_cells hb1
      have HB := Lib.hid (hb0.trans (hb1.mono (by omega)))
      clear hb hb1 hr hb0
      by_cases i1 : i < 0
      · clear hi2
        go_wp2
        go_ret
        exact ⟨rfl, HB.out⟩
      · have i2 : N ≤ i := by omega
        clear hi2
        go_wp2
        go_ret
        exact ⟨rfl, HB.out⟩
  · have hd : decide (okG N F C U) = false := by simpa using hok
    have hR : dataAt N F C U i = -1 := if_neg (fun h => hok h.1)
    rw [hd] at hr
    rw [hR]
    unfold geo at *
    clear hd hok hR 
    go_enter Tryz.func17, Tryz.ntmps17
    go_wp2_with fail
    refine (hr _).mono ?_
    rintro e w1 ⟨rfl, hb⟩
    have hb1 : Below w.heap.size w w1 := hb0.trans (hb.mono (by simp))
    clear hb hr hb0
    go_wp2
    go_ret
    exact ⟨rfl, hb1⟩

set_option maxRecDepth 20000 in
set_option maxHeartbeats 1000000 in
theorem rnode_any (N F C U i : Int) (w : World) :
    Calls Tryz.prog 100 #[geo N F C U, .int .i64 i] w fun e w' => e = .returned (.int .i64 (nodeAt N F C U i)) ∧ Below w.heap.size w w' := by
  have hr := rnodes_any N F C U
  have hnl := nodes_le N F C U
  have hb0 := (Below.refl w.heap.size w).alloc (Nat.le_refl _) (gbox N F C U)
  by_cases hin : 0 ≤ i ∧ i < (nodes N F C U : Int)
  · have hok : okG N F C U := by
      by_cases h : okG N F C U
      · exact h
      · have : nodes N F C U = 0 := if_neg h
        omega
    have hR : nodeAt N F C U i = 6 + N + i := if_pos ⟨hok, hin⟩
    have N1 := hok.1
    have N2 := hok.2.1
    rw [hR]
    obtain ⟨i1, i2⟩ := hin
    generalize nodes N F C U = m at *
    unfold geo at *
    clear hok hR
    go_enter Tryz.func100, Tryz.ntmps100
    go_wp2_with fail
    refine (hr _).mono ?_
    rintro e w1 ⟨rfl, hb⟩
    have hb1 : Below (w.heap.size + 1) (w.alloc (gbox N F C U)) w1 := hb.mono (by simp)
    obtain ⟨c1, c2, c3, c4⟩ := gbox_cells hb1
    have HB := Lib.hid (hb0.trans (hb1.mono (by omega)))
    clear hb hb1 hr hb0
    go_wp2
    go_ret
    exact ⟨rfl, HB.out⟩
  · have hR : nodeAt N F C U i = -1 := if_neg (fun h => hin h.2)
    rw [hR]
    by_cases i1 : i < 0
    · unfold geo at *
      clear hr hR hin
      go_enter Tryz.func100, Tryz.ntmps100
      go_wp2
      go_ret
      exact ⟨rfl, hb0⟩
    · have i2 : (nodes N F C U : Int) ≤ i := by omega
      generalize nodes N F C U = m at *
      unfold geo at *
      clear hR hin
      go_enter Tryz.func100, Tryz.ntmps100
      go_wp2_with fail
      refine (hr _).mono ?_
      rintro e w1 ⟨rfl, hb⟩
      have HB := Lib.hid (hb0.trans (hb.mono (by simp)))
      clear hb hr hb0
      go_wp2
      go_ret
      exact ⟨rfl, HB.out⟩

set_option maxRecDepth 20000 in
set_option maxHeartbeats 1000000 in
theorem rsize_any (N F C U side : Int) (w : World) :
    Calls Tryz.prog 15 #[geo N F C U, .int .i64 side] w fun e w' => e = .returned (.int .i64 (sizeOf' N F C U side)) ∧ Below w.heap.size w w' := by
  have hr := grright_any N F C U
  have ha := rarea_any N F C U side
  have hb0 := (Below.refl w.heap.size w).alloc (Nat.le_refl _) (gbox N F C U)
  generalize hrs : rsec C U side = rs at *
  obtain ⟨R, hRR⟩ : ∃ R, sizeOf' N F C U side = R := ⟨_, rfl⟩
  rw [hRR]
  have hn := rnodes_any N F C U
  have hnl := nodes_le N F C U
  unfold geo at hr ha hn ⊢
  go_enter Tryz.func15, Tryz.ntmps15
  go_wp2_with fail
  refine (ha _).mono ?_
  rintro e w1 ⟨rfl, hb⟩
  have hb1 : Below (w.heap.size + 1) (w.alloc (gbox N F C U)) w1 := hb.mono (by simp)
  clear hb ha
  obtain ⟨c1, c2, c3, c4⟩ := gbox_cells hb1
  have hsz : w.heap.size + 1 ≤ w1.heap.size := by have := hb1.size; simpa using this
  by_cases hok : okG N F C U
  · have hd : decide (okG N F C U) = true := by simpa using hok
    rw [hd] at hr
    go_wp2_with fail
    refine (hr _).mono ?_
    rintro e w2 ⟨rfl, hb⟩
    have hb2 := hb1.trans (hb.mono hsz)
    clear hb hb1 c1 c2 c3 c4 hsz
    by_cases hs : isS side
    · have hR : R = 6 + N + (nodes N F C U : Int) + sec C U side := hRR ▸ if_pos ⟨hok, hs⟩
      have hsl := sec_ok (side := side) hok
      rw [rsec_ok hok hs] at hrs
      rw [hrs] at hR hsl
      have N1 := hok.1
      have N2 := hok.2.1
      have HR := Lib.hid hR
      clear hRR
      generalize nodes N F C U = m at *
      obtain ⟨s1, s2⟩ := hsl
      have wr1 : IntKind.i64.wrap (6 + N) = 6 + N := IntWalk.i64_in _ (by omega)
      have wr2 : IntKind.i64.wrap (6 + N + (m : Int)) = 6 + N + (m : Int) := IntWalk.i64_in _ (by omega)
      have wr3 : IntKind.i64.wrap (6 + N + (m : Int) + rs) = 6 + N + (m : Int) + rs := IntWalk.i64_in _ (by omega)
      obtain ⟨hs0, hkp, hfin⟩ := held_cells hb2
      have HN := Lib.hid (hn w2.drew)
      have HKP := Lib.hid hkp
      have HST := Lib.hid hs0
      have HF := Lib.hid hfin
      clear hr hkp hs0 hb0 hfin hb2 hn hR hrs hs hok hd
      go_wp2
      go_region_held3 (fun w' => w'.cell? ⟨w.heap.size, 0, none⟩ = some (.int .i64 N) ∧ w'.cell? ⟨w.heap.size, 1, none⟩ = some (.int .i64 F) ∧ w'.cell? ⟨w.heap.size, 2, none⟩ = some (.int .i64 C) ∧ w'.cell? ⟨w.heap.size, 3, none⟩ = some (.int .i64 U))
        (first | exact HST.out | exact HKP.out _ hb4)
        (first
        | (go_at_call 64; refine HN.out.mono ?_; rintro r w4 ⟨rfl, hb4⟩))
      all_goals (
        rename_i hHeld
        clear hHeld
        have hB := HF.out _ hb4
        clear hb4
        go_wp2
        go_ret
        exact ⟨by rw [HR.out]; rfl, hB⟩)
    · have hR : R = 0 := hRR ▸ if_neg (fun h => hs h.2)
      have HR := Lib.hid hR
      clear hRR
      rw [rsec_no hs] at hrs
      subst hrs
      have HB := Lib.hid (hb0.trans (hb2.mono (by omega)))
      clear hb2 hb0 hR hs hok hd hr hn
      go_wp2
      go_ret
      exact ⟨by rw [HR.out]; rfl, HB.out⟩
  · have hd : decide (okG N F C U) = false := by simpa using hok
    rw [hd] at hr
    have hR : R = 0 := hRR ▸ if_neg (fun h => hok h.1)
    have HR := Lib.hid hR
    clear hRR
    go_wp2_with fail
    refine (hr _).mono ?_
    rintro e w2 ⟨rfl, hb⟩
    have HB := Lib.hid (hb0.trans ((hb1.trans (hb.mono hsz)).mono (by omega)))
    clear hb hb1 hb0 hR hok hd hr hn c1 c2 c3 c4
    go_wp2
    go_ret
    exact ⟨by rw [HR.out]; rfl, HB.out⟩


end Go.Proofs.YtpkeikbiblfidaaGreatDoor

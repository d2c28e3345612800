/-
  Contracts of places: isSide, location, areaSectors, area, areaStart, Data, Size, Node, Area.
-/
import Derived.Test.YtbnmfajmiglneaaGC
import Derived.Deep.RegionWith
import Derived.Deep.RegionHeld3
import Derived.Deep.DrawnRows
import Derived.BigRegion
namespace Go.Proofs.Ytbnmfajmiglneaa
open Go.RowKit
set_option linter.unusedVariables false
set_option linter.unusedSimpArgs false

/-- How many sectors a side's area has. -/
def sec (C U side : Int) : Int := if side = 0 then 2 * C else 2 * U
def isS (side : Int) : Prop := side = 0 ∨ side = 1
instance (side : Int) : Decidable (isS side) := by unfold isS; infer_instance
def sizeOf' (N F C U side : Int) : Int := if okG N F C U ∧ isS side then 6 + N + nodes N F C U + sec C U side else 0
def dataAt (N F C U i : Int) : Int := if okG N F C U ∧ 0 ≤ i ∧ i < N then 6 + i else -1
def nodeAt (N F C U i : Int) : Int := if okG N F C U ∧ 0 ≤ i ∧ i < nodes N F C U then 6 + N + i else -1
def areaAt (N F C U side i : Int) : Int := if okG N F C U ∧ isS side ∧ 0 ≤ i ∧ i < sec C U side then 6 + N + nodes N F C U + i else -1

set_option maxHeartbeats 400000 in
theorem isSide_any (side : Int) (w : World) :
    Calls Try.prog 36 #[.int .i64 side] w fun e w' => e = .returned (.bool (decide (isS side))) ∧ w' = w := by
  go_enter Try.func36, Try.ntmps36
  by_cases h0 : side = 0
  · subst h0
    go_wp2
    go_ret
    exact ⟨rfl, rfl⟩
  · have h0' : (side == 0) = false := by simpa using h0
    by_cases h1 : side = 1
    · subst h1
      go_wp2
      go_ret
      exact ⟨rfl, rfl⟩
    · have h1' : (side == 1) = false := by simpa using h1
      have hd : decide (isS side) = false := by rw [decide_eq_false_iff_not]; unfold isS; omega
      have HD := Lib.hid hd
      clear h0 h1 hd
      go_wp2
      go_ret
      exact ⟨by rw [HD.out]; rfl, rfl⟩

set_option maxHeartbeats 400000 in
theorem location_any (s c i R : Int) (hs : 0 ≤ s ∧ s ≤ 1000) (hc : 0 ≤ c ∧ c ≤ 1000) (hR : R = if 0 ≤ i ∧ i < c then s + i else -1) (w : World) :
    Calls Try.prog 40 #[.int .i64 s, .int .i64 c, .int .i64 i] w fun e w' => e = .returned (.int .i64 R) ∧ w' = w := by
  have hw := within_any i 0 (c - 1)
  go_enter Try.func40, Try.ntmps40
  by_cases h : 0 ≤ i ∧ i < c
  · have hd : decide (0 ≤ i ∧ i ≤ c - 1) = true := by rw [decide_eq_true_iff]; omega
    rw [if_pos h] at hR
    have HI := Lib.hid hR
    rw [hd] at hw
    obtain ⟨h1, h2⟩ := h
    clear hR hd
    go_wp2_with fail
    refine (hw _).mono ?_
    rintro e w2 ⟨rfl, hw2⟩
    obtain rfl := hw2.symm
    clear hw hw2
    go_wp2
    go_ret
    exact ⟨by rw [HI.out]; rfl, rfl⟩
  · have hd : decide (0 ≤ i ∧ i ≤ c - 1) = false := by rw [decide_eq_false_iff_not]; omega
    rw [if_neg h] at hR
    have HI := Lib.hid hR
    rw [hd] at hw
    clear hR hd h
    go_wp2_with fail
    refine (hw _).mono ?_
    rintro e w2 ⟨rfl, hw2⟩
    obtain rfl := hw2.symm
    clear hw hw2
    go_wp2
    go_ret
    exact ⟨by rw [HI.out]; rfl, rfl⟩

set_option maxHeartbeats 400000 in
theorem sectors_any (N F C U side : Int) (hC : 0 ≤ C ∧ C ≤ 64) (hU : 1 ≤ U ∧ U ≤ 320) (hS : isS side) (w : World) :
    Calls Try.prog 38 #[geo N F C U, .int .i64 side] w fun e w' => e = .returned (.int .i64 (sec C U side)) ∧ Below w.heap.size w w' := by
  have hb := fun o => (Below.refl w.heap.size w).alloc (Nat.le_refl _) o
  have HB := Lib.hid hb
  unfold geo
  go_enter Try.func38, Try.ntmps38
  rcases hS with rfl | rfl
  · clear hb
    go_wp2
    go_ret
    exact ⟨rfl, HB.out _⟩
  · clear hb
    go_wp2
    go_ret
    exact ⟨rfl, HB.out _⟩

/-- The reference's area, whatever the numbers. -/
def rsec (C U side : Int) : Int := if side = 0 then wrap64 (2 * C) else if side = 1 then wrap64 (2 * U) else -1

set_option maxHeartbeats 400000 in
theorem rarea_any (N F C U side : Int) (w : World) :
    Calls Try.prog 39 #[geo N F C U, .int .i64 side] w fun e w' => e = .returned (.int .i64 (rsec C U side)) ∧ Below w.heap.size w w' := by
  have hb := fun o => (Below.refl w.heap.size w).alloc (Nat.le_refl _) o
  have HB := Lib.hid hb
  unfold geo
  go_enter Try.func39, Try.ntmps39
  by_cases h0 : side = 0
  · subst h0
    clear hb
    go_wp2
    go_ret
    exact ⟨rfl, HB.out _⟩
  · have h0' : (side == 0) = false := by simpa using h0
    by_cases h1 : side = 1
    · subst h1
      clear hb
      go_wp2
      go_ret
      exact ⟨rfl, HB.out _⟩
    · have h1' : (side == 1) = false := by simpa using h1
      have hd : rsec C U side = -1 := by unfold rsec; rw [if_neg h0, if_neg h1]
      have HD := Lib.hid hd
      clear hb h0 h1 hd
      go_wp2
      go_ret
      exact ⟨by rw [HD.out]; rfl, HB.out _⟩

theorem held_cells {w w1 : World} {N F C U : Int} (h : Below (w.heap.size + 1) (w.alloc (gbox N F C U)) w1) :
    (w1.drew.cell? ⟨w.heap.size, 0, none⟩ = some (.int .i64 N) ∧ w1.drew.cell? ⟨w.heap.size, 1, none⟩ = some (.int .i64 F) ∧ w1.drew.cell? ⟨w.heap.size, 2, none⟩ = some (.int .i64 C) ∧ w1.drew.cell? ⟨w.heap.size, 3, none⟩ = some (.int .i64 U)) ∧
    (∀ w', Below w1.drew.heap.size w1.drew w' → w'.cell? ⟨w.heap.size, 0, none⟩ = some (.int .i64 N) ∧ w'.cell? ⟨w.heap.size, 1, none⟩ = some (.int .i64 F) ∧ w'.cell? ⟨w.heap.size, 2, none⟩ = some (.int .i64 C) ∧ w'.cell? ⟨w.heap.size, 3, none⟩ = some (.int .i64 U)) ∧
    (∀ w', Below w1.drew.heap.size w1.drew w' → Below w.heap.size w w') := by
  have hsz : w.heap.size + 1 ≤ w1.heap.size := by have := h.size; simpa using this
  have hd := h.drew
  refine ⟨gbox_cells hd, fun w' hb => gbox_cells (hd.trans (hb.mono hsz)), fun w' hb => ?_⟩
  exact ((Below.refl w.heap.size w).alloc (Nat.le_refl _) (gbox N F C U)).trans ((hd.trans (hb.mono hsz)).mono (by omega))

set_option maxHeartbeats 1000000 in
theorem areaStart_any (N F C U : Int) (hN : 1 ≤ N ∧ N ≤ 128) (w : World) :
    Calls Try.prog 37 #[geo N F C U] w fun e w' => e = .returned (.int .i64 (6 + N + (nodes N F C U : Int))) ∧ Below w.heap.size w w' := by
  have hr := nodes_any N F C U
  have hn := nodes_le N F C U
  generalize nodes N F C U = m at *
  unfold geo at *
  have hb0 : Below (w.heap.size + 1) (w.alloc (gbox N F C U)) (w.alloc (gbox N F C U)) := Below.refl _ _
  obtain ⟨N1, N2⟩ := hN
  have wr1 : IntKind.i64.wrap (6 + N) = 6 + N := IntWalk.i64_in _ (by omega)
  have wr2 : IntKind.i64.wrap (6 + N + (m : Int)) = 6 + N + (m : Int) := IntWalk.i64_in _ (by omega)
  go_enter Try.func37, Try.ntmps37
  go_wp2_with fail
  change Code.wp _ _ _ _ (w.alloc (gbox N F C U))
  obtain ⟨w0, h0⟩ : ∃ w0, w0 = w.alloc (gbox N F C U) := ⟨_, rfl⟩
  rw [← h0]
  obtain ⟨hs0, hkp, hfin⟩ := held_cells hb0
  rw [← h0] at hs0 hkp hfin
  have HR := Lib.hid (hr w0.drew)
  have HKP := Lib.hid hkp
  have HST := Lib.hid hs0
  have HF := Lib.hid hfin
  clear hr hkp hs0 hb0 h0 hfin
  go_region_held3 (fun w' => w'.cell? ⟨w.heap.size, 0, none⟩ = some (.int .i64 N) ∧ w'.cell? ⟨w.heap.size, 1, none⟩ = some (.int .i64 F) ∧ w'.cell? ⟨w.heap.size, 2, none⟩ = some (.int .i64 C) ∧ w'.cell? ⟨w.heap.size, 3, none⟩ = some (.int .i64 U))
    (first | exact HST.out | exact HKP.out _ hb4)
    (first
    | (go_at_call 12; refine HR.out.mono ?_; rintro r w4 ⟨rfl, hb4⟩))
  rename_i hHeld
  clear hHeld
  have hB := HF.out _ hb4
  clear hb4
  go_wp2
  go_ret
  exact ⟨rfl, hB⟩

set_option maxHeartbeats 1000000 in
theorem data_any (N F C U i : Int) (w : World) :
    Calls Try.prog 27 #[geo N F C U, .int .i64 i] w fun e w' => e = .returned (.int .i64 (dataAt N F C U i)) ∧ Below w.heap.size w w' := by
  have hr := right_any N F C U
  have hb0 := (Below.refl w.heap.size w).alloc (Nat.le_refl _) (gbox N F C U)
  by_cases hok : okG N F C U
  · have hd : decide (okG N F C U) = true := by simpa using hok
    rw [hd] at hr
    have hl := location_any 6 N i (dataAt N F C U i) (by omega) ⟨by have := hok.1; omega, by have := hok.2.1; omega⟩ (by
      unfold dataAt
      by_cases h : 0 ≤ i ∧ i < N
      · rw [if_pos ⟨hok, h⟩, if_pos h]
      · rw [if_neg (fun g => h g.2), if_neg h])
    generalize dataAt N F C U i = R at *
    unfold geo at *
    clear hd hok
    go_enter Try.func27, Try.ntmps27
    go_wp2_with fail
    refine (hr _).mono ?_
    rintro e w1 ⟨rfl, hb⟩
    have hb1 : Below (w.heap.size + 1) (w.alloc (gbox N F C U)) w1 := hb.mono (by simp)
    obtain ⟨c1, c2, c3, c4⟩ := gbox_cells hb1
    have HB := Lib.hid (hb0.trans (hb1.mono (by omega)))
    clear hb hb1 hr hb0
    go_wp2_with fail
    refine (hl _).mono ?_
    rintro e w2 ⟨rfl, hw2⟩
    obtain rfl := hw2.symm
    clear hl hw2
    go_wp2
    go_ret
    exact ⟨rfl, HB.out⟩
  · have hd : decide (okG N F C U) = false := by simpa using hok
    have hR : dataAt N F C U i = -1 := if_neg (fun h => hok h.1)
    rw [hd] at hr
    rw [hR]
    unfold geo at *
    clear hd hok hR
    go_enter Try.func27, Try.ntmps27
    go_wp2_with fail
    refine (hr _).mono ?_
    rintro e w1 ⟨rfl, hb⟩
    have hb1 : Below w.heap.size w w1 := hb0.trans (hb.mono (by simp))
    clear hb hr hb0
    go_wp2
    go_ret
    exact ⟨rfl, hb1⟩

set_option maxHeartbeats 1000000 in
theorem node_any (N F C U i : Int) (w : World) :
    Calls Try.prog 29 #[geo N F C U, .int .i64 i] w fun e w' => e = .returned (.int .i64 (nodeAt N F C U i)) ∧ Below w.heap.size w w' := by
  have hr := right_any N F C U
  have hn := nodes_any N F C U
  have hnl := nodes_le N F C U
  have hb0 := (Below.refl w.heap.size w).alloc (Nat.le_refl _) (gbox N F C U)
  by_cases hok : okG N F C U
  · have hd : decide (okG N F C U) = true := by simpa using hok
    rw [hd] at hr
    have N1 := hok.1
    have N2 := hok.2.1
    have hl := location_any (6 + N) (nodes N F C U : Int) i (nodeAt N F C U i) (by omega) (by omega) (by
      unfold nodeAt
      by_cases h : 0 ≤ i ∧ i < (nodes N F C U : Int)
      · rw [if_pos ⟨hok, h⟩, if_pos h]
      · rw [if_neg (fun g => h g.2), if_neg h])
    generalize nodeAt N F C U i = R at *
    generalize nodes N F C U = m at *
    have wr1 : IntKind.i64.wrap (6 + N) = 6 + N := IntWalk.i64_in _ (by omega)
    unfold geo at *
    clear hd hok
    go_enter Try.func29, Try.ntmps29
    go_wp2_with fail
    refine (hr _).mono ?_
    rintro e w1 ⟨rfl, hb⟩
    have hb1 : Below (w.heap.size + 1) (w.alloc (gbox N F C U)) w1 := hb.mono (by simp)
    obtain ⟨hs0, hkp, hfin⟩ := held_cells hb1
    have HN := Lib.hid (hn w1.drew)
    have HL := Lib.hid hl
    have HKP := Lib.hid hkp
    have HST := Lib.hid hs0
    have HF := Lib.hid hfin
    clear hr hkp hs0 hb0 hfin hb hb1 hn hl
    go_wp2_with fail
    go_region_held3 (fun w' => w'.cell? ⟨w.heap.size, 0, none⟩ = some (.int .i64 N) ∧ w'.cell? ⟨w.heap.size, 1, none⟩ = some (.int .i64 F) ∧ w'.cell? ⟨w.heap.size, 2, none⟩ = some (.int .i64 C) ∧ w'.cell? ⟨w.heap.size, 3, none⟩ = some (.int .i64 U))
      (first | exact HST.out | exact HKP.out _ hb4)
      (first
      | (go_at_call 12; refine HN.out.mono ?_; rintro r w4 ⟨rfl, hb4⟩)
      | (go_at_call 40; refine (HL.out _).mono ?_; rintro r w5 ⟨rfl, rfl⟩))
    rename_i hHeld
    clear hHeld
    have hB := HF.out _ hb4
    clear hb4
    go_wp2
    go_ret
    exact ⟨rfl, hB⟩
  · have hd : decide (okG N F C U) = false := by simpa using hok
    have hR : nodeAt N F C U i = -1 := if_neg (fun h => hok h.1)
    rw [hd] at hr
    rw [hR]
    unfold geo at *
    clear hd hok hR
    go_enter Try.func29, Try.ntmps29
    go_wp2_with fail
    refine (hr _).mono ?_
    rintro e w1 ⟨rfl, hb⟩
    have hb1 : Below w.heap.size w w1 := hb0.trans (hb.mono (by simp))
    clear hb hr hb0
    go_wp2
    go_ret
    exact ⟨rfl, hb1⟩

end Go.Proofs.Ytbnmfajmiglneaa

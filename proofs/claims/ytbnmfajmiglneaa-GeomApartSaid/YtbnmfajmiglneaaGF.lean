/-
  Contracts of the reference's Data, Node, Size, Area.
-/
import Derived.Test.YtbnmfajmiglneaaGE
namespace Go.Proofs.Ytbnmfajmiglneaa
open Go.RowKit
set_option linter.unusedVariables false
set_option linter.unusedSimpArgs false

set_option maxHeartbeats 1000000 in
theorem rdata_any (N F C U i : Int) (w : World) :
    Calls Try.prog 28 #[geo N F C U, .int .i64 i] w fun e w' => e = .returned (.int .i64 (dataAt N F C U i)) ∧ Below w.heap.size w w' := by
  have hr := rright_any N F C U
  have hb0 := (Below.refl w.heap.size w).alloc (Nat.le_refl _) (gbox N F C U)
  by_cases hok : okG N F C U
  · have hd : decide (okG N F C U) = true := by simpa using hok
    rw [hd] at hr
    have N1 := hok.1
    have N2 := hok.2.1
    by_cases hi : 0 ≤ i ∧ i < N
    · have hR : dataAt N F C U i = 6 + i := if_pos ⟨hok, hi⟩
      rw [hR]
      obtain ⟨i1, i2⟩ := hi
      unfold geo at *
      clear hd hok hR
      go_enter Try.func28, Try.ntmps28
      go_wp2_with fail
      refine (hr _).mono ?_
      rintro e w1 ⟨rfl, hb⟩
      have hb1 : Below (w.heap.size + 1) (w.alloc (gbox N F C U)) w1 := hb.mono (by simp)
      obtain ⟨c1, c2, c3, c4⟩ := gbox_cells hb1
      have HB := Lib.hid (hb0.trans (hb1.mono (by omega)))
      clear hb hb1 hr hb0
      go_wp2
      go_ret
      exact ⟨rfl, HB.out⟩
    · have hR : dataAt N F C U i = -1 := if_neg (fun h => hi h.2)
      rw [hR]
      have hi2 : i < 0 ∨ N ≤ i := by omega
      unfold geo at *
      clear hd hok hR hi
      go_enter Try.func28, Try.ntmps28
      go_wp2_with fail
      refine (hr _).mono ?_
      rintro e w1 ⟨rfl, hb⟩
      have hb1 : Below (w.heap.size + 1) (w.alloc (gbox N F C U)) w1 := hb.mono (by simp)
      obtain ⟨c1, c2, c3, c4⟩ := gbox_cells hb1
      have HB := Lib.hid (hb0.trans (hb1.mono (by omega)))
      clear hb hb1 hr hb0
      by_cases i1 : i < 0
      · clear hi2
        go_wp2
        go_ret
        exact ⟨rfl, HB.out⟩
      · have i2 : N ≤ i := by omega
        clear hi2
        go_wp2
        go_ret
        exact ⟨rfl, HB.out⟩
  · have hd : decide (okG N F C U) = false := by simpa using hok
    have hR : dataAt N F C U i = -1 := if_neg (fun h => hok h.1)
    rw [hd] at hr
    rw [hR]
    unfold geo at *
    clear hd hok hR 
    go_enter Try.func28, Try.ntmps28
    go_wp2_with fail
    refine (hr _).mono ?_
    rintro e w1 ⟨rfl, hb⟩
    have hb1 : Below w.heap.size w w1 := hb0.trans (hb.mono (by simp))
    clear hb hr hb0
    go_wp2
    go_ret
    exact ⟨rfl, hb1⟩

set_option maxHeartbeats 1000000 in
theorem rnode_any (N F C U i : Int) (w : World) :
    Calls Try.prog 30 #[geo N F C U, .int .i64 i] w fun e w' => e = .returned (.int .i64 (nodeAt N F C U i)) ∧ Below w.heap.size w w' := by
  have hr := rnodes_any N F C U
  have hnl := nodes_le N F C U
  have hb0 := (Below.refl w.heap.size w).alloc (Nat.le_refl _) (gbox N F C U)
  by_cases hin : 0 ≤ i ∧ i < (nodes N F C U : Int)
  · have hok : okG N F C U := by
      by_cases h : okG N F C U
      · exact h
      · have : nodes N F C U = 0 := if_neg h
        omega
    have hR : nodeAt N F C U i = 6 + N + i := if_pos ⟨hok, hin⟩
    have N1 := hok.1
    have N2 := hok.2.1
    rw [hR]
    obtain ⟨i1, i2⟩ := hin
    generalize nodes N F C U = m at *
    unfold geo at *
    clear hok hR
    go_enter Try.func30, Try.ntmps30
    go_wp2_with fail
    refine (hr _).mono ?_
    rintro e w1 ⟨rfl, hb⟩
    have hb1 : Below (w.heap.size + 1) (w.alloc (gbox N F C U)) w1 := hb.mono (by simp)
    obtain ⟨c1, c2, c3, c4⟩ := gbox_cells hb1
    have HB := Lib.hid (hb0.trans (hb1.mono (by omega)))
    clear hb hb1 hr hb0
    go_wp2
    go_ret
    exact ⟨rfl, HB.out⟩
  · have hR : nodeAt N F C U i = -1 := if_neg (fun h => hin h.2)
    rw [hR]
    by_cases i1 : i < 0
    · unfold geo at *
      clear hr hR hin
      go_enter Try.func30, Try.ntmps30
      go_wp2
      go_ret
      exact ⟨rfl, hb0⟩
    · have i2 : (nodes N F C U : Int) ≤ i := by omega
      generalize nodes N F C U = m at *
      unfold geo at *
      clear hR hin
      go_enter Try.func30, Try.ntmps30
      go_wp2_with fail
      refine (hr _).mono ?_
      rintro e w1 ⟨rfl, hb⟩
      have HB := Lib.hid (hb0.trans (hb.mono (by simp)))
      clear hb hr hb0
      go_wp2
      go_ret
      exact ⟨rfl, HB.out⟩

set_option maxHeartbeats 1000000 in
theorem rsize_any (N F C U side : Int) (w : World) :
    Calls Try.prog 26 #[geo N F C U, .int .i64 side] w fun e w' => e = .returned (.int .i64 (sizeOf' N F C U side)) ∧ Below w.heap.size w w' := by
  have hr := rright_any N F C U
  have ha := rarea_any N F C U side
  have hb0 := (Below.refl w.heap.size w).alloc (Nat.le_refl _) (gbox N F C U)
  generalize hrs : rsec C U side = rs at *
  obtain ⟨R, hRR⟩ : ∃ R, sizeOf' N F C U side = R := ⟨_, rfl⟩
  rw [hRR]
  have hn := rnodes_any N F C U
  have hnl := nodes_le N F C U
  unfold geo at hr ha hn ⊢
  go_enter Try.func26, Try.ntmps26
  go_wp2_with fail
  refine (ha _).mono ?_
  rintro e w1 ⟨rfl, hb⟩
  have hb1 : Below (w.heap.size + 1) (w.alloc (gbox N F C U)) w1 := hb.mono (by simp)
  clear hb ha
  obtain ⟨c1, c2, c3, c4⟩ := gbox_cells hb1
  have hsz : w.heap.size + 1 ≤ w1.heap.size := by have := hb1.size; simpa using this
  by_cases hok : okG N F C U
  · have hd : decide (okG N F C U) = true := by simpa using hok
    rw [hd] at hr
    go_wp2_with fail
    refine (hr _).mono ?_
    rintro e w2 ⟨rfl, hb⟩
    have hb2 := hb1.trans (hb.mono hsz)
    clear hb hb1 c1 c2 c3 c4 hsz
    by_cases hs : isS side
    · have hR : R = 6 + N + (nodes N F C U : Int) + sec C U side := hRR ▸ if_pos ⟨hok, hs⟩
      have hsl := sec_ok (side := side) hok
      rw [rsec_ok hok hs] at hrs
      rw [hrs] at hR hsl
      have N1 := hok.1
      have N2 := hok.2.1
      have HR := Lib.hid hR
      clear hRR
      generalize nodes N F C U = m at *
      obtain ⟨s1, s2⟩ := hsl
      have wr1 : IntKind.i64.wrap (6 + N) = 6 + N := IntWalk.i64_in _ (by omega)
      have wr2 : IntKind.i64.wrap (6 + N + (m : Int)) = 6 + N + (m : Int) := IntWalk.i64_in _ (by omega)
      have wr3 : IntKind.i64.wrap (6 + N + (m : Int) + rs) = 6 + N + (m : Int) + rs := IntWalk.i64_in _ (by omega)
      obtain ⟨hs0, hkp, hfin⟩ := held_cells hb2
      have HN := Lib.hid (hn w2.drew)
      have HKP := Lib.hid hkp
      have HST := Lib.hid hs0
      have HF := Lib.hid hfin
      clear hr hkp hs0 hb0 hfin hb2 hn hR hrs hs hok hd
      go_wp2
      go_region_held3 (fun w' => w'.cell? ⟨w.heap.size, 0, none⟩ = some (.int .i64 N) ∧ w'.cell? ⟨w.heap.size, 1, none⟩ = some (.int .i64 F) ∧ w'.cell? ⟨w.heap.size, 2, none⟩ = some (.int .i64 C) ∧ w'.cell? ⟨w.heap.size, 3, none⟩ = some (.int .i64 U))
        (first | exact HST.out | exact HKP.out _ hb4)
        (first
        | (go_at_call 13; refine HN.out.mono ?_; rintro r w4 ⟨rfl, hb4⟩))
      all_goals (
        rename_i hHeld
        clear hHeld
        have hB := HF.out _ hb4
        clear hb4
        go_wp2
        go_ret
        exact ⟨by rw [HR.out]; rfl, hB⟩)
    · have hR : R = 0 := hRR ▸ if_neg (fun h => hs h.2)
      have HR := Lib.hid hR
      clear hRR
      rw [rsec_no hs] at hrs
      subst hrs
      have HB := Lib.hid (hb0.trans (hb2.mono (by omega)))
      clear hb2 hb0 hR hs hok hd hr hn
      go_wp2
      go_ret
      exact ⟨by rw [HR.out]; rfl, HB.out⟩
  · have hd : decide (okG N F C U) = false := by simpa using hok
    rw [hd] at hr
    have hR : R = 0 := hRR ▸ if_neg (fun h => hok h.1)
    have HR := Lib.hid hR
    clear hRR
    go_wp2_with fail
    refine (hr _).mono ?_
    rintro e w2 ⟨rfl, hb⟩
    have HB := Lib.hid (hb0.trans ((hb1.trans (hb.mono hsz)).mono (by omega)))
    clear hb hb1 hb0 hR hok hd hr hn c1 c2 c3 c4
    go_wp2
    go_ret
    exact ⟨by rw [HR.out]; rfl, HB.out⟩

set_option maxHeartbeats 1000000 in
theorem rarea2_any (N F C U side i : Int) (w : World) :
    Calls Try.prog 32 #[geo N F C U, .int .i64 side, .int .i64 i] w fun e w' => e = .returned (.int .i64 (areaAt N F C U side i)) ∧ Below w.heap.size w w' := by
  have hr := rright_any N F C U
  have ha := rarea_any N F C U side
  have hb0 := (Below.refl w.heap.size w).alloc (Nat.le_refl _) (gbox N F C U)
  have hn := rnodes_any N F C U
  have hnl := nodes_le N F C U
  by_cases hok : okG N F C U
  · have hd : decide (okG N F C U) = true := by simpa using hok
    rw [hd] at hr
    have N1 := hok.1
    have N2 := hok.2.1
    obtain ⟨rs, hrs, hrl, hcase⟩ : ∃ rs, rsec C U side = rs ∧ rs ≤ 640 ∧ areaAt N F C U side i = if 0 ≤ i ∧ i < rs then 6 + N + (nodes N F C U : Int) + i else -1 := by
      by_cases hs : isS side
      · refine ⟨sec C U side, rsec_ok hok hs, (sec_ok hok).2, ?_⟩
        unfold areaAt
        by_cases h : 0 ≤ i ∧ i < sec C U side
        · rw [if_pos ⟨hok, hs, h⟩, if_pos h]
        · rw [if_neg (fun g => h g.2.2), if_neg h]
      · refine ⟨-1, rsec_no hs, by omega, ?_⟩
        unfold areaAt
        rw [if_neg (fun g => hs g.2.1), if_neg (by omega)]
    rw [hrs] at ha
    generalize areaAt N F C U side i = R at *
    generalize nodes N F C U = m at *
    unfold geo at hr ha hn ⊢
    have HC := Lib.hid hcase
    clear hcase hrs hok hd
    go_enter Try.func32, Try.ntmps32
    go_wp2_with fail
    refine (hr _).mono ?_
    rintro e w1 ⟨rfl, hb⟩
    have hb1 : Below (w.heap.size + 1) (w.alloc (gbox N F C U)) w1 := hb.mono (by simp)
    have hsz : w.heap.size + 1 ≤ w1.heap.size := by have := hb1.size; simpa using this
    clear hb hr
    obtain ⟨c1, c2, c3, c4⟩ := gbox_cells hb1
    by_cases i1 : i < 0
    · have HR := Lib.hid (HC.out.trans (if_neg (show ¬ (0 ≤ i ∧ i < rs) by omega)))
      have HB := Lib.hid (hb0.trans (hb1.mono (by omega)))
      clear hb1 hb0 ha hn
      go_wp2
      go_ret
      exact ⟨by rw [HR.out]; rfl, HB.out⟩
    · have HB1 := Lib.hid hb1
      clear hb1
      go_wp2_with fail
      refine (ha _).mono ?_
      rintro e w2 ⟨rfl, hb⟩
      have hb2 := HB1.out.trans (hb.mono hsz)
      clear hb HB1 c1 c2 c3 c4 hsz ha
      by_cases i2 : i < rs
      · have HR := Lib.hid (HC.out.trans (if_pos (show 0 ≤ i ∧ i < rs by omega)))
        have wr1 : IntKind.i64.wrap (6 + N) = 6 + N := IntWalk.i64_in _ (by omega)
        have wr2 : IntKind.i64.wrap (6 + N + (m : Int)) = 6 + N + (m : Int) := IntWalk.i64_in _ (by omega)
        have wr3 : IntKind.i64.wrap (6 + N + (m : Int) + i) = 6 + N + (m : Int) + i := IntWalk.i64_in _ (by omega)
        obtain ⟨hs0, hkp, hfin⟩ := held_cells hb2
        have HN := Lib.hid (hn w2.drew)
        have HKP := Lib.hid hkp
        have HST := Lib.hid hs0
        have HF := Lib.hid hfin
        clear hkp hs0 hb0 hfin hb2 hn
        go_wp2
        go_region_held3 (fun w' => w'.cell? ⟨w.heap.size, 0, none⟩ = some (.int .i64 N) ∧ w'.cell? ⟨w.heap.size, 1, none⟩ = some (.int .i64 F) ∧ w'.cell? ⟨w.heap.size, 2, none⟩ = some (.int .i64 C) ∧ w'.cell? ⟨w.heap.size, 3, none⟩ = some (.int .i64 U))
          (first | exact HST.out | exact HKP.out _ hb4)
          (first
          | (go_at_call 13; refine HN.out.mono ?_; rintro r w4 ⟨rfl, hb4⟩))
        all_goals (
          rename_i hHeld
          clear hHeld
          have hB := HF.out _ hb4
          clear hb4
          go_wp2
          go_ret
          exact ⟨by rw [HR.out]; rfl, hB⟩)
      · have HR := Lib.hid (HC.out.trans (if_neg (show ¬ (0 ≤ i ∧ i < rs) by omega)))
        have HB := Lib.hid (hb0.trans (hb2.mono (by omega)))
        have i3 : rs ≤ i := by omega
        clear hb2 hb0 hn i2
        go_wp2
        go_ret
        exact ⟨by rw [HR.out]; rfl, HB.out⟩
  · have hd : decide (okG N F C U) = false := by simpa using hok
    have hR : areaAt N F C U side i = -1 := if_neg (fun h => hok h.1)
    rw [hd] at hr
    rw [hR]
    unfold geo at *
    clear hd hok hR ha hn
    go_enter Try.func32, Try.ntmps32
    go_wp2_with fail
    refine (hr _).mono ?_
    rintro e w1 ⟨rfl, hb⟩
    have hb1 : Below w.heap.size w w1 := hb0.trans (hb.mono (by simp))
    clear hb hr hb0
    go_wp2
    go_ret
    exact ⟨rfl, hb1⟩

end Go.Proofs.Ytbnmfajmiglneaa

/-
  The walk of GeomFamily.
-/
import Derived.Test.YtbnmfajmiglneaaGK
namespace Go.Proofs.Ytbnmfajmiglneaa
open Go.RowKit
set_option linter.unusedVariables false
set_option linter.unusedSimpArgs false

theorem gb_of_below {w w' : World} (h : Below w.heap.size w w') : w.grownBy w' none := ⟨h.os, h.tape, h.output, h.size, fun k hk _ => h.block k hk⟩

set_option maxRecDepth 20000 in
set_option maxHeartbeats 4000000 in
theorem family_walk (N F C U : Int) (w : World) :
    Calls Try.prog 6 #[geo N F C U] w fun e w' => e = .returned (.bool true) ∧ Below w.heap.size w w' := by
  have hr := right_any N F C U
  have hkn := known_any
  have hb0 := (Below.refl w.heap.size w).alloc (Nat.le_refl _) (gbox N F C U)
  by_cases hok : okG N F C U
  · have hd : decide (okG N F C U) = true := by simpa using hok
    rw [hd] at hr
    obtain ⟨n, f, rfl, rfl, ho⟩ := ok_of hok
    have hnd := nodes_any n f C U
    rw [show nodes n f C U = S n f (H n f + 1) from if_pos hok] at hnd
    have hM8 := S_le ho
    have hMn := S_pos ho
    obtain ⟨M, hM⟩ : ∃ M, M = S n f (H n f + 1) := ⟨_, rfl⟩
    rw [← hM] at hnd hM8 hMn
    have n1 := ho.n1
    have HOK := Lib.hid hok
    have HM := Lib.hid hM
    unfold geo at *
    clear hd hok hM
    go_enter Try.func6, Try.ntmps6
    go_wp2_with fail
    refine (hr _).mono ?_
    rintro e w1 ⟨rfl, hb⟩
    have hB1 : Below (w.heap.size + 1) (w.alloc (gbox n f C U)) w1 := hb.mono (by simp)
    have hz1 : w.heap.size + 1 ≤ w1.heap.size := by have := hB1.size; simpa using this
    clear hb hr
    obtain ⟨c1, c2, c3, c4⟩ := gbox_cells hB1
    go_wp2_with fail
    refine (hnd _).mono ?_
    rintro e w2 ⟨rfl, hb⟩
    have hB2 := hB1.trans (hb.mono hz1)
    have hz2 : w.heap.size + 1 ≤ w2.heap.size := Nat.le_trans hz1 hb.size
    clear hb hnd c1 c2 c3 c4 hB1 hz1
    have hmk := bmake M (by omega)
    have hown0 := bowns w2 M (by omega)
    rw [HM.out, ← seen_start n f, ← HM.out] at hown0
    have hB3 : Below w2.heap.size w2 (w2.alloc (.cells (madeCells #[.bool false] M) 4)) := (Below.refl _ _).alloc (Nat.le_refl _) _
    go_wp2
    go_loopw [5] (fun y wr => ∃ k : Nat, k ≤ M ∧ y = .int .i64 (k : Int) ∧ wr.ownsRow w2.heap.size 4 1 (.slice (some ⟨w2.heap.size, 0, none⟩) M M) M (blv (seen n f k 0)) ∧ Below w2.heap.size w2 wr) (fun y _ => M - (intOf y).toNat)
    case atStart => exact ⟨0, by omega, rfl, hown0, hB3⟩
    case round =>
      obtain ⟨k, hk9, rfl, hown, hB⟩ := hrel
      have hzr := (hown.lt _ rfl).2
      have hBw : Below (w.heap.size + 1) (w.alloc (gbox n f C U)) wr := hB2.trans (hB.mono hz2)
      by_cases hlt : k < M
      · have hkS : k < S n f (H n f + 1) := by rw [← HM.out]; exact hlt
        have hch := children_any n f C U (k : Int)
        rw [show children n f C U (k : Int) = ch n f k from if_pos ⟨HOK.out, by omega, by show (k : Int) < ((S n f (H n f + 1) : Nat) : Int); omega⟩] at hch
        unfold geo at hch
        have HLE := Lib.hid (chN_le ho k)
        have HZ := Lib.hid (chN_zero ho hkS)
        have HC := Lib.hid (fun i => child (i := i) ho hkS)
        have HS := Lib.hid (fun i => seen_set (i := i) ho hkS)
        have HW := Lib.hid (fun i => seen_new (i := i) ho hkS)
        have HX := Lib.hid (seen_next ho hkS)
        have hlen : (ch n f k).length = chN n f k := by simp [ch]
        have HCM := Lib.hid (fun i => @ch_mem n f k i)
        obtain ⟨c1, c2, c3, c4⟩ := gbox_cells hBw
        have HO := Lib.hid hown
        have HB := Lib.hid hB
        clear hkS hown hB hBw
        go_wp2_with fail
        refine (hch _).mono ?_
        rintro e w3 ⟨⟨v, rfl, a, m, cp, rfl, hri, hfr⟩, hb⟩
        have hown3 := HO.out.kept (gb_of_below hb) (.inr (by simp [Value.ownBlock]))
        have hB3 := HB.out.trans (hb.mono HB.out.size)
        have hm : m = chN n f k := by rw [← hlen]; exact hri.len.symm
        have hmf : m ≤ f := by have := HLE.out; omega
        have hf4 := ho.f2
        have hm0 : m = 0 ↔ k < n := by rw [hm]; exact HZ.out
        have hfr' : ∀ b off, a = some ⟨b, off, none⟩ → w2.heap.size < b := fun b off e => Nat.lt_of_lt_of_le hzr (hfr b off e)
        have HFR := Lib.hid hfr'
        have hBw : Below (w.heap.size + 1) (w.alloc (gbox n f C U)) w3 := hB2.trans (hB3.mono hz2)
        clear hb HO HB hfr hch c1 c2 c3 c4 hlen hfr' HLE HZ hzr
        obtain ⟨c1, c2, c3, c4⟩ := gbox_cells hBw
        obtain ⟨B, hB1, hB2'⟩ : ∃ B : Bool, ((m : Int) == 0) = B ∧ decide ((k : Int) < (n : Int)) = B := by
          by_cases h : k < n
          · exact ⟨true, by rw [beq_iff_eq]; omega, by rw [decide_eq_true_iff]; omega⟩
          · exact ⟨false, by rw [beq_eq_false_iff_ne]; omega, by rw [decide_eq_false_iff_not]; omega⟩
        have hB2'' : decide (k < n) = B := by rw [← hB2']; simp
        have HMM := Lib.hid hm
        clear hm0 hm hBw
        go_wp2
        simp only [show decide (f < m) = false from decide_eq_false (by omega), Bool.false_or, Bool.or_false]
        have hcm := HCM.out
        clear hB1 hB2' hB2''
        go_loopw [7] (fun y w' => ∃ i : Nat, i ≤ m ∧ y = .int .i64 (i : Int) ∧ w'.ownsRow w2.heap.size 4 1 (.slice (some ⟨w2.heap.size, 0, none⟩) M M) M (blv (seen n f k i)) ∧ Ri w' a m cp (ch n f k) ∧ Below w2.heap.size w2 w') (fun y _ => m - (intOf y).toNat)
        case atStart => exact ⟨0, by omega, rfl, hown3, hri, hB3⟩
        case round =>
          obtain ⟨i, hi9, rfl, hown, hri, hB⟩ := hrel
          by_cases hltm : i < m
          · have hic : i < chN n f k := by rw [← HMM.out]; exact hltm
            obtain ⟨z1, z2, z3⟩ := HC.out i hic
            have hnew := HW.out i hic
            have hset := HS.out i hic
            obtain ⟨b, off, rfl, hbl, hc⟩ := hri.at0 (by omega)
            have hci := hc i hltm
            have hat := (HCM.out i (by rw [hri.len]; exact hltm)).1
            rw [hat] at hci
            have hgb : w2.heap.size < b := HFR.out b off rfl
            have hpar := parent_any n f C U ((chA n f k + i : Nat) : Int)
            rw [show parent n f C U ((chA n f k + i : Nat) : Int) = par n f (chA n f k + i) from if_pos ⟨HOK.out, by omega, by show ((chA n f k + i : Nat) : Int) < ((S n f (H n f + 1) : Nat) : Int); omega⟩, z3] at hpar
            rw [← HM.out] at z2
            unfold geo at hpar
            generalize chA n f k + i = z at *
            have hBw : Below (w.heap.size + 1) (w.alloc (gbox n f C U)) wr := hB2.trans (hB.mono hz2)
            obtain ⟨c1, c2, c3, c4⟩ := gbox_cells hBw
            have y1 : (z : Int) < (k : Int) := by omega
            have y2 : (z : Int) < (M : Int) := by omega
            have y3 : (0 : Int) ≤ (z : Int) := by omega
            have y4 : (0 : Int) ≤ (i : Int) := by omega
            have y5 : (i : Int) < (m : Int) := by omega
            have y6 : ¬ (k ≤ z) := by omega
            have HO := Lib.hid hown
            have HB := Lib.hid hB
            have HRI := Lib.hid hri
            have HNW := Lib.hid hnew
            have HST := Lib.hid hset
            clear hown hB hri hnew hset hc hBw hat hic z3
            go_wp2_with fail
            refine (hpar _).mono ?_
            rintro e w4 ⟨rfl, hb⟩
            have hown4 := HO.out.kept (gb_of_below hb) (.inr (by simp [Value.ownBlock]))
            have hB4 := HB.out.trans (hb.mono HB.out.size)
            have hri4 := HRI.out.later hb
            have hcell := hown4.cellAt z (by omega)
            rw [blv_at _ z (by rw [seen_length, ← HM.out]; exact z2), HNW.out] at hcell
            have hfrz := hown4.frozenAt z
            have hstd := hown4.stored z (.bool true)
            rw [blv_set, HST.out] at hstd
            have hstd1 := hstd.1
            have hB5 : Below w2.heap.size w2 (w4.setCell ⟨w2.heap.size, z, none⟩ (.bool true)) := hB4.setCell (Nat.le_refl _) _
            have hri5 : Ri (w4.setCell ⟨w2.heap.size, z, none⟩ (.bool true)) (some ⟨b, off, none⟩) m cp (ch n f k) := hri4.gb hstd.2 (fun b' off' e h => by
              simp only [Option.some.injEq, Addr.mk.injEq] at e h
              omega)
            have HO5 := Lib.hid hstd1
            have HB5 := Lib.hid hB5
            have HR5 := Lib.hid hri5
            clear hb HO HB HRI hown4 hB4 hri4 hstd hstd1 hB5 hri5 c1 c2 c3 c4 hpar HNW HST
            go_wp2
            go_roundw
            case rel => exact ⟨i + 1, by omega, by go_num, HO5.out, HR5.out, HB5.out⟩
            case measure => simp [intOf]; omega
          · obtain rfl : i = m := by omega
            rw [HMM.out, HX.out] at hown
            have HO := Lib.hid hown
            have HB := Lib.hid hB
            clear hown hB hri HC HS HW HX HMM HCM HFR
            go_wp2
            go_roundw
            case rel => exact ⟨k + 1, by omega, by go_num, HO.out, HB.out⟩
            case measure => simp [intOf]; omega
      · obtain rfl : k = M := by omega
        have hsa : ∀ j, j + 1 < k → (seen n f k 0)[j]?.getD false = true := fun j hj => by
          have := seen_all (k := j) ho (by rw [← HM.out]; exact hj)
          rwa [← HM.out] at this
        have hsl : (seen n f k 0).length = k := by rw [seen_length, ← HM.out]
        have HSA := Lib.hid hsa
        have HSL := Lib.hid hsl
        have HBW := Lib.hid hBw
        clear hB hB2 hB3 hmk hown0 hsa hsl hBw
        go_wp2
        go_loopw [9] (fun y w' => ∃ j : Nat, j ≤ k ∧ y = .int .i64 (j : Int) ∧ w' = wr) (fun y _ => k - (intOf y).toNat)
        case atStart => exact ⟨0, by omega, rfl, rfl⟩
        case round =>
          obtain ⟨j, hj9, rfl, hw⟩ := hrel
          obtain rfl := hw.symm
          clear hw
          by_cases hlt2 : j + 1 < k
          · have hcell := hown.cellAt j (by omega)
            rw [blv_at _ j (by rw [HSL.out]; omega), HSA.out j hlt2] at hcell
            have y1 : (0 : Int) ≤ (j : Int) := by omega
            have y2 : (j : Int) < (k : Int) := by omega
            have y3 : (j : Int) + 1 < (k : Int) := by omega
            have HO := Lib.hid hown
            clear hown
            go_wp2
            go_roundw
            case rel => exact ⟨j + 1, by omega, by go_num, by first | rfl | trivial⟩
            case measure => simp [intOf]; omega
          · have y3 : ¬ ((j : Int) + 1 < (k : Int)) := by omega
            clear hown HSA HSL hlt hlt2
            go_wp2
            go_loopw [10] (fun y w' => ∃ i : Nat, i ≤ n ∧ y = .int .i64 (i : Int) ∧ Below (w.heap.size + 1) (w.alloc (gbox n f C U)) w') (fun y _ => n - (intOf y).toNat)
            case atStart => exact ⟨0, by omega, rfl, HBW.out⟩
            case round =>
              obtain ⟨i, hi9, rfl, hB⟩ := hrel
              obtain ⟨c1, c2, c3, c4⟩ := gbox_cells hB
              have hsz : w.heap.size + 1 ≤ wr.heap.size := by have := hB.size; simpa using this
              by_cases hlt2 : i < n
              · have hpth := path_any n f C U (i : Int)
                rw [show path n f C U (i : Int) = pl n f i (H n f + 1) from if_pos ⟨HOK.out, by omega, by omega⟩] at hpth
                have hpl : ∀ t, t ≤ H n f → (pl n f i (H n f + 1))[t]?.getD 0 = (pth n f i t : Int) := fun t ht => by
                  simp [pl, List.getElem?_map, List.getElem?_range (show t < H n f + 1 by omega)]
                have hp0 := hpl 0 (by omega)
                have hp1 := hpl (H n f) (by omega)
                rw [path_ends ho hlt2, ← HM.out] at hp1
                have hp00 : pth n f i 0 = i := rfl
                rw [hp00] at hp0
                have hln := pl_length n f i (H n f + 1)
                have hhe := height_any n f C U
                rw [show height n f C U = H n f from if_pos HOK.out] at hhe
                have hro := root_any n f C U
                rw [show nodes n f C U = S n f (H n f + 1) from if_pos HOK.out, ← HM.out] at hro
                have hH7 := (H_spec ho).2.2
                unfold geo at hpth hhe hro
                generalize pl n f i (H n f + 1) = PL at *
                generalize k - 1 = r at hp1 hro
                generalize hHH : H n f = h at *
                have HHH := Lib.hid hHH
                clear hHH hpl hp00
                have HB := Lib.hid hB
                clear hB
                go_wp2_with fail
                refine (hpth _).mono ?_
                rintro e w5 ⟨⟨v, rfl, a, m, cp, rfl, hri, -⟩, hb⟩
                obtain rfl : m = h + 1 := by rw [← hln]; exact hri.len.symm
                have hB5 := HB.out.trans (hb.mono hsz)
                obtain ⟨b, off, rfl, hbl, hc⟩ := hri.at0 (by omega)
                have k0 := hc 0 (by omega)
                have k1 := hc h (by omega)
                rw [hp0, Nat.add_zero] at k0
                rw [hp1] at k1
                obtain ⟨hs0, hkp, hfin⟩ := held_cells hB5
                have hkp2 : ∀ w', Below w5.drew.heap.size w5.drew w' → w'.cell? ⟨w.heap.size, 0, none⟩ = some (.int .i64 (n : Int)) ∧ w'.cell? ⟨w.heap.size, 1, none⟩ = some (.int .i64 (f : Int)) ∧ w'.cell? ⟨w.heap.size, 2, none⟩ = some (.int .i64 C) ∧ w'.cell? ⟨w.heap.size, 3, none⟩ = some (.int .i64 U) ∧ w'.cell? ⟨b, off, none⟩ = some (.int .i64 (i : Int)) ∧ w'.cell? ⟨b, off + h, none⟩ = some (.int .i64 (r : Int)) := fun w' hb' => ⟨(hkp w' hb').1, (hkp w' hb').2.1, (hkp w' hb').2.2.1, (hkp w' hb').2.2.2, by rw [hb'.cell (by exact hbl)]; exact k0, by rw [hb'.cell (by exact hbl)]; exact k1⟩
                have hbk : ∀ w', Below w5.drew.heap.size w5.drew w' → Below (w.heap.size + 1) (w.alloc (gbox n f C U)) w' := fun w' hb' => hB5.drew.trans (hb'.mono (by have := hB5.size; simpa using this))
                have HKP := Lib.hid hkp2
                have HBK := Lib.hid hbk
                have HHE := Lib.hid hhe
                have HRO := Lib.hid hro
                have hG : Below w5.drew.heap.size w5.drew w5.drew := Below.refl _ _
                clear hb HB hri hB5 hc k0 k1 hs0 hkp hfin hkp2 hbk hhe hro hpth hp0 hp1 hln c1 c2 c3 c4
                have wr1 : IntKind.i64.wrap ((h : Int) + 1) = (h : Int) + 1 := IntWalk.i64_in _ (by omega)
                have wr2 : IntKind.i64.wrap (h : Int) = (h : Int) := IntWalk.i64_in _ (by omega)
                have y1 : (0 : Int) < (h : Int) + 1 := by omega
                have y2 : (h : Int) < (h : Int) + 1 := by omega
                have y4 : (0 : Int) ≤ (h : Int) := by omega
                go_wp2_with fail
                go_region_held3 (fun w' => w'.cell? ⟨w.heap.size, 0, none⟩ = some (.int .i64 (n : Int)) ∧ w'.cell? ⟨w.heap.size, 1, none⟩ = some (.int .i64 (f : Int)) ∧ w'.cell? ⟨w.heap.size, 2, none⟩ = some (.int .i64 C) ∧ w'.cell? ⟨w.heap.size, 3, none⟩ = some (.int .i64 U) ∧ w'.cell? ⟨b, off, none⟩ = some (.int .i64 (i : Int)) ∧ w'.cell? ⟨b, off + h, none⟩ = some (.int .i64 (r : Int)))
                  (exact HKP.out _ hG)
                  (first
                  | (go_at_call 14; refine (HHE.out _).mono ?_; rintro rr w' ⟨rfl, hb⟩; replace hG := hG.trans (hb.mono hG.size); clear hb)
                  | (go_at_call 16; refine (HRO.out _).mono ?_; rintro rr w' ⟨rfl, hb⟩; replace hG := hG.trans (hb.mono hG.size); clear hb))
                all_goals (
                  rename_i hHeld
                  clear hHeld
                  have hB6 := HBK.out _ hG
                  have HB6 := Lib.hid hB6
                  clear hG hB6 HKP HBK
                  go_wp2
                  go_roundw
                  case rel => exact ⟨i + 1, by omega, by go_num, HB6.out⟩
                  case measure => simp [intOf]; omega)
              · obtain rfl : i = n := by omega
                have hro := root_any i f C U
                rw [show nodes i f C U = S i f (H i f + 1) from if_pos HOK.out] at hro
                have hpr := parent_any i f C U ((S i f (H i f + 1) - 1 : Nat) : Int)
                rw [top_node ho HOK.out] at hpr
                unfold geo at hro hpr
                generalize S i f (H i f + 1) - 1 = r at hro hpr
                obtain ⟨hs0, hkp, hfin⟩ := held_cells hB
                have HKP := Lib.hid hkp
                have HF := Lib.hid hfin
                have HPR := Lib.hid hpr
                have HRO := Lib.hid hro
                have HKN := Lib.hid hkn
                have hG : Below wr.drew.heap.size wr.drew wr.drew := Below.refl _ _
                clear hB hs0 hkp hfin hro hpr hkn c1 c2 c3 c4
                have D1 : wr.cell? ⟨w.heap.size, 0, none⟩ = some (.int .i64 (i : Int)) := (HKP.out wr.drew hG).1
                go_wp2_with fail
                go_region_held3 (fun w' => w'.cell? ⟨w.heap.size, 0, none⟩ = some (.int .i64 (i : Int)) ∧ w'.cell? ⟨w.heap.size, 1, none⟩ = some (.int .i64 (f : Int)) ∧ w'.cell? ⟨w.heap.size, 2, none⟩ = some (.int .i64 C) ∧ w'.cell? ⟨w.heap.size, 3, none⟩ = some (.int .i64 U))
                  (exact HKP.out _ hG)
                  (first
                  | (go_at_call 16; refine (HRO.out _).mono ?_; rintro rr w' ⟨rfl, hb⟩; replace hG := hG.trans (hb.mono hG.size); clear hb)
                  | (go_at_call 18; refine (HPR.out _).mono ?_; rintro rr w' ⟨rfl, hb⟩; replace hG := hG.trans (hb.mono hG.size); clear hb)
                  | (go_at_call 24; refine (HKN.out _).mono ?_; rintro rr w' ⟨rfl, hb⟩; replace hG := hG.trans (hb.mono hG.size); clear hb))
                all_goals (
                  rename_i hHeld
                  clear hHeld
                  have hB6 := HF.out _ hG
                  clear hG HKP HF
                  go_wp2
                  go_ret
                  exact ⟨rfl, hB6⟩)
  · have hd : decide (okG N F C U) = false := by simpa using hok
    rw [hd] at hr
    have hl := levels_any N F C U
    rw [show levels N F C U = [] from if_neg hok] at hl
    unfold geo at *
    clear hd hok
    go_enter Try.func6, Try.ntmps6
    go_wp2_with fail
    refine (hr _).mono ?_
    rintro e w1 ⟨rfl, hb⟩
    have hB1 : Below (w.heap.size + 1) (w.alloc (gbox N F C U)) w1 := hb.mono (by simp)
    have hz1 : w.heap.size + 1 ≤ w1.heap.size := by have := hB1.size; simpa using this
    clear hb hr
    obtain ⟨c1, c2, c3, c4⟩ := gbox_cells hB1
    go_wp2_with fail
    refine (hl _).mono ?_
    rintro e w2 ⟨⟨v, rfl, a, m, cp, rfl, hri, -⟩, hb⟩
    have hm := hri.len
    obtain rfl : m = 0 := by simpa using hm.symm
    have hB2 := hB1.trans (hb.mono hz1)
    have hz2 : w.heap.size + 1 ≤ w2.heap.size := Nat.le_trans hz1 hb.size
    clear hb hl c1 c2 c3 c4 hB1 hz1 hm hri
    go_wp2_with fail
    refine (hkn _).mono ?_
    rintro e w3 ⟨rfl, hb⟩
    have hB3 := hb0.trans ((hB2.trans (hb.mono hz2)).mono (by omega))
    clear hb hkn hB2 hb0
    go_wp2
    go_ret
    exact ⟨rfl, hB3⟩

end Go.Proofs.Ytbnmfajmiglneaa

/-
  Texts put together: NS.
-/
import Derived.Test.YtpkeikbiblfidaaGreatDoorMNP
/-
  The document's New, where all is well.
-/
namespace Go.Proofs.YtpkeikbiblfidaaGreatDoor.Tv
open Go.RowKit Dg
set_option linter.unusedVariables false
set_option linter.unusedSimpArgs false

set_option maxRecDepth 20000 in
set_option maxHeartbeats 4000000 in
theorem rtnew_fit (N F C U : Int) (a : Option Addr) (l cap : Nat) (Ss : List ByteArray) (w : World) (hP : Rs w a l cap Ss) (hok : okG N F C U) (hl : (l : Int) = N) :
    Calls Tryz.prog 22 #[geo N F C U, .slice a l cap] w fun e w' => TEnd (newErr N F C U Ss) N F C U (treeL N F C U Ss) w e w' := by
  obtain ⟨i0, hi, hz0, hz1, hz2⟩ := info_parts Tryz.info9
  have hb0 := (Below.refl w.heap.size w).alloc (Nat.le_refl _) (gbox N F C U)
  have hrt := grright_any N F C U
  have hnd := fun w => rnodes_any N F C U w
  rw [decide_eq_true hok] at hrt
  have hPw := hP.later hb0
  have hnp := nodes_pos hok
  have hnle := nodes_le N F C U
  have hSl := hP.len
  have hcx : (cap : Int) ≤ 9223372036854775807 := by have := hP.cm; unfold maxLen at this; omega
  have HP := Lib.hid hPw
  have herr : newErr N F C U Ss = if ∀ i, i < l → (lAt Ss i).size = 64 then 0 else 4 := by unfold newErr; rw [if_neg (fun h => h hok), if_neg (by rw [hP.len]; omega), hP.len]
  have HER := Lib.hid herr
  have HOK := Lib.hid hok
  have HB0 := Lib.hid hb0
  have HND := Lib.hid hnd
  clear hPw hok hb0 hnd hP herr
  obtain ⟨w1, hw1⟩ : ∃ w1, w1 = w.alloc (gbox N F C U) := ⟨_, rfl⟩
  have hw1s : w1.heap.size = w.heap.size + 1 := by rw [hw1]; simp
  have hgc : ∀ wr, Below w1.heap.size w1 wr → wr.cell? ⟨w.heap.size, 0, none⟩ = some (.int .i64 N) ∧ wr.cell? ⟨w.heap.size, 1, none⟩ = some (.int .i64 F) ∧ wr.cell? ⟨w.heap.size, 2, none⟩ = some (.int .i64 C) ∧ wr.cell? ⟨w.heap.size, 3, none⟩ = some (.int .i64 U) := fun wr h => gbox_cells (by rw [← hw1s, ← hw1]; exact h)
  rw [← hw1] at HB0 HP
  have HGC := Lib.hid hgc
  have HW1 := Lib.hid hw1
  unfold gbox at hw1
  clear hgc hw1s
  unfold geo at *
  go_enter Tryz.func22, Tryz.ntmps22
  go_wp2_with fail
  rw [← hw1]
  clear hw1
  refine (hrt _).mono ?_
  rintro e w2 ⟨rfl, hb1⟩
  obtain ⟨g0, g1, g2, g3⟩ := HGC.out w2 hb1
  have HB2 := Lib.hid hb1
  have HB02 := Lib.hid (HB0.out.trans (hb1.mono HB0.out.size))
  have HP2 := Lib.hid (HP.out.later hb1)
  subst hl
  have hrt0 : RT (w2.alloc (.cells #[.int .i64 (l : Int), .int .i64 F, .int .i64 C, .int .i64 U, .slice none 0 0] 58)) w2.heap.size w2.heap.size (.slice none 0 0) l F C U [] :=
    ⟨heap_alloc_new _ _, Nat.le_refl _, World.ownsRow_nil _ _ _ _, by simp [Value.ownBlock]⟩
  have hb3 : Below w2.heap.size w2 (w2.alloc (.cells #[.int .i64 (l : Int), .int .i64 F, .int .i64 C, .int .i64 U, .slice none 0 0] 58)) := (Below.refl _ _).alloc (Nat.le_refl _) _
  clear hb1 hrt HB0 HP
  go_wp2_with fail
  obtain ⟨p, hp⟩ : ∃ p, p = w2.heap.size := ⟨_, rfl⟩
  rw [← hp] at hrt0 ⊢
  have HP0 := Lib.hid hp
  go_loopw [7] (fun i wr => ∃ (k : Nat) (v : Value), k ≤ l ∧ i = .int .i64 k ∧ (∀ j, j < k → (lAt Ss j).size = 64) ∧ RT wr w2.heap.size p v l F C U ((Ss.take k).map leafB) ∧ Below w2.heap.size w2 wr) (fun i _ => l - (intOf i).toNat)
  case atStart => exact ⟨0, _, by omega, rfl, fun j hj => by omega, by rw [← hp]; exact hrt0, hb3⟩
  case round =>
    clear hrt0 hb3 hp g0 g1 g2 g3
    obtain ⟨k, v, hk, rfl, h64, hrt, hB⟩ := hrel
    have H64 := Lib.hid h64
    clear h64
    by_cases hlt : k < l
    · have i3 : (k : Int) < (l : Int) := by omega
      have i4 : (0 : Int) ≤ (k : Int) := by omega
      have hlen : ((Ss.take k).map leafB).length = k := by simp; omega
      have ho := hrt.own
      rw [hlen] at ho
      obtain ⟨_, _, _, _, c4, hf⟩ := hrt.cells
      obtain ⟨b, off, rfl, hbl, hc⟩ := (HP2.out.later hB).at0 (by omega)
      have e0 := hc k hlt
      obtain ⟨sx, hsx⟩ : ∃ s, s = lAt Ss k := ⟨_, rfl⟩
      rw [← hsx] at e0
      by_cases h6 : sx.size = 64
      · have hrg := rright_any sx wr
        rw [decide_eq_true h6] at hrg
        have hrtd : RT wr.drew w2.heap.size p v l F C U ((Ss.take k).map leafB) := hrt.kept fun _ _ => rfl
        have hcall : Calls Tryz.prog 44 #[.string sx] wr.drew fun e w' => e = .returned (.string (leafB sx)) ∧ Below wr.drew.heap.size wr.drew w' := rleaf_any sx wr.drew (by omega)
        have hzc := fun w' (hb : Below wr.drew.heap.size wr.drew w') => (hb.cell (p := ⟨p, 4, none⟩) hrt.lt).trans c4
        have hrw := fun w' (hb : Below wr.drew.heap.size wr.drew w') => owns_kept (show wr.drew.ownsRow w2.heap.size 9 1 v k _ from owns_kept ho fun _ _ => rfl) fun j hj => hb.block j (ho.lt j hj).2
        have hnx : (Ss.take k).map leafB ++ [leafB sx] = (Ss.take (k + 1)).map leafB := by
          rw [List.take_add_one, List.map_append, hsx]
          congr 1
          unfold lAt
          rw [List.getElem?_eq_getElem (by omega)]
          rfl
        obtain ⟨z0, hz0'⟩ : ∃ z, z = leafB sx := ⟨_, rfl⟩
        rw [← hz0'] at hcall hnx
        obtain ⟨av, cv, rfl, _, _⟩ := towns_shape ho
        have HRG := Lib.hid hrg
        have H64' := Lib.hid (show ∀ j, j < k + 1 → (lAt Ss j).size = 64 from fun j hj => by
          rcases Nat.lt_or_ge j k with h | h
          · exact H64.out j h
          · obtain rfl : j = k := by omega
            rw [← hsx]; exact h6)
        have HRTd := Lib.hid hrtd
        have HC := Lib.hid hcall
        have HZ := Lib.hid hzc
        have HRW := Lib.hid hrw
        have HNX := Lib.hid hnx
        have HB := Lib.hid hB
        have HLN := Lib.hid hlen
        clear hrg hrtd hcall hzc hrw hnx hB ho hrt hc hsx h6 hz0' hlen
        go_wp2_with fail
        refine HRG.out.mono ?_
        rintro e w4 ⟨rfl, hw4⟩; obtain rfl := hw4.symm; clear hw4
        go_wp2_with fail
        go_region_law (first
          | (refine step_call1 (P := Tryz.prog) (op := ⟨some 42, _, _, _, _, _⟩) rfl 44 (enters_of Tryz.func44 (by kernel_rfl) rfl) (.tmp 41) _ rfl (.string sx) (.string z0) (by rfl) (fun w' => Below wr.drew.heap.size wr.drew w') HC.out ?_; intro w4 hb4; have c4 := HZ.out w4 hb4; have c4a := HZ.out _ (hb4.alloc hb4.size (.cells #[.string z0] 9)))
          | (refine tstep_append_at (P := Tryz.prog) (o := ⟨some 44, _, _, _, _, _⟩) rfl (.tmp 37) (.tmp 43) 49 rfl w2.heap.size 9 i0 _ 1 16 Tryz.underlying49 hi hz0 hz1 hz2 rfl (by omega) _ _ _ (by rfl) ((HRW.out w4 hb4).alloc _) ⟨w4.heap.size, 0, none⟩ 1 1 (strs [z0]) (by rfl) rfl (one_scell w4 z0) (strs_one _) (by unfold maxLen; omega) (by omega) (by have h1 := hb4.size; have h2 := HB.out.size; have h3 : wr.drew.heap.size = wr.heap.size := rfl; simp; omega) ?_; intro v5 w5 how5 hg5 hat5; obtain ⟨a5, n5, rfl, _, _, _⟩ := owns_shape1 how5; have b5 := rt_blk5 HRTd.out hb4 hg5; have c5 : w5.cell? ⟨p, 4, none⟩ = some (.slice av k cv) := (by rw [cell_of_blk b5]; rfl); have f5 := fun i => free_of_blk b5 i))
        all_goals (
          rw [← tstrs_append, HNX.out] at how5
          have hend := rt_end (L' := (Ss.take (k + 1)).map leafB) HRTd.out (w0 := w2) ⟨HB.out.os, HB.out.tape, HB.out.output, HB.out.size, HB.out.block⟩ hb4 hg5 (by have e : ((Ss.take (k + 1)).map leafB).length = k + 1 := (by simp; omega); rw [e]; exact how5)
          have HE := Lib.hid hend
          clear hend how5 hg5 hat5 hb4 c4 c5 b5 f5
          go_wp2
          go_roundw
          case rel => exact ⟨k + 1, _, by omega, by go_num, H64'.out, HE.out.1, HE.out.2⟩
          case measure => simp [intOf]; omega)
      · have hrg := rright_any sx wr
        rw [decide_eq_false h6] at hrg
        have he4 : newErr (l : Int) F C U Ss = 4 := by rw [HER.out, if_neg (fun h => h6 (by rw [hsx]; exact h k hlt))]
        have HE4 := Lib.hid he4
        have HRG := Lib.hid hrg
        have HB := Lib.hid (HB02.out.trans (hB.mono HB02.out.size))
        clear hrg hB ho hrt hc hsx h6 hlen he4 c4 hf
        go_wp2_with fail
        refine HRG.out.mono ?_
        rintro e w4 ⟨rfl, hw4⟩; obtain rfl := hw4.symm; clear hw4
        go_wp2
        refine bodyPost_ret (results_tmp2 rfl _ _ _) rfl ?_
        exact .inr ⟨by rw [HE4.out]; omega, by rw [HE4.out]; rfl, HB.out⟩
    · obtain rfl : k = l := by omega
      have hLL : (Ss.take k).map leafB = Ss.map leafB := by rw [List.take_of_length_le (by omega)]
      rw [hLL] at hrt
      obtain ⟨g0, g1, g2, g3⟩ := HGC.out wr (HB2.out.trans (hB.mono HB2.out.size))
      have hbl : (Ss.map leafB).length = k := by simp; omega
      have hbs : ∀ j, j < (Ss.map leafB).length → (lAt (Ss.map leafB) j).size = 32 := fun j hj => by
        rw [List.length_map] at hj
        unfold lAt
        rw [List.getElem?_map, List.getElem?_eq_getElem hj]
        exact leafB_size _
      have htl : treeL (k : Int) F C U Ss = growL (k : Int) F C U (Ss.map leafB) (nodes (k : Int) F C U - k) := by unfold treeL; rw [hSl]
      obtain ⟨BL, hBL⟩ : ∃ B, B = Ss.map leafB := ⟨_, rfl⟩
      rw [← hBL] at hrt hbl hbs htl
      obtain ⟨M, hM⟩ : ∃ M, M = nodes (k : Int) F C U := ⟨_, rfl⟩
      rw [← hM] at hnp hnle htl
      simp only [← hM] at HND
      have HRT := Lib.hid hrt
      have HB := Lib.hid hB
      have HBS := Lib.hid hbs
      have HTL := Lib.hid htl
      have HBL := Lib.hid hbl
      clear hrt hB hbs htl hLL hBL hM hbl
      have i3 : ¬ (k : Int) < (k : Int) := by omega
      go_wp2_with fail
      refine (HND.out _).mono ?_
      rintro e w5 ⟨rfl, hb5⟩
      have HRT5 := Lib.hid (HRT.out.below hb5)
      have HB5 := Lib.hid (HB.out.trans (hb5.mono HB.out.size))
      obtain ⟨g0, g1, g2, g3⟩ := HGC.out w5 (HB2.out.trans (HB5.out.mono HB2.out.size))
      clear hb5
      go_wp2_with fail
      clear g0 g1 g2 g3
      go_loopw [9] (fun i wr => ∃ (m : Nat) (v : Value), m ≤ M - k ∧ i = .int .i64 ((k + m : Nat) : Int) ∧ RT wr w2.heap.size p v k F C U (growL (k : Int) F C U BL m) ∧ Below w2.heap.size w2 wr) (fun i _ => M - (intOf i).toNat)
      case atStart => exact ⟨0, _, by omega, by simp, HRT5.out, HB5.out⟩
      case round =>
        rename_i wq
        clear HRT HB HRT5 HB5
        obtain ⟨m, v, hm, rfl, hrt, hB⟩ := hrel
        by_cases hlt : k + m < M
        · have j1 : ((k + m : Nat) : Int) < (M : Int) := by omega
          have hlen := growL_length (k : Int) F C U BL m
          rw [HBL.out] at hlen
          have ho := hrt.own
          rw [hlen] at ho
          obtain ⟨_, _, _, _, c4, hf⟩ := hrt.cells
          obtain ⟨g0, g1, g2, g3⟩ := HGC.out _ (HB2.out.trans (hB.mono HB2.out.size))
          have hrtd : RT (World.drew _) w2.heap.size p v k F C U (growL (k : Int) F C U BL m) := hrt.kept fun _ _ => rfl
          obtain ⟨av, cv, rfl, hrs, _⟩ := towns_shape (show (World.drew _).ownsRow w2.heap.size 9 1 v (k + m) _ from owns_kept ho fun _ _ => rfl)
          have hcall := rabove_any k F C U av (k + m) cv (growL (k : Int) F C U BL m) (k + m) _ hrs (fun c hc => by
            obtain ⟨j, e, hj⟩ := children_mem hc
            exact ⟨j, e, hj⟩) (fun i hi => by
            have := growL_size (N := (k : Int)) (F := F) (C := C) (U := U) HBS.out m i (by rw [hlen]; exact hi)
            omega)
          have hall : ∀ w', Below (World.drew _).heap.size (World.drew _) w' → w'.cell? ⟨w.heap.size, 0, none⟩ = some (.int .i64 (k : Int)) ∧ w'.cell? ⟨w.heap.size, 1, none⟩ = some (.int .i64 F) ∧ w'.cell? ⟨w.heap.size, 2, none⟩ = some (.int .i64 C) ∧ w'.cell? ⟨w.heap.size, 3, none⟩ = some (.int .i64 U) := fun w' hb => HGC.out _ (HB2.out.trans ((hB.drew.trans (hb.mono hB.drew.size)).mono HB2.out.size))
          have hzc := fun w' (hb : Below (World.drew _).heap.size (World.drew _) w') => (hb.cell (p := ⟨p, 4, none⟩) hrt.lt).trans c4
          have hrw := fun w' (hb : Below (World.drew _).heap.size (World.drew _) w') => owns_kept (owns_kept (w' := World.drew _) ho fun _ _ => rfl) fun j hj => hb.block j (ho.lt j hj).2
          obtain ⟨z0, hz0'⟩ : ∃ z, z = nodeB (kids (growL (k : Int) F C U BL m) (children (k : Int) F C U ((k + m : Nat) : Int))) := ⟨_, rfl⟩
          have hnx : growL (k : Int) F C U BL m ++ [z0] = growL (k : Int) F C U BL (m + 1) := by rw [hz0']; show _ = _ ++ [nodeB (kids _ (children _ _ _ _ ((BL.length + m : Nat) : Int)))]; rw [HBL.out]
          rw [← hz0'] at hcall
          have HRTd := Lib.hid hrtd
          have HC := Lib.hid hcall
          have HZ := Lib.hid hzc
          have HRW := Lib.hid hrw
          have HNX := Lib.hid hnx
          have HB := Lib.hid hB
          have HLN := Lib.hid hlen
          have HAL := Lib.hid hall
          clear hrtd hcall hzc hrw hnx hB ho hrt hrs hz0' hlen hall
          unfold geo at HC
          generalize hkm : (k + m : Nat) = km at *
          have j0 : (0 : Int) ≤ (km : Int) := by omega
          go_wp2_with fail
          go_region_law (first
            | (refine step_call3 (P := Tryz.prog) (op := ⟨some 67, _, _, _, _, _⟩) rfl 77 (enters_of Tryz.func77 (by kernel_rfl) rfl) (.tmp 61) (.tmp 65) (.tmp 66) _ rfl _ _ _ (.string z0) (by rfl) (by rfl) (by rfl) _ HC.out ?_; intro w4 hb4; have c4 := HZ.out w4 hb4; have c4a := HZ.out _ (hb4.alloc hb4.size (.cells #[.string z0] 9)); have cg := HAL.out w4 hb4; have cg2 := HAL.out _ (hb4.alloc hb4.size (.cells #[.string z0] 9)))
            | (refine tstep_append_at (P := Tryz.prog) (o := ⟨some 69, _, _, _, _, _⟩) rfl (.tmp 60) (.tmp 68) 49 rfl w2.heap.size 9 i0 _ 1 16 Tryz.underlying49 hi hz0 hz1 hz2 rfl (by omega) _ _ _ (by rfl) ((HRW.out w4 hb4).alloc _) ⟨w4.heap.size, 0, none⟩ 1 1 (strs [z0]) (by rfl) rfl (one_scell w4 z0) (strs_one _) (by unfold maxLen; omega) (by omega) (by have h1 := hb4.size; have h2 := HB.out.drew.size; simp; omega) ?_; intro v5 w5 how5 hg5 hat5; obtain ⟨a5, n5, rfl, _, _, _⟩ := owns_shape1 how5; have b5 := rt_blk5 HRTd.out hb4 hg5; have c5 : w5.cell? ⟨p, 4, none⟩ = some (.slice av km cv) := (by rw [cell_of_blk b5]; rfl); have f5 := fun i => free_of_blk b5 i))
          all_goals (
            rw [← tstrs_append, HNX.out] at how5
            have hend := rt_end (L' := growL (k : Int) F C U BL (m + 1)) HRTd.out (w0 := w2) HB.out.drew hb4 hg5 (by have e := growL_length (k : Int) F C U BL (m + 1); rw [HBL.out] at e; rw [e, ← Nat.add_assoc, hkm]; exact how5)
            have HE := Lib.hid hend
            clear hend how5 hg5 hat5 hb4 c4 c5 b5 f5
            go_wp2
            go_roundw
            case rel => exact ⟨m + 1, _, by omega, by rw [← Nat.add_assoc, hkm]; go_num, HE.out.1, HE.out.2⟩
            case measure => simp [intOf]; omega)
        · obtain rfl : m = M - k := by omega
          have hfin := hrt
          rw [← HTL.out] at hfin
          have HF := Lib.hid hfin
          have HB := Lib.hid (HB02.out.trans (hB.mono HB02.out.size))
          have j1 : ¬ ((k + (M - k) : Nat) : Int) < (M : Int) := by omega
          clear hrt hB hfin
          go_wp2
          refine bodyPost_ret (results_tmp2 rfl _ _ _) rfl ?_
          have he0 : newErr (k : Int) F C U Ss = 0 := by rw [HER.out, if_pos H64.out]
          exact .inl ⟨he0, p, v, rfl, ⟨HF.out.blk, Nat.le_trans HB02.out.size HF.out.low, towns_low HF.out.own HB02.out.size, HF.out.ne⟩, HB.out⟩
end Go.Proofs.YtpkeikbiblfidaaGreatDoor.Tv

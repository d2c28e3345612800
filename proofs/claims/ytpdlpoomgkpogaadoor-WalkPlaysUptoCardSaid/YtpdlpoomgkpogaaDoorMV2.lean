/-
  Texts put together: V3, V4.
-/
import Derived.Test.YtpdlpoomgkpogaaDoorMV
/-
  The program's New: the walk.
-/
namespace Go.Proofs.YtpdlpoomgkpogaaDoor
open Go.RowKit
set_option linter.unusedVariables false
set_option linter.unusedSimpArgs false

def PNew (N F C U : Int) (L : List ByteArray) (w : World) (e : Ending) (w' : World) : Prop :=
  ∃ p v, e = .returned (.tuple #[.pointer (some ⟨p, 0, none⟩), .int .i64 0]) ∧ PT w' w.heap.size p v N F C U L ∧ Below w.heap.size w w'
def PEnd (err : Int) (N F C U : Int) (L : List ByteArray) (w : World) (e : Ending) (w' : World) : Prop :=
  (err = 0 ∧ PNew N F C U L w e w') ∨ (err ≠ 0 ∧ e = .returned (.tuple #[.pointer none, .int .i64 err]) ∧ Below w.heap.size w w')
theorem newErr_ok {N F C U : Int} {Ss : List ByteArray} (h : newErr N F C U Ss = 0) : okG N F C U ∧ (Ss.length : Int) = N ∧ ∀ i, i < Ss.length → (lAt Ss i).size = 64 := by
  unfold newErr at h
  split at h
  · exact absurd h (by omega)
  · split at h
    · exact absurd h (by omega)
    · split at h
      · rename_i h1 h2 h3
        exact ⟨Decidable.not_not.1 h1, Decidable.not_not.1 h2, h3⟩
      · exact absurd h (by omega)

set_option maxRecDepth 20000 in
set_option maxHeartbeats 4000000 in
theorem tnew_any (N F C U : Int) (a : Option Addr) (l cap : Nat) (Ss : List ByteArray) (w : World) (hP : Rs w a l cap Ss) (hK : Kon w) :
    Calls Tryd.prog 18 #[geo N F C U, .slice a l cap] w fun e w' => PEnd (newErr N F C U Ss) N F C U (treeL N F C U Ss) w e w' := by
  have hb0 := (Below.refl w.heap.size w).alloc (Nat.le_refl _) (gbox N F C U)
  have hlen := hP.len
  have hcx : (cap : Int) ≤ 9223372036854775807 := by have := hP.cm; unfold maxLen at this; omega
  have hf := fault_sec N F C U N a l cap Ss (w.alloc (gbox N F C U)) (hP.later hb0)
  rw [faultE_new] at hf
  have hgc : ∀ wr, Below (w.alloc (gbox N F C U)).heap.size (w.alloc (gbox N F C U)) wr → wr.cell? ⟨w.heap.size, 0, none⟩ = some (.int .i64 N) ∧ wr.cell? ⟨w.heap.size, 1, none⟩ = some (.int .i64 F) ∧ wr.cell? ⟨w.heap.size, 2, none⟩ = some (.int .i64 C) ∧ wr.cell? ⟨w.heap.size, 3, none⟩ = some (.int .i64 U) := fun wr h => gbox_cells (by simpa using h)
  have hk0 := hK.below hb0
  obtain ⟨w0, hw0⟩ : ∃ w0, w0 = w.alloc (gbox N F C U) := ⟨_, rfl⟩
  rw [← hw0] at hb0 hf hgc hk0
  have HP := Lib.hid (hP.later (show Below w.heap.size w w0 from hb0))
  have HK := Lib.hid hk0
  have HB0 := Lib.hid hb0
  have HGC := Lib.hid hgc
  have HF := Lib.hid hf
  have HW0 := Lib.hid hw0
  clear hb0 hf hgc hk0 hw0 hP hK
  obtain ⟨er, her⟩ : ∃ er, er = newErr N F C U Ss := ⟨_, rfl⟩
  rw [← her] at HF ⊢
  have HER := Lib.hid her
  clear her
  unfold geo at *
  unfold gbox at HW0
  by_cases he : er = 0
  · subst he
    obtain ⟨hok, hN, h64⟩ := newErr_ok HER.out.symm
    rw [hlen] at hN h64
    subst hN
    have hnd := fun w => nodes_any (l : Int) F C U w
    have hnp := nodes_pos hok
    have hnle := nodes_le (l : Int) F C U
    obtain ⟨M, hM⟩ : ∃ M, M = nodes (l : Int) F C U := ⟨_, rfl⟩
    have htl : treeL (l : Int) F C U Ss = nodeL (l : Int) F C U (Ss.map leafB) M (M - l) := by
      unfold treeL nodeL
      rw [hlen, ← hM, show M - ((Ss.map leafB).length + (M - l)) = 0 from by rw [List.length_map, hlen]; omega]
      simp
    rw [← hM] at hnp hnle
    simp only [← hM] at hnd
    unfold geo at hnd
    have HND := Lib.hid hnd
    have H64 := Lib.hid h64
    have HTL := Lib.hid htl
    clear hnd h64 htl hM hok
    go_enter Tryd.func18, Tryd.ntmps18
    go_wp2_with fail
    rw [← HW0.out]
    obtain ⟨g0, g1, g2, g3⟩ := HGC.out _ (Below.refl _ _)
    go_wp2_with fail
    refine HF.out.mono ?_
    rintro e w1 ⟨rfl, hb⟩
    have HB1 := Lib.hid (HB0.out.trans (hb.mono HB0.out.size))
    have HBB1 := Lib.hid hb
    clear hb HF g0 g1 g2 g3
    go_upto_region 4 with fail
    have hkp : ∀ w', Below w1.drew.heap.size w1.drew w' → (w'.cell? ⟨w.heap.size, 0, none⟩ = some (.int .i64 (l : Int)) ∧ w'.cell? ⟨w.heap.size, 1, none⟩ = some (.int .i64 F) ∧ w'.cell? ⟨w.heap.size, 2, none⟩ = some (.int .i64 C) ∧ w'.cell? ⟨w.heap.size, 3, none⟩ = some (.int .i64 U)) := fun w' h => HGC.out w' (HBB1.out.drew.trans (h.mono HBB1.out.drew.size))
    have hG : Below w1.drew.heap.size w1.drew w1.drew := Below.refl _ _
    have hms := fun w => make_strs M (by omega) w
    have HKP := Lib.hid hkp
    clear hkp
    go_region_held3 (fun w' => (w'.cell? ⟨w.heap.size, 0, none⟩ = some (.int .i64 (l : Int)) ∧ w'.cell? ⟨w.heap.size, 1, none⟩ = some (.int .i64 F) ∧ w'.cell? ⟨w.heap.size, 2, none⟩ = some (.int .i64 C) ∧ w'.cell? ⟨w.heap.size, 3, none⟩ = some (.int .i64 U)))
      (first | exact HKP.out _ hG | exact HKP.out _ (hG.alloc hG.size _) | exact HKP.out _ ((hG.alloc hG.size _).alloc (hG.alloc hG.size _).size _))
      (first
      | (go_at_call 25; with_reducible refine (HND.out _).mono ?_; rintro r wn ⟨rfl, hb⟩; replace hG := hG.trans (hb.mono hG.size); clear hb))
    rename_i hHeld
    clear hHeld
    have hB2 : Below w0.heap.size w0 wn := HBB1.out.trans (Below.mono ⟨hG.os, hG.tape, hG.output, hG.size, hG.block⟩ HBB1.out.size)
    have hB3 : Below w0.heap.size w0 (wn.alloc (.cells (madeCells #[.string noBytes] M) 9)) := hB2.alloc hB2.size _
    have hr3 := made_row M (by omega) wn w0.heap.size hB2.size
    have hz3 : (wn.alloc (.cells (madeCells #[.string noBytes] M) 9)).heap.size = wn.heap.size + 1 := World.size_alloc _ _
    have hT : PT ((wn.alloc (.cells (madeCells #[.string noBytes] M) 9)).alloc (.cells #[.int .i64 (l : Int), .int .i64 F, .int .i64 C, .int .i64 U, .slice (some ⟨wn.heap.size, 0, none⟩) M M] 60)) w0.heap.size (wn.heap.size + 1) (.slice (some ⟨wn.heap.size, 0, none⟩) M M) l F C U (leafL Ss M 0) := by
      have e : leafL Ss M 0 = List.replicate M noBytes := rfl
      rw [e]
      refine ⟨by rw [← hz3]; exact heap_alloc_new _ _, by have := hB2.size; omega, ?_, by simp [Value.ownBlock]⟩
      rw [List.length_replicate]
      exact owns_kept hr3 fun k hk => Below.heap_alloc _ _ _ (hr3.lt k hk).2
    have hB4 : Below w0.heap.size w0 ((wn.alloc (.cells (madeCells #[.string noBytes] M) 9)).alloc (.cells #[.int .i64 (l : Int), .int .i64 F, .int .i64 C, .int .i64 U, .slice (some ⟨wn.heap.size, 0, none⟩) M M] 60)) := hB3.alloc hB3.size _
    have hgl : w0.heap.size ≤ wn.heap.size := hB2.size
    obtain ⟨W2, hW2⟩ : ∃ W, W = (wn.alloc (.cells (madeCells #[.string noBytes] M) 9)).alloc (.cells #[.int .i64 (l : Int), .int .i64 F, .int .i64 C, .int .i64 U, .slice (some ⟨wn.heap.size, 0, none⟩) M M] 60) := ⟨_, rfl⟩
    rw [← hW2] at hT hB4 ⊢
    obtain ⟨g, hg⟩ : ∃ g, g = wn.heap.size := ⟨_, rfl⟩
    rw [← hg] at hT hgl ⊢
    obtain ⟨p, hp⟩ : ∃ p, p = g + 1 := ⟨_, rfl⟩
    rw [← hp] at hT ⊢
    have hpg : g ≠ p := by omega
    have HT := Lib.hid hT
    have HB4 := Lib.hid hB4
    have HGL := Lib.hid hgl
    have HPG := Lib.hid hpg
    clear hB2 hB3 hr3 hz3 hT hB4 hgl hW2 hg hp hG hpg HBB1 HKP hms HB1
    have hown : (Value.slice (some ⟨g, 0, none⟩) M M).ownBlock = some g := rfl
    go_wp2_with fail
    go_loopw [27] (fun i wr => ∃ k : Nat, k ≤ l ∧ i = .int .i64 k ∧ PT wr w0.heap.size p (.slice (some ⟨g, 0, none⟩) M M) l F C U (leafL Ss M k) ∧ Below w0.heap.size w0 wr) (fun i _ => l - (intOf i).toNat)
    case atStart => exact ⟨0, by omega, rfl, HT.out, HB4.out⟩
    case round =>
      clear HT HB4
      obtain ⟨k, hk, rfl, hT, hB⟩ := hrel
      by_cases hlt : k < l
      · have i0 : (0 : Int) ≤ (k : Int) := by omega
        have i1 : (k : Int) < (l : Int) := by omega
        have i2 : (k : Int) < (M : Int) := by omega
        obtain ⟨b, off, rfl, _, hcc⟩ := (HP.out.later hB).at0 (by omega)
        have e0 := hcc k hlt
        have h6 := H64.out k hlt
        obtain ⟨s, hs⟩ : ∃ s, s = lAt Ss k := ⟨_, rfl⟩
        rw [← hs] at e0 h6
        have hlf : Calls Tryd.prog 39 #[.string s] wr.drew fun e w' => e = .returned (.string (leafB s)) ∧ Below wr.drew.heap.size wr.drew w' := leaf_any s wr.drew ((HK.out.below hB).below (Below.refl _ _).drew) (by omega)
        have hTd : PT wr.drew w0.heap.size p (.slice (some ⟨g, 0, none⟩) M M) l F C U (leafL Ss M k) := hT.kept fun _ _ => rfl
        have hll : (leafL Ss M k).length = M := leafL_length (by omega) (by omega)
        have hst : ∀ w', Below wr.drew.heap.size wr.drew w' → w'.cell? ⟨p, 4, none⟩ = some (.slice (some ⟨g, 0, none⟩) M M) ∧ (∀ u, (w'.setCell ⟨g, k, none⟩ u).cell? ⟨p, 4, none⟩ = some (.slice (some ⟨g, 0, none⟩) M M)) ∧ w'.frozen? ⟨g, k, none⟩ = false ∧ w'.cell? ⟨g, k, none⟩ = some (.string (lAt (leafL Ss M k) k)) := fun w' hb => by
          have hT' := hTd.below hb
          have hc := hT'.cells.2.2.2.2.1
          refine ⟨hc, fun u => ?_, hT'.free rfl k, hT'.at rfl (by omega)⟩
          rw [World.cell?_setCell_other _ _ _ _ (fun e => HPG.out (congrArg Addr.block e))]
          exact hc
        have hend : ∀ w', Below wr.drew.heap.size wr.drew w' → PT (w'.setCell ⟨g, k, none⟩ (.string (leafB s))) w0.heap.size p (.slice (some ⟨g, 0, none⟩) M M) l F C U (leafL Ss M (k + 1)) ∧ Below w0.heap.size w0 (w'.setCell ⟨g, k, none⟩ (.string (leafB s))) := fun w' hb => by
          have h1 := (hTd.below hb).set (g := g) (j := k) rfl (by omega) (leafB s)
          rw [hs, leafL_set (by omega) (by omega)] at h1
          rw [hs]
          exact ⟨h1, below_row (hB.drew.trans (hb.mono hB.drew.size)) HGL.out⟩
        generalize leafB s = z at *
        generalize lAt (leafL Ss M k) k = y at *
        have HLF := Lib.hid hlf
        have HST := Lib.hid hst
        have HE := Lib.hid hend
        have hG : Below wr.drew.heap.size wr.drew wr.drew := Below.refl _ _
        clear hlf hst hend hTd hT hB hcc hs h6 hll
        go_wp2_with fail
        go_region_held3 (fun w' => w'.cell? ⟨p, 4, none⟩ = some (.slice (some ⟨g, 0, none⟩) M M))
          (first | exact (HST.out _ hG).1 | exact (HST.out _ hG).2.1 _)
          (first
          | (go_at_call 39; with_reducible refine HLF.out.mono ?_; rintro r w' ⟨rfl, hb⟩; replace hG := hG.trans (hb.mono hG.size); clear hb; have hfz := (HST.out _ hG).2.2.1; have hcl := (HST.out _ hG).2.2.2))
        rename_i hHeld
        clear hHeld hfz hcl
        have HX := Lib.hid (HE.out _ hG)
        clear hG
        go_wp2
        go_roundw
        case rel => exact ⟨k + 1, by omega, by go_num, HX.out.1, HX.out.2⟩
        case measure => simp [intOf]; omega
      · obtain rfl : k = l := by omega
        have hT0 := hT
        rw [show leafL Ss M k = nodeL (k : Int) F C U (Ss.map leafB) M 0 from by rw [← hlen]; exact leaf_node (by omega)] at hT0
        have hbl : (Ss.map leafB).length = k := by rw [List.length_map, hlen]
        have hbs : ∀ j, j < (Ss.map leafB).length → (lAt (Ss.map leafB) j).size = 32 := fun j hj => by
          rw [List.length_map] at hj
          unfold lAt
          rw [List.getElem?_map, List.getElem?_eq_getElem hj]
          exact leafB_size _
        obtain ⟨BL, hBL⟩ : ∃ B, B = Ss.map leafB := ⟨_, rfl⟩
        rw [← hBL] at hT0 hbl hbs
        have htl := HTL.out
        rw [← hBL] at htl
        have HTL2 := Lib.hid htl
        have HT0 := Lib.hid hT0
        have HB := Lib.hid hB
        have HBS := Lib.hid hbs
        have HBL := Lib.hid hbl
        obtain ⟨g0, g1, g2, g3⟩ := HGC.out wr hB
        clear hT hT0 hB hbs hbl htl hBL HTL
        have i3 : ¬ (k : Int) < (k : Int) := by omega
        go_wp2_with fail
        clear g0 g1 g2 g3
        go_loopw [10] (fun i wr => ∃ m : Nat, m ≤ M - k ∧ i = .int .i64 ((k + m : Nat) : Int) ∧ PT wr w0.heap.size p (.slice (some ⟨g, 0, none⟩) M M) k F C U (nodeL (k : Int) F C U BL M m) ∧ Below w0.heap.size w0 wr) (fun i _ => M - (intOf i).toNat)
        case atStart => exact ⟨0, by omega, by simp, HT0.out, HB.out⟩
        case round =>
          clear HT0 HB
          obtain ⟨m, hm, rfl, hT, hB⟩ := hrel
          have hll : (nodeL (k : Int) F C U BL M m).length = M := nodeL_length (by have := HBL.out; omega)
          obtain ⟨_, _, _, _, c4, _⟩ := hT.cells
          by_cases hlt : k + m < M
          · have j1 : ((k + m : Nat) : Int) < (M : Int) := by omega
            have j0 : (0 : Int) ≤ ((k + m : Nat) : Int) := by omega
            have hTd : PT wr.drew w0.heap.size p (.slice (some ⟨g, 0, none⟩) M M) k F C U (nodeL (k : Int) F C U BL M m) := hT.kept fun _ _ => rfl
            have hfc := fromch_any w0.heap.size p (.slice (some ⟨g, 0, none⟩) M M) k F C U (nodeL (k : Int) F C U BL M m) (k + m) _ hTd ((HK.out.below hB).below (Below.refl _ _).drew)
              (fun c hc => by
                obtain ⟨j, e, hj⟩ := children_mem hc
                exact ⟨j, e, by omega⟩) (nodeL_small HBS.out)
            have hnx := nodeL_set (N := (k : Int)) (F := F) (C := C) (U := U) (base := BL) (M := M) (m := m) (by have := HBL.out; omega)
            rw [HBL.out] at hnx
            have hst : ∀ w', Below wr.drew.heap.size wr.drew w' → w'.cell? ⟨p, 4, none⟩ = some (.slice (some ⟨g, 0, none⟩) M M) ∧ (∀ u, (w'.setCell ⟨g, k + m, none⟩ u).cell? ⟨p, 4, none⟩ = some (.slice (some ⟨g, 0, none⟩) M M)) ∧ w'.frozen? ⟨g, k + m, none⟩ = false ∧ w'.cell? ⟨g, k + m, none⟩ = some (.string (lAt (nodeL (k : Int) F C U BL M m) (k + m))) := fun w' hb => by
              have hT' := hTd.below hb
              have hc := hT'.cells.2.2.2.2.1
              refine ⟨hc, fun u => ?_, hT'.free rfl (k + m), hT'.at rfl (by omega)⟩
              rw [World.cell?_setCell_other _ _ _ _ (fun e => HPG.out (congrArg Addr.block e))]
              exact hc
            have hend : ∀ w', Below wr.drew.heap.size wr.drew w' → PT (w'.setCell ⟨g, k + m, none⟩ (.string (nodeB (kids (nodeL (k : Int) F C U BL M m) (children (k : Int) F C U ((k + m : Nat) : Int)))))) w0.heap.size p (.slice (some ⟨g, 0, none⟩) M M) k F C U (nodeL (k : Int) F C U BL M (m + 1)) ∧ Below w0.heap.size w0 (w'.setCell ⟨g, k + m, none⟩ (.string (nodeB (kids (nodeL (k : Int) F C U BL M m) (children (k : Int) F C U ((k + m : Nat) : Int)))))) := fun w' hb => by
              have h1 := (hTd.below hb).set (g := g) (j := k + m) rfl (by omega) (nodeB (kids (nodeL (k : Int) F C U BL M m) (children (k : Int) F C U ((k + m : Nat) : Int))))
              rw [hnx] at h1
              exact ⟨h1, below_row (hB.drew.trans (hb.mono hB.drew.size)) HGL.out⟩
            generalize nodeB (kids (nodeL (k : Int) F C U BL M m) (children (k : Int) F C U ((k + m : Nat) : Int))) = z at *
            generalize lAt (nodeL (k : Int) F C U BL M m) (k + m) = y at *
            have HFC := Lib.hid hfc
            have HST := Lib.hid hst
            have HE := Lib.hid hend
            have hG : Below wr.drew.heap.size wr.drew wr.drew := Below.refl _ _
            clear hfc hst hend hTd hT hB hnx hll
            generalize hkm : (k + m : Nat) = km at *
            go_wp2_with fail
            go_region_held3 (fun w' => w'.cell? ⟨p, 4, none⟩ = some (.slice (some ⟨g, 0, none⟩) M M))
              (first | exact (HST.out _ hG).1 | exact (HST.out _ hG).2.1 _)
              (first
              | (go_at_call 47; with_reducible refine HFC.out.mono ?_; rintro r w' ⟨rfl, hb⟩; replace hG := hG.trans (hb.mono hG.size); clear hb; have hfz := (HST.out _ hG).2.2.1; have hcl := (HST.out _ hG).2.2.2))
            rename_i hHeld
            clear hHeld hfz hcl
            have HX := Lib.hid (HE.out _ hG)
            clear hG
            go_wp2
            go_roundw
            case rel => exact ⟨m + 1, by omega, by rw [← Nat.add_assoc, hkm]; go_num, HX.out.1, HX.out.2⟩
            case measure => simp [intOf]; omega
          · obtain rfl : m = M - k := by omega
            have hfin := hT
            rw [← HTL2.out] at hfin
            have j1 : ¬ ((k + (M - k) : Nat) : Int) < (M : Int) := by omega
            have HX := Lib.hid hfin
            have HB := Lib.hid (HB0.out.trans (hB.mono HB0.out.size))
            clear hT hB hfin
            go_wp2
            refine bodyPost_ret (results_tmp2 rfl _ _ _) rfl ?_
            exact .inl ⟨rfl, p, _, rfl, ⟨HX.out.blk, Nat.le_trans HB0.out.size HX.out.low, towns_low HX.out.own HB0.out.size, HX.out.ne⟩, HB.out⟩
  · have h1 : (er == 0) = false := by simpa using he
    have h2 : (er != 0) = true := by simp [bne, h1]
    have HE := Lib.hid he
    clear he
    go_enter Tryd.func18, Tryd.ntmps18
    go_wp2_with fail
    rw [← HW0.out]
    obtain ⟨g0, g1, g2, g3⟩ := HGC.out _ (Below.refl _ _)
    go_wp2_with fail
    refine HF.out.mono ?_
    rintro e w1 ⟨rfl, hb⟩
    have HB1 := Lib.hid (HB0.out.trans (hb.mono HB0.out.size))
    clear hb HF g0 g1 g2 g3
    go_wp2
    refine bodyPost_ret (results_tmp2 rfl _ _ _) rfl ?_
    exact .inr ⟨HE.out, rfl, HB1.out⟩
end Go.Proofs.YtpdlpoomgkpogaaDoor
/-
  The program's From, All, Copy.
-/
namespace Go.Proofs.YtpdlpoomgkpogaaDoor
open Go.RowKit
set_option linter.unusedVariables false
set_option linter.unusedSimpArgs false

theorem fromErr_ok {N F C U : Int} {Ss : List ByteArray} (h : fromErr N F C U Ss = 0) : okG N F C U ∧ Ss.length = nodes N F C U ∧ ∀ i, i < Ss.length → (lAt Ss i).size = 32 := by
  unfold fromErr at h
  split at h
  · exact absurd h (by omega)
  · split at h
    · exact absurd h (by omega)
    · split at h
      · rename_i h1 h2 h3
        exact ⟨Decidable.not_not.1 h1, Decidable.not_not.1 h2, h3⟩
      · exact absurd h (by omega)
theorem nodes_ge {N F C U : Int} (h : okG N F C U) : 1 ≤ nodes N F C U := by
  have h1 := nodes_pos h
  obtain ⟨n, f, rfl, rfl, ho⟩ := ok_of h
  have := ho.n1
  omega

/-- A new tree in a box: its list in a row of its own. -/
theorem pt_new {ty : TypeId} {w : World} {B : Nat} {v : Value} {N F C U : Int} {L : List ByteArray} (h : w.ownsRow B 9 1 v L.length (strs L)) (hB : B ≤ w.heap.size) (h9 : ty ≠ 9) :
    GT ty (w.alloc (.cells #[.int .i64 N, .int .i64 F, .int .i64 C, .int .i64 U, v] ty)) B w.heap.size v N F C U L :=
  ⟨heap_alloc_new _ _, hB, owns_kept h fun k hk => Below.heap_alloc _ _ _ (h.lt k hk).2, fun e => by have := (h.lt _ e).2; omega⟩

set_option maxRecDepth 20000 in
set_option maxHeartbeats 4000000 in
theorem tfrom_any (N F C U : Int) (a : Option Addr) (l cap : Nat) (Ss : List ByteArray) (w : World) (hP : Rs w a l cap Ss) :
    Calls Tryd.prog 5 #[geo N F C U, .slice a l cap] w fun e w' => PEnd (fromErr N F C U Ss) N F C U Ss w e w' := by
  have hb0 := (Below.refl w.heap.size w).alloc (Nat.le_refl _) (gbox N F C U)
  have hlen := hP.len
  have hcx : (cap : Int) ≤ 9223372036854775807 := by have := hP.cm; unfold maxLen at this; omega
  have hnd := fun w => nodes_any N F C U w
  have hf := fun w' (hb : Below w.heap.size w w') => fault_dig N F C U (nodes N F C U : Int) a l cap Ss w' (hP.later hb)
  simp only [faultE_from] at hf
  have hgc : ∀ wr, Below (w.alloc (gbox N F C U)).heap.size (w.alloc (gbox N F C U)) wr → wr.cell? ⟨w.heap.size, 0, none⟩ = some (.int .i64 N) ∧ wr.cell? ⟨w.heap.size, 1, none⟩ = some (.int .i64 F) ∧ wr.cell? ⟨w.heap.size, 2, none⟩ = some (.int .i64 C) ∧ wr.cell? ⟨w.heap.size, 3, none⟩ = some (.int .i64 U) := fun wr h => gbox_cells (by simpa using h)
  obtain ⟨w0, hw0⟩ : ∃ w0, w0 = w.alloc (gbox N F C U) := ⟨_, rfl⟩
  rw [← hw0] at hb0 hgc
  have HP := Lib.hid hP
  have HB0 := Lib.hid hb0
  have HGC := Lib.hid hgc
  have HF := Lib.hid hf
  have HW0 := Lib.hid hw0
  obtain ⟨er, her⟩ : ∃ er, er = fromErr N F C U Ss := ⟨_, rfl⟩
  simp only [← her] at HF ⊢
  have HER := Lib.hid her
  obtain ⟨M, hM⟩ : ∃ M : Int, M = (nodes N F C U : Int) := ⟨_, rfl⟩
  simp only [← hM] at hnd HF
  have HND := Lib.hid hnd
  clear hb0 hf hgc hw0 hP her hnd hM
  unfold geo at *
  unfold gbox at HW0
  have hkp : ∀ w', Below w0.drew.heap.size w0.drew w' → (w'.cell? ⟨w.heap.size, 0, none⟩ = some (.int .i64 N) ∧ w'.cell? ⟨w.heap.size, 1, none⟩ = some (.int .i64 F) ∧ w'.cell? ⟨w.heap.size, 2, none⟩ = some (.int .i64 C) ∧ w'.cell? ⟨w.heap.size, 3, none⟩ = some (.int .i64 U)) := fun w' h => HGC.out w' ((Below.refl _ w0).drew.trans h)
  have HKP := Lib.hid hkp
  clear hkp
  go_enter Tryd.func5, Tryd.ntmps5
  go_upto_region 1 with fail
  rw [← HW0.out]
  have hG : Below w0.drew.heap.size w0.drew w0.drew := Below.refl _ _
  have HBT : ∀ w', Below w0.drew.heap.size w0.drew w' → Below w.heap.size w w' := fun w' h => HB0.out.trans (((Below.refl _ w0).drew.trans h).mono HB0.out.size)
  have HBT := Lib.hid HBT
  go_region_held3 (fun w' => (w'.cell? ⟨w.heap.size, 0, none⟩ = some (.int .i64 N) ∧ w'.cell? ⟨w.heap.size, 1, none⟩ = some (.int .i64 F) ∧ w'.cell? ⟨w.heap.size, 2, none⟩ = some (.int .i64 C) ∧ w'.cell? ⟨w.heap.size, 3, none⟩ = some (.int .i64 U)))
    (exact HKP.out _ hG)
    (first
    | (go_at_call 25; with_reducible refine (HND.out _).mono ?_; rintro r wn ⟨rfl, hb⟩; replace hG := hG.trans (hb.mono hG.size); clear hb)
    | (go_at_call 24; with_reducible refine (HF.out _ (HBT.out _ hG)).mono ?_; rintro r wn ⟨rfl, hb⟩; replace hG := hG.trans (hb.mono hG.size); clear hb))
  rename_i hHeld
  clear hHeld
  by_cases he : er = 0
  · subst he
    obtain ⟨hok, hN, h32⟩ := fromErr_ok HER.out.symm
    have hnle := nodes_le N F C U
    have hnp := nodes_ge hok
    have HB1 := Lib.hid (HBT.out _ hG)
    have HG1 := Lib.hid hG
    clear hG hok h32
    go_upto_region 4 with fail
    have hkp : ∀ w', Below wn.drew.heap.size wn.drew w' → (w'.cell? ⟨w.heap.size, 0, none⟩ = some (.int .i64 N) ∧ w'.cell? ⟨w.heap.size, 1, none⟩ = some (.int .i64 F) ∧ w'.cell? ⟨w.heap.size, 2, none⟩ = some (.int .i64 C) ∧ w'.cell? ⟨w.heap.size, 3, none⟩ = some (.int .i64 U)) := fun w' h => HKP.out w' (HG1.out.trans (((Below.refl _ wn).drew.trans h).mono HG1.out.size))
    have hcl := fun w' (hb : Below w.heap.size w w') => tclone_any a l cap Ss w' (HP.out.later hb) (by omega) (by omega)
    have hbt : ∀ w', Below wn.drew.heap.size wn.drew w' → Below w.heap.size w w' := fun w' h => HB1.out.trans (((Below.refl _ wn).drew.trans h).mono HB1.out.size)
    have HCL := Lib.hid hcl
    have HBT2 := Lib.hid hbt
    have HKP2 := Lib.hid hkp
    have hG : Below wn.drew.heap.size wn.drew wn.drew := Below.refl _ _
    clear hcl hbt hkp HG1 HKP HBT hnle hnp
    go_region_held3 (fun w' => (w'.cell? ⟨w.heap.size, 0, none⟩ = some (.int .i64 N) ∧ w'.cell? ⟨w.heap.size, 1, none⟩ = some (.int .i64 F) ∧ w'.cell? ⟨w.heap.size, 2, none⟩ = some (.int .i64 C) ∧ w'.cell? ⟨w.heap.size, 3, none⟩ = some (.int .i64 U)))
      (first | exact HKP2.out _ hG | exact HKP2.out _ (hG.alloc hG.size _))
      (first
      | (go_at_call 27; with_reducible refine (HCL.out _ (HBT2.out _ hG)).mono ?_; rintro r wk ⟨vk, rfl, how, hb⟩; have hgb := HBT2.out _ hG; obtain ⟨ak, ck, rfl, _, _, _⟩ := owns_shape1 how; replace hG := hG.trans (hb.mono hG.size); have HOW := Lib.hid (towns_low how hgb.size); clear hb how hgb))
    rename_i hHeld
    clear hHeld
    have hbk := HBT2.out _ hG
    have hown := HOW.out
    rw [← hlen] at hown
    have HT := Lib.hid (pt_new (ty := 60) (N := N) (F := F) (C := C) (U := U) hown hbk.size (by decide))
    have HBK := Lib.hid (show Below w.heap.size w (wk.alloc (.cells #[.int .i64 N, .int .i64 F, .int .i64 C, .int .i64 U, .slice ak Ss.length ck] 60)) from hbk.alloc hbk.size _)
    clear hbk hown hG HOW
    subst hlen
    go_wp2
    refine bodyPost_ret (results_tmp2 rfl _ _ _) rfl ?_
    exact .inl ⟨rfl, _, _, rfl, HT.out, HBK.out⟩
  · have h1 : (er == 0) = false := by simpa using he
    have h2 : (er != 0) = true := by simp [bne, h1]
    have HE := Lib.hid he
    have HB1 := Lib.hid (HBT.out _ hG)
    clear he hG
    go_wp2
    refine bodyPost_ret (results_tmp2 rfl _ _ _) rfl ?_
    exact .inr ⟨HE.out, rfl, HB1.out⟩


set_option maxRecDepth 20000 in
set_option maxHeartbeats 2000000 in
theorem tcopy_any (B p : Nat) (v : Value) (N F C U : Int) (L : List ByteArray) (w : World) (h : PT w B p v N F C U L) (h0 : 0 < L.length) (h1 : L.length ≤ 1000) :
    Calls Tryd.prog 31 #[.pointer (some ⟨p, 0, none⟩)] w fun e w' => ∃ q v', e = .returned (.pointer (some ⟨q, 0, none⟩)) ∧ PT w' w.heap.size q v' N F C U L ∧ Below w.heap.size w w' := by
  have hkp : ∀ w', Below w.drew.heap.size w.drew w' → (w'.cell? ⟨p, 0, none⟩ = some (.int .i64 N) ∧ w'.cell? ⟨p, 1, none⟩ = some (.int .i64 F) ∧ w'.cell? ⟨p, 2, none⟩ = some (.int .i64 C) ∧ w'.cell? ⟨p, 3, none⟩ = some (.int .i64 U) ∧ w'.cell? ⟨p, 4, none⟩ = some v) := fun w' hb => by
    have hT : PT w' B p v N F C U L := (show PT w.drew B p v N F C U L from h.kept fun _ _ => rfl).below hb
    obtain ⟨c0, c1, c2, c3, c4, _⟩ := hT.cells
    exact ⟨c0, c1, c2, c3, c4⟩
  obtain ⟨a, c, rfl, hrs, _⟩ := towns_shape h.own
  have hcl := fun w' (hb : Below w.drew.heap.size w.drew w') => tclone_any a L.length c L w' (hrs.later ((Below.refl _ w).drew.trans hb)) h0 (by omega)
  have HCL := Lib.hid hcl
  have HKP := Lib.hid hkp
  clear hcl hrs h hkp
  go_enter Tryd.func31, Tryd.ntmps31
  go_upto_region 3 with fail
  have hG : Below w.drew.heap.size w.drew w.drew := Below.refl _ _
  go_region_held3 (fun w' => (w'.cell? ⟨p, 0, none⟩ = some (.int .i64 N) ∧ w'.cell? ⟨p, 1, none⟩ = some (.int .i64 F) ∧ w'.cell? ⟨p, 2, none⟩ = some (.int .i64 C) ∧ w'.cell? ⟨p, 3, none⟩ = some (.int .i64 U) ∧ w'.cell? ⟨p, 4, none⟩ = some (.slice a L.length c)))
    (first | exact HKP.out _ hG | exact HKP.out _ (hG.alloc hG.size _))
    (first
    | (go_at_call 27; with_reducible refine (HCL.out _ hG).mono ?_; rintro r wk ⟨vk, rfl, how, hb⟩; have hgb := (Below.refl _ w).drew.trans hG; obtain ⟨ak, ck, rfl, _, _, _⟩ := owns_shape1 how; replace hG := hG.trans (hb.mono hG.size); have HOW := Lib.hid (towns_low how hgb.size); clear hb how hgb))
  rename_i hHeld
  clear hHeld
  have hbk := (Below.refl _ w).drew.trans hG
  have HT := Lib.hid (pt_new (ty := 60) (N := N) (F := F) (C := C) (U := U) HOW.out hbk.size (by decide))
  have HBK := Lib.hid (show Below w.heap.size w (wk.alloc (.cells #[.int .i64 N, .int .i64 F, .int .i64 C, .int .i64 U, .slice ak L.length ck] 60)) from hbk.alloc hbk.size _)
  clear hbk hG HOW
  go_wp2
  go_ret
  exact ⟨_, _, rfl, HT.out, HBK.out⟩
end Go.Proofs.YtpdlpoomgkpogaaDoor

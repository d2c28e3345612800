/-
  Texts put together: X1, X2.
-/
import Derived.Test.YtpdlpoomgkpogaaDoorMU3
import Derived.Test.YtpdlpoomgkpogaaDoorMU
/-
  The document's New, whole.
-/
namespace Go.Proofs.YtpdlpoomgkpogaaDoor
open Go.RowKit
set_option linter.unusedVariables false
set_option linter.unusedSimpArgs false

set_option maxRecDepth 20000 in
set_option maxHeartbeats 1000000 in
theorem rtnew_any (N F C U : Int) (a : Option Addr) (l cap : Nat) (Ss : List ByteArray) (w : World) (hP : Rs w a l cap Ss) :
    Calls Tryd.prog 20 #[geo N F C U, .slice a l cap] w fun e w' => TEnd (newErr N F C U Ss) N F C U (treeL N F C U Ss) w e w' := by
  have hrt := grright_any N F C U
  have hlen := hP.len
  by_cases hok : okG N F C U
  · by_cases hl : (l : Int) = N
    · exact rtnew_fit N F C U a l cap Ss w hP hok hl
    · rw [decide_eq_true hok] at hrt
      have hb0 := (Below.refl w.heap.size w).alloc (Nat.le_refl _) (gbox N F C U)
      have hgc : ∀ wr, Below (w.alloc (gbox N F C U)).heap.size (w.alloc (gbox N F C U)) wr → wr.cell? ⟨w.heap.size, 0, none⟩ = some (.int .i64 N) ∧ wr.cell? ⟨w.heap.size, 1, none⟩ = some (.int .i64 F) ∧ wr.cell? ⟨w.heap.size, 2, none⟩ = some (.int .i64 C) ∧ wr.cell? ⟨w.heap.size, 3, none⟩ = some (.int .i64 U) := fun wr h => gbox_cells (by simpa using h)
      have he : newErr N F C U Ss = 8 := by unfold newErr; rw [if_neg (fun h => h hok), if_pos (by rw [hlen]; exact hl)]
      rw [he]
      have hl2 : ((l : Int) != N) = true := by simpa using hl
      have HGC := Lib.hid hgc
      have HB0 := Lib.hid hb0
      have hcx : (cap : Int) ≤ 9223372036854775807 := by have := hP.cm; unfold maxLen at this; omega
      clear hgc hb0 he hok hP hlen
      obtain ⟨w1, hw1⟩ : ∃ w1, w1 = w.alloc (gbox N F C U) := ⟨_, rfl⟩
      rw [← hw1] at HB0 HGC
      unfold gbox at hw1
      unfold geo at *
      go_enter Tryd.func20, Tryd.ntmps20
      go_wp2_with fail
      rw [← hw1]
      clear hw1
      refine (hrt _).mono ?_
      rintro e w2 ⟨rfl, hb1⟩
      obtain ⟨g0, g1, g2, g3⟩ := HGC.out w2 hb1
      have HB2 := Lib.hid (HB0.out.trans (hb1.mono HB0.out.size))
      clear hb1 hrt HB0 HGC
      go_wp2
      refine bodyPost_ret (results_tmp2 rfl _ _ _) rfl ?_
      exact .inr ⟨by omega, rfl, HB2.out⟩
  · rw [decide_eq_false hok] at hrt
    have hb0 := (Below.refl w.heap.size w).alloc (Nat.le_refl _) (gbox N F C U)
    have he : newErr N F C U Ss = 12 := by unfold newErr; rw [if_pos hok]
    rw [he]
    have HB0 := Lib.hid hb0
    clear hb0 he hok hP hlen
    obtain ⟨w1, hw1⟩ : ∃ w1, w1 = w.alloc (gbox N F C U) := ⟨_, rfl⟩
    rw [← hw1] at HB0
    unfold gbox at hw1
    unfold geo at *
    go_enter Tryd.func20, Tryd.ntmps20
    go_wp2_with fail
    rw [← hw1]
    clear hw1
    refine (hrt _).mono ?_
    rintro e w2 ⟨rfl, hb1⟩
    have HB2 := Lib.hid (HB0.out.trans (hb1.mono HB0.out.size))
    clear hb1 hrt HB0
    go_wp2
    refine bodyPost_ret (results_tmp2 rfl _ _ _) rfl ?_
    exact .inr ⟨by omega, rfl, HB2.out⟩
end Go.Proofs.YtpdlpoomgkpogaaDoor
/-
  The document's From.
-/
namespace Go.Proofs.YtpdlpoomgkpogaaDoor
open Go.RowKit
set_option linter.unusedVariables false
set_option linter.unusedSimpArgs false

set_option maxRecDepth 20000 in
theorem drright_all (s : ByteArray) (w : World) :
    Calls Tryd.prog 30 #[.string s] w fun e w' => e = .returned (.bool (decide (s.size = 32))) ∧ w' = w := by
  go_enter Tryd.func30, Tryd.ntmps30
  go_wp2
  go_ret
  refine ⟨?_, rfl⟩
  by_cases h : s.size = 32
  · simp [h]
  · have : ¬ ((s.size : Int) = 32) := by omega
    simp [h, this]

set_option maxRecDepth 20000 in
set_option maxHeartbeats 4000000 in
theorem rfrom_any (N F C U : Int) (a : Option Addr) (l cap : Nat) (Ss : List ByteArray) (w : World) (hP : Rs w a l cap Ss) :
    Calls Tryd.prog 6 #[geo N F C U, .slice a l cap] w fun e w' => TEnd (fromErr N F C U Ss) N F C U Ss w e w' := by
  obtain ⟨i0, hi, hz0, hz1, hz2⟩ := info_parts Tryd.info9
  have hb0 := (Below.refl w.heap.size w).alloc (Nat.le_refl _) (gbox N F C U)
  have hrt := grright_any N F C U
  have hnd := fun w => rnodes_any N F C U w
  have hnle := nodes_le N F C U
  have hSl := hP.len
  have hcx : (cap : Int) ≤ 9223372036854775807 := by have := hP.cm; unfold maxLen at this; omega
  obtain ⟨w1, hw1⟩ : ∃ w1, w1 = w.alloc (gbox N F C U) := ⟨_, rfl⟩
  have hw1s : w1.heap.size = w.heap.size + 1 := by rw [hw1]; simp
  have hgc : ∀ wr, Below w1.heap.size w1 wr → wr.cell? ⟨w.heap.size, 0, none⟩ = some (.int .i64 N) ∧ wr.cell? ⟨w.heap.size, 1, none⟩ = some (.int .i64 F) ∧ wr.cell? ⟨w.heap.size, 2, none⟩ = some (.int .i64 C) ∧ wr.cell? ⟨w.heap.size, 3, none⟩ = some (.int .i64 U) := fun wr h => gbox_cells (by rw [← hw1, ← hw1s]; exact h)
  have hPw := hP.later hb0
  rw [← hw1] at hb0 hPw
  have HP := Lib.hid hPw
  have HB0 := Lib.hid hb0
  have HND := Lib.hid hnd
  have HGC := Lib.hid hgc
  unfold gbox at hw1
  clear hPw hb0 hnd hP hgc hw1s
  obtain ⟨er, her⟩ : ∃ er, er = fromErr N F C U Ss := ⟨_, rfl⟩
  rw [← her]
  have HER := Lib.hid her
  clear her
  by_cases hok : okG N F C U
  · rw [decide_eq_true hok] at hrt
    have HOK := Lib.hid hok
    clear hok
    unfold geo at *
    go_enter Tryd.func6, Tryd.ntmps6
    go_wp2_with fail
    rw [← hw1]
    clear hw1
    refine (hrt _).mono ?_
    rintro e w2 ⟨rfl, hb1⟩
    obtain ⟨g0, g1, g2, g3⟩ := HGC.out w2 hb1
    have HB12 := Lib.hid hb1
    clear hb1 hrt
    go_wp2_with fail
    refine (HND.out _).mono ?_
    rintro e w3 ⟨rfl, hb3⟩
    have HB13 := Lib.hid (HB12.out.trans (hb3.mono HB12.out.size))
    have HB3 := Lib.hid (HB0.out.trans (HB13.out.mono HB0.out.size))
    clear hb3 g0 g1 g2 g3 HB12
    obtain ⟨g0, g1, g2, g3⟩ := HGC.out w3 HB13.out
    obtain ⟨M, hM⟩ : ∃ M, M = nodes N F C U := ⟨_, rfl⟩
    rw [← hM] at hnle ⊢
    by_cases hl : l = M
    · have hl2 : ((l : Int) != (M : Int)) = false := by simp [hl]
      have herr : er = if ∀ i, i < l → (lAt Ss i).size = 32 then 0 else 4 := by rw [HER.out]; unfold fromErr; rw [if_neg (fun h => h HOK.out), if_neg (by rw [hSl, hl, hM]; exact fun h => h rfl), hSl]
      have HE := Lib.hid herr
      have HP3 := Lib.hid (HP.out.later HB13.out)
      clear herr HP HND HGC HER
      have hrt0 : RT (w3.alloc (.cells #[.int .i64 N, .int .i64 F, .int .i64 C, .int .i64 U, .slice none 0 0] 63)) w3.heap.size w3.heap.size (.slice none 0 0) N F C U [] :=
        ⟨heap_alloc_new _ _, Nat.le_refl _, World.ownsRow_nil _ _ _ _, by simp [Value.ownBlock]⟩
      have hb3 : Below w3.heap.size w3 (w3.alloc (.cells #[.int .i64 N, .int .i64 F, .int .i64 C, .int .i64 U, .slice none 0 0] 63)) := (Below.refl _ _).alloc (Nat.le_refl _) _
      go_wp2_with fail
      obtain ⟨p, hp⟩ : ∃ p, p = w3.heap.size := ⟨_, rfl⟩
      rw [← hp] at hrt0 ⊢
      clear g0 g1 g2 g3
      go_loopw [7] (fun i wr => ∃ (k : Nat) (v : Value), k ≤ l ∧ i = .int .i64 k ∧ (∀ j, j < k → (lAt Ss j).size = 32) ∧ RT wr w3.heap.size p v N F C U (Ss.take k) ∧ Below w3.heap.size w3 wr) (fun i _ => l - (intOf i).toNat)
      case atStart => exact ⟨0, _, by omega, rfl, fun j hj => by omega, by rw [← hp]; exact hrt0, hb3⟩
      case round =>
        clear hrt0 hb3 hp
        obtain ⟨k, v, hk, rfl, h32, hrt, hB⟩ := hrel
        have H32 := Lib.hid h32
        clear h32
        by_cases hlt : k < l
        · have i3 : (k : Int) < (l : Int) := by omega
          have i4 : (0 : Int) ≤ (k : Int) := by omega
          have hlen : (Ss.take k).length = k := by simp; omega
          have ho := hrt.own
          rw [hlen] at ho
          obtain ⟨_, _, _, _, c4, hf⟩ := hrt.cells
          obtain ⟨b, off, rfl, hbl, hc⟩ := (HP3.out.later hB).at0 (by omega)
          have e0 := hc k hlt
          obtain ⟨sx, hsx⟩ : ∃ s, s = lAt Ss k := ⟨_, rfl⟩
          rw [← hsx] at e0
          have hrg := drright_all sx wr
          by_cases h6 : sx.size = 32
          · rw [decide_eq_true h6] at hrg
            have hrtd : RT wr.drew w3.heap.size p v N F C U (Ss.take k) := hrt.kept fun _ _ => rfl
            have hrw : wr.drew.ownsRow w3.heap.size 9 1 v k (strs (Ss.take k)) := owns_kept ho fun _ _ => rfl
            have hnx : Ss.take k ++ [sx] = Ss.take (k + 1) := by
              rw [List.take_add_one, hsx]
              congr 1
              unfold lAt
              rw [List.getElem?_eq_getElem (by omega)]
              rfl
            obtain ⟨av, cv, rfl, _, _⟩ := towns_shape ho
            have c4a : (wr.drew.alloc (.cells #[.string sx] 9)).cell? ⟨p, 4, none⟩ = some (.slice av k cv) := ((Below.refl wr.drew.heap.size wr.drew).alloc (Nat.le_refl _) _ |>.cell (p := ⟨p, 4, none⟩) hrtd.lt).trans c4
            have c4b : (wr.alloc (.cells #[.string sx] 9)).drew.cell? ⟨p, 4, none⟩ = some (.slice av k cv) := c4a
            have c4d : (wr.alloc (.cells #[.string sx] 9)).cell? ⟨p, 4, none⟩ = some (.slice av k cv) := c4a
            have HRG := Lib.hid hrg
            have H32' := Lib.hid (show ∀ j, j < k + 1 → (lAt Ss j).size = 32 from fun j hj => by
              rcases Nat.lt_or_ge j k with h | h
              · exact H32.out j h
              · obtain rfl : j = k := by omega
                rw [← hsx]; exact h6)
            have HRTd := Lib.hid hrtd
            have HRW := Lib.hid hrw
            have HNX := Lib.hid hnx
            have HB := Lib.hid hB
            clear hrg hrtd hrw hnx hB ho hrt hc hsx h6 hlen
            go_wp2_with fail
            refine HRG.out.mono ?_
            rintro e w4 ⟨rfl, hw4⟩; obtain rfl := hw4.symm; clear hw4
            go_wp2_with fail
            go_region_law (first
              | (refine tstep_append_at (P := Tryd.prog) (o := ⟨some 41, _, _, _, _, _⟩) rfl (.tmp 35) (.tmp 40) 24 rfl w3.heap.size 9 i0 _ 1 16 Tryd.underlying24 hi hz0 hz1 hz2 rfl (by omega) _ _ _ (by rfl) (HRW.out.alloc _) ⟨wr.drew.heap.size, 0, none⟩ 1 1 (strs [sx]) (by rfl) rfl (one_scell wr.drew sx) (strs_one _) (by unfold maxLen; omega) (by omega) (by have h2 := HB.out.size; have h3 : wr.drew.heap.size = wr.heap.size := rfl; simp; omega) ?_; intro v5 w5 how5 hg5 hat5; obtain ⟨a5, n5, rfl, _, _, _⟩ := owns_shape1 how5; have b5 := rt_blk5 HRTd.out (Below.refl _ _) hg5; have c5 : w5.cell? ⟨p, 4, none⟩ = some (.slice av k cv) := (by rw [cell_of_blk b5]; rfl); have f5 := fun i => free_of_blk b5 i))
            all_goals (
              rw [← tstrs_append, HNX.out] at how5
              have hend := rt_end (L' := Ss.take (k + 1)) HRTd.out (w0 := w3) HB.out.drew (Below.refl _ _) hg5 (by have e : (Ss.take (k + 1)).length = k + 1 := (by simp; omega); rw [e]; exact how5)
              have HX := Lib.hid hend
              clear hend how5 hg5 hat5 c4 c4a c4b c4d c5 b5 f5
              go_wp2
              go_roundw
              case rel => exact ⟨k + 1, _, by omega, by go_num, H32'.out, HX.out.1, HX.out.2⟩
              case measure => simp [intOf]; omega)
          · rw [decide_eq_false h6] at hrg
            have he4 : er = 4 := by rw [HE.out, if_neg (fun h => h6 (by rw [hsx]; exact h k hlt))]
            have HRG := Lib.hid hrg
            have HB := Lib.hid (HB3.out.trans (hB.mono HB3.out.size))
            clear hrg hB ho hrt hc hsx h6 hlen c4 hf HE
            subst he4
            go_wp2_with fail
            refine HRG.out.mono ?_
            rintro e w4 ⟨rfl, hw4⟩; obtain rfl := hw4.symm; clear hw4
            go_wp2
            refine bodyPost_ret (results_tmp2 rfl _ _ _) rfl ?_
            exact .inr ⟨by omega, rfl, HB.out⟩
        · obtain rfl : k = l := by omega
          rw [List.take_of_length_le (by omega)] at hrt
          have HX := Lib.hid hrt
          have HB := Lib.hid (HB3.out.trans (hB.mono HB3.out.size))
          have i3 : ¬ (k : Int) < (k : Int) := by omega
          clear hrt hB
          go_wp2
          refine bodyPost_ret (results_tmp2 rfl _ _ _) rfl ?_
          have he0 : er = 0 := by rw [HE.out, if_pos H32.out]
          exact .inl ⟨he0, p, v, rfl, ⟨HX.out.blk, Nat.le_trans HB3.out.size HX.out.low, towns_low HX.out.own HB3.out.size, HX.out.ne⟩, HB.out⟩
    · have hl2 : ((l : Int) != (M : Int)) = true := by simp; omega
      have he : er = 8 := by rw [HER.out]; unfold fromErr; rw [if_neg (fun h => h HOK.out), if_pos (by rw [hSl, ← hM]; exact hl)]
      subst he
      clear HP HND HGC HER
      go_wp2
      refine bodyPost_ret (results_tmp2 rfl _ _ _) rfl ?_
      exact .inr ⟨by omega, rfl, HB3.out⟩
  · rw [decide_eq_false hok] at hrt
    have he : er = 12 := by rw [HER.out]; unfold fromErr; rw [if_pos hok]
    subst he
    clear hok HER
    unfold geo at *
    go_enter Tryd.func6, Tryd.ntmps6
    go_wp2_with fail
    rw [← hw1]
    clear hw1
    refine (hrt _).mono ?_
    rintro e w2 ⟨rfl, hb1⟩
    have HB2 := Lib.hid (HB0.out.trans (hb1.mono HB0.out.size))
    clear hb1 hrt
    go_wp2
    refine bodyPost_ret (results_tmp2 rfl _ _ _) rfl ?_
    exact .inr ⟨by omega, rfl, HB2.out⟩
end Go.Proofs.YtpdlpoomgkpogaaDoor

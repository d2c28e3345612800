/-
  Texts put together: HB.
-/
import Derived.Test.YtpkeikbiblfidaaGreatDoorMH9
/-
  Rehash: the program's.
-/
namespace Go.Proofs.YtpkeikbiblfidaaGreatDoor
open Go.RowKit
set_option linter.unusedVariables false
set_option linter.unusedSimpArgs false

theorem hstrV_data (s : ByteArray) : strV s.data.toList = Value.string s := by cases s; simp [strV]

theorem rehP_geom {N F C U : Int} {D : DS} {l : List Int} (h : ¬ okG N F C U) : rehP N F C U D l = (([], 12), D) := if_pos h
theorem rehP_range {N F C U : Int} {D : DS} {l : List Int} (hok : okG N F C U) (h : ¬ ∀ x ∈ l, 0 ≤ x ∧ x < N) : rehP N F C U D l = (([], 3), D) := by
  unfold rehP; rw [if_neg (by simpa using hok), if_pos h]
theorem rehP_none {N F C U : Int} {D : DS} (hok : okG N F C U) : rehP N F C U D [] = (getP N F C U D ((nodes N F C U - 1 : Nat) : Int), D) := by
  unfold rehP; rw [if_neg (by simpa using hok), if_neg (by simp), if_pos rfl]
/-- What comes of the four parts, one behind another. -/
def rehQ (N F C U : Int) (m : Nat → Bool) (D : DS) : (List UInt8 × Int) × DS :=
  if (othL N F C U m D (nodes N F C U)).2 ≠ 0 then (([], (othL N F C U m D (nodes N F C U)).2), D) else
  if (cmpL N F C U m D (othL N F C U m D (nodes N F C U)).1 (nodes N F C U)).2 ≠ 0 then (([], (cmpL N F C U m D (othL N F C U m D (nodes N F C U)).1 (nodes N F C U)).2), D) else
  if (savR N F C U m (cmpL N F C U m D (othL N F C U m D (nodes N F C U)).1 (nodes N F C U)).1 D (nodes N F C U)).1 ≠ 0 then (([], (savR N F C U m (cmpL N F C U m D (othL N F C U m D (nodes N F C U)).1 (nodes N F C U)).1 D (nodes N F C U)).1), (savR N F C U m (cmpL N F C U m D (othL N F C U m D (nodes N F C U)).1 (nodes N F C U)).1 D (nodes N F C U)).2) else
  (((lAt (cmpL N F C U m D (othL N F C U m D (nodes N F C U)).1 (nodes N F C U)).1 (nodes N F C U - 1)).data.toList, 0), (savR N F C U m (cmpL N F C U m D (othL N F C U m D (nodes N F C U)).1 (nodes N F C U)).1 D (nodes N F C U)).2)
theorem rehP_some {N F C U : Int} {D : DS} {l : List Int} (hok : okG N F C U) (h : ∀ x ∈ l, 0 ≤ x ∧ x < N) (h0 : l ≠ []) : rehP N F C U D l = rehQ N F C U (markP N F C U l) D := by
  unfold rehP rehQ
  rw [if_neg (by simpa using hok), if_neg (by simpa using h), if_neg h0]
  split
  · rfl
  · split
    · rfl
    · dsimp only
      unfold savR
      split
      · rename_i h1
        simp [h1]
      · rfl

set_option maxRecDepth 20000 in
set_option maxHeartbeats 8000000 in
theorem reh_any (B p : Nat) (v1 v2 : Value) (D : DS) (N F C U : Int) (a : Option Addr) (l c : Nat) (xs : List Int) (w : World) (h : PD w B p v1 v2 D) (hB : B ≤ w.heap.size) (hK : Dg.Kon w) (M : Nat) (hok : D.ok M) (hM : M + 300 ≤ 1000000) (hz : D.sz) (hri : Ri w a l c xs) :
    Calls Tryz.prog 19 #[.pointer (some ⟨p, 0, none⟩), geo N F C U, .slice a l c] w fun e w' => e = .returned (.tuple #[strV (rehP N F C U D xs).1.1, .int .i64 (rehP N F C U D xs).1.2]) ∧ PP w B p v1 v2 (rehP N F C U D xs).2 w' := by
  have hcc : (c : Int) ≤ 9223372036854775807 := by have := hri.cm; unfold maxLen at this; omega
  have hlc : (l : Int) ≤ (c : Int) := by have := hri.le; omega
  obtain ⟨R, hR⟩ : ∃ R, R = rehP N F C U D xs := ⟨_, rfl⟩
  rw [← hR]
  obtain ⟨w0, hw0⟩ : ∃ w0, w0 = w.alloc (.cells #[.int .i64 N, .int .i64 F, .int .i64 C, .int .i64 U] 23) := ⟨_, rfl⟩
  have hb0 : Below w.heap.size w w0 := by rw [hw0]; exact (Below.refl _ w).alloc (Nat.le_refl _) _
  have hs0 : w0.heap.size = w.heap.size + 1 := by rw [hw0]; exact World.size_alloc _ _
  have hg0 : w0.heap[w.heap.size]? = some (.cells #[.int .i64 N, .int .i64 F, .int .i64 C, .int .i64 U] 23 (0, 0)) := by rw [hw0]; exact heap_alloc_new w _
  have hgc : ∀ w' : World, w'.heap[w.heap.size]? = w0.heap[w.heap.size]? → w'.cell? ⟨w.heap.size, 0, none⟩ = some (.int .i64 N) ∧ w'.cell? ⟨w.heap.size, 1, none⟩ = some (.int .i64 F) ∧ w'.cell? ⟨w.heap.size, 2, none⟩ = some (.int .i64 C) ∧ w'.cell? ⟨w.heap.size, 3, none⟩ = some (.int .i64 U) := fun w' e => by
    have e := e.trans hg0
    refine ⟨?_, ?_, ?_, ?_⟩ <;> (rw [cell_of_blk e]; rfl)
  have hgr := fun w => gright_any N F C U w
  obtain ⟨c0, c1, c2, c3⟩ := hgc w0 rfl
  have HP := Lib.hid h
  have HK := Lib.hid hK
  have HOK := Lib.hid hok
  have HZ := Lib.hid hz
  have HR := Lib.hid hR
  have HW := Lib.hid hw0
  have HB0 := Lib.hid hb0
  have HGC := Lib.hid hgc
  have HRI := Lib.hid hri
  have HBB := Lib.hid hB
  have HS0 := Lib.hid hs0
  clear h hK hok hz hR hw0 hb0 hgc hri hB hg0 hs0
  unfold geo at hgr ⊢
  by_cases hg : okG N F C U
  · have hd : decide (okG N F C U) = true := by simpa using hg
    simp only [hd] at hgr
    have HGR := Lib.hid hgr
    have HG := Lib.hid hg
    clear hgr hd hg
    obtain ⟨m, why, hmw⟩ : ∃ m why, markR N F C U xs = (m, why) := ⟨_, _, rfl⟩
    obtain ⟨Y, hY⟩ : ∃ Y, Y = marksA m := ⟨_, rfl⟩
    have hmk := mark_any N F C U HG.out a l c xs
    simp only [hmw] at hmk
    simp only [← hY] at hmk
    obtain ⟨Z, hZ⟩ : ∃ Z : Array Value, Z = marksA fun _ => false := ⟨_, rfl⟩
    have hzv := zero_mk
    rw [← hZ] at hzv
    have hi0 : (Tryz.prog.info? 106).map (·.size) = some Y.size := by rw [hY, marksA_size]; kernel_rfl
    have hz0 : Z.size = Y.size := by rw [hZ, hY, marksA_size, marksA_size]
    have ho0 : Y.all (·.oneCell') = true := by rw [hY]; exact marksA_one _
    unfold geo at hmk
    have HMK := Lib.hid hmk
    have HMW := Lib.hid hmw
    have HY := Lib.hid hY
    clear hmk hmw hY hZ
    go_enter Tryz.func19, Tryz.ntmps19
    go_upto_region 1 with fail
    rw [← HW.out]
    go_wp2_with fail
    refine (HGR.out _).mono ?_
    rintro e wa ⟨rfl, hba⟩
    have hBa := HB0.out.trans (hba.mono HB0.out.size)
    obtain ⟨c0, c1, c2, c3⟩ := HGC.out wa (hba.block _ (by have := HS0.out; omega))
    have hmk := HMK.out wa (HRI.out.later hBa)
    have HMK2 := Lib.hid hmk
    have HBA := Lib.hid hba
    clear hba hBa hmk HMK HGR
    go_wp2_with fail
    refine HMK2.out.mono ?_
    rintro e w1 ⟨rfl, hb1⟩
    have hnew := heap_alloc_new w1 (.cells Z 106)
    go_upto_region 4 with (with_reducible refine wpList_store_row (o := ⟨none, _, _, _, _, _⟩) rfl 106 (.tmp 8) (.tmp 20) rfl w1.heap.size Y rfl rfl 106 Z hnew hi0 hz0 ho0 ?_)
    have hB1 := HBA.out.trans (hb1.mono HBA.out.size)
    have hB2 : Below w0.heap.size w0 ((w1.alloc (.cells Z 106)).setRow w1.heap.size Y) := below_setRow (hB1.alloc hB1.size _) hB1.size _
    have hrow := setRow_heap (w1.alloc (.cells Z 106)) w1.heap.size Z Y 106 (0, 0) hnew
    have hgl : w0.heap.size ≤ w1.heap.size := hB1.size
    obtain ⟨gm, hgm⟩ : ∃ g, g = w1.heap.size := ⟨_, rfl⟩
    rw [← hgm] at hB2 hrow hgl ⊢
    obtain ⟨w2, hw2⟩ : ∃ w2, w2 = (w1.alloc (.cells Z 106)).setRow gm Y := ⟨_, rfl⟩
    rw [← hw2] at hB2 hrow ⊢
    have HB2 := Lib.hid hB2
    have HROW := Lib.hid hrow
    have HGM := Lib.hid hgl
    clear hw2 hgm hnew hb1 hB1 hB2 hrow hgl HMK2 HBA c0 c1 c2 c3 hzv hz0
    by_cases hall : ∀ x ∈ xs, 0 ≤ x ∧ x < N
    · obtain ⟨rfl, rfl⟩ : m = markP N F C U xs ∧ why = 0 := by have := HMW.out; unfold markR at this; rw [if_pos hall] at this; exact ⟨(congrArg Prod.fst this).symm, (congrArg Prod.snd this).symm⟩
      have HALL := Lib.hid hall
      clear hall
      by_cases hl0 : l = 0
      · subst hl0
        have hx0 : xs = [] := List.eq_nil_of_length_eq_zero HRI.out.len
        have HE := Lib.hid (show R = (getP N F C U D ((nodes N F C U - 1 : Nat) : Int), D) from by rw [HR.out, hx0]; exact rehP_none HG.out)
        clear hx0
        have hrt := fun w => root_any N F C U w
        have hgt := fun w' (hb : Below w2.drew.heap.size w2.drew w') => nget_any B p v1 v2 D N F C U ((nodes N F C U - 1 : Nat) : Int) w' (HP.out.below (HB0.out.trans ((HB2.out.drew.trans (hb.mono HB2.out.drew.size)).mono HB0.out.size))) M HOK.out (by omega)
        obtain ⟨r, e, hre⟩ : ∃ r e, getP N F C U D ((nodes N F C U - 1 : Nat) : Int) = (r, e) := ⟨_, _, rfl⟩
        have hre2 := HE.out
        rw [hre] at hre2
        simp only [hre] at hgt
        have HE2 := Lib.hid hre2
        obtain ⟨s, hs⟩ : ∃ s : ByteArray, s = ⟨r.toArray⟩ := ⟨_, rfl⟩
        simp only [show strV r = Value.string s from by rw [hs]; rfl] at hgt
        obtain ⟨rt, hrt2⟩ : ∃ x : Int, x = ((nodes N F C U - 1 : Nat) : Int) := ⟨_, rfl⟩
        simp only [← hrt2] at hrt hgt
        unfold geo at hrt hgt
        have HRT := Lib.hid hrt
        have HGT := Lib.hid hgt
        have HS := Lib.hid hs
        have hkp : ∀ w', Below w2.drew.heap.size w2.drew w' → (w'.cell? ⟨w.heap.size, 0, none⟩ = some (.int .i64 N) ∧ w'.cell? ⟨w.heap.size, 1, none⟩ = some (.int .i64 F) ∧ w'.cell? ⟨w.heap.size, 2, none⟩ = some (.int .i64 C) ∧ w'.cell? ⟨w.heap.size, 3, none⟩ = some (.int .i64 U)) := fun w' hb => HGC.out w' ((hb.block _ (by have := HS0.out; have := HB2.out.drew.size; omega)).trans (HB2.out.drew.block _ (by have := HS0.out; omega)))
        have HKP := Lib.hid hkp
        have hG : Below w2.drew.heap.size w2.drew w2.drew := Below.refl _ _
        clear hrt hgt hre hre2 hs hkp hrt2 HE
        go_wp2_with fail
        go_region_held3 (fun w' : World => w'.cell? ⟨w.heap.size, 0, none⟩ = some (.int .i64 N) ∧ w'.cell? ⟨w.heap.size, 1, none⟩ = some (.int .i64 F) ∧ w'.cell? ⟨w.heap.size, 2, none⟩ = some (.int .i64 C) ∧ w'.cell? ⟨w.heap.size, 3, none⟩ = some (.int .i64 U))
          (first | exact HKP.out _ hG)
          (first
          | (go_at_call 71; with_reducible refine (HRT.out _).mono ?_; rintro r wn ⟨rfl, hb⟩; replace hG := hG.trans (hb.mono hG.size); clear hb)
          | (go_at_call 43; with_reducible refine (HGT.out _ hG).mono ?_; rintro r wn2 ⟨rfl, hb⟩; replace hG := hG.trans (hb.mono hG.size); clear hb))
        all_goals (
          rename_i hHeld
          clear hHeld
          have HG2 := Lib.hid hG
          clear hG
          go_wp2
          refine bodyPost_ret (results_tmp2 rfl _ _ _) rfl ?_
          rw [HE2.out]
          refine ⟨by rw [show strV r = Value.string s from by rw [HS.out]; rfl]; rfl, hpp_after HP.out (HB0.out.trans ((HB2.out.drew.trans (HG2.out.mono HB2.out.drew.size)).mono HB0.out.size))⟩)
      · have hl1 : ((l : Int) == 0) = false := by simp; omega
        have hl2 : ((l : Int) != 0) = true := by simp; omega
        have hxn : xs ≠ [] := fun e => hl0 (by rw [← HRI.out.len, e]; rfl)
        have HE := Lib.hid (HR.out.trans (rehP_some HG.out HALL.out hxn))
        have hnl := nodes_le N F C U
        have hnp : 1 ≤ nodes N F C U := by obtain ⟨n', f', rfl, rfl, ho⟩ := ok_of HG.out; have := top_root ho HG.out; omega
        obtain ⟨n, hn⟩ : ∃ n, n = nodes N F C U := ⟨_, rfl⟩
        obtain ⟨m, hm⟩ : ∃ m, m = markP N F C U xs := ⟨_, rfl⟩
        rw [← hm] at HY HE
        have hw2 : Below w.heap.size w w2 := HB0.out.trans (HB2.out.mono HB0.out.size)
        have hs2 : w.heap.size < w2.heap.size := by have := HS0.out; have := HB2.out.size; omega
        have hot := others_any B p v1 v2 D N F C U m w2 (HP.out.below hw2) M HOK.out (by omega)
        rw [← HY.out, ← hn] at hot
        obtain ⟨L1, e1, hL1⟩ : ∃ L1 e1, othL N F C U m D n = (L1, e1) := ⟨_, _, rfl⟩
        have h32 : few32 n L1 := by have := othL_small N F C U m D n; rw [hL1, ← hn] at this; exact this
        rw [hL1] at hot
        dsimp only at hot
        have hQ := HE.out
        unfold rehQ at hQ
        rw [← hn, hL1] at hQ
        dsimp only at hQ
        have hbx : w2.heap[gm]? = some (.cells Y 106 (0, 0)) := HROW.out
        have hgm2 : gm < w2.heap.size := lt_of_block hbx
        have hi1 : (Tryz.prog.info? 106).map (·.size) = some Y.size := hi0
        obtain ⟨c0, c1, c2, c3⟩ := HGC.out w2 (HB2.out.block _ (by have := HS0.out; omega))
        unfold geo at hot
        have HOT := Lib.hid hot
        have HQ := Lib.hid hQ
        have HN := Lib.hid hn
        have H32 := Lib.hid h32
        have HW2 := Lib.hid hw2
        have HS2 := Lib.hid (And.intro hs2 hgm2)
        have HNL := Lib.hid (And.intro hnp hnl)
        clear hl0 hxn hm hot hL1 h32 hQ hn hw2 hs2 hgm2 hnl hnp HE
        go_upto_region 8 with fail
        go_wp2_with (first | (with_reducible refine wpList_load_row (o := ⟨some 38, _, _, _, _, _⟩) rfl 106 (.tmp 8) rfl gm rfl 106 Y (0, 0) _ hbx Tryz.underlying106 rfl hi1 ?_) | (go_at_call 72; with_reducible refine HOT.out.mono ?_))
        rintro e w3 ⟨⟨v, rfl, hv1, hv2⟩, hb3⟩
        by_cases he : e1 = 0
        · subst he
          obtain ⟨g, rfl, hr3⟩ := hv1 rfl
          have hq := HQ.out
          rw [if_neg (by simp)] at hq
          have hw3 : Below w.heap.size w w3 := HW2.out.trans (hb3.mono HW2.out.size)
          have hg3 := hr3.lt g rfl
          have hfl := HP.out.foot_low
          have hgf : ¬ foot p v1 v2 g := fun hx => by have := (hfl _ hx).2; have := HS2.out.1; omega
          have hgk : g ≠ 2 := by have := HK.out.lt; have := HS2.out.1; omega
          have hK3 : Dg.Kon w3 := HK.out.below hw3
          have hP3 := HP.out.below hw3
          have hcp := compute_any B p v1 v2 D w2.heap.size N F C U m g n L1 w3 hP3 hK3 M HOK.out (by omega) HZ.out hr3 hg3.2 hgf hgk (by have := HNL.out.2; have := HN.out; omega) H32.out
          rw [← HY.out] at hcp
          obtain ⟨L2, e2, hL2⟩ : ∃ L2 e2, cmpL N F C U m D L1 n = (L2, e2) := ⟨_, _, rfl⟩
          have h322 : few32 n L2 := by have := cmpL_small N F C U m D H32.out n; rw [hL2] at this; exact this
          rw [hL2] at hcp hq
          dsimp only at hcp hq
          have hbx3 : w3.heap[gm]? = some (.cells Y 106 (0, 0)) := (hb3.block gm HS2.out.2).trans hbx
          obtain ⟨d0, d1, d2, d3⟩ := HGC.out w3 ((hb3.block _ HS2.out.1).trans (HB2.out.block _ (by have := HS0.out; omega)))
          unfold geo at hcp
          have HCP := Lib.hid hcp
          have HQ3 := Lib.hid hq
          have H322 := Lib.hid h322
          have HW3 := Lib.hid hw3
          have HG3 := Lib.hid (And.intro hg3 (And.intro hgf hP3))
          have HB3 := Lib.hid hb3
          clear hv1 hv2 hq hw3 hg3 hfl hgf hgk hK3 hP3 hcp hL2 h322 hr3 c0 c1 c2 c3 HQ HOT hb3
          go_upto_region 11 with fail
          go_wp2_with (first | (with_reducible refine wpList_load_row (o := ⟨some 47, _, _, _, _, _⟩) rfl 106 (.tmp 8) rfl gm rfl 106 Y (0, 0) _ hbx3 Tryz.underlying106 rfl hi1 ?_) | (go_at_call 73; with_reducible refine HCP.out.mono ?_))
          rintro e w4 ⟨rfl, hr4, hf4⟩
          have hgb : ∀ k, k < w3.heap.size → k ≠ g → w4.heap[k]? = w3.heap[k]? := fun k hk hne => hf4.block k hk hne
          by_cases he : e2 = 0
          · subst he
            have hq := HQ3.out
            rw [if_neg (by simp)] at hq
            have hg3 := HG3.out.1
            have hgm3 : gm < w3.heap.size := lt_of_block hbx3
            have hgg : g ≠ gm := by have := HS2.out.2; omega
            have hbx4 : w4.heap[gm]? = some (.cells Y 106 (0, 0)) := (hgb gm hgm3 (Ne.symm hgg)).trans hbx3
            obtain ⟨f0, f1, f2, f3⟩ := HGC.out w4 ((hgb w.heap.size (by have := HS2.out.1; have := HB3.out.size; omega) (by have := HS2.out.1; omega)).trans ((HB3.out.block _ HS2.out.1).trans (HB2.out.block _ (by have := HS0.out; omega))))
            have hP4 : PD w4 B p v1 v2 D := HG3.out.2.2.fr hf4 (fun q hq2 e => HG3.out.2.1 (by rw [← e]; exact hq2))
            have hsv := save_any B p v1 v2 D w2.heap.size N F C U m g n L2 w4 hP4 (Nat.le_trans HBB.out (Nat.le_trans HW3.out.size hf4.size)) M HOK.out hM hr4 (Nat.lt_of_lt_of_le hg3.2 hf4.size) HG3.out.2.1 (by have := HNL.out.2; have := HN.out; omega) H322.out
            rw [← HY.out] at hsv
            obtain ⟨e3, D3, hD3⟩ : ∃ e3 D3, savR N F C U m L2 D n = (e3, D3) := ⟨_, _, rfl⟩
            rw [hD3] at hsv hq
            dsimp only at hsv hq
            unfold geo at hsv
            have hjoin : ∀ T w5, PP w4 B p v1 v2 T w5 → PP w B p v1 v2 T w5 := fun T w5 ⟨va, vb, h1, h2, h3⟩ => by
              refine ⟨va, vb, h1, ⟨h2.os.trans (hf4.os.trans HW3.out.os), h2.tape.trans (hf4.tape.trans HW3.out.tape), h2.output.trans (hf4.output.trans HW3.out.output), Nat.le_trans HW3.out.size (Nat.le_trans hf4.size h2.size), fun k hk hn => ?_⟩, fun k hk => (h3 k hk).elim .inl (fun h => .inr (Nat.le_trans HW3.out.size (Nat.le_trans hf4.size h)))⟩
              have hk3 : k < w3.heap.size := Nat.lt_of_lt_of_le hk HW3.out.size
              exact (h2.block k (Nat.lt_of_lt_of_le hk3 hf4.size) hn).trans ((hgb k hk3 (by have := HS2.out.1; omega)).trans (HW3.out.block k hk))
            have HSV := Lib.hid hsv
            have HQ4 := Lib.hid hq
            have HJ := Lib.hid hjoin
            have HR4 := Lib.hid (And.intro hr4 (And.intro hf4 hP4))
            have HGG := Lib.hid hgg
            clear hq hg3 hgm3 hP4 hsv hD3 hjoin hr4 hgb hgg d0 d1 d2 d3 HQ3 HCP
            have hf42 := hf4.size
            go_upto_region 14 with fail
            go_wp2_with (first | (with_reducible refine wpList_load_row (o := ⟨some 55, _, _, _, _, _⟩) rfl 106 (.tmp 8) rfl gm rfl 106 Y (0, 0) _ hbx4 Tryz.underlying106 rfl hi1 ?_) | (go_at_call 74; with_reducible refine HSV.out.mono ?_))
            rintro e w5 ⟨rfl, hp5⟩
            by_cases he : e3 = 0
            · subst he
              have hq := HQ4.out
              rw [if_neg (by simp)] at hq
              have hfo := HR4.out.2.2.foot_low
              have hbk : ∀ k, k < w4.heap.size → ¬ foot p v1 v2 k → w5.heap[k]? = w4.heap[k]? := fun k hk hn => by obtain ⟨_, _, _, h2, _⟩ := hp5; exact h2.block k hk hn
              have hnf : ∀ k, w.heap.size ≤ k → ¬ foot p v1 v2 k := fun k hk hx => by have := (HP.out.foot_low _ hx).2; omega
              obtain ⟨j0, j1, j2, j3⟩ := HGC.out w5 ((hbk w.heap.size (by have := HS2.out.1; have := HB3.out.size; omega) (hnf _ (Nat.le_refl _))).trans ((hf4.block w.heap.size (by have := HS2.out.1; have := HB3.out.size; omega) (by have := HS2.out.1; have := HG3.out.1.1; omega)).trans ((HB3.out.block _ HS2.out.1).trans (HB2.out.block _ (by have := HS0.out; omega)))))
              have hrt := root_any N F C U w5
              rw [← HN.out] at hrt
              have hn1 : n - 1 < n := by have := HNL.out.1; have := HN.out; omega
              have hl2 : L2.length = n := H322.out.1
              have hcl5 : ∀ w6, Below w5.heap.size w5 w6 → w6.cell? ⟨g, n - 1, none⟩ = some (.string (lAt L2 (n - 1))) := fun w6 hb => by
                have hg4 : g < w4.heap.size := Nat.lt_of_lt_of_le HG3.out.1.2 hf4.size
                have h5 : g < w5.heap.size := by obtain ⟨_, _, _, h2, _⟩ := hp5; exact Nat.lt_of_lt_of_le hg4 h2.size
                rw [World.cell?_of_block (w := w5) (hb.block g h5), World.cell?_of_block (w := w4) (hbk g hg4 HG3.out.2.1)]
                exact owns_cell HR4.out.1 rfl (n - 1) _ (strs_at (by omega))
              obtain ⟨rt, hrt2⟩ : ∃ x : Nat, x = n - 1 := ⟨_, rfl⟩
              rw [← hrt2] at hrt hn1 hcl5 hq
              obtain ⟨s, hs⟩ : ∃ s, s = lAt L2 rt := ⟨_, rfl⟩
              rw [← hs] at hcl5 hq
              have r0 : (0 : Int) ≤ (rt : Int) := by omega
              have r1 : (rt : Int) < (n : Int) := by omega
              unfold geo at hrt
              have HRT := Lib.hid hrt
              have HCL := Lib.hid hcl5
              have HQ5 := Lib.hid hq
              have HP5 := Lib.hid (HJ.out _ _ hp5)
              clear hrt hcl5 hq hp5 hrt2 hs hbk hnf hfo hl2 hn1 f0 f1 f2 f3 HQ4 HSV
              go_wp2_with fail
              refine HRT.out.mono ?_
              rintro e w6 ⟨rfl, hb6⟩
              have hcl := HCL.out w6 hb6
              have HP6 := Lib.hid (show PP w B p v1 v2 D3 w6 from by
                obtain ⟨va, vb, h1, h2, h3⟩ := HP5.out
                exact ⟨va, vb, h1.below hb6, h2.trans (Fr.of_below (A := fun _ => False) hb6) (fun i hi => hi.elim), h3⟩)
              clear hb6
              go_wp2
              refine bodyPost_ret (results_tmp2 rfl _ _ _) rfl ?_
              rw [HQ5.out]
              exact ⟨by rw [hstrV_data]; rfl, HP6.out⟩
            · have he2 : (e3 == 0) = false := by simpa using he
              have he3 : (e3 != 0) = true := by simp [he]
              have hq := HQ4.out
              rw [if_pos he] at hq
              have HQ5 := Lib.hid hq
              have HP5 := Lib.hid (HJ.out _ _ hp5)
              clear hq he hp5
              go_wp2
              refine bodyPost_ret (results_tmp2 rfl _ _ _) rfl ?_
              rw [HQ5.out]
              exact ⟨rfl, HP5.out⟩
          · have he2 : (e2 == 0) = false := by simpa using he
            have he3 : (e2 != 0) = true := by simp [he]
            have hq := HQ3.out
            rw [if_pos he] at hq
            have HQ4 := Lib.hid hq
            have hpp : PP w B p v1 v2 D w4 := by
              have hP4 : PD w4 B p v1 v2 D := HG3.out.2.2.fr hf4 (fun q hq2 e => HG3.out.2.1 (by rw [← e]; exact hq2))
              refine ⟨v1, v2, hP4, ⟨hf4.os.trans HW3.out.os, hf4.tape.trans HW3.out.tape, hf4.output.trans HW3.out.output, Nat.le_trans HW3.out.size hf4.size, fun k hk hn => (hgb k (Nat.lt_of_lt_of_le hk HW3.out.size) (by have := HS2.out.1; have := HG3.out.1.1; omega)).trans (HW3.out.block k hk)⟩, fun k hk => .inl hk⟩
            have HPP := Lib.hid hpp
            clear hq he hpp hgb hr4 hf4
            go_wp2
            refine bodyPost_ret (results_tmp2 rfl _ _ _) rfl ?_
            rw [HQ4.out]
            exact ⟨rfl, HPP.out⟩
        · have he2 : (e1 == 0) = false := by simpa using he
          have he3 : (e1 != 0) = true := by simp [he]
          obtain rfl := hv2 he
          have hq := HQ.out
          rw [if_pos he] at hq
          have HQ3 := Lib.hid hq
          have HB3 := Lib.hid (HW2.out.trans (hb3.mono HW2.out.size))
          clear hq he hb3 hv1 hv2
          go_wp2
          refine bodyPost_ret (results_tmp2 rfl _ _ _) rfl ?_
          rw [HQ3.out]
          exact ⟨rfl, hpp_after HP.out HB3.out⟩
    · obtain ⟨rfl, rfl⟩ : m = (fun _ => false) ∧ why = 3 := by have := HMW.out; unfold markR at this; rw [if_neg hall] at this; exact ⟨(congrArg Prod.fst this).symm, (congrArg Prod.snd this).symm⟩
      have HE := Lib.hid (HR.out.trans (rehP_range HG.out hall))
      clear hall
      go_wp2
      refine bodyPost_ret (results_tmp2 rfl _ _ _) rfl ?_
      rw [HE.out]
      exact ⟨rfl, hpp_after HP.out (HB0.out.trans (HB2.out.mono HB0.out.size))⟩
  · have hd : decide (okG N F C U) = false := by simpa using hg
    simp only [hd] at hgr
    have HGR := Lib.hid hgr
    have HE := Lib.hid (HR.out.trans (rehP_geom hg))
    clear hgr hd hg
    go_enter Tryz.func19, Tryz.ntmps19
    go_upto_region 1 with fail
    rw [← HW.out]
    go_wp2_with fail
    refine (HGR.out _).mono ?_
    rintro e wa ⟨rfl, hba⟩
    have HBA := Lib.hid hba
    clear hba
    go_wp2
    refine bodyPost_ret (results_tmp2 rfl _ _ _) rfl ?_
    rw [HE.out]
    exact ⟨rfl, hpp_after HP.out (HB0.out.trans (HBA.out.mono HB0.out.size))⟩
end Go.Proofs.YtpkeikbiblfidaaGreatDoor

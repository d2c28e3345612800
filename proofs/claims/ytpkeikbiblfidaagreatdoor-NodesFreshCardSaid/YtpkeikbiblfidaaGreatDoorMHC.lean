/-
  Texts put together: HC, HL.
-/
import Derived.Test.YtpkeikbiblfidaaGreatDoorMHB
import Derived.Test.YtpkeikbiblfidaaGreatDoorTie
import Derived.Test.YtpkeikbiblfidaaGreatDoorCards
import Derived.LaidMore
import Derived.OpenShut
import Derived.Stop.Joined
import Derived.SevenTiedAt
/-
  All and Full: the program's.
-/
namespace Go.Proofs.YtpkeikbiblfidaaGreatDoor
open Go.RowKit
set_option linter.unusedVariables false
set_option linter.unusedSimpArgs false

theorem nodes_le1 {N F C U : Int} (hok : okG N F C U) : 1 ≤ nodes N F C U := by
  obtain ⟨n, f, rfl, rfl, ho⟩ := ok_of hok
  have := top_root ho hok
  omega

set_option maxRecDepth 20000 in
set_option maxHeartbeats 4000000 in
theorem nall_any (B p : Nat) (v1 v2 : Value) (D : DS) (N F C U : Int) (w : World) (h : PD w B p v1 v2 D) (M : Nat) (hok : D.ok M) (hM : M ≤ 1000000) :
    Calls Tryz.prog 20 #[.pointer (some ⟨p, 0, none⟩), geo N F C U] w fun e w' => (∃ v, e = .returned (.tuple #[v, .int .i64 (allP N F C U D).2]) ∧ w'.ownsRow w.heap.size 9 1 v (allP N F C U D).1.length (strs (allP N F C U D).1)) ∧ Below w.heap.size w w' := by
  obtain ⟨R, hR⟩ : ∃ R, R = allP N F C U D := ⟨_, rfl⟩
  rw [← hR]
  obtain ⟨w0, hw0⟩ : ∃ w0, w0 = w.alloc (.cells #[.int .i64 N, .int .i64 F, .int .i64 C, .int .i64 U] 23) := ⟨_, rfl⟩
  have hb0 : Below w.heap.size w w0 := by rw [hw0]; exact (Below.refl _ w).alloc (Nat.le_refl _) _
  have hs0 : w0.heap.size = w.heap.size + 1 := by rw [hw0]; exact World.size_alloc _ _
  have hg0 : w0.heap[w.heap.size]? = some (.cells #[.int .i64 N, .int .i64 F, .int .i64 C, .int .i64 U] 23 (0, 0)) := by rw [hw0]; exact heap_alloc_new w _
  have hgc : ∀ w' : World, w'.heap[w.heap.size]? = w0.heap[w.heap.size]? → w'.cell? ⟨w.heap.size, 0, none⟩ = some (.int .i64 N) ∧ w'.cell? ⟨w.heap.size, 1, none⟩ = some (.int .i64 F) ∧ w'.cell? ⟨w.heap.size, 2, none⟩ = some (.int .i64 C) ∧ w'.cell? ⟨w.heap.size, 3, none⟩ = some (.int .i64 U) := fun w' e => by
    have e := e.trans hg0
    refine ⟨?_, ?_, ?_, ?_⟩ <;> (rw [cell_of_blk e]; rfl)
  have hgr := fun w => gright_any N F C U w
  obtain ⟨c0, c1, c2, c3⟩ := hgc w0 rfl
  have HP := Lib.hid h
  have HOK := Lib.hid hok
  have HR := Lib.hid hR
  have HW := Lib.hid hw0
  have HB0 := Lib.hid hb0
  have HGC := Lib.hid hgc
  have HS0 := Lib.hid hs0
  clear h hok hR hw0 hb0 hgc hg0 hs0
  unfold geo at hgr ⊢
  by_cases hg : okG N F C U
  · have hd : decide (okG N F C U) = true := by simpa using hg
    simp only [hd] at hgr
    have HGR := Lib.hid hgr
    have hR2 := HR.out
    unfold allP at hR2
    rw [if_neg (by simpa using hg)] at hR2
    obtain ⟨n, hn⟩ : ∃ n, n = nodes N F C U := ⟨_, rfl⟩
    obtain ⟨L1, e1, hL1⟩ : ∃ L1 e1, othL N F C U (fun _ => false) D n = (L1, e1) := ⟨_, _, rfl⟩
    have h32 : few32 n L1 := by have := othL_small N F C U (fun _ => false) D n; rw [hL1, ← hn] at this; exact this
    have hot := fun w' (hb : Below w.heap.size w w') => others_any B p v1 v2 D N F C U (fun _ => false) w' (HP.out.below hb) M HOK.out hM
    rw [← hn, hL1] at hR2
    simp only [← hn, hL1] at hot
    dsimp only at hR2
    rw [← zero_marks] at hot
    unfold geo at hot
    have HOT := Lib.hid hot
    have HR2 := Lib.hid hR2
    have HL := Lib.hid h32.1
    clear hgr hd hg hR2 hot hL1 h32 hn
    go_enter Tryz.func20, Tryz.ntmps20
    go_upto_region 1 with fail
    rw [← HW.out]
    go_wp2_with fail
    refine (HGR.out _).mono ?_
    rintro e w1 ⟨rfl, hb1⟩
    have hB1 := HB0.out.trans (hb1.mono HB0.out.size)
    obtain ⟨c0, c1, c2, c3⟩ := HGC.out w1 (hb1.block _ (by have := HS0.out; omega))
    have HO2 := Lib.hid (HOT.out w1 hB1)
    have HB1 := Lib.hid hB1
    clear hb1 hB1 HOT
    go_wp2_with fail
    refine HO2.out.mono ?_
    rintro e w2 ⟨⟨v, rfl, hv1, hv2⟩, hb2⟩
    have hB2 := HB1.out.trans (hb2.mono HB1.out.size)
    by_cases he : e1 = 0
    · subst he
      obtain ⟨g, rfl, hr⟩ := hv1 rfl
      have hr2 := owns_low hr HB1.out.size
      have HRR := Lib.hid hr2
      have HB2 := Lib.hid hB2
      clear hv1 hv2 hr hr2 hB2 hb2
      go_wp2
      refine bodyPost_ret (results_tmp2 rfl _ _ _) rfl ?_
      rw [HR2.out]
      dsimp only
      rw [if_neg (by simp), HL.out]
      exact ⟨⟨.slice (some ⟨g, 0, none⟩) n n, rfl, HRR.out⟩, HB2.out⟩
    · obtain rfl := hv2 he
      have HE := Lib.hid he
      have HB2 := Lib.hid hB2
      clear hv1 hv2 he hB2 hb2
      go_wp2
      refine bodyPost_ret (results_tmp2 rfl _ _ _) rfl ?_
      rw [HR2.out]
      dsimp only
      rw [if_pos HE.out]
      exact ⟨⟨.slice none 0 0, rfl, World.ownsRow_nil _ _ _ _⟩, HB2.out⟩
  · have hd : decide (okG N F C U) = false := by simpa using hg
    simp only [hd] at hgr
    have HGR := Lib.hid hgr
    have HE := Lib.hid (show R = ([], 12) from by rw [HR.out]; unfold allP; rw [if_pos hg])
    clear hgr hd hg
    go_enter Tryz.func20, Tryz.ntmps20
    go_upto_region 1 with fail
    rw [← HW.out]
    go_wp2_with fail
    refine (HGR.out _).mono ?_
    rintro e wa ⟨rfl, hba⟩
    have HBA := Lib.hid (HB0.out.trans (hba.mono HB0.out.size))
    clear hba
    go_wp2
    refine bodyPost_ret (results_tmp2 rfl _ _ _) rfl ?_
    rw [HE.out]
    exact ⟨⟨.slice none 0 0, rfl, World.ownsRow_nil _ _ _ _⟩, HBA.out⟩

theorem everyL_length (N : Int) : (everyL N).length = N.toNat := by simp [everyL]
/-- The first k numbers. -/
def firstL (k : Nat) : List Int := (List.range k).map fun i : Nat => (i : Int)
theorem firstL_next (k : Nat) : firstL (k + 1) = firstL k ++ [(k : Int)] := by simp [firstL, List.range_succ]
theorem firstL_length (k : Nat) : (firstL k).length = k := by simp [firstL]

set_option maxRecDepth 20000 in
set_option maxHeartbeats 4000000 in
theorem nfull_any (B p : Nat) (v1 v2 : Value) (D : DS) (N F C U : Int) (w : World) (h : PD w B p v1 v2 D) (hB : B ≤ w.heap.size) (hK : Dg.Kon w) (M : Nat) (hok : D.ok M) (hM : M + 300 ≤ 1000000) (hz : D.sz) :
    Calls Tryz.prog 16 #[.pointer (some ⟨p, 0, none⟩), geo N F C U] w fun e w' => e = .returned (.tuple #[strV (fullP N F C U D).1.1, .int .i64 (fullP N F C U D).1.2]) ∧ PP w B p v1 v2 (fullP N F C U D).2 w' := by
  obtain ⟨i0, hi, hz0, hz1, hz2⟩ := info_parts Tryz.info3
  obtain ⟨R, hR⟩ : ∃ R, R = fullP N F C U D := ⟨_, rfl⟩
  rw [← hR]
  obtain ⟨w0, hw0⟩ : ∃ w0, w0 = w.alloc (.cells #[.int .i64 N, .int .i64 F, .int .i64 C, .int .i64 U] 23) := ⟨_, rfl⟩
  have hb0 : Below w.heap.size w w0 := by rw [hw0]; exact (Below.refl _ w).alloc (Nat.le_refl _) _
  have hs0 : w0.heap.size = w.heap.size + 1 := by rw [hw0]; exact World.size_alloc _ _
  have hg0 : w0.heap[w.heap.size]? = some (.cells #[.int .i64 N, .int .i64 F, .int .i64 C, .int .i64 U] 23 (0, 0)) := by rw [hw0]; exact heap_alloc_new w _
  have hgc : ∀ w' : World, w'.heap[w.heap.size]? = w0.heap[w.heap.size]? → w'.cell? ⟨w.heap.size, 0, none⟩ = some (.int .i64 N) ∧ w'.cell? ⟨w.heap.size, 1, none⟩ = some (.int .i64 F) ∧ w'.cell? ⟨w.heap.size, 2, none⟩ = some (.int .i64 C) ∧ w'.cell? ⟨w.heap.size, 3, none⟩ = some (.int .i64 U) := fun w' e => by
    have e := e.trans hg0
    refine ⟨?_, ?_, ?_, ?_⟩ <;> (rw [cell_of_blk e]; rfl)
  have hgr := fun w => gright_any N F C U w
  obtain ⟨c0, c1, c2, c3⟩ := hgc w0 rfl
  have HP := Lib.hid h
  have HK := Lib.hid hK
  have HOK := Lib.hid hok
  have HZ := Lib.hid hz
  have HR := Lib.hid hR
  have HW := Lib.hid hw0
  have HB0 := Lib.hid hb0
  have HGC := Lib.hid hgc
  have HS0 := Lib.hid hs0
  have HBB := Lib.hid hB
  clear h hK hok hz hR hw0 hb0 hgc hg0 hs0 hB
  unfold geo at hgr ⊢
  by_cases hg : okG N F C U
  · have hd : decide (okG N F C U) = true := by simpa using hg
    simp only [hd] at hgr
    have HGR := Lib.hid hgr
    have hN := hg
    obtain ⟨N1, N2, -⟩ := hN
    obtain ⟨n, rfl⟩ : ∃ n : Nat, N = n := ⟨N.toNat, by omega⟩
    have HG := Lib.hid hg
    have HR2 := Lib.hid (show R = rehP (n : Int) F C U D (firstL n) from by rw [HR.out]; unfold fullP everyL firstL; simp)
    clear hgr hd hg N1
    go_enter Tryz.func16, Tryz.ntmps16
    go_upto_region 1 with fail
    rw [← HW.out]
    go_wp2_with fail
    refine (HGR.out _).mono ?_
    rintro e w1 ⟨rfl, hb1⟩
    have hB1 := HB0.out.trans (hb1.mono HB0.out.size)
    have hgk := hb1.block w.heap.size (by have := HS0.out; omega)
    obtain ⟨c0, c1, c2, c3⟩ := HGC.out w1 hgk
    have HB1 := Lib.hid hB1
    have HGK := Lib.hid (And.intro hgk (show w.heap.size < w1.heap.size by have := HS0.out; have := hb1.size; omega))
    clear hb1 hB1 hgk
    go_wp2
    clear c0 c1 c2 c3
    go_loopw [6, 13] (fun s i wr => ∃ k : Nat, k ≤ n ∧ i = .int .i64 k ∧ wr.ownsRow w1.heap.size 3 1 s k (ivs (firstL k)) ∧ Below w1.heap.size w1 wr) (fun _ i _ => n - (intOf i).toNat)
    case atStart => exact ⟨0, by omega, rfl, World.ownsRow_nil _ _ _ _, Below.refl _ _⟩
    case round =>
      obtain ⟨k, hk, rfl, ho, hB⟩ := hrel
      by_cases hlt : k < n
      · have i1 : (k : Int) < (n : Int) := by omega
        have HBR := Lib.hid hB
        have HS1 := Lib.hid hB.size
        clear hB
        go_wp2_with (at_builtin; refine wpList_append_i (o := ⟨some 19, _, _, _, _, _⟩) rfl (.tmp 16) (.tmp 18) 34 rfl w1.heap.size i0 Tryz.underlying34 hi hz0 hz1 hz2 _ k _ rfl (ho.alloc _) _ rfl rfl (by omega) (by have := HS1.out; simp; omega) ?_)
        intro v5 w5 h1 h2
        rw [← firstL_next] at h1
        have hB5 := (HBR.out.alloc HBR.out.size (.cells #[.int .i64 (k : Int)] 3)).grown h2 (HBR.out.alloc HBR.out.size (.cells #[.int .i64 (k : Int)] 3)).size (fun x e => (ho.lt x e).1)
        obtain ⟨a5, c5, rfl, _, _⟩ := iowns_shape h1 (by omega)
        have HO5 := Lib.hid h1
        have HB5 := Lib.hid hB5
        clear h1 h2 hB5 ho
        go_wp2
        go_roundw
        case rel => exact ⟨k + 1, by omega, by go_num, HO5.out, HB5.out⟩
        case measure => simp [intOf]; omega
      · obtain rfl : k = n := by omega
        have i1 : ¬ (k : Int) < (k : Int) := by omega
        obtain ⟨a5, c5, rfl, hri, _⟩ := iowns_shape ho (by omega)
        have hbw := HB1.out.trans (hB.mono HB1.out.size)
        obtain ⟨c0, c1, c2, c3⟩ := HGC.out wr ((hB.block _ HGK.out.2).trans HGK.out.1)
        have hre := reh_any B p v1 v2 D (k : Int) F C U a5 k c5 (firstL k) wr (HP.out.below hbw) (Nat.le_trans HBB.out hbw.size) (HK.out.below hbw) M HOK.out hM HZ.out hri
        rw [← HR2.out] at hre
        unfold geo at hre
        have HRE := Lib.hid hre
        have HBW := Lib.hid hbw
        obtain ⟨s, hs⟩ : ∃ s : ByteArray, s = ⟨R.1.1.toArray⟩ := ⟨_, rfl⟩
        have hss : strV R.1.1 = Value.string s := by rw [hs]; rfl
        clear hre hri ho hB hbw hs
        rw [hss] at *
        obtain ⟨q, hq⟩ : ∃ q, q = R.1.2 := ⟨_, rfl⟩
        rw [← hq] at *
        have HSS := Lib.hid hss
        clear hss hq
        go_wp2_with fail
        refine HRE.out.mono ?_
        rintro e w2 ⟨rfl, hpp⟩
        have HPP := Lib.hid (hpp_below HBW.out hpp)
        clear hpp
        go_wp2
        refine bodyPost_ret (results_tmp2 rfl _ _ _) rfl ?_
        exact ⟨rfl, HPP.out⟩
  · have hd : decide (okG N F C U) = false := by simpa using hg
    simp only [hd] at hgr
    have HGR := Lib.hid hgr
    have HE := Lib.hid (show R = (([], 12), D) from by rw [HR.out]; exact rehP_geom hg)
    clear hgr hd hg
    go_enter Tryz.func16, Tryz.ntmps16
    go_upto_region 1 with fail
    rw [← HW.out]
    go_wp2_with fail
    refine (HGR.out _).mono ?_
    rintro e wa ⟨rfl, hba⟩
    have HBA := Lib.hid (HB0.out.trans (hba.mono HB0.out.size))
    clear hba
    go_wp2
    refine bodyPost_ret (results_tmp2 rfl _ _ _) rfl ?_
    rw [HE.out]
    exact ⟨rfl, hpp_after HP.out HBA.out⟩
end Go.Proofs.YtpkeikbiblfidaaGreatDoor
/-
  The package-level table of sha, beside unicode/utf8's two: what the row's condition gives the walks; the world of the witness; the card's last step.
-/
namespace Go.Proofs.YtpkeikbiblfidaaGreatDoor
open Go.ChangeShapes Go.WideShapes Go.ChangeAt Go.RowKit
set_option linter.unusedVariables false

def laidR : List (String × DataW Unit) := [("pentimento/sha.rounds", Rows.laid_pentimento_sha_rounds), ("unicode/utf8.acceptRanges", Rows.laid_unicode_utf8_acceptRanges), ("unicode/utf8.first", Rows.laid_unicode_utf8_first)]
theorem gR : Tryz.prog.globalNamed "pentimento/sha.rounds" = some 2 := by kernel_rfl
theorem tR : (Tryz.prog.globals[2]?).map (·.type) = some 177 := by kernel_rfl

theorem rounds_list : (Rows.laid_pentimento_sha_rounds : DataW Unit) = .agg (Dg.kon.map fun (n : Nat) => .lit (.int .u32 (n : Int))) := by rfl

theorem of_laid {W : World} (h : laidMetH Tryz.prog laidR W) : Dg.Kon W := by
  rw [MakeChecks.laidMetH_plain _ _ _ (by kernel_rfl)] at h
  obtain ⟨ps, ⟨g0, t0, cs0, f0, p0, q0, hg0, ht0, hv0, hd0, _, _⟩, _, _⟩ := h
  obtain rfl := Option.some.inj (gR.symm.trans hg0)
  obtain rfl := Option.some.inj (tR.symm.trans ht0)
  obtain ⟨xs, m1, rfl, hx1, hlen, hn3, hel⟩ := DataW.trod_array Tryz.underlying177 hd0
  have c3 : Tryz.prog.cellsOf 150 = 1 := by kernel_rfl
  intro j hj
  have h0 := hel j hj
  rw [c3, Nat.mul_one] at h0
  have hjx : j < xs.length := by omega
  rw [List.getElem?_eq_getElem hjx] at h0
  obtain ⟨k, e1, e2, _⟩ := DataW.trod_int Tryz.underlying150 h0
  have hx2 := congrArg Prod.fst hx1
  simp only [rounds_list, DataW.agg.injEq] at hx2
  have hjk : j < Dg.kon.length := hj
  have hx3 := congrArg (fun l => l[j]?) hx2
  simp only [List.getElem?_map, List.getElem?_eq_getElem hjx, List.getElem?_eq_getElem hjk, Option.map_some, e2, Option.some.injEq, DataW.lit.injEq, Lit.int.injEq, true_and] at hx3
  have := World.var?_cell hg0 hv0 j
  rw [this]
  have e3 : cs0[j]? = some (.int .u32 k) := by
    have e4 := congrArg (fun l => l[0]?) e1
    simpa using e4
  rw [e3, ← hx3]
  simp [Dg.konAt, List.getD, List.getElem?_eq_getElem hjk]
/-- A list of ints that came in. -/
theorem gri_of_ints {w : World} {x : Addr} {l c : Nat} {zs : List Int} (hl : l ≤ c) (hm : c ≤ maxLen) (hr : c ≤ 140737488351232) (hz : zs.length = c)
    (hcell : ∀ i, i < zs.length → w.cell? (x.add i) = some (.int .i64 (zs.getD i 0))) : Ri w (some x) l c (zs.take l) := by
  refine ⟨by simp; omega, hl, by omega, hm, fun h0 => ?_, fun e => by cases e⟩
  obtain ⟨b, off, spot⟩ := x
  have hc := hcell 0 (by omega)
  have hspot : spot = none := by simpa [Addr.add] using World.cell?_spot hc
  subst hspot
  have hb := World.block_lt_of_cell? w _ hc
  rw [Addr.add_none] at hb
  refine ⟨b, off, rfl, hb, fun i hi => ?_⟩
  have h1 := hcell i (by omega)
  rw [Addr.add_none] at h1
  rw [h1]
  have hi2 : i < zs.length := by omega
  have e1 : zs.getD i 0 = zs[i] := by simp [List.getD, List.getElem?_eq_getElem hi2]
  have e2 : (zs.take l)[i]?.getD 0 = zs[i] := by
    rw [List.getElem?_take_of_lt hi, List.getElem?_eq_getElem hi2]
    rfl
  rw [e1, e2]
end Go.Proofs.YtpkeikbiblfidaaGreatDoor

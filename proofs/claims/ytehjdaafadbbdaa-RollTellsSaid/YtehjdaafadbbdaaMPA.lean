/-
  Texts put together: PA.
-/
import Derived.Test.YtehjdaafadbbdaaMP9
/-
  The walk of RollTells.
-/
namespace Go.Proofs.Ytehjdaafadbbdaa
open Go.RowKit
set_option linter.unusedVariables false
set_option linter.unusedSimpArgs false

set_option maxRecDepth 20000 in
set_option maxHeartbeats 8000000 in
theorem rolltells_near (N F C U : Int) (a1 : Option Addr) (l1 c1 : Nat) (X : Nat → Int × ByteArray) (a2 : Option Addr) (l2 c2 : Nat) (E : List En) (place : Int) (w : World) (hP : Pts w a1 l1 c1 X) (hE : Es w a2 l2 c2 E) (h1 : l1 ≤ 30) (h2 : l2 ≤ 30)
    (hEb : ∀ b off, a2 = some ⟨b, off, none⟩ → 0 < l2 → b < w.heap.size) :
    Calls Try.prog 3 #[geo N F C U, .slice a1 l1 c1, .slice a2 l2 c2, .int .i64 place] w fun e w' => e = .returned (.bool true) ∧ Below w.heap.size w w' := by
  have HKN := Lib.hid (fun w => known16_any w)
  have hb0 : Below w.heap.size w (w.alloc (.cells #[.int .i64 N, .int .i64 F, .int .i64 C, .int .i64 U] 23)) := (Below.refl w.heap.size w).alloc (Nat.le_refl _) _
  have hgc := gb_cells w N F C U
  have hs0 := World.size_alloc w (.cells #[.int .i64 N, .int .i64 F, .int .i64 C, .int .i64 U] 23)
  have hcx1 : (c1 : Int) ≤ 9223372036854775807 := by have := hP.cm; unfold maxLen at this; omega
  have hcx2 : (c2 : Int) ≤ 9223372036854775807 := by have := hE.cm; unfold maxLen at this; omega
  have hle1 := hP.le
  have hle2 := hE.le
  have hln2 := hE.len
  have g1 : ¬ (30 : Int) < (l1 : Int) := by omega
  have g2 : ¬ (30 : Int) < (l2 : Int) := by omega
  have hn1 := fun w => dnew_any 60 w (by omega) (by omega)
  have hn2 := fun w => rnew_any 60 w (by omega) (by omega)
  rw [show ((60 : Nat) : Int) = 60 from rfl] at hn1 hn2
  unfold gbox at hgc
  unfold geo
  obtain ⟨W, hW⟩ : ∃ W, W = w.alloc (.cells #[.int .i64 N, .int .i64 F, .int .i64 C, .int .i64 U] 23) := ⟨_, rfl⟩
  rw [← hW] at hgc hb0 hs0
  have HN1 := Lib.hid hn1
  have HN2 := Lib.hid hn2
  have HGC := Lib.hid (show ∀ w', Below W.heap.size W w' → w'.cell? ⟨w.heap.size, 0, none⟩ = some (.int .i64 N) ∧ w'.cell? ⟨w.heap.size, 1, none⟩ = some (.int .i64 F) ∧ w'.cell? ⟨w.heap.size, 2, none⟩ = some (.int .i64 C) ∧ w'.cell? ⟨w.heap.size, 3, none⟩ = some (.int .i64 U) from fun w' hb => hgc w' (by rw [← hs0]; exact hb))
  have HB0 := Lib.hid hb0
  have HW := Lib.hid hW
  have HP := Lib.hid (hP.later hb0)
  have HE := Lib.hid (hE.later hb0)
  have HEB := Lib.hid (show ∀ b off, a2 = some ⟨b, off, none⟩ → 0 < l2 → b < W.heap.size from fun b off e h0 => by have := hEb b off e h0; omega)
  have HLN := Lib.hid hln2
  clear hn1 hn2 hgc hb0 hs0 hP hE hEb hln2
  go_enter Try.func3, Try.ntmps3
  go_upto_region 3 with fail
  rw [← HW.out]
  clear hW
  go_wp2_with fail
  refine (HN1.out _).mono ?_
  rintro e w1 ⟨p, v1, rfl, hp, hb1⟩
  have HP1 := Lib.hid hp
  have HB1 := Lib.hid hb1
  clear hp hb1 HN1
  go_wp2_with fail
  refine (HN2.out _).mono ?_
  rintro e w2 ⟨q, u1, rfl, hq, hb2⟩
  obtain ⟨A0, hT0, _⟩ := two_new HP1.out hq hb2 HB1.out.size
  have HT0 := Lib.hid hT0
  have HB2 := Lib.hid (HB1.out.trans (hb2.mono HB1.out.size))
  clear hq hb2 hT0 HN2 HP1 HB1
  go_wp2
  go_loopw [13] (fun i wr => ∃ (k : Nat) (A : Nat → Prop), k ≤ l1 ∧ i = .int .i64 k ∧ Two wr W.heap.size p q A (putD (ds0 60) X k) ∧ Below W.heap.size W wr) (fun i _ => l1 - (intOf i).toNat)
  case atStart => exact ⟨0, A0, by omega, rfl, HT0.out, HB2.out⟩
  case round =>
    obtain ⟨k, A, hk, rfl, hT, hB⟩ := hrel
    by_cases hlt : k < l1
    · have i0 : (0 : Int) ≤ (k : Int) := by omega
      have i1 : (k : Int) < (l1 : Int) := by omega
      obtain ⟨b, off, rfl, hbl, hcl⟩ := (HP.out.later hB).at0 (by omega)
      obtain ⟨b', off', eb, hb0, -⟩ := HP.out.at0 (by omega)
      cases eb
      obtain ⟨d0, d1⟩ := hcl k hlt
      have hok := putD_ok (ds0_ok 60 (by omega)) X k
      rw [Nat.zero_add] at hok
      by_cases hlong : 200 < (X k).2.size
      · have j1 : (200 : Int) < ((X k).2.size : Int) := by omega
        have HBB := Lib.hid hB
        generalize (X k).2 = x1 at *
        clear hT hB hcl hok hlong
        go_wp2_with fail
        refine (HKN.out _).mono ?_
        rintro e w3 ⟨rfl, hb⟩
        have HB3 := Lib.hid (HB0.out.trans ((HBB.out.trans (hb.mono HBB.out.size)).mono HB0.out.size))
        clear hb
        go_wp2
        go_ret
        exact ⟨rfl, HB3.out⟩
      · have j1 : ¬ (200 : Int) < ((X k).2.size : Int) := by omega
        obtain ⟨v1', v2', u1', u2', hp, hq, hd, hA⟩ := hT
        have hpd := hp.below (Below.refl _ wr).drew
        have hqd := hq.below (Below.refl _ wr).drew
        have hw1 := write_any W.heap.size p v1' v2' _ (X k).1 (X k).2 wr.drew hpd hB.size k hok (by omega)
        obtain ⟨R, T, hRT⟩ : ∃ R T, (putD (ds0 60) X k).write (X k).1 (X k).2 = (R, T) := ⟨_, _, rfl⟩
        have hputs : putD (ds0 60) X (k + 1) = T := by show ((putD (ds0 60) X k).write _ _).2 = T; rw [hRT]
        have hw2 := fun w5 (hr : RD w5 W.heap.size q u1' u2' (putD (ds0 60) X k)) (hz : W.heap.size ≤ w5.heap.size) => rwrite_any W.heap.size q u1' u2' _ (X k).1 (X k).2 w5 hr hz k hok (by omega)
        rw [hRT] at hw1
        simp only [hRT] at hw2
        dsimp only at hw1 hw2
        have hlow := fun j hj => hp.foot_low j hj
        have hlowq := fun j hj => hq.foot_low j hj
        have hnb1 : ∀ j, foot p v1' v2' j → j ≠ b := fun j hj e => by have := (hlow j hj).1; omega
        have hnb2 : ∀ j, foot q u1' u2' j → j ≠ b := fun j hj e => by have := (hlowq j hj).1; omega
        have hst : wr.drew.cell? ⟨b, off + k * 2, none⟩ = some (.int .i64 (X k).1) ∧ wr.drew.cell? ⟨b, off + k * 2 + 1, none⟩ = some (.string (X k).2) := ⟨d0, d1⟩
        have hce1 := fun w5 (hx : PP wr.drew W.heap.size p v1' v2' T w5) => (show w5.cell? ⟨b, off + k * 2, none⟩ = some (.int .i64 (X k).1) ∧ w5.cell? ⟨b, off + k * 2 + 1, none⟩ = some (.string (X k).2) from by
          have e : w5.heap[b]? = wr.drew.heap[b]? := hx.old b hbl (fun hf => hnb1 b hf rfl)
          exact ⟨by rw [World.cell?_of_block (w := wr.drew) e]; exact d0, by rw [World.cell?_of_block (w := wr.drew) e]; exact d1⟩)
        have hrda := fun w5 (hx : PP wr.drew W.heap.size p v1' v2' T w5) => rd_after hqd hd hx
        have htwo := fun w5 w6 (hx : PP wr.drew W.heap.size p v1' v2' T w5) (hy : RP w5 W.heap.size q u1' u2' T w6) => two_after hqd hpd hd hA hx hy
        have htb := fun w' (hx : TP wr.drew W.heap.size p q A T w') => TP.below hx (show Two wr.drew W.heap.size p q A (putD (ds0 60) X k) from ⟨v1', v2', u1', u2', hpd, hqd, hd, hA⟩) hB.drew
        have HW1 := Lib.hid hw1
        have HW2 := Lib.hid hw2
        have HST := Lib.hid hst
        have HCE := Lib.hid hce1
        have HRD := Lib.hid hrda
        have HTW := Lib.hid htwo
        have HTB := Lib.hid htb
        have HPU := Lib.hid hputs
        have HBB := Lib.hid hB
        have HNB := Lib.hid hnb2
        have HBL := Lib.hid hbl
        generalize (X k).1 = x0 at *
        generalize (X k).2 = x1 at *
        clear hcl hok hlong hp hq hd hA hpd hqd hw1 hw2 hRT hputs hlow hlowq hnb1 hnb2 hst hce1 hrda htwo htb hB hbl hb0
        go_upto_region 10 with fail
        go_region_held3 (fun w' => w'.cell? ⟨b, off + k * 2, none⟩ = some (.int .i64 x0) ∧ w'.cell? ⟨b, off + k * 2 + 1, none⟩ = some (.string x1))
          (first | exact HST.out | exact HCE.out _ hx)
          (first
          | (go_at_call 7; with_reducible refine HW1.out.mono ?_; rintro r w5 ⟨rfl, hx⟩))
        rename_i hHeld
        have hs5 := hx.size
        have hcd := hHeld
        have hqr := (HRD.out _ hx).below (Below.refl _ w5).drew
        have HCD := Lib.hid (show w5.drew.cell? ⟨b, off + k * 2, none⟩ = some (.int .i64 x0) ∧ w5.drew.cell? ⟨b, off + k * 2 + 1, none⟩ = some (.string x1) from hHeld)
        have hw2 := HW2.out w5.drew hqr (Nat.le_trans HBB.out.size hs5)
        have hce2 := fun w6 (hy : RP w5.drew W.heap.size q u1' u2' T w6) => (show w6.cell? ⟨b, off + k * 2, none⟩ = some (.int .i64 x0) ∧ w6.cell? ⟨b, off + k * 2 + 1, none⟩ = some (.string x1) from by
          have e : w6.heap[b]? = w5.drew.heap[b]? := hy.old b (Nat.lt_of_lt_of_le HBL.out hs5) (fun hf => HNB.out b hf rfl)
          exact ⟨by rw [World.cell?_of_block (w := w5.drew) e]; exact HCD.out.1, by rw [World.cell?_of_block (w := w5.drew) e]; exact HCD.out.2⟩)
        have HX := Lib.hid hx
        have HW2' := Lib.hid hw2
        have HCE2 := Lib.hid hce2
        clear hHeld hcd hqr hx hw2 hce2 hs5 HW1 HCE HST HRD HW2 d0 d1
        obtain ⟨d0, d1⟩ := HCD.out
        go_upto_region 11 with fail
        go_region_held3 (fun w' => w'.cell? ⟨b, off + k * 2, none⟩ = some (.int .i64 x0) ∧ w'.cell? ⟨b, off + k * 2 + 1, none⟩ = some (.string x1))
          (first | exact HCD.out | exact HCE2.out _ hy)
          (first
          | (go_at_call 8; with_reducible refine HW2'.out.mono ?_; rintro r w6 ⟨rfl, hy⟩))
        rename_i hHeld
        clear hHeld
        have hy' : RP w5 W.heap.size q u1' u2' T w6 := by
          obtain ⟨b1, b2, hp', hF', hN'⟩ := hy
          exact ⟨b1, b2, hp', ⟨hF'.os, hF'.tape, hF'.output, hF'.size, hF'.block⟩, hN'⟩
        have htp := HTW.out _ _ HX.out hy'
        have hbf := HTB.out _ htp
        obtain ⟨A', hT', _, _⟩ := htp
        have HT' := Lib.hid hT'
        have HBF := Lib.hid hbf
        clear hy hy' hT' hbf HX HW2' HCE2 HTW HTB HCD d0 d1
        go_wp2
        go_roundw
        case rel => exact ⟨k + 1, A', by omega, by go_num, by rw [HPU.out]; exact HT'.out, HBF.out⟩
        case measure => simp [intOf]; omega
    · obtain rfl : k = l1 := by omega
      have i1 : ¬ (k : Int) < (k : Int) := by omega
      have HT := Lib.hid hT
      have HBB := Lib.hid hB
      clear hT hB
      go_wp2
      go_loopw [14] (fun i wr2 => ∃ j : Nat, j ≤ l2 ∧ i = .int .i64 j ∧ wr2 = wr) (fun i _ => l2 - (intOf i).toNat)
      case atStart => exact ⟨0, by omega, rfl, rfl⟩
      case round =>
        obtain ⟨j, hj, rfl, hwr⟩ := hrel
        subst hwr
        by_cases hltj : j < l2
        · have i0 : (0 : Int) ≤ (j : Int) := by omega
          have i1 : (j : Int) < (l2 : Int) := by omega
          obtain ⟨b, off, rfl, hbl, hcl⟩ := (HE.out.later HBB.out).at0 (by omega)
          obtain ⟨d0, d1, d2, d3⟩ := hcl j hltj
          by_cases hlong : 200 < (eAt E j).old.size
          · have j1 : (200 : Int) < ((eAt E j).old.size : Int) := by omega
            generalize (eAt E j).old = x1 at *
            clear hcl hlong d0 d1 d2
            go_wp2_with fail
            refine (HKN.out _).mono ?_
            rintro e w3 ⟨rfl, hb⟩
            have HB3 := Lib.hid (HB0.out.trans ((HBB.out.trans (hb.mono HBB.out.size)).mono HB0.out.size))
            clear hb
            go_wp2
            go_ret
            exact ⟨rfl, HB3.out⟩
          · have j1 : ¬ (200 : Int) < ((eAt E j).old.size : Int) := by omega
            generalize (eAt E j).old = x1 at *
            clear hcl hlong d0 d1 d2
            go_wp2
            go_roundw
            case rel => exact ⟨j + 1, by omega, by go_num, trivial⟩
            case measure => simp [intOf]; omega
        · obtain rfl : j = l2 := by omega
          have i1 : ¬ (j : Int) < (j : Int) := by omega
          have hok := putD_ok (ds0_ok 60 (by omega)) X k
          rw [Nat.zero_add] at hok
          have hlen := putD_len (ds0 60) X k
          rw [show (ds0 60).L.length = 60 from by simp [ds0]] at hlen
          obtain ⟨T, hTd⟩ : ∃ T, T = putD (ds0 60) X k := ⟨_, rfl⟩
          rw [← hTd] at HT hok hlen
          clear hTd
          have hlj : E.length = j := HLN.out
          have hWf : T.W.length ≤ 1000000 := by have := hok.few; have := hok.did; omega
          have hEr := fun w' (hb : Below wr.heap.size wr w') => HE.out.later (HBB.out.trans (hb.mono HBB.out.size))
          have hfd := fun w' (hb : Below wr.heap.size wr w') => find_prog a2 j c2 E place w' (hEr w' hb)
          have hrf := fun w' (hb : Below wr.heap.size wr w') => rfind_prog a2 j c2 E place w' (hEr w' hb)
          obtain ⟨v1, v2, u1, u2, hp, hq, hd, hA⟩ := HT.out
          have hvw := fun w' (hb : Below wr.heap.size wr w') => view_any W.heap.size p v1 v2 T a2 j c2 E place w' (hp.below hb) hWf (by omega) (hEr w' hb)
          have hrv := fun w' (hb : Below wr.heap.size wr w') => rview_any W.heap.size q u1 u2 T a2 j c2 E place w' (hq.below hb) hWf (by omega) (hEr w' hb)
          obtain ⟨fs, fb, hfv⟩ := findV_two (findE E place)
          rw [hfv] at hfd hrf
          obtain ⟨vs, ve, hve⟩ : ∃ s e, viewP T E place = (s, e) := ⟨_, _, rfl⟩
          rw [hve] at hvw hrv
          unfold two at hvw hrv
          dsimp only at hvw hrv
          have gf := fun op x y w => guard_tx op x y fs fs w
          have gv := fun op x y w => guard_tx op x y vs vs w
          obtain ⟨VF, hVF⟩ : ∃ V : Value, V = .string fs := ⟨_, rfl⟩
          obtain ⟨VV, hVV⟩ : ∃ V : Value, V = .string vs := ⟨_, rfl⟩
          have qf : ∀ w, (binOp .neq 9 VF VF).run Try.prog w = .ok (.bool false) w := fun w => by rw [hVF, neq_tx]; simp
          have qv : ∀ w, (binOp .neq 9 VV VV).run Try.prog w = .ok (.bool false) w := fun w => by rw [hVV, neq_tx]; simp
          simp only [← hVF] at gf hfd hrf
          simp only [← hVV] at gv hvw hrv
          have qb : (fb != fb) = false := by simp
          have qe : (ve != ve) = false := by simp
          have HFD := Lib.hid hfd
          have HRF := Lib.hid hrf
          have HVW := Lib.hid hvw
          have HRV := Lib.hid hrv
          have HPQ := Lib.hid (And.intro hp (And.intro hq (And.intro hd hA)))
          have HOK := Lib.hid hok
          have HLEN := Lib.hid hlen
          clear hfd hrf hvw hrv hfv hve hVF hVV hp hq hd hA hok hlen hEr
          go_wp2_with fail
          refine (HFD.out _ (Below.refl _ _)).mono ?_
          rintro e y1 ⟨rfl, hb⟩
          have HY1 := Lib.hid hb
          clear hb HFD
          go_wp2_with fail
          refine (HRF.out _ HY1.out).mono ?_
          rintro e y2 ⟨rfl, hb⟩
          have HY2 := Lib.hid (HY1.out.trans (hb.mono HY1.out.size))
          clear hb HRF HY1
          go_wp2_with fail
          refine (HVW.out _ HY2.out).mono ?_
          rintro e y3 ⟨rfl, hb⟩
          have HY3 := Lib.hid (HY2.out.trans (hb.mono HY2.out.size))
          clear hb HVW HY2
          go_wp2_with fail
          refine (HRV.out _ HY3.out).mono ?_
          rintro e y4 ⟨rfl, hb⟩
          have HY4 := Lib.hid (HY3.out.trans (hb.mono HY3.out.size))
          clear hb HRV HY3
          -- the fuses
          obtain ⟨hp, hq, hd, hA⟩ := HPQ.out
          have hp4 := hp.below HY4.out
          have hq4 := hq.below HY4.out
          have hB4 := HBB.out.trans (HY4.out.mono HBB.out.size)
          have nw : IntKind.i64.wrap ((k : Int) + 1) = (k : Int) + 1 := IntWalk.i64_in _ (by omega)
          have hfu := fuse_any W.heap.size p v1 v2 T ((k : Int) + 1) y4 hp4
          have hfr := fun w5 (hr : RD w5 W.heap.size q u1 u2 T) => rfuse_any W.heap.size q u1 u2 T ((k : Int) + 1) w5 hr
          have hok2 := HOK.out.fuse ((k : Int) + 1) (by omega)
          have hlen2 : (T.fuse ((k : Int) + 1)).L.length = 60 := HLEN.out
          obtain ⟨T2, hT2⟩ : ∃ T2, T2 = T.fuse ((k : Int) + 1) := ⟨_, rfl⟩
          rw [← hT2] at hfu hok2 hlen2
          simp only [← hT2] at hfr
          have hr4 := fun w5 (hx : PP y4 W.heap.size p v1 v2 T2 w5) => rd_after hq4 hd hx
          have ht4 := fun w5 w6 (hx : PP y4 W.heap.size p v1 v2 T2 w5) (hy : RP w5 W.heap.size q u1 u2 T2 w6) => two_after hq4 hp4 hd hA hx hy
          have hb4 := fun w' (hx : TP y4 W.heap.size p q A T2 w') => TP.below hx (show Two y4 W.heap.size p q A T from ⟨v1, v2, u1, u2, hp4, hq4, hd, hA⟩) hB4
          have HFU := Lib.hid hfu
          have HFR := Lib.hid hfr
          have HR4 := Lib.hid hr4
          have HT4 := Lib.hid ht4
          have HB4 := Lib.hid hb4
          have HOK2 := Lib.hid hok2
          have HLEN2 := Lib.hid hlen2
          clear hp hq hd hA hp4 hq4 hB4 hfu hfr hr4 ht4 hb4 hok2 hlen2 hT2 HPQ HT HOK HLEN HY4
          go_wp2_with fail
          refine HFU.out.mono ?_
          rintro e y5 ⟨rfl, hx⟩
          have HX5 := Lib.hid hx
          have hfr := HFR.out y5 (HR4.out _ hx)
          have HFR' := Lib.hid hfr
          clear hx hfr HFU HFR HR4
          go_wp2_with fail
          refine HFR'.out.mono ?_
          rintro e y6 ⟨rfl, hy⟩
          have htp := HT4.out _ _ HX5.out hy
          have hB6 := HB4.out _ htp
          obtain ⟨A6, hT6, _, _⟩ := htp
          have HT6 := Lib.hid hT6
          have HB6 := Lib.hid hB6
          clear hy hT6 hB6 HX5 HFR' HT4 HB4 HBB
          -- both Backs
          obtain ⟨v1, v2, u1, u2, hp, hq, hd, hA⟩ := HT6.out
          have hpd := hp.below (Below.refl _ y6).drew
          have hqd := hq.below (Below.refl _ y6).drew
          have hE6 := (HE.out.later HB6.out).later (Below.refl _ y6).drew
          have hbk := back_any W.heap.size p v1 v2 T2 N F C U a2 j c2 E y6.drew hpd HB6.out.size k HOK2.out (by omega) hE6 (fun b off e h0 => ⟨fun hf => by have h1 := HEB.out b off e h0; have h2 := (hp.foot_low b hf).1; omega, Nat.lt_of_lt_of_le (HEB.out b off e h0) HB6.out.size⟩)
          have hrb := fun w5 (hr : RD w5 W.heap.size q u1 u2 T2) (hz : W.heap.size ≤ w5.heap.size) (hX5 : Es w5 a2 j c2 E) => rback_any W.heap.size q u1 u2 T2 N F C U a2 j c2 E w5 hr hz k HOK2.out (by omega) hX5 (fun b off e h0 hf => by have h1 := HEB.out b off e h0; have h2 := (hq.foot_low b hf).1; omega)
          have hokb := backP_ok HOK2.out (N := N) (F := F) (C := C) (U := U) E
          have hlenb := backP_len N F C U T2 E
          rw [HLEN2.out] at hlenb
          obtain ⟨BR, BT, hBP⟩ : ∃ R T, backP N F C U T2 E = (R, T) := ⟨_, _, rfl⟩
          rw [hBP] at hbk hokb hlenb
          simp only [hBP] at hrb
          dsimp only at hbk hokb hlenb hrb
          have hda := fun w5 (hx : PP y6.drew W.heap.size p v1 v2 BT w5) => rd_after hqd hd hx
          have hea := fun w5 (hx : PP y6.drew W.heap.size p v1 v2 BT w5) => (show Es w5 a2 j c2 E from by
            obtain ⟨_, _, _, hF, _⟩ := hx
            exact hE6.fr hF fun b off e h0 hf => by have h1 := HEB.out b off e h0; have h2 := (hp.foot_low b hf).1; omega)
          have hta := fun w5 w6 (hx : PP y6.drew W.heap.size p v1 v2 BT w5) (hy : RP w5 W.heap.size q u1 u2 BT w6) => two_after hqd hpd hd hA hx hy
          have hba := fun w' (hx : TP y6.drew W.heap.size p q A6 BT w') => TP.below hx (show Two y6.drew W.heap.size p q A6 T2 from ⟨v1, v2, u1, u2, hpd, hqd, hd, hA⟩) HB6.out.drew
          have hga : ∀ w5, PP y6.drew W.heap.size p v1 v2 BT w5 → Below W.heap.size W w5 := fun w5 hx => by
            obtain ⟨_, _, _, hF, _⟩ := hx
            exact HB6.out.drew.trans (hF.below (fun i hi => (hp.foot_low i hi).1) HB6.out.size)
          unfold geo at hbk hrb
          have HBK := Lib.hid hbk
          have HRB := Lib.hid hrb
          have HDA := Lib.hid hda
          have HEA := Lib.hid hea
          have HTA := Lib.hid hta
          have HBA := Lib.hid hba
          have HGA := Lib.hid hga
          have HOKB := Lib.hid hokb
          have HLNB := Lib.hid hlenb
          have qr : (BR != BR) = false := by simp
          clear hp hq hd hA hpd hqd hE6 hbk hrb hokb hlenb hBP hda hea hta hba hga HOK2 HLEN2
          obtain ⟨c0, c1', c2', c3⟩ := HGC.out _ HB6.out.drew
          go_upto_region 25 with fail
          clear c0 c1' c2' c3
          refine wp_region_held_drew (S := fun w' => w'.cell? ⟨w.heap.size, 0, none⟩ = some (.int .i64 N) ∧ w'.cell? ⟨w.heap.size, 1, none⟩ = some (.int .i64 F) ∧ w'.cell? ⟨w.heap.size, 2, none⟩ = some (.int .i64 C) ∧ w'.cell? ⟨w.heap.size, 3, none⟩ = some (.int .i64 U)) (by kernel_rfl) (HGC.out _ HB6.out.drew) (fun hHeld => ?_)
          refine wpAnyH_take (i := 0) (oi := { dst := some 149, op := Op.move (Operand.tmp 9), type := 27, pos := "law.go:64", after := #[], guard := none }) (v := ?_) rfl (by kernel_rfl) (by kernel_rfl) (by kernel_rfl) (fun _ _ _ h => h) (Or.inl ⟨by rfl, ?_⟩) (by assumption) ?_
          rotate_left
          · (intro w hSw; (try dsimp only at hSw); go_simp <;> with_reducible rfl)
          try simp only [Act.put, List.setIfInBounds_toArray, List.set_cons_zero, List.set_cons_succ]
          refine wpAnyH_take (i := 1) (oi := { dst := some 150, op := Op.load 23 (Operand.tmp 4), type := 23, pos := "law.go:64", after := #[], guard := none }) (v := ?_) rfl (by kernel_rfl) (by kernel_rfl) (by kernel_rfl) (fun _ _ _ h => h) (Or.inl ⟨by rfl, ?_⟩) (by assumption) ?_
          rotate_left
          · (intro w hSw; (try dsimp only at hSw); go_simp <;> with_reducible rfl)
          try simp only [Act.put, List.setIfInBounds_toArray, List.set_cons_zero, List.set_cons_succ]
          refine wpAnyH_take (i := 2) (oi := { dst := some 151, op := Op.move (Operand.tmp 2), type := 25, pos := "law.go:64", after := #[], guard := none }) (v := ?_) rfl (by kernel_rfl) (by kernel_rfl) (by kernel_rfl) (fun _ _ _ h => h) (Or.inl ⟨by rfl, ?_⟩) (by assumption) ?_
          rotate_left
          · (intro w hSw; (try dsimp only at hSw); go_simp <;> with_reducible rfl)
          try simp only [Act.put, List.setIfInBounds_toArray, List.set_cons_zero, List.set_cons_succ]
          refine wpAnyH_take (i := 4) (oi := { dst := some 153, op := Op.move (Operand.tmp 11), type := 31, pos := "law.go:64", after := #[], guard := none }) (v := ?_) rfl (by kernel_rfl) (by kernel_rfl) (by kernel_rfl) (fun _ _ _ h => h) (Or.inl ⟨by rfl, ?_⟩) (by assumption) ?_
          rotate_left
          · (intro w hSw; (try dsimp only at hSw); go_simp <;> with_reducible rfl)
          try simp only [Act.put, List.setIfInBounds_toArray, List.set_cons_zero, List.set_cons_succ]
          refine wpAnyH_take (i := 5) (oi := { dst := some 154, op := Op.load 23 (Operand.tmp 4), type := 23, pos := "law.go:64", after := #[], guard := none }) (v := ?_) rfl (by kernel_rfl) (by kernel_rfl) (by kernel_rfl) (fun _ _ _ h => h) (Or.inl ⟨by rfl, ?_⟩) (by assumption) ?_
          rotate_left
          · (intro w hSw; (try dsimp only at hSw); go_simp <;> with_reducible rfl)
          try simp only [Act.put, List.setIfInBounds_toArray, List.set_cons_zero, List.set_cons_succ]
          refine wpAnyH_take (i := 6) (oi := { dst := some 155, op := Op.move (Operand.tmp 2), type := 25, pos := "law.go:64", after := #[], guard := none }) (v := ?_) rfl (by kernel_rfl) (by kernel_rfl) (by kernel_rfl) (fun _ _ _ h => h) (Or.inl ⟨by rfl, ?_⟩) (by assumption) ?_
          rotate_left
          · (intro w hSw; (try dsimp only at hSw); go_simp <;> with_reducible rfl)
          try simp only [Act.put, List.setIfInBounds_toArray, List.set_cons_zero, List.set_cons_succ]
          refine wpAnyH_ready (rs := [3]) (by kernel_rfl) (by simp) ?_
          refine AllReadyH.cons (o := { dst := some 152, op := Op.call { callee := Callee.value (Operand.func 15), args := #[Operand.tmp 149, Operand.tmp 150, Operand.tmp 151], argTypes := #[27, 23, 25] }, type := 28, pos := "law.go:64", after := #[{ on := 0, ground := Ground.data }, { on := 1, ground := Ground.data }, { on := 2, ground := Ground.data }], guard := none }) rfl (fun KZ hKZ => ?_) AllReadyH.nil
          go_simp
          go_at_call 15
          refine HBK.out.mono ?_
          rintro r wk1 ⟨rfl, hx⟩
          replace hKZ := Lib.hid hKZ
          refine hKZ.out _ _ (HGC.out _ (HGA.out _ hx)) (fun hHeld => ?_)
          clear hKZ KZ
          try simp only [Act.put, List.setIfInBounds_toArray, List.set_cons_zero, List.set_cons_succ]
          refine wpAnyH_ready (rs := [7]) (by kernel_rfl) (by simp) ?_
          refine AllReadyH.cons (o := { dst := some 156, op := Op.call { callee := Callee.value (Operand.func 16), args := #[Operand.tmp 153, Operand.tmp 154, Operand.tmp 155], argTypes := #[31, 23, 25] }, type := 28, pos := "law.go:64", after := #[{ on := 4, ground := Ground.data }, { on := 5, ground := Ground.data }, { on := 6, ground := Ground.data }, { on := 3, ground := Ground.chain }], guard := none }) rfl (fun KZ hKZ => ?_) AllReadyH.nil
          go_simp
          go_at_call 16
          refine (HRB.out wk1 (HDA.out _ hx) (HGA.out _ hx).size (HEA.out _ hx)).mono ?_
          rintro r wk2 ⟨rfl, hy⟩
          replace hKZ := Lib.hid hKZ
          refine hKZ.out _ _ (HGC.out _ (HBA.out _ (HTA.out _ _ hx hy))) (fun hHeld => ?_)
          clear hKZ KZ
          try simp only [Act.put, List.setIfInBounds_toArray, List.set_cons_zero, List.set_cons_succ]
          have hTB := HTA.out _ _ hx hy
          have hBB7 := HBA.out _ hTB
          obtain ⟨A7, hT7, _, _⟩ := hTB
          have HT7 := Lib.hid hT7
          obtain ⟨x1, x2, z1, z2, hp7, hq7, hd7, hA7⟩ := hT7
          have hqc : ∀ w', Below wk2.heap.size wk2 w' → w'.cell? ⟨q, 4, none⟩ = some (.int .i64 (BT.did : Int)) ∧ w'.cell? ⟨q, 1, none⟩ = some z2 := fun w' hb => by
            obtain ⟨d0, d1, d2, d3, d4, hg⟩ := (hq7.below hb).cells
            exact ⟨d4, d1⟩
          have hdn := fun w' (hb : Below wk2.heap.size wk2 w') => (done_any p (BT.did : Int) w' (by obtain ⟨fu, e, c0, c1, c2, c3, c4, c5, hf⟩ := (hp7.below hb).cells; exact c5)).mono (R' := fun e w'' => e = .returned (.int .i64 (BT.did : Int)) ∧ Below w'.heap.size w' w'') fun e w'' h => ⟨h.1, by rw [h.2]; exact Below.refl _ _⟩
          have hfw : BT.W.length ≤ 1000000 := by have h1 := HOKB.out.few; have h2 := HOKB.out.did; omega
          have hwt := fun w' (hb : Below wk2.heap.size wk2 w') => waits_any W.heap.size p x1 x2 BT w' (hp7.below hb) hfw
          have hpt := fun w' (hb : Below wk2.heap.size wk2 w') v' B' (ho : w'.ownsRow B' 69 2 v' BT.W.length (puts BT.W)) => rputs_same v' z2 BT.W w' (Wr.of_owns ho hfw) (Wr.of_owns (hq7.below hb).own2 hfw)
          obtain ⟨dd, hdd⟩ : ∃ d : Int, d = (BT.did : Int) := ⟨_, rfl⟩
          simp only [← hdd] at hqc hdn
          have qd : (dd != dd) = false := by simp
          obtain ⟨az, cz, rfl, _, _, _⟩ := owns_shape1 hq7.own2
          have HQC := Lib.hid hqc
          have HDN := Lib.hid hdn
          have HWT := Lib.hid hwt
          have HPT := Lib.hid hpt
          have HB7 := Lib.hid hBB7
          have hZ := Below.refl wk2.heap.size wk2
          have HGL := Lib.hid (fun w' (hb : Below wk2.heap.size wk2 w') => HGC.out w' (HB7.out.trans (hb.mono HB7.out.size)))
          clear hp7 hq7 hd7 hA7 hqc hdn hwt hpt hBB7 hx hy hdd HTA HBA hfw HRB HDA HEA HGA HBK
          refine wpAnyH_take (i := 8) (oi := { dst := some 157, op := Op.binOp BinOp.neq 28 (Operand.tmp 152) (Operand.tmp 156) 28, type := 4, pos := "law.go:64", after := #[{ on := 3, ground := Ground.data }, { on := 7, ground := Ground.data }], guard := none }) (v := ?_) rfl (by kernel_rfl) (by kernel_rfl) (by kernel_rfl) (fun _ _ _ h => h) (Or.inl ⟨by rfl, ?_⟩) (by assumption) ?_
          rotate_left
          · (intro w hSw; (try dsimp only at hSw); go_simp <;> with_reducible rfl)
          try simp only [Act.put, List.setIfInBounds_toArray, List.set_cons_zero, List.set_cons_succ]
          refine wpAnyH_take (i := 9) (oi := { dst := some 158, op := Op.move (Operand.tmp 157), type := 4, pos := "law.go:64", after := #[{ on := 8, ground := Ground.data }, { on := 7, ground := Ground.chain }], guard := none }) (v := ?_) rfl (by kernel_rfl) (by kernel_rfl) (by kernel_rfl) (fun _ _ _ h => h) (Or.inl ⟨by rfl, ?_⟩) (by assumption) ?_
          rotate_left
          · (intro w hSw; (try dsimp only at hSw); go_simp <;> with_reducible rfl)
          try simp only [Act.put, List.setIfInBounds_toArray, List.set_cons_zero, List.set_cons_succ]
          refine wpAnyH_take (i := 10) (oi := { dst := some 159, op := Op.move (Operand.tmp 9), type := 27, pos := "law.go:64", after := #[{ on := 9, ground := Ground.guard }], guard := some (9, false) }) (v := ?_) rfl (by kernel_rfl) (by kernel_rfl) (by kernel_rfl) (fun _ _ _ h => h) (Or.inl ⟨by rfl, ?_⟩) (by assumption) ?_
          rotate_left
          · (intro w hSw; (try dsimp only at hSw); go_simp <;> with_reducible rfl)
          try simp only [Act.put, List.setIfInBounds_toArray, List.set_cons_zero, List.set_cons_succ]
          refine wpAnyH_take (i := 12) (oi := { dst := some 161, op := Op.move (Operand.tmp 11), type := 31, pos := "law.go:64", after := #[{ on := 9, ground := Ground.guard }], guard := some (9, false) }) (v := ?_) rfl (by kernel_rfl) (by kernel_rfl) (by kernel_rfl) (fun _ _ _ h => h) (Or.inl ⟨by rfl, ?_⟩) (by assumption) ?_
          rotate_left
          · (intro w hSw; (try dsimp only at hSw); go_simp <;> with_reducible rfl)
          try simp only [Act.put, List.setIfInBounds_toArray, List.set_cons_zero, List.set_cons_succ]
          refine wpAnyH_take (i := 13) (oi := { dst := some 162, op := Op.nilCheck (Operand.tmp 161), type := 0, pos := "law.go:64", after := #[{ on := 12, ground := Ground.data }, { on := 9, ground := Ground.guard }], guard := some (9, false) }) (v := ?_) rfl (by kernel_rfl) (by kernel_rfl) (by kernel_rfl) (fun _ _ _ h => h) (Or.inl ⟨by rfl, ?_⟩) (by assumption) ?_
          rotate_left
          · (intro w hSw; (try dsimp only at hSw); go_simp <;> with_reducible rfl)
          try simp only [Act.put, List.setIfInBounds_toArray, List.set_cons_zero, List.set_cons_succ]
          refine wpAnyH_take (i := 14) (oi := { dst := some 163, op := Op.fieldAddr 52 (Operand.tmp 162) 4, type := 0, pos := "law.go:64", after := #[{ on := 13, ground := Ground.data }, { on := 9, ground := Ground.guard }], guard := some (9, false) }) (v := ?_) rfl (by kernel_rfl) (by kernel_rfl) (by kernel_rfl) (fun _ _ _ h => h) (Or.inl ⟨by rfl, ?_⟩) (by assumption) ?_
          rotate_left
          · (intro w hSw; (try dsimp only at hSw); go_simp <;> with_reducible rfl)
          try simp only [Act.put, List.setIfInBounds_toArray, List.set_cons_zero, List.set_cons_succ]
          refine wpAnyH_ready (rs := [11, 15]) (by kernel_rfl) (by simp) ?_
          refine AllReadyH.cons (o := { dst := some 160, op := Op.call { callee := Callee.value (Operand.func 17), args := #[Operand.tmp 159], argTypes := #[27] }, type := 3, pos := "law.go:64", after := #[{ on := 10, ground := Ground.data }, { on := 9, ground := Ground.chain }, { on := 9, ground := Ground.guard }], guard := some (9, false) }) rfl (fun KZ hKZ => ?_) (AllReadyH.cons (o := { dst := some 164, op := Op.load 3 (Operand.tmp 163), type := 3, pos := "law.go:64", after := #[{ on := 14, ground := Ground.data }, { on := 9, ground := Ground.guard }], guard := some (9, false) }) rfl (fun KZ hKZ => ?_) AllReadyH.nil)
          · go_simp
            go_at_call 17
            refine (HDN.out _ hZ).mono ?_
            rintro r wk ⟨rfl, hb⟩
            replace hZ := hZ.trans (hb.mono hZ.size)
            clear hb
            replace hKZ := Lib.hid hKZ
            refine hKZ.out _ _ (HGL.out _ hZ) (fun hHeld => ?_)
            clear hKZ KZ
            try simp only [Act.put, List.setIfInBounds_toArray, List.set_cons_zero, List.set_cons_succ]
            refine wpAnyH_ready (rs := [15]) (by kernel_rfl) (by simp) ?_
            refine AllReadyH.cons (o := { dst := some 164, op := Op.load 3 (Operand.tmp 163), type := 3, pos := "law.go:64", after := #[{ on := 14, ground := Ground.data }, { on := 9, ground := Ground.guard }], guard := some (9, false) }) rfl (fun KZ hKZ => ?_) AllReadyH.nil
            obtain ⟨dqa, dqb⟩ := HQC.out _ hZ
            go_simp
            clear dqa dqb
            replace hKZ := Lib.hid hKZ
            refine hKZ.out _ _ (HGL.out _ hZ) (fun hHeld => ?_)
            clear hKZ KZ
            try simp only [Act.put, List.setIfInBounds_toArray, List.set_cons_zero, List.set_cons_succ]
            refine wpAnyH_take (i := 16) (oi := { dst := some 165, op := Op.binOp BinOp.neq 3 (Operand.tmp 160) (Operand.tmp 164) 3, type := 4, pos := "law.go:64", after := #[{ on := 11, ground := Ground.data }, { on := 15, ground := Ground.data }, { on := 9, ground := Ground.guard }], guard := some (9, false) }) (v := ?_) rfl (by kernel_rfl) (by kernel_rfl) (by kernel_rfl) (fun _ _ _ h => h) (Or.inl ⟨by rfl, ?_⟩) (by assumption) ?_
            rotate_left
            · (intro w hSw; (try dsimp only at hSw); go_simp <;> with_reducible rfl)
            try simp only [Act.put, List.setIfInBounds_toArray, List.set_cons_zero, List.set_cons_succ]
            refine wpAnyH_take (i := 17) (oi := { dst := some 166, op := Op.pick (Operand.tmp 158) (Operand.const (Value.bool true)) (Operand.tmp 165), type := 4, pos := "law.go:64", after := #[{ on := 9, ground := Ground.data }, { on := 16, ground := Ground.data }], guard := none }) (v := ?_) rfl (by kernel_rfl) (by kernel_rfl) (by kernel_rfl) (fun _ _ _ h => h) (Or.inl ⟨by rfl, ?_⟩) (by assumption) ?_
            rotate_left
            · (intro w hSw; (try dsimp only at hSw); go_simp <;> with_reducible rfl)
            try simp only [Act.put, List.setIfInBounds_toArray, List.set_cons_zero, List.set_cons_succ]
            refine wpAnyH_take (i := 18) (oi := { dst := some 167, op := Op.move (Operand.tmp 166), type := 4, pos := "law.go:64", after := #[{ on := 17, ground := Ground.data }, { on := 11, ground := Ground.chain }], guard := none }) (v := ?_) rfl (by kernel_rfl) (by kernel_rfl) (by kernel_rfl) (fun _ _ _ h => h) (Or.inl ⟨by rfl, ?_⟩) (by assumption) ?_
            rotate_left
            · (intro w hSw; (try dsimp only at hSw); go_simp <;> with_reducible rfl)
            try simp only [Act.put, List.setIfInBounds_toArray, List.set_cons_zero, List.set_cons_succ]
            refine wpAnyH_take (i := 19) (oi := { dst := some 168, op := Op.move (Operand.tmp 9), type := 27, pos := "law.go:64", after := #[{ on := 18, ground := Ground.guard }], guard := some (18, false) }) (v := ?_) rfl (by kernel_rfl) (by kernel_rfl) (by kernel_rfl) (fun _ _ _ h => h) (Or.inl ⟨by rfl, ?_⟩) (by assumption) ?_
            rotate_left
            · (intro w hSw; (try dsimp only at hSw); go_simp <;> with_reducible rfl)
            try simp only [Act.put, List.setIfInBounds_toArray, List.set_cons_zero, List.set_cons_succ]
            refine wpAnyH_take (i := 21) (oi := { dst := some 170, op := Op.move (Operand.tmp 11), type := 31, pos := "law.go:64", after := #[{ on := 18, ground := Ground.guard }], guard := some (18, false) }) (v := ?_) rfl (by kernel_rfl) (by kernel_rfl) (by kernel_rfl) (fun _ _ _ h => h) (Or.inl ⟨by rfl, ?_⟩) (by assumption) ?_
            rotate_left
            · (intro w hSw; (try dsimp only at hSw); go_simp <;> with_reducible rfl)
            try simp only [Act.put, List.setIfInBounds_toArray, List.set_cons_zero, List.set_cons_succ]
            refine wpAnyH_take (i := 22) (oi := { dst := some 171, op := Op.nilCheck (Operand.tmp 170), type := 0, pos := "law.go:64", after := #[{ on := 21, ground := Ground.data }, { on := 18, ground := Ground.guard }], guard := some (18, false) }) (v := ?_) rfl (by kernel_rfl) (by kernel_rfl) (by kernel_rfl) (fun _ _ _ h => h) (Or.inl ⟨by rfl, ?_⟩) (by assumption) ?_
            rotate_left
            · (intro w hSw; (try dsimp only at hSw); go_simp <;> with_reducible rfl)
            try simp only [Act.put, List.setIfInBounds_toArray, List.set_cons_zero, List.set_cons_succ]
            refine wpAnyH_take (i := 23) (oi := { dst := some 172, op := Op.fieldAddr 52 (Operand.tmp 171) 1, type := 0, pos := "law.go:64", after := #[{ on := 22, ground := Ground.data }, { on := 18, ground := Ground.guard }], guard := some (18, false) }) (v := ?_) rfl (by kernel_rfl) (by kernel_rfl) (by kernel_rfl) (fun _ _ _ h => h) (Or.inl ⟨by rfl, ?_⟩) (by assumption) ?_
            rotate_left
            · (intro w hSw; (try dsimp only at hSw); go_simp <;> with_reducible rfl)
            try simp only [Act.put, List.setIfInBounds_toArray, List.set_cons_zero, List.set_cons_succ]
            refine wpAnyH_ready (rs := [20, 24]) (by kernel_rfl) (by simp) ?_
            refine AllReadyH.cons (o := { dst := some 169, op := Op.call { callee := Callee.value (Operand.func 19), args := #[Operand.tmp 168], argTypes := #[27] }, type := 50, pos := "law.go:64", after := #[{ on := 19, ground := Ground.data }, { on := 18, ground := Ground.chain }, { on := 18, ground := Ground.guard }], guard := some (18, false) }) rfl (fun KZ hKZ => ?_) (AllReadyH.cons (o := { dst := some 173, op := Op.load 50 (Operand.tmp 172), type := 50, pos := "law.go:64", after := #[{ on := 23, ground := Ground.data }, { on := 18, ground := Ground.guard }], guard := some (18, false) }) rfl (fun KZ hKZ => ?_) AllReadyH.nil)
            · go_simp
              go_at_call 19
              refine (HWT.out _ hZ).mono ?_
              rintro r wk' ⟨vw, rfl, how, hb⟩
              replace hZ := hZ.trans (hb.mono hZ.size)
              clear hb
              replace hKZ := Lib.hid hKZ
              refine hKZ.out _ _ (HGL.out _ hZ) (fun hHeld => ?_)
              clear hKZ KZ
              try simp only [Act.put, List.setIfInBounds_toArray, List.set_cons_zero, List.set_cons_succ]
              refine wpAnyH_ready (rs := [24]) (by kernel_rfl) (by simp) ?_
              refine AllReadyH.cons (o := { dst := some 173, op := Op.load 50 (Operand.tmp 172), type := 50, pos := "law.go:64", after := #[{ on := 23, ground := Ground.data }, { on := 18, ground := Ground.guard }], guard := some (18, false) }) rfl (fun KZ hKZ => ?_) AllReadyH.nil
              obtain ⟨dqa, dqb⟩ := HQC.out _ hZ
              go_simp
              clear dqa dqb
              replace hKZ := Lib.hid hKZ
              refine hKZ.out _ _ (HGL.out _ hZ) (fun hHeld => ?_)
              clear hKZ KZ
              try simp only [Act.put, List.setIfInBounds_toArray, List.set_cons_zero, List.set_cons_succ]
              refine wpAnyH_ready (rs := [25]) (by kernel_rfl) (by simp) ?_
              refine AllReadyH.cons (o := { dst := some 174, op := Op.call { callee := Callee.value (Operand.func 18), args := #[Operand.tmp 169, Operand.tmp 173], argTypes := #[50, 50] }, type := 4, pos := "law.go:64", after := #[{ on := 20, ground := Ground.data }, { on := 24, ground := Ground.data }, { on := 20, ground := Ground.chain }, { on := 18, ground := Ground.guard }], guard := some (18, false) }) rfl (fun KZ hKZ => ?_) AllReadyH.nil
              go_simp
              go_at_call 18
              refine (HPT.out _ hZ _ _ how).mono ?_
              rintro r wk'' ⟨rfl, hb⟩
              replace hZ := hZ.trans (hb.mono hZ.size)
              clear hb
              replace hKZ := Lib.hid hKZ
              refine hKZ.out _ _ (HGL.out _ hZ) (fun hHeld => ?_)
              clear hKZ KZ
              try simp only [Act.put, List.setIfInBounds_toArray, List.set_cons_zero, List.set_cons_succ]
              refine wpAnyH_take (i := 26) (oi := { dst := some 175, op := Op.unOp UnOp.not 4 (Operand.tmp 174), type := 4, pos := "law.go:64", after := #[{ on := 25, ground := Ground.data }, { on := 18, ground := Ground.guard }], guard := some (18, false) }) (v := ?_) rfl (by kernel_rfl) (by kernel_rfl) (by kernel_rfl) (fun _ _ _ h => h) (Or.inl ⟨by rfl, ?_⟩) (by assumption) ?_
              rotate_left
              · (intro w hSw; (try dsimp only at hSw); go_simp <;> with_reducible rfl)
              try simp only [Act.put, List.setIfInBounds_toArray, List.set_cons_zero, List.set_cons_succ]
              refine wpAnyH_take (i := 27) (oi := { dst := some 176, op := Op.pick (Operand.tmp 167) (Operand.const (Value.bool true)) (Operand.tmp 175), type := 4, pos := "law.go:64", after := #[{ on := 18, ground := Ground.data }, { on := 26, ground := Ground.data }], guard := none }) (v := ?_) rfl (by kernel_rfl) (by kernel_rfl) (by kernel_rfl) (fun _ _ _ h => h) (Or.inl ⟨by rfl, ?_⟩) (by assumption) ?_
              rotate_left
              · (intro w hSw; (try dsimp only at hSw); go_simp <;> with_reducible rfl)
              try simp only [Act.put, List.setIfInBounds_toArray, List.set_cons_zero, List.set_cons_succ]
              refine wpAnyH_done (by kernel_rfl) ?_ _
              clear qd qr
              have HT8 := Lib.hid (HT7.out.below hZ)
              have HB8 := Lib.hid (HB7.out.trans (hZ.mono HB7.out.size))
              clear hZ HT7 HB7 HQC HDN HWT HPT HGL
              have HFW := Lib.hid (show BT.W.length ≤ 1000000 from by have h1 := HOKB.out.few; have h2 := HOKB.out.did; omega)
              go_wp2
              go_loopw [23] (fun i wz => ∃ m : Nat, m ≤ 60 ∧ i = .int .i64 m ∧ Two wz W.heap.size p q A7 BT ∧ Below W.heap.size W wz) (fun i _ => 60 - (intOf i).toNat)
              case atStart => exact ⟨0, by omega, rfl, HT8.out, HB8.out⟩
              case round =>
                clear HT8 HB8
                obtain ⟨m, hm, rfl, hT9, hB9⟩ := hrel
                by_cases hlm : m < 60
                · obtain ⟨x1, x2, z1, z2, hp9, hq9, hd9, hA9⟩ := hT9
                  have hkk : BT.kept (m : Int) = (lAt BT.L m, 0) := by
                    unfold DS.kept
                    rw [if_pos ⟨by omega, by rw [HLNB.out]; omega⟩]
                    rfl
                  have h1 := kept_any W.heap.size p x1 x2 BT (m : Int) wr hp9 (by rw [HLNB.out]; omega)
                  rw [hkk] at h1
                  unfold two at h1
                  obtain ⟨ag, cg, rfl, hle, hcm, hgg⟩ := owns_shape1 hq9.own1
                  obtain ⟨g, rfl, hgo, _, _⟩ := hgg (by rw [HLNB.out]; omega)
                  have e1 := owns_cell hq9.own1 hgo m _ (strs_at (by rw [HLNB.out]; exact hlm))
                  obtain ⟨e0, -, -, -, -, -⟩ := hq9.cells
                  rw [HLNB.out] at e0 hle
                  have hcm2 : (cg : Int) ≤ 9223372036854775807 := by unfold maxLen at hcm; omega
                  obtain ⟨s9, hs9⟩ : ∃ s, s = lAt BT.L m := ⟨_, rfl⟩
                  rw [← hs9] at h1 e1
                  have gs := fun op x y w => guard_tx op x y s9 s9 w
                  obtain ⟨V9, hV9⟩ : ∃ V : Value, V = .string s9 := ⟨_, rfl⟩
                  have q9 : ∀ w, (binOp .neq 9 V9 V9).run Try.prog w = .ok (.bool false) w := fun w => by rw [hV9, neq_tx]; simp
                  rw [← hV9] at e1
                  dsimp only at h1
                  rw [← hV9] at h1
                  simp only [← hV9] at gs
                  have i0 : (0 : Int) ≤ (m : Int) := by omega
                  have i1 : (m : Int) < 60 := by omega
                  have H1 := Lib.hid h1
                  have HT9 := Lib.hid (show Two wr W.heap.size p q A7 BT from ⟨_, _, _, _, hp9, hq9, hd9, hA9⟩)
                  have HB9 := Lib.hid hB9
                  clear h1 hkk hs9 hV9 hp9 hq9 hd9 hA9 hB9 hgo hgg
                  go_wp2_with fail
                  refine H1.out.mono ?_
                  rintro e wv ⟨rfl, hw⟩
                  obtain rfl := hw.symm
                  clear hw H1
                  go_wp2
                  go_roundw
                  case rel => exact ⟨m + 1, by omega, by go_num, HT9.out, HB9.out⟩
                  case measure => simp [intOf]; omega
                · obtain rfl : m = 60 := by omega
                  have HB9 := Lib.hid hB9
                  clear hT9 hB9
                  go_wp2_with fail
                  refine (HKN.out _).mono ?_
                  rintro e wv ⟨rfl, hb⟩
                  have HF := Lib.hid (HB0.out.trans ((HB9.out.trans (hb.mono HB9.out.size)).mono HB0.out.size))
                  clear hb
                  go_wp2
                  go_ret
                  exact ⟨rfl, HF.out⟩
            · obtain ⟨dqa, dqb⟩ := HQC.out _ hZ
              go_simp
              clear dqa dqb
              replace hKZ := Lib.hid hKZ
              refine hKZ.out _ _ (HGL.out _ hZ) (fun hHeld => ?_)
              clear hKZ KZ
              try simp only [Act.put, List.setIfInBounds_toArray, List.set_cons_zero, List.set_cons_succ]
              refine wpAnyH_ready (rs := [20]) (by kernel_rfl) (by simp) ?_
              refine AllReadyH.cons (o := { dst := some 169, op := Op.call { callee := Callee.value (Operand.func 19), args := #[Operand.tmp 168], argTypes := #[27] }, type := 50, pos := "law.go:64", after := #[{ on := 19, ground := Ground.data }, { on := 18, ground := Ground.chain }, { on := 18, ground := Ground.guard }], guard := some (18, false) }) rfl (fun KZ hKZ => ?_) AllReadyH.nil
              go_simp
              go_at_call 19
              refine (HWT.out _ hZ).mono ?_
              rintro r wk' ⟨vw, rfl, how, hb⟩
              replace hZ := hZ.trans (hb.mono hZ.size)
              clear hb
              replace hKZ := Lib.hid hKZ
              refine hKZ.out _ _ (HGL.out _ hZ) (fun hHeld => ?_)
              clear hKZ KZ
              try simp only [Act.put, List.setIfInBounds_toArray, List.set_cons_zero, List.set_cons_succ]
              refine wpAnyH_ready (rs := [25]) (by kernel_rfl) (by simp) ?_
              refine AllReadyH.cons (o := { dst := some 174, op := Op.call { callee := Callee.value (Operand.func 18), args := #[Operand.tmp 169, Operand.tmp 173], argTypes := #[50, 50] }, type := 4, pos := "law.go:64", after := #[{ on := 20, ground := Ground.data }, { on := 24, ground := Ground.data }, { on := 20, ground := Ground.chain }, { on := 18, ground := Ground.guard }], guard := some (18, false) }) rfl (fun KZ hKZ => ?_) AllReadyH.nil
              go_simp
              go_at_call 18
              refine (HPT.out _ hZ _ _ how).mono ?_
              rintro r wk'' ⟨rfl, hb⟩
              replace hZ := hZ.trans (hb.mono hZ.size)
              clear hb
              replace hKZ := Lib.hid hKZ
              refine hKZ.out _ _ (HGL.out _ hZ) (fun hHeld => ?_)
              clear hKZ KZ
              try simp only [Act.put, List.setIfInBounds_toArray, List.set_cons_zero, List.set_cons_succ]
              refine wpAnyH_take (i := 26) (oi := { dst := some 175, op := Op.unOp UnOp.not 4 (Operand.tmp 174), type := 4, pos := "law.go:64", after := #[{ on := 25, ground := Ground.data }, { on := 18, ground := Ground.guard }], guard := some (18, false) }) (v := ?_) rfl (by kernel_rfl) (by kernel_rfl) (by kernel_rfl) (fun _ _ _ h => h) (Or.inl ⟨by rfl, ?_⟩) (by assumption) ?_
              rotate_left
              · (intro w hSw; (try dsimp only at hSw); go_simp <;> with_reducible rfl)
              try simp only [Act.put, List.setIfInBounds_toArray, List.set_cons_zero, List.set_cons_succ]
              refine wpAnyH_take (i := 27) (oi := { dst := some 176, op := Op.pick (Operand.tmp 167) (Operand.const (Value.bool true)) (Operand.tmp 175), type := 4, pos := "law.go:64", after := #[{ on := 18, ground := Ground.data }, { on := 26, ground := Ground.data }], guard := none }) (v := ?_) rfl (by kernel_rfl) (by kernel_rfl) (by kernel_rfl) (fun _ _ _ h => h) (Or.inl ⟨by rfl, ?_⟩) (by assumption) ?_
              rotate_left
              · (intro w hSw; (try dsimp only at hSw); go_simp <;> with_reducible rfl)
              try simp only [Act.put, List.setIfInBounds_toArray, List.set_cons_zero, List.set_cons_succ]
              refine wpAnyH_done (by kernel_rfl) ?_ _
              clear qd qr
              have HT8 := Lib.hid (HT7.out.below hZ)
              have HB8 := Lib.hid (HB7.out.trans (hZ.mono HB7.out.size))
              clear hZ HT7 HB7 HQC HDN HWT HPT HGL
              have HFW := Lib.hid (show BT.W.length ≤ 1000000 from by have h1 := HOKB.out.few; have h2 := HOKB.out.did; omega)
              go_wp2
              go_loopw [23] (fun i wz => ∃ m : Nat, m ≤ 60 ∧ i = .int .i64 m ∧ Two wz W.heap.size p q A7 BT ∧ Below W.heap.size W wz) (fun i _ => 60 - (intOf i).toNat)
              case atStart => exact ⟨0, by omega, rfl, HT8.out, HB8.out⟩
              case round =>
                clear HT8 HB8
                obtain ⟨m, hm, rfl, hT9, hB9⟩ := hrel
                by_cases hlm : m < 60
                · obtain ⟨x1, x2, z1, z2, hp9, hq9, hd9, hA9⟩ := hT9
                  have hkk : BT.kept (m : Int) = (lAt BT.L m, 0) := by
                    unfold DS.kept
                    rw [if_pos ⟨by omega, by rw [HLNB.out]; omega⟩]
                    rfl
                  have h1 := kept_any W.heap.size p x1 x2 BT (m : Int) wr hp9 (by rw [HLNB.out]; omega)
                  rw [hkk] at h1
                  unfold two at h1
                  obtain ⟨ag, cg, rfl, hle, hcm, hgg⟩ := owns_shape1 hq9.own1
                  obtain ⟨g, rfl, hgo, _, _⟩ := hgg (by rw [HLNB.out]; omega)
                  have e1 := owns_cell hq9.own1 hgo m _ (strs_at (by rw [HLNB.out]; exact hlm))
                  obtain ⟨e0, -, -, -, -, -⟩ := hq9.cells
                  rw [HLNB.out] at e0 hle
                  have hcm2 : (cg : Int) ≤ 9223372036854775807 := by unfold maxLen at hcm; omega
                  obtain ⟨s9, hs9⟩ : ∃ s, s = lAt BT.L m := ⟨_, rfl⟩
                  rw [← hs9] at h1 e1
                  have gs := fun op x y w => guard_tx op x y s9 s9 w
                  obtain ⟨V9, hV9⟩ : ∃ V : Value, V = .string s9 := ⟨_, rfl⟩
                  have q9 : ∀ w, (binOp .neq 9 V9 V9).run Try.prog w = .ok (.bool false) w := fun w => by rw [hV9, neq_tx]; simp
                  rw [← hV9] at e1
                  dsimp only at h1
                  rw [← hV9] at h1
                  simp only [← hV9] at gs
                  have i0 : (0 : Int) ≤ (m : Int) := by omega
                  have i1 : (m : Int) < 60 := by omega
                  have H1 := Lib.hid h1
                  have HT9 := Lib.hid (show Two wr W.heap.size p q A7 BT from ⟨_, _, _, _, hp9, hq9, hd9, hA9⟩)
                  have HB9 := Lib.hid hB9
                  clear h1 hkk hs9 hV9 hp9 hq9 hd9 hA9 hB9 hgo hgg
                  go_wp2_with fail
                  refine H1.out.mono ?_
                  rintro e wv ⟨rfl, hw⟩
                  obtain rfl := hw.symm
                  clear hw H1
                  go_wp2
                  go_roundw
                  case rel => exact ⟨m + 1, by omega, by go_num, HT9.out, HB9.out⟩
                  case measure => simp [intOf]; omega
                · obtain rfl : m = 60 := by omega
                  have HB9 := Lib.hid hB9
                  clear hT9 hB9
                  go_wp2_with fail
                  refine (HKN.out _).mono ?_
                  rintro e wv ⟨rfl, hb⟩
                  have HF := Lib.hid (HB0.out.trans ((HB9.out.trans (hb.mono HB9.out.size)).mono HB0.out.size))
                  clear hb
                  go_wp2
                  go_ret
                  exact ⟨rfl, HF.out⟩
          · obtain ⟨dqa, dqb⟩ := HQC.out _ hZ
            go_simp
            clear dqa dqb
            replace hKZ := Lib.hid hKZ
            refine hKZ.out _ _ (HGL.out _ hZ) (fun hHeld => ?_)
            clear hKZ KZ
            try simp only [Act.put, List.setIfInBounds_toArray, List.set_cons_zero, List.set_cons_succ]
            refine wpAnyH_ready (rs := [11]) (by kernel_rfl) (by simp) ?_
            refine AllReadyH.cons (o := { dst := some 160, op := Op.call { callee := Callee.value (Operand.func 17), args := #[Operand.tmp 159], argTypes := #[27] }, type := 3, pos := "law.go:64", after := #[{ on := 10, ground := Ground.data }, { on := 9, ground := Ground.chain }, { on := 9, ground := Ground.guard }], guard := some (9, false) }) rfl (fun KZ hKZ => ?_) AllReadyH.nil
            go_simp
            go_at_call 17
            refine (HDN.out _ hZ).mono ?_
            rintro r wk ⟨rfl, hb⟩
            replace hZ := hZ.trans (hb.mono hZ.size)
            clear hb
            replace hKZ := Lib.hid hKZ
            refine hKZ.out _ _ (HGL.out _ hZ) (fun hHeld => ?_)
            clear hKZ KZ
            try simp only [Act.put, List.setIfInBounds_toArray, List.set_cons_zero, List.set_cons_succ]
            refine wpAnyH_take (i := 16) (oi := { dst := some 165, op := Op.binOp BinOp.neq 3 (Operand.tmp 160) (Operand.tmp 164) 3, type := 4, pos := "law.go:64", after := #[{ on := 11, ground := Ground.data }, { on := 15, ground := Ground.data }, { on := 9, ground := Ground.guard }], guard := some (9, false) }) (v := ?_) rfl (by kernel_rfl) (by kernel_rfl) (by kernel_rfl) (fun _ _ _ h => h) (Or.inl ⟨by rfl, ?_⟩) (by assumption) ?_
            rotate_left
            · (intro w hSw; (try dsimp only at hSw); go_simp <;> with_reducible rfl)
            try simp only [Act.put, List.setIfInBounds_toArray, List.set_cons_zero, List.set_cons_succ]
            refine wpAnyH_take (i := 17) (oi := { dst := some 166, op := Op.pick (Operand.tmp 158) (Operand.const (Value.bool true)) (Operand.tmp 165), type := 4, pos := "law.go:64", after := #[{ on := 9, ground := Ground.data }, { on := 16, ground := Ground.data }], guard := none }) (v := ?_) rfl (by kernel_rfl) (by kernel_rfl) (by kernel_rfl) (fun _ _ _ h => h) (Or.inl ⟨by rfl, ?_⟩) (by assumption) ?_
            rotate_left
            · (intro w hSw; (try dsimp only at hSw); go_simp <;> with_reducible rfl)
            try simp only [Act.put, List.setIfInBounds_toArray, List.set_cons_zero, List.set_cons_succ]
            refine wpAnyH_take (i := 18) (oi := { dst := some 167, op := Op.move (Operand.tmp 166), type := 4, pos := "law.go:64", after := #[{ on := 17, ground := Ground.data }, { on := 11, ground := Ground.chain }], guard := none }) (v := ?_) rfl (by kernel_rfl) (by kernel_rfl) (by kernel_rfl) (fun _ _ _ h => h) (Or.inl ⟨by rfl, ?_⟩) (by assumption) ?_
            rotate_left
            · (intro w hSw; (try dsimp only at hSw); go_simp <;> with_reducible rfl)
            try simp only [Act.put, List.setIfInBounds_toArray, List.set_cons_zero, List.set_cons_succ]
            refine wpAnyH_take (i := 19) (oi := { dst := some 168, op := Op.move (Operand.tmp 9), type := 27, pos := "law.go:64", after := #[{ on := 18, ground := Ground.guard }], guard := some (18, false) }) (v := ?_) rfl (by kernel_rfl) (by kernel_rfl) (by kernel_rfl) (fun _ _ _ h => h) (Or.inl ⟨by rfl, ?_⟩) (by assumption) ?_
            rotate_left
            · (intro w hSw; (try dsimp only at hSw); go_simp <;> with_reducible rfl)
            try simp only [Act.put, List.setIfInBounds_toArray, List.set_cons_zero, List.set_cons_succ]
            refine wpAnyH_take (i := 21) (oi := { dst := some 170, op := Op.move (Operand.tmp 11), type := 31, pos := "law.go:64", after := #[{ on := 18, ground := Ground.guard }], guard := some (18, false) }) (v := ?_) rfl (by kernel_rfl) (by kernel_rfl) (by kernel_rfl) (fun _ _ _ h => h) (Or.inl ⟨by rfl, ?_⟩) (by assumption) ?_
            rotate_left
            · (intro w hSw; (try dsimp only at hSw); go_simp <;> with_reducible rfl)
            try simp only [Act.put, List.setIfInBounds_toArray, List.set_cons_zero, List.set_cons_succ]
            refine wpAnyH_take (i := 22) (oi := { dst := some 171, op := Op.nilCheck (Operand.tmp 170), type := 0, pos := "law.go:64", after := #[{ on := 21, ground := Ground.data }, { on := 18, ground := Ground.guard }], guard := some (18, false) }) (v := ?_) rfl (by kernel_rfl) (by kernel_rfl) (by kernel_rfl) (fun _ _ _ h => h) (Or.inl ⟨by rfl, ?_⟩) (by assumption) ?_
            rotate_left
            · (intro w hSw; (try dsimp only at hSw); go_simp <;> with_reducible rfl)
            try simp only [Act.put, List.setIfInBounds_toArray, List.set_cons_zero, List.set_cons_succ]
            refine wpAnyH_take (i := 23) (oi := { dst := some 172, op := Op.fieldAddr 52 (Operand.tmp 171) 1, type := 0, pos := "law.go:64", after := #[{ on := 22, ground := Ground.data }, { on := 18, ground := Ground.guard }], guard := some (18, false) }) (v := ?_) rfl (by kernel_rfl) (by kernel_rfl) (by kernel_rfl) (fun _ _ _ h => h) (Or.inl ⟨by rfl, ?_⟩) (by assumption) ?_
            rotate_left
            · (intro w hSw; (try dsimp only at hSw); go_simp <;> with_reducible rfl)
            try simp only [Act.put, List.setIfInBounds_toArray, List.set_cons_zero, List.set_cons_succ]
            refine wpAnyH_ready (rs := [20, 24]) (by kernel_rfl) (by simp) ?_
            refine AllReadyH.cons (o := { dst := some 169, op := Op.call { callee := Callee.value (Operand.func 19), args := #[Operand.tmp 168], argTypes := #[27] }, type := 50, pos := "law.go:64", after := #[{ on := 19, ground := Ground.data }, { on := 18, ground := Ground.chain }, { on := 18, ground := Ground.guard }], guard := some (18, false) }) rfl (fun KZ hKZ => ?_) (AllReadyH.cons (o := { dst := some 173, op := Op.load 50 (Operand.tmp 172), type := 50, pos := "law.go:64", after := #[{ on := 23, ground := Ground.data }, { on := 18, ground := Ground.guard }], guard := some (18, false) }) rfl (fun KZ hKZ => ?_) AllReadyH.nil)
            · go_simp
              go_at_call 19
              refine (HWT.out _ hZ).mono ?_
              rintro r wk' ⟨vw, rfl, how, hb⟩
              replace hZ := hZ.trans (hb.mono hZ.size)
              clear hb
              replace hKZ := Lib.hid hKZ
              refine hKZ.out _ _ (HGL.out _ hZ) (fun hHeld => ?_)
              clear hKZ KZ
              try simp only [Act.put, List.setIfInBounds_toArray, List.set_cons_zero, List.set_cons_succ]
              refine wpAnyH_ready (rs := [24]) (by kernel_rfl) (by simp) ?_
              refine AllReadyH.cons (o := { dst := some 173, op := Op.load 50 (Operand.tmp 172), type := 50, pos := "law.go:64", after := #[{ on := 23, ground := Ground.data }, { on := 18, ground := Ground.guard }], guard := some (18, false) }) rfl (fun KZ hKZ => ?_) AllReadyH.nil
              obtain ⟨dqa, dqb⟩ := HQC.out _ hZ
              go_simp
              clear dqa dqb
              replace hKZ := Lib.hid hKZ
              refine hKZ.out _ _ (HGL.out _ hZ) (fun hHeld => ?_)
              clear hKZ KZ
              try simp only [Act.put, List.setIfInBounds_toArray, List.set_cons_zero, List.set_cons_succ]
              refine wpAnyH_ready (rs := [25]) (by kernel_rfl) (by simp) ?_
              refine AllReadyH.cons (o := { dst := some 174, op := Op.call { callee := Callee.value (Operand.func 18), args := #[Operand.tmp 169, Operand.tmp 173], argTypes := #[50, 50] }, type := 4, pos := "law.go:64", after := #[{ on := 20, ground := Ground.data }, { on := 24, ground := Ground.data }, { on := 20, ground := Ground.chain }, { on := 18, ground := Ground.guard }], guard := some (18, false) }) rfl (fun KZ hKZ => ?_) AllReadyH.nil
              go_simp
              go_at_call 18
              refine (HPT.out _ hZ _ _ how).mono ?_
              rintro r wk'' ⟨rfl, hb⟩
              replace hZ := hZ.trans (hb.mono hZ.size)
              clear hb
              replace hKZ := Lib.hid hKZ
              refine hKZ.out _ _ (HGL.out _ hZ) (fun hHeld => ?_)
              clear hKZ KZ
              try simp only [Act.put, List.setIfInBounds_toArray, List.set_cons_zero, List.set_cons_succ]
              refine wpAnyH_take (i := 26) (oi := { dst := some 175, op := Op.unOp UnOp.not 4 (Operand.tmp 174), type := 4, pos := "law.go:64", after := #[{ on := 25, ground := Ground.data }, { on := 18, ground := Ground.guard }], guard := some (18, false) }) (v := ?_) rfl (by kernel_rfl) (by kernel_rfl) (by kernel_rfl) (fun _ _ _ h => h) (Or.inl ⟨by rfl, ?_⟩) (by assumption) ?_
              rotate_left
              · (intro w hSw; (try dsimp only at hSw); go_simp <;> with_reducible rfl)
              try simp only [Act.put, List.setIfInBounds_toArray, List.set_cons_zero, List.set_cons_succ]
              refine wpAnyH_take (i := 27) (oi := { dst := some 176, op := Op.pick (Operand.tmp 167) (Operand.const (Value.bool true)) (Operand.tmp 175), type := 4, pos := "law.go:64", after := #[{ on := 18, ground := Ground.data }, { on := 26, ground := Ground.data }], guard := none }) (v := ?_) rfl (by kernel_rfl) (by kernel_rfl) (by kernel_rfl) (fun _ _ _ h => h) (Or.inl ⟨by rfl, ?_⟩) (by assumption) ?_
              rotate_left
              · (intro w hSw; (try dsimp only at hSw); go_simp <;> with_reducible rfl)
              try simp only [Act.put, List.setIfInBounds_toArray, List.set_cons_zero, List.set_cons_succ]
              refine wpAnyH_done (by kernel_rfl) ?_ _
              clear qd qr
              have HT8 := Lib.hid (HT7.out.below hZ)
              have HB8 := Lib.hid (HB7.out.trans (hZ.mono HB7.out.size))
              clear hZ HT7 HB7 HQC HDN HWT HPT HGL
              have HFW := Lib.hid (show BT.W.length ≤ 1000000 from by have h1 := HOKB.out.few; have h2 := HOKB.out.did; omega)
              go_wp2
              go_loopw [23] (fun i wz => ∃ m : Nat, m ≤ 60 ∧ i = .int .i64 m ∧ Two wz W.heap.size p q A7 BT ∧ Below W.heap.size W wz) (fun i _ => 60 - (intOf i).toNat)
              case atStart => exact ⟨0, by omega, rfl, HT8.out, HB8.out⟩
              case round =>
                clear HT8 HB8
                obtain ⟨m, hm, rfl, hT9, hB9⟩ := hrel
                by_cases hlm : m < 60
                · obtain ⟨x1, x2, z1, z2, hp9, hq9, hd9, hA9⟩ := hT9
                  have hkk : BT.kept (m : Int) = (lAt BT.L m, 0) := by
                    unfold DS.kept
                    rw [if_pos ⟨by omega, by rw [HLNB.out]; omega⟩]
                    rfl
                  have h1 := kept_any W.heap.size p x1 x2 BT (m : Int) wr hp9 (by rw [HLNB.out]; omega)
                  rw [hkk] at h1
                  unfold two at h1
                  obtain ⟨ag, cg, rfl, hle, hcm, hgg⟩ := owns_shape1 hq9.own1
                  obtain ⟨g, rfl, hgo, _, _⟩ := hgg (by rw [HLNB.out]; omega)
                  have e1 := owns_cell hq9.own1 hgo m _ (strs_at (by rw [HLNB.out]; exact hlm))
                  obtain ⟨e0, -, -, -, -, -⟩ := hq9.cells
                  rw [HLNB.out] at e0 hle
                  have hcm2 : (cg : Int) ≤ 9223372036854775807 := by unfold maxLen at hcm; omega
                  obtain ⟨s9, hs9⟩ : ∃ s, s = lAt BT.L m := ⟨_, rfl⟩
                  rw [← hs9] at h1 e1
                  have gs := fun op x y w => guard_tx op x y s9 s9 w
                  obtain ⟨V9, hV9⟩ : ∃ V : Value, V = .string s9 := ⟨_, rfl⟩
                  have q9 : ∀ w, (binOp .neq 9 V9 V9).run Try.prog w = .ok (.bool false) w := fun w => by rw [hV9, neq_tx]; simp
                  rw [← hV9] at e1
                  dsimp only at h1
                  rw [← hV9] at h1
                  simp only [← hV9] at gs
                  have i0 : (0 : Int) ≤ (m : Int) := by omega
                  have i1 : (m : Int) < 60 := by omega
                  have H1 := Lib.hid h1
                  have HT9 := Lib.hid (show Two wr W.heap.size p q A7 BT from ⟨_, _, _, _, hp9, hq9, hd9, hA9⟩)
                  have HB9 := Lib.hid hB9
                  clear h1 hkk hs9 hV9 hp9 hq9 hd9 hA9 hB9 hgo hgg
                  go_wp2_with fail
                  refine H1.out.mono ?_
                  rintro e wv ⟨rfl, hw⟩
                  obtain rfl := hw.symm
                  clear hw H1
                  go_wp2
                  go_roundw
                  case rel => exact ⟨m + 1, by omega, by go_num, HT9.out, HB9.out⟩
                  case measure => simp [intOf]; omega
                · obtain rfl : m = 60 := by omega
                  have HB9 := Lib.hid hB9
                  clear hT9 hB9
                  go_wp2_with fail
                  refine (HKN.out _).mono ?_
                  rintro e wv ⟨rfl, hb⟩
                  have HF := Lib.hid (HB0.out.trans ((HB9.out.trans (hb.mono HB9.out.size)).mono HB0.out.size))
                  clear hb
                  go_wp2
                  go_ret
                  exact ⟨rfl, HF.out⟩
            · obtain ⟨dqa, dqb⟩ := HQC.out _ hZ
              go_simp
              clear dqa dqb
              replace hKZ := Lib.hid hKZ
              refine hKZ.out _ _ (HGL.out _ hZ) (fun hHeld => ?_)
              clear hKZ KZ
              try simp only [Act.put, List.setIfInBounds_toArray, List.set_cons_zero, List.set_cons_succ]
              refine wpAnyH_ready (rs := [20]) (by kernel_rfl) (by simp) ?_
              refine AllReadyH.cons (o := { dst := some 169, op := Op.call { callee := Callee.value (Operand.func 19), args := #[Operand.tmp 168], argTypes := #[27] }, type := 50, pos := "law.go:64", after := #[{ on := 19, ground := Ground.data }, { on := 18, ground := Ground.chain }, { on := 18, ground := Ground.guard }], guard := some (18, false) }) rfl (fun KZ hKZ => ?_) AllReadyH.nil
              go_simp
              go_at_call 19
              refine (HWT.out _ hZ).mono ?_
              rintro r wk' ⟨vw, rfl, how, hb⟩
              replace hZ := hZ.trans (hb.mono hZ.size)
              clear hb
              replace hKZ := Lib.hid hKZ
              refine hKZ.out _ _ (HGL.out _ hZ) (fun hHeld => ?_)
              clear hKZ KZ
              try simp only [Act.put, List.setIfInBounds_toArray, List.set_cons_zero, List.set_cons_succ]
              refine wpAnyH_ready (rs := [25]) (by kernel_rfl) (by simp) ?_
              refine AllReadyH.cons (o := { dst := some 174, op := Op.call { callee := Callee.value (Operand.func 18), args := #[Operand.tmp 169, Operand.tmp 173], argTypes := #[50, 50] }, type := 4, pos := "law.go:64", after := #[{ on := 20, ground := Ground.data }, { on := 24, ground := Ground.data }, { on := 20, ground := Ground.chain }, { on := 18, ground := Ground.guard }], guard := some (18, false) }) rfl (fun KZ hKZ => ?_) AllReadyH.nil
              go_simp
              go_at_call 18
              refine (HPT.out _ hZ _ _ how).mono ?_
              rintro r wk'' ⟨rfl, hb⟩
              replace hZ := hZ.trans (hb.mono hZ.size)
              clear hb
              replace hKZ := Lib.hid hKZ
              refine hKZ.out _ _ (HGL.out _ hZ) (fun hHeld => ?_)
              clear hKZ KZ
              try simp only [Act.put, List.setIfInBounds_toArray, List.set_cons_zero, List.set_cons_succ]
              refine wpAnyH_take (i := 26) (oi := { dst := some 175, op := Op.unOp UnOp.not 4 (Operand.tmp 174), type := 4, pos := "law.go:64", after := #[{ on := 25, ground := Ground.data }, { on := 18, ground := Ground.guard }], guard := some (18, false) }) (v := ?_) rfl (by kernel_rfl) (by kernel_rfl) (by kernel_rfl) (fun _ _ _ h => h) (Or.inl ⟨by rfl, ?_⟩) (by assumption) ?_
              rotate_left
              · (intro w hSw; (try dsimp only at hSw); go_simp <;> with_reducible rfl)
              try simp only [Act.put, List.setIfInBounds_toArray, List.set_cons_zero, List.set_cons_succ]
              refine wpAnyH_take (i := 27) (oi := { dst := some 176, op := Op.pick (Operand.tmp 167) (Operand.const (Value.bool true)) (Operand.tmp 175), type := 4, pos := "law.go:64", after := #[{ on := 18, ground := Ground.data }, { on := 26, ground := Ground.data }], guard := none }) (v := ?_) rfl (by kernel_rfl) (by kernel_rfl) (by kernel_rfl) (fun _ _ _ h => h) (Or.inl ⟨by rfl, ?_⟩) (by assumption) ?_
              rotate_left
              · (intro w hSw; (try dsimp only at hSw); go_simp <;> with_reducible rfl)
              try simp only [Act.put, List.setIfInBounds_toArray, List.set_cons_zero, List.set_cons_succ]
              refine wpAnyH_done (by kernel_rfl) ?_ _
              clear qd qr
              have HT8 := Lib.hid (HT7.out.below hZ)
              have HB8 := Lib.hid (HB7.out.trans (hZ.mono HB7.out.size))
              clear hZ HT7 HB7 HQC HDN HWT HPT HGL
              have HFW := Lib.hid (show BT.W.length ≤ 1000000 from by have h1 := HOKB.out.few; have h2 := HOKB.out.did; omega)
              go_wp2
              go_loopw [23] (fun i wz => ∃ m : Nat, m ≤ 60 ∧ i = .int .i64 m ∧ Two wz W.heap.size p q A7 BT ∧ Below W.heap.size W wz) (fun i _ => 60 - (intOf i).toNat)
              case atStart => exact ⟨0, by omega, rfl, HT8.out, HB8.out⟩
              case round =>
                clear HT8 HB8
                obtain ⟨m, hm, rfl, hT9, hB9⟩ := hrel
                by_cases hlm : m < 60
                · obtain ⟨x1, x2, z1, z2, hp9, hq9, hd9, hA9⟩ := hT9
                  have hkk : BT.kept (m : Int) = (lAt BT.L m, 0) := by
                    unfold DS.kept
                    rw [if_pos ⟨by omega, by rw [HLNB.out]; omega⟩]
                    rfl
                  have h1 := kept_any W.heap.size p x1 x2 BT (m : Int) wr hp9 (by rw [HLNB.out]; omega)
                  rw [hkk] at h1
                  unfold two at h1
                  obtain ⟨ag, cg, rfl, hle, hcm, hgg⟩ := owns_shape1 hq9.own1
                  obtain ⟨g, rfl, hgo, _, _⟩ := hgg (by rw [HLNB.out]; omega)
                  have e1 := owns_cell hq9.own1 hgo m _ (strs_at (by rw [HLNB.out]; exact hlm))
                  obtain ⟨e0, -, -, -, -, -⟩ := hq9.cells
                  rw [HLNB.out] at e0 hle
                  have hcm2 : (cg : Int) ≤ 9223372036854775807 := by unfold maxLen at hcm; omega
                  obtain ⟨s9, hs9⟩ : ∃ s, s = lAt BT.L m := ⟨_, rfl⟩
                  rw [← hs9] at h1 e1
                  have gs := fun op x y w => guard_tx op x y s9 s9 w
                  obtain ⟨V9, hV9⟩ : ∃ V : Value, V = .string s9 := ⟨_, rfl⟩
                  have q9 : ∀ w, (binOp .neq 9 V9 V9).run Try.prog w = .ok (.bool false) w := fun w => by rw [hV9, neq_tx]; simp
                  rw [← hV9] at e1
                  dsimp only at h1
                  rw [← hV9] at h1
                  simp only [← hV9] at gs
                  have i0 : (0 : Int) ≤ (m : Int) := by omega
                  have i1 : (m : Int) < 60 := by omega
                  have H1 := Lib.hid h1
                  have HT9 := Lib.hid (show Two wr W.heap.size p q A7 BT from ⟨_, _, _, _, hp9, hq9, hd9, hA9⟩)
                  have HB9 := Lib.hid hB9
                  clear h1 hkk hs9 hV9 hp9 hq9 hd9 hA9 hB9 hgo hgg
                  go_wp2_with fail
                  refine H1.out.mono ?_
                  rintro e wv ⟨rfl, hw⟩
                  obtain rfl := hw.symm
                  clear hw H1
                  go_wp2
                  go_roundw
                  case rel => exact ⟨m + 1, by omega, by go_num, HT9.out, HB9.out⟩
                  case measure => simp [intOf]; omega
                · obtain rfl : m = 60 := by omega
                  have HB9 := Lib.hid hB9
                  clear hT9 hB9
                  go_wp2_with fail
                  refine (HKN.out _).mono ?_
                  rintro e wv ⟨rfl, hb⟩
                  have HF := Lib.hid (HB0.out.trans ((HB9.out.trans (hb.mono HB9.out.size)).mono HB0.out.size))
                  clear hb
                  go_wp2
                  go_ret
                  exact ⟨rfl, HF.out⟩

theorem rolltells_any (N F C U : Int) (a1 : Option Addr) (l1 c1 : Nat) (X : Nat → Int × ByteArray) (a2 : Option Addr) (l2 c2 : Nat) (E : List En) (place : Int) (w : World) (hP : Pts w a1 l1 c1 X) (hE : Es w a2 l2 c2 E)
    (hEb : ∀ b off, a2 = some ⟨b, off, none⟩ → 0 < l2 → b < w.heap.size) :
    Calls Try.prog 3 #[geo N F C U, .slice a1 l1 c1, .slice a2 l2 c2, .int .i64 place] w fun e w' => e = .returned (.bool true) ∧ Below w.heap.size w w' := by
  by_cases hx : 30 < l1 ∨ 30 < l2
  · exact rolltells_far N F C U a1 l1 c1 a2 l2 c2 place w hx
  · exact rolltells_near N F C U a1 l1 c1 X a2 l2 c2 E place w hP hE (by omega) (by omega) hEb
end Go.Proofs.Ytehjdaafadbbdaa

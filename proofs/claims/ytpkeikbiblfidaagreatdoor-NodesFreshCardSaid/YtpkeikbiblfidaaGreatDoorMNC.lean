/-
  Texts put together: NC, ND.
-/
import Derived.Test.YtpkeikbiblfidaaGreatDoorMNA
import Derived.Test.YtpkeikbiblfidaaGreatDoorMN8
import Derived.ProofKit
import Derived.OpenShut
import Derived.ChangeOld
import Derived.Below
import Derived.SizedLaws
import Derived.Deep.SlicePairs
import Derived.Deep.Grids
import Derived.ChangeSlices
/-
  The walk of ScrubEquals (written by mknc.py).
-/
namespace Go.Proofs.YtpkeikbiblfidaaGreatDoor
open Go.RowKit
set_option linter.unusedVariables false
set_option linter.unusedSimpArgs false

set_option maxRecDepth 20000 in
set_option maxHeartbeats 8000000 in
theorem sequals_walk (N F C U n : Int) (a : Option Addr) (l c : Nat) (X : Nat → PK) (a' : Option Addr) (l' c' : Nat) (X' : Nat → PK) (w : World) (hA : PutsL w a l w.heap.size X) (hlc : l ≤ c) (hcm : c ≤ maxLen) (hA' : PutsL w a' l' w.heap.size X') (hlc' : l' ≤ c') (hcm' : c' ≤ maxLen) (hKn : Dg.Kon w) :
    Calls Tryz.prog 7 #[geo N F C U, .int .i64 n, .slice a l c, .slice a' l' c'] w fun e w' => e = .returned (.bool true) ∧ Below w.heap.size w w' := by
  have HKN := Lib.hid (fun w1 (hb : Below w.heap.size w w1) => (known20_any w1 (hKn.below hb)).mono (R' := fun e w' => e = .returned (.bool true) ∧ Below w.heap.size w w') (fun e w' h => ⟨h.1, hb.trans (h.2.mono hb.size)⟩))
  obtain ⟨W, hW⟩ : ∃ W, W = w.alloc (.cells #[.int .i64 N, .int .i64 F, .int .i64 C, .int .i64 U] 23) := ⟨_, rfl⟩
  have hs0 : W.heap.size = w.heap.size + 1 := by rw [hW]; exact World.size_alloc _ _
  have hb0 : Below w.heap.size w W := by rw [hW]; exact (Below.refl _ w).alloc (Nat.le_refl _) _
  have hg0 : W.heap[w.heap.size]? = some (.cells #[.int .i64 N, .int .i64 F, .int .i64 C, .int .i64 U] 23 (0, 0)) := by rw [hW]; exact heap_alloc_new w _
  have hgc : ∀ w', Below W.heap.size W w' → w'.cell? ⟨w.heap.size, 0, none⟩ = some (.int .i64 N) ∧ w'.cell? ⟨w.heap.size, 1, none⟩ = some (.int .i64 F) ∧ w'.cell? ⟨w.heap.size, 2, none⟩ = some (.int .i64 C) ∧ w'.cell? ⟨w.heap.size, 3, none⟩ = some (.int .i64 U) := fun w' hb => geo_kept hg0 (hb.block _ (by omega))
  have hsm := fun w => small20_any N F C U w
  obtain ⟨sm, hsmv⟩ : ∃ b, b = smallH N C U := ⟨_, rfl⟩
  simp only [← hsmv] at hsm
  have hlk := fun w' (hb : Below w.heap.size w w') => light_any a l c w.heap.size X w' (hA.below hb) hlc hcm
  have hll := fun w' (hb : Below w.heap.size w w') => light_any a' l' c' w.heap.size X' w' (hA'.below hb) hlc' hcm'
  obtain ⟨b1, hb1v⟩ : ∃ b, b = lightB l X := ⟨_, rfl⟩
  obtain ⟨b2, hb2v⟩ : ∃ b, b = lightB l' X' := ⟨_, rfl⟩
  simp only [← hb1v] at hlk
  simp only [← hb2v] at hll
  obtain ⟨c0, c1, c2, c3⟩ := hgc W (Below.refl _ _)
  have HA := Lib.hid hA
  have HA' := Lib.hid hA'
  have HGC := Lib.hid hgc
  have HB0 := Lib.hid hb0
  have HW := Lib.hid hW
  have HK := Lib.hid hKn
  have HLK := Lib.hid hlk
  have HLL := Lib.hid hll
  have HL1 := Lib.hid hb1v.symm
  have HL2 := Lib.hid hb2v.symm
  unfold geo at hsm ⊢
  have HSM := Lib.hid hsm
  clear hA hA' hgc hb0 hW hs0 hg0 hsm hsmv hKn hlk hll hb1v hb2v
  cases sm with
  | false =>
    go_enter Tryz.func7, Tryz.ntmps7
    go_upto_region 1 with fail
    rw [← HW.out]
    go_wp2_with fail
    refine (HSM.out _).mono ?_
    rintro e w1 ⟨rfl, hb1⟩
    have HBW := Lib.hid hb1
    have HB1 := Lib.hid (HB0.out.trans (hb1.mono HB0.out.size))
    clear hb1
    go_wp2_with fail
    refine (HKN.out _ HB1.out).mono ?_
    rintro e w9 ⟨rfl, hb⟩
    go_wp2
    go_ret
    exact ⟨rfl, hb⟩
  | true =>
    by_cases h1 : n < 1
    · go_enter Tryz.func7, Tryz.ntmps7
      go_upto_region 1 with fail
      rw [← HW.out]
      go_wp2_with fail
      refine (HSM.out _).mono ?_
      rintro e w1 ⟨rfl, hb1⟩
      have HBW := Lib.hid hb1
      have HB1 := Lib.hid (HB0.out.trans (hb1.mono HB0.out.size))
      clear hb1
      go_wp2_with fail
      refine (HKN.out _ HB1.out).mono ?_
      rintro e w9 ⟨rfl, hb⟩
      go_wp2
      go_ret
      exact ⟨rfl, hb⟩
    by_cases h60 : 60 < n
    · go_enter Tryz.func7, Tryz.ntmps7
      go_upto_region 1 with fail
      rw [← HW.out]
      go_wp2_with fail
      refine (HSM.out _).mono ?_
      rintro e w1 ⟨rfl, hb1⟩
      have HBW := Lib.hid hb1
      have HB1 := Lib.hid (HB0.out.trans (hb1.mono HB0.out.size))
      clear hb1
      go_wp2_with fail
      refine (HKN.out _ HB1.out).mono ?_
      rintro e w9 ⟨rfl, hb⟩
      go_wp2
      go_ret
      exact ⟨rfl, hb⟩
    obtain ⟨m, rfl⟩ : ∃ m : Nat, n = (m : Int) := ⟨n.toNat, by omega⟩
    cases b1 with
    | false =>
      go_enter Tryz.func7, Tryz.ntmps7
      go_upto_region 1 with fail
      rw [← HW.out]
      go_wp2_with fail
      refine (HSM.out _).mono ?_
      rintro e w1 ⟨rfl, hb1⟩
      have HBW := Lib.hid hb1
      have HB1 := Lib.hid (HB0.out.trans (hb1.mono HB0.out.size))
      clear hb1
      go_wp2_with fail
      refine (HLK.out _ HB1.out).mono ?_
      rintro e w2 ⟨rfl, hw2⟩; obtain rfl := hw2.symm; clear hw2
      go_wp2_with fail
      refine (HKN.out _ HB1.out).mono ?_
      rintro e w9 ⟨rfl, hb⟩
      go_wp2
      go_ret
      exact ⟨rfl, hb⟩
    | true =>
      cases b2 with
      | false =>
        go_enter Tryz.func7, Tryz.ntmps7
        go_upto_region 1 with fail
        rw [← HW.out]
        go_wp2_with fail
        refine (HSM.out _).mono ?_
        rintro e w1 ⟨rfl, hb1⟩
        have HBW := Lib.hid hb1
        have HB1 := Lib.hid (HB0.out.trans (hb1.mono HB0.out.size))
        clear hb1
        go_wp2_with fail
        refine (HLK.out _ HB1.out).mono ?_
        rintro e w2 ⟨rfl, hw2⟩; obtain rfl := hw2.symm; clear hw2
        go_wp2_with fail
        refine (HLL.out _ HB1.out).mono ?_
        rintro e w2 ⟨rfl, hw2⟩; obtain rfl := hw2.symm; clear hw2
        go_wp2_with fail
        refine (HKN.out _ HB1.out).mono ?_
        rintro e w9 ⟨rfl, hb⟩
        go_wp2
        go_ret
        exact ⟨rfl, hb⟩
      | true =>
        go_enter Tryz.func7, Tryz.ntmps7
        go_upto_region 1 with fail
        rw [← HW.out]
        go_wp2_with fail
        refine (HSM.out _).mono ?_
        rintro e w1 ⟨rfl, hb1⟩
        have HBW := Lib.hid hb1
        have HB1 := Lib.hid (HB0.out.trans (hb1.mono HB0.out.size))
        clear hb1
        go_wp2_with fail
        refine (HLK.out _ HB1.out).mono ?_
        rintro e w2 ⟨rfl, hw2⟩; obtain rfl := hw2.symm; clear hw2
        go_wp2_with fail
        refine (HLL.out _ HB1.out).mono ?_
        rintro e w2 ⟨rfl, hw2⟩; obtain rfl := hw2.symm; clear hw2
        have HL30 := Lib.hid (show l ≤ 30 ∧ l' ≤ 30 from ⟨(of_decide_eq_true HL1.out).1, (of_decide_eq_true HL2.out).1⟩)
        obtain ⟨c0, c1, c2, c3⟩ := HGC.out w1 HBW.out
        have HLA := Lib.hid (fun w' (hb : Below w.heap.size w w') => laid_any N F C U m a l c X w' ((HA.out.below hb).more hb.size) hlc hcm HL30.out.1 (by omega) (by omega) (HK.out.below hb))
        have HLB := Lib.hid (fun w' (hb : Below w.heap.size w w') => laid_any N F C U m a' l' c' X' w' ((HA'.out.below hb).more hb.size) hlc' hcm' HL30.out.2 (by omega) (by omega) (HK.out.below hb))
        unfold geo at HLA HLB
        have HS1 := Lib.hid (laidS_all N F C U m (by omega) X l HL30.out.1)
        have HS2 := Lib.hid (laidS_all N F C U m (by omega) X' l' HL30.out.2)
        obtain ⟨S1, hS1⟩ : ∃ S, S = laidS N F C U m X l := ⟨_, rfl⟩
        obtain ⟨S2, hS2⟩ : ∃ S, S = laidS N F C U m X' l' := ⟨_, rfl⟩
        rw [← hS1] at HS1
        rw [← hS2] at HS2
        simp only [← hS1] at HLA
        simp only [← hS2] at HLB
        clear hS1 hS2
        have HS12 := Lib.hid (HS2.out.1)
        have HS22 := Lib.hid (HS2.out.1.crash [])
        go_wp2_with fail
        refine (HLA.out w1 HB1.out).mono ?_
        rintro e w3 ⟨⟨p1, q1, hh⟩, hb3⟩
        obtain ⟨A1, rfl, hT1⟩ := hh
        have HT1 := Lib.hid hT1
        have HBW3 := Lib.hid (HBW.out.trans (hb3.mono HBW.out.size))
        obtain ⟨c0, c1, c2, c3⟩ := HGC.out w3 HBW3.out
        clear hT1 hb3
        go_wp2_with fail
        refine (HLB.out w3 (HB0.out.trans (HBW3.out.mono HB0.out.size))).mono ?_
        rintro e w4 ⟨⟨p2, q2, hh⟩, hb4⟩
        obtain ⟨A2, rfl, hT2⟩ := hh
        have HBW4 := Lib.hid (HBW3.out.trans (hb4.mono HBW3.out.size))
        have HTA4 := Lib.hid (HT1.out.below hb4)
        have HTB4 := Lib.hid hT2
        have HBB4 := Lib.hid hb4
        clear hT2 hb4 c0 c1 c2 c3
        obtain ⟨c0, c1, c2, c3⟩ := HGC.out w4 HBW4.out
        obtain ⟨R1, hR1⟩ : ∃ R, R = eqlP N F C U S1 S2 := ⟨_, rfl⟩
        have hlen1 := eqlP_length N F C U S1 S2
        have he1 := fun v1 v2 u1 u2 (hp : PD w4 w1.heap.size p1 v1 v2 S1) (hp' : PD w4 w3.heap.size p2 u1 u2 S2) => equal_any w1.heap.size p1 p2 v1 v2 u1 u2 w3.heap.size S1 S2 N F C U w4 hp hp' 1000 (HS1.out.1.mono (by omega)) (HS12.out.mono (by omega)) (by omega)
        have hr1 := fun w' v1 v2 u1 u2 (hp : RD w' w1.heap.size q1 v1 v2 S1) (hp' : RD w' w3.heap.size q2 u1 u2 S2) => requal_any w1.heap.size q1 q2 v1 v2 u1 u2 w3.heap.size S1 S2 N F C U w' hp hp' 1000 (HS1.out.1.mono (by omega)) (HS12.out.mono (by omega)) (by omega)
        rw [← hR1] at hlen1
        simp only [← hR1, geo] at he1 hr1
        obtain ⟨L1, f1⟩ := R1
        dsimp only at he1 hr1 hlen1
        obtain ⟨x1, x2, y1, y2, hxp, hxq, _, _⟩ := HTA4.out
        obtain ⟨x3, x4, y3, y4, hxp', hxq', _, _⟩ := HTB4.out
        have HEQ1 := Lib.hid (he1 _ _ _ _ hxp hxp')
        have HRQ1 := Lib.hid (fun w' (hb : Below w4.heap.size w4 w') => hr1 w' _ _ _ _ (hxq.below hb) (hxq'.below hb))
        have HLN1 := Lib.hid hlen1
        have be1 : (f1 == f1) = true := by simp
        have bn1 : (f1 != f1) = false := by simp
        clear he1 hr1 hR1 hlen1 hxp hxq hxp' hxq'
        go_wp2_with fail
        refine HEQ1.out.mono ?_
        rintro e w5 ⟨⟨va1, rfl, hva1⟩, hb5⟩
        have hla1 := li_owns hva1 (by have := HLN1.out; omega)
        have HBB5 := Lib.hid hb5
        have HBW5 := Lib.hid (HBW4.out.trans (hb5.mono HBW4.out.size))
        obtain ⟨c0, c1, c2, c3⟩ := HGC.out w5 HBW5.out
        clear hva1 hb5
        go_wp2_with fail
        refine (HRQ1.out _ HBB5.out).mono ?_
        rintro e w6 ⟨⟨vb1, rfl, hvb1⟩, hb6⟩
        have hlb1 := li_owns hvb1 (by have := HLN1.out; omega)
        have hint1 := ints_any va1 vb1 L1 L1 w6 (hla1.later hb6) hlb1
        rw [decide_eq_true rfl] at hint1
        have HIN1 := Lib.hid hint1
        have HBB6 := Lib.hid (HBB5.out.trans (hb6.mono HBB5.out.size))
        have HBW6 := Lib.hid (HBW5.out.trans (hb6.mono HBW5.out.size))
        clear hvb1 hb6 hint1 hla1 hlb1 c0 c1 c2 c3
        go_wp2_with fail
        refine HIN1.out.mono ?_
        rintro e w7 ⟨rfl, hd⟩
        have hb7 := hd.below
        have HBB7 := Lib.hid (HBB6.out.trans (hb7.mono HBB6.out.size))
        have HBW7 := Lib.hid (HBW6.out.trans (hb7.mono HBW6.out.size))
        have HTA7 := Lib.hid (HTA4.out.below HBB7.out)
        have HTB7 := Lib.hid (HTB4.out.below HBB7.out)
        clear hb7 hd HIN1 HEQ1 HRQ1 HLN1
        obtain ⟨x3, x4, y3, y4, hp2, hq2, hd2, hA2⟩ := HTB7.out
        have hbl : ∀ w', Bl w' none 0 [] := fun w' => ⟨rfl, by omega, fun h => by omega⟩
        have hs37 : w3.heap.size ≤ w7.heap.size := by have := HBB4.out.size; have := HBB7.out.size; omega
        have HCR := Lib.hid (crash_any _ p2 x3 x4 S2 none 0 0 [] w7 hp2 hs37 1000 (HS2.out.1.mono (by omega)) (by omega) (hbl _) (fun b off e h0 => by omega))
        have HCS := Lib.hid (fun w' (h : RD w' w3.heap.size q2 y3 y4 S2) hs => rcrash_any _ q2 y3 y4 S2 none 0 0 [] w' h hs 1000 (HS2.out.1.mono (by omega)) (by omega) (hbl _) (fun b off e h0 => by omega))
        have HTW := Lib.hid (And.intro hp2 (And.intro hq2 (And.intro hd2 hA2)))
        have HS37 := Lib.hid hs37
        clear hp2 hq2 hd2 hA2 hbl hs37
        go_wp2_with fail
        refine HCR.out.mono ?_
        rintro e w8 ⟨rfl, hpp⟩
        have hq8 := rd_after HTW.out.2.1 HTW.out.2.2.1 hpp
        have HPP := Lib.hid hpp
        have HQ8 := Lib.hid (HCS.out w8 hq8 (Nat.le_trans HS37.out (pp_fr hpp).size))
        clear hq8 hpp HCR HCS
        go_wp2_with fail
        refine HQ8.out.mono ?_
        rintro e w9 ⟨rfl, hrp⟩
        obtain ⟨A3, hT9, hF9, hl9⟩ := two_after HTW.out.2.1 HTW.out.1 HTW.out.2.2.1 HTW.out.2.2.2 HPP.out hrp
        have HTB9 := Lib.hid hT9
        have HTA9 := Lib.hid (HTA7.out.fr hF9 (fun k h1 h2 => by have h5 := (HT1.out.low k h1).2; have h6 := (HTB7.out.low k h2).1; omega))
        have HBW9 := Lib.hid (HBW7.out.trans (hF9.below (fun k hk => by have h6 := (HTB7.out.low k hk).1; have := HBW3.out.size; omega) HBW7.out.size))
        clear hT9 hF9 hl9 hrp HQ8 HPP
        obtain ⟨c0, c1, c2, c3⟩ := HGC.out w9 HBW9.out
        obtain ⟨R2, hR2⟩ : ∃ R, R = eqlP N F C U S1 (S2.crash []) := ⟨_, rfl⟩
        have hlen2 := eqlP_length N F C U S1 (S2.crash [])
        have he2 := fun v1 v2 u1 u2 (hp : PD w9 w1.heap.size p1 v1 v2 S1) (hp' : PD w9 w3.heap.size p2 u1 u2 (S2.crash [])) => equal_any w1.heap.size p1 p2 v1 v2 u1 u2 w3.heap.size S1 (S2.crash []) N F C U w9 hp hp' 1000 (HS1.out.1.mono (by omega)) (HS22.out.mono (by omega)) (by omega)
        have hr2 := fun w' v1 v2 u1 u2 (hp : RD w' w1.heap.size q1 v1 v2 S1) (hp' : RD w' w3.heap.size q2 u1 u2 (S2.crash [])) => requal_any w1.heap.size q1 q2 v1 v2 u1 u2 w3.heap.size S1 (S2.crash []) N F C U w' hp hp' 1000 (HS1.out.1.mono (by omega)) (HS22.out.mono (by omega)) (by omega)
        rw [← hR2] at hlen2
        simp only [← hR2, geo] at he2 hr2
        obtain ⟨L2, f2⟩ := R2
        dsimp only at he2 hr2 hlen2
        obtain ⟨x1, x2, y1, y2, hxp, hxq, _, _⟩ := HTA9.out
        obtain ⟨x3, x4, y3, y4, hxp', hxq', _, _⟩ := HTB9.out
        have HEQ2 := Lib.hid (he2 _ _ _ _ hxp hxp')
        have HRQ2 := Lib.hid (fun w' (hb : Below w9.heap.size w9 w') => hr2 w' _ _ _ _ (hxq.below hb) (hxq'.below hb))
        have HLN2 := Lib.hid hlen2
        have be2 : (f2 == f2) = true := by simp
        have bn2 : (f2 != f2) = false := by simp
        clear he2 hr2 hR2 hlen2 hxp hxq hxp' hxq'
        go_wp2_with fail
        refine HEQ2.out.mono ?_
        rintro e w10 ⟨⟨va2, rfl, hva2⟩, hb10⟩
        have hla2 := li_owns hva2 (by have := HLN2.out; omega)
        have HBB10 := Lib.hid hb10
        have HBW10 := Lib.hid (HBW9.out.trans (hb10.mono HBW9.out.size))
        obtain ⟨c0, c1, c2, c3⟩ := HGC.out w10 HBW10.out
        clear hva2 hb10
        go_wp2_with fail
        refine (HRQ2.out _ HBB10.out).mono ?_
        rintro e w11 ⟨⟨vb2, rfl, hvb2⟩, hb11⟩
        have hlb2 := li_owns hvb2 (by have := HLN2.out; omega)
        have hint2 := ints_any va2 vb2 L2 L2 w11 (hla2.later hb11) hlb2
        rw [decide_eq_true rfl] at hint2
        have HIN2 := Lib.hid hint2
        have HBB11 := Lib.hid (HBB10.out.trans (hb11.mono HBB10.out.size))
        have HBW11 := Lib.hid (HBW10.out.trans (hb11.mono HBW10.out.size))
        clear hvb2 hb11 hint2 hla2 hlb2 c0 c1 c2 c3
        go_wp2_with fail
        refine HIN2.out.mono ?_
        rintro e w12 ⟨rfl, hd⟩
        have hb12 := hd.below
        have HBB12 := Lib.hid (HBB11.out.trans (hb12.mono HBB11.out.size))
        have HBW12 := Lib.hid (HBW11.out.trans (hb12.mono HBW11.out.size))
        have HTA12 := Lib.hid (HTA9.out.below HBB12.out)
        have HTB12 := Lib.hid (HTB9.out.below HBB12.out)
        clear hb12 hd HIN2 HEQ2 HRQ2 HLN2
        go_wp2_with fail
        refine (HKN.out _ (HB0.out.trans (HBW12.out.mono HB0.out.size))).mono ?_
        rintro e w14 ⟨rfl, hb⟩
        go_wp2
        go_ret
        exact ⟨rfl, hb⟩
end Go.Proofs.YtpkeikbiblfidaaGreatDoor
/-
  A list of writes that came in, opened (layers 13 and 20); ScrubEquals.
-/
namespace Go.Proofs.YtpkeikbiblfidaaGreatDoor
open Go.ChangeShapes Go.WideShapes Go.ChangeAt Go.RowKit
set_option linter.unusedVariables false
set_option linter.unusedSimpArgs false

def OpenedP20 (W : World) (a : Option Addr) (len cap : Nat) : Prop := ∃ X, PutsL W a len W.heap.size X ∧ len ≤ cap ∧ cap ≤ maxLen
def OpenedP13 (W : World) (a : Option Addr) (len cap : Nat) : Prop := OpenedP20 W a len cap
def textOf20 : Value → ByteArray | .string s => s | _ => noBytes
def iOf20 : Value → Int | .int _ z => z | _ => 0

set_option maxHeartbeats 1000000 in
set_option maxRecDepth 100000 in
theorem puts_open20 {H : Type} {enc : TypeId × Value → H} {W : World} {fuel : Nat} {cs : List Value} {x : DataW H × List MemPlace} (hf : DataW.trod enc Tryz.prog W 0 (fun _ => true) true fuel 61 cs = some x) {a : Option Addr} {len cap : Nat} (hcs : cs = [.slice a len cap]) :
    OpenedP20 W a len cap := by
  rcases Go.Deep.open_slice_pairs Tryz.underlying61 Tryz.underlying79 (by kernel_rfl) rfl rfl (by kernel_rfl) (by kernel_rfl) hf with ⟨hn, _⟩ | ⟨ad, l, c, m, n, V0, V1, D0, D1, P0, P1, hn, _, hl, hm, hmm, hx, hi⟩
  · rw [hcs] at hn
    simp at hn
    obtain ⟨rfl, rfl, rfl⟩ := hn
    exact ⟨fun _ => ⟨0, noBytes⟩, ⟨by omega, fun h => by omega⟩, by omega, by unfold maxLen; omega⟩
  · rw [hcs] at hn
    simp at hn
    obtain ⟨rfl, rfl, rfl⟩ := hn
    simp only [if_true] at hmm
    refine ⟨fun i => ⟨iOf20 (V0 i), textOf20 (V1 i)⟩, ⟨by unfold maxLen at hm; omega, fun h => ?_⟩, hl, hm⟩
    obtain ⟨b, off, spot⟩ := ad
    have hc0 := (hi 0 (by omega)).1
    have hspot : spot = none := by simpa [Addr.add] using World.cell?_spot hc0
    subst hspot
    have hbl := World.block_lt_of_cell? W _ hc0
    rw [Addr.add_none] at hbl
    refine ⟨b, off, rfl, hbl, fun i hi' => ?_⟩
    obtain ⟨h1, h2, h3, h4⟩ := hi i (by omega)
    obtain ⟨k, e1, _, _⟩ := DataW.trod_int Tryz.underlying3 h3
    obtain ⟨s, e2, _⟩ := DataW.trod_string Tryz.underlying9 h4
    rw [Addr.add_none] at h1 h2
    simp only [List.cons.injEq, and_true] at e1 e2
    rw [e1] at h1
    rw [e2, ← Nat.add_assoc] at h2
    simp only [e1, e2, iOf20, textOf20]
    exact ⟨h1, h2⟩

set_option maxHeartbeats 1000000 in
set_option maxRecDepth 100000 in
theorem puts_open13 {H : Type} {enc : TypeId × Value → H} {W : World} {fuel : Nat} {cs : List Value} {x : DataW H × List MemPlace} (hf : DataW.trod enc Tryz.prog W 0 (fun _ => true) true fuel 41 cs = some x) {a : Option Addr} {len cap : Nat} (hcs : cs = [.slice a len cap]) :
    OpenedP13 W a len cap := by
  rcases Go.Deep.open_slice_pairs Tryz.underlying41 Tryz.underlying46 (by kernel_rfl) rfl rfl (by kernel_rfl) (by kernel_rfl) hf with ⟨hn, _⟩ | ⟨ad, l, c, m, n, V0, V1, D0, D1, P0, P1, hn, _, hl, hm, hmm, hx, hi⟩
  · rw [hcs] at hn
    simp at hn
    obtain ⟨rfl, rfl, rfl⟩ := hn
    exact ⟨fun _ => ⟨0, noBytes⟩, ⟨by omega, fun h => by omega⟩, by omega, by unfold maxLen; omega⟩
  · rw [hcs] at hn
    simp at hn
    obtain ⟨rfl, rfl, rfl⟩ := hn
    simp only [if_true] at hmm
    refine ⟨fun i => ⟨iOf20 (V0 i), textOf20 (V1 i)⟩, ⟨by unfold maxLen at hm; omega, fun h => ?_⟩, hl, hm⟩
    obtain ⟨b, off, spot⟩ := ad
    have hc0 := (hi 0 (by omega)).1
    have hspot : spot = none := by simpa [Addr.add] using World.cell?_spot hc0
    subst hspot
    have hbl := World.block_lt_of_cell? W _ hc0
    rw [Addr.add_none] at hbl
    refine ⟨b, off, rfl, hbl, fun i hi' => ?_⟩
    obtain ⟨h1, h2, h3, h4⟩ := hi i (by omega)
    obtain ⟨k, e1, _, _⟩ := DataW.trod_int Tryz.underlying3 h3
    obtain ⟨s, e2, _⟩ := DataW.trod_string Tryz.underlying9 h4
    rw [Addr.add_none] at h1 h2
    simp only [List.cons.injEq, and_true] at e1 e2
    rw [e1] at h1
    rw [e2, ← Nat.add_assoc] at h2
    simp only [e1, e2, iOf20, textOf20]
    exact ⟨h1, h2⟩

theorem scrubequals_any (N F C U n : Int) (a : Option Addr) (l c : Nat) (X : Nat → PK) (a' : Option Addr) (l' c' : Nat) (X' : Nat → PK) (w : World) (h : PutsL w a l w.heap.size X ∧ l ≤ c ∧ c ≤ maxLen) (h' : PutsL w a' l' w.heap.size X' ∧ l' ≤ c' ∧ c' ≤ maxLen) (hK : Dg.Kon w) :
    Calls Tryz.prog 7 #[geo N F C U, .int .i64 n, .slice a l c, .slice a' l' c'] w fun e w' => e = .returned (.bool true) ∧ Below w.heap.size w w' := sequals_walk N F C U n a l c X a' l' c' X' w h.1 h.2.1 h.2.2 h'.1 h'.2.1 h'.2.2 hK

end Go.Proofs.YtpkeikbiblfidaaGreatDoor

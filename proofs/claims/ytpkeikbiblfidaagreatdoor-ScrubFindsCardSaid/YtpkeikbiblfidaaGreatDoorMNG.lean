/-
  Texts put together: NG, NH.
-/
import Derived.Test.YtpkeikbiblfidaaGreatDoorMNA
import Derived.Test.YtpkeikbiblfidaaGreatDoorMNE
import Derived.Test.YtpkeikbiblfidaaGreatDoorMNC
/-
  The walk of ScrubFinds (written by mkng.py).
-/
namespace Go.Proofs.YtpkeikbiblfidaaGreatDoor
open Go.RowKit
set_option linter.unusedVariables false
set_option linter.unusedSimpArgs false

theorem kinds_len (D : DS) : (kindsP D).1.length ≤ D.L.length := by
  have h : ∀ k, (kndL D k).1.length ≤ k := fun k => runE_inv (f := kndF D) (s := []) (fun k (L : List Int) => L.length ≤ k) (Nat.le_refl _) (fun j t h => by
    unfold kndF
    split
    · exact Nat.le_succ_of_le h
    · dsimp only
      rw [List.length_append]; simp only [List.length_singleton]; omega) (fun k t h => Nat.le_succ_of_le h) k
  unfold kindsP
  split
  · exact Nat.zero_le _
  · exact h _

set_option maxRecDepth 20000 in
set_option maxHeartbeats 16000000 in
theorem sfinds_walk (N F C U n : Int) (a : Option Addr) (l c : Nat) (X : Nat → PK) (a' : Option Addr) (l' c' : Nat) (xs : List Int) (w : World) (hA : PutsL w a l w.heap.size X) (hlc : l ≤ c) (hcm : c ≤ maxLen) (hri : Ri w a' l' c' xs) (hKn : Dg.Kon w) :
    Calls Tryz.prog 5 #[geo N F C U, .int .i64 n, .slice a l c, .slice a' l' c'] w fun e w' => e = .returned (.bool true) ∧ Below w.heap.size w w' := by
  have HKN := Lib.hid (fun w1 (hb : Below w.heap.size w w1) => (known20_any w1 (hKn.below hb)).mono (R' := fun e w' => e = .returned (.bool true) ∧ Below w.heap.size w w') (fun e w' h => ⟨h.1, hb.trans (h.2.mono hb.size)⟩))
  have hcx' : (c' : Int) ≤ 9223372036854775807 := by have := hri.cm; unfold maxLen at this; omega
  have hlx' : (l' : Int) ≤ (c' : Int) := by have := hri.le; omega
  obtain ⟨W, hW⟩ : ∃ W, W = w.alloc (.cells #[.int .i64 N, .int .i64 F, .int .i64 C, .int .i64 U] 23) := ⟨_, rfl⟩
  have hs0 : W.heap.size = w.heap.size + 1 := by rw [hW]; exact World.size_alloc _ _
  have hb0 : Below w.heap.size w W := by rw [hW]; exact (Below.refl _ w).alloc (Nat.le_refl _) _
  have hg0 : W.heap[w.heap.size]? = some (.cells #[.int .i64 N, .int .i64 F, .int .i64 C, .int .i64 U] 23 (0, 0)) := by rw [hW]; exact heap_alloc_new w _
  have hgc : ∀ w', Below W.heap.size W w' → w'.cell? ⟨w.heap.size, 0, none⟩ = some (.int .i64 N) ∧ w'.cell? ⟨w.heap.size, 1, none⟩ = some (.int .i64 F) ∧ w'.cell? ⟨w.heap.size, 2, none⟩ = some (.int .i64 C) ∧ w'.cell? ⟨w.heap.size, 3, none⟩ = some (.int .i64 U) := fun w' hb => geo_kept hg0 (hb.block _ (by omega))
  have hsm := fun w => small20_any N F C U w
  obtain ⟨sm, hsmv⟩ : ∃ b, b = smallH N C U := ⟨_, rfl⟩
  simp only [← hsmv] at hsm
  have hlk := fun w' (hb : Below w.heap.size w w') => light_any a l c w.heap.size X w' (hA.below hb) hlc hcm
  obtain ⟨b1, hb1v⟩ : ∃ b, b = lightB l X := ⟨_, rfl⟩
  simp only [← hb1v] at hlk
  obtain ⟨c0, c1, c2, c3⟩ := hgc W (Below.refl _ _)
  have HA := Lib.hid hA
  have HRI0 := Lib.hid (fun w' (hb : Below w.heap.size w w') => hri.later hb)
  have HGC := Lib.hid hgc
  have HB0 := Lib.hid hb0
  have HW := Lib.hid hW
  have HK := Lib.hid hKn
  have HLK := Lib.hid hlk
  have HL1 := Lib.hid hb1v.symm
  unfold geo at hsm ⊢
  have HSM := Lib.hid hsm
  clear hA hri hgc hb0 hW hs0 hg0 hsm hsmv hKn hlk hb1v
  cases sm with
  | false =>
    go_enter Tryz.func5, Tryz.ntmps5
    go_upto_region 1 with fail
    rw [← HW.out]
    go_wp2_with fail
    refine (HSM.out _).mono ?_
    rintro e w1 ⟨rfl, hb1⟩
    have HBW := Lib.hid hb1
    have HB1 := Lib.hid (HB0.out.trans (hb1.mono HB0.out.size))
    clear hb1
    go_wp2_with fail
    refine (HKN.out _ HB1.out).mono ?_
    rintro e w99 ⟨rfl, hb⟩
    go_wp2
    go_ret
    exact ⟨rfl, hb⟩
  | true =>
    by_cases h1 : n < 1
    · go_enter Tryz.func5, Tryz.ntmps5
      go_upto_region 1 with fail
      rw [← HW.out]
      go_wp2_with fail
      refine (HSM.out _).mono ?_
      rintro e w1 ⟨rfl, hb1⟩
      have HBW := Lib.hid hb1
      have HB1 := Lib.hid (HB0.out.trans (hb1.mono HB0.out.size))
      clear hb1
      go_wp2_with fail
      refine (HKN.out _ HB1.out).mono ?_
      rintro e w99 ⟨rfl, hb⟩
      go_wp2
      go_ret
      exact ⟨rfl, hb⟩
    by_cases h60 : 140 < n
    · go_enter Tryz.func5, Tryz.ntmps5
      go_upto_region 1 with fail
      rw [← HW.out]
      go_wp2_with fail
      refine (HSM.out _).mono ?_
      rintro e w1 ⟨rfl, hb1⟩
      have HBW := Lib.hid hb1
      have HB1 := Lib.hid (HB0.out.trans (hb1.mono HB0.out.size))
      clear hb1
      go_wp2_with fail
      refine (HKN.out _ HB1.out).mono ?_
      rintro e w99 ⟨rfl, hb⟩
      go_wp2
      go_ret
      exact ⟨rfl, hb⟩
    obtain ⟨m, rfl⟩ : ∃ m : Nat, n = (m : Int) := ⟨n.toNat, by omega⟩
    cases b1 with
    | false =>
      go_enter Tryz.func5, Tryz.ntmps5
      go_upto_region 1 with fail
      rw [← HW.out]
      go_wp2_with fail
      refine (HSM.out _).mono ?_
      rintro e w1 ⟨rfl, hb1⟩
      have HBW := Lib.hid hb1
      have HB1 := Lib.hid (HB0.out.trans (hb1.mono HB0.out.size))
      clear hb1
      go_wp2_with fail
      refine (HLK.out _ HB1.out).mono ?_
      rintro e w2 ⟨rfl, hw2⟩; obtain rfl := hw2.symm; clear hw2
      go_wp2_with fail
      refine (HKN.out _ HB1.out).mono ?_
      rintro e w99 ⟨rfl, hb⟩
      go_wp2
      go_ret
      exact ⟨rfl, hb⟩
    | true =>
      by_cases h40 : (40 : Int) < (l' : Int)
      · go_enter Tryz.func5, Tryz.ntmps5
        go_upto_region 1 with fail
        rw [← HW.out]
        go_wp2_with fail
        refine (HSM.out _).mono ?_
        rintro e w1 ⟨rfl, hb1⟩
        have HBW := Lib.hid hb1
        have HB1 := Lib.hid (HB0.out.trans (hb1.mono HB0.out.size))
        clear hb1
        go_wp2_with fail
        refine (HLK.out _ HB1.out).mono ?_
        rintro e w2 ⟨rfl, hw2⟩; obtain rfl := hw2.symm; clear hw2
        go_wp2_with fail
        refine (HKN.out _ HB1.out).mono ?_
        rintro e w99 ⟨rfl, hb⟩
        go_wp2
        go_ret
        exact ⟨rfl, hb⟩
      go_enter Tryz.func5, Tryz.ntmps5
      go_upto_region 1 with fail
      rw [← HW.out]
      go_wp2_with fail
      refine (HSM.out _).mono ?_
      rintro e w1 ⟨rfl, hb1⟩
      have HBW := Lib.hid hb1
      have HB1 := Lib.hid (HB0.out.trans (hb1.mono HB0.out.size))
      clear hb1
      go_wp2_with fail
      refine (HLK.out _ HB1.out).mono ?_
      rintro e w2 ⟨rfl, hw2⟩; obtain rfl := hw2.symm; clear hw2
      have HL30 := Lib.hid (of_decide_eq_true HL1.out).1
      obtain ⟨c0, c1, c2, c3⟩ := HGC.out w1 HBW.out
      have HLA := Lib.hid (fun w' (hb : Below w.heap.size w w') => laid_any N F C U m a l c X w' ((HA.out.below hb).more hb.size) hlc hcm HL30.out (by omega) (by omega) (HK.out.below hb))
      unfold geo at HLA
      have HS1 := Lib.hid (laidS_all N F C U m (by omega) X l HL30.out)
      obtain ⟨S1, hS1⟩ : ∃ S, S = laidS N F C U m X l := ⟨_, rfl⟩
      rw [← hS1] at HS1
      simp only [← hS1] at HLA
      clear hS1
      obtain ⟨R1, hR1⟩ : ∃ R, R = findP N F C U S1 xs := ⟨_, rfl⟩
      obtain ⟨R2, hR2⟩ : ∃ R, R = kindsP S1 := ⟨_, rfl⟩
      have hlen1 := findP_length N F C U S1 xs
      have hfi := fun B p v1 v2 w' (hp : PD w' B p v1 v2 S1) (hk : Dg.Kon w') (hri : Ri w' a' l' c' xs) => Find_any B p v1 v2 S1 N F C U a' l' c' xs w' hp hk 286 HS1.out.1 (by omega) HS1.out.2.1 hri (by omega)
      have hfr := fun B p v1 v2 w' (hp : RD w' B p v1 v2 S1) (hri : Ri w' a' l' c' xs) => rFind_any B p v1 v2 S1 N F C U a' l' c' xs w' hp 286 HS1.out.1 (by omega) HS1.out.2.1 hri (by omega)
      have hki := fun B p v1 v2 w' (hp : PD w' B p v1 v2 S1) => kinds_any B p v1 v2 S1 w' hp 286 HS1.out.1 (by omega)
      have hkr := fun B p v1 v2 w' (hp : RD w' B p v1 v2 S1) => rkinds_any B p v1 v2 S1 w' hp 286 HS1.out.1 (by omega)
      have hme := fun B p v1 v2 w' (hp : PD w' B p v1 v2 S1) hB (hk : Dg.Kon w') => mend_any B p v1 v2 S1 N F C U w' hp hB hk 286 HS1.out.1 (by omega) HS1.out.2.1
      have hmr := fun B p v1 v2 w' (hp : RD w' B p v1 v2 S1) hB => rmend_any B p v1 v2 S1 N F C U w' hp hB 286 HS1.out.1 (by omega) HS1.out.2.1
      have hmall := mendP_all HS1.out.1 HS1.out.2.1 N F C U
      have hclean := fun h => mend_clean (N := N) (F := F) (C := C) (U := U) HS1.out.1 h
      have hlen2 := kinds_len S1
      have hlen2' : S1.L.length ≤ 140 := by have := HS1.out.2.2; omega
      have hf3 := fun B p v1 v2 w' (hp : PD w' B p v1 v2 (mendP N F C U S1).2) (hk : Dg.Kon w') => Find_any B p v1 v2 (mendP N F C U S1).2 N F C U none 0 0 [] w' hp hk _ hmall.1 (by omega) hmall.2.1 (ri_nil w') (by omega)
      have hlen3 := findP_length N F C U (mendP N F C U S1).2 []
      obtain ⟨R4, hR4⟩ : ∃ R, R = (mendP N F C U S1).1 := ⟨_, rfl⟩
      obtain ⟨S2, hS2⟩ : ∃ S, S = (mendP N F C U S1).2 := ⟨_, rfl⟩
      simp only [← hR1] at hfi hfr hlen1
      simp only [← hR2] at hki hkr hlen2
      simp only [← hR4, ← hS2] at hme hmr hclean hf3 hlen3
      obtain ⟨R3, hR3⟩ : ∃ R, R = findP N F C U S2 [] := ⟨_, rfl⟩
      simp only [← hR3] at hf3 hclean hlen3
      obtain ⟨L1, f1⟩ := R1
      obtain ⟨L2, f2⟩ := R2
      obtain ⟨L3, f3⟩ := R3
      obtain ⟨x4, f4⟩ := R4
      simp only [geo] at hfi hfr hki hkr hme hmr hf3 hlen1 hlen2 hlen3 hclean
      have HFI := Lib.hid hfi
      have HFR := Lib.hid hfr
      have HKI := Lib.hid hki
      have HKR := Lib.hid hkr
      have HME := Lib.hid hme
      have HMR := Lib.hid hmr
      have HF3 := Lib.hid hf3
      have HCL := Lib.hid hclean
      have HLN := Lib.hid (And.intro hlen1 (And.intro (Nat.le_trans hlen2 hlen2') hlen3))
      have b1 : (f1 == f1) = true := by simp
      have b2 : (f1 != f1) = false := by simp
      have b3 : (f2 == f2) = true := by simp
      have b4 : (f2 != f2) = false := by simp
      have b5 : (x4 == x4) = true := by simp
      have b6 : (x4 != x4) = false := by simp
      have b7 : (f4 == f4) = true := by simp
      have b8 : (f4 != f4) = false := by simp
      have HMA := Lib.hid (And.intro (Nat.le_refl 0) hmall.2.2)
      clear hfi hfr hki hkr hme hmr hf3 hclean hlen1 hlen2 hlen2' hlen3 hmall hR1 hR2 hR3 hR4 hS2 HMA
      go_wp2_with fail
      refine (HLA.out w1 HB1.out).mono ?_
      rintro e w3 ⟨⟨p, q, hh⟩, hb3⟩
      obtain ⟨A, rfl, hT⟩ := hh
      have HT3 := Lib.hid hT
      have HBW3 := Lib.hid (HBW.out.trans (hb3.mono HBW.out.size))
      have HBB3 := Lib.hid (Below.refl w3.heap.size w3)
      have HB13 := Lib.hid hb3
      have HS13 := Lib.hid hb3.size
      obtain ⟨v1, v2, u1, u2, hp, hq, hd, hAA⟩ := hT
      have HP := Lib.hid hp
      have HQ := Lib.hid hq
      have HD := Lib.hid hd
      have HAA := Lib.hid hAA
      have HRI := Lib.hid (fun w' (hb : Below W.heap.size W w') => HRI0.out w' (HB0.out.trans (hb.mono HB0.out.size)))
      have HKK := Lib.hid (fun w' (hb : Below W.heap.size W w') => HK.out.below (HB0.out.trans (hb.mono HB0.out.size)))
      clear hp hq hd hAA hb3 c0 c1 c2 c3
      obtain ⟨c0, c1, c2, c3⟩ := HGC.out w3 HBW3.out
      go_wp2_with fail
      refine (HFI.out _ p v1 v2 w3 HP.out (HKK.out _ HBW3.out) (HRI.out _ HBW3.out)).mono ?_
      rintro e w4 ⟨⟨va, rfl, hva⟩, hb4⟩
      have HBB4 := Lib.hid (HBB3.out.trans (hb4.mono HBB3.out.size))
      have HBW4 := Lib.hid (HBW3.out.trans (hb4.mono HBW3.out.size))
      have HVA := Lib.hid (li_owns hva (by have := HLN.out; omega))
      clear hva
      clear hb4 c0 c1 c2 c3
      obtain ⟨c0, c1, c2, c3⟩ := HGC.out w4 HBW4.out
      go_wp2_with fail
      refine (HFR.out _ q u1 u2 w4 (HQ.out.below HBB4.out) (HRI.out _ HBW4.out)).mono ?_
      rintro e w5 ⟨⟨vb, rfl, hvb⟩, hb5⟩
      have HBB5 := Lib.hid (HBB4.out.trans (hb5.mono HBB4.out.size))
      have HBW5 := Lib.hid (HBW4.out.trans (hb5.mono HBW4.out.size))
      have HVB := Lib.hid (li_owns hvb (by have := HLN.out; omega))
      have HVA5 := Lib.hid (HVA.out.later hb5)
      clear hvb
      clear hb5 c0 c1 c2 c3
      obtain ⟨c0, c1, c2, c3⟩ := HGC.out w5 HBW5.out
      go_wp2_with fail
      refine (HKI.out _ p v1 v2 w5 (HP.out.below HBB5.out)).mono ?_
      rintro e w6 ⟨⟨vk, rfl, hvk⟩, hb6⟩
      have HBB6 := Lib.hid (HBB5.out.trans (hb6.mono HBB5.out.size))
      have HBW6 := Lib.hid (HBW5.out.trans (hb6.mono HBW5.out.size))
      have HVK := Lib.hid (li_owns hvk (by have := HLN.out; omega))
      have HVA6 := Lib.hid (HVA5.out.later hb6)
      have HVB6 := Lib.hid (HVB.out.later hb6)
      clear hvk
      clear hb6 c0 c1 c2 c3
      obtain ⟨c0, c1, c2, c3⟩ := HGC.out w6 HBW6.out
      go_wp2_with fail
      refine (HKR.out _ q u1 u2 w6 (HQ.out.below HBB6.out)).mono ?_
      rintro e w7 ⟨⟨vl, rfl, hvl⟩, hb7⟩
      have HBB7 := Lib.hid (HBB6.out.trans (hb7.mono HBB6.out.size))
      have HBW7 := Lib.hid (HBW6.out.trans (hb7.mono HBW6.out.size))
      have HVL := Lib.hid (li_owns hvl (by have := HLN.out; omega))
      have HVA7 := Lib.hid (HVA6.out.later hb7)
      have HVB7 := Lib.hid (HVB6.out.later hb7)
      have HVK7 := Lib.hid (HVK.out.later hb7)
      clear hvl
      clear hb7 c0 c1 c2 c3
      have hi1 := ints_any va vb L1 L1 w7 HVA7.out HVB7.out
      rw [decide_eq_true rfl] at hi1
      have HI1 := Lib.hid hi1
      clear hi1
      go_wp2_with fail
      refine HI1.out.mono ?_
      rintro e w8 ⟨rfl, hd⟩
      have hb8 := hd.below
      have HBB8 := Lib.hid (HBB7.out.trans (hb8.mono HBB7.out.size))
      have HBW8 := Lib.hid (HBW7.out.trans (hb8.mono HBW7.out.size))
      have hi2 := ints_any vk vl L2 L2 w8 (HVK7.out.later hb8) (HVL.out.later hb8)
      rw [decide_eq_true rfl] at hi2
      have HI2 := Lib.hid hi2
      clear hi2 hd hb8
      go_wp2_with fail
      refine HI2.out.mono ?_
      rintro e w9 ⟨rfl, hd⟩
      have hb9 := hd.below
      have HBB9 := Lib.hid (HBB8.out.trans (hb9.mono HBB8.out.size))
      have HBW9 := Lib.hid (HBW8.out.trans (hb9.mono HBW8.out.size))
      clear hd hb9 HI1 HI2
      obtain ⟨c0, c1, c2, c3⟩ := HGC.out w9 HBW9.out
      have HS19 : w1.heap.size ≤ w9.heap.size := Nat.le_trans HS13.out HBB9.out.size
      have HBL1 := Lib.hid HBW.out
      have HBX9 := Lib.hid (HB13.out.trans (HBB9.out.mono HS13.out))
      go_wp2_with fail
      refine (HME.out w1.heap.size p v1 v2 w9 (HP.out.below HBB9.out) HS19 (HKK.out _ HBW9.out)).mono ?_
      rintro e w10 ⟨rfl, hpp⟩
      have hq10 := rd_after (HQ.out.below HBB9.out) HD.out hpp
      have hbx := (pp_fr hpp).below (fun k hk => ((HP.out.below HBB9.out).foot_low k hk).1) HS19
      have HBX := Lib.hid (HBL1.out.trans ((HBX9.out.trans hbx).mono HBL1.out.size))
      have HPP := Lib.hid hpp
      obtain ⟨c0, c1, c2, c3⟩ := HGC.out w10 HBX.out
      have HMQ := Lib.hid (HMR.out w1.heap.size q u1 u2 w10 hq10 (Nat.le_trans HS19 hbx.size))
      clear hpp hq10 hbx
      go_wp2_with fail
      refine HMQ.out.mono ?_
      rintro e w11 ⟨rfl, hrp⟩
      obtain ⟨A3, hT11, hF11, hl11⟩ := two_after (HQ.out.below HBB9.out) (HP.out.below HBB9.out) HD.out HAA.out HPP.out hrp
      have HBW11 := Lib.hid (HBW9.out.trans (hF11.below (fun k hk => by have h6 := (HT3.out.low k hk).1; have := HBW.out.size; omega) HBW9.out.size))
      obtain ⟨y1, y2, z1, z2, hp11, hq11, hd11, hA11⟩ := hT11
      obtain ⟨fu, ex, d0, d1, d2, d3, d4, d5, _⟩ := hp11.cells
      obtain ⟨g0, g1, g2, g3, g4, _⟩ := hq11.cells
      obtain ⟨dd, hdd⟩ : ∃ d : Int, d = (S2.did : Int) := ⟨_, rfl⟩
      rw [← hdd] at d5 g4
      have HP11 := Lib.hid hp11
      have HDN := Lib.hid (fun w' (hc : w'.cell? ⟨p, 5, none⟩ = some (.int .i64 dd)) => done_any p dd w' hc)
      have HD5 := Lib.hid (fun w' (hb : Below w11.heap.size w11 w') => (hb.cell (p := ⟨p, 5, none⟩) hp11.lt).trans d5)
      have HG4 := Lib.hid (fun w' (hb : Below w11.heap.size w11 w') => (hb.cell (p := ⟨q, 4, none⟩) hq11.lt).trans g4)
      have b9 : (dd == dd) = true := by simp
      have b10 : (dd != dd) = false := by simp
      clear hF11 hl11 hp11 hq11 hd11 hA11 hrp HMQ HPP d0 d1 d2 d3 d4 d5 g0 g1 g2 g3 hdd c0 c1 c2 c3
      go_wp2_with fail
      go_region_held3 (fun w' : World => w'.cell? ⟨q, 4, none⟩ = some (.int .i64 dd)) (first | exact HG4.out _ (Below.refl _ _).drew | exact HG4.out _ hb12)
        (first | (go_at_call 36; refine (HDN.out _ (HD5.out _ (Below.refl _ _).drew)).mono ?_; rintro e w12 ⟨rfl, hw12⟩; have hb12 : Below w11.heap.size w11 w12 := by rw [hw12]; exact (Below.refl _ _).drew))
      all_goals (
        rename_i hHeld
        clear hHeld
        have HBW12 := Lib.hid HBW11.out.drew
        have HP12 := Lib.hid (HP11.out.below (Below.refl _ _).drew)
        obtain ⟨c0, c1, c2, c3⟩ := HGC.out w11.drew HBW12.out
        clear hb12 hw12
        go_wp2_with fail
        refine (HF3.out _ p y1 y2 w11.drew HP12.out (HKK.out _ HBW12.out)).mono ?_
        rintro e w13 ⟨⟨v3, rfl, hv3⟩, hb13⟩
        obtain ⟨a3, n3, c3', rfl, hr3⟩ := li_owns hv3 (by have := HLN.out; omega)
        have hl3 := hr3.len
        have HBW13 := Lib.hid (HB0.out.trans ((HBW12.out.trans (hb13.mono HBW12.out.size)).mono HB0.out.size))
        clear hv3 hb13 hr3 c0 c1 c2 c3
        by_cases hm : f4 = 0
        · subst hm
          have hcl := HCL.out rfl
          simp only [Prod.mk.injEq] at hcl
          obtain ⟨rfl, rfl⟩ := hcl
          obtain rfl : n3 = 0 := by simpa using hl3.symm
          clear hl3
          go_wp2_with fail
          refine (HKN.out _ HBW13.out).mono ?_
          rintro e w99 ⟨rfl, hb⟩
          go_wp2
          go_ret
          exact ⟨rfl, hb⟩
        · have k1 : (f4 == 0) = false := by simpa using hm
          have k2 : (f4 != 0) = true := by simp [hm]
          clear hm hl3
          go_wp2_with fail
          refine (HKN.out _ HBW13.out).mono ?_
          rintro e w99 ⟨rfl, hb⟩
          go_wp2
          go_ret
          exact ⟨rfl, hb⟩)
end Go.Proofs.YtpkeikbiblfidaaGreatDoor
/-
  ScrubFinds.
-/
namespace Go.Proofs.YtpkeikbiblfidaaGreatDoor
open Go.RowKit
set_option linter.unusedVariables false

theorem scrubfinds_any (N F C U n : Int) (a : Option Addr) (l c : Nat) (X : Nat → PK) (a' : Option Addr) (l' c' : Nat) (xs : List Int) (w : World) (h : PutsL w a l w.heap.size X ∧ l ≤ c ∧ c ≤ maxLen) (h' : Ri w a' l' c' xs) (hK : Dg.Kon w) :
    Calls Tryz.prog 5 #[geo N F C U, .int .i64 n, .slice a l c, .slice a' l' c'] w fun e w' => e = .returned (.bool true) ∧ Below w.heap.size w w' := sfinds_walk N F C U n a l c X a' l' c' xs w h.1 h.2.1 h.2.2 h' hK
end Go.Proofs.YtpkeikbiblfidaaGreatDoor

/-
  Texts put together: NU, NV.
-/
import Derived.Test.YtpkeikbiblfidaaGreatDoorMNM
import Derived.Test.YtpkeikbiblfidaaGreatDoorMNT
import Derived.Test.YtpkeikbiblfidaaGreatDoorMNS
import Derived.Test.YtpkeikbiblfidaaGreatDoorMHH
import Derived.Test.YtpkeikbiblfidaaGreatDoorMNC
/-
  The walk of NodesFresh (written by mknu.py).
-/
namespace Go.Proofs.YtpkeikbiblfidaaGreatDoor
open Go.RowKit
set_option linter.unusedVariables false
set_option linter.unusedSimpArgs false

set_option maxRecDepth 20000 in
set_option maxHeartbeats 16000000 in
theorem nfresh_walk (N F C U : Int) (a : Option Addr) (l c : Nat) (X : Nat → PK) (w : World) (hA : PutsL w a l w.heap.size X) (hlc : l ≤ c) (hcm : c ≤ maxLen) (hKn : Dg.Kon w) :
    Calls Tryz.prog 4 #[geo N F C U, .slice a l c] w fun e w' => e = .returned (.bool true) ∧ Below w.heap.size w w' := by
  have HKN := Lib.hid (fun w1 (hb : Below w.heap.size w w1) => (known13_any w1 (hKn.below hb)).mono (R' := fun e w' => e = .returned (.bool true) ∧ Below w.heap.size w w') (fun e w' h => ⟨h.1, hb.trans (h.2.mono hb.size)⟩))
  obtain ⟨iv, hi, hz0', hz1, hz2⟩ := info_parts Tryz.info3
  obtain ⟨i9, hi9, hz09, hz19, hz29⟩ := info_parts Tryz.info9
  have hcx : (c : Int) ≤ 9223372036854775807 := by unfold maxLen at hcm; omega
  have hlx : (l : Int) ≤ (c : Int) := by omega
  obtain ⟨W, hW⟩ : ∃ W, W = w.alloc (.cells #[.int .i64 N, .int .i64 F, .int .i64 C, .int .i64 U] 23) := ⟨_, rfl⟩
  have hs0 : W.heap.size = w.heap.size + 1 := by rw [hW]; exact World.size_alloc _ _
  have hb0 : Below w.heap.size w W := by rw [hW]; exact (Below.refl _ w).alloc (Nat.le_refl _) _
  have hg0 : W.heap[w.heap.size]? = some (.cells #[.int .i64 N, .int .i64 F, .int .i64 C, .int .i64 U] 23 (0, 0)) := by rw [hW]; exact heap_alloc_new w _
  have hgc : ∀ w', Below W.heap.size W w' → w'.cell? ⟨w.heap.size, 0, none⟩ = some (.int .i64 N) ∧ w'.cell? ⟨w.heap.size, 1, none⟩ = some (.int .i64 F) ∧ w'.cell? ⟨w.heap.size, 2, none⟩ = some (.int .i64 C) ∧ w'.cell? ⟨w.heap.size, 3, none⟩ = some (.int .i64 U) := fun w' hb => geo_kept hg0 (hb.block _ (by omega))
  have hsm := fun w => small13_any N F C U w
  obtain ⟨sm, hsmv⟩ : ∃ b, b = smallG N C U := ⟨_, rfl⟩
  simp only [← hsmv] at hsm
  have hgr := fun w => grright_any N F C U w
  obtain ⟨gr, hgrv⟩ : ∃ b, b = decide (okG N F C U) := ⟨_, rfl⟩
  simp only [← hgrv] at hgr
  obtain ⟨c0, c1, c2, c3⟩ := hgc W (Below.refl _ _)
  have HA := Lib.hid hA
  have HGC := Lib.hid hgc
  have HB0 := Lib.hid hb0
  have HW := Lib.hid hW
  have HK := Lib.hid hKn
  have HSV := Lib.hid hsmv.symm
  have HGV := Lib.hid hgrv.symm
  unfold geo at hsm hgr ⊢
  have HSM := Lib.hid hsm
  have HGR := Lib.hid hgr
  clear hA hgc hb0 hW hs0 hg0 hsm hsmv hKn hgr hgrv
  cases sm with
  | false =>
    go_enter Tryz.func4, Tryz.ntmps4
    go_upto_region 1 with fail
    rw [← HW.out]
    go_wp2_with fail
    refine (HSM.out _).mono ?_
    rintro e w1 ⟨rfl, hb1⟩
    have HBW := Lib.hid hb1
    have HB1 := Lib.hid (HB0.out.trans (hb1.mono HB0.out.size))
    clear hb1
    go_wp2_with fail
    refine (HKN.out _ HB1.out).mono ?_
    rintro e w99 ⟨rfl, hb⟩
    go_wp2
    go_ret
    exact ⟨rfl, hb⟩
  | true =>
    cases gr with
    | false =>
      go_enter Tryz.func4, Tryz.ntmps4
      go_upto_region 1 with fail
      rw [← HW.out]
      go_wp2_with fail
      refine (HSM.out _).mono ?_
      rintro e w1 ⟨rfl, hb1⟩
      have HBW := Lib.hid hb1
      have HB1 := Lib.hid (HB0.out.trans (hb1.mono HB0.out.size))
      clear hb1
      obtain ⟨c0, c1, c2, c3⟩ := HGC.out w1 HBW.out
      go_wp2_with fail
      refine (HGR.out _).mono ?_
      rintro e w2 ⟨rfl, hb2⟩
      have HBW2 := Lib.hid (HBW.out.trans (hb2.mono HBW.out.size))
      have HB2 := Lib.hid (HB1.out.trans (hb2.mono HB1.out.size))
      clear hb2 c0 c1 c2 c3
      go_wp2_with fail
      refine (HKN.out _ HB2.out).mono ?_
      rintro e w99 ⟨rfl, hb⟩
      go_wp2
      go_ret
      exact ⟨rfl, hb⟩
    | true =>
      have HG := Lib.hid (of_decide_eq_true HGV.out)
      by_cases h30 : (30 : Int) < (l : Int)
      · go_enter Tryz.func4, Tryz.ntmps4
        go_upto_region 1 with fail
        rw [← HW.out]
        go_wp2_with fail
        refine (HSM.out _).mono ?_
        rintro e w1 ⟨rfl, hb1⟩
        have HBW := Lib.hid hb1
        have HB1 := Lib.hid (HB0.out.trans (hb1.mono HB0.out.size))
        clear hb1
        obtain ⟨c0, c1, c2, c3⟩ := HGC.out w1 HBW.out
        go_wp2_with fail
        refine (HGR.out _).mono ?_
        rintro e w2 ⟨rfl, hb2⟩
        have HBW2 := Lib.hid (HBW.out.trans (hb2.mono HBW.out.size))
        have HB2 := Lib.hid (HB1.out.trans (hb2.mono HB1.out.size))
        clear hb2 c0 c1 c2 c3
        go_wp2_with fail
        refine (HKN.out _ HB2.out).mono ?_
        rintro e w99 ⟨rfl, hb⟩
        go_wp2
        go_ret
        exact ⟨rfl, hb⟩
      have hl30 : l ≤ 30 := by omega
      go_enter Tryz.func4, Tryz.ntmps4
      go_upto_region 1 with fail
      rw [← HW.out]
      go_wp2_with fail
      refine (HSM.out _).mono ?_
      rintro e w1 ⟨rfl, hb1⟩
      have HBW := Lib.hid hb1
      have HB1 := Lib.hid (HB0.out.trans (hb1.mono HB0.out.size))
      clear hb1
      obtain ⟨c0, c1, c2, c3⟩ := HGC.out w1 HBW.out
      go_wp2_with fail
      refine (HGR.out _).mono ?_
      rintro e w2 ⟨rfl, hb2⟩
      have HBW2 := Lib.hid (HBW.out.trans (hb2.mono HBW.out.size))
      have HB2 := Lib.hid (HB1.out.trans (hb2.mono HB1.out.size))
      clear hb2 c0 c1 c2 c3
      obtain ⟨m, hm⟩ : ∃ m, m = (sizeOf' N F C U 0).toNat := ⟨_, rfl⟩
      have hsv : sizeOf' N F C U 0 = 6 + N + (nodes N F C U : Nat) + 2 * C := by unfold sizeOf'; rw [if_pos ⟨HG.out, Or.inl rfl⟩]; rfl
      have hsml := of_decide_eq_true HSV.out
      have hn60 := nodes_20 HG.out hsml.1
      have hnp := nodes_le1 HG.out
      obtain ⟨g1, g2, g3, g4, g5, g6, g7, g8⟩ := HG.out
      have hmI : sizeOf' N F C U 0 = (m : Int) := by omega
      have hmn : 6 + N + (nodes N F C U : Nat) ≤ (m : Int) := by omega
      have HNN := Lib.hid (And.intro g1 (And.intro hsml.1 (And.intro (show m ≤ 140 by omega) (And.intro hmn (And.intro hn60 hnp)))))
      have hszz := fun w => rsize_any N F C U 0 w
      rw [hmI] at hszz
      have hn := fun w => dnew_any m w (by omega) (by omega)
      have hfu := fun B p v1 v2 w h hB hK => nfull_any B p v1 v2 (ds0 m) N F C U w h hB hK 0 (ds0_ok m (by omega)) (by omega) (ds0_sz m)
      obtain ⟨hfd0, hfd1, hfd2, hfd3⟩ := full_done (D := ds0 m) HG.out rfl rfl (by simp only [ds0, List.length_replicate]; exact hmn)
      rw [hfd0] at hfu
      have hfall := rehP_all (ds0_ok m (by omega)) (ds0_sz m) N F C U (everyL N)
      change (fullP N F C U (ds0 m)).2.ok (0 + 256) ∧ (fullP N F C U (ds0 m)).2.sz ∧ (fullP N F C U (ds0 m)).2.L.length = (ds0 m).L.length at hfall
      have htr := fun (k : Nat) (hk : k ≤ 30) => fresh_tree (n := m) HG.out hmn (by omega) X k (by omega) rfl rfl
      obtain ⟨S0, hS0⟩ : ∃ S, S = (fullP N F C U (ds0 m)).2 := ⟨_, rfl⟩
      obtain ⟨rt, hrt⟩ : ∃ V, V = strV (fullP N F C U (ds0 m)).1.1 := ⟨_, rfl⟩
      rw [← hS0] at hfall hfd1 hfd2
      simp only [← hS0, ← hrt] at hfu htr
      have hpa := fun k => putsS_all hfall.1 hfall.2.1 (placeX N F C U X) k
      unfold geo at hszz hfu
      have HSZ := Lib.hid hszz
      have HN := Lib.hid hn
      have HFU := Lib.hid hfu
      have HTR := Lib.hid htr
      have HON := Lib.hid (And.intro hfd1 hfd2)
      have HPA := Lib.hid hpa
      have HPO := Lib.hid (fun k => puts_on hfd1 hfd2 (placeX N F C U X) k)
      have HDA := Lib.hid (fun i w => rdata_any N F C U i w)
      unfold geo at HDA
      clear hm hsv hsml hn60 hnp g1 g2 g3 g4 g5 g6 g7 g8 hmI hmn hszz hn hfu hfd0 hfd1 hfd2 hfd3 hfall htr hS0 hrt hpa
      obtain ⟨c0, c1, c2, c3⟩ := HGC.out w2 HBW2.out
      go_wp2_with fail
      refine (HSZ.out _).mono ?_
      rintro e w3 ⟨rfl, hb3⟩
      have HBW3 := Lib.hid (HBW2.out.trans (hb3.mono HBW2.out.size))
      clear hb3 c0 c1 c2 c3
      go_wp2_with fail
      refine (HN.out _).mono ?_
      rintro e w4 ⟨p, v1, rfl, hp4, hb4⟩
      have HBW4 := Lib.hid (HBW3.out.trans (hb4.mono HBW3.out.size))
      have HS34 := Lib.hid (show W.heap.size ≤ w3.heap.size ∧ w3.heap.size ≤ w4.heap.size from ⟨HBW3.out.size, hb4.size⟩)
      have HP4 := Lib.hid hp4
      obtain ⟨c0, c1, c2, c3⟩ := HGC.out w4 HBW4.out
      clear hp4 hb4
      go_wp2_with fail
      refine (HFU.out w3.heap.size p v1 _ w4 HP4.out HS34.out.2 (HK.out.below (HB0.out.trans (HBW4.out.mono HB0.out.size)))).mono ?_
      rintro e wf ⟨rfl, hpp⟩
      obtain ⟨f1, f2, hpf, hff, _⟩ := hpp
      have hbf := HBW4.out.trans (hff.below (fun i hi => by have h6 := (HP4.out.foot_low i hi).1; have := HS34.out.1; omega) HBW4.out.size)
      have HBF := Lib.hid hbf
      have HPF := Lib.hid hpf
      have HSF := Lib.hid (Nat.le_trans HS34.out.2 hff.size)
      clear hbf hpf hff c0 c1 c2 c3
      go_wp2
      go_loopw [9, 10] (fun s i wr => ∃ (k : Nat) (v1 v2 : Value), k ≤ l ∧ i = .int .i64 k ∧ PD wr w3.heap.size p v1 v2 (putsS S0 (placeX N F C U X) k) ∧ wf.heap.size ≤ wr.heap.size ∧ wr.ownsRow wf.heap.size 3 1 s (lvs N F C U S0 X k).length (ivs (lvs N F C U S0 X k)) ∧ (∀ j, foot p v1 v2 j → s.ownBlock ≠ some j) ∧ Below W.heap.size W wr) (fun _ i _ => l - (intOf i).toNat)
      case atStart => exact ⟨0, f1, f2, by omega, rfl, HPF.out, Nat.le_refl _, World.ownsRow_nil _ _ _ _, (fun _ _ h => by cases h), HBF.out⟩
      case round =>
        obtain ⟨k, y1, y2, hk, rfl, hp, hsz, ho, hdis, hB⟩ := hrel
        obtain ⟨c0, c1, c2, c3⟩ := HGC.out wr hB
        by_cases hlt : k < l
        · have i0 : (0 : Int) ≤ (k : Int) := by omega
          have i1 : (k : Int) < (l : Int) := by omega
          have wr1 : IntKind.i64.wrap ((k : Int) + 1) = (k : Int) + 1 := IntWalk.i64_in _ (by omega)
          obtain ⟨b, off, rfl, hbl, hcl⟩ := (HA.out.below (HB0.out.trans (hB.mono HB0.out.size))).at0 (by omega)
          have hkp : ∀ w', Below W.heap.size W w' → (w'.cell? ⟨w.heap.size, 0, none⟩ = some (.int .i64 N) ∧ w'.cell? ⟨w.heap.size, 1, none⟩ = some (.int .i64 F) ∧ w'.cell? ⟨w.heap.size, 2, none⟩ = some (.int .i64 C) ∧ w'.cell? ⟨w.heap.size, 3, none⟩ = some (.int .i64 U)) ∧ w'.cell? ⟨b, off + k * 2, none⟩ = some (.int .i64 (X k).at') ∧ w'.cell? ⟨b, off + k * 2 + 1, none⟩ = some (.string (X k).data) := fun w' hb' => by
            obtain ⟨b2, off2, e2, hbl2, hcl2⟩ := (HA.out.below (HB0.out.trans (hb'.mono HB0.out.size))).at0 (by omega)
            simp only [Option.some.injEq, Addr.mk.injEq] at e2
            obtain ⟨rfl, rfl, _⟩ := e2
            exact ⟨HGC.out w' hb', hcl2 k hlt⟩
          obtain ⟨_, d0, d1⟩ := hkp wr hB
          have hst : putsS S0 (placeX N F C U X) (k + 1) = ((putsS S0 (placeX N F C U X) k).write (dataAt N F C U (X k).at') (X k).data).2 := rfl
          have hda := fun w => HDA.out (X k).at' w
          have hwt := fun w' hw hs => write_any w3.heap.size p y1 y2 (putsS S0 (placeX N F C U X) k) (dataAt N F C U (X k).at') (X k).data w' hw hs _ (HPA.out k).1 (by omega)
          have hno : dataAt N F C U (X k).at' < 0 → putsS S0 (placeX N F C U X) (k + 1) = putsS S0 (placeX N F C U X) k := fun hz => by
            rw [hst]
            unfold DS.write
            rw [(HPO.out k).1, if_neg (by simp), if_neg (by unfold DS.has; omega)]
          have hlv : lvs N F C U S0 X (k + 1) = if 0 ≤ dataAt N F C U (X k).at' ∧ ((putsS S0 (placeX N F C U X) k).write (dataAt N F C U (X k).at') (X k).data).1 = 0 then lvs N F C U S0 X k ++ [(X k).at'] else lvs N F C U S0 X k := rfl
          have hll := lvs_length N F C U S0 X k
          rw [← hst] at hwt
          obtain ⟨z, hz⟩ : ∃ z, z = dataAt N F C U (X k).at' := ⟨_, rfl⟩
          obtain ⟨er, her⟩ : ∃ z, z = ((putsS S0 (placeX N F C U X) k).write (dataAt N F C U (X k).at') (X k).data).1 := ⟨_, rfl⟩
          rw [← her] at hwt hlv
          simp only [← hz] at hda hwt hno hlv
          have HDA2 := Lib.hid hda
          have HWT := Lib.hid hwt
          have HNO := Lib.hid hno
          have HLV := Lib.hid hlv
          have HLL := Lib.hid hll
          have HPK := Lib.hid hp
          have HBB := Lib.hid hB
          have HSZ3 := Lib.hid hsz
          have HKP := Lib.hid hkp
          have HDI := Lib.hid hdis
          clear hcl hp hB hkp hst hda hwt hno hz hsz hlv hll her hdis
          generalize (X k).at' = x1 at *
          generalize (X k).data = x2 at *
          by_cases hz0 : (0 : Int) ≤ z
          · go_wp2_with fail
            go_region_held3 (fun w' : World => (w'.cell? ⟨w.heap.size, 0, none⟩ = some (.int .i64 N) ∧ w'.cell? ⟨w.heap.size, 1, none⟩ = some (.int .i64 F) ∧ w'.cell? ⟨w.heap.size, 2, none⟩ = some (.int .i64 C) ∧ w'.cell? ⟨w.heap.size, 3, none⟩ = some (.int .i64 U)) ∧ w'.cell? ⟨b, off + k * 2, none⟩ = some (.int .i64 x1) ∧ w'.cell? ⟨b, off + k * 2 + 1, none⟩ = some (.string x2)) (first | exact HKP.out _ HBB.out.drew | exact HKP.out _ hbq5)
              (first | (go_at_call 17; refine (HDA2.out _).mono ?_; rintro e w5 ⟨rfl, hb5⟩; have hbq5 := HBB.out.drew.trans (hb5.mono HBB.out.drew.size); have hs5 := hb5.size; have hbp5 := hb5))
            all_goals (
              rename_i hHeld
              clear hHeld
              obtain ⟨_, d0, d1⟩ := HKP.out _ hbq5
              have HBQ5 := Lib.hid hbq5
              have HS5 := Lib.hid (Nat.le_trans HSZ3.out hs5)
              have hpl := (HPK.out.below (Below.refl _ _).drew).below hbp5
              have HPL := Lib.hid hpl
              have ho5 := owns_kept ho fun x hx => hbp5.block x (ho.lt x hx).2
              clear hbp5 hs5 hb5 hbq5 ho hpl
              have HWT5 := Lib.hid (HWT.out w5 HPL.out (by have := HS5.out; have := HSF.out; omega))
              go_wp2_with fail
              refine HWT5.out.mono ?_
              rintro e w6 ⟨rfl, hpp⟩
              obtain ⟨z1, z2, hp6, hf6, ht6⟩ := hpp
              have hb6 := HBQ5.out.trans (hf6.below (fun i hi => by have h6 := (HPL.out.foot_low i hi).1; have := HS34.out.1; omega) HBQ5.out.size)
              have ho6 := owns_kept ho5 fun x hx => hf6.block x (ho5.lt x hx).2 (fun hfx => HDI.out x hfx hx)
              have hdis6 : ∀ j, foot p z1 z2 j → (_ : Value).ownBlock ≠ some j := fun j hj hx => by
                rcases ht6 j hj with h | h
                · exact HDI.out j h hx
                · have := (ho5.lt j hx).2; omega
              have HP6 := Lib.hid hp6
              have HB6 := Lib.hid hb6
              have HS6 := Lib.hid (Nat.le_trans HS5.out hf6.size)
              have HD6 := Lib.hid hdis6
              obtain ⟨_, d0, d1⟩ := HKP.out _ hb6
              clear hp6 hf6 hb6 ht6 ho5 hdis6
              by_cases he : er = 0
              · subst he
                have HLV2 := Lib.hid (HLV.out.trans (if_pos ⟨hz0, rfl⟩))
                go_wp2_with (at_builtin; refine wpList_append_ia (o := ⟨some 81, _, _, _, _, _⟩) rfl (.tmp 74) (.tmp 80) 34 rfl wf.heap.size iv Tryz.underlying34 hi hz0' hz1 hz2 _ (lvs N F C U S0 X k).length _ rfl (ho6.alloc _) _ rfl rfl (by have := HLL.out; omega) (by have := HS6.out; simp; omega) ?_)
                intro v7 w7 h1 h2 h3
                have hB7 := (HB6.out.alloc HB6.out.size (.cells #[.int .i64 x1] 3)).grown h2 (HB6.out.alloc HB6.out.size (.cells #[.int .i64 x1] 3)).size (fun x e => by have := (ho6.lt x e).1; have := HSF.out; have := HS34.out.1; omega)
                have hp7 : PD w7 w3.heap.size p z1 z2 (putsS S0 (placeX N F C U X) (k + 1)) := (HP6.out.below ((Below.refl w6.heap.size w6).alloc (Nat.le_refl _) (.cells #[.int .i64 x1] 3))).kept fun j hj => h2.block j (by have := (HP6.out.foot_low j hj).2; simp; omega) (fun e => HD6.out j hj e.symm)
                have hd7 : ∀ j, foot p z1 z2 j → v7.ownBlock ≠ some j := fun j hj hx => by
                  rcases h3 with h | h
                  · exact HD6.out j hj (h ▸ hx)
                  · rw [h] at hx
                    have := (HP6.out.foot_low j hj).2
                    simp at hx
                    omega
                have hs7 : wf.heap.size ≤ w7.heap.size := by have := HS6.out; have := h2.size; simp at this; omega
                have HO7 := Lib.hid h1
                have HB7 := Lib.hid hB7
                have HP7 := Lib.hid hp7
                have HD7 := Lib.hid hd7
                have HS7 := Lib.hid hs7
                have HLN := Lib.hid (show (lvs N F C U S0 X (k + 1)).length = (lvs N F C U S0 X k).length + 1 from by rw [HLV2.out, List.length_append]; rfl)
                clear h1 h2 h3 hB7 hp7 hd7 hs7 ho6
                go_wp2
                go_roundw
                case rel => exact ⟨k + 1, z1, z2, by omega, by first | rfl | go_num, HP7.out, HS7.out, by rw [HLN.out, HLV2.out]; exact HO7.out, HD7.out, HB7.out⟩
                case measure => simp [intOf]; omega
              · have he2 : (er == 0) = false := by simpa using he
                have HLV2 := Lib.hid (HLV.out.trans (if_neg (fun h => he h.2)))
                clear he
                go_wp2
                go_roundw
                case rel => exact ⟨k + 1, z1, z2, by omega, by first | rfl | go_num, HP6.out, HS6.out, by rw [HLV2.out]; exact ho6, HD6.out, HB6.out⟩
                case measure => simp [intOf]; omega)
          · go_wp2_with fail
            go_region_held3 (fun w' : World => (w'.cell? ⟨w.heap.size, 0, none⟩ = some (.int .i64 N) ∧ w'.cell? ⟨w.heap.size, 1, none⟩ = some (.int .i64 F) ∧ w'.cell? ⟨w.heap.size, 2, none⟩ = some (.int .i64 C) ∧ w'.cell? ⟨w.heap.size, 3, none⟩ = some (.int .i64 U)) ∧ w'.cell? ⟨b, off + k * 2, none⟩ = some (.int .i64 x1) ∧ w'.cell? ⟨b, off + k * 2 + 1, none⟩ = some (.string x2)) (first | exact HKP.out _ HBB.out.drew | exact HKP.out _ hbq5)
              (first | (go_at_call 17; refine (HDA2.out _).mono ?_; rintro e w5 ⟨rfl, hb5⟩; have hbq5 := HBB.out.drew.trans (hb5.mono HBB.out.drew.size); have hs5 := hb5.size; have hbp5 := hb5))
            all_goals (
              rename_i hHeld
              clear hHeld
              obtain ⟨_, d0, d1⟩ := HKP.out _ hbq5
              have HBQ5 := Lib.hid hbq5
              have HS5 := Lib.hid (Nat.le_trans HSZ3.out hs5)
              have hpl := (HPK.out.below (Below.refl _ _).drew).below hbp5
              have HPL := Lib.hid hpl
              have ho5 := owns_kept ho fun x hx => hbp5.block x (ho.lt x hx).2
              clear hbp5 hs5 hb5 hbq5 ho hpl
              have HE := Lib.hid (HNO.out (by omega))
              have HLV2 := Lib.hid (HLV.out.trans (if_neg (fun h => by have := h.1; omega)))
              go_wp2
              go_roundw
              case rel => exact ⟨k + 1, y1, y2, by omega, by first | rfl | go_num, by rw [HE.out]; exact HPL.out, HS5.out, by rw [HLV2.out]; exact ho5, HDI.out, HBQ5.out⟩
              case measure => simp [intOf]; omega)
        · have i1 : ¬ (k : Int) < (l : Int) := by omega
          obtain rfl : k = l := by omega
          obtain ⟨wo, hwo⟩ : ∃ x : World, x = wr := ⟨_, rfl⟩
          subst hwo
          obtain ⟨t1, t2, t3, t4⟩ := HTR.out k hl30
          obtain ⟨q1, q2, q3⟩ := HPA.out k
          have hll := lvs_length N F C U S0 X k
          obtain ⟨E, hE⟩ : ∃ E, E = putsS S0 (placeX N F C U X) k := ⟨_, rfl⟩
          obtain ⟨ls, hls⟩ : ∃ ls, ls = lvs N F C U S0 X k := ⟨_, rfl⟩
          rw [← hE] at hp q1 q2 q3
          rw [← hls] at ho hll
          simp only [← hE, ← hls] at t1 t2 t3 t4
          obtain ⟨ra1, ra2, ra3⟩ := rehP_all q1 q2 N F C U ls
          obtain ⟨la, ln, lc, rfl, hri⟩ := li_owns ho (by omega)
          have hre := reh_any w3.heap.size p y1 y2 E N F C U la ln lc ls wo hp (by have := HSF.out; omega) (HK.out.below (HB0.out.trans (hB.mono HB0.out.size))) _ q1 (by omega) q2 hri
          obtain ⟨Z, hZ⟩ : ∃ Z, Z = (rehP N F C U E ls).2 := ⟨_, rfl⟩
          rw [t1, hstrV_data] at hre
          simp only [← hZ] at hre t2 t3 t4 ra1 ra2
          obtain ⟨n, hn⟩ : ∃ n, n = N.toNat := ⟨_, rfl⟩
          simp only [← hn] at hre t2 t4
          obtain ⟨T, hT⟩ : ∃ T, T = treeL N F C U (secsL Z n) := ⟨_, rfl⟩
          simp only [← hT] at hre t2 t4
          have hnp := HNN.out.2.2.2.2.2
          have hn60 := HNN.out.2.2.2.2.1
          have hNn : N = (n : Int) := by have := HNN.out.1; omega
          have hn20 : n ≤ 20 := by have := HNN.out.2.1; omega
          have hal := fun B p v1 v2 w h => nall_any B p v1 v2 Z N F C U w h _ ra1 (by omega)
          rw [t2] at hal
          have hrd := fun B p v1 v2 w' x (h : PD w' B p v1 v2 Z) => read_any B p v1 v2 Z x w' h (by have := ra1.few; have := ra1.did; omega) (by have := ra1.len; omega)
          have h64 := fun (i : Nat) (hi : (i : Int) < N) => read_64 ra2 (t3 i hi)
          have herr : newErr N F C U (secsL Z n) = 0 := by
            unfold newErr
            rw [if_neg (fun h => h HG.out), if_neg (by rw [secsL_length]; omega), if_pos (fun i hi => by
              rw [secsL_length] at hi
              rw [secsL_at _ hi]
              exact h64 i (by omega))]
          have hne := fun a cap w (hP : Rs w a n cap (secsL Z n)) => Tv.rtnew_fit N F C U a n cap (secsL Z n) w hP HG.out (by omega)
          rw [herr, ← hT] at hne
          have hne := fun a cap w hP => (hne a cap w hP).mono (R' := fun e w' => TNew N F C U T w e w') (fun e w' h => h.elim (fun x => x.2) (fun x => absurd rfl x.1))
          obtain ⟨R, hR⟩ : ∃ R, R = lAt T (nodes N F C U - 1) := ⟨_, rfl⟩
          rw [← hR] at hre
          have hroot := fun B p v w (h : RT w B p v N F C U T) => trroot_any B p v N F C U T w h (by omega) (by omega)
          rw [t4, ← hR] at hroot
          obtain ⟨V, hV⟩ : ∃ V, V = Value.string R := ⟨_, rfl⟩
          have hgd := fun x y w => guard_txt .eql x y R R w
          have heq := fun w => eql_txt R R w
          rw [decide_eq_true rfl] at heq
          simp only [← hV] at hre hroot hgd heq
          unfold geo at hre hal hne
          have HRE := Lib.hid hre
          have HAL := Lib.hid hal
          have HRD := Lib.hid hrd
          have HT3 := Lib.hid t3
          have HNE := Lib.hid hne
          have HRO := Lib.hid hroot
          have HNI := Lib.hid hNn
          have HN20 := Lib.hid hn20
          have HTL := Lib.hid t4
          have HPO5 := Lib.hid hp
          have HBO := Lib.hid hB
          have HSO := Lib.hid hsz
          clear hre hal hrd t1 t2 t3 t4 hne hroot hNn hn20 hp hB hsz hE hls hZ hT hR hV ra1 ra2 ra3 q1 q2 q3 hll hri ho hdis hnp hn60 h64 herr hn
          go_wp2_with fail
          refine HRE.out.mono ?_
          rintro e w6 ⟨rfl, hpp⟩
          obtain ⟨z1, z2, hp6, hf6, _⟩ := hpp
          have HB6 := Lib.hid (HBO.out.trans (hf6.below (fun i hi => by have h6 := (HPO5.out.foot_low i hi).1; have := HS34.out.1; omega) HBO.out.size))
          have HP6 := Lib.hid hp6
          obtain ⟨c0, c1, c2, c3⟩ := HGC.out w6 HB6.out
          clear hp6 hf6 HRE
          go_wp2_with fail
          refine (HAL.out _ p z1 z2 w6 HP6.out).mono ?_
          rintro e w7 ⟨⟨va, rfl, hva⟩, hb7⟩
          obtain ⟨aa, ca, rfl, hrs, _⟩ := towns_shape hva
          have HRS := Lib.hid hrs
          have HB7 := Lib.hid (HB6.out.trans (hb7.mono HB6.out.size))
          have HP7 := Lib.hid (HP6.out.below hb7)
          clear hva hrs hb7 c0 c1 c2 c3
          go_wp2
          go_loopw [16, 17] (fun s i wr => ∃ j : Nat, j ≤ n ∧ i = .int .i64 j ∧ wr.ownsRow w7.heap.size 9 1 s j (strs (secsL Z j)) ∧ Below w7.heap.size w7 wr) (fun _ i _ => n - (intOf i).toNat)
          case atStart => exact ⟨0, by omega, rfl, World.ownsRow_nil _ _ _ _, Below.refl _ _⟩
          case round =>
            obtain ⟨j, hj, rfl, ho, hB⟩ := hrel
            have hBQ : Below W.heap.size W wr := HB7.out.trans (hB.mono HB7.out.size)
            obtain ⟨c0, c1, c2, c3⟩ := HGC.out wr hBQ
            by_cases hlt : j < n
            · have i1 : (j : Int) < N := by have := HNI.out; omega
              have i2 : (j : Int) < 20 := by have := HN20.out; omega
              have wr1 : IntKind.i64.wrap ((j : Int) + 1) = (j : Int) + 1 := IntWalk.i64_in _ (by omega)
              have hdj : dataAt N F C U (j : Int) = 6 + (j : Int) := by unfold dataAt; rw [if_pos ⟨HG.out, by omega, i1⟩]
              have hda := fun w => HDA.out (j : Int) w
              simp only [hdj] at hda
              have hrd := fun w' (hb : Below w7.heap.size w7 w') => HRD.out _ p z1 z2 w' (6 + (j : Int)) (HP7.out.below hb)
              have hnx := secsL_next Z j
              have he0 := HT3.out j i1
              obtain ⟨s, e, hse⟩ : ∃ s e, Z.read (6 + (j : Int)) = (s, e) := ⟨_, _, rfl⟩
              rw [hse] at hnx he0
              simp only [hse, two] at hrd
              dsimp only at hnx he0
              subst he0
              have HDA3 := Lib.hid hda
              have HRD3 := Lib.hid hrd
              have HNX := Lib.hid hnx
              have HBB := Lib.hid hB
              clear hda hrd hnx hB hse hdj hBQ
              go_wp2_with fail
              refine (HDA3.out _).mono ?_
              rintro e w8 ⟨rfl, hb8⟩
              have HB8 := Lib.hid (HBB.out.trans (hb8.mono HBB.out.size))
              have ho8 := owns_kept ho fun x hx => hb8.block x (ho.lt x hx).2
              clear hb8 ho c0 c1 c2 c3
              go_wp2_with fail
              refine (HRD3.out _ HB8.out).mono ?_
              rintro e w9 ⟨rfl, hb9⟩
              have HB9 := Lib.hid (HB8.out.trans (hb9.mono HB8.out.size))
              have ho9 := owns_kept ho8 fun x hx => hb9.block x (ho8.lt x hx).2
              clear hb9 ho8
              go_wp2_with (at_builtin; refine wpList_append_s (o := ⟨some 116, _, _, _, _, _⟩) rfl (.tmp 113) (.tmp 115) 49 rfl w7.heap.size i9 Tryz.underlying49 hi9 hz09 hz19 hz29 _ j _ rfl (ho9.alloc _) _ rfl rfl (by omega) (by have := HB9.out.size; simp; omega) ?_)
              intro v10 w10 h1 h2 _
              have hB10 := (HB9.out.alloc HB9.out.size (.cells #[.string s] 9)).grown h2 (HB9.out.alloc HB9.out.size (.cells #[.string s] 9)).size (fun x e => (ho9.lt x e).1)
              obtain ⟨a10, c10, rfl, _, _⟩ := towns_shape h1
              have HO10 := Lib.hid h1
              have HB10 := Lib.hid hB10
              clear h1 h2 hB10 ho9
              go_wp2
              go_roundw
              case rel => exact ⟨j + 1, by omega, by first | rfl | go_num, by rw [HNX.out]; exact HO10.out, HB10.out⟩
              case measure => simp [intOf]; omega
            · have i1 : ¬ (j : Int) < N := by have := HNI.out; omega
              obtain rfl : j = n := by omega
              obtain ⟨a5, c5, rfl, hr5, _⟩ := towns_shape ho
              have HNW := Lib.hid (HNE.out a5 c5 wr hr5)
              have HBQ := Lib.hid hBQ
              have HR5 := Lib.hid (HRS.out.later hB)
              clear hr5 ho hB hBQ
              go_wp2_with fail
              refine HNW.out.mono ?_
              rintro e w11 ⟨p2, v2, rfl, hrt, hb11⟩
              obtain ⟨_, _, _, _, d4, _⟩ := hrt.cells
              obtain ⟨g, cg, rfl, hrs2, _⟩ := towns_shape hrt.own
              have hTT := rtexts_any aa g _ _ ca cg T T w11 (HR5.out.later hb11) hrs2
              rw [decide_eq_true rfl] at hTT
              have HTT := Lib.hid hTT
              have HRT := Lib.hid hrt
              have HB11 := Lib.hid (HBQ.out.trans (hb11.mono HBQ.out.size))
              clear hrt hb11 hTT hrs2 c0 c1 c2 c3
              go_wp2_with fail
              refine HTT.out.mono ?_
              rintro e w12 ⟨rfl, hb12⟩
              have HB12 := Lib.hid (HB11.out.trans (hb12.mono HB11.out.size))
              have HRT12 := Lib.hid (HRT.out.below hb12)
              clear hb12
              go_wp2_with fail
              refine (HRO.out _ p2 _ w12 HRT12.out).mono ?_
              rintro e w13 ⟨rfl, hb13⟩
              have HB13 := Lib.hid (HB0.out.trans ((HB12.out.trans (hb13.mono HB12.out.size)).mono HB0.out.size))
              clear hb13
              go_wp2_with fail
              refine (HKN.out _ HB13.out).mono ?_
              rintro e w99 ⟨rfl, hb⟩
              go_wp2
              go_ret
              exact ⟨rfl, hb⟩
end Go.Proofs.YtpkeikbiblfidaaGreatDoor
/-
  NodesFresh.
-/
namespace Go.Proofs.YtpkeikbiblfidaaGreatDoor
open Go.RowKit
set_option linter.unusedVariables false

theorem nodesfresh_any (N F C U : Int) (a : Option Addr) (l c : Nat) (X : Nat → PK) (w : World) (h : PutsL w a l w.heap.size X ∧ l ≤ c ∧ c ≤ maxLen) (hK : Dg.Kon w) :
    Calls Tryz.prog 4 #[geo N F C U, .slice a l c] w fun e w' => e = .returned (.bool true) ∧ Below w.heap.size w w' := nfresh_walk N F C U a l c X w h.1 h.2.1 h.2.2 hK
end Go.Proofs.YtpkeikbiblfidaaGreatDoor

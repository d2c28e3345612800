/-
  Texts put together: NM, NO.
-/
import Derived.Test.YtpkeikbiblfidaaGreatDoorMNA
import Derived.Test.YtpkeikbiblfidaaGreatDoorMNL
import Derived.Test.YtpkeikbiblfidaaGreatDoorMNC
/-
  The walk of ScrubTells (written by mknm.py).
-/
namespace Go.Proofs.YtpkeikbiblfidaaGreatDoor
open Go.RowKit
set_option linter.unusedVariables false
set_option linter.unusedSimpArgs false

theorem nodes_fin : ∀ n, n < 21 → ∀ f, f < 5 → 2 ≤ f → S n f (H n f + 1) ≤ 60 := by decide +kernel
theorem nodes_20 {N F C U : Int} (hok : okG N F C U) (h : N ≤ 20) : nodes N F C U ≤ 60 := by
  obtain ⟨n, f, rfl, rfl, ho⟩ := ok_of hok
  have e : nodes n f C U = S n f (H n f + 1) := by unfold nodes; rw [if_pos hok]; simp
  rw [e]
  exact nodes_fin n (by omega) f (by have := ho.f2; omega) ho.f1
theorem read_64 {S : DS} (h : S.sz) {x : Int} (h0 : (S.read x).2 = 0) : (S.read x).1.size = 64 := by
  unfold DS.read at h0 ⊢
  split at h0
  · cases h0
  · rename_i h1
    rw [if_neg h1]
    split at h0
    · rename_i h2
      rw [if_pos h2]
      refine look_sz x h.w ?_ _ (Nat.le_refl _)
      have h3 : x.toNat < S.L.length := by have := h2.1; have := h2.2; omega
      unfold lAt
      rw [List.getElem?_eq_getElem h3]
      exact h.l _ (List.getElem_mem h3)
    · cases h0

set_option maxRecDepth 20000 in
set_option maxHeartbeats 16000000 in
theorem stells_walk (N F C U : Int) (a : Option Addr) (l c : Nat) (X : Nat → PK) (w : World) (hA : PutsL w a l w.heap.size X) (hlc : l ≤ c) (hcm : c ≤ maxLen) (hKn : Dg.Kon w) :
    Calls Tryz.prog 6 #[geo N F C U, .slice a l c] w fun e w' => e = .returned (.bool true) ∧ Below w.heap.size w w' := by
  have HKN := Lib.hid (fun w1 (hb : Below w.heap.size w w1) => (known20_any w1 (hKn.below hb)).mono (R' := fun e w' => e = .returned (.bool true) ∧ Below w.heap.size w w') (fun e w' h => ⟨h.1, hb.trans (h.2.mono hb.size)⟩))
  have hcx : (c : Int) ≤ 9223372036854775807 := by unfold maxLen at hcm; omega
  have hlx : (l : Int) ≤ (c : Int) := by omega
  obtain ⟨W, hW⟩ : ∃ W, W = w.alloc (.cells #[.int .i64 N, .int .i64 F, .int .i64 C, .int .i64 U] 23) := ⟨_, rfl⟩
  have hs0 : W.heap.size = w.heap.size + 1 := by rw [hW]; exact World.size_alloc _ _
  have hb0 : Below w.heap.size w W := by rw [hW]; exact (Below.refl _ w).alloc (Nat.le_refl _) _
  have hg0 : W.heap[w.heap.size]? = some (.cells #[.int .i64 N, .int .i64 F, .int .i64 C, .int .i64 U] 23 (0, 0)) := by rw [hW]; exact heap_alloc_new w _
  have hgc : ∀ w', Below W.heap.size W w' → w'.cell? ⟨w.heap.size, 0, none⟩ = some (.int .i64 N) ∧ w'.cell? ⟨w.heap.size, 1, none⟩ = some (.int .i64 F) ∧ w'.cell? ⟨w.heap.size, 2, none⟩ = some (.int .i64 C) ∧ w'.cell? ⟨w.heap.size, 3, none⟩ = some (.int .i64 U) := fun w' hb => geo_kept hg0 (hb.block _ (by omega))
  have hsm := fun w => small20_any N F C U w
  obtain ⟨sm, hsmv⟩ : ∃ b, b = smallH N C U := ⟨_, rfl⟩
  simp only [← hsmv] at hsm
  have hgr := fun w => grright_any N F C U w
  obtain ⟨gr, hgrv⟩ : ∃ b, b = decide (okG N F C U) := ⟨_, rfl⟩
  simp only [← hgrv] at hgr
  have hlk := fun w' (hb : Below w.heap.size w w') => light_any a l c w.heap.size X w' (hA.below hb) hlc hcm
  obtain ⟨b1, hb1v⟩ : ∃ b, b = lightB l X := ⟨_, rfl⟩
  simp only [← hb1v] at hlk
  obtain ⟨c0, c1, c2, c3⟩ := hgc W (Below.refl _ _)
  have HA := Lib.hid hA
  have HGC := Lib.hid hgc
  have HB0 := Lib.hid hb0
  have HW := Lib.hid hW
  have HK := Lib.hid hKn
  have HLK := Lib.hid hlk
  have HL1 := Lib.hid hb1v.symm
  have HSV := Lib.hid hsmv.symm
  have HGV := Lib.hid hgrv.symm
  have HS0 := Lib.hid hs0
  unfold geo at hsm hgr ⊢
  have HSM := Lib.hid hsm
  have HGR := Lib.hid hgr
  clear hA hgc hb0 hW hs0 hg0 hsm hsmv hKn hlk hb1v hgr hgrv
  cases sm with
  | false =>
    go_enter Tryz.func6, Tryz.ntmps6
    go_upto_region 1 with fail
    rw [← HW.out]
    go_wp2_with fail
    refine (HSM.out _).mono ?_
    rintro e w1 ⟨rfl, hb1⟩
    have HBW := Lib.hid hb1
    have HB1 := Lib.hid (HB0.out.trans (hb1.mono HB0.out.size))
    clear hb1
    go_wp2_with fail
    refine (HKN.out _ HB1.out).mono ?_
    rintro e w99 ⟨rfl, hb⟩
    go_wp2
    go_ret
    exact ⟨rfl, hb⟩
  | true =>
    cases gr with
    | false =>
      go_enter Tryz.func6, Tryz.ntmps6
      go_upto_region 1 with fail
      rw [← HW.out]
      go_wp2_with fail
      refine (HSM.out _).mono ?_
      rintro e w1 ⟨rfl, hb1⟩
      have HBW := Lib.hid hb1
      have HB1 := Lib.hid (HB0.out.trans (hb1.mono HB0.out.size))
      clear hb1
      obtain ⟨c0, c1, c2, c3⟩ := HGC.out w1 HBW.out
      go_wp2_with fail
      refine (HGR.out _).mono ?_
      rintro e w2 ⟨rfl, hb2⟩
      have HBW2 := Lib.hid (HBW.out.trans (hb2.mono HBW.out.size))
      have HB2 := Lib.hid (HB1.out.trans (hb2.mono HB1.out.size))
      clear hb2 c0 c1 c2 c3
      go_wp2_with fail
      refine (HKN.out _ HB2.out).mono ?_
      rintro e w99 ⟨rfl, hb⟩
      go_wp2
      go_ret
      exact ⟨rfl, hb⟩
    | true =>
      have HG := Lib.hid (of_decide_eq_true HGV.out)
      cases b1 with
      | false =>
        go_enter Tryz.func6, Tryz.ntmps6
        go_upto_region 1 with fail
        rw [← HW.out]
        go_wp2_with fail
        refine (HSM.out _).mono ?_
        rintro e w1 ⟨rfl, hb1⟩
        have HBW := Lib.hid hb1
        have HB1 := Lib.hid (HB0.out.trans (hb1.mono HB0.out.size))
        clear hb1
        obtain ⟨c0, c1, c2, c3⟩ := HGC.out w1 HBW.out
        go_wp2_with fail
        refine (HGR.out _).mono ?_
        rintro e w2 ⟨rfl, hb2⟩
        have HBW2 := Lib.hid (HBW.out.trans (hb2.mono HBW.out.size))
        have HB2 := Lib.hid (HB1.out.trans (hb2.mono HB1.out.size))
        clear hb2 c0 c1 c2 c3
        go_wp2_with fail
        refine (HLK.out _ HB2.out).mono ?_
        rintro e w2' ⟨rfl, hw2⟩; obtain rfl := hw2.symm; clear hw2
        go_wp2_with fail
        refine (HKN.out _ HB2.out).mono ?_
        rintro e w99 ⟨rfl, hb⟩
        go_wp2
        go_ret
        exact ⟨rfl, hb⟩
      | true =>
        go_enter Tryz.func6, Tryz.ntmps6
        go_upto_region 1 with fail
        rw [← HW.out]
        go_wp2_with fail
        refine (HSM.out _).mono ?_
        rintro e w1 ⟨rfl, hb1⟩
        have HBW := Lib.hid hb1
        have HB1 := Lib.hid (HB0.out.trans (hb1.mono HB0.out.size))
        clear hb1
        obtain ⟨c0, c1, c2, c3⟩ := HGC.out w1 HBW.out
        go_wp2_with fail
        refine (HGR.out _).mono ?_
        rintro e w2 ⟨rfl, hb2⟩
        have HBW2 := Lib.hid (HBW.out.trans (hb2.mono HBW.out.size))
        have HB2 := Lib.hid (HB1.out.trans (hb2.mono HB1.out.size))
        clear hb2 c0 c1 c2 c3
        go_wp2_with fail
        refine (HLK.out _ HB2.out).mono ?_
        rintro e w2' ⟨rfl, hw2⟩; obtain rfl := hw2.symm; clear hw2
        have HL30 := Lib.hid (of_decide_eq_true HL1.out).1
        obtain ⟨m, hm⟩ : ∃ m, m = (sizeOf' N F C U 0).toNat := ⟨_, rfl⟩
        have hsv : sizeOf' N F C U 0 = 6 + N + (nodes N F C U : Nat) + 2 * C := by unfold sizeOf'; rw [if_pos ⟨HG.out, Or.inl rfl⟩]; rfl
        have hsml := of_decide_eq_true HSV.out
        have hn60 := nodes_20 HG.out hsml.1
        obtain ⟨g1, g2, g3, g4, g5, g6, g7, g8⟩ := HG.out
        have hmI : sizeOf' N F C U 0 = (m : Int) := by omega
        have hm140 : m ≤ 140 := by omega
        have hmn : 6 + N + (nodes N F C U : Nat) ≤ (m : Int) := by omega
        have HNN := Lib.hid (And.intro g1 (And.intro hm140 hmn))
        have hszz := fun w => rsize_any N F C U 0 w
        rw [hmI] at hszz
        have hla := fun w' (hb : Below w.heap.size w w') => laid_any N F C U m none 0 0 (fun _ => ⟨0, noBytes⟩) w' ⟨by omega, fun h => by omega⟩ (Nat.le_refl _) (by unfold maxLen; omega) (by omega) (by omega) hm140 (HK.out.below hb)
        unfold geo at hszz hla
        have HLA := Lib.hid hla
        have HSZ := Lib.hid hszz
        obtain ⟨S0, hS0⟩ : ∃ S, S = (fullP N F C U (ds0 m)).2 := ⟨_, rfl⟩
        obtain ⟨X', hX'⟩ : ∃ X' : Nat → PK, X' = fun k => ⟨dataAt N F C U (X k).at', (X k).data⟩ := ⟨_, rfl⟩
        have hXat : ∀ k, (X' k).at' = -1 ∨ 6 ≤ (X' k).at' ∧ (X' k).at' < 6 + N := fun k => by
          rw [hX']
          show dataAt N F C U (X k).at' = -1 ∨ _
          unfold dataAt
          split
          · rename_i hh; right; show 6 ≤ dataAt N F C U (X k).at' ∧ dataAt N F C U (X k).at' < 6 + N; unfold dataAt; rw [if_pos hh]; omega
          · left; rfl
        have HXA := Lib.hid hXat
        have HXV := Lib.hid (show ∀ k, X' k = ⟨dataAt N F C U (X k).at', (X k).data⟩ from fun k => by rw [hX'])
        have hfall := rehP_all (ds0_ok m (by omega)) (ds0_sz m) N F C U (everyL N)
        change (fullP N F C U (ds0 m)).2.ok (0 + 256) ∧ (fullP N F C U (ds0 m)).2.sz ∧ (fullP N F C U (ds0 m)).2.L.length = (ds0 m).L.length at hfall
        obtain ⟨hfd0, hfd1, hfd2, hfd3⟩ := full_done (D := ds0 m) HG.out rfl rfl (by simp only [ds0, List.length_replicate]; exact hmn)
        have htf := fun k => tells_find HG.out hmn (by omega) X' k hXat
        rw [← hS0] at hfall hfd1 hfd2
        simp only [← hS0] at htf
        have HFA := Lib.hid hfall
        have HON := Lib.hid (And.intro hfd1 hfd2)
        have HTF := Lib.hid htf
        have hs0e : laidS N F C U m (fun _ => ⟨0, noBytes⟩) 0 = S0 := hS0.symm
        simp only [hs0e] at hla
        have HLA2 := Lib.hid hla
        clear HLA hla hszz hm hsv hsml hn60 g1 g2 g3 g4 g5 g6 g7 g8 hmI hm140 hmn hS0 hX' hXat hfall hfd0 hfd1 hfd2 hfd3 htf hs0e
        go_wp2_with fail
        have HGK := Lib.hid (fun w' (hb : Below W.heap.size W w') => HGC.out w' hb)
        go_region_held3 (fun w' : World => w'.cell? ⟨w.heap.size, 0, none⟩ = some (.int .i64 N) ∧ w'.cell? ⟨w.heap.size, 1, none⟩ = some (.int .i64 F) ∧ w'.cell? ⟨w.heap.size, 2, none⟩ = some (.int .i64 C) ∧ w'.cell? ⟨w.heap.size, 3, none⟩ = some (.int .i64 U)) (first | exact HGK.out _ HBW2.out.drew | exact HGK.out _ hbq3 | exact HGK.out _ hbq4)
          (first | (go_at_call 15; refine (HSZ.out _).mono ?_; rintro e w3 ⟨rfl, hb3⟩; have hbq3 := HBW2.out.drew.trans (hb3.mono HBW2.out.drew.size)) | (go_at_call 28; refine (HLA2.out _ (HB0.out.trans (hbq3.mono HB0.out.size))).mono ?_; rintro e w4 ⟨⟨p, q, A, rfl, hT⟩, hb4⟩; have hbq4 := hbq3.trans (hb4.mono hbq3.size)))
        all_goals (
          rename_i hHeld
          clear hHeld
          have HBQ4 := Lib.hid hbq4
          have HS34 := Lib.hid (show W.heap.size ≤ w3.heap.size ∧ w3.heap.size ≤ w4.heap.size from ⟨hbq3.size, hb4.size⟩)
          obtain ⟨v1, v2, u1, u2, hp, _, _, _⟩ := hT
          have HP4 := Lib.hid hp
          have hpa := fun k => putsS_all HFA.out.1 HFA.out.2.1 X' k
          have hpo := fun k => puts_on HON.out.1 HON.out.2 X' k
          have HPA := Lib.hid hpa
          have HPO := Lib.hid hpo
          have HDA := Lib.hid (fun i w => rdata_any N F C U i w)
          unfold geo at HDA
          clear hp hbq3 hbq4 hb3 hb4 hpa hpo
          go_wp2
          go_loopw [7] (fun i wr => ∃ (k : Nat) (v1 v2 : Value), k ≤ l ∧ i = .int .i64 k ∧ PD wr w3.heap.size p v1 v2 (putsS S0 X' k) ∧ w3.heap.size ≤ wr.heap.size ∧ Below W.heap.size W wr) (fun i _ => l - (intOf i).toNat)
          case atStart => exact ⟨0, v1, v2, by omega, rfl, HP4.out, HS34.out.2, HBQ4.out⟩
          case round =>
            obtain ⟨k, y1, y2, hk, rfl, hp, hsz, hB⟩ := hrel
            obtain ⟨c0, c1, c2, c3⟩ := HGC.out wr hB
            by_cases hlt : k < l
            · have i0 : (0 : Int) ≤ (k : Int) := by omega
              have i1 : (k : Int) < (l : Int) := by omega
              have wr1 : IntKind.i64.wrap ((k : Int) + 1) = (k : Int) + 1 := IntWalk.i64_in _ (by have := HL30.out; omega)
              obtain ⟨b, off, rfl, hbl, hcl⟩ := (HA.out.below (hB.mono HB0.out.size |> fun h => HB0.out.trans h)).at0 (by omega)
              have hkp : ∀ w', Below W.heap.size W w' → (w'.cell? ⟨w.heap.size, 0, none⟩ = some (.int .i64 N) ∧ w'.cell? ⟨w.heap.size, 1, none⟩ = some (.int .i64 F) ∧ w'.cell? ⟨w.heap.size, 2, none⟩ = some (.int .i64 C) ∧ w'.cell? ⟨w.heap.size, 3, none⟩ = some (.int .i64 U)) ∧ w'.cell? ⟨b, off + k * 2, none⟩ = some (.int .i64 (X k).at') ∧ w'.cell? ⟨b, off + k * 2 + 1, none⟩ = some (.string (X k).data) := fun w' hb' => by
                obtain ⟨b2, off2, e2, hbl2, hcl2⟩ := (HA.out.below (HB0.out.trans (hb'.mono HB0.out.size))).at0 (by omega)
                simp only [Option.some.injEq, Addr.mk.injEq] at e2
                obtain ⟨rfl, rfl, _⟩ := e2
                exact ⟨HGC.out w' hb', hcl2 k hlt⟩
              obtain ⟨_, d0, d1⟩ := hkp wr hB
              have hst : putsS S0 X' (k + 1) = ((putsS S0 X' k).write (dataAt N F C U (X k).at') (X k).data).2 := by
                show ((putsS S0 X' k).write (X' k).at' (X' k).data).2 = _
                rw [HXV.out k]
              have hda := fun w => HDA.out (X k).at' w
              have hwt := fun w' hw hs => write_any w3.heap.size p y1 y2 (putsS S0 X' k) (dataAt N F C U (X k).at') (X k).data w' hw hs _ (HPA.out k).1 (by have := HL30.out; omega)
              have hno : dataAt N F C U (X k).at' < 0 → putsS S0 X' (k + 1) = putsS S0 X' k := fun hz => by
                rw [hst]
                unfold DS.write
                rw [(HPO.out k).1, if_neg (by simp), if_neg (by unfold DS.has; omega)]
              rw [← hst] at hwt
              obtain ⟨z, hz⟩ : ∃ z, z = dataAt N F C U (X k).at' := ⟨_, rfl⟩
              simp only [← hz] at hda hwt hno
              have HDA2 := Lib.hid hda
              have HWT := Lib.hid hwt
              have HNO := Lib.hid hno
              have HPK := Lib.hid hp
              have HBB := Lib.hid hB
              have HSZ3 := Lib.hid hsz
              have HKP := Lib.hid hkp
              clear hcl hp hB hkp hst hda hwt hno hz hsz
              generalize (X k).at' = x1 at *
              generalize (X k).data = x2 at *
              by_cases hz0 : (0 : Int) ≤ z
              · go_wp2_with fail
                go_region_held3 (fun w' : World => (w'.cell? ⟨w.heap.size, 0, none⟩ = some (.int .i64 N) ∧ w'.cell? ⟨w.heap.size, 1, none⟩ = some (.int .i64 F) ∧ w'.cell? ⟨w.heap.size, 2, none⟩ = some (.int .i64 C) ∧ w'.cell? ⟨w.heap.size, 3, none⟩ = some (.int .i64 U)) ∧ w'.cell? ⟨b, off + k * 2, none⟩ = some (.int .i64 x1) ∧ w'.cell? ⟨b, off + k * 2 + 1, none⟩ = some (.string x2)) (first | exact HKP.out _ HBB.out.drew | exact HKP.out _ hbq5)
                  (first | (go_at_call 17; refine (HDA2.out _).mono ?_; rintro e w5 ⟨rfl, hb5⟩; have hbq5 := HBB.out.drew.trans (hb5.mono HBB.out.drew.size); have hs5 := hb5.size; have hbp5 := hb5))
                all_goals (
                  rename_i hHeld
                  clear hHeld
                  obtain ⟨_, d0, d1⟩ := HKP.out _ hbq5
                  have HWT5 := Lib.hid (HWT.out w5 ((HPK.out.below (Below.refl _ _).drew).below hbp5) (Nat.le_trans HSZ3.out hs5))
                  have HBQ5 := Lib.hid hbq5
                  have HS5 := Lib.hid (Nat.le_trans HSZ3.out hs5)
                  have HPL := Lib.hid ((HPK.out.below (Below.refl _ _).drew).below hbp5)
                  clear hbp5 hs5 hb5 hbq5
                  go_wp2_with fail
                  refine HWT5.out.mono ?_
                  rintro e w6 ⟨rfl, hpp⟩
                  obtain ⟨z1, z2, hp6, hf6, _⟩ := hpp
                  have hb6 := HBQ5.out.trans (hf6.below (fun i hi => by have h6 := (HPL.out.foot_low i hi).1; have := HS34.out.1; omega) HBQ5.out.size)
                  have HP6 := Lib.hid hp6
                  have HB6 := Lib.hid hb6
                  have HS6 := Lib.hid (Nat.le_trans HS5.out hf6.size)
                  clear hp6 hf6 hb6
                  go_wp2
                  go_roundw
                  case rel => exact ⟨k + 1, z1, z2, by omega, by first | rfl | go_num, HP6.out, HS6.out, HB6.out⟩
                  case measure => simp [intOf]; omega)
              · go_wp2_with fail
                go_region_held3 (fun w' : World => (w'.cell? ⟨w.heap.size, 0, none⟩ = some (.int .i64 N) ∧ w'.cell? ⟨w.heap.size, 1, none⟩ = some (.int .i64 F) ∧ w'.cell? ⟨w.heap.size, 2, none⟩ = some (.int .i64 C) ∧ w'.cell? ⟨w.heap.size, 3, none⟩ = some (.int .i64 U)) ∧ w'.cell? ⟨b, off + k * 2, none⟩ = some (.int .i64 x1) ∧ w'.cell? ⟨b, off + k * 2 + 1, none⟩ = some (.string x2)) (first | exact HKP.out _ HBB.out.drew | exact HKP.out _ hbq5)
                  (first | (go_at_call 17; refine (HDA2.out _).mono ?_; rintro e w5 ⟨rfl, hb5⟩; have hbq5 := HBB.out.drew.trans (hb5.mono HBB.out.drew.size); have hs5 := hb5.size; have hbp5 := hb5))
                all_goals (
                  rename_i hHeld
                  clear hHeld
                  have HBQ5 := Lib.hid hbq5
                  have HS5 := Lib.hid (Nat.le_trans HSZ3.out hs5)
                  have HPL := Lib.hid ((HPK.out.below (Below.refl _ _).drew).below hbp5)
                  have HE := Lib.hid (HNO.out (by omega))
                  clear hbp5 hs5 hb5 hbq5
                  go_wp2
                  go_roundw
                  case rel => exact ⟨k + 1, y1, y2, by omega, by first | rfl | go_num, by rw [HE.out]; exact HPL.out, HS5.out, HBQ5.out⟩
                  case measure => simp [intOf]; omega)
            · have i1 : ¬ (k : Int) < (l : Int) := by omega
              obtain rfl : k = l := by omega
              obtain ⟨wo, hwo⟩ : ∃ x : World, x = wr := ⟨_, rfl⟩
              subst hwo
              obtain ⟨hfp, hre⟩ := HTF.out k
              obtain ⟨ok1, ok2, ok3⟩ := HPA.out k
              obtain ⟨E, hE⟩ : ∃ E, E = putsS S0 X' k := ⟨_, rfl⟩
              rw [← hE] at hp hfp hre ok1 ok2 ok3
              have hfi := Find_any w3.heap.size p y1 y2 E N F C U none 0 0 [] wo hp (HK.out.below (HB0.out.trans (hB.mono HB0.out.size))) _ ok1 (by have := HL30.out; omega) ok2 (ri_nil wo) (by omega)
              rw [hfp] at hfi
              have hrd := fun w' (hb : Below wo.heap.size wo w') (x : Int) => read_any w3.heap.size p y1 y2 E x w' (hp.below hb) (by have := ok1.few; have := ok1.did; have := HL30.out; omega) (by have := ok1.len; omega)
              have hs64 := fun (i : Nat) (hi : (i : Int) < N) => read_64 ok2 (hre i hi)
              obtain ⟨n, hn⟩ : ∃ n, n = N.toNat := ⟨_, rfl⟩
              have hNn : N = (n : Int) := by have := HNN.out.1; omega
              have hn20 : n ≤ 1000 := by have := HNN.out; omega
              rw [← hn] at hfi
              have htl : (tellL (odd0 E) n).length ≤ n := by
                unfold tellL
                rw [List.length_map]
                exact Nat.le_trans (List.length_filter_le _ _) (by simp)
              have hta := fun i (hi : i < n) => tellL_at (odd0 E) hi
              have htn := fun i => tellL_next (odd0 E) i
              have HFI := Lib.hid hfi
              have HRD := Lib.hid hrd
              have HRE := Lib.hid hre
              have H64 := Lib.hid hs64
              have HNI := Lib.hid hNn
              have HTL := Lib.hid htl
              have HTA := Lib.hid hta
              have HTN := Lib.hid htn
              have HB5 := Lib.hid hB
              have HN20 := Lib.hid hn20
              have HTW := Lib.hid (fun s hs w' (hb : Below W.heap.size W w') => twin_any s hs w' (HK.out.below (HB0.out.trans (hb.mono HB0.out.size))))
              have HZE := Lib.hid (fun w => rzero_any w)
              unfold geo at HFI
              clear hp hfp hre ok1 ok2 ok3 hfi hrd hs64 hNn htl hta htn hE hn hB hsz hn20
              go_wp2_with fail
              refine HFI.out.mono ?_
              rintro e w5 ⟨⟨vl, rfl, hvl⟩, hb5⟩
              obtain ⟨al, nl, cl, rfl, hrl⟩ := li_owns hvl (by have := HTL.out; have := HN20.out; omega)
              obtain rfl := hrl.len
              have HRL := Lib.hid hrl
              have HBW5 := Lib.hid (HB5.out.trans (hb5.mono HB5.out.size))
              have HBR5 := Lib.hid hb5
              have hclx : (cl : Int) ≤ 9223372036854775807 := by have := hrl.cm; unfold maxLen at this; omega
              have hcly : ((tellL (odd0 E) n).length : Int) ≤ (cl : Int) := by have := hrl.le; omega
              clear hvl hb5 hrl c0 c1 c2 c3
              go_wp2
              go_loopw [11, 12] (fun t i wr => ∃ j : Nat, j ≤ n ∧ t = .int .i64 ((tellL (odd0 E) j).length : Int) ∧ i = .int .i64 j ∧ Below w5.heap.size w5 wr) (fun _ i _ => n - (intOf i).toNat)
              case atStart => exact ⟨0, by omega, rfl, rfl, Below.refl _ _⟩
              case round =>
                obtain ⟨j, hj, rfl, rfl, hB⟩ := hrel
                have hBQ : Below W.heap.size W wr := HBW5.out.trans (hB.mono HBW5.out.size)
                obtain ⟨c0, c1, c2, c3⟩ := HGC.out wr hBQ
                by_cases hlt : j < n
                · have i1 : (j : Int) < N := by have := HNI.out; omega
                  have wr1 : IntKind.i64.wrap ((j : Int) + 1) = (j : Int) + 1 := IntWalk.i64_in _ (by have := HN20.out; omega)
                  have hdj : dataAt N F C U (j : Int) = 6 + (j : Int) := by unfold dataAt; rw [if_pos ⟨HG.out, by omega, i1⟩]
                  have hda := fun w => HDA.out (j : Int) w
                  simp only [hdj] at hda
                  have hrd := fun w' (hb : Below w5.heap.size w5 w') => HRD.out w' (HBR5.out.trans (hb.mono HBR5.out.size)) (6 + (j : Int))
                  have he0 := HRE.out j i1
                  have h64 := H64.out j i1
                  have hodd : odd0 E j = !decide (leafB (secOf 0) = leafB (E.read (6 + (j : Int))).1) := rfl
                  obtain ⟨s, e, hse⟩ : ∃ s e, E.read (6 + (j : Int)) = (s, e) := ⟨_, _, rfl⟩
                  simp only [hse, two] at hrd
                  rw [hse] at he0 h64 hodd
                  dsimp only at he0 h64 hodd
                  subst he0
                  have htw := fun w' hb => HTW.out s h64 w' hb
                  have hzl : s = secOf 0 → leafB (secOf 0) = leafB s := fun h => by rw [h]
                  obtain ⟨V1, hV1⟩ : ∃ V, V = Value.string s := ⟨_, rfl⟩
                  obtain ⟨V2, hV2⟩ : ∃ V, V = Value.string (secOf 0) := ⟨_, rfl⟩
                  have hgd := fun x y w => guard_txt .eql x y s (secOf 0) w
                  have heq := fun w => eql_txt s (secOf 0) w
                  have hze := HZE.out
                  obtain ⟨bz, hbz⟩ : ∃ b, b = decide (s = secOf 0) := ⟨_, rfl⟩
                  obtain ⟨bl, hbl⟩ : ∃ b, b = decide (leafB (secOf 0) = leafB s) := ⟨_, rfl⟩
                  have hzb : bz = true → bl = true := fun h => by rw [hbl]; exact decide_eq_true (hzl (of_decide_eq_true (hbz ▸ h)))
                  rw [← hbl] at hodd
                  simp only [← hV1, ← hV2, ← hbz, ← hbl] at hgd heq hrd htw hze
                  have hat := HTA.out j hlt
                  have hnx := HTN.out j
                  rw [hodd] at hat hnx
                  have HDA3 := Lib.hid hda
                  have HRD3 := Lib.hid hrd
                  have HTWF := Lib.hid htw
                  have HZE := Lib.hid hze
                  have HZB := Lib.hid hzb
                  have HAT := Lib.hid hat
                  have HNX := Lib.hid hnx
                  have HBQ := Lib.hid hBQ
                  have HB55 := Lib.hid hB
                  clear hda hrd htw hze hzb hat hnx hBQ hB h64 hodd hse hV1 hV2 hbz hbl hzl hdj
                  go_wp2_with fail
                  refine (HDA3.out _).mono ?_
                  rintro e w6 ⟨rfl, hb6⟩
                  have HBQ6 := Lib.hid (HBQ.out.trans (hb6.mono HBQ.out.size))
                  have HB56 := Lib.hid (HB55.out.trans (hb6.mono HB55.out.size))
                  clear hb6 c0 c1 c2 c3
                  go_wp2_with fail
                  refine (HRD3.out _ HB56.out).mono ?_
                  rintro e w7 ⟨rfl, hb7⟩
                  have HBQ7 := Lib.hid (HBQ6.out.trans (hb7.mono HBQ6.out.size))
                  have HB57 := Lib.hid (HB56.out.trans (hb7.mono HB56.out.size))
                  have hr7 := HRL.out.later HB57.out
                  obtain ⟨c0, c1, c2, c3⟩ := HGC.out w7 HBQ7.out
                  clear hb7
                  have k0 : (0 : Int) ≤ ((tellL (odd0 E) j).length : Int) := by omega
                  cases bl with
                  | false =>
                    have hat := HAT.out
                    rw [if_pos (show (!false) = true from rfl)] at hat
                    obtain ⟨ha1, ha2⟩ := hat
                    have hnx := HNX.out
                    rw [if_pos (show (!false) = true from rfl)] at hnx
                    have hbzf : bz = false := by
                      cases bz with
                      | true => exact absurd (HZB.out rfl) (by simp)
                      | false => rfl
                    subst hbzf
                    obtain ⟨b3, o3, rfl, hb3l, hc3⟩ := hr7.at0 (by omega)
                    have hce := hc3 _ ha1
                    rw [ha2] at hce
                    have k1 : ((tellL (odd0 E) j).length : Int) < ((tellL (odd0 E) n).length : Int) := by omega
                    have ke : ((j : Int) == (j : Int)) = true := by simp
                    have wr2 : IntKind.i64.wrap (((tellL (odd0 E) j).length : Int) + 1) = ((tellL (odd0 E) j).length : Int) + 1 := IntWalk.i64_in _ (by have := HTL.out; have := HN20.out; omega)
                    have HMORE := Lib.hid (show (((tellL (odd0 E) (j + 1)).length : Nat) : Int) = ((tellL (odd0 E) j).length : Int) + 1 from by rw [hnx, List.length_append]; simp)
                    clear hnx ha1 ha2 hc3 hr7
                    go_wp2_with fail
                    refine (HZE.out _).mono ?_
                    rintro e w8 ⟨rfl, hb8⟩
                    have HBQ8 := Lib.hid (HBQ7.out.trans (hb8.mono HBQ7.out.size))
                    have HB58 := Lib.hid (HB57.out.trans (hb8.mono HB57.out.size))
                    clear hb8
                    go_wp2
                    go_roundw
                    case rel => exact ⟨j + 1, by omega, by rw [HMORE.out], by first | rfl | go_num, HB58.out⟩
                    case measure => simp [intOf]; omega
                  | true =>
                    have hat := HAT.out
                    rw [if_neg (show ¬ (!true) = true by simp)] at hat
                    have hnx := HNX.out
                    rw [if_neg (show ¬ (!true) = true by simp), List.append_nil] at hnx
                    have HSAME := Lib.hid (show (((tellL (odd0 E) (j + 1)).length : Nat) : Int) = ((tellL (odd0 E) j).length : Int) from by rw [hnx])
                    have HTWF := Lib.hid (fun (h : bz = false) w' hb => (HTWF.out w' hb).mono (R' := fun e w'' => e = .returned (.bool true) ∧ Below w'.heap.size w' w'') (fun e w'' hh => ⟨by rw [hh.1, h]; rfl, hh.2⟩))
                    by_cases hjl : (tellL (odd0 E) j).length < (tellL (odd0 E) n).length
                    · have hne := hat hjl
                      obtain ⟨b3, o3, rfl, hb3l, hc3⟩ := hr7.at0 (by omega)
                      have hce := hc3 _ hjl
                      have k1 : ((tellL (odd0 E) j).length : Int) < ((tellL (odd0 E) n).length : Int) := by omega
                      generalize (tellL (odd0 E) n)[(tellL (odd0 E) j).length]?.getD 0 = vv at hce hne
                      have ke : (vv == (j : Int)) = false := by simpa using hne
                      clear hnx hat hne hc3 hr7 hjl
                      go_wp2_with fail
                      refine (HZE.out _).mono ?_
                      rintro e w8 ⟨rfl, hb8⟩
                      have HBQ8 := Lib.hid (HBQ7.out.trans (hb8.mono HBQ7.out.size))
                      have HB58 := Lib.hid (HB57.out.trans (hb8.mono HB57.out.size))
                      clear hb8
                      cases bz with
                      | true =>
                        go_wp2
                        go_roundw
                        case rel => exact ⟨j + 1, by omega, by rw [HSAME.out], by first | rfl | go_num, HB58.out⟩
                        case measure => simp [intOf]; omega
                      | false =>
                        have HTW2 := Lib.hid (HTWF.out rfl)
                        go_wp2_with fail
                        refine (HTW2.out w8 HBQ8.out).mono ?_
                        rintro e w9 ⟨rfl, hb9⟩
                        have HB59 := Lib.hid (HB58.out.trans (hb9.mono HB58.out.size))
                        clear hb9
                        go_wp2
                        go_roundw
                        case rel => exact ⟨j + 1, by omega, by rw [HSAME.out], by first | rfl | go_num, HB59.out⟩
                        case measure => simp [intOf]; omega
                    · have k1 : ¬ ((tellL (odd0 E) j).length : Int) < ((tellL (odd0 E) n).length : Int) := by omega
                      clear hnx hat hr7 hjl
                      go_wp2_with fail
                      refine (HZE.out _).mono ?_
                      rintro e w8 ⟨rfl, hb8⟩
                      have HBQ8 := Lib.hid (HBQ7.out.trans (hb8.mono HBQ7.out.size))
                      have HB58 := Lib.hid (HB57.out.trans (hb8.mono HB57.out.size))
                      clear hb8
                      cases bz with
                      | true =>
                        go_wp2
                        go_roundw
                        case rel => exact ⟨j + 1, by omega, by rw [HSAME.out], by first | rfl | go_num, HB58.out⟩
                        case measure => simp [intOf]; omega
                      | false =>
                        have HTW2 := Lib.hid (HTWF.out rfl)
                        go_wp2_with fail
                        refine (HTW2.out w8 HBQ8.out).mono ?_
                        rintro e w9 ⟨rfl, hb9⟩
                        have HB59 := Lib.hid (HB58.out.trans (hb9.mono HB58.out.size))
                        clear hb9
                        go_wp2
                        go_roundw
                        case rel => exact ⟨j + 1, by omega, by rw [HSAME.out], by first | rfl | go_num, HB59.out⟩
                        case measure => simp [intOf]; omega
                · have i1 : ¬ (j : Int) < N := by have := HNI.out; omega
                  obtain rfl : j = n := by omega
                  have HBE := Lib.hid (HB0.out.trans (hBQ.mono HB0.out.size))
                  have b1 : (((tellL (odd0 E) j).length : Int) == ((tellL (odd0 E) j).length : Int)) = true := by simp
                  clear hB hBQ
                  go_wp2_with fail
                  refine (HKN.out _ HBE.out).mono ?_
                  rintro e w99 ⟨rfl, hb⟩
                  go_wp2
                  go_ret
                  exact ⟨rfl, hb⟩
        )
end Go.Proofs.YtpkeikbiblfidaaGreatDoor
/-
  ScrubTells.
-/
namespace Go.Proofs.YtpkeikbiblfidaaGreatDoor
open Go.RowKit
set_option linter.unusedVariables false

theorem scrubtells_any (N F C U : Int) (a : Option Addr) (l c : Nat) (X : Nat → PK) (w : World) (h : PutsL w a l w.heap.size X ∧ l ≤ c ∧ c ≤ maxLen) (hK : Dg.Kon w) :
    Calls Tryz.prog 6 #[geo N F C U, .slice a l c] w fun e w' => e = .returned (.bool true) ∧ Below w.heap.size w w' := stells_walk N F C U a l c X w h.1 h.2.1 h.2.2 hK
end Go.Proofs.YtpkeikbiblfidaaGreatDoor

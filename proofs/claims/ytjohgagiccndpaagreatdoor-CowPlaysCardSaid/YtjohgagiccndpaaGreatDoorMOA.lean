/-
  Texts put together: OA, OB.
-/
import Derived.Test.YtjohgagiccndpaaGreatDoorMO5
import Derived.Test.YtjohgagiccndpaaGreatDoorMO4
import Derived.Test.YtjohgagiccndpaaGreatDoorMO8
import Derived.Test.YtjohgagiccndpaaGreatDoorMQ
/-
  The document's Scan of layer 17.
-/
namespace Go.Proofs.YtjohgagiccndpaaGreatDoor
open Go.RowKit
set_option linter.unusedVariables false
set_option linter.unusedSimpArgs false

theorem cstepP_of {N F C U : Int} {S : DS} {ep k : Nat} {d1 d2 : ByteArray} {e1 e2 : Int} (h1 : chdAt N F C U S k = (d1, e1)) (h2 : colAt N F C U S k = (d2, e2)) : cstepP N F C U S ep k = if e1 ≠ 0 then .err e1 else if cbadH N ep k (cdecB d1) then .stop else if e2 ≠ 0 then .err e2 else if sumN d2 ≠ (cdecB d1).1.sum then .stop else .ok ⟨0, (cdecB d1).1.epoch, (cdecB d1).1.leaf, d2⟩ := by
  unfold cstepP
  rw [h1, h2]
/-- What Part tells of a cow's head is what decode tells. -/
theorem part_cow (k : Nat) (d : ByteArray) (hk : k < 4294967296) :
    ((partP 8 8 k d.data.toList).is = false → ∀ (N : Int) (ep : Nat), cbadH N ep k (cdecB d)) ∧
    ((partP 8 8 k d.data.toList).is = true → (partP 8 8 k d.data.toList).front.length = 8 ∧ cdecB d = (⟨numN (partP 8 8 k d.data.toList).front, k, (partP 8 8 k d.data.toList).num, (partP 8 8 k d.data.toList).sum⟩, true) ∧ (partP 8 8 k d.data.toList).num < 4294967296 ∧ (partP 8 8 k d.data.toList).sum < 4294967296) := by
  by_cases h1 : (openP 8 d.data.toList).2 = 0
  · by_cases h2 : (openP 8 d.data.toList).1.length = 20
    · have hD : cdecB d = (cbodyHd (openP 8 d.data.toList).1, true) := by unfold cdecB cdecP; rw [if_pos ⟨h1, h2⟩]
      have hP : partP 8 8 k d.data.toList = if ((openP 8 d.data.toList).1.take (8 + 4)).drop 8 ≠ enc k 4 then noPt else ⟨(openP 8 d.data.toList).1.take 8, numN (((openP 8 d.data.toList).1.drop (8 + 4)).take 4), numN (((openP 8 d.data.toList).1.drop (8 + 8)).take 4), true⟩ := by
        unfold partP
        rw [if_neg (by simpa using h1), if_neg (by simpa using h2)]
      rw [hD, hP]
      generalize (openP 8 d.data.toList).1 = b at h2 ⊢
      have hm := mid_enc b 8 k h2 hk
      by_cases h3 : (b.take (8 + 4)).drop 8 = enc k 4
      · rw [if_neg (fun h => h h3)]
        refine ⟨fun h => (by cases h), fun _ => ?_⟩
        have h4 := hm.1 h3
        dsimp only
        refine ⟨by rw [List.length_take]; omega, ?_, numN_lt _ 4 (by rw [List.length_drop]; omega), numN_lt _ 4 (by rw [List.length_drop]; omega)⟩
        unfold cbodyHd hfld
        rw [h4, List.drop_zero]
      · rw [if_pos h3]
        refine ⟨fun _ N ep => .inr (.inl fun h => h3 (hm.2 h)), fun h => (by cases h)⟩
    · have hD : cdecB d = (cnoHd, false) := by unfold cdecB cdecP; rw [if_neg (fun h => h2 h.2)]
      have hP : partP 8 8 k d.data.toList = noPt := by
        unfold partP
        rw [if_neg (by simpa using h1), if_pos (by simpa using h2)]
      rw [hD, hP]
      exact ⟨fun _ N ep => .inl rfl, fun h => (by cases h)⟩
  · have hD : cdecB d = (cnoHd, false) := by unfold cdecB cdecP; rw [if_neg (fun h => h1 h.1)]
    have hP : partP 8 8 k d.data.toList = noPt := by
      unfold partP
      rw [if_pos (by simpa using h1)]
    rw [hD, hP]
    exact ⟨fun _ N ep => .inl rfl, fun h => (by cases h)⟩
theorem num8 {xs : List UInt8} {ep : Nat} (hl : xs.length = 8) (he : ep < 18446744073709551616) : xs = enc ep 8 ↔ numN xs = ep := by
  constructor
  · intro h; rw [h]; exact (enc_num ep 8).trans (Nat.mod_eq_of_lt (by omega))
  · intro h; rw [← h]; exact (enc_of' 8 _ hl).symm
/-- Whether the head is one more of the epoch. -/
theorem cow_bad {N F C U : Int} {S : DS} {ep pn ps : Nat} {l : List En} {d1 d2 : ByteArray} {e2 : Int} {pf : List UInt8} (h1 : chdAt N F C U S l.length = (d1, 0)) (h2 : colAt N F C U S l.length = (d2, e2)) (hd : cdecB d1 = (⟨numN pf, l.length, pn, ps⟩, true)) (hl : pf.length = 8) (he : ep < 18446744073709551616) :
    ((¬ (pn : Int) < N ∨ pf ≠ enc ep 8) → cstepP N F C U S ep l.length = .stop) ∧
    ((pn : Int) < N → pf = enc ep 8 → cstepP N F C U S ep l.length = if e2 ≠ 0 then .err e2 else if sumN d2 ≠ ps then .stop else .ok ⟨0, ep, (pn : Int), d2⟩) := by
  have hs := cstepP_of (ep := ep) h1 h2
  rw [hd, if_neg (by simp)] at hs
  have h8 := num8 hl he
  constructor
  · intro h
    rw [hs, if_pos ?_]
    rcases h with h | h
    · exact .inr (.inr (.inl fun hx => h hx.2))
    · exact .inr (.inr (.inr fun hx => h (h8.2 hx)))
  · intro hn hp
    have hx := h8.1 hp
    rw [hs, if_neg ?_]
    · dsimp only; rw [hx]
    rintro (hb | hb | hb | hb)
    · cases hb
    · exact hb rfl
    · exact hb ⟨by omega, hn⟩
    · exact hb hx

set_option maxRecDepth 20000 in
set_option maxHeartbeats 4000000 in
theorem rcscan_any (B p : Nat) (v1 v2 : Value) (S : DS) (N F C U : Int) (ep : Nat) (w : World) (h : RD w B p v1 v2 S) (M : Nat) (hok : S.ok M) (hM : M ≤ 1000000) (hep : ep < 18446744073709551616) (hsz : ∀ x : Int, (S.read x).1.size ≤ 140737488355328) :
    Calls Tryz.prog 76 #[.pointer (some ⟨p, 0, none⟩), geo N F C U, .int .u64 (ep : Int)] w fun e w' =>
      (∃ a c, e = .returned (.tuple #[.slice a (cscanP N F C U S ep).1.length c, .int .i64 (cscanP N F C U S ep).2]) ∧ Es w' a (cscanP N F C U S ep).1.length c (cscanP N F C U S ep).1 ∧ ∀ b off sp, a = some ⟨b, off, sp⟩ → w.heap.size ≤ b) ∧ Below w.heap.size w w' := by
  have hr := fun w => grright_any N F C U w
  obtain ⟨R, hR⟩ : ∃ R, R = cscanP N F C U S ep := ⟨_, rfl⟩
  rw [← hR]
  unfold cscanP at hR
  obtain ⟨W, hW⟩ : ∃ W, W = w.alloc (.cells #[.int .i64 N, .int .i64 F, .int .i64 C, .int .i64 U] 23) := ⟨_, rfl⟩
  have hs0 : W.heap.size = w.heap.size + 1 := by rw [hW]; exact World.size_alloc _ _
  have hb0 : Below w.heap.size w W := by rw [hW]; exact (Below.refl _ w).alloc (Nat.le_refl _) _
  have hgc : ∀ w', Below W.heap.size W w' → w'.cell? ⟨w.heap.size, 0, none⟩ = some (.int .i64 N) ∧ w'.cell? ⟨w.heap.size, 1, none⟩ = some (.int .i64 F) ∧ w'.cell? ⟨w.heap.size, 2, none⟩ = some (.int .i64 C) ∧ w'.cell? ⟨w.heap.size, 3, none⟩ = some (.int .i64 U) := fun w' hb => by
    have := gb_cells w N F C U w' (by unfold gbox; rw [← hW, ← hs0]; exact hb)
    exact this
  have HGC := Lib.hid hgc
  have HB0 := Lib.hid hb0
  have HW := Lib.hid hW
  have HP := Lib.hid (h.below hb0)
  have HOK := Lib.hid hok
  have HSZ := Lib.hid hsz
  clear hgc hb0 hs0 hW h hok hsz
  unfold geo at hr ⊢
  by_cases ho : okG N F C U
  · rw [decide_eq_true ho] at hr
    rw [if_pos ho] at hR
    have HR := Lib.hid hr
    have HRR := Lib.hid hR
    have HO := Lib.hid ho
    clear hr hR ho
    go_enter Tryz.func76, Tryz.ntmps76
    go_wp2_with fail
    rw [← HW.out]
    refine (HR.out _).mono ?_
    rintro e w1 ⟨rfl, hb⟩
    obtain ⟨c0, c1, c2, c3⟩ := HGC.out w1 hb
    have HCI := Lib.hid (show CI W N F C U S ep w1 (.slice none 0 0) [] from ⟨by have := HO.out.2.2.2.2.1; have := HO.out.2.2.2.2.2.2.1; simp; omega, World.ownsRow_nil _ _ _ _, hb, fun j hj => by simp at hj⟩)
    clear hb
    go_upto_region 5 with fail
    obtain ⟨cn, hcn⟩ : ∃ cn : Nat, C = (cn : Int) := ⟨C.toNat, by have := HO.out.2.2.2.2.1; have := HO.out.2.2.2.2.2.2.1; omega⟩
    have HCN := Lib.hid hcn
    clear hcn
    go_loopw [8, 9] (fun v i wr => ∃ l : List En, i = .int .i64 (l.length : Int) ∧ CI W N F C U S ep wr v l) (fun _ i _ => cn - (intOf i).toNat)
    case atStart => exact ⟨[], rfl, HCI.out⟩
    case round =>
      obtain ⟨l, rfl, hci⟩ := hrel
      obtain ⟨va, vc, rfl, hes0, hlow0⟩ := es_of_owns hci.row rfl
      have HI := Lib.hid hci
      have hB := hci.bel
      have HES := Lib.hid hes0
      have HLOW := Lib.hid hlow0
      obtain ⟨c0, c1, c2, c3⟩ := HGC.out wr hB
      clear hes0 hlow0
      by_cases hlt : (l.length : Int) < C
      · have hk1000 : l.length ≤ 1000 := by have := HO.out.2.2.2.2.2.1; have := HO.out.2.2.2.2.2.2.2; omega
        have ha1 := fun w => rarea2_any N F C U 0 (2 * (l.length : Int)) w
        have ha2 := fun w => rarea2_any N F C U 0 (2 * (l.length : Int) + 1) w
        obtain ⟨A1, hA1⟩ : ∃ A, A = areaAt N F C U 0 (2 * (l.length : Int)) := ⟨_, rfl⟩
        obtain ⟨A2, hA2⟩ : ∃ A, A = areaAt N F C U 0 (2 * (l.length : Int) + 1) := ⟨_, rfl⟩
        rw [← hA1] at ha1
        rw [← hA2] at ha2
        obtain ⟨x1, hx1⟩ : ∃ x : Int, x = 2 * (l.length : Int) := ⟨_, rfl⟩
        obtain ⟨x2, hx2⟩ : ∃ x : Int, x = 2 * (l.length : Int) + 1 := ⟨_, rfl⟩
        have m1 : IntKind.i64.wrap (2 * (l.length : Int)) = x1 := (IntWalk.i64_in _ (by omega)).trans hx1.symm
        have m2 : IntKind.i64.wrap (x1 + 1) = x2 := (IntWalk.i64_in _ (by omega)).trans (by omega)
        have wr1 : IntKind.i64.wrap ((l.length : Int) + 1) = (l.length : Int) + 1 := IntWalk.i64_in _ (by omega)
        rw [← hx1] at ha1
        rw [← hx2] at ha2
        unfold geo at ha1 ha2
        have HA1 := Lib.hid ha1
        have HA2 := Lib.hid ha2
        have hrd := fun (x : Int) w' (hb : Below W.heap.size W w') => rread_any B p v1 v2 S x w' (HP.out.below hb) (by have := HOK.out.few; have := HOK.out.did; omega) (by have := HOK.out.len; omega)
        unfold two at hrd
        have HRD := Lib.hid hrd
        obtain ⟨d1, e1, hd1⟩ : ∃ x k, S.read A1 = (x, k) := ⟨_, _, rfl⟩
        obtain ⟨d2, e2, hd2⟩ : ∃ x k, S.read A2 = (x, k) := ⟨_, _, rfl⟩
        have hrd1 := fun w' hb => HRD.out A1 w' hb
        have hrd2 := fun w' hb => HRD.out A2 w' hb
        rw [hd1] at hrd1
        rw [hd2] at hrd2
        dsimp only at hrd1 hrd2
        have HRD1 := Lib.hid hrd1
        have HRD2 := Lib.hid hrd2
        have hd2s : d2.size ≤ 140737488355328 := by have := HSZ.out A2; rw [hd2] at this; exact this
        have hhd : chdAt N F C U S l.length = (d1, e1) := by unfold chdAt; rw [← hA1, hd1]
        have hhol : colAt N F C U S l.length = (d2, e2) := by unfold colAt; rw [← hA2, hd2]
        have HHD := Lib.hid (And.intro hhd hhol)
        have hpt := fun w => rpart_any 8 8 l.length d1.data.toList w (by omega) (by omega)
        rw [show strV d1.data.toList = Value.string d1 from by cases d1; simp [strV], show ((8 : Nat) : Int) = 8 from rfl] at hpt
        have HPE := Lib.hid (part_cow l.length d1 (by omega))
        obtain ⟨pt, hpte⟩ : ∃ pt, pt = partP 8 8 l.length d1.data.toList := ⟨_, rfl⟩
        rw [← hpte] at hpt HPE
        obtain ⟨pf, pn, ps, pis⟩ := pt
        unfold PtR.val at hpt
        dsimp only at hpt HPE
        have HPT := Lib.hid hpt
        have hlt' : l.length < C.toNat := by omega
        have HST := Lib.hid True.intro
        clear ha1 ha2 hA1 hA2 hx1 hx2 hrd hrd1 hrd2 hd1 hd2 hci hhd hhol hpt hpte
        go_wp2_with fail
        refine (HA1.out _).mono ?_
        rintro e w2 ⟨rfl, hb⟩
        have HB2 := Lib.hid (hB.trans (hb.mono hB.size))
        have HBr2 := Lib.hid hb
        clear hb HA1
        go_wp2_with fail
        refine (HRD1.out _ HB2.out).mono ?_
        rintro e w3 ⟨rfl, rfl⟩
        clear HRD1 c0 c1 c2 c3
        by_cases he1 : e1 = 0
        · subst he1
          go_wp2_with fail
          refine (HPT.out _).mono ?_
          rintro e w4 ⟨rfl, hb⟩
          have HB4 := Lib.hid (HB2.out.trans (hb.mono HB2.out.size))
          have HBr4 := Lib.hid (HBr2.out.trans (hb.mono HBr2.out.size))
          clear hb HPT HB2 HBr2
          obtain ⟨c0, c1, c2, c3⟩ := HGC.out _ HB4.out
          cases pis with
          | false =>
            have hbad := HPE.out.1 rfl
            have HRV := Lib.hid (HRR.out.trans (scanL_stop hlt' HI.out.oks (by rw [cstepP_of HHD.out.1 HHD.out.2]; rw [if_neg (by simp), if_pos (hbad _ _)])))
            have HEE := Lib.hid (HES.out.later HBr4.out)
            have HFIN := Lib.hid (HB0.out.trans (HB4.out.mono HB0.out.size))
            clear hbad HST
            go_wp2
            refine bodyPost_ret (results_tmp2 rfl _ _ _) rfl ?_
            rw [HRV.out]
            exact ⟨⟨va, vc, rfl, HEE.out, fun b off sp e => Nat.le_trans HB0.out.size (HLOW.out b off sp e)⟩, HFIN.out⟩
          | true =>
            obtain ⟨hpfl, hdec, hpn, hps⟩ := HPE.out.2 rfl
            have HDEC := Lib.hid (And.intro hpfl hdec)
            clear hpfl hdec HPE
            have hdec0 := HDEC.out
            have HBAD := Lib.hid (cow_bad HHD.out.1 HHD.out.2 hdec0.2 hdec0.1 hep)
            have te := fun w => text_any 8 ep w (by omega) (by omega) hep
            rw [show ((8 : Nat) : Int) = 8 from rfl] at te
            have hnq := fun w => neq_str pf (enc ep 8) w
            have hng := fun x y w => nguard_str pf (enc ep 8) x y w
            obtain ⟨rq, hrq⟩ : ∃ r, r = (!decide (pf = enc ep 8)) := ⟨_, rfl⟩
            rw [← hrq] at hnq
            have HRQ := Lib.hid hrq
            obtain ⟨VP, hVP⟩ : ∃ V, V = strV pf := ⟨_, rfl⟩
            obtain ⟨VE, hVE⟩ : ∃ V, V = strV (enc ep 8) := ⟨_, rfl⟩
            simp only [← hVP, ← hVE] at hnq hng
            rw [← hVE] at te
            rw [← hVP]
            have TE := Lib.hid te
            clear hdec0 te hrq hVP hVE
            by_cases hm : (pn : Int) < N
            · have m3 : ¬ (N ≤ (pn : Int)) := by omega
              have HM := Lib.hid hm
              clear hm
              go_wp2_with fail
              refine (TE.out _).mono ?_
              rintro e w5 ⟨rfl, hb⟩
              have HB5 := Lib.hid (HB4.out.trans (hb.mono HB4.out.size))
              have HBr5 := Lib.hid (HBr4.out.trans (hb.mono HBr4.out.size))
              clear hb TE c0 c1 c2 c3
              obtain ⟨c0, c1, c2, c3⟩ := HGC.out _ HB5.out
              cases rq with
              | true =>
                have hpf : pf ≠ enc ep 8 := fun e => by have := HRQ.out; simp [e] at this
                have HRV := Lib.hid (HRR.out.trans (scanL_stop hlt' HI.out.oks ((HBAD.out).1 (.inr hpf))))
                have HEE := Lib.hid (HES.out.later HBr5.out)
                have HFIN := Lib.hid (HB0.out.trans (HB5.out.mono HB0.out.size))
                clear hpf HST
                go_wp2
                refine bodyPost_ret (results_tmp2 rfl _ _ _) rfl ?_
                rw [HRV.out]
                exact ⟨⟨va, vc, rfl, HEE.out, fun b off sp e => Nat.le_trans HB0.out.size (HLOW.out b off sp e)⟩, HFIN.out⟩
              | false =>
                have hpf : pf = enc ep 8 := by have := HRQ.out; simpa using this
                have HNE := Lib.hid ((HBAD.out).2 HM.out hpf)
                clear hpf
                go_wp2_with fail
                refine (HA2.out _).mono ?_
                rintro e w8 ⟨rfl, hb⟩
                have HB8 := Lib.hid (HB5.out.trans (hb.mono HB5.out.size))
                have HBr8 := Lib.hid (HBr5.out.trans (hb.mono HBr5.out.size))
                clear hb HA2 c0 c1 c2 c3
                go_wp2_with fail
                refine (HRD2.out _ HB8.out).mono ?_
                rintro e w9 ⟨rfl, rfl⟩
                clear HRD2
                by_cases he2 : e2 = 0
                · subst he2
                  have hst := HNE.out
                  rw [if_neg (by simp)] at hst
                  obtain ⟨kk, wk, hcv, hrdk, hbk⟩ := cv_rd d2 hd2s w9
                  have hsu := rsum_any _ _ _ _ wk hrdk
                  obtain ⟨sm, hsm⟩ : ∃ sm, sm = sumN d2 := ⟨_, rfl⟩
                  rw [show addN 0 d2.data.toList = sm from hsm.symm] at hsu
                  rw [← hsm] at hst
                  have HSU := Lib.hid hsu
                  have HST3 := Lib.hid hst
                  have HBk := Lib.hid (HB8.out.trans (hbk.mono HB8.out.size))
                  have HBrk := Lib.hid (HBr8.out.trans (hbk.mono HBr8.out.size))
                  clear hst hsu hrdk hbk hsm
                  by_cases hsg : sm = ps
                  · have p1 : ((sm : Int) == (ps : Int)) = true := by simp [hsg]
                    have p2 : ((sm : Int) != (ps : Int)) = false := by simp [hsg]
                    have HSTEP := Lib.hid (HST3.out.trans (if_neg (fun h => h hsg)))
                    clear hsg
                    go_wp2_with fail
                    refine HSU.out.mono ?_
                    rintro e wm ⟨rfl, rfl⟩
                    have hrow : wk.ownsRow W.heap.size 55 4 (.slice va l.length vc) l.length (ents l) := owns_kept HI.out.row fun k hk => HBrk.out.block k (HI.out.row.lt k hk).2
                    have HROW := Lib.hid hrow
                    clear hrow hcv HSU
                    obtain ⟨i0, hi, hz0, hz1, hz2⟩ := info_parts Tryz.infoEnt
                    have hlo := HBk.out.size
                    go_wp2_with (at_builtin; refine wpList_append_own_at _ (o := ⟨some 86, _, _, _, _, _⟩) rfl (.tmp 80) (.tmp 85) 53 rfl W.heap.size 55 i0 _ 4 40 Tryz.underlying53 hi hz0 hz1 hz2 rfl (by omega) (.slice va l.length vc) l.length _ rfl (HROW.out.alloc _) ⟨wk.heap.size, 0, none⟩ 1 1 (ents [(⟨0, ep, (pn : Int), d2⟩ : En)]) rfl rfl (ent_cells wk (⟨0, ep, (pn : Int), d2⟩ : En)) (ents_one _) (by unfold maxLen; simp; omega) (by omega) (by simp; omega) ?_)
                    rintro v' w' hown hg - hat
                    obtain ⟨a', c', rfl, -⟩ := owns_shape1 hown
                    have HCI2 := Lib.hid (show CI W N F C U S ep w' (.slice a' (l.length + 1) c') (l ++ [(⟨0, ep, (pn : Int), d2⟩ : En)]) from by
                      refine ⟨by have := hlt'; simp at this ⊢; omega, by rw [List.length_append, ents_append]; exact hown, ?_, fun j hj => ?_⟩
                      · exact (HBk.out.alloc HBk.out.size _).grown hg (HBk.out.alloc HBk.out.size _).size (fun k e => (HI.out.row.lt k e).1)
                      · rcases Nat.lt_or_ge j l.length with h1 | h1
                        · rw [HI.out.oks j h1, eAt_append_l h1]
                        · obtain rfl : j = l.length := by rw [List.length_append] at hj; have h2 : ∀ x : En, [x].length = 1 := fun _ => rfl; rw [h2] at hj; omega
                          rw [HSTEP.out, eAt_append_e])
                    clear hown hg hat hlo
                    go_wp2
                    go_roundw
                    case rel => exact ⟨_, by simp, HCI2.out⟩
                    case measure => have := HCN.out; simp at hlt'; simp [intOf]; omega
                  · have p1 : ((sm : Int) == (ps : Int)) = false := by simp; omega
                    have p2 : ((sm : Int) != (ps : Int)) = true := by simp; omega
                    have HRV := Lib.hid (HRR.out.trans (scanL_stop hlt' HI.out.oks (by rw [HST3.out, if_pos hsg])))
                    have HEE := Lib.hid (HES.out.later HBrk.out)
                    have HFIN := Lib.hid (HB0.out.trans (HBk.out.mono HB0.out.size))
                    clear hsg
                    go_wp2_with fail
                    refine HSU.out.mono ?_
                    rintro e wm ⟨rfl, rfl⟩
                    clear hcv
                    go_wp2
                    refine bodyPost_ret (results_tmp2 rfl _ _ _) rfl ?_
                    rw [HRV.out]
                    exact ⟨⟨va, vc, rfl, HEE.out, fun b off sp e => Nat.le_trans HB0.out.size (HLOW.out b off sp e)⟩, HFIN.out⟩
                · have p1 : (e2 == 0) = false := by simpa using he2
                  have p2 : (e2 != 0) = true := by simp [he2]
                  have HRV := Lib.hid (HRR.out.trans (scanL_why hlt' HI.out.oks (by rw [HNE.out, if_pos he2]) he2))
                  have HFIN := Lib.hid (HB0.out.trans (HB8.out.mono HB0.out.size))
                  clear he2
                  go_wp2
                  refine bodyPost_ret (results_tmp2 rfl _ _ _) rfl ?_
                  rw [HRV.out]
                  exact ⟨⟨none, 0, rfl, es_nil _, fun b off sp e => by cases e⟩, HFIN.out⟩
            · have m3 : N ≤ (pn : Int) := by omega
              have HRV := Lib.hid (HRR.out.trans (scanL_stop hlt' HI.out.oks ((HBAD.out).1 (.inl hm))))
              have HEE := Lib.hid (HES.out.later HBr4.out)
              have HFIN := Lib.hid (HB0.out.trans (HB4.out.mono HB0.out.size))
              clear hm HST
              go_wp2
              refine bodyPost_ret (results_tmp2 rfl _ _ _) rfl ?_
              rw [HRV.out]
              exact ⟨⟨va, vc, rfl, HEE.out, fun b off sp e => Nat.le_trans HB0.out.size (HLOW.out b off sp e)⟩, HFIN.out⟩
        · have he2 : (e1 == 0) = false := by simpa using he1
          have he3 : (e1 != 0) = true := by simp [he1]
          have HRV := Lib.hid (HRR.out.trans (scanL_why hlt' HI.out.oks (by rw [cstepP_of HHD.out.1 HHD.out.2, if_pos he1]) he1))
          have HFIN := Lib.hid (HB0.out.trans (HB2.out.mono HB0.out.size))
          clear he1
          go_wp2
          refine bodyPost_ret (results_tmp2 rfl _ _ _) rfl ?_
          rw [HRV.out]
          exact ⟨⟨none, 0, rfl, es_nil _, fun b off sp e => by cases e⟩, HFIN.out⟩
      · have hle := HI.out.le
        have HRV := Lib.hid (HRR.out.trans (scanL_end (by omega) HI.out.oks))
        have hlt2 : ¬ ((l.length : Int) < C) := hlt
        have HFIN := Lib.hid (HB0.out.trans (hB.mono HB0.out.size))
        go_wp2
        refine bodyPost_ret (results_tmp2 rfl _ _ _) rfl ?_
        rw [HRV.out]
        exact ⟨⟨va, vc, rfl, HES.out, fun b off sp e => Nat.le_trans HB0.out.size (HLOW.out b off sp e)⟩, HFIN.out⟩
  · rw [decide_eq_false ho] at hr
    rw [if_neg ho] at hR
    have HR := Lib.hid hr
    clear hr ho
    subst hR
    go_enter Tryz.func76, Tryz.ntmps76
    go_wp2_with fail
    rw [← HW.out]
    refine (HR.out _).mono ?_
    rintro e w1 ⟨rfl, hb⟩
    have HFIN := Lib.hid (HB0.out.trans (hb.mono HB0.out.size))
    clear hb
    go_wp2
    refine bodyPost_ret (results_tmp2 rfl _ _ _) rfl ?_
    exact ⟨⟨none, 0, rfl, es_nil _, fun b off sp e => by cases e⟩, HFIN.out⟩
end Go.Proofs.YtjohgagiccndpaaGreatDoor
/-
  cow's Append keeps whole sectors, and their number.
-/
namespace Go.Proofs.YtjohgagiccndpaaGreatDoor
open Go.RowKit
set_option linter.unusedVariables false
set_option linter.unusedSimpArgs false

theorem DS.sz.cap {S : DS} (h : S.sz) (N F C U k : Int) (epoch : Nat) (i : Int) : (capP N F C U S k epoch i).ds.sz := by
  unfold capP
  split
  · exact h
  · split
    · exact h
    · split
      · exact h
      · split
        · exact h
        · split
          · exact h.store _ _
          · split
            · exact (h.store _ _).store _ _
            · exact (h.store _ _).store _ _
theorem cap_len' (N F C U : Int) (S : DS) (k : Int) (epoch : Nat) (i : Int) : (capP N F C U S k epoch i).ds.L.length = S.L.length := by
  unfold capP
  split
  · rfl
  · split
    · rfl
    · split
      · rfl
      · split
        · rfl
        · split
          · exact store_len' _ _ _
          · split
            · exact (store_len' _ _ _).trans (store_len' _ _ _)
            · exact (store_len' _ _ _).trans (store_len' _ _ _)
end Go.Proofs.YtjohgagiccndpaaGreatDoor

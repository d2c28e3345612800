/-
  Texts put together: O3.
-/
import Derived.Test.YtjohgagiccndpaaGreatDoorMO
import Derived.Test.YtjohgagiccndpaaGreatDoorMPR
import Derived.Test.YtjohgagiccndpaaGreatDoorMP5
/-
  The document's Append of layer 15.
-/
namespace Go.Proofs.YtjohgagiccndpaaGreatDoor
open Go.RowKit
set_option linter.unusedVariables false
set_option linter.unusedSimpArgs false

theorem rp_set4 {w w1 : World} {B p q : Nat} {v1 v2 : Value} {S : DS} {a b c d : Value} (h : RP w B p v1 v2 S w1) (hn : ¬ foot p v1 v2 q) (hlt : q < w.heap.size) (w0 : World) (h0 : Below w0.heap.size w0 w) (hv : ∀ k, foot p v1 v2 k → k < w0.heap.size) (hq0 : w0.heap.size ≤ q) :
    RP w0 B p v1 v2 S ((((w1.setCell ⟨q, 0, none⟩ a).setCell ⟨q, 1, none⟩ b).setCell ⟨q, 2, none⟩ c).setCell ⟨q, 3, none⟩ d) := by
  obtain ⟨a1, a2, hp, hF, hN⟩ := h
  have hne : ∀ k, foot p a1 a2 k → k ≠ q := fun k hk e => by
    subst e
    rcases hN _ hk with h1 | h1
    · exact hn h1
    · omega
  have hset : ∀ (W : World) (i : Nat) (u : Value) (k : Nat), k ≠ q → (W.setCell ⟨q, i, none⟩ u).heap[k]? = W.heap[k]? := fun W i u k hk => Below.heap_setCell _ _ _ _ (fun e => hk (by simpa using e))
  refine ⟨a1, a2, hp.kept fun k hk => ?_, ?_, fun k hk => (hN k hk).elim .inl (fun h => .inr (Nat.le_trans h0.size h))⟩
  · rw [hset _ _ _ _ (hne k hk), hset _ _ _ _ (hne k hk), hset _ _ _ _ (hne k hk), hset _ _ _ _ (hne k hk)]
  · have hf0 : Fr (foot p v1 v2) w0 w1 := ⟨hF.os.trans h0.os, hF.tape.trans h0.tape, hF.output.trans h0.output, Nat.le_trans h0.size hF.size, fun i hi hn => (hF.block i (Nat.lt_of_lt_of_le hi h0.size) hn).trans (h0.block i hi)⟩
    exact (((hf0.set (.inr hq0)).set (.inr hq0)).set (.inr hq0)).set (.inr hq0)

theorem appP_lay (N F C U : Int) (S : DS) (k : Int) (tag epoch : Nat) (place : Int) (ho : okG N F C U) (hk : ¬ (k < 0 ∨ U ≤ k)) (hm : mayP N F C U place) (hr : (S.read place).2 = 0) : appP N F C U S k tag epoch place = if (layP N F C U 1 S k (headB tag epoch k.toNat place.toNat (sumN (S.read place).1)) (S.read place).1).1 ≠ 0 then ⟨(layP N F C U 1 S k (headB tag epoch k.toNat place.toNat (sumN (S.read place).1)) (S.read place).1).1, noEn, (layP N F C U 1 S k (headB tag epoch k.toNat place.toNat (sumN (S.read place).1)) (S.read place).1).2⟩ else ⟨0, ⟨tag, epoch, place, (S.read place).1⟩, (layP N F C U 1 S k (headB tag epoch k.toNat place.toNat (sumN (S.read place).1)) (S.read place).1).2⟩ := by
  unfold appP layP
  rw [if_neg (fun h => h ho), if_neg hk, if_neg (fun h => h hm), if_neg (fun h => h hr)]
  by_cases h1 : (storeP S (areaAt N F C U 1 (2 * k + 1)) (S.read place).1).1 = 0
  · simp only [h1, ne_eq, not_true_eq_false, if_false]
  · simp only [h1, ne_eq, not_false_eq_true, if_true]

set_option maxRecDepth 20000 in
set_option maxHeartbeats 4000000 in
theorem rappend_any (B p : Nat) (v1 v2 : Value) (S : DS) (N F C U : Int) (k : Int) (tag epoch : Nat) (place : Int) (w : World) (h : RD w B p v1 v2 S) (hB : B ≤ w.heap.size) (M : Nat) (hok : S.ok M) (hM : M + 4 ≤ 1000000) (ht : tag < 18446744073709551616) (he : epoch < 18446744073709551616) (hsz : ∀ x : Int, (S.read x).1.size ≤ 140737488355328) :
    Calls Tryz.prog 44 #[.pointer (some ⟨p, 0, none⟩), geo N F C U, .int .i64 k, .int .u64 (tag : Int), .int .u64 (epoch : Int), .int .i64 place] w fun e w' => e = .returned (appP N F C U S k tag epoch place).val ∧ RP w B p v1 v2 (appP N F C U S k tag epoch place).ds w' := by
  have HOLD := Lib.hid hsz
  have hv : ∀ k, foot p v1 v2 k → k < w.heap.size := fun k hk => (h.foot_low k hk).2
  have hr := fun w => grright_any N F C U w
  obtain ⟨W, hW⟩ : ∃ W, W = ((w.alloc (.cells #[.int .i64 N, .int .i64 F, .int .i64 C, .int .i64 U] 23)).alloc (.cells #[.int .u64 0, .int .u64 0, .int .i64 0, .string ⟨#[]⟩] 55)) := ⟨_, rfl⟩
  have hg0 : W.heap[w.heap.size]? = some (.cells #[.int .i64 N, .int .i64 F, .int .i64 C, .int .i64 U] 23 (0, 0)) := by rw [hW]; exact (Below.heap_alloc _ _ _ (by simp)).trans (heap_alloc_new w _)
  have hq0 : Box4 W (w.heap.size + 1) 55 (.int .u64 0) (.int .u64 0) (.int .i64 0) (.string ⟨#[]⟩) := by
    have e := heap_alloc_new (w.alloc (.cells #[.int .i64 N, .int .i64 F, .int .i64 C, .int .i64 U] 23)) (.cells #[.int .u64 0, .int .u64 0, .int .i64 0, .string ⟨#[]⟩] 55)
    rw [World.size_alloc] at e
    rw [hW]; exact e
  have hb0 : Below w.heap.size w W := by rw [hW]; exact ((Below.refl _ w).alloc (Nat.le_refl _) _).alloc (by simp) _
  have hs0 : W.heap.size = w.heap.size + 2 := by rw [hW]; simp
  have hgc : ∀ w', Below W.heap.size W w' → w'.cell? ⟨w.heap.size, 0, none⟩ = some (.int .i64 N) ∧ w'.cell? ⟨w.heap.size, 1, none⟩ = some (.int .i64 F) ∧ w'.cell? ⟨w.heap.size, 2, none⟩ = some (.int .i64 C) ∧ w'.cell? ⟨w.heap.size, 3, none⟩ = some (.int .i64 U) := fun w' hb => by
    have e := (hb.block _ (lt_of_block hg0)).trans hg0
    refine ⟨?_, ?_, ?_, ?_⟩ <;> (rw [cell_of_blk e]; rfl)
  have hgp : ∀ T w', RP W B p v1 v2 T w' → w'.cell? ⟨w.heap.size, 0, none⟩ = some (.int .i64 N) ∧ w'.cell? ⟨w.heap.size, 1, none⟩ = some (.int .i64 F) ∧ w'.cell? ⟨w.heap.size, 2, none⟩ = some (.int .i64 C) ∧ w'.cell? ⟨w.heap.size, 3, none⟩ = some (.int .i64 U) := fun T w' hr => by
    have e := (hr.old w.heap.size (by omega) (fun hf => by have := hv _ hf; omega)).trans hg0
    refine ⟨?_, ?_, ?_, ?_⟩ <;> (rw [cell_of_blk e]; rfl)
  have hqc : ∀ w', Below W.heap.size W w' → Box4 w' (w.heap.size + 1) 55 (.int .u64 0) (.int .u64 0) (.int .i64 0) (.string ⟨#[]⟩) := fun w' hb => (hb.block _ (lt_of_block hq0)).trans hq0
  have hqp : ∀ T w', RP W B p v1 v2 T w' → Box4 w' (w.heap.size + 1) 55 (.int .u64 0) (.int .u64 0) (.int .i64 0) (.string ⟨#[]⟩) := fun T w' hr => (hr.old (w.heap.size + 1) (by omega) (fun hf => by have := hv _ hf; omega)).trans hq0
  have hpd := h.below hb0
  obtain ⟨AR, hAR⟩ : ∃ r, r = appP N F C U S k tag epoch place := ⟨_, rfl⟩
  rw [← hAR]
  have HAR := Lib.hid hAR
  have HGC := Lib.hid hgc
  have HGP := Lib.hid hgp
  have HQC := Lib.hid hqc
  have HQP := Lib.hid hqp
  have HPD := Lib.hid hpd
  have HB0 := Lib.hid hb0
  have HS0 := Lib.hid hs0
  have HW := Lib.hid hW
  have HN := Lib.hid (show noEn.val = .agg #[.int .u64 0, .int .u64 0, .int .i64 0, .string ⟨#[]⟩] from rfl)
  unfold geo at hr ⊢
  clear hAR hgc hgp hqc hqp hpd hb0 hs0 hW hg0 hq0
  by_cases ho : okG N F C U
  · rw [decide_eq_true ho] at hr
    have HR := Lib.hid hr
    clear hr
    by_cases hk : k < 0 ∨ U ≤ k
    · have hap : AR = ⟨11, noEn, S⟩ := by rw [HAR.out]; unfold appP; rw [if_neg (fun h => h ho), if_pos hk]
      rcases hk with hk | hk
      · have q1 : decide (k < 0) = true := decide_eq_true hk
        go_enter Tryz.func44, Tryz.ntmps44
        go_wp2_with fail
        rw [← HW.out]
        refine (HR.out _).mono ?_
        rintro e w1 ⟨rfl, hb⟩
        have HB1 := Lib.hid hb
        clear hb HR
        obtain ⟨c0, c1, c2, c3⟩ := HGC.out _ HB1.out
        have hq := HQC.out _ HB1.out
        have d0 := hq.c0
        have d1 := hq.c1
        have d2 := hq.c2
        have d3 := hq.c3
        have f0 := hq.fr 0
        have f1 := hq.fr 1
        have f2 := hq.fr 2
        have f3 := hq.fr 3
        have HQ1 := Lib.hid (hq.set (.int .u64 0) (.int .u64 0) (.int .i64 0) (.string ⟨#[]⟩))
        have HE := Lib.hid (below_set4 (a := .int .u64 0) (b := .int .u64 0) (c := .int .i64 0) (d := .string ⟨#[]⟩) (HB0.out.trans (HB1.out.mono HB0.out.size)) (show w.heap.size ≤ w.heap.size + 1 by omega))
        clear hq
        go_wp2
        refine bodyPost_ret (by have k0 := HQ1.out.c0; have k1 := HQ1.out.c1; have k2 := HQ1.out.c2; have k3 := HQ1.out.c3; simp [results, Tryz.f44, go_sem, k0, k1, k2, k3]; try rfl) rfl ?_
        rw [hap]
        exact ⟨by unfold ApR.val; rw [HN.out], rp_after h HE.out⟩
      · have q1 : ¬ k < 0 := by have := ho.2.2.2.2.1; have := ho.2.2.2.2.2.2.1; omega
        have q2 : U ≤ k := hk
        go_enter Tryz.func44, Tryz.ntmps44
        go_wp2_with fail
        rw [← HW.out]
        refine (HR.out _).mono ?_
        rintro e w1 ⟨rfl, hb⟩
        have HB1 := Lib.hid hb
        clear hb HR
        obtain ⟨c0, c1, c2, c3⟩ := HGC.out _ HB1.out
        have hq := HQC.out _ HB1.out
        have d0 := hq.c0
        have d1 := hq.c1
        have d2 := hq.c2
        have d3 := hq.c3
        have f0 := hq.fr 0
        have f1 := hq.fr 1
        have f2 := hq.fr 2
        have f3 := hq.fr 3
        have HQ1 := Lib.hid (hq.set (.int .u64 0) (.int .u64 0) (.int .i64 0) (.string ⟨#[]⟩))
        have HE := Lib.hid (below_set4 (a := .int .u64 0) (b := .int .u64 0) (c := .int .i64 0) (d := .string ⟨#[]⟩) (HB0.out.trans (HB1.out.mono HB0.out.size)) (show w.heap.size ≤ w.heap.size + 1 by omega))
        clear hq
        go_wp2
        refine bodyPost_ret (by have k0 := HQ1.out.c0; have k1 := HQ1.out.c1; have k2 := HQ1.out.c2; have k3 := HQ1.out.c3; simp [results, Tryz.f44, go_sem, k0, k1, k2, k3]; try rfl) rfl ?_
        rw [hap]
        exact ⟨by unfold ApR.val; rw [HN.out], rp_after h HE.out⟩
    · have k1 : ¬ k < 0 := by omega
      have k2 : ¬ U ≤ k := by omega
      have hu := fun w => rmay_any N F C U place w ho
      unfold geo at hu
      by_cases hm : mayP N F C U place
      · rw [decide_eq_true hm] at hu
        have HU := Lib.hid hu
        clear hu
        have hrd := fun w' (hb : Below W.heap.size W w') => rread_any B p v1 v2 S place w' (HPD.out.below hb) (by have := hok.few; have := hok.did; omega) (by have := hok.len; omega)
        have hlay := appP_lay N F C U S k tag epoch place ho hk hm
        obtain ⟨old, re, hre⟩ : ∃ x k, S.read place = (x, k) := ⟨_, _, rfl⟩
        have hol : old.size ≤ 140737488355328 := by have := HOLD.out place; rw [hre] at this; exact this
        rw [hre] at hrd hlay
        unfold two at hrd
        dsimp only at hrd hlay
        have HRD := Lib.hid hrd
        have HRE := Lib.hid hre
        clear hrd hre
        by_cases hr0 : re = 0
        · subst hr0
          have hlay := hlay rfl
          rw [← HAR.out] at hlay
          obtain ⟨kn, rfl⟩ : ∃ kn : Nat, k = (kn : Int) := ⟨k.toNat, by omega⟩
          obtain ⟨pn, rfl⟩ : ∃ pn : Nat, place = (pn : Int) := ⟨place.toNat, by have := hm.1; omega⟩
          have hkn : kn < 320 := by have := ho.2.2.2.2.2.1; have := ho.2.2.2.2.2.2.2; omega
          have hpn : pn < 1000 := by have := hm.2; have := nodes_few N F C U; have := ho.2.1; omega
          rw [Int.toNat_natCast, Int.toNat_natCast] at hlay
          have te := fun w => text_any 8 epoch w (by omega) (by omega) he
          rw [show ((8 : Nat) : Int) = 8 from rfl] at te
          have tt := fun w => text_any 8 tag w (by omega) (by omega) ht
          rw [show ((8 : Nat) : Int) = 8 from rfl] at tt
          have hhd := fun w => rhead_any 7 (enc tag 8 ++ enc epoch 8) kn pn old w (by omega) (by omega) (by simp [enc_length]) hol
          rw [show strV (makeP 7 (hdBody (enc tag 8 ++ enc epoch 8) kn pn (sumN old))).1 = Value.string (headB tag epoch kn pn (sumN old)) from by rw [show hdBody (enc tag 8 ++ enc epoch 8) kn pn (sumN old) = headL tag epoch kn pn (sumN old) from rfl, make_head]; rfl] at hhd
          obtain ⟨VT, hVT⟩ : ∃ V, V = strV (enc tag 8) := ⟨_, rfl⟩
          obtain ⟨VE, hVE⟩ : ∃ V, V = strV (enc epoch 8) := ⟨_, rfl⟩
          obtain ⟨VF, hVF⟩ : ∃ V, V = strV (enc tag 8 ++ enc epoch 8) := ⟨_, rfl⟩
          have a1 : ∀ w, (binOp .add 9 VT VE).run Tryz.prog w = .ok VF w := fun w => by rw [hVT, hVE, hVF]; exact add_texts _ _ (by simp [enc_length]) w
          rw [← hVT] at tt
          rw [← hVE] at te
          rw [← hVF] at hhd
          have TT := Lib.hid tt
          obtain ⟨HD, hHD⟩ : ∃ HD, HD = headB tag epoch kn pn (sumN old) := ⟨_, rfl⟩
          clear tt hVT hVF
          rw [← hHD] at hlay hhd
          have hly := fun w' (hb : Below W.heap.size W w') => (rlay_any B p v1 v2 S N F C U 1 kn HD old w' (HPD.out.below hb) (Nat.le_trans hB (Nat.le_trans HB0.out.size hb.size)) M hok hM (by omega)).mono fun e w2 (hx : e = _ ∧ _) => show e = _ ∧ RP W B p v1 v2 _ w2 from ⟨hx.1, rp_below hb hx.2⟩
          obtain ⟨R1, T1, hRT⟩ : ∃ r T, layP N F C U 1 S (kn : Int) HD old = (r, T) := ⟨_, _, rfl⟩
          rw [hRT] at hlay
          simp only [hRT] at hly
          dsimp only at hlay
          unfold geo at hly
          have TE := Lib.hid te
          have HHD := Lib.hid hhd
          have HLY := Lib.hid hly
          have HLA := Lib.hid hlay
          clear te hhd hly hlay hVE hHD hRT hol
          go_enter Tryz.func44, Tryz.ntmps44
          go_wp2_with fail
          rw [← HW.out]
          refine (HR.out _).mono ?_
          rintro e w1 ⟨rfl, hb⟩
          have HB1 := Lib.hid hb
          clear hb HR
          obtain ⟨c0, c1, c2, c3⟩ := HGC.out _ HB1.out
          go_wp2_with fail
          refine (HU.out _).mono ?_
          rintro e w2 ⟨rfl, hb⟩
          have HB2 := Lib.hid (HB1.out.trans (hb.mono HB1.out.size))
          clear hb HB1 HU c0 c1 c2 c3
          obtain ⟨c0, c1, c2, c3⟩ := HGC.out _ HB2.out
          go_wp2_with fail
          refine (HRD.out _ HB2.out).mono ?_
          rintro e w3 ⟨rfl, rfl⟩
          have hdr : Below w3.heap.size w3 w3.drew := ⟨rfl, rfl, rfl, Nat.le_refl _, fun _ _ => rfl⟩
          have hG : Below W.heap.size W w3.drew := HB2.out.trans (hdr.mono HB2.out.size)
          clear hdr HRD HB2 c0 c1 c2 c3
          obtain ⟨c0, c1, c2, c3⟩ := HGC.out _ hG
          go_wp2_with fail
          go_region_held3 (fun w' => w'.cell? ⟨w.heap.size, 0, none⟩ = some (.int .i64 N) ∧ w'.cell? ⟨w.heap.size, 1, none⟩ = some (.int .i64 F) ∧ w'.cell? ⟨w.heap.size, 2, none⟩ = some (.int .i64 C) ∧ w'.cell? ⟨w.heap.size, 3, none⟩ = some (.int .i64 U)) (first | exact HGP.out _ _ hrp | exact HGC.out _ hG)
            (first
            | (go_at_call 72; with_reducible refine (TT.out _).mono ?_; rintro e wk ⟨rfl, hb⟩; replace hG := hG.trans (hb.mono hG.size); clear hb)
            | (go_at_call 72; with_reducible refine (TE.out _).mono ?_; rintro e wk ⟨rfl, hb⟩; replace hG := hG.trans (hb.mono hG.size); clear hb)
            | (go_at_call 36; refine (HHD.out _).mono ?_; rintro e wk ⟨rfl, hb⟩; replace hG := hG.trans (hb.mono hG.size); clear hb)
            | (go_at_call 89; refine (HLY.out _ hG).mono ?_; rintro e wl ⟨rfl, hrp⟩))
          all_goals (
            rename_i hHeld
            clear hHeld
            have HRP := Lib.hid hrp
            have hq := HQP.out _ _ hrp
            have d0 := hq.c0
            have d1 := hq.c1
            have d2 := hq.c2
            have d3 := hq.c3
            have f0 := hq.fr 0
            have f1 := hq.fr 1
            have f2 := hq.fr 2
            have f3 := hq.fr 3
            clear hrp hG c0 c1 c2 c3
            by_cases hR1 : R1 = 0
            · subst hR1
              have hap : AR = ⟨0, ⟨tag, epoch, (pn : Int), old⟩, T1⟩ := HLA.out.trans (by simp)
              have HQ1 := Lib.hid (hq.set (.int .u64 (tag : Int)) (.int .u64 (epoch : Int)) (.int .i64 (pn : Int)) (.string old))
              have HE := Lib.hid (rp_set4 (a := .int .u64 (tag : Int)) (b := .int .u64 (epoch : Int)) (c := .int .i64 (pn : Int)) (d := .string old) HRP.out (q := w.heap.size + 1) (fun hf => by have := hv _ hf; omega) (by have := HS0.out; omega) w HB0.out hv (by omega))
              clear hq
              go_wp2
              refine bodyPost_ret (by have k0 := HQ1.out.c0; have k1 := HQ1.out.c1; have k2 := HQ1.out.c2; have k3 := HQ1.out.c3; simp [results, Tryz.f44, go_sem, k0, k1, k2, k3]; try rfl) rfl ?_
              rw [hap]
              exact ⟨rfl, HE.out⟩
            · have hr2 : (R1 == 0) = false := by simpa using hR1
              have hr3 : (R1 != 0) = true := by simp [hR1]
              have hap : AR = ⟨R1, noEn, T1⟩ := HLA.out.trans (by simp [hR1])
              have HQ1 := Lib.hid (hq.set (.int .u64 0) (.int .u64 0) (.int .i64 0) (.string ⟨#[]⟩))
              have HE := Lib.hid (rp_set4 (a := .int .u64 0) (b := .int .u64 0) (c := .int .i64 0) (d := .string ⟨#[]⟩) HRP.out (q := w.heap.size + 1) (fun hf => by have := hv _ hf; omega) (by have := HS0.out; omega) w HB0.out hv (by omega))
              clear hq
              go_wp2
              refine bodyPost_ret (by have k0 := HQ1.out.c0; have k1 := HQ1.out.c1; have k2 := HQ1.out.c2; have k3 := HQ1.out.c3; simp [results, Tryz.f44, go_sem, k0, k1, k2, k3]; try rfl) rfl ?_
              rw [hap]
              exact ⟨by unfold ApR.val; rw [HN.out], HE.out⟩)
        · have hr2 : (re == 0) = false := by simpa using hr0
          have hr3 : (re != 0) = true := by simp [hr0]
          have hap : AR = ⟨re, noEn, S⟩ := by rw [HAR.out]; unfold appP; rw [if_neg (fun h => h ho), if_neg hk, if_neg (fun h => h hm), if_pos (by rw [HRE.out]; exact hr0), HRE.out]
          clear hlay
          go_enter Tryz.func44, Tryz.ntmps44
          go_wp2_with fail
          rw [← HW.out]
          refine (HR.out _).mono ?_
          rintro e w1 ⟨rfl, hb⟩
          have HB1 := Lib.hid hb
          clear hb HR
          obtain ⟨c0, c1, c2, c3⟩ := HGC.out _ HB1.out
          go_wp2_with fail
          refine (HU.out _).mono ?_
          rintro e w2 ⟨rfl, hb⟩
          have HB2 := Lib.hid (HB1.out.trans (hb.mono HB1.out.size))
          clear hb HB1 HU c0 c1 c2 c3
          obtain ⟨c0, c1, c2, c3⟩ := HGC.out _ HB2.out
          go_wp2_with fail
          refine (HRD.out _ HB2.out).mono ?_
          rintro e w3 ⟨rfl, rfl⟩
          clear HRD
          have hq := HQC.out _ HB2.out
          have d0 := hq.c0
          have d1 := hq.c1
          have d2 := hq.c2
          have d3 := hq.c3
          have f0 := hq.fr 0
          have f1 := hq.fr 1
          have f2 := hq.fr 2
          have f3 := hq.fr 3
          have HQ1 := Lib.hid (hq.set (.int .u64 0) (.int .u64 0) (.int .i64 0) (.string ⟨#[]⟩))
          have HE := Lib.hid (below_set4 (a := .int .u64 0) (b := .int .u64 0) (c := .int .i64 0) (d := .string ⟨#[]⟩) (HB0.out.trans (HB2.out.mono HB0.out.size)) (show w.heap.size ≤ w.heap.size + 1 by omega))
          clear hq
          go_wp2
          refine bodyPost_ret (by have k0 := HQ1.out.c0; have k1 := HQ1.out.c1; have k2 := HQ1.out.c2; have k3 := HQ1.out.c3; simp [results, Tryz.f44, go_sem, k0, k1, k2, k3]; try rfl) rfl ?_
          rw [hap]
          exact ⟨by unfold ApR.val; rw [HN.out], rp_after h HE.out⟩
      · have hap : AR = ⟨3, noEn, S⟩ := by rw [HAR.out]; unfold appP; rw [if_neg (fun h => h ho), if_neg hk, if_pos hm]
        rw [decide_eq_false hm] at hu
        have HU := Lib.hid hu
        clear hu
        go_enter Tryz.func44, Tryz.ntmps44
        go_wp2_with fail
        rw [← HW.out]
        refine (HR.out _).mono ?_
        rintro e w1 ⟨rfl, hb⟩
        have HB1 := Lib.hid hb
        clear hb HR
        obtain ⟨c0, c1, c2, c3⟩ := HGC.out _ HB1.out
        go_wp2_with fail
        refine (HU.out _).mono ?_
        rintro e w2 ⟨rfl, hb⟩
        have HB2 := Lib.hid (HB1.out.trans (hb.mono HB1.out.size))
        clear hb HB1 HU c0 c1 c2 c3
        obtain ⟨c0, c1, c2, c3⟩ := HGC.out _ HB2.out
        have hq := HQC.out _ HB2.out
        have d0 := hq.c0
        have d1 := hq.c1
        have d2 := hq.c2
        have d3 := hq.c3
        have f0 := hq.fr 0
        have f1 := hq.fr 1
        have f2 := hq.fr 2
        have f3 := hq.fr 3
        have HQ1 := Lib.hid (hq.set (.int .u64 0) (.int .u64 0) (.int .i64 0) (.string ⟨#[]⟩))
        have HE := Lib.hid (below_set4 (a := .int .u64 0) (b := .int .u64 0) (c := .int .i64 0) (d := .string ⟨#[]⟩) (HB0.out.trans (HB2.out.mono HB0.out.size)) (show w.heap.size ≤ w.heap.size + 1 by omega))
        clear hq
        go_wp2
        refine bodyPost_ret (by have k0 := HQ1.out.c0; have k1 := HQ1.out.c1; have k2 := HQ1.out.c2; have k3 := HQ1.out.c3; simp [results, Tryz.f44, go_sem, k0, k1, k2, k3]; try rfl) rfl ?_
        rw [hap]
        exact ⟨by unfold ApR.val; rw [HN.out], rp_after h HE.out⟩
  · have hap : AR = ⟨12, noEn, S⟩ := by rw [HAR.out]; unfold appP; rw [if_pos ho]
    rw [decide_eq_false ho] at hr
    have HR := Lib.hid hr
    clear hr
    go_enter Tryz.func44, Tryz.ntmps44
    go_wp2_with fail
    rw [← HW.out]
    refine (HR.out _).mono ?_
    rintro e w1 ⟨rfl, hb⟩
    have HB1 := Lib.hid hb
    clear hb HR
    obtain ⟨c0, c1, c2, c3⟩ := HGC.out _ HB1.out
    have hq := HQC.out _ HB1.out
    have d0 := hq.c0
    have d1 := hq.c1
    have d2 := hq.c2
    have d3 := hq.c3
    have f0 := hq.fr 0
    have f1 := hq.fr 1
    have f2 := hq.fr 2
    have f3 := hq.fr 3
    have HQ1 := Lib.hid (hq.set (.int .u64 0) (.int .u64 0) (.int .i64 0) (.string ⟨#[]⟩))
    have HE := Lib.hid (below_set4 (a := .int .u64 0) (b := .int .u64 0) (c := .int .i64 0) (d := .string ⟨#[]⟩) (HB0.out.trans (HB1.out.mono HB0.out.size)) (show w.heap.size ≤ w.heap.size + 1 by omega))
    clear hq
    go_wp2
    refine bodyPost_ret (by have k0 := HQ1.out.c0; have k1 := HQ1.out.c1; have k2 := HQ1.out.c2; have k3 := HQ1.out.c3; simp [results, Tryz.f44, go_sem, k0, k1, k2, k3]; try rfl) rfl ?_
    rw [hap]
    exact ⟨by unfold ApR.val; rw [HN.out], rp_after h HE.out⟩
end Go.Proofs.YtjohgagiccndpaaGreatDoor

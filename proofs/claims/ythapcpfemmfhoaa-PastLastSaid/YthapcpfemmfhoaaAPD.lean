/-
  Pasts: the fixed calls; the walk of PastNil.
-/
import Derived.Test.YthapcpfemmfhoaaAPC
namespace Go.Proofs.Ythapcpfemmfhoaa
namespace Ap
open Go.RowKit
set_option linter.unusedVariables false
set_option linter.unusedSimpArgs false

theorem rzero_one (w : World) (s : ByteArray) : Rs (w.alloc (.cells #[.string s] 9)) (some ⟨w.heap.size, 0, none⟩) 1 1 [s] :=
  ⟨rfl, Nat.le_refl _, by unfold maxLen; omega, fun _ => ⟨w.heap.size, 0, rfl, by simp, fun i hi => by
    have : i = 0 := by omega
    subst this
    rw [cell_of_blk (heap_alloc_new w _)]
    rfl⟩⟩

theorem pq_low {w w' : World} {F : Nat → Prop} {p B : Nat} {S : PS} (h : PQ w F p S w') (hF : ∀ k, F k → B ≤ k) (hB : B ≤ w.heap.size) : ∃ F', PM w' p F' S ∧ (∀ k, F' k → B ≤ k) ∧ Below B w w' := by
  obtain ⟨F', h1, h2, h3⟩ := h
  refine ⟨F', h1, fun k hk => ?_, h2.below hF hB⟩
  rcases h3 k hk with e | e
  · exact hF k e
  · omega

set_option maxRecDepth 20000 in
set_option maxHeartbeats 4000000 in
theorem known_any (w : World) : Calls Try.prog 7 #[] w fun e w' => e = .returned (.bool true) ∧ Below w.heap.size w w' := by
  have HZ := Lib.hid (fun w => rzero_any w)
  have HF1 := Lib.hid (fun w => rfill_any 1 1 rfl w)
  obtain ⟨s0, hs0⟩ : ∃ s, s = secOf 0 := ⟨_, rfl⟩
  obtain ⟨s1, hs1⟩ : ∃ s, s = secOf 1 := ⟨_, rfl⟩
  have hk1 := k1; have hk1a := k1a; have hk1b := k1b; have hk3a := k3a; have hk3b := k3b; have hk0 := k0
  simp only [← hs0, ← hs1] at HZ HF1 hk1 hk1a hk1b hk3a hk3b hk0
  have ok0 : K0.ok 2 := kok _ _ (by simp) (by simp) (.inl rfl)
  have ok1 : K1.ok 2 := kok _ _ (by simp) (by simp) (.inl rfl)
  have ok2 : K2.ok 2 := kok _ _ (by simp) (by simp) (.inl rfl)
  have ok3 : K3.ok 2 := kok _ _ (by simp) (by simp) (.inr rfl)
  clear hs0 hs1
  go_enter Try.func7, Try.ntmps7
  go_wp2_with fail
  refine (HZ.out w).mono ?_
  rintro e w1 ⟨rfl, hb1⟩
  have hB1 : Below w.heap.size w (w1.alloc (.cells #[.string s0] 9)) := hb1.alloc hb1.size _
  have hnw := pnew_any _ _ _ _ _ (rzero_one w1 s0) (by omega)
  rw [hk0] at hnw
  have HNW := Lib.hid hnw
  have HB1 := Lib.hid hB1
  clear hnw hB1 hb1
  go_wp2_with fail
  refine HNW.out.mono ?_
  rintro e w2 ⟨p, F, rfl, hpm, hF, hb2⟩
  have HB2 := Lib.hid (HB1.out.trans (hb2.mono HB1.out.size))
  have HPM2 := Lib.hid hpm
  have HF2 := Lib.hid (fun k hk => Nat.le_trans HB1.out.size (hF k hk))
  clear hpm hF hb2 HNW HB1
  go_wp2_with fail
  refine (HF1.out _).mono ?_
  rintro e w3 ⟨rfl, hb3⟩
  have HB3 := Lib.hid (HB2.out.trans (hb3.mono HB2.out.size))
  have hw := pwrite_any p F K0 0 s1 w3 (HPM2.out.below hb3) 2 ok0 (by omega)
  rw [hk1] at hw
  have HW := Lib.hid hw
  clear hw hb3 HPM2 HB2
  go_wp2_with fail
  refine HW.out.mono ?_
  rintro e w4 ⟨rfl, hpq⟩
  obtain ⟨F4, hpm, hF4, hb4⟩ := pq_low hpq HF2.out HB3.out.size
  have HB4 := Lib.hid (HB3.out.trans hb4)
  have HPM4 := Lib.hid hpm
  have HF4 := Lib.hid hF4
  clear hpq hpm hF4 hb4 HW HB3 HF2
  go_wp2_with fail
  refine (HZ.out w4).mono ?_
  rintro e w5 ⟨rfl, hb5⟩
  have HB5 := Lib.hid (HB4.out.trans (hb5.mono HB4.out.size))
  have hm := pmay_any p F4 K1 0 s0 w5 (HPM4.out.below hb5) 2 ok1 (by omega)
  rw [hk1a] at hm
  have HM := Lib.hid hm
  have HPM5 := Lib.hid (HPM4.out.below hb5)
  clear hm hb5 HB4 HPM4
  go_wp2_with fail
  refine HM.out.mono ?_
  rintro e w6 ⟨rfl, hb6⟩
  have HB6 := Lib.hid (HB5.out.trans (hb6.mono HB5.out.size))
  have HPM6 := Lib.hid (HPM5.out.below hb6)
  clear hb6 HM HB5 HPM5
  go_wp2_with fail
  refine (HF1.out w6).mono ?_
  rintro e w7 ⟨rfl, hb7⟩
  have HB7 := Lib.hid (HB6.out.trans (hb7.mono HB6.out.size))
  have hm := pmay_any p F4 K1 0 s1 w7 (HPM6.out.below hb7) 2 ok1 (by omega)
  rw [hk1b] at hm
  have HM := Lib.hid hm
  have HPM7 := Lib.hid (HPM6.out.below hb7)
  clear hm hb7 HB6 HPM6
  go_wp2_with fail
  refine HM.out.mono ?_
  rintro e w8 ⟨rfl, hb8⟩
  have HB8 := Lib.hid (HB7.out.trans (hb8.mono HB7.out.size))
  have hfl := pflush_any p F4 K1 w8 (HPM7.out.below hb8) 2 ok1 (by omega)
  rw [k2] at hfl
  have HFL := Lib.hid hfl
  clear hfl hb8 HM HB7 HPM7
  go_wp2_with fail
  refine HFL.out.mono ?_
  rintro e w9 ⟨rfl, hpq⟩
  obtain ⟨F9, hpm, hF9, hb9⟩ := pq_low hpq HF4.out HB8.out.size
  have HB9 := Lib.hid (HB8.out.trans hb9)
  have hse := pseal_any p F9 K2 3 w9 hpm 2 ok2 (by omega) (by omega)
  rw [k3] at hse
  have HSE := Lib.hid hse
  have HF9 := Lib.hid hF9
  clear hpq hpm hF9 hb9 hse HB8 HFL HF4
  go_wp2_with fail
  refine HSE.out.mono ?_
  rintro e w10 ⟨rfl, hpq⟩
  obtain ⟨F10, hpm, hF10, hb10⟩ := pq_low hpq HF9.out HB9.out.size
  have HB10 := Lib.hid (HB9.out.trans hb10)
  have him := pimage_any p F10 K3 3 w10 hpm 2 ok3 (by omega) (by omega)
  rw [hk3a] at him
  have HIM := Lib.hid him
  have HF10 := Lib.hid hF10
  have HPM10 := Lib.hid hpm
  clear hpq hpm hF10 hb10 him HB9 HSE HF9
  go_wp2_with fail
  refine HIM.out.mono ?_
  rintro e w11 ⟨hb11, a, n, c, rfl, hrs, hfr⟩
  have hn1 : n = 1 := by have := hrs.len; simpa using this.symm
  subst hn1
  obtain ⟨bl, ol, rfl, hbl, hcl⟩ := hrs.at0 (by omega)
  have d0 := hcl 0 (by omega)
  rw [show lAt [s1] 0 = s1 from rfl, Nat.add_zero] at d0
  have HB11 := Lib.hid (HB10.out.trans (hb11.mono HB10.out.size))
  have hpm11 := HPM10.out.below hb11
  have hcc : (c : Int) ≤ 9223372036854775807 := by have := hrs.cm; unfold maxLen at this; omega
  have hc1 : 1 ≤ c := hrs.le
  have hnF : ¬ F10 bl := fun hf => by
    have h1 := hfr bl ol rfl
    obtain ⟨_, _, _, _, _, _, hlt⟩ := HPM10.out
    have := hlt bl hf; omega
  have hkp : ∀ w', Below w11.heap.size w11 w' → w'.cell? ⟨bl, ol, none⟩ = some (.string s1) := fun w' hb => by
    rw [World.cell?_of_block (w := w11) (hb.block bl hbl)]; exact d0
  have hms := fun w' (hb : Below w11.heap.size w11 w') => pmay_any p F10 K3 0 s0 w' (hpm11.below hb) 2 ok3 (by omega)
  have hss := fun w' (hb : Below w11.heap.size w11 w') => pseal_any p F10 K3 3 w' (hpm11.below hb) 2 ok3 (by omega) (by omega)
  rw [hk3b] at hms
  rw [k3c] at hss
  have hkq : ∀ w' w'', Below w11.heap.size w11 w' → PQ w' F10 p K3 w'' → w''.cell? ⟨bl, ol, none⟩ = some (.string s1) ∧ Below w.heap.size w w'' := fun w' w'' hb hq => by
    obtain ⟨F', h1, h2, h3⟩ := hq
    refine ⟨?_, (HB11.out.trans (hb.mono HB11.out.size)).trans (h2.below HF10.out (Nat.le_trans HB11.out.size hb.size))⟩
    rw [World.cell?_of_block (w := w') (h2.block bl (Nat.lt_of_lt_of_le hbl hb.size) hnF)]
    exact hkp w' hb
  have hq : ∀ w, (binOp .eql 9 (.string s1) (.string s1)).run Try.prog w = .ok (.bool true) w := fun w => by rw [eql_txt, decide_eq_true rfl]
  have hgd := fun x y w => guard_txt .eql x y s1 s1 w
  obtain ⟨V1, hV1⟩ : ∃ V, V = Value.string s1 := ⟨_, rfl⟩
  have HMS := Lib.hid hms
  have HSS := Lib.hid hss
  have HKP := Lib.hid hkp
  have HKQ := Lib.hid hkq
  have HD0 := Lib.hid d0
  simp only [← hV1] at HF1 HKP HKQ HD0 hq hgd
  clear hms hss hkp hkq hrs hfr hcl hb11 hpm11 hnF HPM10 HF10 HB10 HIM hV1 hbl d0
  go_wp2_with fail
  go_region_held3 (fun w' => w'.cell? ⟨bl, ol, none⟩ = some V1) (first | exact HD0.out | exact HKP.out _ hz | exact HKP.out _ hm | exact HKP.out _ hf | exact (HKQ.out _ _ hf hse).1)
    (first
    | (go_at_call 27; refine (HZ.out _).mono ?_; rintro e w12 ⟨rfl, hz0⟩; have hz : Below w11.heap.size w11 w12 := Below.trans (show Below w11.heap.size w11 w11.drew from Below.drew (Below.refl _ _)) hz0)
    | (go_at_call 22; refine (HMS.out w12 hz).mono ?_; rintro e w13 ⟨rfl, hm0⟩; have hm := hz.trans (hm0.mono hz.size))
    | (go_at_call 28; refine (HF1.out w13).mono ?_; rintro e w14 ⟨rfl, hf0⟩; have hf := hm.trans (hf0.mono hm.size))
    | (go_at_call 16; refine (HSS.out w14 hf).mono ?_; rintro e w15 ⟨rfl, hse⟩))
  all_goals (
    rename_i hHeld
    clear hHeld
    have HX := Lib.hid (HKQ.out _ _ hf hse).2
    go_wp2
    go_ret
    exact ⟨rfl, HX.out⟩)

end Ap
end Go.Proofs.Ythapcpfemmfhoaa


/-
  Volumes as records: the reference's Volume.
-/
import Derived.Test.YtfbkiohaoakahaaDoorRC
namespace Go.Proofs.YtfbkiohaoakahaaDoor
open Go.RowKit
set_option linter.unusedVariables false
set_option linter.unusedSimpArgs false

theorem held_cf {w w1 : World} {V N F C U L : Int} (h : Below (w.heap.size + 1) (w.alloc (cbox V N F C U L)) w1) :
    (∀ w', Below w1.drew.heap.size w1.drew w' → Cf w' w.heap.size V N F C U L) ∧ (∀ w', Below w1.drew.heap.size w1.drew w' → Below w.heap.size w w') := by
  have hsz : w.heap.size + 1 ≤ w1.heap.size := by have := h.size; simpa using this
  have hd := h.drew
  refine ⟨fun w' hb => (Cf.box w V N F C U L).keep (hd.trans (hb.mono hsz)) (by omega), fun w' hb => ?_⟩
  exact ((Below.refl w.heap.size w).alloc (Nat.le_refl _) (cbox V N F C U L)).trans ((hd.trans (hb.mono hsz)).mono (by omega))

set_option maxRecDepth 20000 in
set_option maxHeartbeats 8000000 in
theorem rvolume_any (side V N F C U L : Int) (hV0 : 0 ≤ V) (hV : V < 4294967296) (w : World) :
    Calls Tryd.prog 15 #[.int .i64 side, conf V N F C U L] w fun e w' => e = .returned (tupV (volP side V N F C U L)) ∧ Below w.heap.size w w' := by
  have hg := fun w => rgright_any N F C U w
  unfold geo at hg
  have hb0 : Below w.heap.size w (w.alloc (cbox V N F C U L)) := (Below.refl _ _).alloc (Nat.le_refl _) _
  have hc0 := Cf.box w V N F C U L
  have HB : Hid (∀ w', Below (w.heap.size + 1) (w.alloc (cbox V N F C U L)) w' → Below w.heap.size w w') := Lib.hid (fun w' hb => hb0.trans (hb.mono (by omega)))
  by_cases hs : side = 0 ∨ side = 1
  · by_cases hok : okG N F C U
    · have hd : decide (okG N F C U) = true := by simpa using hok
      simp only [hd] at hg
      by_cases hl : 1 ≤ L ∧ L ≤ 281474976710656
      · have h0 : faultN side N F C U L = 0 := by unfold faultN; rw [if_pos hs, if_pos hok, if_pos hl]
        have hp : volP side V N F C U L = makeP 1 (volL side V N F C U L) := if_pos h0
        rw [hp]
        obtain ⟨n1, n2, f1, f2, c1, c2, u1, u2⟩ := hok
        obtain ⟨l1, l2⟩ := hl
        clear hp h0 hd
        obtain ⟨v, rfl⟩ := Int.eq_ofNat_of_zero_le hV0
        obtain ⟨n, rfl⟩ := Int.eq_ofNat_of_zero_le (a := N) (by omega)
        obtain ⟨f, rfl⟩ := Int.eq_ofNat_of_zero_le (a := F) (by omega)
        obtain ⟨c, rfl⟩ := Int.eq_ofNat_of_zero_le c1
        obtain ⟨u, rfl⟩ := Int.eq_ofNat_of_zero_le (a := U) (by omega)
        obtain ⟨l, rfl⟩ := Int.eq_ofNat_of_zero_le (a := L) (by omega)
        obtain ⟨s, hsn⟩ := Int.eq_ofNat_of_zero_le (a := side) (by omega)
        have hwr : ∀ k : Nat, k < 18446744073709551616 → IntKind.u64.wrap (k : Int) = k := fun k hk => IntWalk.u64_in _ ⟨by omega, by omega⟩
        have ht1 := fun w => text_any 1 s w (by omega) (by omega) (by omega)
        change ∀ w, Calls Tryd.prog _ #[.int .i64 1, _] w _ at ht1
        rw [← hwr s (by omega)] at ht1
        rw [← hsn] at ht1
        have ht2 := fun w => text_any 4 v w (by omega) (by omega) (by omega)
        change ∀ w, Calls Tryd.prog _ #[.int .i64 4, _] w _ at ht2
        rw [← hwr v (by omega)] at ht2
        have ht3 := fun w => text_any 2 n w (by omega) (by omega) (by omega)
        change ∀ w, Calls Tryd.prog _ #[.int .i64 2, _] w _ at ht3
        rw [← hwr n (by omega)] at ht3
        have ht4 := fun w => text_any 1 f w (by omega) (by omega) (by omega)
        change ∀ w, Calls Tryd.prog _ #[.int .i64 1, _] w _ at ht4
        rw [← hwr f (by omega)] at ht4
        have ht5 := fun w => text_any 2 c w (by omega) (by omega) (by omega)
        change ∀ w, Calls Tryd.prog _ #[.int .i64 2, _] w _ at ht5
        rw [← hwr c (by omega)] at ht5
        have ht6 := fun w => text_any 2 u w (by omega) (by omega) (by omega)
        change ∀ w, Calls Tryd.prog _ #[.int .i64 2, _] w _ at ht6
        rw [← hwr u (by omega)] at ht6
        have ht7 := fun w => text_any 8 l w (by omega) (by omega) (by omega)
        change ∀ w, Calls Tryd.prog _ #[.int .i64 8, _] w _ at ht7
        have ha2 := add_texts (enc s 1) (enc v 4) (by simp [enc_length])
        have ha3 := add_texts (enc s 1 ++ enc v 4) (enc n 2) (by simp [enc_length])
        have ha4 := add_texts (enc s 1 ++ enc v 4 ++ enc n 2) (enc f 1) (by simp [enc_length])
        have ha5 := add_texts (enc s 1 ++ enc v 4 ++ enc n 2 ++ enc f 1) (enc c 2) (by simp [enc_length])
        have ha6 := add_texts (enc s 1 ++ enc v 4 ++ enc n 2 ++ enc f 1 ++ enc c 2) (enc u 2) (by simp [enc_length])
        have ha7 := add_texts (enc s 1 ++ enc v 4 ++ enc n 2 ++ enc f 1 ++ enc c 2 ++ enc u 2) (enc l 8) (by simp [enc_length])
        have hvl : volL side v n f c u l = enc s 1 ++ enc v 4 ++ enc n 2 ++ enc f 1 ++ enc c 2 ++ enc u 2 ++ enc l 8 := by
          rw [hsn]; rfl
        have hln := volL_length side v n f c u l
        have hmk := fun w => rmake_any 1 ⟨(volL side v n f c u l).toArray⟩ w (by
          show (List.toArray (volL side v n f c u l)).size ≤ _; rw [List.size_toArray, hln]; omega)
        have hdl : (⟨(volL side v n f c u l).toArray⟩ : ByteArray).data.toList = volL side v n f c u l := rfl
        simp only [hdl] at hmk
        change ∀ w, Calls Tryd.prog _ #[_, strV (volL side v n f c u l)] w _ at hmk
        rw [← hvl] at ha7
        generalize volL side v n f c u l = X7 at *
        generalize enc s 1 ++ enc v 4 ++ enc n 2 ++ enc f 1 ++ enc c 2 ++ enc u 2 = X6 at *
        generalize enc s 1 ++ enc v 4 ++ enc n 2 ++ enc f 1 ++ enc c 2 = X5 at *
        generalize enc s 1 ++ enc v 4 ++ enc n 2 ++ enc f 1 = X4 at *
        generalize enc s 1 ++ enc v 4 ++ enc n 2 = X3 at *
        generalize enc s 1 ++ enc v 4 = X2 at *
        clear hvl hdl hln
        generalize strV (enc s 1) = T1 at *
        generalize strV (enc v 4) = T2 at *
        generalize strV (enc n 2) = T3 at *
        generalize strV (enc f 1) = T4 at *
        generalize strV (enc c 2) = T5 at *
        generalize strV (enc u 2) = T6 at *
        generalize strV (enc l 8) = T7 at *
        generalize strV X2 = Y2 at *
        generalize strV X3 = Y3 at *
        generalize strV X4 = Y4 at *
        generalize strV X5 = Y5 at *
        generalize strV X6 = Y6 at *
        generalize strV X7 = Y7 at *
        unfold tupV at *
        generalize strV (makeP 1 X7).1 = M1 at *
        generalize (makeP 1 X7).2 = M2 at *
        clear hsn hb0 hc0 hwr
        have HT1 := Lib.hid ht1
        have HT2 := Lib.hid ht2
        have HT3 := Lib.hid ht3
        have HT4 := Lib.hid ht4
        have HT5 := Lib.hid ht5
        have HT6 := Lib.hid ht6
        have HT7 := Lib.hid ht7
        have HM := Lib.hid hmk
        have HG := Lib.hid hg
        have HA2 := Lib.hid ha2
        have HA3 := Lib.hid ha3
        have HA4 := Lib.hid ha4
        have HA5 := Lib.hid ha5
        have HA6 := Lib.hid ha6
        have HA7 := Lib.hid ha7
        clear ht1 ht2 ht3 ht4 ht5 ht6 ht7 hmk hg ha2 ha3 ha4 ha5 ha6 ha7
        rcases hs with rfl | rfl
        all_goals
          go_enter Tryd.func15, Tryd.ntmps15
          unfold conf at *
          go_wp2_with fail
          refine (HG.out _).mono ?_
          rintro r w1 ⟨rfl, hb⟩
          have hb1 : Below (w.heap.size + 1) (w.alloc (cbox v n f c u l)) w1 := hb.mono (by simp)
          obtain ⟨a0, a1, a2, a3, a4, a5⟩ := (Cf.box w v n f c u l).keep hb1 (by omega)
          obtain ⟨hkp, hfin⟩ := held_cf hb1
          have HKP := Lib.hid hkp
          have HF := Lib.hid hfin
          clear hkp hfin hb1 hb
          have HN := Lib.hid (And.intro n2 (And.intro f2 (And.intro c2 (And.intro u2 (And.intro hV (And.intro l1 l2))))))
          clear n1 n2 f1 f2 c1 c2 u1 u2 hV hV0 l1 l2
          go_wp2_with fail
          all_goals obtain ⟨n2, f2, c2, u2, hV, l1, l2⟩ := HN.out
          all_goals (try (exfalso; omega))
          all_goals (clear l1 l2 HN)
          clear a0 a1 a2 a3 a4 a5
          have hG : Below w1.drew.heap.size w1.drew w1.drew := Below.refl _ _
          have ha2 := HA2.out
          have ha3 := HA3.out
          have ha4 := HA4.out
          have ha5 := HA5.out
          have ha6 := HA6.out
          have ha7 := HA7.out
          go_region_held3 (fun w' => w'.cell? ⟨w.heap.size, 0, none⟩ = some (.int .u32 v) ∧ w'.cell? ⟨w.heap.size, 1, none⟩ = some (.int .i64 n) ∧ w'.cell? ⟨w.heap.size, 2, none⟩ = some (.int .i64 f) ∧ w'.cell? ⟨w.heap.size, 3, none⟩ = some (.int .i64 c) ∧ w'.cell? ⟨w.heap.size, 4, none⟩ = some (.int .i64 u) ∧ w'.cell? ⟨w.heap.size, 5, none⟩ = some (.int .u64 l))
            (exact HKP.out _ hG)
            (first
            | (go_at_call 22; with_reducible refine (HT1.out _).mono ?_; rintro r w' ⟨rfl, hb⟩; replace hG := hG.trans (hb.mono hG.size); clear hb)
            | (go_at_call 22; with_reducible refine (HT2.out _).mono ?_; rintro r w' ⟨rfl, hb⟩; replace hG := hG.trans (hb.mono hG.size); clear hb)
            | (go_at_call 22; with_reducible refine (HT3.out _).mono ?_; rintro r w' ⟨rfl, hb⟩; replace hG := hG.trans (hb.mono hG.size); clear hb)
            | (go_at_call 22; with_reducible refine (HT4.out _).mono ?_; rintro r w' ⟨rfl, hb⟩; replace hG := hG.trans (hb.mono hG.size); clear hb)
            | (go_at_call 22; with_reducible refine (HT5.out _).mono ?_; rintro r w' ⟨rfl, hb⟩; replace hG := hG.trans (hb.mono hG.size); clear hb)
            | (go_at_call 22; with_reducible refine (HT6.out _).mono ?_; rintro r w' ⟨rfl, hb⟩; replace hG := hG.trans (hb.mono hG.size); clear hb)
            | (go_at_call 22; with_reducible refine (HT7.out _).mono ?_; rintro r w' ⟨rfl, hb⟩; replace hG := hG.trans (hb.mono hG.size); clear hb))
          rename_i hHeld
          clear hHeld ha2 ha3 ha4 ha5 ha6 ha7 HA2 HA3 HA4 HA5 HA6 HA7 HT1 HT2 HT3 HT4 HT5 HT6 HT7
          have HB9 := Lib.hid (HF.out _ hG)
          clear hG HF HKP HB
          go_wp2_with fail
          refine (HM.out _).mono ?_
          rintro r w9 ⟨rfl, hb⟩
          have hB9 := HB9.out.trans (hb.mono HB9.out.size)
          clear hb
          go_wp2
          refine bodyPost_ret (results_tmp2 rfl _ _ _) rfl ?_
          exact ⟨rfl, hB9⟩
      · have h0 : faultN side N F C U L = 14 := by unfold faultN; rw [if_pos hs, if_pos hok, if_neg hl]
        have hp : volP side V N F C U L = ([], 14) := by unfold volP; rw [h0]; exact if_neg (by omega)
        rw [hp]
        unfold tupV
        dsimp only
        have HL := Lib.hid hl
        have HG := Lib.hid hg
        clear hp h0 hd hok hl hg hb0 hc0
        rcases hs with rfl | rfl
        all_goals
          go_enter Tryd.func15, Tryd.ntmps15
          unfold conf at *
          go_wp2_with fail
          refine (HG.out _).mono ?_
          rintro r w1 ⟨rfl, hb⟩
          have hb1 : Below (w.heap.size + 1) (w.alloc (cbox V N F C U L)) w1 := hb.mono (by simp)
          obtain ⟨-, -, -, -, -, a5⟩ := (Cf.box w V N F C U L).keep hb1 (by omega)
          have HB1 := Lib.hid (HB.out _ hb1)
          clear hb hb1
          go_wp2_with fail
          all_goals (try (exfalso; have := HL.out; omega))
          all_goals
            refine bodyPost_ret (results_tmp2 rfl _ _ _) rfl ?_
            exact ⟨rfl, HB1.out⟩
    · have hd : decide (okG N F C U) = false := by simpa using hok
      simp only [hd] at hg
      have h0 : faultN side N F C U L = 12 := by unfold faultN; rw [if_pos hs, if_neg hok]
      have hp : volP side V N F C U L = ([], 12) := by unfold volP; rw [h0]; exact if_neg (by omega)
      rw [hp]
      unfold tupV
      dsimp only
      have HG := Lib.hid hg
      clear hp h0 hd hok hg hb0 hc0
      rcases hs with rfl | rfl
      all_goals
        go_enter Tryd.func15, Tryd.ntmps15
        unfold conf at *
        go_wp2_with fail
        refine (HG.out _).mono ?_
        rintro r w1 ⟨rfl, hb⟩
        have hB1 := HB.out _ (hb.mono (by simp))
        clear hb
        go_wp2
        refine bodyPost_ret (results_tmp2 rfl _ _ _) rfl ?_
        exact ⟨rfl, hB1⟩
  · have h0 : faultN side N F C U L = 2 := if_neg hs
    have hp : volP side V N F C U L = ([], 2) := by unfold volP; rw [h0]; exact if_neg (by omega)
    rw [hp]
    unfold tupV
    dsimp only
    have h0 : (side != 0) = true := by simpa using fun h => hs (.inl h)
    have h1 : (side != 1) = true := by simpa using fun h => hs (.inr h)
    have h0' : (side == 0) = false := by simpa using fun h => hs (.inl h)
    have h1' : (side == 1) = false := by simpa using fun h => hs (.inr h)
    have HB0 := Lib.hid hb0
    clear hp hs hg hb0 hc0 hV hV0
    go_enter Tryd.func15, Tryd.ntmps15
    unfold conf
    go_wp2
    refine bodyPost_ret (results_tmp2 rfl _ _ _) rfl ?_
    exact ⟨rfl, HB0.out⟩

end Go.Proofs.YtfbkiohaoakahaaDoor


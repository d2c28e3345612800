/-
  Volumes as records: the program's Volume.
-/
import Derived.Test.YtfbkiohaoakahaaDoorRB
namespace Go.Proofs.YtfbkiohaoakahaaDoor
open Go.RowKit
set_option linter.unusedVariables false
set_option linter.unusedSimpArgs false

/-- A volume's bytes. -/
def volL (side V N F C U L : Int) : List UInt8 :=
  enc side.toNat 1 ++ enc V.toNat 4 ++ enc N.toNat 2 ++ enc F.toNat 1 ++ enc C.toNat 2 ++ enc U.toNat 2 ++ enc L.toNat 8

/-- A volume as a record, or why not. -/
def volP (side V N F C U L : Int) : List UInt8 × Nat :=
  if faultN side N F C U L = 0 then makeP 1 (volL side V N F C U L) else ([], faultN side N F C U L)

theorem volL_length (side V N F C U L : Int) : (volL side V N F C U L).length = 20 := by
  unfold volL
  simp [enc_length]

theorem fault_0 {side N F C U L : Int} (h : faultN side N F C U L = 0) : (side = 0 ∨ side = 1) ∧ okG N F C U ∧ 1 ≤ L ∧ L ≤ 281474976710656 := by
  unfold faultN at h
  split at h
  · split at h
    · split at h
      · rename_i a b c; exact ⟨a, b, c⟩
      · simp at h
    · simp at h
  · simp at h

theorem put_to (n n' wd v : Nat) (X X' : List UInt8) (hn : n' = n + wd) (hX : X' = X ++ enc v wd) (h1 : 1 ≤ wd) (h2 : wd ≤ 8) (hv : v < 18446744073709551616) (h8 : n + 8 ≤ 140737488355328) (a : Option Addr) (c : Nat) (w : World) (h : Rd w a n c X) :
    Calls Tryd.prog 19 #[.slice a n c, .int .i64 wd, .int .u64 v] w fun e w' => ∃ g c, e = .returned (.slice (some ⟨g, 0, none⟩) n' c) ∧ Rd w' (some ⟨g, 0, none⟩) n' c X' ∧ Below w.heap.size w w' := by
  subst hn hX
  exact (put_ok a n c X wd v w h h1 h2 hv h8).mono (fun e w' ⟨g, c, he, _, hr, hb⟩ => ⟨g, c, he, hr, hb⟩)

set_option maxRecDepth 20000 in
set_option maxHeartbeats 4000000 in
theorem volume_any (side V N F C U L : Int) (hV0 : 0 ≤ V) (hV : V < 4294967296) (w : World) :
    Calls Tryd.prog 14 #[.int .i64 side, conf V N F C U L] w fun e w' => e = .returned (tupV (volP side V N F C U L)) ∧ Below w.heap.size w w' := by
  have hf := fun w => fault_any side V N F C U L w
  have hb0 : Below w.heap.size w (w.alloc (cbox V N F C U L)) := (Below.refl _ _).alloc (Nat.le_refl _) _
  have hc0 := Cf.box w V N F C U L
  by_cases h0 : faultN side N F C U L = 0
  · have hp : volP side V N F C U L = makeP 1 (volL side V N F C U L) := if_pos h0
    rw [hp]
    obtain ⟨hs, ⟨n1, n2, f1, f2, c1, c2, u1, u2⟩, l1, l2⟩ := fault_0 h0
    rw [h0] at hf
    clear hp h0
    obtain ⟨s, rfl⟩ := Int.eq_ofNat_of_zero_le (a := side) (by omega)
    obtain ⟨v, rfl⟩ := Int.eq_ofNat_of_zero_le hV0
    obtain ⟨n, rfl⟩ := Int.eq_ofNat_of_zero_le (a := N) (by omega)
    obtain ⟨f, rfl⟩ := Int.eq_ofNat_of_zero_le (a := F) (by omega)
    obtain ⟨c, rfl⟩ := Int.eq_ofNat_of_zero_le c1
    obtain ⟨u, rfl⟩ := Int.eq_ofNat_of_zero_le (a := U) (by omega)
    obtain ⟨l, rfl⟩ := Int.eq_ofNat_of_zero_le (a := L) (by omega)
    obtain ⟨X1, hX1⟩ : ∃ X, X = enc s 1 := ⟨_, rfl⟩
    obtain ⟨X2, hX2⟩ : ∃ X, X = X1 ++ enc v 4 := ⟨_, rfl⟩
    obtain ⟨X3, hX3⟩ : ∃ X, X = X2 ++ enc n 2 := ⟨_, rfl⟩
    obtain ⟨X4, hX4⟩ : ∃ X, X = X3 ++ enc f 1 := ⟨_, rfl⟩
    obtain ⟨X5, hX5⟩ : ∃ X, X = X4 ++ enc c 2 := ⟨_, rfl⟩
    obtain ⟨X6, hX6⟩ : ∃ X, X = X5 ++ enc u 2 := ⟨_, rfl⟩
    obtain ⟨X7, hX7⟩ : ∃ X, X = X6 ++ enc l 8 := ⟨_, rfl⟩
    have hvl : volL s v n f c u l = X7 := by
      rw [hX7, hX6, hX5, hX4, hX3, hX2, hX1]; rfl
    rw [hvl]
    have H1 := Lib.hid (put_to 0 1 1 s [] X1 (by omega) (by rw [hX1]; rfl) (by omega) (by omega) (by omega) (by omega))
    have H2 := Lib.hid (put_to 1 5 4 v X1 X2 (by omega) hX2 (by omega) (by omega) (by omega) (by omega))
    have H3 := Lib.hid (put_to 5 7 2 n X2 X3 (by omega) hX3 (by omega) (by omega) (by omega) (by omega))
    have H4 := Lib.hid (put_to 7 8 1 f X3 X4 (by omega) hX4 (by omega) (by omega) (by omega) (by omega))
    have H5 := Lib.hid (put_to 8 10 2 c X4 X5 (by omega) hX5 (by omega) (by omega) (by omega) (by omega))
    have H6 := Lib.hid (put_to 10 12 2 u X5 X6 (by omega) hX6 (by omega) (by omega) (by omega) (by omega))
    have H7 := Lib.hid (put_to 12 20 8 l X6 X7 (by omega) hX7 (by omega) (by omega) (by omega) (by omega))
    have hmk := fun w => make_any 1 ⟨X7.toArray⟩ w (by
      have : X7.length = 20 := by rw [← hvl]; exact volL_length _ _ _ _ _ _ _
      show (List.toArray X7).size ≤ _; rw [List.size_toArray, this]; omega)
    have hdl : (⟨X7.toArray⟩ : ByteArray).data.toList = X7 := rfl
    simp only [hdl] at hmk
    change ∀ w, Calls Tryd.prog _ #[_, strV X7] w _ at hmk
    clear hvl hdl hX1 hX2 hX3 hX4 hX5 hX6 hX7
    unfold tupV at *
    generalize strV (makeP 1 X7).1 = M1 at *
    generalize (makeP 1 X7).2 = M2 at *
    obtain ⟨VX, hVX⟩ : ∃ V, V = strV X7 := ⟨_, rfl⟩
    simp only [← hVX] at hmk
    have HVX := Lib.hid hVX
    have HM := Lib.hid hmk
    have HF := Lib.hid hf
    have HC : Hid (∀ w', Below (w.heap.size + 1) (w.alloc (cbox v n f c u l)) w' → Cf w' w.heap.size v n f c u l) := Lib.hid (fun w' hb => hc0.keep hb (by omega))
    have HB : Hid (∀ w', Below (w.heap.size + 1) (w.alloc (cbox v n f c u l)) w' → Below w.heap.size w w') := Lib.hid (fun w' hb => hb0.trans (hb.mono (by omega)))
    clear hVX hmk hf hc0 hb0
    go_enter Tryd.func14, Tryd.ntmps14
    unfold conf at *
    go_wp2_with fail
    refine (HF.out _).mono ?_
    rintro r w1 ⟨rfl, hb⟩
    have HB1 : Hid (Below (w.heap.size + 1) _ w1) := Lib.hid (hb.mono (by simp))
    obtain ⟨a0, a1, a2, a3, a4, a5⟩ := HC.out _ HB1.out
    clear hb
    go_wp2_with fail
    refine (H1.out none 0 w1 (rd_nil _)).mono ?_
    rintro r w2 ⟨g2, k2, rfl, hrd, hb⟩
    have HB2 : Hid (Below (w.heap.size + 1) _ w2) := Lib.hid (HB1.out.trans (hb.mono (by have := HB1.out.size; simpa using this)))
    have HR2 := Lib.hid hrd
    clear hb hrd a0 a1 a2 a3 a4 a5 HB1
    obtain ⟨a0, a1, a2, a3, a4, a5⟩ := HC.out _ HB2.out
    go_wp2_with fail
    refine (H2.out _ _ w2 HR2.out).mono ?_
    rintro r w3 ⟨g3, k3, rfl, hrd, hb⟩
    have HB3 : Hid (Below (w.heap.size + 1) _ w3) := Lib.hid (HB2.out.trans (hb.mono (by have := HB2.out.size; simpa using this)))
    have HR3 := Lib.hid hrd
    clear hb hrd a0 a1 a2 a3 a4 a5 HB2 HR2
    obtain ⟨a0, a1, a2, a3, a4, a5⟩ := HC.out _ HB3.out
    go_wp2_with fail
    refine (H3.out _ _ w3 HR3.out).mono ?_
    rintro r w4 ⟨g4, k4, rfl, hrd, hb⟩
    have HB4 : Hid (Below (w.heap.size + 1) _ w4) := Lib.hid (HB3.out.trans (hb.mono (by have := HB3.out.size; simpa using this)))
    have HR4 := Lib.hid hrd
    clear hb hrd a0 a1 a2 a3 a4 a5 HB3 HR3
    obtain ⟨a0, a1, a2, a3, a4, a5⟩ := HC.out _ HB4.out
    go_wp2_with fail
    refine (H4.out _ _ w4 HR4.out).mono ?_
    rintro r w5 ⟨g5, k5, rfl, hrd, hb⟩
    have HB5 : Hid (Below (w.heap.size + 1) _ w5) := Lib.hid (HB4.out.trans (hb.mono (by have := HB4.out.size; simpa using this)))
    have HR5 := Lib.hid hrd
    clear hb hrd a0 a1 a2 a3 a4 a5 HB4 HR4
    obtain ⟨a0, a1, a2, a3, a4, a5⟩ := HC.out _ HB5.out
    go_wp2_with fail
    refine (H5.out _ _ w5 HR5.out).mono ?_
    rintro r w6 ⟨g6, k6, rfl, hrd, hb⟩
    have HB6 : Hid (Below (w.heap.size + 1) _ w6) := Lib.hid (HB5.out.trans (hb.mono (by have := HB5.out.size; simpa using this)))
    have HR6 := Lib.hid hrd
    clear hb hrd a0 a1 a2 a3 a4 a5 HB5 HR5
    obtain ⟨a0, a1, a2, a3, a4, a5⟩ := HC.out _ HB6.out
    go_wp2_with fail
    refine (H6.out _ _ w6 HR6.out).mono ?_
    rintro r w7 ⟨g7, k7, rfl, hrd, hb⟩
    have HB7 : Hid (Below (w.heap.size + 1) _ w7) := Lib.hid (HB6.out.trans (hb.mono (by have := HB6.out.size; simpa using this)))
    have HR7 := Lib.hid hrd
    clear hb hrd a0 a1 a2 a3 a4 a5 HB6 HR6
    obtain ⟨a0, a1, a2, a3, a4, a5⟩ := HC.out _ HB7.out
    go_wp2_with fail
    refine (H7.out _ _ w7 HR7.out).mono ?_
    rintro r w8 ⟨g8, k8, rfl, hrd, hb⟩
    have HB8 : Hid (Below (w.heap.size + 1) _ w8) := Lib.hid (HB7.out.trans (hb.mono (by have := HB7.out.size; simpa using this)))
    have HR8 := Lib.hid hrd
    clear hb hrd a0 a1 a2 a3 a4 a5 HB7 HR7
    have hcv := rd_string HR8.out
    change _ = Result.ok (strV X7) w8 at hcv
    rw [← HVX.out] at hcv
    go_wp2_with fail
    refine (HM.out _).mono ?_
    rintro r w9 ⟨rfl, hb⟩
    have hB9 := HB.out _ (HB8.out.trans (hb.mono (by have := HB8.out.size; simpa using this)))
    clear hb hcv HB8 HR8
    go_wp2
    refine bodyPost_ret (results_tmp2 rfl _ _ _) rfl ?_
    exact ⟨rfl, hB9⟩
  · have hp : volP side V N F C U L = ([], faultN side N F C U L) := if_neg h0
    rw [hp]
    unfold tupV
    dsimp only
    generalize faultN side N F C U L = k at *
    have hk : ((k : Int) == 0) = false := by simpa using h0
    have hk2 : ((k : Int) != 0) = true := by simpa using h0
    have HF := Lib.hid hf
    have HB : Hid (∀ w', Below (w.heap.size + 1) (w.alloc (cbox V N F C U L)) w' → Below w.heap.size w w') := Lib.hid (fun w' hb => hb0.trans (hb.mono (by omega)))
    clear hf hb0 hc0 hp h0
    go_enter Tryd.func14, Tryd.ntmps14
    unfold conf at *
    go_wp2_with fail
    refine (HF.out _).mono ?_
    rintro r w1 ⟨rfl, hb⟩
    have hB1 := HB.out _ (hb.mono (by simp))
    clear hb
    go_wp2
    refine bodyPost_ret (results_tmp2 rfl _ _ _) rfl ?_
    exact ⟨rfl, hB1⟩

end Go.Proofs.YtfbkiohaoakahaaDoor


/-
  Contract of the reference's Make.
-/
import Derived.Test.YtodcdefmoliegaaGreatDoorR2
namespace Go.Proofs.YtodcdefmoliegaaGreatDoor
open Go.RowKit
set_option linter.unusedVariables false
set_option linter.unusedSimpArgs false

theorem len_str (xs : List UInt8) (w : World) : (Builtin.len_ #[9] 3 #[strV xs]).run Tryz.prog w = .ok (.int .i64 (xs.length : Int)) w := by
  unfold strV
  have : (⟨xs.toArray⟩ : ByteArray).size = xs.length := by show (List.toArray xs).size = _; simp
  rw [← this]
  generalize (⟨xs.toArray⟩ : ByteArray) = s
  go_simp

theorem sec_mid (k : Nat) (h : k ≤ 60) (w : World) : (Instr.sliceAt 9 (.string (secOf 0)) (some (.int .i64 (k : Int))) (some (.int .i64 60)) none).run Tryz.prog w = .ok (strV (List.replicate (60 - k) 0)) w := by
  have e : (.string (secOf 0) : Value) = strV (List.replicate 64 0) := rfl
  rw [e]
  have := cut_both (List.replicate 64 0) k 60 h (by simp) w
  rw [List.take_replicate, List.drop_replicate] at this
  exact this

set_option maxRecDepth 20000 in
set_option maxHeartbeats 2000000 in
theorem rmake_any (kind : Int) (s : ByteArray) (w : World) (hs : s.size ≤ 9223372036854775807) :
    Calls Tryz.prog 42 #[.int .i64 kind, .string s] w fun e w' => e = .returned (tupV (makeP kind s.data.toList)) ∧ Below w.heap.size w w' := by
  have hl : s.data.toList.length = s.size := rfl
  unfold tupV
  by_cases hk : 1 ≤ kind ∧ kind ≤ 8
  · by_cases hlen : s.size ≤ 58
    · obtain ⟨k1, k2⟩ := hk
      obtain ⟨k, rfl⟩ : ∃ k : Nat, kind = k := ⟨kind.toNat, by omega⟩
      have hm : makeP (k : Int) s.data.toList = (sealL (pre60 k s.data.toList), 0) := by
        unfold makeP
        rw [if_neg (by omega), if_neg (by rw [hl]; omega)]
        rfl
      rw [hm]
      dsimp only
      have ht1 := fun w => text_any 1 k w (by omega) (by omega) (by omega)
      have ht2 := fun w => text_any 1 s.size w (by omega) (by omega) (by omega)
      rw [enc_one] at ht1 ht2
      have ha1 := add_texts [UInt8.ofNat k] [UInt8.ofNat s.size] (by simp)
      simp only [List.cons_append, List.nil_append] at ha1
      have ha2 := add_texts [UInt8.ofNat k, UInt8.ofNat s.size] s.data.toList (by rw [hl]; simp; omega)
      rw [strV_self] at ha2
      simp only [List.cons_append, List.nil_append] at ha2
      have hz := fun w => rzero_any w
      have hll : (UInt8.ofNat k :: UInt8.ofNat s.size :: s.data.toList).length = s.size + 2 := by rw [List.length_cons, List.length_cons, hl]
      have hln := len_str (UInt8.ofNat k :: UInt8.ofNat s.size :: s.data.toList)
      rw [hll] at hln
      have hc := fun w => sec_mid (s.size + 2) (by omega) w
      have hrep : List.replicate (60 - (s.size + 2)) (0 : UInt8) = List.replicate (58 - s.size) 0 := by congr 1; omega
      rw [hrep] at hc
      have ha3 := add_texts (UInt8.ofNat k :: UInt8.ofNat s.size :: s.data.toList) (List.replicate (58 - s.size) 0) (by rw [hll]; simp; omega)
      have hpre : (UInt8.ofNat k :: UInt8.ofNat s.size :: s.data.toList) ++ List.replicate (58 - s.size) 0 = pre60 k s.data.toList := by
        unfold pre60; rw [hl]; rfl
      rw [hpre] at ha3
      have hpl := pre60_length k s.data.toList (by rw [hl]; exact hlen)
      have hcv := fun w => cv_str (pre60 k s.data.toList) (by rw [hpl]; omega) w
      rw [hpl] at hcv
      have hsm := fun g c (w' : World) (h : Rd w' (some ⟨g, 0, none⟩) 60 c (pre60 k s.data.toList)) => rsum_any _ _ _ _ w' h
      have hnl := addN_lt 0 (pre60 k s.data.toList)
      have ha4 := add_texts (pre60 k s.data.toList) (enc (addN 0 (pre60 k s.data.toList)) 4) (by rw [hpl, enc_length]; omega)
      have hse : pre60 k s.data.toList ++ enc (addN 0 (pre60 k s.data.toList)) 4 = sealL (pre60 k s.data.toList) := rfl
      rw [hse] at ha4
      generalize addN 0 (pre60 k s.data.toList) = n at *
      have ht3 := fun w => text_any 4 n w (by omega) (by omega) (by omega)
      obtain ⟨V1, hV1⟩ : ∃ V, V = strV [UInt8.ofNat k] := ⟨_, rfl⟩
      obtain ⟨V2, hV2⟩ : ∃ V, V = strV [UInt8.ofNat s.size] := ⟨_, rfl⟩
      obtain ⟨V3, hV3⟩ : ∃ V, V = strV [UInt8.ofNat k, UInt8.ofNat s.size] := ⟨_, rfl⟩
      obtain ⟨V4, hV4⟩ : ∃ V, V = strV (UInt8.ofNat k :: UInt8.ofNat s.size :: s.data.toList) := ⟨_, rfl⟩
      obtain ⟨V5, hV5⟩ : ∃ V, V = strV (List.replicate (58 - s.size) 0) := ⟨_, rfl⟩
      obtain ⟨V6, hV6⟩ : ∃ V, V = strV (pre60 k s.data.toList) := ⟨_, rfl⟩
      obtain ⟨V7, hV7⟩ : ∃ V, V = strV (enc n 4) := ⟨_, rfl⟩
      obtain ⟨V8, hV8⟩ : ∃ V, V = strV (sealL (pre60 k s.data.toList)) := ⟨_, rfl⟩
      obtain ⟨VZ, hVZ⟩ : ∃ V, V = (.string (secOf 0) : Value) := ⟨_, rfl⟩
      simp only [← hV1] at ht1 ha1
      simp only [← hV2] at ht2 ha1
      simp only [← hV3] at ha1 ha2
      simp only [← hV4] at ha2 hln ha3
      simp only [← hV5] at hc ha3
      simp only [← hV6] at ha3 hcv ha4
      simp only [← hV7] at ht3 ha4
      simp only [← hV8] at ha4
      simp only [← hVZ] at hz hc
      rw [← hV8]
      have hln' : ∀ w, (Builtin.len_ #[9] 3 #[V4]).run Tryz.prog w = .ok (.int .i64 ((s.size : Int) + 2)) w := fun w => by rw [hln w]; congr 2
      have hc' : ∀ w, (Instr.sliceAt 9 VZ (some (.int .i64 ((s.size : Int) + 2))) (some (.int .i64 60)) none).run Tryz.prog w = .ok V5 w := fun w => hc w
      have HT1 := Lib.hid ht1
      have HT2 := Lib.hid ht2
      have HT3 := Lib.hid ht3
      have HZ := Lib.hid hz
      have HCV := Lib.hid hcv
      have HSM := Lib.hid hsm
      clear hV1 hV2 hV3 hV4 hV5 hV6 hV7 hV8 hVZ ht1 ht2 ht3 hz hcv hsm hln hc hm hl hll hpre hpl hse hrep
      go_enter Tryz.func42, Tryz.ntmps42
      go_wp2_with fail
      refine (HT1.out _).mono ?_
      rintro e w1 ⟨rfl, hb1⟩
      have HB1 := Lib.hid hb1
      clear hb1
      go_wp2_with fail
      refine (HT2.out _).mono ?_
      rintro e w2 ⟨rfl, hb2⟩
      have HB2 := Lib.hid (HB1.out.trans (hb2.mono HB1.out.size))
      clear hb2 HB1
      go_wp2_with fail
      refine (HZ.out _).mono ?_
      rintro e w3 ⟨rfl, hb3⟩
      have HB3 := Lib.hid (HB2.out.trans (hb3.mono HB2.out.size))
      obtain ⟨c, w4, hcv, hrd, hb4⟩ := HCV.out w3
      have hs4 := HSM.out _ _ _ hrd
      have HB4 := Lib.hid (HB3.out.trans (hb4.mono HB3.out.size))
      clear hb3 HB2 hrd hb4 HCV HSM
      go_wp2_with fail
      refine hs4.mono ?_
      rintro e w5 ⟨rfl, hw5⟩
      obtain rfl := hw5
      clear hs4 hcv
      go_wp2_with fail
      refine (HT3.out _).mono ?_
      rintro e w6 ⟨rfl, hb6⟩
      have hB6 := HB4.out.trans (hb6.mono HB4.out.size)
      clear hb6 HB4 HB3
      go_wp2
      refine bodyPost_ret (results_tmp2 rfl _ _ _) rfl ?_
      exact ⟨rfl, hB6⟩
    · have hm : makeP kind s.data.toList = ([], 8) := by
        unfold makeP
        rw [if_neg (by omega), if_pos (by rw [hl]; omega)]
      rw [hm]
      have i2 : (58 : Int) < (s.size : Int) := by omega
      obtain ⟨k1, k2⟩ := hk
      clear hm hl hlen
      go_enter Tryz.func42, Tryz.ntmps42
      go_wp2
      refine bodyPost_ret (results_tmp2 rfl _ _ _) rfl ?_
      exact ⟨rfl, Below.refl _ _⟩
  · have hm : makeP kind s.data.toList = ([], 22) := by
      unfold makeP
      rw [if_pos (by omega)]
    rw [hm]
    by_cases k1 : kind < 1
    · clear hm hl hk
      go_enter Tryz.func42, Tryz.ntmps42
      go_wp2
      refine bodyPost_ret (results_tmp2 rfl _ _ _) rfl ?_
      exact ⟨rfl, Below.refl _ _⟩
    · have k2 : 8 < kind := by omega
      clear hm hl hk
      go_enter Tryz.func42, Tryz.ntmps42
      go_wp2
      refine bodyPost_ret (results_tmp2 rfl _ _ _) rfl ?_
      exact ⟨rfl, Below.refl _ _⟩

end Go.Proofs.YtodcdefmoliegaaGreatDoor


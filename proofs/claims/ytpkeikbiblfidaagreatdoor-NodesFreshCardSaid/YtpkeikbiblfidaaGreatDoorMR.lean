/-
  Texts put together: R1, R2, R3.
-/
import Derived.Test.YtpkeikbiblfidaaGreatDoorMA
import Derived.Test.YtpkeikbiblfidaaGreatDoorMK
import Derived.Test.YtpkeikbiblfidaaGreatDoorMF
import Derived.Test.YtpkeikbiblfidaaGreatDoorR0
import Derived.Laws.IdiomStrings
/-
  Contracts of the reference's Text and of seal.
-/
namespace Go.Proofs.YtpkeikbiblfidaaGreatDoor
open Go.RowKit
set_option linter.unusedVariables false
set_option linter.unusedSimpArgs false

theorem bytesRow_at' (s : ByteArray) (c i : Nat) (h : i < s.size) : (bytesRow s c)[i]? = some (.int .u8 (((s.data.toList)[i]?.getD 0).toNat : Int)) := by
  have h' : i < s.data.size := h
  simp [bytesRow, Array.getElem?_append, h', Array.getElem?_eq_getElem h']
  omega

/-- '[]byte(s)': the new row reads as the text's bytes. -/
theorem cv_rd (s : ByteArray) (hs : s.size ≤ 140737488355328) (w : World) : ∃ c w', (convert 9 128 (.string s)).run Tryz.prog w = .ok (.slice (some ⟨w.heap.size, 0, none⟩) s.size c) w' ∧
    Rd w' (some ⟨w.heap.size, 0, none⟩) s.size c s.data.toList ∧ Below w.heap.size w w' := by
  refine ⟨_, _, run_bytes_of_string w 9 128 5 s Tryz.underlying9 Tryz.underlying128 Tryz.underlying5, ?_, ((Below.refl _ _).drew).alloc (Nat.le_refl _) _⟩
  refine ⟨rfl, grownCap_ge _ _ _ _, hs, grownCap_le_maxLen _ _ _ _ (by unfold maxLen; omega), fun _ => ⟨_, _, rfl, by simp, fun i hi => ?_⟩, fun e => by cases e⟩
  have := World.cell?_alloc_mark w.drew (bytesRow s (grownCap w s.size 0 5)) 5 ((bytesRow s (grownCap w s.size 0 5)).size, (bytesRow s (grownCap w s.size 0 5)).size + 1) (0 + i)
  refine this.trans ?_
  rw [Nat.zero_add]
  exact bytesRow_at' s _ i hi

theorem cv_str (xs : List UInt8) (hs : xs.length ≤ 140737488355328) (w : World) : ∃ c w', (convert 9 128 (strV xs)).run Tryz.prog w = .ok (.slice (some ⟨w.heap.size, 0, none⟩) xs.length c) w' ∧
    Rd w' (some ⟨w.heap.size, 0, none⟩) xs.length c xs ∧ Below w.heap.size w w' := by
  have := cv_rd ⟨xs.toArray⟩ (by simpa [ByteArray.size] using hs) w
  simpa [ByteArray.size, strV] using this

set_option maxRecDepth 20000 in
set_option maxHeartbeats 1000000 in
theorem text_any (wd v : Nat) (w : World) (h1 : 1 ≤ wd) (h2 : wd ≤ 8) (hv : v < 18446744073709551616) :
    Calls Tryz.prog 102 #[.int .i64 (wd : Int), .int .u64 (v : Int)] w fun e w' => e = .returned (strV (enc v wd)) ∧ Below w.heap.size w w' := by
  have hp := rput_ok none 0 0 [] wd v w (rd_nil w) h1 h2 hv (by omega)
  simp only [Nat.zero_add, List.nil_append] at hp
  obtain ⟨V, hV⟩ : ∃ V, V = strV (enc v wd) := ⟨_, rfl⟩
  rw [← hV]
  have HV := Lib.hid hV
  clear hV
  go_enter Tryz.func102, Tryz.ntmps102
  go_wp2_with fail
  refine hp.mono ?_
  rintro e w1 ⟨a', c, rfl, hrd, hb⟩
  have hcv := rd_string hrd
  change _ = Result.ok (strV (enc v wd)) w1 at hcv
  rw [← HV.out] at hcv
  clear hp hv h1 h2
  go_wp2
  go_ret
  exact ⟨rfl, hb⟩

set_option maxRecDepth 20000 in
set_option maxHeartbeats 1000000 in
theorem seal_any (xs : List UInt8) (w : World) (hx : xs.length ≤ 1000000) :
    Calls Tryz.prog 127 #[strV xs] w fun e w' => e = .returned (strV (sealL xs)) ∧ Below w.heap.size w w' := by
  obtain ⟨c, w1, hcv, hrd, hb1⟩ := cv_str xs (by omega) w
  obtain ⟨g, hg⟩ : ∃ g, g = w.heap.size := ⟨_, rfl⟩
  rw [← hg] at hcv hrd
  have hs := sum_any _ _ _ _ w1 hrd
  have hn := addN_lt 0 xs
  have hse : sealL xs = xs ++ enc (addN 0 xs) 4 := rfl
  rw [hse]
  generalize addN 0 xs = n at *
  have hp := fun w' (h : Below w1.heap.size w1 w') => put_ok _ _ _ xs 4 n w' (hrd.later h) (by omega) (by omega) (by omega) (by omega)
  obtain ⟨V, hV⟩ : ∃ V, V = strV xs := ⟨_, rfl⟩
  rw [← hV] at hcv ⊢
  obtain ⟨R, hR⟩ : ∃ R, R = strV (xs ++ enc n 4) := ⟨_, rfl⟩
  rw [← hR]
  have HP := Lib.hid hp
  have HB := Lib.hid hb1
  have HR := Lib.hid hR
  have n1 : (0 : Int) ≤ (n : Int) := by omega
  have n2 : (n : Int) < 4294967296 := by omega
  clear hp hb1 hrd hR hse hV hg
  generalize hl : xs.length = l at *
  go_enter Tryz.func127, Tryz.ntmps127
  go_wp2_with fail
  refine hs.mono ?_
  rintro e w2 ⟨rfl, hb2⟩
  have h3 := HP.out w2 hb2
  have HB2 := Lib.hid (HB.out.trans (hb2.mono HB.out.size))
  clear hs hb2 HP hcv
  go_wp2_with fail
  refine h3.mono ?_
  rintro e w3 ⟨g3, c3, rfl, -, hrd3, hb3⟩
  have hc3 := rd_string hrd3
  change _ = Result.ok (strV (xs ++ enc n 4)) w3 at hc3
  rw [← HR.out] at hc3
  have hB3 := HB2.out.trans (hb3.mono HB2.out.size)
  clear h3 hrd3 hb3
  go_wp2
  go_ret
  exact ⟨rfl, hB3⟩

end Go.Proofs.YtpkeikbiblfidaaGreatDoor
/-
  Contract of the program's Make; parts of texts.
-/
namespace Go.Proofs.YtpkeikbiblfidaaGreatDoor
open Go.RowKit
set_option linter.unusedVariables false
set_option linter.unusedSimpArgs false

def tupV (p : List UInt8 × Nat) : Value := .tuple #[strV p.1, .int .i64 (p.2 : Int)]

theorem ext_list (xs : List UInt8) (i j : Nat) : (⟨xs.toArray⟩ : ByteArray).extract i j = ⟨((xs.take j).drop i).toArray⟩ := by
  apply ByteArray.ext
  rw [ByteArray.data_extract]
  apply Array.toList_inj.mp
  rw [Array.toList_extract]
  show List.take (j - i) (List.drop i xs) = List.drop i (List.take j xs)
  rw [List.drop_take]

theorem cut_to (xs : List UInt8) (j : Nat) (h : j ≤ xs.length) (w : World) : (Instr.sliceAt 9 (strV xs) none (some (.int .i64 (j : Int))) none).run Tryz.prog w = .ok (strV (xs.take j)) w := by
  unfold strV
  rw [run_sliceAt_string _ _ _ _ _ _ Tryz.underlying9, run_slice_string_h w 9 _ Tryz.underlying9 .i64 (j : Int) (by omega) (by simpa [ByteArray.size] using h), ext_list]
  rfl
theorem cut_from (xs : List UInt8) (i : Nat) (h : i ≤ xs.length) (w : World) : (Instr.sliceAt 9 (strV xs) (some (.int .i64 (i : Int))) none none).run Tryz.prog w = .ok (strV (xs.drop i)) w := by
  unfold strV
  rw [run_sliceAt_string _ _ _ _ _ _ Tryz.underlying9, run_slice_string_l w 9 _ Tryz.underlying9 .i64 (i : Int) (by omega) (by simpa [ByteArray.size] using h), ext_list]
  simp [ByteArray.size]
theorem cut_both (xs : List UInt8) (i j : Nat) (hi : i ≤ j) (h : j ≤ xs.length) (w : World) : (Instr.sliceAt 9 (strV xs) (some (.int .i64 (i : Int))) (some (.int .i64 (j : Int))) none).run Tryz.prog w = .ok (strV ((xs.take j).drop i)) w := by
  unfold strV
  rw [run_sliceAt_string _ _ _ _ _ _ Tryz.underlying9, run_slice_string _ 9 _ .i64 .i64 (i : Int) (j : Int) Tryz.underlying9 (by omega) (by omega) (by simpa [ByteArray.size] using h), ext_list]
  rfl

theorem enc_one (k : Nat) : enc k 1 = [UInt8.ofNat k] := by simp [enc, byteAt]

theorem pad_pre (k : Nat) (b : List UInt8) (h : b.length ≤ 58) : (padL (UInt8.ofNat k :: UInt8.ofNat b.length :: b)).take 60 = pre60 k b := by
  unfold padL pre60
  have e : (64 - (UInt8.ofNat k :: UInt8.ofNat b.length :: b).length) = (58 - b.length) + 4 := by simp; omega
  rw [e, ← List.replicate_append_replicate, ← List.append_assoc, List.take_append_of_le_length (by simp; omega), List.take_of_length_le (by simp; omega)]
  rfl

set_option maxRecDepth 20000 in
set_option maxHeartbeats 400000 in
theorem isKind_any (n : Int) (w : World) :
    Calls Tryz.prog 128 #[.int .i64 n] w fun e w' => e = .returned (.bool (decide (1 ≤ n ∧ n ≤ 8))) ∧ w' = w := by
  go_enter Tryz.func128, Tryz.ntmps128
  go_wp2
  all_goals go_ret
  all_goals refine ⟨?_, rfl⟩
  · rename_i h
    by_cases h2 : n ≤ 8 <;> simp [h, h2]
  · rename_i h
    have : ¬ (1 ≤ n) := by omega
    simp [this]

set_option maxRecDepth 20000 in
set_option maxHeartbeats 2000000 in
theorem make_any (kind : Int) (s : ByteArray) (w : World) (hs : s.size ≤ 9223372036854775807) :
    Calls Tryz.prog 103 #[.int .i64 kind, .string s] w fun e w' => e = .returned (tupV (makeP kind s.data.toList)) ∧ Below w.heap.size w w' := by
  have hik := isKind_any kind
  have hl : s.data.toList.length = s.size := rfl
  unfold tupV
  by_cases hk : 1 ≤ kind ∧ kind ≤ 8
  · rw [show decide (1 ≤ kind ∧ kind ≤ 8) = true from by simpa using hk] at hik
    by_cases hlen : s.size ≤ 58
    · obtain ⟨k1, k2⟩ := hk
      obtain ⟨k, rfl⟩ : ∃ k : Nat, kind = k := ⟨kind.toNat, by omega⟩
      have hm : makeP (k : Int) s.data.toList = (sealL (pre60 k s.data.toList), 0) := by
        unfold makeP
        rw [if_neg (by omega), if_neg (by rw [hl]; omega)]
        rfl
      rw [hm]
      dsimp only
      have hp1 := put_ok none 0 0 [] 1 k
      simp only [Nat.zero_add, List.nil_append, enc_one] at hp1
      have hp2 := fun g c (w' : World) (h : Rd w' (some ⟨g, 0, none⟩) 1 c [UInt8.ofNat k]) => put_ok (some ⟨g, 0, none⟩) 1 c [UInt8.ofNat k] 1 s.size w' h (by omega) (by omega) (by omega) (by omega)
      simp only [enc_one, List.cons_append, List.nil_append] at hp2
      have ha := add_texts [UInt8.ofNat k, UInt8.ofNat s.size] s.data.toList (by rw [hl]; simp; omega)
      rw [strV_self] at ha
      simp only [List.cons_append, List.nil_append] at ha
      have hpd := pad_any ⟨(UInt8.ofNat k :: UInt8.ofNat s.size :: s.data.toList).toArray⟩
      have hpp : padV ⟨(UInt8.ofNat k :: UInt8.ofNat s.size :: s.data.toList).toArray⟩ = .tuple #[strV (padL (UInt8.ofNat k :: UInt8.ofNat s.size :: s.data.toList)), .int .i64 0] := by
        unfold padV
        rw [if_pos (by show (List.toArray (UInt8.ofNat k :: UInt8.ofNat s.size :: s.data.toList)).size ≤ 64; rw [List.size_toArray, List.length_cons, List.length_cons, hl]; omega)]
      rw [hpp] at hpd
      change ∀ w, Calls Tryz.prog _ #[strV (UInt8.ofNat k :: UInt8.ofNat s.size :: s.data.toList)] w _ at hpd
      have hpl : (padL (UInt8.ofNat k :: UInt8.ofNat s.size :: s.data.toList)).length = 64 := by
        unfold padL
        rw [List.length_append, List.length_replicate, List.length_cons, List.length_cons, hl]
        omega
      have hc := fun w => cut_to (padL (UInt8.ofNat k :: UInt8.ofNat s.size :: s.data.toList)) 60 (by rw [hpl]; omega) w
      rw [show (padL (UInt8.ofNat k :: UInt8.ofNat s.size :: s.data.toList)).take 60 = pre60 k s.data.toList from pad_pre k s.data.toList (by rw [hl]; exact hlen)] at hc
      have hse := fun w => seal_any (pre60 k s.data.toList) w (by rw [pre60_length _ _ (by rw [hl]; exact hlen)]; omega)
      obtain ⟨V1, hV1⟩ : ∃ V, V = strV [UInt8.ofNat k, UInt8.ofNat s.size] := ⟨_, rfl⟩
      obtain ⟨V2, hV2⟩ : ∃ V, V = strV (UInt8.ofNat k :: UInt8.ofNat s.size :: s.data.toList) := ⟨_, rfl⟩
      obtain ⟨V3, hV3⟩ : ∃ V, V = strV (padL (UInt8.ofNat k :: UInt8.ofNat s.size :: s.data.toList)) := ⟨_, rfl⟩
      obtain ⟨V4, hV4⟩ : ∃ V, V = strV (pre60 k s.data.toList) := ⟨_, rfl⟩
      obtain ⟨V5, hV5⟩ : ∃ V, V = strV (sealL (pre60 k s.data.toList)) := ⟨_, rfl⟩
      rw [← hV1, ← hV2] at ha
      rw [← hV2, ← hV3] at hpd
      simp only [← hV3, ← hV4] at hc
      simp only [← hV4, ← hV5] at hse
      rw [← hV5]
      have HV1 := Lib.hid hV1
      have HP1 := Lib.hid hp1
      have HP2 := Lib.hid hp2
      have HPD := Lib.hid hpd
      have HSE := Lib.hid hse
      have hcc : ∀ w, (Instr.sliceAt 9 V3 none (some (.int .i64 60)) none).run Tryz.prog w = .ok V4 w := hc
      clear hV1 hV2 hV3 hV4 hV5 hp1 hp2 hpd hse hpp hpl hm hc hl
      go_enter Tryz.func103, Tryz.ntmps103
      go_wp2_with fail
      refine (hik _).mono ?_
      rintro e w1 ⟨rfl, hw⟩
      obtain rfl := hw.symm
      clear hw hik
      go_wp2_with fail
      refine (HP1.out w (rd_nil w) (by omega) (by omega) (by omega) (by omega)).mono ?_
      rintro e w1 ⟨g1, c1, rfl, -, hrd1, hb1⟩
      have HB1 := Lib.hid hb1
      have h2 := HP2.out g1 c1 w1 hrd1
      clear hb1 hrd1 HP1 HP2
      go_wp2_with fail
      refine h2.mono ?_
      rintro e w2 ⟨g2, c2, rfl, -, hrd2, hb2⟩
      have HB2 := Lib.hid (HB1.out.trans (hb2.mono HB1.out.size))
      have hcv := rd_string hrd2
      change _ = Result.ok (strV [UInt8.ofNat k, UInt8.ofNat s.size]) w2 at hcv
      rw [← HV1.out] at hcv
      clear hb2 hrd2 h2 HB1
      go_wp2_with fail
      refine (HPD.out _).mono ?_
      rintro e w3 ⟨rfl, hb3⟩
      have HB3 := Lib.hid (HB2.out.trans (hb3.mono HB2.out.size))
      clear hb3 hcv HB2
      go_wp2_with fail
      refine (HSE.out _).mono ?_
      rintro e w4 ⟨rfl, hb4⟩
      have hB4 := HB3.out.trans (hb4.mono HB3.out.size)
      clear hb4 HB3
      go_wp2
      refine bodyPost_ret (results_tmp2 rfl _ _ _) rfl ?_
      exact ⟨rfl, hB4⟩
    · have hm : makeP kind s.data.toList = ([], 8) := by
        unfold makeP
        rw [if_neg (by omega), if_pos (by rw [hl]; omega)]
      rw [hm]
      have i2 : (58 : Int) < (s.size : Int) := by omega
      clear hm hl hlen
      go_enter Tryz.func103, Tryz.ntmps103
      go_wp2_with fail
      refine (hik _).mono ?_
      rintro e w1 ⟨rfl, hw⟩
      obtain rfl := hw.symm
      clear hw hik
      go_wp2
      refine bodyPost_ret (results_tmp2 rfl _ _ _) rfl ?_
      exact ⟨rfl, Below.refl _ _⟩
  · rw [show decide (1 ≤ kind ∧ kind ≤ 8) = false from by rw [decide_eq_false_iff_not]; exact hk] at hik
    have hm : makeP kind s.data.toList = ([], 22) := by
      unfold makeP
      rw [if_pos (by omega)]
    rw [hm]
    clear hm hl hk
    go_enter Tryz.func103, Tryz.ntmps103
    go_wp2_with fail
    refine (hik _).mono ?_
    rintro e w1 ⟨rfl, hw⟩
    obtain rfl := hw.symm
    clear hw hik
    go_wp2
    refine bodyPost_ret (results_tmp2 rfl _ _ _) rfl ?_
    exact ⟨rfl, Below.refl _ _⟩

end Go.Proofs.YtpkeikbiblfidaaGreatDoor
/-
  Contract of the reference's Make.
-/
namespace Go.Proofs.YtpkeikbiblfidaaGreatDoor
open Go.RowKit
set_option linter.unusedVariables false
set_option linter.unusedSimpArgs false

theorem len_str (xs : List UInt8) (w : World) : (Builtin.len_ #[9] 3 #[strV xs]).run Tryz.prog w = .ok (.int .i64 (xs.length : Int)) w := by
  unfold strV
  have : (⟨xs.toArray⟩ : ByteArray).size = xs.length := by show (List.toArray xs).size = _; simp
  rw [← this]
  generalize (⟨xs.toArray⟩ : ByteArray) = s
  go_simp

theorem sec_mid (k : Nat) (h : k ≤ 60) (w : World) : (Instr.sliceAt 9 (.string (secOf 0)) (some (.int .i64 (k : Int))) (some (.int .i64 60)) none).run Tryz.prog w = .ok (strV (List.replicate (60 - k) 0)) w := by
  have e : (.string (secOf 0) : Value) = strV (List.replicate 64 0) := rfl
  rw [e]
  have := cut_both (List.replicate 64 0) k 60 h (by simp) w
  rw [List.take_replicate, List.drop_replicate] at this
  exact this

set_option maxRecDepth 20000 in
set_option maxHeartbeats 2000000 in
theorem rmake_any (kind : Int) (s : ByteArray) (w : World) (hs : s.size ≤ 9223372036854775807) :
    Calls Tryz.prog 106 #[.int .i64 kind, .string s] w fun e w' => e = .returned (tupV (makeP kind s.data.toList)) ∧ Below w.heap.size w w' := by
  have hl : s.data.toList.length = s.size := rfl
  unfold tupV
  by_cases hk : 1 ≤ kind ∧ kind ≤ 8
  · by_cases hlen : s.size ≤ 58
    · obtain ⟨k1, k2⟩ := hk
      obtain ⟨k, rfl⟩ : ∃ k : Nat, kind = k := ⟨kind.toNat, by omega⟩
      have hm : makeP (k : Int) s.data.toList = (sealL (pre60 k s.data.toList), 0) := by
        unfold makeP
        rw [if_neg (by omega), if_neg (by rw [hl]; omega)]
        rfl
      rw [hm]
      dsimp only
      have ht1 := fun w => text_any 1 k w (by omega) (by omega) (by omega)
      have ht2 := fun w => text_any 1 s.size w (by omega) (by omega) (by omega)
      rw [enc_one] at ht1 ht2
      have ha1 := add_texts [UInt8.ofNat k] [UInt8.ofNat s.size] (by simp)
      simp only [List.cons_append, List.nil_append] at ha1
      have ha2 := add_texts [UInt8.ofNat k, UInt8.ofNat s.size] s.data.toList (by rw [hl]; simp; omega)
      rw [strV_self] at ha2
      simp only [List.cons_append, List.nil_append] at ha2
      have hz := fun w => rzero_any w
      have hll : (UInt8.ofNat k :: UInt8.ofNat s.size :: s.data.toList).length = s.size + 2 := by rw [List.length_cons, List.length_cons, hl]
      have hln := len_str (UInt8.ofNat k :: UInt8.ofNat s.size :: s.data.toList)
      rw [hll] at hln
      have hc := fun w => sec_mid (s.size + 2) (by omega) w
      have hrep : List.replicate (60 - (s.size + 2)) (0 : UInt8) = List.replicate (58 - s.size) 0 := by congr 1; omega
      rw [hrep] at hc
      have ha3 := add_texts (UInt8.ofNat k :: UInt8.ofNat s.size :: s.data.toList) (List.replicate (58 - s.size) 0) (by rw [hll]; simp; omega)
      have hpre : (UInt8.ofNat k :: UInt8.ofNat s.size :: s.data.toList) ++ List.replicate (58 - s.size) 0 = pre60 k s.data.toList := by
        unfold pre60; rw [hl]; rfl
      rw [hpre] at ha3
      have hpl := pre60_length k s.data.toList (by rw [hl]; exact hlen)
      have hcv := fun w => cv_str (pre60 k s.data.toList) (by rw [hpl]; omega) w
      rw [hpl] at hcv
      have hsm := fun g c (w' : World) (h : Rd w' (some ⟨g, 0, none⟩) 60 c (pre60 k s.data.toList)) => rsum_any _ _ _ _ w' h
      have hnl := addN_lt 0 (pre60 k s.data.toList)
      have ha4 := add_texts (pre60 k s.data.toList) (enc (addN 0 (pre60 k s.data.toList)) 4) (by rw [hpl, enc_length]; omega)
      have hse : pre60 k s.data.toList ++ enc (addN 0 (pre60 k s.data.toList)) 4 = sealL (pre60 k s.data.toList) := rfl
      rw [hse] at ha4
      generalize addN 0 (pre60 k s.data.toList) = n at *
      have ht3 := fun w => text_any 4 n w (by omega) (by omega) (by omega)
      obtain ⟨V1, hV1⟩ : ∃ V, V = strV [UInt8.ofNat k] := ⟨_, rfl⟩
      obtain ⟨V2, hV2⟩ : ∃ V, V = strV [UInt8.ofNat s.size] := ⟨_, rfl⟩
      obtain ⟨V3, hV3⟩ : ∃ V, V = strV [UInt8.ofNat k, UInt8.ofNat s.size] := ⟨_, rfl⟩
      obtain ⟨V4, hV4⟩ : ∃ V, V = strV (UInt8.ofNat k :: UInt8.ofNat s.size :: s.data.toList) := ⟨_, rfl⟩
      obtain ⟨V5, hV5⟩ : ∃ V, V = strV (List.replicate (58 - s.size) 0) := ⟨_, rfl⟩
      obtain ⟨V6, hV6⟩ : ∃ V, V = strV (pre60 k s.data.toList) := ⟨_, rfl⟩
      obtain ⟨V7, hV7⟩ : ∃ V, V = strV (enc n 4) := ⟨_, rfl⟩
      obtain ⟨V8, hV8⟩ : ∃ V, V = strV (sealL (pre60 k s.data.toList)) := ⟨_, rfl⟩
      obtain ⟨VZ, hVZ⟩ : ∃ V, V = (.string (secOf 0) : Value) := ⟨_, rfl⟩
      simp only [← hV1] at ht1 ha1
      simp only [← hV2] at ht2 ha1
      simp only [← hV3] at ha1 ha2
      simp only [← hV4] at ha2 hln ha3
      simp only [← hV5] at hc ha3
      simp only [← hV6] at ha3 hcv ha4
      simp only [← hV7] at ht3 ha4
      simp only [← hV8] at ha4
      simp only [← hVZ] at hz hc
      rw [← hV8]
      have hln' : ∀ w, (Builtin.len_ #[9] 3 #[V4]).run Tryz.prog w = .ok (.int .i64 ((s.size : Int) + 2)) w := fun w => by rw [hln w]; congr 2
      have hc' : ∀ w, (Instr.sliceAt 9 VZ (some (.int .i64 ((s.size : Int) + 2))) (some (.int .i64 60)) none).run Tryz.prog w = .ok V5 w := fun w => hc w
      have HT1 := Lib.hid ht1
      have HT2 := Lib.hid ht2
      have HT3 := Lib.hid ht3
      have HZ := Lib.hid hz
      have HCV := Lib.hid hcv
      have HSM := Lib.hid hsm
      clear hV1 hV2 hV3 hV4 hV5 hV6 hV7 hV8 hVZ ht1 ht2 ht3 hz hcv hsm hln hc hm hl hll hpre hpl hse hrep
      go_enter Tryz.func106, Tryz.ntmps106
      go_wp2_with fail
      refine (HT1.out _).mono ?_
      rintro e w1 ⟨rfl, hb1⟩
      have HB1 := Lib.hid hb1
      clear hb1
      go_wp2_with fail
      refine (HT2.out _).mono ?_
      rintro e w2 ⟨rfl, hb2⟩
      have HB2 := Lib.hid (HB1.out.trans (hb2.mono HB1.out.size))
      clear hb2 HB1
      go_wp2_with fail
      refine (HZ.out _).mono ?_
      rintro e w3 ⟨rfl, hb3⟩
      have HB3 := Lib.hid (HB2.out.trans (hb3.mono HB2.out.size))
      obtain ⟨c, w4, hcv, hrd, hb4⟩ := HCV.out w3
      have hs4 := HSM.out _ _ _ hrd
      have HB4 := Lib.hid (HB3.out.trans (hb4.mono HB3.out.size))
      clear hb3 HB2 hrd hb4 HCV HSM
      go_wp2_with fail
      refine hs4.mono ?_
      rintro e w5 ⟨rfl, hw5⟩
      obtain rfl := hw5
      clear hs4 hcv
      go_wp2_with fail
      refine (HT3.out _).mono ?_
      rintro e w6 ⟨rfl, hb6⟩
      have hB6 := HB4.out.trans (hb6.mono HB4.out.size)
      clear hb6 HB4 HB3
      go_wp2
      refine bodyPost_ret (results_tmp2 rfl _ _ _) rfl ?_
      exact ⟨rfl, hB6⟩
    · have hm : makeP kind s.data.toList = ([], 8) := by
        unfold makeP
        rw [if_neg (by omega), if_pos (by rw [hl]; omega)]
      rw [hm]
      have i2 : (58 : Int) < (s.size : Int) := by omega
      obtain ⟨k1, k2⟩ := hk
      clear hm hl hlen
      go_enter Tryz.func106, Tryz.ntmps106
      go_wp2
      refine bodyPost_ret (results_tmp2 rfl _ _ _) rfl ?_
      exact ⟨rfl, Below.refl _ _⟩
  · have hm : makeP kind s.data.toList = ([], 22) := by
      unfold makeP
      rw [if_pos (by omega)]
    rw [hm]
    by_cases k1 : kind < 1
    · clear hm hl hk
      go_enter Tryz.func106, Tryz.ntmps106
      go_wp2
      refine bodyPost_ret (results_tmp2 rfl _ _ _) rfl ?_
      exact ⟨rfl, Below.refl _ _⟩
    · have k2 : 8 < kind := by omega
      clear hm hl hk
      go_enter Tryz.func106, Tryz.ntmps106
      go_wp2
      refine bodyPost_ret (results_tmp2 rfl _ _ _) rfl ?_
      exact ⟨rfl, Below.refl _ _⟩

end Go.Proofs.YtpkeikbiblfidaaGreatDoor

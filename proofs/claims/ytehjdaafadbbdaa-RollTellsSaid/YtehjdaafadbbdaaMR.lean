/-
  Texts put together: R1, R2, R3.
-/
import Derived.Test.YtehjdaafadbbdaaA2
import Derived.Test.YtehjdaafadbbdaaMK
import Derived.Test.YtehjdaafadbbdaaMF
import Derived.Test.YtehjdaafadbbdaaR0
import Derived.Laws.IdiomStrings
/-
  Contracts of the reference's Text and of seal.
-/
namespace Go.Proofs.Ytehjdaafadbbdaa
open Go.RowKit
set_option linter.unusedVariables false
set_option linter.unusedSimpArgs false

theorem bytesRow_at' (s : ByteArray) (c i : Nat) (h : i < s.size) : (bytesRow s c)[i]? = some (.int .u8 (((s.data.toList)[i]?.getD 0).toNat : Int)) := by
  have h' : i < s.data.size := h
  simp [bytesRow, Array.getElem?_append, h', Array.getElem?_eq_getElem h']
  omega

/-- '[]byte(s)': the new row reads as the text's bytes. -/
theorem cv_rd (s : ByteArray) (hs : s.size ≤ 140737488355328) (w : World) : ∃ c w', (convert 9 81 (.string s)).run Try.prog w = .ok (.slice (some ⟨w.heap.size, 0, none⟩) s.size c) w' ∧
    Rd w' (some ⟨w.heap.size, 0, none⟩) s.size c s.data.toList ∧ Below w.heap.size w w' := by
  refine ⟨_, _, run_bytes_of_string w 9 81 5 s Try.underlying9 Try.underlying81 Try.underlying5, ?_, ((Below.refl _ _).drew).alloc (Nat.le_refl _) _⟩
  refine ⟨rfl, grownCap_ge _ _ _ _, hs, grownCap_le_maxLen _ _ _ _ (by unfold maxLen; omega), fun _ => ⟨_, _, rfl, by simp, fun i hi => ?_⟩, fun e => by cases e⟩
  have := World.cell?_alloc_mark w.drew (bytesRow s (grownCap w s.size 0 5)) 5 ((bytesRow s (grownCap w s.size 0 5)).size, (bytesRow s (grownCap w s.size 0 5)).size + 1) (0 + i)
  refine this.trans ?_
  rw [Nat.zero_add]
  exact bytesRow_at' s _ i hi

theorem cv_str (xs : List UInt8) (hs : xs.length ≤ 140737488355328) (w : World) : ∃ c w', (convert 9 81 (strV xs)).run Try.prog w = .ok (.slice (some ⟨w.heap.size, 0, none⟩) xs.length c) w' ∧
    Rd w' (some ⟨w.heap.size, 0, none⟩) xs.length c xs ∧ Below w.heap.size w w' := by
  have := cv_rd ⟨xs.toArray⟩ (by simpa [ByteArray.size] using hs) w
  simpa [ByteArray.size, strV] using this


set_option maxRecDepth 20000 in
set_option maxHeartbeats 1000000 in
theorem seal_any (xs : List UInt8) (w : World) (hx : xs.length ≤ 1000000) :
    Calls Try.prog 79 #[strV xs] w fun e w' => e = .returned (strV (sealL xs)) ∧ Below w.heap.size w w' := by
  obtain ⟨c, w1, hcv, hrd, hb1⟩ := cv_str xs (by omega) w
  obtain ⟨g, hg⟩ : ∃ g, g = w.heap.size := ⟨_, rfl⟩
  rw [← hg] at hcv hrd
  have hs := sum_any _ _ _ _ w1 hrd
  have hn := addN_lt 0 xs
  have hse : sealL xs = xs ++ enc (addN 0 xs) 4 := rfl
  rw [hse]
  generalize addN 0 xs = n at *
  have hp := fun w' (h : Below w1.heap.size w1 w') => put_ok _ _ _ xs 4 n w' (hrd.later h) (by omega) (by omega) (by omega) (by omega)
  obtain ⟨V, hV⟩ : ∃ V, V = strV xs := ⟨_, rfl⟩
  rw [← hV] at hcv ⊢
  obtain ⟨R, hR⟩ : ∃ R, R = strV (xs ++ enc n 4) := ⟨_, rfl⟩
  rw [← hR]
  have HP := Lib.hid hp
  have HB := Lib.hid hb1
  have HR := Lib.hid hR
  have n1 : (0 : Int) ≤ (n : Int) := by omega
  have n2 : (n : Int) < 4294967296 := by omega
  clear hp hb1 hrd hR hse hV hg
  generalize hl : xs.length = l at *
  go_enter Try.func79, Try.ntmps79
  go_wp2_with fail
  refine hs.mono ?_
  rintro e w2 ⟨rfl, hb2⟩
  have h3 := HP.out w2 hb2
  have HB2 := Lib.hid (HB.out.trans (hb2.mono HB.out.size))
  clear hs hb2 HP hcv
  go_wp2_with fail
  refine h3.mono ?_
  rintro e w3 ⟨g3, c3, rfl, -, hrd3, hb3⟩
  have hc3 := rd_string hrd3
  change _ = Result.ok (strV (xs ++ enc n 4)) w3 at hc3
  rw [← HR.out] at hc3
  have hB3 := HB2.out.trans (hb3.mono HB2.out.size)
  clear h3 hrd3 hb3
  go_wp2
  go_ret
  exact ⟨rfl, hB3⟩

end Go.Proofs.Ytehjdaafadbbdaa
/-
  Contract of the program's Make; parts of texts.
-/
namespace Go.Proofs.Ytehjdaafadbbdaa
open Go.RowKit
set_option linter.unusedVariables false
set_option linter.unusedSimpArgs false

def tupV (p : List UInt8 × Nat) : Value := .tuple #[strV p.1, .int .i64 (p.2 : Int)]

theorem ext_list (xs : List UInt8) (i j : Nat) : (⟨xs.toArray⟩ : ByteArray).extract i j = ⟨((xs.take j).drop i).toArray⟩ := by
  apply ByteArray.ext
  rw [ByteArray.data_extract]
  apply Array.toList_inj.mp
  rw [Array.toList_extract]
  show List.take (j - i) (List.drop i xs) = List.drop i (List.take j xs)
  rw [List.drop_take]

theorem cut_to (xs : List UInt8) (j : Nat) (h : j ≤ xs.length) (w : World) : (Instr.sliceAt 9 (strV xs) none (some (.int .i64 (j : Int))) none).run Try.prog w = .ok (strV (xs.take j)) w := by
  unfold strV
  rw [run_sliceAt_string _ _ _ _ _ _ Try.underlying9, run_slice_string_h w 9 _ Try.underlying9 .i64 (j : Int) (by omega) (by simpa [ByteArray.size] using h), ext_list]
  rfl
theorem cut_from (xs : List UInt8) (i : Nat) (h : i ≤ xs.length) (w : World) : (Instr.sliceAt 9 (strV xs) (some (.int .i64 (i : Int))) none none).run Try.prog w = .ok (strV (xs.drop i)) w := by
  unfold strV
  rw [run_sliceAt_string _ _ _ _ _ _ Try.underlying9, run_slice_string_l w 9 _ Try.underlying9 .i64 (i : Int) (by omega) (by simpa [ByteArray.size] using h), ext_list]
  simp [ByteArray.size]
theorem cut_both (xs : List UInt8) (i j : Nat) (hi : i ≤ j) (h : j ≤ xs.length) (w : World) : (Instr.sliceAt 9 (strV xs) (some (.int .i64 (i : Int))) (some (.int .i64 (j : Int))) none).run Try.prog w = .ok (strV ((xs.take j).drop i)) w := by
  unfold strV
  rw [run_sliceAt_string _ _ _ _ _ _ Try.underlying9, run_slice_string _ 9 _ .i64 .i64 (i : Int) (j : Int) Try.underlying9 (by omega) (by omega) (by simpa [ByteArray.size] using h), ext_list]
  rfl

theorem enc_one (k : Nat) : enc k 1 = [UInt8.ofNat k] := by simp [enc, byteAt]

theorem pad_pre (k : Nat) (b : List UInt8) (h : b.length ≤ 58) : (padL (UInt8.ofNat k :: UInt8.ofNat b.length :: b)).take 60 = pre60 k b := by
  unfold padL pre60
  have e : (64 - (UInt8.ofNat k :: UInt8.ofNat b.length :: b).length) = (58 - b.length) + 4 := by simp; omega
  rw [e, ← List.replicate_append_replicate, ← List.append_assoc, List.take_append_of_le_length (by simp; omega), List.take_of_length_le (by simp; omega)]
  rfl

set_option maxRecDepth 20000 in
set_option maxHeartbeats 400000 in
theorem isKind_any (n : Int) (w : World) :
    Calls Try.prog 77 #[.int .i64 n] w fun e w' => e = .returned (.bool (decide (1 ≤ n ∧ n ≤ 8))) ∧ w' = w := by
  go_enter Try.func77, Try.ntmps77
  go_wp2
  all_goals go_ret
  all_goals refine ⟨?_, rfl⟩
  · rename_i h
    by_cases h2 : n ≤ 8 <;> simp [h, h2]
  · rename_i h
    have : ¬ (1 ≤ n) := by omega
    simp [this]

set_option maxRecDepth 20000 in
set_option maxHeartbeats 2000000 in
theorem make_any (kind : Int) (s : ByteArray) (w : World) (hs : s.size ≤ 9223372036854775807) :
    Calls Try.prog 65 #[.int .i64 kind, .string s] w fun e w' => e = .returned (tupV (makeP kind s.data.toList)) ∧ Below w.heap.size w w' := by
  have hik := isKind_any kind
  have hl : s.data.toList.length = s.size := rfl
  unfold tupV
  by_cases hk : 1 ≤ kind ∧ kind ≤ 8
  · rw [show decide (1 ≤ kind ∧ kind ≤ 8) = true from by simpa using hk] at hik
    by_cases hlen : s.size ≤ 58
    · obtain ⟨k1, k2⟩ := hk
      obtain ⟨k, rfl⟩ : ∃ k : Nat, kind = k := ⟨kind.toNat, by omega⟩
      have hm : makeP (k : Int) s.data.toList = (sealL (pre60 k s.data.toList), 0) := by
        unfold makeP
        rw [if_neg (by omega), if_neg (by rw [hl]; omega)]
        rfl
      rw [hm]
      dsimp only
      have hp1 := put_ok none 0 0 [] 1 k
      simp only [Nat.zero_add, List.nil_append, enc_one] at hp1
      have hp2 := fun g c (w' : World) (h : Rd w' (some ⟨g, 0, none⟩) 1 c [UInt8.ofNat k]) => put_ok (some ⟨g, 0, none⟩) 1 c [UInt8.ofNat k] 1 s.size w' h (by omega) (by omega) (by omega) (by omega)
      simp only [enc_one, List.cons_append, List.nil_append] at hp2
      have ha := add_texts [UInt8.ofNat k, UInt8.ofNat s.size] s.data.toList (by rw [hl]; simp; omega)
      rw [strV_self] at ha
      simp only [List.cons_append, List.nil_append] at ha
      have hpd := pad_any ⟨(UInt8.ofNat k :: UInt8.ofNat s.size :: s.data.toList).toArray⟩
      have hpp : padV ⟨(UInt8.ofNat k :: UInt8.ofNat s.size :: s.data.toList).toArray⟩ = .tuple #[strV (padL (UInt8.ofNat k :: UInt8.ofNat s.size :: s.data.toList)), .int .i64 0] := by
        unfold padV
        rw [if_pos (by show (List.toArray (UInt8.ofNat k :: UInt8.ofNat s.size :: s.data.toList)).size ≤ 64; rw [List.size_toArray, List.length_cons, List.length_cons, hl]; omega)]
      rw [hpp] at hpd
      change ∀ w, Calls Try.prog _ #[strV (UInt8.ofNat k :: UInt8.ofNat s.size :: s.data.toList)] w _ at hpd
      have hpl : (padL (UInt8.ofNat k :: UInt8.ofNat s.size :: s.data.toList)).length = 64 := by
        unfold padL
        rw [List.length_append, List.length_replicate, List.length_cons, List.length_cons, hl]
        omega
      have hc := fun w => cut_to (padL (UInt8.ofNat k :: UInt8.ofNat s.size :: s.data.toList)) 60 (by rw [hpl]; omega) w
      rw [show (padL (UInt8.ofNat k :: UInt8.ofNat s.size :: s.data.toList)).take 60 = pre60 k s.data.toList from pad_pre k s.data.toList (by rw [hl]; exact hlen)] at hc
      have hse := fun w => seal_any (pre60 k s.data.toList) w (by rw [pre60_length _ _ (by rw [hl]; exact hlen)]; omega)
      obtain ⟨V1, hV1⟩ : ∃ V, V = strV [UInt8.ofNat k, UInt8.ofNat s.size] := ⟨_, rfl⟩
      obtain ⟨V2, hV2⟩ : ∃ V, V = strV (UInt8.ofNat k :: UInt8.ofNat s.size :: s.data.toList) := ⟨_, rfl⟩
      obtain ⟨V3, hV3⟩ : ∃ V, V = strV (padL (UInt8.ofNat k :: UInt8.ofNat s.size :: s.data.toList)) := ⟨_, rfl⟩
      obtain ⟨V4, hV4⟩ : ∃ V, V = strV (pre60 k s.data.toList) := ⟨_, rfl⟩
      obtain ⟨V5, hV5⟩ : ∃ V, V = strV (sealL (pre60 k s.data.toList)) := ⟨_, rfl⟩
      rw [← hV1, ← hV2] at ha
      rw [← hV2, ← hV3] at hpd
      simp only [← hV3, ← hV4] at hc
      simp only [← hV4, ← hV5] at hse
      rw [← hV5]
      have HV1 := Lib.hid hV1
      have HP1 := Lib.hid hp1
      have HP2 := Lib.hid hp2
      have HPD := Lib.hid hpd
      have HSE := Lib.hid hse
      have hcc : ∀ w, (Instr.sliceAt 9 V3 none (some (.int .i64 60)) none).run Try.prog w = .ok V4 w := hc
      clear hV1 hV2 hV3 hV4 hV5 hp1 hp2 hpd hse hpp hpl hm hc hl
      go_enter Try.func65, Try.ntmps65
      go_wp2_with fail
      refine (hik _).mono ?_
      rintro e w1 ⟨rfl, hw⟩
      obtain rfl := hw.symm
      clear hw hik
      go_wp2_with fail
      refine (HP1.out w (rd_nil w) (by omega) (by omega) (by omega) (by omega)).mono ?_
      rintro e w1 ⟨g1, c1, rfl, -, hrd1, hb1⟩
      have HB1 := Lib.hid hb1
      have h2 := HP2.out g1 c1 w1 hrd1
      clear hb1 hrd1 HP1 HP2
      go_wp2_with fail
      refine h2.mono ?_
      rintro e w2 ⟨g2, c2, rfl, -, hrd2, hb2⟩
      have HB2 := Lib.hid (HB1.out.trans (hb2.mono HB1.out.size))
      have hcv := rd_string hrd2
      change _ = Result.ok (strV [UInt8.ofNat k, UInt8.ofNat s.size]) w2 at hcv
      rw [← HV1.out] at hcv
      clear hb2 hrd2 h2 HB1
      go_wp2_with fail
      refine (HPD.out _).mono ?_
      rintro e w3 ⟨rfl, hb3⟩
      have HB3 := Lib.hid (HB2.out.trans (hb3.mono HB2.out.size))
      clear hb3 hcv HB2
      go_wp2_with fail
      refine (HSE.out _).mono ?_
      rintro e w4 ⟨rfl, hb4⟩
      have hB4 := HB3.out.trans (hb4.mono HB3.out.size)
      clear hb4 HB3
      go_wp2
      refine bodyPost_ret (results_tmp2 rfl _ _ _) rfl ?_
      exact ⟨rfl, hB4⟩
    · have hm : makeP kind s.data.toList = ([], 8) := by
        unfold makeP
        rw [if_neg (by omega), if_pos (by rw [hl]; omega)]
      rw [hm]
      have i2 : (58 : Int) < (s.size : Int) := by omega
      clear hm hl hlen
      go_enter Try.func65, Try.ntmps65
      go_wp2_with fail
      refine (hik _).mono ?_
      rintro e w1 ⟨rfl, hw⟩
      obtain rfl := hw.symm
      clear hw hik
      go_wp2
      refine bodyPost_ret (results_tmp2 rfl _ _ _) rfl ?_
      exact ⟨rfl, Below.refl _ _⟩
  · rw [show decide (1 ≤ kind ∧ kind ≤ 8) = false from by rw [decide_eq_false_iff_not]; exact hk] at hik
    have hm : makeP kind s.data.toList = ([], 22) := by
      unfold makeP
      rw [if_pos (by omega)]
    rw [hm]
    clear hm hl hk
    go_enter Try.func65, Try.ntmps65
    go_wp2_with fail
    refine (hik _).mono ?_
    rintro e w1 ⟨rfl, hw⟩
    obtain rfl := hw.symm
    clear hw hik
    go_wp2
    refine bodyPost_ret (results_tmp2 rfl _ _ _) rfl ?_
    exact ⟨rfl, Below.refl _ _⟩

end Go.Proofs.Ytehjdaafadbbdaa
/-
  Contract of the reference's Make.
-/
namespace Go.Proofs.Ytehjdaafadbbdaa
open Go.RowKit
set_option linter.unusedVariables false
set_option linter.unusedSimpArgs false

theorem len_str (xs : List UInt8) (w : World) : (Builtin.len_ #[9] 3 #[strV xs]).run Try.prog w = .ok (.int .i64 (xs.length : Int)) w := by
  unfold strV
  have : (⟨xs.toArray⟩ : ByteArray).size = xs.length := by show (List.toArray xs).size = _; simp
  rw [← this]
  generalize (⟨xs.toArray⟩ : ByteArray) = s
  go_simp

theorem sec_mid (k : Nat) (h : k ≤ 60) (w : World) : (Instr.sliceAt 9 (.string (secOf 0)) (some (.int .i64 (k : Int))) (some (.int .i64 60)) none).run Try.prog w = .ok (strV (List.replicate (60 - k) 0)) w := by
  have e : (.string (secOf 0) : Value) = strV (List.replicate 64 0) := rfl
  rw [e]
  have := cut_both (List.replicate 64 0) k 60 h (by simp) w
  rw [List.take_replicate, List.drop_replicate] at this
  exact this


end Go.Proofs.Ytehjdaafadbbdaa

/-
  The fixed calls; the walks of SectorMakes and SectorDiffers.
-/
import Derived.Test.YtgblhcikffecfaaDoorFL
import Derived.Test.YtgblhcikffecfaaDoorFD
namespace Go.Proofs.YtgblhcikffecfaaDoor
open Go.RowKit Go.Shelf
set_option linter.unusedVariables false
set_option linter.unusedSimpArgs false

theorem eql_same (s : ByteArray) (w : World) : (binOp .eql 9 (.string s) (.string s)).run Tryd.prog w = .ok (.bool true) w := by simp [go_sem]
theorem guard_text (op : BinOp) (x y : Operand) (u s : ByteArray) (w : World) : Sem.run Tryd.prog (eqGuard op 9 x y (.string u) (.string s)) w = .ok () w := by
  unfold eqGuard
  cases op <;> rfl

theorem short_five : shortV (secOf 5) = .string ⟨#[48, 53, 42, 54, 52]⟩ := by
  unfold shortV
  rw [if_pos (secOf_size 5)]
  have e : (rs (secOf 5).data.toList 64).1 = [mkR 5 64] := by decide +kernel
  rw [e, txt_one, (mkR_val 5 64 (by omega) (by omega)).1, (mkR_val 5 64 (by omega) (by omega)).2]
  unfold spellL
  rw [if_pos (by omega), dec_two 64 (by omega) (by omega)]
  have e2 : [hx (5 / 16), hx (5 % 16)] ++ [42, UInt8.ofNat (48 + 64 / 10), UInt8.ofNat (48 + 64 % 10)] = [48, 53, 42, 54, 52] := by decide +kernel
  rw [e2]
  rfl
theorem short_fix : shortV ⟨fixS.toArray⟩ = .string fixT := (shortV_form (by decide +kernel)).2 fix_form

set_option maxRecDepth 20000 in
set_option maxHeartbeats 2000000 in
theorem known_any (m : Int) (w : World) (hm : w.cell? ⟨0, 0, none⟩ = some (.int .i64 m)) (h0 : 0 < w.heap.size) :
    Calls Tryd.prog 16 #[] w fun e w' => e = .returned (.bool true) ∧ Below w.heap.size w w' := by
  have h1 := pad_any ⟨#[97]⟩ w
  have h2 := fun w' (hb : Below w.heap.size w w') => fix_long m w' ((hb.cell (p := ⟨0, 0, none⟩) h0).trans hm) (Nat.lt_of_lt_of_le h0 hb.size)
  have h3 := fun w => fill_any 5 5 rfl w
  have h4 := fun w => short_any (secOf 5) w
  have h5 := fun w => short_any ⟨fixS.toArray⟩ w
  rw [show padV ⟨#[97]⟩ = .tuple #[strV fixS, .int .i64 0] from rfl] at h1
  rw [short_five] at h4
  rw [short_fix] at h5
  have q1 := eql_same ⟨fixS.toArray⟩
  have q2 := fun op x y => guard_text op x y ⟨fixS.toArray⟩ ⟨fixS.toArray⟩
  obtain ⟨V, hV⟩ : ∃ V, V = strV fixS := ⟨_, rfl⟩
  obtain ⟨V5, hV5⟩ : ∃ V, V = (.string (secOf 5) : Value) := ⟨_, rfl⟩
  have hV' : (.string ⟨fixS.toArray⟩ : Value) = V := hV.symm
  rw [← hV] at h1
  simp only [← hV] at h2
  simp only [← hV5] at h3 h4
  simp only [hV'] at h5 q1 q2
  unfold fixT at h2 h5
  have H1 := Lib.hid h1
  have H2 := Lib.hid h2
  have H3 := Lib.hid h3
  have H4 := Lib.hid h4
  have H5 := Lib.hid h5
  clear h1 h2 h3 h4 h5 hV hV5 hV' hm
  go_enter Tryd.func16, Tryd.ntmps16
  go_wp2_with fail
  refine H1.out.mono ?_
  rintro e w1 ⟨rfl, hb⟩
  have HB1 := Lib.hid hb
  clear hb
  go_wp2_with fail
  refine (H2.out _ HB1.out).mono ?_
  rintro e w2 ⟨rfl, hb⟩
  have HB2 := Lib.hid (HB1.out.trans (hb.mono HB1.out.size))
  clear hb
  go_wp2_with fail
  refine (H3.out _).mono ?_
  rintro e w3 ⟨rfl, hb⟩
  have HB3 := Lib.hid (HB2.out.trans (hb.mono HB2.out.size))
  clear hb
  go_wp2_with fail
  refine (H4.out _).mono ?_
  rintro e w4 ⟨rfl, hb⟩
  have HB4 := Lib.hid (HB3.out.trans (hb.mono HB3.out.size))
  clear hb
  go_wp2_with fail
  refine (H5.out _).mono ?_
  rintro e w5 ⟨rfl, hb⟩
  have hB5 := HB4.out.trans (hb.mono HB4.out.size)
  clear hb
  go_wp2
  go_ret
  exact ⟨rfl, hB5⟩

set_option maxRecDepth 20000 in
set_option maxHeartbeats 2000000 in
theorem differs_walk (a b : ByteArray) (m : Int) (w : World) (hm : w.cell? ⟨0, 0, none⟩ = some (.int .i64 m)) (h0 : 0 < w.heap.size) (ha : a.size ≤ 9223372036854775807) (hb : b.size ≤ 9223372036854775807) :
    Calls Tryd.prog 4 #[.string a, .string b] w fun e w' => e = .returned (.bool true) ∧ Below w.heap.size w w' := by
  have h1 := differ_any a b w ha hb
  have h2 := fun w => rdiffer_any a b w ha hb
  unfold differ at h1 h2
  generalize (cnt a.data.toList b.data.toList (max a.size b.size)).1 = n1 at h1 h2
  generalize (cnt a.data.toList b.data.toList (max a.size b.size)).2 = n2 at h1 h2
  have h3 := fun w' (hb : Below w.heap.size w w') => known_any m w' ((hb.cell (p := ⟨0, 0, none⟩) h0).trans hm) (Nat.lt_of_lt_of_le h0 hb.size)
  have H1 := Lib.hid h1
  have H2 := Lib.hid h2
  have H3 := Lib.hid h3
  clear h1 h2 h3 hm ha hb
  go_enter Tryd.func4, Tryd.ntmps4
  go_wp2_with fail
  refine H1.out.mono ?_
  rintro e w1 ⟨rfl, hb⟩
  have HB1 := Lib.hid hb
  clear hb
  go_wp2_with fail
  refine (H2.out _).mono ?_
  rintro e w2 ⟨rfl, hb⟩
  have HB2 := Lib.hid (HB1.out.trans (hb.mono HB1.out.size))
  clear hb
  go_wp2_with fail
  refine (H3.out _ HB2.out).mono ?_
  rintro e w3 ⟨rfl, hb⟩
  have hB3 := HB2.out.trans (hb.mono HB2.out.size)
  clear hb
  go_wp2
  go_ret
  exact ⟨rfl, hB3⟩

set_option maxRecDepth 20000 in
set_option maxHeartbeats 2000000 in
theorem makes_walk (c : Nat) (n : Nat) (s : ByteArray) (m : Int) (w : World) (hc : c < 256) (hn : n < 18446744073709551616) (hm : w.cell? ⟨0, 0, none⟩ = some (.int .i64 m)) (h0 : 0 < w.heap.size) :
    Calls Tryd.prog 3 #[.int .u8 (c : Int), .int .u64 (n : Int), .string s] w fun e w' => e = .returned (.bool true) ∧ Below w.heap.size w w' := by
  have h1 := pad_any s w
  have h2 := fun w => rpad_any s w
  have h3 := fun w => zero_any w
  have h4 := fun w => rzero_any w
  have h5 := fun w => fill_any (c : Int) (UInt8.ofNat c) (by simp; omega) w
  have h6 := fun w => rfill_any (c : Int) (UInt8.ofNat c) (by simp; omega) w
  have h7 := fun w => mix_any n hn w
  have h8 := fun w => rmix_any n hn w
  have h9 := fun w => right_any s w
  have hA := fun w => rright_any s w
  have hB := fun w' (hb : Below w.heap.size w w') => known_any m w' ((hb.cell (p := ⟨0, 0, none⟩) h0).trans hm) (Nat.lt_of_lt_of_le h0 hb.size)
  obtain ⟨p, e, hp⟩ : ∃ (p : ByteArray) (e : Nat), padV s = .tuple #[.string p, .int .i64 (e : Int)] := by
    unfold padV
    by_cases hs : s.size ≤ 64
    · rw [if_pos hs]; exact ⟨_, 0, rfl⟩
    · rw [if_neg hs]; exact ⟨_, 4, rfl⟩
  rw [hp] at h1 h2
  have q1 := eql_same p
  have q2 := fun op x y => guard_text op x y p p
  have q3 := eql_same (secOf 0)
  have q4 := fun op x y => guard_text op x y (secOf 0) (secOf 0)
  have q5 := eql_same (secOf (UInt8.ofNat c))
  have q6 := fun op x y => guard_text op x y (secOf (UInt8.ofNat c)) (secOf (UInt8.ofNat c))
  have q7 := eql_same ⟨(mixL n).toArray⟩
  have q8 := fun op x y => guard_text op x y ⟨(mixL n).toArray⟩ ⟨(mixL n).toArray⟩
  obtain ⟨V, hV⟩ : ∃ V, V = Value.string p := ⟨_, rfl⟩
  obtain ⟨V0, hV0⟩ : ∃ V, V = Value.string (secOf 0) := ⟨_, rfl⟩
  obtain ⟨VC, hVC⟩ : ∃ V, V = Value.string (secOf (UInt8.ofNat c)) := ⟨_, rfl⟩
  obtain ⟨VM, hVM⟩ : ∃ V, V = strV (mixL n) := ⟨_, rfl⟩
  have hVM' : (.string ⟨(mixL n).toArray⟩ : Value) = VM := hVM.symm
  simp only [← hV] at h1 h2 q1 q2
  simp only [← hV0] at h3 h4 q3 q4
  simp only [← hVC] at h5 h6 q5 q6
  simp only [← hVM] at h7 h8
  simp only [hVM'] at q7 q8
  have H1 := Lib.hid h1
  have H2 := Lib.hid h2
  have H3 := Lib.hid h3
  have H4 := Lib.hid h4
  have H5 := Lib.hid h5
  have H6 := Lib.hid h6
  have H7 := Lib.hid h7
  have H8 := Lib.hid h8
  have H9 := Lib.hid h9
  have HA := Lib.hid hA
  have HK := Lib.hid hB
  clear h1 h2 h3 h4 h5 h6 h7 h8 h9 hA hB hV hV0 hVC hVM hVM' hp hm hc hn
  generalize decide (s.size = 64) = rb at *
  generalize Value.string s = VS at *
  go_enter Tryd.func3, Tryd.ntmps3
  go_wp2_with fail
  refine H1.out.mono ?_
  rintro r w1 ⟨rfl, hb⟩
  have HB1 := Lib.hid hb
  clear hb
  go_wp2_with fail
  refine (H2.out _).mono ?_
  rintro r w2 ⟨rfl, hb⟩
  have HB2 := Lib.hid (HB1.out.trans (hb.mono HB1.out.size))
  clear hb
  go_wp2_with fail
  refine (H3.out _).mono ?_
  rintro r w3 ⟨rfl, hb⟩
  have HB3 := Lib.hid (HB2.out.trans (hb.mono HB2.out.size))
  clear hb
  go_wp2_with fail
  refine (H4.out _).mono ?_
  rintro r w4 ⟨rfl, hb⟩
  have HB4 := Lib.hid (HB3.out.trans (hb.mono HB3.out.size))
  clear hb
  go_wp2_with fail
  refine (H5.out _).mono ?_
  rintro r w5 ⟨rfl, hb⟩
  have HB5 := Lib.hid (HB4.out.trans (hb.mono HB4.out.size))
  clear hb
  go_wp2_with fail
  refine (H6.out _).mono ?_
  rintro r w6 ⟨rfl, hb⟩
  have HB6 := Lib.hid (HB5.out.trans (hb.mono HB5.out.size))
  clear hb
  go_wp2_with fail
  refine (H7.out _).mono ?_
  rintro r w7 ⟨rfl, hb⟩
  have HB7 := Lib.hid (HB6.out.trans (hb.mono HB6.out.size))
  clear hb
  go_wp2_with fail
  refine (H8.out _).mono ?_
  rintro r w8 ⟨rfl, hb⟩
  have HB8 := Lib.hid (HB7.out.trans (hb.mono HB7.out.size))
  clear hb
  go_wp2_with fail
  refine (H9.out _).mono ?_
  rintro r w9 ⟨rfl, hw⟩
  obtain rfl := hw.symm
  clear hw
  go_wp2_with fail
  refine (HA.out _).mono ?_
  rintro r w9 ⟨rfl, hw⟩
  obtain rfl := hw.symm
  clear hw
  go_wp2_with fail
  refine (HK.out _ HB8.out).mono ?_
  rintro r w9 ⟨rfl, hb⟩
  have hB9 := HB8.out.trans (hb.mono HB8.out.size)
  clear hb
  go_wp2
  go_ret
  exact ⟨rfl, hB9⟩
end Go.Proofs.YtgblhcikffecfaaDoor

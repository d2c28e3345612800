/-
  Contracts: the reference's Text; both Mix.
-/
import Derived.Test.YtgblhcikffecfaaDoorFC
import Derived.Test.YtgblhcikffecfaaDoorA2
namespace Go.Proofs.YtgblhcikffecfaaDoor
open Go.RowKit Go.Shelf
set_option linter.unusedVariables false
set_option linter.unusedSimpArgs false

set_option maxRecDepth 20000 in
set_option maxHeartbeats 1000000 in
theorem text_any (wd v : Nat) (w : World) (h1 : 1 ≤ wd) (h2 : wd ≤ 8) (hv : v < 18446744073709551616) :
    Calls Tryd.prog 26 #[.int .i64 (wd : Int), .int .u64 (v : Int)] w fun e w' => e = .returned (strV (enc v wd)) ∧ Below w.heap.size w w' := by
  have hp := rput_ok none 0 0 [] wd v w (rd_nil w) h1 h2 hv (by omega)
  simp only [Nat.zero_add, List.nil_append] at hp
  obtain ⟨V, hV⟩ : ∃ V, V = strV (enc v wd) := ⟨_, rfl⟩
  rw [← hV]
  have HV := Lib.hid hV
  clear hV
  go_enter Tryd.func26, Tryd.ntmps26
  go_wp2_with fail
  refine hp.mono ?_
  rintro e w1 ⟨a', c, rfl, hrd, hb⟩
  have hcv := rd_string hrd
  change _ = Result.ok (strV (enc v wd)) w1 at hcv
  rw [← HV.out] at hcv
  clear hp hv h1 h2
  go_wp2
  go_ret
  exact ⟨rfl, hb⟩

/-- The bytes of a number again and again. -/
def mixL (n : Nat) : List UInt8 := Lib.repeatL (enc n 8) 8

set_option maxHeartbeats 1000000 in
theorem mix_any (n : Nat) (hn : n < 18446744073709551616) (w : World) :
    Calls Tryd.prog 12 #[.int .u64 n] w fun e w' => e = .returned (strV (mixL n)) ∧ Below w.heap.size w w' := by
  have hp := put_ok none 0 0 [] 8 n w (rd_nil w) (by omega) (by omega) hn (by omega)
  simp only [Nat.zero_add, List.nil_append] at hp
  have hsz : (⟨(enc n 8).toArray⟩ : ByteArray).size = 8 := by show (List.toArray (enc n 8)).size = 8; rw [List.size_toArray, enc_length]
  have hr := fun w => Tryd.strings_Repeat_main ⟨(enc n 8).toArray⟩ 8 w (by omega) (by omega) (by rw [hsz]; omega) (by rw [hsz]; omega)
  have hr' : ∀ w, Calls Tryd.prog 24 #[strV (enc n 8), .int .i64 8] w fun e w' => e = .returned (strV (mixL n)) ∧ Below w.heap.size w w' := hr
  obtain ⟨V, hV⟩ : ∃ V, V = strV (enc n 8) := ⟨_, rfl⟩
  rw [← hV] at hr'
  have HV := Lib.hid hV
  have HR := Lib.hid hr'
  have HP := Lib.hid hp
  clear hV hr hr' hsz hp
  go_enter Tryd.func12, Tryd.ntmps12
  go_wp2_with fail
  refine HP.out.mono ?_
  rintro e w1 ⟨g, c, rfl, -, hrd, hb⟩
  have hcv := rd_string hrd
  change _ = Result.ok (strV (enc n 8)) w1 at hcv
  rw [← HV.out] at hcv
  have HB := Lib.hid hb
  clear hrd hb
  go_wp2_with fail
  refine (HR.out _).mono ?_
  rintro e w2 ⟨rfl, hb⟩
  have hB2 := HB.out.trans (hb.mono HB.out.size)
  clear hb
  go_wp2
  go_ret
  exact ⟨rfl, hB2⟩

theorem rep_next (xs : List UInt8) : ∀ k, Lib.repeatL xs (k + 1) = Lib.repeatL xs k ++ xs
  | 0 => by simp [Lib.repeatL]
  | k + 1 => by
    show xs ++ Lib.repeatL xs (k + 1) = (xs ++ Lib.repeatL xs k) ++ xs
    rw [rep_next xs k, List.append_assoc]
theorem rep_len (xs : List UInt8) (k : Nat) : (Lib.repeatL xs k).length = k * xs.length := Lib.repeatL_length xs k

set_option maxHeartbeats 1000000 in
theorem rmix_any (n : Nat) (hn : n < 18446744073709551616) (w : World) :
    Calls Tryd.prog 13 #[.int .u64 n] w fun e w' => e = .returned (strV (mixL n)) ∧ Below w.heap.size w w' := by
  have ht := fun w => text_any 8 n w (by omega) (by omega) hn
  have HT := Lib.hid ht
  have HM := Lib.hid (show mixL n = Lib.repeatL (enc n 8) 8 from rfl)
  clear ht
  go_enter Tryd.func13, Tryd.ntmps13
  go_wp2
  go_loopw [3, 4] (fun o i wr => ∃ k : Nat, k ≤ 8 ∧ i = .int .i64 (k : Int) ∧ o = strV (Lib.repeatL (enc n 8) k) ∧ Below w.heap.size w wr) (fun _ i _ => 8 - (intOf i).toNat)
  case atStart => exact ⟨0, by omega, rfl, rfl, Below.refl _ _⟩
  case round =>
    obtain ⟨k, hk, rfl, rfl, hB⟩ := hrel
    by_cases hlt : k < 8
    · have ha := add_texts (Lib.repeatL (enc n 8) k) (enc n 8) (by rw [rep_len, enc_length]; omega)
      rw [← rep_next] at ha
      obtain ⟨V1, hV1⟩ : ∃ V, V = strV (Lib.repeatL (enc n 8) k) := ⟨_, rfl⟩
      obtain ⟨V2, hV2⟩ : ∃ V, V = strV (enc n 8) := ⟨_, rfl⟩
      obtain ⟨V3, hV3⟩ : ∃ V, V = strV (Lib.repeatL (enc n 8) (k + 1)) := ⟨_, rfl⟩
      have ht := HT.out
      simp only [← hV2] at ht
      simp only [← hV1, ← hV2, ← hV3] at ha
      rw [← hV1]
      have HV3 := Lib.hid hV3
      have HT2 := Lib.hid ht
      have HB := Lib.hid hB
      have HK := Lib.hid hlt
      have i1 : (k : Int) < 8 := by omega
      clear hV1 hV2 hV3 ht hB hk hlt
      go_wp2_with fail
      refine (HT2.out _).mono ?_
      rintro e w1 ⟨rfl, hb⟩
      have HB1 := Lib.hid (HB.out.trans (hb.mono HB.out.size))
      clear hb
      go_wp2
      refine ⟨⟨k + 1, by have := HK.out; omega, by go_num, HV3.out, HB1.out⟩, ?_⟩
      have := HK.out; simp [intOf]; omega
    · obtain rfl : k = 8 := by omega
      have HB := Lib.hid hB
      clear hB hk hlt
      go_wp2
      go_ret
      exact ⟨rfl, HB.out⟩

end Go.Proofs.YtgblhcikffecfaaDoor

/-
  Sets and back: bytes, lists.
-/
import Derived.Test.YtmkjfocdgceamaaIF
namespace Go.Proofs.Ytmkjfocdgceamaa
open Go.RowKit
set_option linter.unusedVariables false
set_option linter.unusedSimpArgs false

theorem enc_back (n k : Nat) (h : n < 256 ^ k) : numN (enc n k) = n := by rw [enc_num, Nat.mod_eq_of_lt h]
theorem byte_step (n x w : Nat) (hx : x < 256) : byteAt (n * 256 + x) (w + 1) = byteAt n w := by
  unfold byteAt
  rw [Nat.pow_succ', ← Nat.div_div_eq_div_mul, show (n * 256 + x) / 256 = n from by omega]
theorem enc_step (n x : Nat) (hx : x < 256) : ∀ w, enc (n * 256 + x) (w + 1) = enc n w ++ [UInt8.ofNat x]
  | 0 => by
    show [UInt8.ofNat ((n * 256 + x) / 256 ^ 0)] = [UInt8.ofNat x]
    rw [Nat.pow_zero, Nat.div_one]
    congr 1
    apply UInt8.toNat_inj.mp
    rw [UInt8.toNat_ofNat', UInt8.toNat_ofNat']
    omega
  | w + 1 => by
    have ih := enc_step n x hx w
    show byteAt (n * 256 + x) (w + 1) :: enc (n * 256 + x) (w + 1) = (byteAt n w :: enc n w) ++ [UInt8.ofNat x]
    rw [byte_step n x w hx, ih]; rfl
theorem enc_of : ∀ (w : Nat) (xs : List UInt8), xs.length = w → enc (numN xs) w = xs
  | 0, xs, h => by rw [List.eq_nil_of_length_eq_zero h]; rfl
  | w + 1, xs, h => by
    have hne : xs ≠ [] := fun e => by rw [e] at h; cases h
    have e := List.dropLast_concat_getLast hne
    have hl : xs.dropLast.length = w := by rw [List.length_dropLast]; omega
    have ih := enc_of w xs.dropLast hl
    rw [← e, numN_snoc, enc_step _ _ (UInt8.toNat_lt _), ih]
    simp

theorem from_set (a b : Nat) (ha : a < 18446744073709551616) (hb : b < 18446744073709551616) : fromV (setT a b) = .tuple #[setV a b, .int .i64 0] := by
  have e1 : (setT a b).take 8 = enc a 8 := by unfold setT; rw [List.take_append_of_le_length (by rw [enc_length]; omega), List.take_of_length_le (by rw [enc_length]; omega)]
  have e2 : (setT a b).drop 8 = enc b 8 := by unfold setT; rw [List.drop_append_of_le_length (by rw [enc_length]; omega), List.drop_of_length_le (by rw [enc_length]; omega)]; rfl
  unfold fromV fromP
  rw [if_pos (setT_length a b), e1, e2, enc_back a 8 ha, enc_back b 8 hb]; rfl
theorem set_text (xs : List UInt8) (h : xs.length = 16) : setT (numN (xs.take 8)) (numN (xs.drop 8)) = xs := by
  unfold setT
  rw [enc_of 8 (xs.take 8) (by rw [List.length_take]; omega), enc_of 8 (xs.drop 8) (by rw [List.length_drop]; omega), List.take_append_drop]

theorem st_bit (xs : List Int) (i : Nat) (hi : i < 128) : ∀ k, k ≤ xs.length → bitp (stA xs k) (stB xs k) i = decide ((i : Int) ∈ xs.take k)
  | 0, _ => by
    show bitp 0 0 i = _
    unfold bitp
    split <;> simp
  | k + 1, h => by
    have ih := st_bit xs i hi k (by omega)
    show bitp (stA xs k ||| oneA (xs[k]?.getD 0)) (stB xs k ||| oneB (xs[k]?.getD 0)) i = _
    rw [or_bit, ih, one_bit _ i hi, List.take_add_one, List.getElem?_eq_getElem (by omega : k < xs.length)]
    simp only [Option.getD_some, Option.toList_some, List.mem_append, List.mem_singleton]
    by_cases h1 : (i : Int) ∈ xs.take k
    · simp [h1]
    · simp [h1]
theorem of_list (a b : Nat) (ha : a < 18446744073709551616) (hb : b < 18446744073709551616) : ofV (listL (bitp a b) 128) = .tuple #[setV a b, .int .i64 0] := by
  have hok : okK (listL (bitp a b) 128) (listL (bitp a b) 128).length := fun i hi => by
    rw [List.getElem?_eq_getElem hi]
    have := (listL_mem (bitp a b) 128 _).1 (List.getElem_mem hi)
    obtain ⟨j, h1, _, h3⟩ := this
    simp only [Option.getD_some]
    rw [h3]
    omega
  have hbit : ∀ i, i < 128 → bitp (stA (listL (bitp a b) 128) (listL (bitp a b) 128).length) (stB (listL (bitp a b) 128) (listL (bitp a b) 128).length) i = bitp a b i := fun i hi => by
    rw [st_bit _ i hi _ (Nat.le_refl _), List.take_length]
    by_cases hf : bitp a b i = true
    · rw [hf]
      exact decide_eq_true ((listL_mem _ _ _).2 ⟨i, hi, hf, rfl⟩)
    · have hf' : bitp a b i = false := by simpa using hf
      rw [hf']
      apply decide_eq_false
      intro hm
      obtain ⟨j, h1, h2, h3⟩ := (listL_mem _ _ _).1 hm
      have : i = j := by omega
      rw [this, h2] at hf'
      cases hf'
  have h1 := set_of (stA_lt _ _) (stB_lt _ _) hbit
  have h2 := set_of ha hb (fun i _ => (rfl : bitp a b i = bitp a b i))
  unfold ofV ofP
  rw [if_pos hok]
  show Value.tuple #[setV _ _, .int .i64 0] = _
  rw [← h1.1, ← h1.2, h2.1, h2.2]
end Go.Proofs.Ytmkjfocdgceamaa

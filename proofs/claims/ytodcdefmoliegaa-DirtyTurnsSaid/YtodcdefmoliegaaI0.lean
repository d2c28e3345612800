/-
  Sets of the numbers from 0 to 127 as two words: bits, over Nat.
-/
import Derived.Test.YtodcdefmoliegaaB0
import Derived.Laws.BitsAllLaws
namespace Go.Proofs.Ytodcdefmoliegaa
open Go.RowKit
set_option linter.unusedVariables false
set_option linter.unusedSimpArgs false

/-- Whether i is there. -/
def bitp (a b : Nat) (i : Nat) : Bool := if i < 64 then a.testBit i else b.testBit (i - 64)
/-- The word of the first n truths. -/
def wordB (f : Nat → Bool) : Nat → Nat
  | 0 => 0
  | n + 1 => if f n then wordB f n + 2 ^ n else wordB f n
theorem wordB_lt (f : Nat → Bool) : ∀ n, wordB f n < 2 ^ n
  | 0 => by show 0 < 1; omega
  | n + 1 => by
    have := wordB_lt f n
    unfold wordB
    rw [Nat.pow_succ]
    split <;> omega
theorem wordB_bit (f : Nat → Bool) : ∀ n i, (wordB f n).testBit i = (decide (i < n) && f i)
  | 0, i => by simp [wordB]
  | n + 1, i => by
    have ih := wordB_bit f n i
    have hl := wordB_lt f n
    by_cases hf : f n = true
    · have e : wordB f (n + 1) = 2 ^ n * 1 + wordB f n := by show (if f n then _ else _) = _; rw [if_pos hf]; omega
      rw [e, Nat.testBit_two_pow_mul_add _ hl]
      by_cases hi : i < n
      · rw [if_pos hi, ih]
        simp [hi, Nat.lt_succ_of_lt hi]
      · rw [if_neg hi]
        by_cases he : i = n
        · subst he; simp [hf]
        · have h1 : ¬ i < n + 1 := by omega
          obtain ⟨d, hd⟩ : ∃ d, i - n = d + 1 := ⟨i - n - 1, by omega⟩
          rw [hd]
          simp [h1, Nat.testBit_succ]
    · have e : wordB f (n + 1) = wordB f n := by show (if f n then _ else _) = _; rw [if_neg hf]
      rw [e, ih]
      by_cases hi : i = n
      · subst hi; simp at hf; simp [hf]
      · have : decide (i < n + 1) = decide (i < n) := by rw [decide_eq_decide]; omega
        rw [this]
theorem word_eq {x : Nat} {f : Nat → Bool} (hx : x < 2 ^ 64) (h : ∀ i, i < 64 → x.testBit i = f i) : x = wordB f 64 := by
  apply Nat.eq_of_testBit_eq
  intro i
  rw [wordB_bit]
  by_cases hi : i < 64
  · rw [h i hi]; simp [hi]
  · have : x < 2 ^ i := Nat.lt_of_lt_of_le hx (Nat.pow_le_pow_right (by omega) (by omega))
    rw [Nat.testBit_lt_two_pow this]
    simp [hi]

def mkA (f : Nat → Bool) : Nat := wordB f 64
def mkB (f : Nat → Bool) : Nat := wordB (fun i => f (i + 64)) 64
theorem mkA_lt (f) : mkA f < 18446744073709551616 := wordB_lt f 64
theorem mkB_lt (f) : mkB f < 18446744073709551616 := wordB_lt _ 64
theorem bitp_mk (f : Nat → Bool) (i : Nat) (h : i < 128) : bitp (mkA f) (mkB f) i = f i := by
  unfold bitp mkA mkB
  by_cases hi : i < 64
  · rw [if_pos hi, wordB_bit]; simp [hi]
  · rw [if_neg hi, wordB_bit]
    have : i - 64 < 64 := by omega
    have e : i - 64 + 64 = i := by omega
    simp [this, e]
/-- A set as the program's value. -/
def setV (a b : Nat) : Value := .agg #[.int .u64 (a : Int), .int .u64 (b : Int)]
/-- The set of what f says. -/
def setF (f : Nat → Bool) : Value := setV (mkA f) (mkB f)
theorem set_of {a b : Nat} {f : Nat → Bool} (ha : a < 18446744073709551616) (hb : b < 18446744073709551616) (h : ∀ i, i < 128 → bitp a b i = f i) : mkA f = a ∧ mkB f = b := by
  refine ⟨(word_eq (by exact ha) fun i hi => ?_).symm, (word_eq (by exact hb) fun i hi => ?_).symm⟩
  · have := h i (by omega)
    unfold bitp at this
    rwa [if_pos hi] at this
  · have := h (i + 64) (by omega)
    unfold bitp at this
    rwa [if_neg (by omega), Nat.add_sub_cancel] at this
theorem setV_of {a b : Nat} {f : Nat → Bool} (ha : a < 18446744073709551616) (hb : b < 18446744073709551616) (h : ∀ i, i < 128 → bitp a b i = f i) : setV a b = setF f := by
  obtain ⟨h1, h2⟩ := set_of ha hb h
  unfold setF
  rw [h1, h2]
theorem setF_of {f g : Nat → Bool} (h : ∀ i, i < 128 → f i = g i) : setF f = setF g :=
  setV_of (mkA_lt f) (mkB_lt f) (fun i hi => by rw [bitp_mk f i hi]; exact h i hi)
theorem setV_self {a b : Nat} (ha : a < 18446744073709551616) (hb : b < 18446744073709551616) : setV a b = setF (bitp a b) := setV_of ha hb fun _ _ => rfl

theorem or_bit (a b c d i : Nat) : bitp (a ||| c) (b ||| d) i = (bitp a b i || bitp c d i) := by
  unfold bitp
  split <;> simp
theorem minus_bit (a b c d i : Nat) (hi : i < 128) (hc : c < 18446744073709551616) (hd : d < 18446744073709551616) : bitp (a &&& (18446744073709551615 - c)) (b &&& (18446744073709551615 - d)) i = (bitp a b i && !bitp c d i) := by
  have e : ∀ x k, x < 18446744073709551616 → k < 64 → (18446744073709551615 - x).testBit k = !x.testBit k := fun x k hx hk => by
    have h1 : 18446744073709551615 - x = 2 ^ 64 - (x + 1) := by rw [show (2 : Nat) ^ 64 = 18446744073709551616 from by decide]; omega
    rw [h1, Nat.testBit_two_pow_sub_succ (by exact hx)]
    simp [hk]
  unfold bitp
  by_cases h : i < 64
  · rw [if_pos h, if_pos h, if_pos h, Nat.testBit_and, e c i hc h]
  · rw [if_neg h, if_neg h, if_neg h, Nat.testBit_and, e d (i - 64) hd (by omega)]
theorem or_lt {a c : Nat} (ha : a < 18446744073709551616) (hc : c < 18446744073709551616) : a ||| c < 18446744073709551616 := Nat.or_lt_two_pow (n := 64) ha hc
theorem and_lt {a : Nat} (c : Nat) (ha : a < 18446744073709551616) : a &&& c < 18446744073709551616 := Nat.lt_of_le_of_lt Nat.and_le_left ha

/-- The set of i alone, or none. -/
def oneA (i : Int) : Nat := if 0 ≤ i ∧ i < 64 then 2 ^ i.toNat else 0
def oneB (i : Int) : Nat := if 64 ≤ i ∧ i < 128 then 2 ^ (i.toNat - 64) else 0
theorem pow_lt64 (k : Nat) (h : k < 64) : 2 ^ k < 18446744073709551616 := Nat.pow_lt_pow_right (by omega) h
theorem oneA_lt (i) : oneA i < 18446744073709551616 := by
  unfold oneA
  split
  · exact pow_lt64 _ (by omega)
  · omega
theorem oneB_lt (i) : oneB i < 18446744073709551616 := by
  unfold oneB
  split
  · exact pow_lt64 _ (by omega)
  · omega
theorem one_bit (i : Int) (k : Nat) (hk : k < 128) : bitp (oneA i) (oneB i) k = decide ((k : Int) = i) := by
  unfold bitp oneA oneB
  by_cases h : k < 64
  · rw [if_pos h]
    by_cases hi : 0 ≤ i ∧ i < 64
    · rw [if_pos hi, Nat.testBit_two_pow, decide_eq_decide]; omega
    · rw [if_neg hi, Nat.zero_testBit]
      symm; rw [decide_eq_false_iff_not]; omega
  · rw [if_neg h]
    by_cases hi : 64 ≤ i ∧ i < 128
    · rw [if_pos hi, Nat.testBit_two_pow, decide_eq_decide]; omega
    · rw [if_neg hi, Nat.zero_testBit]
      symm; rw [decide_eq_false_iff_not]; omega
theorem one_none (i : Int) : (oneA i = 0 ∧ oneB i = 0) ↔ ¬ (0 ≤ i ∧ i < 128) := by
  have p : ∀ k, 0 < 2 ^ k := fun k => Nat.two_pow_pos k
  unfold oneA oneB
  constructor
  · intro ⟨h1, h2⟩ h
    by_cases hi : i < 64
    · rw [if_pos ⟨h.1, hi⟩] at h1
      have := p i.toNat; omega
    · rw [if_pos ⟨by omega, h.2⟩] at h2
      have := p (i.toNat - 64); omega
  · intro h
    rw [if_neg (by omega), if_neg (by omega)]
    exact ⟨rfl, rfl⟩
end Go.Proofs.Ytodcdefmoliegaa


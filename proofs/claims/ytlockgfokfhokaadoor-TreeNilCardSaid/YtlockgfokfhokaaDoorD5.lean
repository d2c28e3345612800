/-
  Contracts of digest: digits read back, on lists; the reference's Hex.
-/
import Derived.Test.YtlockgfokfhokaaDoorD4
namespace Go.Proofs.YtlockgfokfhokaaDoor
open Go.RowKit
set_option linter.unusedVariables false
set_option linter.unusedSimpArgs false

/-- Byte i of a text. -/
def bt (xs : List UInt8) (i : Nat) : Nat := (xs[i]?.getD 0).toNat
theorem bt_lt (xs : List UInt8) (i : Nat) : bt xs i < 256 := UInt8.toNat_lt _

/-- The byte that two digits stand for. -/
def pairB (a b : Nat) : UInt8 := UInt8.ofNat (16 * (wor a).toNat + (wor b).toNat)

/-- The first k pairs of digits read back. -/
def unP (xs : List UInt8) : Nat → Option (List UInt8)
  | 0 => some []
  | k + 1 => match unP xs k with
    | none => none
    | some o => if wor (bt xs (2 * k)) < 0 ∨ wor (bt xs (2 * k + 1)) < 0 then none else some (o ++ [pairB (bt xs (2 * k)) (bt xs (2 * k + 1))])

theorem wor_lt (c : Nat) : wor c < 16 ∧ -1 ≤ wor c := by
  unfold wor
  split
  · omega
  · split <;> omega

theorem unP_bad {xs : List UInt8} {k : Nat} {o : List UInt8} (h : unP xs k = some o) (hb : wor (bt xs (2 * k)) < 0 ∨ wor (bt xs (2 * k + 1)) < 0) : unP xs (k + 1) = none := by
  simp only [unP, h, if_pos hb]

theorem unP_good {xs : List UInt8} {k : Nat} {o : List UInt8} (h : unP xs k = some o) (h1 : ¬ wor (bt xs (2 * k)) < 0) (h2 : ¬ wor (bt xs (2 * k + 1)) < 0) :
    unP xs (k + 1) = some (o ++ [pairB (bt xs (2 * k)) (bt xs (2 * k + 1))]) := by
  simp only [unP, h]; rw [if_neg (by omega)]

theorem unP_none {xs : List UInt8} {i j : Nat} (hij : i ≤ j) (h : unP xs i = none) : unP xs j = none := by
  induction j with
  | zero => obtain rfl : i = 0 := by omega
            exact h
  | succ j ih =>
    rcases Nat.lt_or_ge j i with h1 | h1
    · obtain rfl : i = j + 1 := by omega
      exact h
    · simp only [unP, ih h1]

theorem unP_length {xs : List UInt8} : ∀ {k : Nat} {o : List UInt8}, unP xs k = some o → o.length = k := by
  intro k
  induction k with
  | zero => intro o h; simp only [unP, Option.some.injEq] at h; subst h; rfl
  | succ k ih =>
    intro o h
    cases hk : unP xs k with
    | none => simp only [unP, hk] at h; cases h
    | some o1 =>
      simp only [unP, hk] at h
      split at h
      · cases h
      · simp only [Option.some.injEq] at h
        subst h
        have := ih hk
        simp; omega

theorem pair_nat (a b : Nat) : (pairB a b).toNat = 16 * (wor a).toNat + (wor b).toNat := by
  have h1 := wor_lt a; have h2 := wor_lt b
  unfold pairB
  rw [UInt8.toNat_ofNat']
  omega

theorem wor_hx : ∀ n, n < 16 → wor (hx n).toNat = (n : Int) := by decide +kernel
theorem hx_wor : ∀ c, c < 256 → 0 ≤ wor c → hx (wor c).toNat = UInt8.ofNat c := by decide +kernel

theorem hexL_at (xs : List UInt8) : ∀ (k : Nat), k < xs.length → bt (hexL xs) (2 * k) = (hx ((xs[k]?.getD 0).toNat / 16)).toNat ∧ bt (hexL xs) (2 * k + 1) = (hx ((xs[k]?.getD 0).toNat % 16)).toNat := by
  induction xs with
  | nil => intro k h; simp at h
  | cons x xs ih =>
    intro k h
    cases k with
    | zero => exact ⟨rfl, rfl⟩
    | succ k =>
      have := ih k (by simpa using h)
      rw [show 2 * (k + 1) = 2 * k + 2 from by omega]
      simpa [bt, hexL] using this

/-- What is told is read back. -/
theorem unP_hex (xs : List UInt8) : ∀ (k : Nat), k ≤ xs.length → unP (hexL xs) k = some (xs.take k) := by
  intro k
  induction k with
  | zero => intro _; rfl
  | succ k ih =>
    intro h
    have h0 := ih (by omega)
    obtain ⟨h1, h2⟩ := hexL_at xs k (by omega)
    have hb := (xs[k]?.getD 0).toNat_lt
    have w1 := wor_hx ((xs[k]?.getD 0).toNat / 16) (by omega)
    have w2 := wor_hx ((xs[k]?.getD 0).toNat % 16) (by omega)
    rw [← h1] at w1
    rw [← h2] at w2
    rw [unP_good h0 (by omega) (by omega), take_next xs k (by omega)]
    have : pairB (bt (hexL xs) (2 * k)) (bt (hexL xs) (2 * k + 1)) = xs[k]?.getD 0 := by
      apply UInt8.toNat_inj.1
      rw [pair_nat, w1, w2]
      omega
    rw [this]

/-- And back. -/
theorem hex_unP (xs : List UInt8) : ∀ (k : Nat) (o : List UInt8), 2 * k ≤ xs.length → unP xs k = some o → hexL o = xs.take (2 * k) := by
  intro k
  induction k with
  | zero => intro o _ h; simp only [unP, Option.some.injEq] at h; subst h; rfl
  | succ k ih =>
    intro o hl h
    cases hk : unP xs k with
    | none => simp only [unP, hk] at h; cases h
    | some o1 =>
      simp only [unP, hk] at h
      split at h
      · cases h
      · rename_i hn
        simp only [Option.some.injEq] at h
        subst h
        have a1 := wor_lt (bt xs (2 * k)); have a2 := wor_lt (bt xs (2 * k + 1))
        have c1 := hx_wor _ (bt_lt xs (2 * k)) (by omega)
        have c2 := hx_wor _ (bt_lt xs (2 * k + 1)) (by omega)
        have e1 : UInt8.ofNat (bt xs (2 * k)) = xs[2 * k]?.getD 0 := by unfold bt; simp
        have e2 : UInt8.ofNat (bt xs (2 * k + 1)) = xs[2 * k + 1]?.getD 0 := by unfold bt; simp
        rw [hexL_append, ih o1 (by omega) hk, show 2 * (k + 1) = 2 * k + 1 + 1 from by omega, take_next xs (2 * k + 1) (by omega), take_next xs (2 * k) (by omega)]
        simp only [hexL, pair_nat, List.append_assoc, List.cons_append, List.nil_append]
        rw [show (16 * (wor (bt xs (2 * k))).toNat + (wor (bt xs (2 * k + 1))).toNat) / 16 = (wor (bt xs (2 * k))).toNat from by omega,
          show (16 * (wor (bt xs (2 * k))).toNat + (wor (bt xs (2 * k + 1))).toNat) % 16 = (wor (bt xs (2 * k + 1))).toNat from by omega, c1, c2, e1, e2]

/-- What Back answers: the digest, and why not. -/
def backP (xs : List UInt8) : List UInt8 × Int := if xs.length = 64 then match unP xs 32 with
  | none => ([], 6)
  | some o => (o, 0) else ([], 4)
def backV (s : ByteArray) : Value := .tuple #[strV (backP s.data.toList).1, .int .i64 (backP s.data.toList).2]


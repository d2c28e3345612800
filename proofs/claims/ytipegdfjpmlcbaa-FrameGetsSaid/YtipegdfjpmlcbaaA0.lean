/-
  Plain facts on bytes as numbers: no program in sight.
-/
import Derived.WalkKit
import Derived.Laws.BitsAllLaws
namespace Go.Proofs.Ytipegdfjpmlcbaa
open Go.RowKit

/-- The number that bytes are, the first one the greatest. -/
def numN (xs : List UInt8) : Nat := xs.foldl (fun a x => a * 256 + x.toNat) 0

theorem numN_snoc (xs : List UInt8) (x : UInt8) : numN (xs ++ [x]) = numN xs * 256 + x.toNat := by simp [numN]

theorem take_snoc (xs : List UInt8) (k : Nat) (hk : k < xs.length) : xs.take (k + 1) = xs.take k ++ [xs[k]?.getD 0] := by
  rw [List.take_add_one, List.getElem?_eq_getElem hk]; rfl

theorem numN_step (xs : List UInt8) (k : Nat) (hk : k < xs.length) : numN (xs.take (k + 1)) = numN (xs.take k) * 256 + (xs[k]?.getD 0).toNat := by
  rw [take_snoc xs k hk, numN_snoc]

theorem numN_lt (xs : List UInt8) (k : Nat) (hk : k ≤ xs.length) : numN (xs.take k) < 256 ^ k := by
  induction k with
  | zero => simp [numN]
  | succ k ih =>
    rw [numN_step xs k (by omega), Nat.pow_succ]
    have := ih (by omega)
    have hx : (xs[k]?.getD 0).toNat < 256 := UInt8.toNat_lt _
    omega

theorem pow256_le (k : Nat) (h : k ≤ 7) : 256 ^ k ≤ 72057594037927936 := by
  have := Nat.pow_le_pow_right (n := 256) (by omega) h
  omega

theorem numN_small (xs : List UInt8) (k : Nat) (hk : k ≤ xs.length) (h : k ≤ 7) : numN (xs.take k) < 72057594037927936 := by
  have := numN_lt xs k hk
  have := pow256_le k h
  omega

theorem or_byte (a b : Nat) (hb : b < 256) : a * 256 ||| b = a * 256 + b := by
  have := Nat.two_pow_add_eq_or_of_lt (i := 8) (b := b) (by omega) a
  rw [show 2 ^ 8 * a = a * 256 from by omega] at this
  exact this.symm

theorem num_step (xs : List UInt8) (k : Nat) (hk : k < xs.length) (h : k ≤ 7) :
    bits .or .u64 (IntKind.u64.wrap (↑(numN (xs.take k)) * 256)) (IntKind.u64.wrap ↑(xs[k]?.getD 0).toNat) = ↑(numN (xs.take (k + 1))) := by
  have h1 := numN_small xs k (by omega) h
  have hx : (xs[k]?.getD 0).toNat < 256 := UInt8.toNat_lt _
  rw [numN_step xs k hk]
  have e1 : IntKind.u64.wrap ((numN (xs.take k) : Int) * 256) = ((numN (xs.take k) * 256 : Nat) : Int) := by
    rw [IntKind.wrap_u64]; omega
  have e2 : IntKind.u64.wrap (((xs[k]?.getD 0).toNat : Nat) : Int) = (((xs[k]?.getD 0).toNat : Nat) : Int) := by
    rw [IntKind.wrap_u64]; omega
  rw [e1, e2, u64_or_nat _ _ (by omega) (by omega), or_byte _ _ hx]

theorem num_step_add (xs : List UInt8) (k : Nat) (hk : k < xs.length) (h : k ≤ 7) :
    IntKind.u64.wrap (IntKind.u64.wrap (↑(numN (xs.take k)) * 256) + IntKind.u64.wrap ↑(xs[k]?.getD 0).toNat) = ↑(numN (xs.take (k + 1))) := by
  have h1 := numN_small xs k (by omega) h
  have hx : (xs[k]?.getD 0).toNat < 256 := UInt8.toNat_lt _
  rw [numN_step xs k hk]
  simp only [IntKind.wrap_u64]
  omega

/-! ### back: a number as bytes -/

/-- The byte of n at place i from the last. -/
def byteAt (n i : Nat) : UInt8 := UInt8.ofNat (n / 256 ^ i)

/-- The last w bytes of n, the greatest first. -/
def enc (n : Nat) : Nat → List UInt8
  | 0 => []
  | w + 1 => byteAt n w :: enc n w

/-- The first k of the w bytes. -/
def encTo (n w k : Nat) : List UInt8 := (enc n w).take k

theorem enc_length (n : Nat) : ∀ w, (enc n w).length = w
  | 0 => rfl
  | w + 1 => by simp [enc, enc_length n w]

theorem enc_at (n : Nat) : ∀ (w k : Nat), k < w → (enc n w)[k]? = some (byteAt n (w - 1 - k))
  | 0, _, h => by omega
  | w + 1, 0, _ => by simp [enc]
  | w + 1, k + 1, h => by
    simp only [enc, List.getElem?_cons_succ]
    rw [enc_at n w k (by omega)]
    congr 2
    omega

theorem encTo_snoc (n w k : Nat) (h : k < w) : encTo n w (k + 1) = encTo n w k ++ [byteAt n (w - 1 - k)] := by
  unfold encTo
  rw [List.take_add_one, enc_at n w k h]
  rfl

theorem enc_num (n : Nat) : ∀ (w : Nat), numN (enc n w) = n % 256 ^ w := by
  have key : ∀ (w : Nat) (a : Nat), (enc n w).foldl (fun a x => a * 256 + x.toNat) a = a * 256 ^ w + n % 256 ^ w := by
    intro w
    induction w with
    | zero => intro a; simp [enc]; omega
    | succ w ih =>
      intro a
      simp only [enc, List.foldl_cons, ih, byteAt]
      have e : (UInt8.ofNat (n / 256 ^ w)).toNat = n / 256 ^ w % 256 := by simp [UInt8.toNat_ofNat']
      rw [e, Nat.pow_succ]
      have h2 : n % (256 ^ w * 256) = n % 256 ^ w + 256 ^ w * (n / 256 ^ w % 256) := Nat.mod_mul
      rw [h2, Nat.add_mul, Nat.mul_assoc, Nat.mul_comm 256 (256 ^ w), Nat.mul_comm (n / 256 ^ w % 256) (256 ^ w)]
      omega
  intro w
  have := key w 0
  simpa [numN] using this

theorem pow8 (i : Nat) : 2 ^ (8 * i) = 256 ^ i := by rw [Nat.pow_mul]

theorem byteAt_toNat (n i : Nat) : (byteAt n i).toNat = n / 256 ^ i % 256 := by simp [byteAt, UInt8.toNat_ofNat']

theorem shr_byte (n i : Nat) : (n : Int) / 2 ^ (8 * i) % 256 = ((byteAt n i).toNat : Int) := by
  rw [byteAt_toNat, ← pow8]
  simp

end Go.Proofs.Ytipegdfjpmlcbaa


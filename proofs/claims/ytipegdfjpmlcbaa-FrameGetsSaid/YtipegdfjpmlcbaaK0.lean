/-
  Plain facts on CRC-32C over natural numbers: the table entry of a byte, the sum of bytes, that a sum tells one changed byte. No program in sight.
-/
import Derived.WalkKit
import Derived.Laws.BitsAllLaws
namespace Go.Proofs.Ytipegdfjpmlcbaa
open Go.RowKit

/-- One of the eight steps. -/
def stepN (n : Nat) : Nat := if n % 2 = 1 then (n / 2) ^^^ 2197175160 else n / 2

/-- So many steps. -/
def stepK : Nat → Nat → Nat
  | 0, n => n
  | k + 1, n => stepN (stepK k n)

/-- The entry of i. -/
def ent (i : Nat) : Nat := stepK 8 i

/-- What one byte does to the number. -/
def upd (n c : Nat) : Nat := (n / 256) ^^^ ent ((n % 256) ^^^ c)

/-- What bytes do to it. -/
def foldN (n : Nat) (bs : List UInt8) : Nat := bs.foldl (fun n c => upd n c.toNat) n

/-- The sum of bytes behind bytes whose sum is s. -/
def addN (s : Nat) (bs : List UInt8) : Nat := 4294967295 - foldN (4294967295 - s) bs

theorem stepN_lt (n : Nat) (h : n < 4294967296) : stepN n < 4294967296 := by
  unfold stepN
  split
  · exact Nat.xor_lt_two_pow (n := 32) (by omega) (by omega)
  · omega

theorem stepK_lt (n : Nat) (h : n < 4294967296) : ∀ k, stepK k n < 4294967296
  | 0 => h
  | k + 1 => stepN_lt _ (stepK_lt n h k)

theorem ent_lt (i : Nat) (h : i < 4294967296) : ent i < 4294967296 := stepK_lt i h 8

theorem xor_byte_lt (a b : Nat) (ha : a < 256) (hb : b < 256) : a ^^^ b < 256 := Nat.xor_lt_two_pow (n := 8) ha hb

theorem upd_lt (n c : Nat) (h : n < 4294967296) (hc : c < 256) : upd n c < 4294967296 := by
  unfold upd
  have := xor_byte_lt (n % 256) c (by omega) hc
  exact Nat.xor_lt_two_pow (n := 32) (by omega) (ent_lt _ (by omega))

theorem foldN_snoc (n : Nat) (bs : List UInt8) (c : UInt8) : foldN n (bs ++ [c]) = upd (foldN n bs) c.toNat := by simp [foldN]

theorem foldN_append (n : Nat) (as bs : List UInt8) : foldN n (as ++ bs) = foldN (foldN n as) bs := by simp [foldN]

theorem foldN_lt (n : Nat) (h : n < 4294967296) : ∀ bs : List UInt8, foldN n bs < 4294967296 := by
  intro bs
  induction bs generalizing n with
  | nil => exact h
  | cons c bs ih => exact ih _ (upd_lt n c.toNat h (UInt8.toNat_lt c))

theorem take_snocK (xs : List UInt8) (k : Nat) (hk : k < xs.length) : xs.take (k + 1) = xs.take k ++ [xs[k]?.getD 0] := by
  rw [List.take_add_one, List.getElem?_eq_getElem hk]; rfl

theorem foldN_step (n : Nat) (xs : List UInt8) (k : Nat) (hk : k < xs.length) : foldN n (xs.take (k + 1)) = upd (foldN n (xs.take k)) (xs[k]?.getD 0).toNat := by
  rw [take_snocK xs k hk, foldN_snoc]

theorem addN_lt (s : Nat) (bs : List UInt8) : addN s bs < 4294967296 := by unfold addN; omega

/-- Two texts, one behind the other. -/
theorem addN_parts (as bs : List UInt8) (s : Nat) : addN (addN s as) bs = addN s (as ++ bs) := by
  unfold addN
  rw [foldN_append]
  have := foldN_lt (4294967295 - s) (by omega) as
  rw [show 4294967295 - (4294967295 - foldN (4294967295 - s) as) = foldN (4294967295 - s) as from by omega]

/-! ### one byte that is another one -/
def inv : List Nat := [0, 241, 226, 19, 196, 53, 38, 215, 136, 121, 106, 155, 76, 189, 174, 95, 16, 225, 242, 3, 212, 37, 54, 199, 152, 105, 122, 139, 92, 173, 190, 79, 32, 209, 194, 51, 228, 21, 6, 247, 168, 89, 74, 187, 108, 157, 142, 127, 48, 193, 210, 35, 244, 5, 22, 231, 184, 73, 90, 171, 124, 141, 158, 111, 177, 64, 83, 162, 117, 132, 151, 102, 57, 200, 219, 42, 253, 12, 31, 238, 161, 80, 67, 178, 101, 148, 135, 118, 41, 216, 203, 58, 237, 28, 15, 254, 145, 96, 115, 130, 85, 164, 183, 70, 25, 232, 251, 10, 221, 44, 63, 206, 129, 112, 99, 146, 69, 180, 167, 86, 9, 248, 235, 26, 205, 60, 47, 222, 98, 147, 128, 113, 166, 87, 68, 181, 234, 27, 8, 249, 46, 223, 204, 61, 114, 131, 144, 97, 182, 71, 84, 165, 250, 11, 24, 233, 62, 207, 220, 45, 66, 179, 160, 81, 134, 119, 100, 149, 202, 59, 40, 217, 14, 255, 236, 29, 82, 163, 176, 65, 150, 103, 116, 133, 218, 43, 56, 201, 30, 239, 252, 13, 211, 34, 49, 192, 23, 230, 245, 4, 91, 170, 185, 72, 159, 110, 125, 140, 195, 50, 33, 208, 7, 246, 229, 20, 75, 186, 169, 88, 143, 126, 109, 156, 243, 2, 17, 224, 55, 198, 213, 36, 123, 138, 153, 104, 191, 78, 93, 172, 227, 18, 1, 240, 39, 214, 197, 52, 107, 154, 137, 120, 175, 94, 77, 188]

theorem inv_ent : ∀ i : Fin 256, inv.getD (ent i.val / 16777216) 0 = i.val := by decide +kernel

theorem ent_inj (i j : Nat) (hi : i < 256) (hj : j < 256) (h : ent i / 16777216 = ent j / 16777216) : i = j := by
  have h1 := inv_ent ⟨i, hi⟩
  have h2 := inv_ent ⟨j, hj⟩
  simp only at h1 h2
  rw [← h1, ← h2, h]

theorem upd_top (n c : Nat) (h : n < 4294967296) : upd n c / 16777216 = ent ((n % 256) ^^^ c) / 16777216 := by
  unfold upd
  rw [show 16777216 = 2 ^ 24 from rfl, ← Nat.shiftRight_eq_div_pow, Nat.shiftRight_xor_distrib, Nat.shiftRight_eq_div_pow, Nat.shiftRight_eq_div_pow,
    show n / 256 / 2 ^ 24 = 0 from by omega, Nat.zero_xor]

theorem xor_left_inj (a b c : Nat) (h : a ^^^ c = b ^^^ c) : a = b := by
  have := congrArg (· ^^^ c) h
  simpa [Nat.xor_assoc] using this

theorem upd_inj (n m c d : Nat) (hn : n < 4294967296) (hm : m < 4294967296) (hc : c < 256) (hd : d < 256) (h : upd n c = upd m d) :
    n / 256 = m / 256 ∧ (n % 256) ^^^ c = (m % 256) ^^^ d := by
  have h1 := xor_byte_lt (n % 256) c (by omega) hc
  have h2 := xor_byte_lt (m % 256) d (by omega) hd
  have e := ent_inj _ _ h1 h2 (by rw [← upd_top n c hn, ← upd_top m d hm, h])
  refine ⟨?_, e⟩
  unfold upd at h
  rw [e] at h
  exact xor_left_inj _ _ _ h

theorem upd_state (n m c : Nat) (hn : n < 4294967296) (hm : m < 4294967296) (hc : c < 256) (h : upd n c = upd m c) : n = m := by
  obtain ⟨h1, h2⟩ := upd_inj n m c c hn hm hc hc h
  have := xor_left_inj _ _ _ h2
  omega

theorem upd_byte (n c d : Nat) (hn : n < 4294967296) (hc : c < 256) (hd : d < 256) (h : upd n c = upd n d) : c = d := by
  obtain ⟨_, h2⟩ := upd_inj n n c d hn hn hc hd h
  rw [Nat.xor_comm _ c, Nat.xor_comm _ d] at h2
  exact xor_left_inj _ _ _ h2

theorem foldN_inj (bs : List UInt8) : ∀ (n m : Nat), n < 4294967296 → m < 4294967296 → foldN n bs = foldN m bs → n = m := by
  induction bs with
  | nil => intro n m _ _ h; exact h
  | cons c bs ih =>
    intro n m hn hm h
    have hc := UInt8.toNat_lt c
    exact upd_state n m c.toNat hn hm hc (ih _ _ (upd_lt n _ hn hc) (upd_lt m _ hm hc) h)

theorem foldN_set (n : Nat) (hn : n < 4294967296) (bs : List UInt8) (i : Nat) (hi : i < bs.length) (x : UInt8) (hx : bs[i] ≠ x) : foldN n (bs.set i x) ≠ foldN n bs := by
  intro h
  have e1 : bs = bs.take i ++ bs[i] :: bs.drop (i + 1) := by rw [List.getElem_cons_drop, List.take_append_drop]
  have e2 : bs.set i x = bs.take i ++ x :: bs.drop (i + 1) := by rw [List.set_eq_take_append_cons_drop, if_pos hi]
  rw [e2] at h
  conv at h => rhs; rw [e1]
  rw [foldN_append, foldN_append] at h
  have hs := foldN_lt n hn (bs.take i)
  have hx1 := UInt8.toNat_lt x
  have hx2 := UInt8.toNat_lt bs[i]
  have h2 := foldN_inj (bs.drop (i + 1)) _ _ (upd_lt _ _ hs hx1) (upd_lt _ _ hs hx2) h
  have h3 := upd_byte _ _ _ hs hx1 hx2 h2
  exact hx (UInt8.toNat_inj.1 h3).symm

theorem addN_set (s : Nat) (bs : List UInt8) (i : Nat) (hi : i < bs.length) (x : UInt8) (hx : bs[i] ≠ x) : addN s (bs.set i x) ≠ addN s bs := by
  intro h
  unfold addN at h
  have h1 := foldN_lt (4294967295 - s) (by omega) (bs.set i x)
  have h2 := foldN_lt (4294967295 - s) (by omega) bs
  exact foldN_set (4294967295 - s) (by omega) bs i hi x hx (by omega)

end Go.Proofs.Ytipegdfjpmlcbaa


/-
  Contracts: math/bits.OnesCount64; Count.
-/
import Derived.Test.YtodcdefmoliegaaI6
import Derived.Laws.BitsLemmas
namespace Go.Proofs.Ytodcdefmoliegaa
open Go.RowKit
set_option linter.unusedVariables false
set_option linter.unusedSimpArgs false

/-- How many of the first n are there. -/
def cnt (f : Nat → Bool) : Nat → Nat
  | 0 => 0
  | n + 1 => cnt f n + (if f n then 1 else 0)
theorem cnt_le (f) : ∀ n, cnt f n ≤ n
  | 0 => Nat.le_refl _
  | n + 1 => by
    have := cnt_le f n
    show cnt f n + (if f n then 1 else 0) ≤ n + 1
    split <;> omega
theorem cnt_add (f : Nat → Bool) (m : Nat) : ∀ n, cnt f (m + n) = cnt f m + cnt (fun i => f (m + i)) n
  | 0 => rfl
  | n + 1 => by
    have ih := cnt_add f m n
    show cnt f (m + n) + (if f (m + n) then 1 else 0) = cnt f m + (cnt (fun i => f (m + i)) n + (if f (m + n) then 1 else 0))
    omega
theorem cnt_congr {f g : Nat → Bool} : ∀ n, (∀ i, i < n → f i = g i) → cnt f n = cnt g n
  | 0, _ => rfl
  | n + 1, h => by
    have ih := cnt_congr n (fun i hi => h i (by omega))
    show cnt f n + (if f n then 1 else 0) = cnt g n + (if g n then 1 else 0)
    rw [ih, h n (by omega)]

/-- Byte by byte. -/
def ev (f : Nat → Nat) : Nat → Nat → Nat
  | 0, _ => 0
  | n + 1, x => ev f n (x / 256) * 256 + f (x % 256)
def maskN (c : Nat) : Nat → Nat
  | 0 => 0
  | n + 1 => maskN c n * 256 + c
theorem and_split (hi lo M m : Nat) (hl : lo < 256) (hm : m < 256) : (hi * 256 + lo) &&& (M * 256 + m) = (hi &&& M) * 256 + (lo &&& m) := by
  apply Nat.eq_of_testBit_eq
  intro i
  have e : ∀ a b, b < 256 → (a * 256 + b).testBit i = if i < 8 then b.testBit i else a.testBit (i - 8) := fun a b hb => by
    have := Nat.testBit_two_pow_mul_add (i := 8) a (b := b) hb i
    rw [show a * 256 + b = 2 ^ 8 * a + b from by rw [show (2 : Nat) ^ 8 = 256 from rfl]; omega, this]
  rw [Nat.testBit_and, e hi lo hl, e M m hm, e _ _ (Nat.lt_of_le_of_lt Nat.and_le_left hl)]
  split
  · rw [Nat.testBit_and]
  · rw [Nat.testBit_and]
def s1 (y : Nat) : Nat := (y / 2 &&& 85) + (y &&& 85)
def s2 (y : Nat) : Nat := (y / 4 &&& 51) + (y &&& 51)
def s3 (y : Nat) : Nat := (y / 16 + y) &&& 15
theorem s1_carry : ∀ (q : Fin 2) (y : Fin 256), (q.val * 128 + y.val / 2) &&& 85 = y.val / 2 &&& 85 := by decide +kernel
theorem s2_carry : ∀ (q : Fin 4) (y : Fin 256), (q.val * 64 + y.val / 4) &&& 51 = y.val / 4 &&& 51 := by decide +kernel
theorem step1 : ∀ (n x : Nat), ((x / 2) &&& maskN 85 n) + (x &&& maskN 85 n) = ev s1 n x
  | 0, x => by simp [maskN, ev]
  | n + 1, x => by
    have ih := step1 n (x / 256)
    have hc := s1_carry ⟨x / 256 % 2, by omega⟩ ⟨x % 256, by omega⟩
    have h1 := and_split (x / 256 / 2) (x / 256 % 2 * 128 + x % 256 / 2) (maskN 85 n) 85 (by omega) (by omega)
    have h2 := and_split (x / 256) (x % 256) (maskN 85 n) 85 (by omega) (by omega)
    rw [show x / 256 / 2 * 256 + (x / 256 % 2 * 128 + x % 256 / 2) = x / 2 from by omega] at h1
    rw [show x / 256 * 256 + x % 256 = x from by omega] at h2
    show ((x / 2) &&& (maskN 85 n * 256 + 85)) + (x &&& (maskN 85 n * 256 + 85)) = ev s1 n (x / 256) * 256 + ((x % 256 / 2 &&& 85) + (x % 256 &&& 85))
    dsimp only at hc
    rw [h1, h2, hc, ← ih]
    omega
theorem step2 (f : Nat → Nat) (hf : ∀ y, y < 256 → f y < 256) : ∀ (n x : Nat), ((ev f n x / 4) &&& maskN 51 n) + (ev f n x &&& maskN 51 n) = ev (fun y => s2 (f y)) n x
  | 0, x => by simp [maskN, ev]
  | n + 1, x => by
    have ih := step2 f hf n (x / 256)
    have hl := hf (x % 256) (by omega)
    obtain ⟨H, hH⟩ : ∃ H, H = ev f n (x / 256) := ⟨_, rfl⟩
    rw [← hH] at ih
    obtain ⟨l, hll⟩ : ∃ l, l = f (x % 256) := ⟨_, rfl⟩
    rw [← hll] at hl
    have hc := s2_carry ⟨H % 4, by omega⟩ ⟨l, hl⟩
    have h1 := and_split (H / 4) (H % 4 * 64 + l / 4) (maskN 51 n) 51 (by omega) (by omega)
    have h2 := and_split H l (maskN 51 n) 51 hl (by omega)
    rw [show H / 4 * 256 + (H % 4 * 64 + l / 4) = (H * 256 + l) / 4 from by omega] at h1
    show (((ev f n (x / 256) * 256 + f (x % 256)) / 4) &&& (maskN 51 n * 256 + 51)) + ((ev f n (x / 256) * 256 + f (x % 256)) &&& (maskN 51 n * 256 + 51)) = ev (fun y => s2 (f y)) n (x / 256) * 256 + s2 (f (x % 256))
    rw [← hH, ← hll]
    dsimp only at hc
    rw [h1, h2, hc, ← ih]
    unfold s2
    omega
theorem s3_carry : ∀ (q : Fin 5) (y : Fin 69), y.val % 16 ≤ 4 → (q.val * 16 + y.val / 16 + y.val) &&& 15 = s3 y.val := by decide +kernel
theorem ev_low (f : Nat → Nat) (hf : ∀ y, y < 256 → f y % 16 ≤ 4) : ∀ n x, ev f n x % 16 ≤ 4
  | 0, x => by simp [ev]
  | n + 1, x => by
    have := hf (x % 256) (by omega)
    show (ev f n (x / 256) * 256 + f (x % 256)) % 16 ≤ 4
    omega
theorem step3 (f : Nat → Nat) (hf : ∀ y, y < 256 → f y < 69 ∧ f y % 16 ≤ 4) : ∀ (n x : Nat), ((ev f n x / 16 + ev f n x) &&& maskN 15 n) = ev (fun y => s3 (f y)) n x
  | 0, x => by simp [maskN, ev]
  | n + 1, x => by
    have ih := step3 f hf n (x / 256)
    have hl := hf (x % 256) (by omega)
    have hq := ev_low f (fun y hy => (hf y hy).2) n (x / 256)
    obtain ⟨H, hH⟩ : ∃ H, H = ev f n (x / 256) := ⟨_, rfl⟩
    rw [← hH] at ih hq
    obtain ⟨l, hll⟩ : ∃ l, l = f (x % 256) := ⟨_, rfl⟩
    rw [← hll] at hl
    have hc := s3_carry ⟨H % 16, by omega⟩ ⟨l, hl.1⟩ hl.2
    dsimp only at hc
    have h1 := and_split (H / 16 + H) (H % 16 * 16 + l / 16 + l) (maskN 15 n) 15 (by omega) (by omega)
    rw [show (H / 16 + H) * 256 + (H % 16 * 16 + l / 16 + l) = (H * 256 + l) / 16 + (H * 256 + l) from by omega] at h1
    show (((ev f n (x / 256) * 256 + f (x % 256)) / 16 + (ev f n (x / 256) * 256 + f (x % 256))) &&& (maskN 15 n * 256 + 15)) = ev (fun y => s3 (f y)) n (x / 256) * 256 + s3 (f (x % 256))
    rw [← hH, ← hll, h1, hc, ih]
def pop8 (y : Nat) : Nat := s3 (s2 (s1 y))
theorem pop8_cnt : ∀ y : Fin 256, pop8 y.val = cnt y.val.testBit 8 := by decide +kernel
theorem s1_lt : ∀ y : Fin 256, s1 y.val < 256 := by decide +kernel
theorem s2_lt : ∀ y : Fin 256, s2 (s1 y.val) < 69 ∧ s2 (s1 y.val) % 16 ≤ 4 := by decide +kernel
theorem pop8_le (y : Nat) (h : y < 256) : pop8 y ≤ 8 := by
  rw [pop8_cnt ⟨y, h⟩]; exact cnt_le _ _
def sumP : Nat → Nat → Nat
  | 0, _ => 0
  | n + 1, x => pop8 (x % 256) + sumP n (x / 256)
theorem cnt_sum : ∀ n x, cnt x.testBit (8 * n) = sumP n x
  | 0, _ => rfl
  | n + 1, x => by
    have ih := cnt_sum n (x / 256)
    rw [show 8 * (n + 1) = 8 + 8 * n from by omega, cnt_add]
    show _ = pop8 (x % 256) + sumP n (x / 256)
    rw [pop8_cnt ⟨x % 256, by omega⟩, ← ih]
    congr 1
    · apply cnt_congr
      intro i hi
      have := Nat.testBit_mod_two_pow x 8 i
      rw [show (2 : Nat) ^ 8 = 256 from rfl] at this
      rw [this]; simp [hi]
    · apply cnt_congr
      intro i hi
      have := Nat.testBit_div_two_pow (n := 8) x i
      rw [show (2 : Nat) ^ 8 = 256 from rfl] at this
      rw [this, Nat.add_comm]

theorem wrap_u (n : Int) (h0 : 0 ≤ n) (h1 : n < 18446744073709551616) : IntKind.u64.wrap n = n := by rw [wrap_u64]; omega
theorem and127 (n : Nat) (h : n < 9223372036854775808) : bits .and .i64 (n : Int) 127 = ((n % 128 : Nat) : Int) := by
  have p63 : (2 : Int) ^ 63 = 9223372036854775808 := by decide
  have hw : ∀ m : Int, 0 ≤ m → m < 2 ^ 63 → IntKind.i64.wrap m = m := fun m h0 h1 => by rw [IntKind.wrap_i64]; omega
  have e : bits .and .i64 (n : Int) 127 = (n : Int) % 128 := bits_mask .i64 63 (by decide) hw 7 (by omega) (n : Int) (by omega) (by omega)
  rw [e]; omega

theorem fold8 {x3 x4 x5 x6 p0 p1 p2 p3 p4 p5 p6 p7 : Nat} (h4 : x4 = x3 + x3 / 256) (h5 : x5 = x4 + x4 / 65536) (h6 : x6 = x5 + x5 / 4294967296)
    (l0 : p0 ≤ 8) (l1 : p1 ≤ 8) (l2 : p2 ≤ 8) (l3 : p3 ≤ 8) (l4 : p4 ≤ 8) (l5 : p5 ≤ 8) (l6 : p6 ≤ 8) (l7 : p7 ≤ 8)
    (e3 : x3 = (((((((0 * 256 + p7) * 256 + p6) * 256 + p5) * 256 + p4) * 256 + p3) * 256 + p2) * 256 + p1) * 256 + p0) :
    x6 % 128 = p0 + (p1 + (p2 + (p3 + (p4 + (p5 + (p6 + (p7 + 0))))))) := by
  have a : x3 / 256 = ((((((p7) * 256 + p6) * 256 + p5) * 256 + p4) * 256 + p3) * 256 + p2) * 256 + p1 := by omega
  have b : x4 = (((((((p7) * 256 + (p6 + p7)) * 256 + (p5 + p6)) * 256 + (p4 + p5)) * 256 + (p3 + p4)) * 256 + (p2 + p3)) * 256 + (p1 + p2)) * 256 + (p0 + p1) := by omega
  clear h4 a e3
  have c : x4 / 65536 = (((((p7) * 256 + (p6 + p7)) * 256 + (p5 + p6)) * 256 + (p4 + p5)) * 256 + (p3 + p4)) * 256 + (p2 + p3) := by omega
  have d : x5 = (((((((p7) * 256 + (p6 + p7)) * 256 + (p5 + p6 + p7)) * 256 + (p4 + p5 + p6 + p7)) * 256 + (p3 + p4 + p5 + p6)) * 256 + (p2 + p3 + p4 + p5)) * 256 + (p1 + p2 + p3 + p4)) * 256 + (p0 + p1 + p2 + p3) := by omega
  clear h5 b c
  have f : x5 / 4294967296 = (((p7) * 256 + (p6 + p7)) * 256 + (p5 + p6 + p7)) * 256 + (p4 + p5 + p6 + p7) := by omega
  omega


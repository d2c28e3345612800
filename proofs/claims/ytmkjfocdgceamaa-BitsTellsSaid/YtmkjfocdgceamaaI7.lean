/-
  Contracts: math/bits.OnesCount64; Count.
-/
import Derived.Test.YtmkjfocdgceamaaI6
import Derived.Laws.BitsLemmas
namespace Go.Proofs.Ytmkjfocdgceamaa
open Go.RowKit
set_option linter.unusedVariables false
set_option linter.unusedSimpArgs false

/-- How many of the first n are there. -/
def cnt (f : Nat → Bool) : Nat → Nat
  | 0 => 0
  | n + 1 => cnt f n + (if f n then 1 else 0)
theorem cnt_le (f) : ∀ n, cnt f n ≤ n
  | 0 => Nat.le_refl _
  | n + 1 => by
    have := cnt_le f n
    show cnt f n + (if f n then 1 else 0) ≤ n + 1
    split <;> omega
theorem cnt_add (f : Nat → Bool) (m : Nat) : ∀ n, cnt f (m + n) = cnt f m + cnt (fun i => f (m + i)) n
  | 0 => rfl
  | n + 1 => by
    have ih := cnt_add f m n
    show cnt f (m + n) + (if f (m + n) then 1 else 0) = cnt f m + (cnt (fun i => f (m + i)) n + (if f (m + n) then 1 else 0))
    omega
theorem cnt_congr {f g : Nat → Bool} : ∀ n, (∀ i, i < n → f i = g i) → cnt f n = cnt g n
  | 0, _ => rfl
  | n + 1, h => by
    have ih := cnt_congr n (fun i hi => h i (by omega))
    show cnt f n + (if f n then 1 else 0) = cnt g n + (if g n then 1 else 0)
    rw [ih, h n (by omega)]

/-- Byte by byte. -/
def ev (f : Nat → Nat) : Nat → Nat → Nat
  | 0, _ => 0
  | n + 1, x => ev f n (x / 256) * 256 + f (x % 256)
def maskN (c : Nat) : Nat → Nat
  | 0 => 0
  | n + 1 => maskN c n * 256 + c
theorem and_split (hi lo M m : Nat) (hl : lo < 256) (hm : m < 256) : (hi * 256 + lo) &&& (M * 256 + m) = (hi &&& M) * 256 + (lo &&& m) := by
  apply Nat.eq_of_testBit_eq
  intro i
  have e : ∀ a b, b < 256 → (a * 256 + b).testBit i = if i < 8 then b.testBit i else a.testBit (i - 8) := fun a b hb => by
    have := Nat.testBit_two_pow_mul_add (i := 8) a (b := b) hb i
    rw [show a * 256 + b = 2 ^ 8 * a + b from by rw [show (2 : Nat) ^ 8 = 256 from rfl]; omega, this]
  rw [Nat.testBit_and, e hi lo hl, e M m hm, e _ _ (Nat.lt_of_le_of_lt Nat.and_le_left hl)]
  split
  · rw [Nat.testBit_and]
  · rw [Nat.testBit_and]
def s1 (y : Nat) : Nat := (y / 2 &&& 85) + (y &&& 85)
def s2 (y : Nat) : Nat := (y / 4 &&& 51) + (y &&& 51)
def s3 (y : Nat) : Nat := (y / 16 + y) &&& 15
theorem s1_carry : ∀ (q : Fin 2) (y : Fin 256), (q.val * 128 + y.val / 2) &&& 85 = y.val / 2 &&& 85 := by decide +kernel
theorem s2_carry : ∀ (q : Fin 4) (y : Fin 256), (q.val * 64 + y.val / 4) &&& 51 = y.val / 4 &&& 51 := by decide +kernel
theorem step1 : ∀ (n x : Nat), ((x / 2) &&& maskN 85 n) + (x &&& maskN 85 n) = ev s1 n x
  | 0, x => by simp [maskN, ev]
  | n + 1, x => by
    have ih := step1 n (x / 256)
    have hc := s1_carry ⟨x / 256 % 2, by omega⟩ ⟨x % 256, by omega⟩
    have h1 := and_split (x / 256 / 2) (x / 256 % 2 * 128 + x % 256 / 2) (maskN 85 n) 85 (by omega) (by omega)
    have h2 := and_split (x / 256) (x % 256) (maskN 85 n) 85 (by omega) (by omega)
    rw [show x / 256 / 2 * 256 + (x / 256 % 2 * 128 + x % 256 / 2) = x / 2 from by omega] at h1
    rw [show x / 256 * 256 + x % 256 = x from by omega] at h2
    show ((x / 2) &&& (maskN 85 n * 256 + 85)) + (x &&& (maskN 85 n * 256 + 85)) = ev s1 n (x / 256) * 256 + ((x % 256 / 2 &&& 85) + (x % 256 &&& 85))
    dsimp only at hc
    rw [h1, h2, hc, ← ih]
    omega
theorem step2 (f : Nat → Nat) (hf : ∀ y, y < 256 → f y < 256) : ∀ (n x : Nat), ((ev f n x / 4) &&& maskN 51 n) + (ev f n x &&& maskN 51 n) = ev (fun y => s2 (f y)) n x
  | 0, x => by simp [maskN, ev]
  | n + 1, x => by
    have ih := step2 f hf n (x / 256)
    have hl := hf (x % 256) (by omega)
    obtain ⟨H, hH⟩ : ∃ H, H = ev f n (x / 256) := ⟨_, rfl⟩
    rw [← hH] at ih
    obtain ⟨l, hll⟩ : ∃ l, l = f (x % 256) := ⟨_, rfl⟩
    rw [← hll] at hl
    have hc := s2_carry ⟨H % 4, by omega⟩ ⟨l, hl⟩
    have h1 := and_split (H / 4) (H % 4 * 64 + l / 4) (maskN 51 n) 51 (by omega) (by omega)
    have h2 := and_split H l (maskN 51 n) 51 hl (by omega)
    rw [show H / 4 * 256 + (H % 4 * 64 + l / 4) = (H * 256 + l) / 4 from by omega] at h1
    show (((ev f n (x / 256) * 256 + f (x % 256)) / 4) &&& (maskN 51 n * 256 + 51)) + ((ev f n (x / 256) * 256 + f (x % 256)) &&& (maskN 51 n * 256 + 51)) = ev (fun y => s2 (f y)) n (x / 256) * 256 + s2 (f (x % 256))
    rw [← hH, ← hll]
    dsimp only at hc
    rw [h1, h2, hc, ← ih]
    unfold s2
    omega
theorem s3_carry : ∀ (q : Fin 5) (y : Fin 69), y.val % 16 ≤ 4 → (q.val * 16 + y.val / 16 + y.val) &&& 15 = s3 y.val := by decide +kernel
theorem ev_low (f : Nat → Nat) (hf : ∀ y, y < 256 → f y % 16 ≤ 4) : ∀ n x, ev f n x % 16 ≤ 4
  | 0, x => by simp [ev]
  | n + 1, x => by
    have := hf (x % 256) (by omega)
    show (ev f n (x / 256) * 256 + f (x % 256)) % 16 ≤ 4
    omega
theorem step3 (f : Nat → Nat) (hf : ∀ y, y < 256 → f y < 69 ∧ f y % 16 ≤ 4) : ∀ (n x : Nat), ((ev f n x / 16 + ev f n x) &&& maskN 15 n) = ev (fun y => s3 (f y)) n x
  | 0, x => by simp [maskN, ev]
  | n + 1, x => by
    have ih := step3 f hf n (x / 256)
    have hl := hf (x % 256) (by omega)
    have hq := ev_low f (fun y hy => (hf y hy).2) n (x / 256)
    obtain ⟨H, hH⟩ : ∃ H, H = ev f n (x / 256) := ⟨_, rfl⟩
    rw [← hH] at ih hq
    obtain ⟨l, hll⟩ : ∃ l, l = f (x % 256) := ⟨_, rfl⟩
    rw [← hll] at hl
    have hc := s3_carry ⟨H % 16, by omega⟩ ⟨l, hl.1⟩ hl.2
    dsimp only at hc
    have h1 := and_split (H / 16 + H) (H % 16 * 16 + l / 16 + l) (maskN 15 n) 15 (by omega) (by omega)
    rw [show (H / 16 + H) * 256 + (H % 16 * 16 + l / 16 + l) = (H * 256 + l) / 16 + (H * 256 + l) from by omega] at h1
    show (((ev f n (x / 256) * 256 + f (x % 256)) / 16 + (ev f n (x / 256) * 256 + f (x % 256))) &&& (maskN 15 n * 256 + 15)) = ev (fun y => s3 (f y)) n (x / 256) * 256 + s3 (f (x % 256))
    rw [← hH, ← hll, h1, hc, ih]
def pop8 (y : Nat) : Nat := s3 (s2 (s1 y))
theorem pop8_cnt : ∀ y : Fin 256, pop8 y.val = cnt y.val.testBit 8 := by decide +kernel
theorem s1_lt : ∀ y : Fin 256, s1 y.val < 256 := by decide +kernel
theorem s2_lt : ∀ y : Fin 256, s2 (s1 y.val) < 69 ∧ s2 (s1 y.val) % 16 ≤ 4 := by decide +kernel
theorem pop8_le (y : Nat) (h : y < 256) : pop8 y ≤ 8 := by
  rw [pop8_cnt ⟨y, h⟩]; exact cnt_le _ _
def sumP : Nat → Nat → Nat
  | 0, _ => 0
  | n + 1, x => pop8 (x % 256) + sumP n (x / 256)
theorem cnt_sum : ∀ n x, cnt x.testBit (8 * n) = sumP n x
  | 0, _ => rfl
  | n + 1, x => by
    have ih := cnt_sum n (x / 256)
    rw [show 8 * (n + 1) = 8 + 8 * n from by omega, cnt_add]
    show _ = pop8 (x % 256) + sumP n (x / 256)
    rw [pop8_cnt ⟨x % 256, by omega⟩, ← ih]
    congr 1
    · apply cnt_congr
      intro i hi
      have := Nat.testBit_mod_two_pow x 8 i
      rw [show (2 : Nat) ^ 8 = 256 from rfl] at this
      rw [this]; simp [hi]
    · apply cnt_congr
      intro i hi
      have := Nat.testBit_div_two_pow (n := 8) x i
      rw [show (2 : Nat) ^ 8 = 256 from rfl] at this
      rw [this, Nat.add_comm]

theorem wrap_u (n : Int) (h0 : 0 ≤ n) (h1 : n < 18446744073709551616) : IntKind.u64.wrap n = n := by rw [wrap_u64]; omega
theorem and127 (n : Nat) (h : n < 9223372036854775808) : bits .and .i64 (n : Int) 127 = ((n % 128 : Nat) : Int) := by
  have p63 : (2 : Int) ^ 63 = 9223372036854775808 := by decide
  have hw : ∀ m : Int, 0 ≤ m → m < 2 ^ 63 → IntKind.i64.wrap m = m := fun m h0 h1 => by rw [IntKind.wrap_i64]; omega
  have e : bits .and .i64 (n : Int) 127 = (n : Int) % 128 := bits_mask .i64 63 (by decide) hw 7 (by omega) (n : Int) (by omega) (by omega)
  rw [e]; omega

theorem fold8 {x3 x4 x5 x6 p0 p1 p2 p3 p4 p5 p6 p7 : Nat} (h4 : x4 = x3 + x3 / 256) (h5 : x5 = x4 + x4 / 65536) (h6 : x6 = x5 + x5 / 4294967296)
    (l0 : p0 ≤ 8) (l1 : p1 ≤ 8) (l2 : p2 ≤ 8) (l3 : p3 ≤ 8) (l4 : p4 ≤ 8) (l5 : p5 ≤ 8) (l6 : p6 ≤ 8) (l7 : p7 ≤ 8)
    (e3 : x3 = (((((((0 * 256 + p7) * 256 + p6) * 256 + p5) * 256 + p4) * 256 + p3) * 256 + p2) * 256 + p1) * 256 + p0) :
    x6 % 128 = p0 + (p1 + (p2 + (p3 + (p4 + (p5 + (p6 + (p7 + 0))))))) := by
  have a : x3 / 256 = ((((((p7) * 256 + p6) * 256 + p5) * 256 + p4) * 256 + p3) * 256 + p2) * 256 + p1 := by omega
  have b : x4 = (((((((p7) * 256 + (p6 + p7)) * 256 + (p5 + p6)) * 256 + (p4 + p5)) * 256 + (p3 + p4)) * 256 + (p2 + p3)) * 256 + (p1 + p2)) * 256 + (p0 + p1) := by omega
  clear h4 a e3
  have c : x4 / 65536 = (((((p7) * 256 + (p6 + p7)) * 256 + (p5 + p6)) * 256 + (p4 + p5)) * 256 + (p3 + p4)) * 256 + (p2 + p3) := by omega
  have d : x5 = (((((((p7) * 256 + (p6 + p7)) * 256 + (p5 + p6 + p7)) * 256 + (p4 + p5 + p6 + p7)) * 256 + (p3 + p4 + p5 + p6)) * 256 + (p2 + p3 + p4 + p5)) * 256 + (p1 + p2 + p3 + p4)) * 256 + (p0 + p1 + p2 + p3) := by omega
  clear h5 b c
  have f : x5 / 4294967296 = (((p7) * 256 + (p6 + p7)) * 256 + (p5 + p6 + p7)) * 256 + (p4 + p5 + p6 + p7) := by omega
  omega

set_option maxRecDepth 20000 in
set_option maxHeartbeats 4000000 in
theorem ones_any (x : Nat) (w : World) (hx : x < 18446744073709551616) :
    Calls Try.prog 30 #[.int .u64 (x : Int)] w fun e w' => e = .returned (.int .i64 (cnt x.testBit 64 : Int)) ∧ w' = w := by
  have m0 : maskN 85 8 = 6148914691236517205 := by decide
  have m1 : maskN 51 8 = 3689348814741910323 := by decide
  have m2 : maskN 15 8 = 1085102592571150095 := by decide
  have hv := cnt_sum 8 x
  have t1 := step1 8 x
  have t2 := step2 s1 (fun y hy => s1_lt ⟨y, hy⟩) 8 x
  have t3 := step3 (fun y => s2 (s1 y)) (fun y hy => s2_lt ⟨y, hy⟩) 8 x
  have e3 : ev (fun y => s3 (s2 (s1 y))) 8 x = (((((((0 * 256 + pop8 (x / 256 / 256 / 256 / 256 / 256 / 256 / 256 % 256)) * 256 + pop8 (x / 256 / 256 / 256 / 256 / 256 / 256 % 256)) * 256 + pop8 (x / 256 / 256 / 256 / 256 / 256 % 256)) * 256 + pop8 (x / 256 / 256 / 256 / 256 % 256)) * 256 + pop8 (x / 256 / 256 / 256 % 256)) * 256 + pop8 (x / 256 / 256 % 256)) * 256 + pop8 (x / 256 % 256)) * 256 + pop8 (x % 256) := rfl
  have es : sumP 8 x = pop8 (x % 256) + (pop8 (x / 256 % 256) + (pop8 (x / 256 / 256 % 256) + (pop8 (x / 256 / 256 / 256 % 256) + (pop8 (x / 256 / 256 / 256 / 256 % 256) + (pop8 (x / 256 / 256 / 256 / 256 / 256 % 256) + (pop8 (x / 256 / 256 / 256 / 256 / 256 / 256 % 256) + (pop8 (x / 256 / 256 / 256 / 256 / 256 / 256 / 256 % 256) + 0))))))) := rfl
  have l0 := pop8_le (x % 256) (by omega)
  have l1 := pop8_le (x / 256 % 256) (by omega)
  have l2 := pop8_le (x / 256 / 256 % 256) (by omega)
  have l3 := pop8_le (x / 256 / 256 / 256 % 256) (by omega)
  have l4 := pop8_le (x / 256 / 256 / 256 / 256 % 256) (by omega)
  have l5 := pop8_le (x / 256 / 256 / 256 / 256 / 256 % 256) (by omega)
  have l6 := pop8_le (x / 256 / 256 / 256 / 256 / 256 / 256 % 256) (by omega)
  have l7 := pop8_le (x / 256 / 256 / 256 / 256 / 256 / 256 / 256 % 256) (by omega)
  generalize pop8 (x / 256 / 256 / 256 / 256 / 256 / 256 / 256 % 256) = p7 at *
  generalize pop8 (x / 256 / 256 / 256 / 256 / 256 / 256 % 256) = p6 at *
  generalize pop8 (x / 256 / 256 / 256 / 256 / 256 % 256) = p5 at *
  generalize pop8 (x / 256 / 256 / 256 / 256 % 256) = p4 at *
  generalize pop8 (x / 256 / 256 / 256 % 256) = p3 at *
  generalize pop8 (x / 256 / 256 % 256) = p2 at *
  generalize pop8 (x / 256 % 256) = p1 at *
  generalize pop8 (x % 256) = p0 at *
  rw [m0] at t1
  rw [m1] at t2
  rw [m2] at t3
  have b1 : ev s1 8 x < 18446744073709551616 := by
    have h1 := Nat.and_le_right (n := x / 2) (m := 6148914691236517205)
    have h2 := Nat.and_le_right (n := x) (m := 6148914691236517205)
    omega
  generalize ev s1 8 x = x1 at *
  have b2 : ev (fun y => s2 (s1 y)) 8 x < 7378697629483820647 := by
    have h1 := Nat.and_le_right (n := x1 / 4) (m := 3689348814741910323)
    have h2 := Nat.and_le_right (n := x1) (m := 3689348814741910323)
    omega
  generalize ev (fun y => s2 (s1 y)) 8 x = x2 at *
  generalize ev (fun y => s3 (s2 (s1 y))) 8 x = x3 at *
  have a1 := u64_and_nat (x / 2) 6148914691236517205 (by omega) (by omega)
  have a2 := u64_and_nat x 6148914691236517205 hx (by omega)
  have a3 := u64_and_nat (x1 / 4) 3689348814741910323 (by omega) (by omega)
  have a4 := u64_and_nat x1 3689348814741910323 b1 (by omega)
  have a5 := u64_and_nat (x2 / 16 + x2) 1085102592571150095 (by omega) (by omega)
  rw [show ((x / 2 : Nat) : Int) = (x : Int) / 2 from by omega] at a1
  rw [show ((x1 / 4 : Nat) : Int) = (x1 : Int) / 4 from by omega] at a3
  rw [show ((x2 / 16 + x2 : Nat) : Int) = (x2 : Int) / 16 + (x2 : Int) from by omega, t3] at a5
  have w1 : IntKind.u64.wrap (bits .and .u64 ((x : Int) / 2) 6148914691236517205 + bits .and .u64 (x : Int) 6148914691236517205) = (x1 : Int) := by
    have e1 : bits .and .u64 ((x : Int) / 2) 6148914691236517205 = _ := a1
    have e2 : bits .and .u64 (x : Int) 6148914691236517205 = _ := a2
    rw [e1, e2, wrap_u _ (by omega) (by omega)]; omega
  have w2 : IntKind.u64.wrap (bits .and .u64 ((x1 : Int) / 4) 3689348814741910323 + bits .and .u64 (x1 : Int) 3689348814741910323) = (x2 : Int) := by
    have e1 : bits .and .u64 ((x1 : Int) / 4) 3689348814741910323 = _ := a3
    have e2 : bits .and .u64 (x1 : Int) 3689348814741910323 = _ := a4
    rw [e1, e2, wrap_u _ (by omega) (by omega)]; omega
  have w3 : bits .and .u64 ((x2 : Int) / 16 + (x2 : Int)) 1085102592571150095 = (x3 : Int) := a5
  obtain ⟨x4, h4⟩ : ∃ x4, x4 = x3 + x3 / 256 := ⟨_, rfl⟩
  obtain ⟨x5, h5⟩ : ∃ x5, x5 = x4 + x4 / 65536 := ⟨_, rfl⟩
  obtain ⟨x6, h6⟩ : ∃ x6, x6 = x5 + x5 / 4294967296 := ⟨_, rfl⟩
  have h3b : x3 < 9223372036854775808 / 8 := by omega
  have w4 : IntKind.u64.wrap ((x3 : Int) + (x3 : Int) / 256) = (x4 : Int) := by rw [wrap_u _ (by omega) (by omega)]; omega
  have w5 : IntKind.u64.wrap ((x4 : Int) + (x4 : Int) / 65536) = (x5 : Int) := by rw [wrap_u _ (by omega) (by omega)]; omega
  have w6 : IntKind.u64.wrap ((x5 : Int) + (x5 : Int) / 4294967296) = (x6 : Int) := by rw [wrap_u _ (by omega) (by omega)]; omega
  have h6b : x6 < 9223372036854775808 := by omega
  have w7 : wrap64 (x6 : Int) = (x6 : Int) := by unfold wrap64; omega
  have w8 := and127 x6 h6b
  have hres : x6 % 128 = cnt x.testBit 64 := by
    have : cnt x.testBit 64 = sumP 8 x := hv
    rw [this, es]
    exact fold8 h4 h5 h6 l0 l1 l2 l3 l4 l5 l6 l7 e3
  rw [hres] at w8
  generalize cnt x.testBit 64 = R at *
  clear hv t1 t2 t3 e3 es l0 l1 l2 l3 l4 l5 l6 l7 a1 a2 a3 a4 a5 h4 h5 h6 h3b hres m0 m1 m2
  go_enter Try.func30, Try.ntmps30
  go_wp2
  refine bodyPost_ret (results_tmp rfl _ _ _) rfl ?_
  exact ⟨rfl, rfl⟩
end Go.Proofs.Ytmkjfocdgceamaa

/-
  Texts put together: S0, S1, S2, S3, S4.
-/
import Derived.Test.YtpkeikbiblfidaaGreatDoorA0
import Derived.WalkKit
import Derived.Laws.BitsAllLaws
import Derived.Test.YtpkeikbiblfidaaGreatDoorB0
import Derived.BigQuiet
import Derived.RegionTactic
import Derived.BigRegion
import Derived.Deep.RegionHeld3
import Derived.Laws.Tables
/-
  Plain facts on SHA-256 over natural numbers: no program in sight.
-/
namespace Go.Proofs.YtpkeikbiblfidaaGreatDoor.Dg
open Go.RowKit

/-- A number of 32 bits turned to the right. -/
def rotr (n k : Nat) : Nat := (n / 2 ^ k) ||| (n * 2 ^ (32 - k) % 4294967296)
def big0 (n : Nat) : Nat := (rotr n 2 ^^^ rotr n 13) ^^^ rotr n 22
def big1 (n : Nat) : Nat := (rotr n 6 ^^^ rotr n 11) ^^^ rotr n 25
def sml0 (n : Nat) : Nat := (rotr n 7 ^^^ rotr n 18) ^^^ (n / 8)
def sml1 (n : Nat) : Nat := (rotr n 17 ^^^ rotr n 19) ^^^ (n / 1024)
def chN (e f g : Nat) : Nat := (e &&& f) ^^^ ((4294967295 - e) &&& g)
def majN (a b c : Nat) : Nat := ((a &&& b) ^^^ (a &&& c)) ^^^ (b &&& c)

/-- The state: eight numbers. -/
structure St where
  a : Nat
  b : Nat
  c : Nat
  d : Nat
  e : Nat
  f : Nat
  g : Nat
  h : Nat

def St.ok (s : St) : Prop := s.a < 4294967296 ∧ s.b < 4294967296 ∧ s.c < 4294967296 ∧ s.d < 4294967296 ∧ s.e < 4294967296 ∧ s.f < 4294967296 ∧ s.g < 4294967296 ∧ s.h < 4294967296

/-- One round. -/
def rnd (s : St) (k w : Nat) : St :=
  ⟨(s.h + big1 s.e + chN s.e s.f s.g + k + w + big0 s.a + majN s.a s.b s.c) % 4294967296, s.a, s.b, s.c,
    (s.d + s.h + big1 s.e + chN s.e s.f s.g + k + w) % 4294967296, s.e, s.f, s.g⟩

def kon : List Nat := [
  0x428a2f98, 0x71374491, 0xb5c0fbcf, 0xe9b5dba5, 0x3956c25b, 0x59f111f1, 0x923f82a4, 0xab1c5ed5,
  0xd807aa98, 0x12835b01, 0x243185be, 0x550c7dc3, 0x72be5d74, 0x80deb1fe, 0x9bdc06a7, 0xc19bf174,
  0xe49b69c1, 0xefbe4786, 0x0fc19dc6, 0x240ca1cc, 0x2de92c6f, 0x4a7484aa, 0x5cb0a9dc, 0x76f988da,
  0x983e5152, 0xa831c66d, 0xb00327c8, 0xbf597fc7, 0xc6e00bf3, 0xd5a79147, 0x06ca6351, 0x14292967,
  0x27b70a85, 0x2e1b2138, 0x4d2c6dfc, 0x53380d13, 0x650a7354, 0x766a0abb, 0x81c2c92e, 0x92722c85,
  0xa2bfe8a1, 0xa81a664b, 0xc24b8b70, 0xc76c51a3, 0xd192e819, 0xd6990624, 0xf40e3585, 0x106aa070,
  0x19a4c116, 0x1e376c08, 0x2748774c, 0x34b0bcb5, 0x391c0cb3, 0x4ed8aa4a, 0x5b9cca4f, 0x682e6ff3,
  0x748f82ee, 0x78a5636f, 0x84c87814, 0x8cc70208, 0x90befffa, 0xa4506ceb, 0xbef9a3f7, 0xc67178f2]

def konAt (i : Nat) : Nat := kon.getD i 0

def st0 : St := ⟨0x6a09e667, 0xbb67ae85, 0x3c6ef372, 0xa54ff53a, 0x510e527f, 0x9b05688c, 0x1f83d9ab, 0x5be0cd19⟩

/-- Byte i. -/
def byt (m : List UInt8) (i : Nat) : Nat := (m[i]?.getD 0).toNat
def be4 (a b c d : Nat) : Nat := (((a * 16777216) ||| (b * 65536)) ||| (c * 256)) ||| d

/-- The block's numbers, so many of them. -/
def wnx (m : List UInt8) (l : List Nat) (k : Nat) : Nat :=
  if k < 16 then be4 (byt m (4 * k)) (byt m (4 * k + 1)) (byt m (4 * k + 2)) (byt m (4 * k + 3))
  else (l.getD (k - 16) 0 + sml0 (l.getD (k - 15) 0) + l.getD (k - 7) 0 + sml1 (l.getD (k - 2) 0)) % 4294967296
def wds (m : List UInt8) : Nat → List Nat
  | 0 => []
  | k + 1 => wds m k ++ [wnx m (wds m k) k]
def wdAt (m : List UInt8) (i : Nat) : Nat := (wds m 64).getD i 0

/-- So many rounds. -/
def rds (ks ws : List Nat) (s : St) : Nat → St
  | 0 => s
  | k + 1 => rnd (rds ks ws s k) (ks.getD k 0) (ws.getD k 0)

def addSt (s t : St) : St := ⟨(s.a + t.a) % 4294967296, (s.b + t.b) % 4294967296, (s.c + t.c) % 4294967296, (s.d + t.d) % 4294967296,
  (s.e + t.e) % 4294967296, (s.f + t.f) % 4294967296, (s.g + t.g) % 4294967296, (s.h + t.h) % 4294967296⟩

/-- The state behind a block. -/
def nxt (s : St) (m : List UInt8) : St := addSt s (rds kon (wds m 64) s 64)

/-- The state behind so many blocks. -/
def runB : Nat → St → List UInt8 → St
  | 0, s, _ => s
  | n + 1, s, xs => runB n (nxt s (xs.take 64)) (xs.drop 64)

def full (xs : List UInt8) : St := runB (xs.length / 64) st0 xs

def out4 (n : Nat) : List UInt8 := enc n 4
def outS (s : St) : List UInt8 := out4 s.a ++ out4 s.b ++ out4 s.c ++ out4 s.d ++ out4 s.e ++ out4 s.f ++ out4 s.g ++ out4 s.h

def out8 (n : Nat) : List UInt8 := enc n 8

/-- What comes behind n bytes. -/
def padN (n : Nat) : List UInt8 := (0x80 :: List.replicate (63 - (n + 8) % 64) 0) ++ out8 (n * 8 % 18446744073709551616)

/-- The digest. -/
def dig (xs : List UInt8) : List UInt8 := outS (full (xs ++ padN xs.length))

theorem dig_abc : (dig [97, 98, 99]).take 4 = [0xba, 0x78, 0x16, 0xbf] := by decide +kernel
end Go.Proofs.YtpkeikbiblfidaaGreatDoor.Dg
/-
  Contracts: turns of numbers, of the program and of the reference.
-/
namespace Go.Proofs.YtpkeikbiblfidaaGreatDoor.Dg
open Go.RowKit
set_option linter.unusedVariables false

theorem rot_facts : ∀ i : Fin 32, 0 < i.val → bits .and .u64 (IntKind.u64.wrap (-(i.val : Int))) 31 = ((32 - i.val : Nat) : Int) := by decide +kernel

theorem rotr_or (n i : Nat) (hn : n < 4294967296) : bits .or .u32 ((n : Int) / 2 ^ i) ((n : Int) * 2 ^ (32 - i) % 4294967296) = ((rotr n i : Nat) : Int) := by
  have h1 : n / 2 ^ i < 4294967296 := Nat.lt_of_le_of_lt (Nat.div_le_self _ _) hn
  have := u32_or_nat (n / 2 ^ i) (n * 2 ^ (32 - i) % 4294967296) h1 (Nat.mod_lt _ (by omega))
  unfold rotr
  rw [← this]
  simp

theorem rotr_or' (n i : Nat) (hn : n < 4294967296) : bits .or .u32 ((n : Int) * 2 ^ (32 - i) % 4294967296) ((n : Int) / 2 ^ i) = ((rotr n i : Nat) : Int) := by
  have h1 : n / 2 ^ i < 4294967296 := Nat.lt_of_le_of_lt (Nat.div_le_self _ _) hn
  have := u32_or_nat (n * 2 ^ (32 - i) % 4294967296) (n / 2 ^ i) (Nat.mod_lt _ (by omega)) h1
  unfold rotr
  rw [Nat.or_comm, ← this]
  simp

set_option maxRecDepth 20000 in
set_option maxHeartbeats 400000 in
theorem rot_any (n i : Nat) (w : World) (hn : n < 4294967296) (hi : 0 < i) (hi2 : i < 32) :
    Calls Tryz.prog 202 #[.int .u32 n, .int .i64 (-(i : Int))] w fun e w' => e = .returned (.int .u32 (rotr n i : Int)) ∧ w = w' := by
  have h1 := rot_facts ⟨i, hi2⟩ hi
  simp only at h1
  have h2 := rotr_or' n i hn
  have h3 : 32 - (32 - i) = i := by omega
  go_enter Tryz.func202, Tryz.ntmps202
  go_wp2
  go_ret
  exact ⟨rfl, rfl⟩

set_option maxRecDepth 20000 in
set_option maxHeartbeats 400000 in
theorem rturn_any (n i : Nat) (w : World) (hn : n < 4294967296) (hi : 0 < i) (hi2 : i < 32) :
    Calls Tryz.prog 163 #[.int .u32 n, .int .u64 (i : Int)] w fun e w' => e = .returned (.int .u32 (rotr n i : Int)) ∧ w = w' := by
  have h2 := rotr_or n i hn
  go_enter Tryz.func163, Tryz.ntmps163
  go_wp2
  go_ret
  exact ⟨rfl, rfl⟩

theorem rotr_lt (n i : Nat) (hn : n < 4294967296) : rotr n i < 4294967296 :=
  Nat.or_lt_two_pow (n := 32) (Nat.lt_of_le_of_lt (Nat.div_le_self _ _) hn) (Nat.mod_lt _ (by omega))

theorem xor_lt (a b : Nat) (ha : a < 4294967296) (hb : b < 4294967296) : a ^^^ b < 4294967296 := Nat.xor_lt_two_pow (n := 32) ha hb
theorem and_lt (a b : Nat) (hb : b < 4294967296) : a &&& b < 4294967296 := Nat.and_lt_two_pow (n := 32) _ hb

set_option maxRecDepth 20000 in
set_option maxHeartbeats 400000 in
theorem turned_any (n i j k : Nat) (w : World) (hn : n < 4294967296) (hi : 0 < i) (hi2 : i < 32) (hj : 0 < j) (hj2 : j < 32) (hk : 0 < k) (hk2 : k < 32) :
    Calls Tryz.prog 199 #[.int .u32 n, .int .i64 i, .int .i64 j, .int .i64 k] w fun e w' => e = .returned (.int .u32 (((rotr n i ^^^ rotr n j) ^^^ rotr n k : Nat) : Int)) ∧ w = w' := by
  have h1 := u32_xor_nat (rotr n i) (rotr n j) (rotr_lt n i hn) (rotr_lt n j hn)
  have h2 := u32_xor_nat (rotr n i ^^^ rotr n j) (rotr n k) (xor_lt _ _ (rotr_lt n i hn) (rotr_lt n j hn)) (rotr_lt n k hn)
  have R1 := Lib.hid (fun w => rot_any n i w hn hi hi2)
  have R2 := Lib.hid (fun w => rot_any n j w hn hj hj2)
  have R3 := Lib.hid (fun w => rot_any n k w hn hk hk2)
  go_enter Tryz.func199, Tryz.ntmps199
  go_wp2_with fail
  refine (R1.out _).mono ?_
  rintro e w1 ⟨rfl, rfl⟩
  go_wp2_with fail
  refine (R2.out _).mono ?_
  rintro e w1 ⟨rfl, rfl⟩
  go_wp2_with fail
  refine (R3.out _).mono ?_
  rintro e w1 ⟨rfl, rfl⟩
  go_wp2
  go_ret
  exact ⟨rfl, rfl⟩

set_option maxRecDepth 20000 in
set_option maxHeartbeats 400000 in
theorem mixed_a (n : Nat) (w : World) (hn : n < 4294967296) :
    Calls Tryz.prog 201 #[.int .u32 n, .int .i64 7, .int .i64 18, .int .i64 3] w fun e w' => e = .returned (.int .u32 (sml0 n : Int)) ∧ ∃ q, w' = w.drewN q := by
  have e1 : bits .xor .u32 (bits .xor .u32 (rotr n 7 : Int) (rotr n 18 : Int)) ((n : Int) / 8) = (sml0 n : Int) := by
    rw [u32_xor_nat _ _ (rotr_lt n 7 hn) (rotr_lt n 18 hn)]
    have := u32_xor_nat (rotr n 7 ^^^ rotr n 18) (n / 8) (xor_lt _ _ (rotr_lt n 7 hn) (rotr_lt n 18 hn)) (by omega)
    unfold sml0
    rw [← this]
    simp
  obtain ⟨r1, hr1⟩ : ∃ r, r = rotr n 7 := ⟨_, rfl⟩
  obtain ⟨r2, hr2⟩ : ∃ r, r = rotr n 18 := ⟨_, rfl⟩
  have R1 : ∀ w, Calls Tryz.prog 202 #[.int .u32 n, .int .i64 (-7)] w fun e w' => e = .returned (.int .u32 (r1 : Int)) ∧ w' = w := fun w => hr1 ▸ (rot_any n 7 w hn (by omega) (by omega)).mono fun e w' ⟨h1, h2⟩ => ⟨h1, h2.symm⟩
  have R2 : ∀ w, Calls Tryz.prog 202 #[.int .u32 n, .int .i64 (-18)] w fun e w' => e = .returned (.int .u32 (r2 : Int)) ∧ w' = w := fun w => hr2 ▸ (rot_any n 18 w hn (by omega) (by omega)).mono fun e w' ⟨h1, h2⟩ => ⟨h1, h2.symm⟩
  rw [← hr1, ← hr2] at e1
  generalize sml0 n = m at e1 ⊢
  have S1 := Lib.hid R1
  have S2 := Lib.hid R2
  clear hr1 hr2 R1 R2
  have v1 : IntKind.i64.wrap (-7) = -7 := by decide +kernel
  have v2 : IntKind.i64.wrap (-18) = -18 := by decide +kernel
  go_enter Tryz.func201, Tryz.ntmps201
  go_wp2_with fail
  go_quiet (first
    | (go_at_call 202; with_reducible exact Calls.quiet_of_same (S1.out _))
    | (go_at_call 202; with_reducible exact Calls.quiet_of_same (S2.out _)))
  go_wp2
  go_ret
  exact ⟨rfl, _, rfl⟩

set_option maxRecDepth 20000 in
set_option maxHeartbeats 400000 in
theorem mixed_b (n : Nat) (w : World) (hn : n < 4294967296) :
    Calls Tryz.prog 201 #[.int .u32 n, .int .i64 17, .int .i64 19, .int .i64 10] w fun e w' => e = .returned (.int .u32 (sml1 n : Int)) ∧ ∃ q, w' = w.drewN q := by
  have e1 : bits .xor .u32 (bits .xor .u32 (rotr n 17 : Int) (rotr n 19 : Int)) ((n : Int) / 1024) = (sml1 n : Int) := by
    rw [u32_xor_nat _ _ (rotr_lt n 17 hn) (rotr_lt n 19 hn)]
    have := u32_xor_nat (rotr n 17 ^^^ rotr n 19) (n / 1024) (xor_lt _ _ (rotr_lt n 17 hn) (rotr_lt n 19 hn)) (by omega)
    unfold sml1
    rw [← this]
    simp
  obtain ⟨r1, hr1⟩ : ∃ r, r = rotr n 17 := ⟨_, rfl⟩
  obtain ⟨r2, hr2⟩ : ∃ r, r = rotr n 19 := ⟨_, rfl⟩
  have R1 : ∀ w, Calls Tryz.prog 202 #[.int .u32 n, .int .i64 (-17)] w fun e w' => e = .returned (.int .u32 (r1 : Int)) ∧ w' = w := fun w => hr1 ▸ (rot_any n 17 w hn (by omega) (by omega)).mono fun e w' ⟨h1, h2⟩ => ⟨h1, h2.symm⟩
  have R2 : ∀ w, Calls Tryz.prog 202 #[.int .u32 n, .int .i64 (-19)] w fun e w' => e = .returned (.int .u32 (r2 : Int)) ∧ w' = w := fun w => hr2 ▸ (rot_any n 19 w hn (by omega) (by omega)).mono fun e w' ⟨h1, h2⟩ => ⟨h1, h2.symm⟩
  rw [← hr1, ← hr2] at e1
  generalize sml1 n = m at e1 ⊢
  have S1 := Lib.hid R1
  have S2 := Lib.hid R2
  clear hr1 hr2 R1 R2
  have v1 : IntKind.i64.wrap (-17) = -17 := by decide +kernel
  have v2 : IntKind.i64.wrap (-19) = -19 := by decide +kernel
  go_enter Tryz.func201, Tryz.ntmps201
  go_wp2_with fail
  go_quiet (first
    | (go_at_call 202; with_reducible exact Calls.quiet_of_same (S1.out _))
    | (go_at_call 202; with_reducible exact Calls.quiet_of_same (S2.out _)))
  go_wp2
  go_ret
  exact ⟨rfl, _, rfl⟩

end Go.Proofs.YtpkeikbiblfidaaGreatDoor.Dg
/-
  Contracts: the block's numbers, of the program.
-/
namespace Go.Proofs.YtpkeikbiblfidaaGreatDoor.Dg
open Go.RowKit
set_option linter.unusedVariables false

/-- Number j of a block. -/
def wv (m : List UInt8) (j : Nat) : Nat := wnx m (wds m j) j

theorem wds_eq (m : List UInt8) (k : Nat) : wds m k = (List.range k).map (wv m) := by
  induction k with
  | zero => rfl
  | succ k ih => rw [List.range_succ, List.map_append, ← ih]; rfl

theorem wds_at (m : List UInt8) (k j : Nat) (h : j < k) : (wds m k).getD j 0 = wv m j := by
  rw [wds_eq]; simp [List.getD, h]

theorem wv_low (m : List UInt8) (k : Nat) (h : k < 16) : wv m k = be4 (byt m (4 * k)) (byt m (4 * k + 1)) (byt m (4 * k + 2)) (byt m (4 * k + 3)) := by
  unfold wv wnx; rw [if_pos h]

theorem wv_high (m : List UInt8) (k : Nat) (h : ¬ k < 16) : wv m k = (wv m (k - 16) + sml0 (wv m (k - 15)) + wv m (k - 7) + sml1 (wv m (k - 2))) % 4294967296 := by
  conv => lhs; unfold wv wnx
  rw [if_neg h, wds_at _ _ _ (by omega), wds_at _ _ _ (by omega), wds_at _ _ _ (by omega), wds_at _ _ _ (by omega)]

theorem byt_lt (m : List UInt8) (i : Nat) : byt m i < 256 := UInt8.toNat_lt _

theorem be4_lt (a b c d : Nat) (ha : a < 256) (hb : b < 256) (hc : c < 256) (hd : d < 256) : be4 a b c d < 4294967296 :=
  Nat.or_lt_two_pow (n := 32) (Nat.or_lt_two_pow (n := 32) (Nat.or_lt_two_pow (n := 32) (by omega) (by omega)) (by omega)) (by omega)

theorem wv_lt (m : List UInt8) (k : Nat) : wv m k < 4294967296 := by
  by_cases h : k < 16
  · rw [wv_low m k h]; exact be4_lt _ _ _ _ (byt_lt _ _) (byt_lt _ _) (byt_lt _ _) (byt_lt _ _)
  · rw [wv_high m k h]; exact Nat.mod_lt _ (by omega)

theorem be4_bits (a b c d : Nat) (ha : a < 256) (hb : b < 256) (hc : c < 256) (hd : d < 256) :
    bits .or .u32 (bits .or .u32 (bits .or .u32 ((a : Int) * 16777216) ((b : Int) * 65536)) ((c : Int) * 256)) (d : Int) = (be4 a b c d : Int) := by
  have h1 := u32_or_nat (a * 16777216) (b * 65536) (by omega) (by omega)
  have l1 : a * 16777216 ||| b * 65536 < 4294967296 := Nat.or_lt_two_pow (n := 32) (by omega) (by omega)
  have h2 := u32_or_nat (a * 16777216 ||| b * 65536) (c * 256) l1 (by omega)
  have l2 : (a * 16777216 ||| b * 65536) ||| c * 256 < 4294967296 := Nat.or_lt_two_pow (n := 32) l1 (by omega)
  have h3 := u32_or_nat ((a * 16777216 ||| b * 65536) ||| c * 256) d l2 (by omega)
  unfold be4
  rw [← h3, ← h2, ← h1]
  simp

/-- An array of 64 bytes. -/
def bArr (m : List UInt8) : Array Value := ((List.range 64).map fun j => Value.int .u8 (byt m j : Int)).toArray
theorem bArr_size (m : List UInt8) : (bArr m).size = 64 := by simp [bArr]
theorem bArr_at (m : List UInt8) (j : Nat) (h : j < 64) : (bArr m)[j]? = some (.int .u8 (byt m j : Int)) := by simp [bArr, h]
theorem bArr_one (m : List UInt8) : (bArr m).all (·.oneCell') = true :=
  Array.all_eq_true_iff_forall_mem.2 (fun v hv => by
    simp only [bArr, List.mem_toArray, List.mem_map] at hv
    obtain ⟨_, _, rfl⟩ := hv
    rfl)

def wArr (m : List UInt8) : Array Value := ((List.range 64).map fun j => Value.int .u32 (wv m j : Int)).toArray
theorem wArr_size (m : List UInt8) : (wArr m).size = 64 := by simp [wArr]
theorem wArr_at (m : List UInt8) (j : Nat) (h : j < 64) : (wArr m)[j]? = some (.int .u32 (wv m j : Int)) := by simp [wArr, h]
theorem wArr_one (m : List UInt8) : (wArr m).all (·.oneCell') = true :=
  Array.all_eq_true_iff_forall_mem.2 (fun v hv => by
    simp only [wArr, List.mem_toArray, List.mem_map] at hv
    obtain ⟨_, _, rfl⟩ := hv
    rfl)

theorem zero_words (w : World) : (zeroValue 177).run Tryz.prog w = .ok (.agg (Array.replicate 64 (.int .u32 0))) w := by kernel_rfl

/-- A row of the call's own whose first k cells are the block's first k numbers. -/
structure WTab (w : World) (g k : Nat) (m : List UInt8) : Prop where
  row : ∃ C : Array Value, w.heap[g]? = some (.cells C 177 (0, 0)) ∧ C.size = 64 ∧ ∀ j, j < k → C[j]? = some (.int .u32 (wv m j : Int))

theorem WTab.step {w : World} {g k : Nat} {m : List UInt8} (h : WTab w g k m) (hk : k < 64) : WTab (w.setCell ⟨g, k, none⟩ (.int .u32 (wv m k : Int))) g (k + 1) m := by
  obtain ⟨C, hC, hs, hc⟩ := h.row
  refine ⟨C.setIfInBounds k (.int .u32 (wv m k : Int)), heap_setCell_same w g k C 177 _ hC, by simp [hs], fun j hj => ?_⟩
  by_cases e : j = k
  · subst e; rw [Array.getElem?_setIfInBounds_self, if_pos (by omega)]
  · rw [Array.getElem?_setIfInBounds_ne (by omega)]; exact hc j (by omega)

theorem other_set {w : World} {b g k : Nat} {v : Value} {o : Obj} (h : w.heap[b]? = some o) (hne : b ≠ g) : (w.setCell ⟨g, k, none⟩ v).heap[b]? = some o := by
  rw [heap_setCell_other w _ b _ hne]; exact h

theorem WTab.drew {w : World} {g k : Nat} {m : List UInt8} (h : WTab w g k m) : WTab w.drew g k m := ⟨h.row⟩

theorem wtab_eq {C : Array Value} {m : List UInt8} (hs : C.size = 64) (hc : ∀ j, j < 64 → C[j]? = some (.int .u32 (wv m j : Int))) : C = wArr m := by
  apply Array.ext
  · simp [hs, wArr_size]
  · intro j h1 h2
    have a1 := hc j (by omega)
    have a2 := wArr_at m j (by omega)
    rw [Array.getElem?_eq_getElem h1] at a1
    rw [Array.getElem?_eq_getElem h2] at a2
    simp at a1 a2
    rw [a1, a2]

theorem below_drewN {B : Nat} {w w' : World} (h : Below B w w') (n : Nat) : Below B w (w'.drewN n) := ⟨h.os, h.tape, h.output, h.size, h.block⟩

theorem alloc3 (w : World) (a b c : Obj) : (((w.alloc a).alloc b).alloc c).heap[w.heap.size]? = some a ∧ (((w.alloc a).alloc b).alloc c).heap[w.heap.size + 1]? = some b ∧ (((w.alloc a).alloc b).alloc c).heap[w.heap.size + 1 + 1]? = some c := by
  have e : (((w.alloc a).alloc b).alloc c).heap = ((w.heap.push a).push b).push c := rfl
  rw [e]
  refine ⟨?_, ?_, ?_⟩
  · rw [Array.getElem?_push_lt (by simp; omega), ← Array.getElem?_eq_getElem, Array.getElem?_push_lt (by simp), ← Array.getElem?_eq_getElem, Array.getElem?_push_size]
  · rw [Array.getElem?_push_lt (by simp), ← Array.getElem?_eq_getElem]
    have := Array.getElem?_push_size (xs := w.heap.push a) (x := b)
    simpa using this
  · have := Array.getElem?_push_size (xs := (w.heap.push a).push b) (x := c)
    simpa using this

set_option maxRecDepth 20000 in
set_option maxHeartbeats 1000000 in
theorem expand_any (m : List UInt8) (w : World) :
    Calls Tryz.prog 198 #[.agg (bArr m)] w fun e w' => e = .returned (.agg (wArr m)) ∧ Below w.heap.size w w' := by
  obtain ⟨Z, hZ⟩ : ∃ Z : Array Value, Z = Array.replicate 64 (.int .u32 0) := ⟨_, rfl⟩
  have hz := zero_words
  rw [← hZ] at hz
  have hzs : Z.size = 64 := by rw [hZ]; simp
  have HZ := Lib.hid hzs
  have hBs := Lib.hid (bArr_size m)
  have hBat := Lib.hid (bArr_at m)
  have hB1 := bArr_one m
  generalize bArr m = B at hBs hBat hB1 ⊢
  clear hzs hZ
  go_enter Tryz.func198, Tryz.ntmps198
  go_wp2
  obtain ⟨q, hq⟩ : ∃ q, q = w.heap.size := ⟨_, rfl⟩
  obtain ⟨w1, hw1⟩ : ∃ w1, w1 = ((w.alloc (.cells B 201)).alloc (.cells Z 177)).alloc (.cells Z 177) := ⟨_, rfl⟩
  obtain ⟨hb0, hp0, hg0⟩ := alloc3 w (.cells B 201) (.cells Z 177) (.cells Z 177)
  rw [← hw1, ← hq] at hb0 hp0 hg0
  have hrow : WTab w1 (q + 1 + 1) 0 m := ⟨Z, hg0, HZ.out, fun j hj => by omega⟩
  have hB0 : Below w.heap.size w w1 := by
    rw [hw1]; exact (((Below.refl _ _).alloc (Nat.le_refl _) _).alloc (by simp) _).alloc (by simp; omega) _
  have HQ := Lib.hid hq
  rw [← hq, ← hw1]
  clear hw1 hq hz hg0
  go_loopw [6] (fun i wr => ∃ k : Nat, k ≤ 16 ∧ i = .int .i64 k ∧ WTab wr (q + 1 + 1) k m ∧ wr.heap[q]? = some (.cells B 201 (0, 0)) ∧ wr.heap[q + 1]? = some (.cells Z 177 (0, 0)) ∧ Below w.heap.size w wr) (fun i _ => 16 - (intOf i).toNat)
  case atStart => exact ⟨0, by omega, rfl, hrow, hb0, hp0, hB0⟩
  case round =>
    clear hrow hb0 hp0 hB0
    obtain ⟨k, hk, rfl, hrow, hb0, hp0, hB0⟩ := hrel
    by_cases hlt : k < 16
    · have hcB := fun j (hj : j < 64) => (cell_of_row wr q j B 201 (0, 0) hb0).trans (hBat.out j hj)
      have c0 := hcB (4 * k) (by omega)
      have c1 := hcB (4 * k + 1) (by omega)
      have c2 := hcB (4 * k + 2) (by omega)
      have c3 := hcB (4 * k + 3) (by omega)
      have l0 := byt_lt m (4 * k)
      have l1 := byt_lt m (4 * k + 1)
      have l2 := byt_lt m (4 * k + 2)
      have l3 := byt_lt m (4 * k + 3)
      have e := be4_bits _ _ _ _ l0 l1 l2 l3
      rw [← wv_low m k hlt] at e
      have hst := WTab.step hrow (show k < 64 by omega)
      obtain ⟨C, hC, hsz, hcs⟩ := hrow.row
      have hfree : wr.frozen? ⟨q + 1 + 1, k, none⟩ = false := frozen_of_row wr _ k C 177 hC
      obtain ⟨u, hu⟩ : ∃ u, C[k]? = some u := ⟨_, Array.getElem?_eq_getElem (by omega)⟩
      have hck : wr.cell? ⟨q + 1 + 1, k, none⟩ = some u := (cell_of_row wr _ k C 177 (0, 0) hC).trans hu
      generalize byt m (4 * k) = x0 at c0 l0 e
      generalize byt m (4 * k + 1) = x1 at c1 l1 e
      generalize byt m (4 * k + 2) = x2 at c2 l2 e
      generalize byt m (4 * k + 3) = x3 at c3 l3 e
      generalize wv m k = y at e hst
      have HS := Lib.hid hst
      have H0 := Lib.hid hb0
      have H1 := Lib.hid hp0
      have H2 := Lib.hid hB0
      clear hst hb0 hp0 hB0 hC hcs hu hrow hcB
      go_wp2
      go_region
      all_goals go_wp2
      go_roundw
      case rel => exact ⟨k + 1, by omega, by go_num, HS.out.drew, other_set H0.out (by omega), other_set H1.out (by omega), (H2.out.setCell (by have := HQ.out; show w.heap.size ≤ q + 1 + 1; omega) _).drew⟩
      case measure => simp [intOf]; omega
    · have hk16 : k = 16 := by omega
      rw [hk16] at hrow
      go_wp2
      clear hk hk16 hlt
      go_loopw [5] (fun i wr => ∃ k : Nat, 16 ≤ k ∧ k ≤ 64 ∧ i = .int .i64 k ∧ WTab wr (q + 1 + 1) k m ∧ wr.heap[q]? = some (.cells B 201 (0, 0)) ∧ wr.heap[q + 1]? = some (.cells Z 177 (0, 0)) ∧ Below w.heap.size w wr) (fun i _ => 64 - (intOf i).toNat)
      case atStart => exact ⟨16, by omega, by omega, rfl, hrow, hb0, hp0, hB0⟩
      case round =>
        clear hrow hb0 hp0 hB0
        obtain ⟨k, hk, hk2, rfl, hrow, hb0, hp0, hB0⟩ := hrel
        by_cases hlt2 : k < 64
        · have hst := WTab.step hrow hlt2
          obtain ⟨C, hC, hsz, hcs⟩ := hrow.row
          have hcell : ∀ j, j < k → wr.cell? ⟨q + 1 + 1, j, none⟩ = some (.int .u32 (wv m j : Int)) := fun j hj => (cell_of_row wr _ j C 177 (0, 0) hC).trans (hcs j hj)
          have e := wv_high m k (by omega)
          obtain ⟨k16, hk16⟩ : ∃ j, j = k - 16 := ⟨_, rfl⟩
          have g16 : IntKind.i64.wrap ((k : Int) - 16) = (k16 : Int) := by rw [IntWalk.i64_in _ (by omega)]; omega
          have a16 : (0 : Int) ≤ (k16 : Int) := by omega
          have b16 : (k16 : Int) < 64 := by omega
          have n16 : k16 < k := by omega
          rw [← hk16] at e
          have c0 := hcell k16 (by omega)
          obtain ⟨k15, hk15⟩ : ∃ j, j = k - 15 := ⟨_, rfl⟩
          have g15 : IntKind.i64.wrap ((k : Int) - 15) = (k15 : Int) := by rw [IntWalk.i64_in _ (by omega)]; omega
          have a15 : (0 : Int) ≤ (k15 : Int) := by omega
          have b15 : (k15 : Int) < 64 := by omega
          have n15 : k15 < k := by omega
          rw [← hk15] at e
          have c1 := hcell k15 (by omega)
          obtain ⟨k7, hk7⟩ : ∃ j, j = k - 7 := ⟨_, rfl⟩
          have g7 : IntKind.i64.wrap ((k : Int) - 7) = (k7 : Int) := by rw [IntWalk.i64_in _ (by omega)]; omega
          have a7 : (0 : Int) ≤ (k7 : Int) := by omega
          have b7 : (k7 : Int) < 64 := by omega
          have n7 : k7 < k := by omega
          rw [← hk7] at e
          have c9 := hcell k7 (by omega)
          obtain ⟨k2, hk2⟩ : ∃ j, j = k - 2 := ⟨_, rfl⟩
          have g2 : IntKind.i64.wrap ((k : Int) - 2) = (k2 : Int) := by rw [IntWalk.i64_in _ (by omega)]; omega
          have a2 : (0 : Int) ≤ (k2 : Int) := by omega
          have b2 : (k2 : Int) < 64 := by omega
          have n2 : k2 < k := by omega
          rw [← hk2] at e
          have c14 := hcell k2 (by omega)
          have hfree : wr.frozen? ⟨q + 1 + 1, k, none⟩ = false := frozen_of_row wr _ k C 177 hC
          obtain ⟨u, hu⟩ : ∃ u, C[k]? = some u := ⟨_, Array.getElem?_eq_getElem (by omega)⟩
          have hck : wr.cell? ⟨q + 1 + 1, k, none⟩ = some u := (cell_of_row wr _ k C 177 (0, 0) hC).trans hu
          have l0 := wv_lt m k16
          have l1 := wv_lt m k15
          have l9 := wv_lt m k7
          have l14 := wv_lt m k2
          generalize wv m k16 = x0 at c0 l0 e
          generalize wv m k15 = x1 at c1 l1 e
          generalize wv m k7 = x9 at c9 l9 e
          generalize wv m k2 = x14 at c14 l14 e
          generalize wv m k = y at e hst
          have HM1 := Lib.hid (fun w => mixed_a x1 w l1)
          have HM2 := Lib.hid (fun w => mixed_b x14 w l14)
          generalize sml0 x1 = s0 at e HM1
          generalize sml1 x14 = s1 at e HM2
          have hv : IntKind.u32.wrap (IntKind.u32.wrap (IntKind.u32.wrap ((s1 : Int) + (x9 : Int)) + (s0 : Int)) + (x0 : Int)) = (y : Int) := by
            rw [IntKind.wrap_u32, IntKind.wrap_u32, IntKind.wrap_u32, e]; omega
          have HV := Lib.hid hv
          have HS := Lib.hid hst
          have H0 := Lib.hid hb0
          have H1 := Lib.hid hp0
          have H2 := Lib.hid hB0
          have hkeep : ∀ (r : Nat) (v : Value), ((wr.drewN r).setCell ⟨q + 1 + 1, k, none⟩ v).cell? ⟨q + 1 + 1, k16, none⟩ = some (.int .u32 (x0 : Int)) ∧ ((wr.drewN r).setCell ⟨q + 1 + 1, k, none⟩ v).cell? ⟨q + 1 + 1, k15, none⟩ = some (.int .u32 (x1 : Int)) ∧ ((wr.drewN r).setCell ⟨q + 1 + 1, k, none⟩ v).cell? ⟨q + 1 + 1, k7, none⟩ = some (.int .u32 (x9 : Int)) ∧ ((wr.drewN r).setCell ⟨q + 1 + 1, k, none⟩ v).cell? ⟨q + 1 + 1, k2, none⟩ = some (.int .u32 (x14 : Int)) := fun r v =>
            ⟨(World.cell?_setCell_other _ _ _ _ (by simp)).trans c0, (World.cell?_setCell_other _ _ _ _ (by simp)).trans c1, (World.cell?_setCell_other _ _ _ _ (by simp)).trans c9, (World.cell?_setCell_other _ _ _ _ (by simp)).trans c14⟩
          have HK := Lib.hid hkeep
          clear hst hb0 hp0 hB0 hC hcs hu hrow hcell e hv l1 l14 hsz hkeep hk16 hk15 hk7 hk2
          have a0 : (0 : Int) ≤ (k : Int) := by omega
          have b0 : (k : Int) < 64 := by omega
          go_wp2
          go_region_held3 (fun w' => w'.cell? ⟨q + 1 + 1, k16, none⟩ = some (.int .u32 (x0 : Int)) ∧ w'.cell? ⟨q + 1 + 1, k15, none⟩ = some (.int .u32 (x1 : Int)) ∧ w'.cell? ⟨q + 1 + 1, k7, none⟩ = some (.int .u32 (x9 : Int)) ∧ w'.cell? ⟨q + 1 + 1, k2, none⟩ = some (.int .u32 (x14 : Int))) (first | exact ⟨c0, c1, c9, c14⟩ | exact HK.out _ _)
            (first
            | (go_at_call 201; with_reducible refine (HM2.out _).mono ?_; rintro r w' ⟨rfl, n1, rfl⟩)
            | (go_at_call 201; with_reducible refine (HM1.out _).mono ?_; rintro r w' ⟨rfl, n1, rfl⟩))
          rename_i n0 hHeld
          clear hHeld
          rw [HV.out]
          go_wp2
          go_roundw
          case rel => exact ⟨k + 1, by omega, by omega, by go_num, ⟨HS.out.row⟩, other_set H0.out (by omega), other_set H1.out (by omega), (below_drewN H2.out _).setCell (by have := HQ.out; show w.heap.size ≤ q + 1 + 1; omega) _⟩
          case measure => simp [intOf]; omega
        · obtain rfl : k = 64 := by omega
          obtain ⟨C, hC, hsz, hcs⟩ := hrow.row
          have hCT : C = wArr m := wtab_eq hsz hcs
          have hone : C.all (·.oneCell') = true := by rw [hCT]; exact wArr_one m
          have hi47 : (Tryz.prog.info? 177).map (·.size) = some C.size := by rw [hsz]; kernel_rfl
          have hZC : Z.size = C.size := by rw [HZ.out, hsz]
          have H1 := Lib.hid hCT
          have hB2 : Below w.heap.size w (wr.setRow (q + 1) C) := below_setRow hB0 (by have := HQ.out; omega) _
          have hrw := setRow_heap wr (q + 1) Z C 177 (0, 0) hp0
          clear hCT hcs hrow hb0
          go_wp2_with (first | (with_reducible refine wpList_load_row (o := ⟨some 68, _, _, _, _, _⟩) rfl 177 (.tmp 3) rfl (q + 1 + 1) rfl 177 C (0, 0) _ hC Tryz.underlying177 rfl hi47 ?_) | (with_reducible refine wpList_store_row (o := ⟨none, _, _, _, _, _⟩) rfl 177 (.tmp 2) (.tmp 68) rfl (q + 1) C rfl rfl 177 Z hp0 hi47 hZC hone ?_))
          refine bodyPost_ret (v := .agg C) (results_cell_row (p := 2) (ty := 177) rfl _ _ (q + 1) 177 C (0, 0) _ rfl hrw Tryz.underlying177 rfl hi47) rfl ⟨by rw [H1.out], hB2⟩
end Go.Proofs.YtpkeikbiblfidaaGreatDoor.Dg
/-
  Contracts: one round's numbers; the program's next.
-/
namespace Go.Proofs.YtpkeikbiblfidaaGreatDoor.Dg
open Go.RowKit
set_option linter.unusedVariables false

/-- The program's table of constants lies as it was laid. -/
def Kon (w : World) : Prop := ∀ j, j < 64 → w.cell? ⟨2, j, none⟩ = some (.int .u32 (konAt j : Int))

def stArr (s : St) : Array Value := #[.int .u32 (s.a : Int), .int .u32 (s.b : Int), .int .u32 (s.c : Int), .int .u32 (s.d : Int), .int .u32 (s.e : Int), .int .u32 (s.f : Int), .int .u32 (s.g : Int), .int .u32 (s.h : Int)]

theorem not32 (n : Nat) (h : n < 4294967296) : bits .xor .u32 IntKind.u32.max (n : Int) = ((4294967295 - n : Nat) : Int) := by
  have h0 : 4294967295 ^^^ n = 4294967295 - n := by
    have h1 : (BitVec.allOnes 32 ^^^ BitVec.ofNat 32 n).toNat = 4294967295 ^^^ n := by
      rw [BitVec.toNat_xor, BitVec.toNat_allOnes, BitVec.toNat_ofNat, Nat.mod_eq_of_lt (by omega)]
    rw [← h1, BitVec.allOnes_xor, BitVec.toNat_not, BitVec.toNat_ofNat, Nat.mod_eq_of_lt (by omega)]
  have := u32_xor_nat 4294967295 n (by omega) h
  rw [h0] at this
  exact this

theorem ch_bits (e f g : Nat) (he : e < 4294967296) (hf : f < 4294967296) (hg : g < 4294967296) :
    bits .xor .u32 (bits .and .u32 (e : Int) (f : Int)) (bits .and .u32 (bits .xor .u32 IntKind.u32.max (e : Int)) (g : Int)) = (chN e f g : Int) := by
  rw [not32 e he, u32_and_nat e f he hf, u32_and_nat _ g (by omega) hg, u32_xor_nat _ _ (and_lt _ _ hf) (and_lt _ _ hg)]
  rfl

theorem maj_bits (a b c : Nat) (ha : a < 4294967296) (hb : b < 4294967296) (hc : c < 4294967296) :
    bits .xor .u32 (bits .xor .u32 (bits .and .u32 (a : Int) (b : Int)) (bits .and .u32 (a : Int) (c : Int))) (bits .and .u32 (b : Int) (c : Int)) = (majN a b c : Int) := by
  rw [u32_and_nat a b ha hb, u32_and_nat a c ha hc, u32_and_nat b c hb hc, u32_xor_nat _ _ (and_lt _ _ hb) (and_lt _ _ hc), u32_xor_nat _ _ (xor_lt _ _ (and_lt _ _ hb) (and_lt _ _ hc)) (and_lt _ _ hc)]
  rfl

theorem big0_lt (n : Nat) (h : n < 4294967296) : big0 n < 4294967296 := xor_lt _ _ (xor_lt _ _ (rotr_lt _ _ h) (rotr_lt _ _ h)) (rotr_lt _ _ h)
theorem big1_lt (n : Nat) (h : n < 4294967296) : big1 n < 4294967296 := xor_lt _ _ (xor_lt _ _ (rotr_lt _ _ h) (rotr_lt _ _ h)) (rotr_lt _ _ h)
theorem ch_lt (e f g : Nat) (hf : f < 4294967296) (hg : g < 4294967296) : chN e f g < 4294967296 := xor_lt _ _ (and_lt _ _ hf) (and_lt _ _ hg)
theorem maj_lt (a b c : Nat) (hb : b < 4294967296) (hc : c < 4294967296) : majN a b c < 4294967296 := xor_lt _ _ (xor_lt _ _ (and_lt _ _ hb) (and_lt _ _ hc)) (and_lt _ _ hc)

theorem rnd_ok (s : St) (k w : Nat) (h : s.ok) : (rnd s k w).ok := by
  obtain ⟨h1, h2, h3, h4, h5, h6, h7, h8⟩ := h
  exact ⟨Nat.mod_lt _ (by omega), h1, h2, h3, Nat.mod_lt _ (by omega), h5, h6, h7⟩

theorem rds_ok (ks ws : List Nat) (s : St) (h : s.ok) : ∀ k, (rds ks ws s k).ok
  | 0 => h
  | k + 1 => rnd_ok _ _ _ (rds_ok ks ws s h k)

theorem addSt_ok (s t : St) : (addSt s t).ok :=
  ⟨Nat.mod_lt _ (by omega), Nat.mod_lt _ (by omega), Nat.mod_lt _ (by omega), Nat.mod_lt _ (by omega), Nat.mod_lt _ (by omega), Nat.mod_lt _ (by omega), Nat.mod_lt _ (by omega), Nat.mod_lt _ (by omega)⟩

theorem nxt_ok (s : St) (m : List UInt8) : (nxt s m).ok := addSt_ok _ _

theorem kon_lt : ∀ i : Fin 64, konAt i.val < 4294967296 := by decide +kernel

theorem turned_e (n : Nat) (w : World) (hn : n < 4294967296) :
    Calls Tryz.prog 199 #[.int .u32 n, .int .i64 6, .int .i64 11, .int .i64 25] w fun e w' => e = .returned (.int .u32 (big1 n : Int)) ∧ w' = w :=
  (turned_any n 6 11 25 w hn (by omega) (by omega) (by omega) (by omega) (by omega) (by omega)).mono fun e w' ⟨h1, h2⟩ => ⟨h1, h2.symm⟩

theorem turned_a (n : Nat) (w : World) (hn : n < 4294967296) :
    Calls Tryz.prog 199 #[.int .u32 n, .int .i64 2, .int .i64 13, .int .i64 22] w fun e w' => e = .returned (.int .u32 (big0 n : Int)) ∧ w' = w :=
  (turned_any n 2 13 22 w hn (by omega) (by omega) (by omega) (by omega) (by omega) (by omega)).mono fun e w' ⟨h1, h2⟩ => ⟨h1, h2.symm⟩

theorem zero_state (w : World) : (zeroValue 157).run Tryz.prog w = .ok (.agg (Array.replicate 8 (.int .u32 0))) w := by kernel_rfl

theorem stArr_one (s : St) : (stArr s).all (·.oneCell') = true := by simp [stArr, Value.oneCell']

/-- 'a[i]' of an array of one-celled values. -/
theorem index_row {P : Program} (t e : TypeId) (n : Nat) (T : Array Value) (i : Nat) (v : Value) (w : World) (hu : P.underlying t = some (.array n e)) (hs : ∀ w, (sizeOf e).run P w = .ok 1 w) (ha : ∀ w, (isAgg e).run P w = .ok false w) (hi : i < n) (hT : T[i]? = some v) :
    (Instr.index t (.agg T) (.int .i64 (i : Int))).run P w = .ok v w := by
  have h1 : (0 : Int) ≤ (i : Int) ∧ (i : Int) < (n : Int) := by omega
  simp [Instr.index, run_underlying hu, asIntOf, hi, hs, ha, hT, go_sem]

set_option maxRecDepth 20000 in
set_option maxHeartbeats 1000000 in
theorem next_any (s : St) (m : List UInt8) (w : World) (hs : s.ok) (hK : Kon w) :
    Calls Tryz.prog 189 #[.agg (stArr s), .agg (bArr m)] w fun e w' => e = .returned (.agg (stArr (nxt s m))) ∧ Below w.heap.size w w' := by
  have hok := Lib.hid hs
  have HX := Lib.hid (expand_any m)
  have hKl := fun j (hj : j < 64) => World.block_lt_of_cell? w _ (hK j hj)
  have HKl := Lib.hid hKl
  have HK := Lib.hid hK
  have hBs := Lib.hid (bArr_size m)
  have hB1 := bArr_one m
  have hi41 : (Tryz.prog.info? 201).map (·.size) = some (bArr m).size := by rw [bArr_size]; kernel_rfl
  generalize bArr m = B at hBs hB1 HX hi41 ⊢
  obtain ⟨A, hA⟩ : ∃ A, A = stArr s := ⟨_, rfl⟩
  have hA1 := stArr_one s
  have hAs : (stArr s).size = 8 := rfl
  have hAat : A[0]? = some (.int .u32 (s.a : Int)) ∧ A[1]? = some (.int .u32 (s.b : Int)) ∧ A[2]? = some (.int .u32 (s.c : Int)) ∧ A[3]? = some (.int .u32 (s.d : Int)) ∧
    A[4]? = some (.int .u32 (s.e : Int)) ∧ A[5]? = some (.int .u32 (s.f : Int)) ∧ A[6]? = some (.int .u32 (s.g : Int)) ∧ A[7]? = some (.int .u32 (s.h : Int)) := by subst hA; exact ⟨rfl, rfl, rfl, rfl, rfl, rfl, rfl, rfl⟩
  rw [← hA] at hA1 hAs ⊢
  have HA := Lib.hid hAat
  have HAs := Lib.hid hAs
  obtain ⟨Z, hZ⟩ : ∃ Z : Array Value, Z = Array.replicate 8 (.int .u32 0) := ⟨_, rfl⟩
  have hz := zero_state
  rw [← hZ] at hz
  have HZs := Lib.hid (show Z.size = 8 by rw [hZ]; simp)
  obtain ⟨Y, hY⟩ : ∃ Y : Array Value, Y = Array.replicate 64 (.int .u32 0) := ⟨_, rfl⟩
  have hy := zero_words
  rw [← hY] at hy
  have HYs := Lib.hid (show Y.size = 64 by rw [hY]; simp)
  clear hs hKl hK hAat hAs hA hZ hY
  obtain ⟨hA0, hB0, hZ0⟩ := alloc3 w (.cells A 157) (.cells B 201) (.cells Z 157)
  have hBel : Below w.heap.size w (((w.alloc (.cells A 157)).alloc (.cells B 201)).alloc (.cells Z 157)) :=
    (((Below.refl _ _).alloc (Nat.le_refl _) _).alloc (by simp) _).alloc (by simp; omega) _
  have H1 := Lib.hid hA0
  have H3 := Lib.hid hZ0
  have HB := Lib.hid hBel
  clear hA0 hZ0 hBel
  go_enter Tryz.func189, Tryz.ntmps189
  go_wp2_with (with_reducible refine wpList_load_row (o := ⟨some 20, _, _, _, _, _⟩) rfl 201 (.tmp 3) rfl (w.heap.size + 1) rfl 201 B (0, 0) _ hB0 Tryz.underlying201 rfl hi41 ?_)
  refine (HX.out _).mono ?_
  rintro e w2 ⟨rfl, hb2⟩
  obtain ⟨w1, hw1⟩ : ∃ w1, w1 = ((w.alloc (.cells A 157)).alloc (.cells B 201)).alloc (.cells Z 157) := ⟨_, rfl⟩
  obtain ⟨q, hq⟩ : ∃ q, q = w.heap.size := ⟨_, rfl⟩
  have hsz1 : w1.heap.size = q + 3 := by rw [hw1, hq]; simp
  have A1 := H1.out
  have A3 := H3.out
  have AB := HB.out
  rw [← hw1] at A1 A3 AB hb2
  rw [← hq] at A1 A3 ⊢
  have HQ := Lib.hid hq
  clear hw1 hB0 H1 H3 HB hz hq
  obtain ⟨T, hT⟩ : ∃ T, T = wArr m := ⟨_, rfl⟩
  have hTs := wArr_size m
  have hTat := wArr_at m
  have hT1 := wArr_one m
  rw [← hT] at hTs hTat hT1 ⊢
  have hi47 : (Tryz.prog.info? 177).map (·.size) = some T.size := by rw [hTs]; kernel_rfl
  have hYT : Y.size = T.size := by rw [HYs.out, hTs]
  have hnew := heap_alloc_new w2 (.cells Y 177)
  clear hT
  go_wp2_with (with_reducible refine wpList_store_row (o := ⟨none, _, _, _, _, _⟩) rfl 177 (.tmp 5) (.tmp 21) rfl w2.heap.size T rfl rfl 177 Y hnew hi47 hYT hT1 ?_)
  have hb3 : Below w1.heap.size w1 ((w2.alloc (.cells Y 177)).setRow w2.heap.size T) := below_setRow (hb2.alloc hb2.size _) hb2.size _
  have hrow := setRow_heap (w2.alloc (.cells Y 177)) w2.heap.size Y T 177 (0, 0) hnew
  obtain ⟨g, hg⟩ : ∃ g, g = w2.heap.size := ⟨_, rfl⟩
  rw [← hg] at hb3 hrow ⊢
  obtain ⟨w3, hw3⟩ : ∃ w3, w3 = (w2.alloc (.cells Y 177)).setRow g T := ⟨_, rfl⟩
  rw [← hw3] at hb3 hrow ⊢
  have hA3 : w3.heap[q]? = some (.cells A 157 (0, 0)) := (hb3.block q (by omega)).trans A1
  have hZ3 : w3.heap[q + 1 + 1]? = some (.cells Z 157 (0, 0)) := (hb3.block _ (by omega)).trans A3
  have hk3 : ∀ j, j < 64 → w3.cell? ⟨2, j, none⟩ = some (.int .u32 (konAt j : Int)) := fun j hj => by
    have hlt := HKl.out j hj
    rw [hb3.cell (by show 2 < _; omega), AB.cell (by show 2 < _; have := HQ.out; omega)]
    exact HK.out j hj
  have hB3 : Below w.heap.size w w3 := AB.trans (hb3.mono (by have := HQ.out; omega))
  obtain ⟨a0, a1, a2, a3, a4, a5, a6, a7⟩ := HA.out
  have c0 : w3.cell? ⟨q, 0, none⟩ = _ := (cell_of_row w3 q 0 A 157 (0, 0) hA3).trans a0
  have c1 : w3.cell? ⟨q, 1, none⟩ = _ := (cell_of_row w3 q 1 A 157 (0, 0) hA3).trans a1
  have c2 : w3.cell? ⟨q, 2, none⟩ = _ := (cell_of_row w3 q 2 A 157 (0, 0) hA3).trans a2
  have c3 : w3.cell? ⟨q, 3, none⟩ = _ := (cell_of_row w3 q 3 A 157 (0, 0) hA3).trans a3
  have c4 : w3.cell? ⟨q, 4, none⟩ = _ := (cell_of_row w3 q 4 A 157 (0, 0) hA3).trans a4
  have c5 : w3.cell? ⟨q, 5, none⟩ = _ := (cell_of_row w3 q 5 A 157 (0, 0) hA3).trans a5
  have c6 : w3.cell? ⟨q, 6, none⟩ = _ := (cell_of_row w3 q 6 A 157 (0, 0) hA3).trans a6
  have c7 : w3.cell? ⟨q, 7, none⟩ = _ := (cell_of_row w3 q 7 A 157 (0, 0) hA3).trans a7
  have HC := Lib.hid (And.intro c0 (And.intro c1 (And.intro c2 (And.intro c3 (And.intro c4 (And.intro c5 (And.intro c6 c7)))))))
  have HR := Lib.hid hrow
  have HZ3 := Lib.hid hZ3
  have HK3 := Lib.hid hk3
  have HB3 := Lib.hid hB3
  clear hw3 hg hb2 hb3 hA3 A1 A3 AB hy hYT hT1 hnew hrow hZ3 hk3 hB3 a0 a1 a2 a3 a4 a5 a6 a7 HK HKl hsz1 hA1
  go_wp2_with fail
  go_quiet (fail)
  clear c0 c1 c2 c3
  generalize hw4 : w3.drewN nq = w4
  have c4 : w4.cell? ⟨q, 4, none⟩ = some (.int .u32 (s.e : Int)) := by rw [← hw4]; exact c4
  have c5 : w4.cell? ⟨q, 5, none⟩ = some (.int .u32 (s.f : Int)) := by rw [← hw4]; exact c5
  have c6 : w4.cell? ⟨q, 6, none⟩ = some (.int .u32 (s.g : Int)) := by rw [← hw4]; exact c6
  have c7 : w4.cell? ⟨q, 7, none⟩ = some (.int .u32 (s.h : Int)) := by rw [← hw4]; exact c7
  have H4 := Lib.hid hw4
  clear hw4
  go_wp2_with fail
  go_quiet (fail)
  clear c4 c5 c6 c7
  generalize hw5 : w4.drewN nq = w5
  have e5 : w5.heap = w3.heap := by rw [← hw5, ← H4.out]; rfl
  have r5 : w5.heap[g]? = some (.cells T 177 (0, 0)) := by rw [e5]; exact HR.out
  have B5 : Below w.heap.size w w5 := by rw [← hw5, ← H4.out]; exact below_drewN (below_drewN HB3.out _) _
  have HB5 := Lib.hid B5
  have HE5 := Lib.hid e5
  have HT := Lib.hid hTat
  have HTs := Lib.hid hTs
  clear hw5 H4 e5 B5 hTat hTs
  go_wp2_with (with_reducible refine wpList_load_row (o := ⟨some 38, _, _, _, _, _⟩) rfl 177 (.tmp 5) rfl g rfl 177 T (0, 0) _ r5 Tryz.underlying177 rfl hi47 ?_)
  clear r5
  obtain ⟨S, hS⟩ : ∃ S, S = rds kon (wds m 64) s := ⟨_, rfl⟩
  have hS0 : S 0 = s := by rw [hS]; rfl
  have hSs : ∀ k, k < 64 → S (k + 1) = rnd (S k) (konAt k) (wv m k) := fun k hk => by
    rw [hS]; show rnd (rds kon (wds m 64) s k) (kon.getD k 0) ((wds m 64).getD k 0) = _
    rw [wds_at m 64 k hk]; rfl
  have hSk : ∀ k, (S k).ok := fun k => by rw [hS]; exact rds_ok _ _ s hok.out k
  have hSn : nxt s m = addSt s (S 64) := by rw [hS]; rfl
  have HS0 := Lib.hid hS0
  have HSs := Lib.hid hSs
  have HSk := Lib.hid hSk
  have HSn := Lib.hid hSn
  clear hS hS0 hSs hSk hSn
  go_loopw [39, 6, 7, 8, 9, 10, 11, 12, 13] (fun i a b c d e f g' h' wr => ∃ k : Nat, k ≤ 64 ∧ i = .int .i64 k ∧ a = .int .u32 ((S k).a : Int) ∧ b = .int .u32 ((S k).b : Int) ∧ c = .int .u32 ((S k).c : Int) ∧ d = .int .u32 ((S k).d : Int) ∧
    e = .int .u32 ((S k).e : Int) ∧ f = .int .u32 ((S k).f : Int) ∧ g' = .int .u32 ((S k).g : Int) ∧ h' = .int .u32 ((S k).h : Int) ∧ ∃ r, wr = w5.drewN r) (fun i _ _ _ _ _ _ _ _ _ => 64 - (intOf i).toNat)
  case atStart => exact ⟨0, by omega, rfl, by rw [HS0.out], by rw [HS0.out], by rw [HS0.out], by rw [HS0.out], by rw [HS0.out], by rw [HS0.out], by rw [HS0.out], by rw [HS0.out], 0, rfl⟩
  case round =>
    obtain ⟨k, hk, rfl, rfl, rfl, rfl, rfl, rfl, rfl, rfl, rfl, r, hr⟩ := hrel
    by_cases hlt : k < 64
    · have hT := fun w => index_row (P := Tryz.prog) 177 150 64 T k _ w Tryz.underlying177 (fun _ => by kernel_rfl) (fun _ => by kernel_rfl) hlt (HT.out k hlt)
      have hkc : wr.cell? ⟨2, k, none⟩ = some (.int .u32 (konAt k : Int)) := by
        rw [hr, World.cell?_drewN, World.cell?_of_block (w := w3) (by rw [HE5.out])]; exact HK3.out k hlt
      have hst := HSs.out k hlt
      have hx := HSk.out k
      have lk := kon_lt ⟨k, hlt⟩
      have lw := wv_lt m k
      simp only at lk
      generalize konAt k = kk at hkc hst lk
      generalize wv m k = ww at hT hst lw
      generalize S k = t at hst hx ⊢
      obtain ⟨a, b, c, d, e, f, g', h'⟩ := t
      obtain ⟨x1, x2, x3, x4, x5, x6, x7, x8⟩ := hx
      simp only at x1 x2 x3 x4 x5 x6 x7 x8
      have hch := ch_bits e f g' x5 x6 x7
      have hmj := maj_bits a b c x1 x2 x3
      have lch := ch_lt e f g' x6 x7
      have lmj := maj_lt a b c x2 x3
      have l0 := big0_lt a x1
      have l1 := big1_lt e x5
      have T0 := Lib.hid (fun w => turned_a a w x1)
      have T1 := Lib.hid (fun w => turned_e e w x5)
      unfold rnd at hst
      simp only at hst
      generalize chN e f g' = ch at hch hst lch
      generalize majN a b c = mj at hmj hst lmj
      generalize big0 a = b0 at T0 hst l0
      generalize big1 e = b1 at T1 hst l1
      have HS := Lib.hid hst
      have HR6 := Lib.hid hr
      have i1 : (0 : Int) ≤ (k : Int) := by omega
      have i2 : (k : Int) < 64 := by omega
      clear hst hr c4 c5 c6 c7
      go_wp2_with fail
      go_quiet ((go_at_call 199; with_reducible exact Calls.quiet_of_same (T1.out _)))
      go_wp2_with fail
      refine (T0.out _).mono ?_
      rintro e' w' ⟨rfl, rfl⟩
      go_wp2
      go_roundw
      case rel => exact ⟨k + 1, by omega, by go_num, by rw [HS.out]; refine congrArg (Value.int .u32) ?_; simp only; omega, by rw [HS.out], by rw [HS.out], by rw [HS.out], by rw [HS.out]; refine congrArg (Value.int .u32) ?_; simp only; omega, by rw [HS.out], by rw [HS.out], by rw [HS.out], _, by rw [HR6.out, World.drewN_drewN]⟩
      case measure => simp [intOf]; omega
    · obtain rfl : k = 64 := by omega
      obtain ⟨c0, c1, c2, c3, c4, c5, c6, c7⟩ := HC.out
      have hcl : ∀ (o : Nat) (v : Value), w3.cell? ⟨q, o, none⟩ = some v → wr.cell? ⟨q, o, none⟩ = some v := fun o v hv => by
        rw [hr, World.cell?_drewN, World.cell?_of_block (w := w3) (by rw [HE5.out])]; exact hv
      have c0 := hcl _ _ c0
      have c1 := hcl _ _ c1
      have c2 := hcl _ _ c2
      have c3 := hcl _ _ c3
      have c4 := hcl _ _ c4
      have c5 := hcl _ _ c5
      have c6 := hcl _ _ c6
      have c7 := hcl _ _ c7
      have hZ6 : wr.heap[q + 1 + 1]? = some (.cells Z 157 (0, 0)) := by rw [hr]; show w5.heap[q + 1 + 1]? = _; rw [HE5.out]; exact HZ3.out
      have B6 : Below w.heap.size w wr := by rw [hr]; exact below_drewN HB5.out _
      have HB6 := Lib.hid B6
      obtain ⟨R, hR⟩ : ∃ R, R = stArr (nxt s m) := ⟨_, rfl⟩
      have hR0 : (#[.int .u32 ((((s.a : Nat) : Int) + (((S 64).a : Nat) : Int)) % 4294967296), .int .u32 ((((s.b : Nat) : Int) + (((S 64).b : Nat) : Int)) % 4294967296), .int .u32 ((((s.c : Nat) : Int) + (((S 64).c : Nat) : Int)) % 4294967296), .int .u32 ((((s.d : Nat) : Int) + (((S 64).d : Nat) : Int)) % 4294967296), .int .u32 ((((s.e : Nat) : Int) + (((S 64).e : Nat) : Int)) % 4294967296), .int .u32 ((((s.f : Nat) : Int) + (((S 64).f : Nat) : Int)) % 4294967296), .int .u32 ((((s.g : Nat) : Int) + (((S 64).g : Nat) : Int)) % 4294967296), .int .u32 ((((s.h : Nat) : Int) + (((S 64).h : Nat) : Int)) % 4294967296)] : Array Value) = R := by
        rw [hR, HSn.out]; simp [stArr, addSt]
      have hR1 : R.all (·.oneCell') = true := by rw [hR]; exact stArr_one _
      have hi36 : (Tryz.prog.info? 157).map (·.size) = some R.size := by rw [hR]; kernel_rfl
      have hZR : Z.size = R.size := by rw [HZs.out, hR]; rfl
      have hrw := setRow_heap wr (q + 1 + 1) Z R 157 (0, 0) hZ6
      have HRR := Lib.hid hR
      clear hcl hr B6 hR
      go_wp2_with (with_reducible refine wpList_store_row (o := ⟨none, _, _, _, _, _⟩) rfl 157 (.tmp 4) (.tmp 123) rfl (q + 1 + 1) R rfl rfl 157 Z hZ6 hi36 hZR hR1 ?_)
      have hB7 : Below w.heap.size w (wr.setRow (q + 1 + 1) R) := below_setRow HB6.out (by have := HQ.out; omega) _
      refine bodyPost_ret (v := .agg R) (results_cell_row (p := 4) (ty := 157) rfl _ _ (q + 1 + 1) 157 R (0, 0) _ rfl hrw Tryz.underlying157 rfl hi36) rfl ⟨by rw [HRR.out], hB7⟩
end Go.Proofs.YtpkeikbiblfidaaGreatDoor.Dg
/-
  Contracts: the reference's block.
-/
namespace Go.Proofs.YtpkeikbiblfidaaGreatDoor.Dg
open Go.RowKit
set_option linter.unusedVariables false

theorem build_words (w : World) : (Instr.build 177 #[]).run Tryz.prog w = .ok (.agg (Array.replicate 64 (.int .u32 0))) w := by kernel_rfl

/-- A row of cells that reads as the table of constants. -/
def KonAt (w : World) (b : Nat) : Prop := ∀ j, j < 64 → w.cell? ⟨b, j, none⟩ = some (.int .u32 (konAt j : Int))

theorem rturn_lit (n i : Nat) (c : Int) (w : World) (hc : c = (i : Int)) (hn : n < 4294967296) (hi : 0 < i) (hi2 : i < 32) :
    Calls Tryz.prog 163 #[.int .u32 n, .int .u64 c] w fun e w' => e = .returned (.int .u32 (rotr n i : Int)) ∧ w' = w := by
  subst hc
  exact (rturn_any n i w hn hi hi2).mono fun e w' ⟨h1, h2⟩ => ⟨h1, h2.symm⟩

theorem sml0_bits (n : Nat) (hn : n < 4294967296) : bits .xor .u32 (bits .xor .u32 (rotr n 7 : Int) (rotr n 18 : Int)) ((n : Int) / 8) = (sml0 n : Int) := by
  rw [u32_xor_nat _ _ (rotr_lt n 7 hn) (rotr_lt n 18 hn)]
  have := u32_xor_nat (rotr n 7 ^^^ rotr n 18) (n / 8) (xor_lt _ _ (rotr_lt n 7 hn) (rotr_lt n 18 hn)) (by omega)
  unfold sml0
  rw [← this]
  simp

theorem sml1_bits (n : Nat) (hn : n < 4294967296) : bits .xor .u32 (bits .xor .u32 (rotr n 17 : Int) (rotr n 19 : Int)) ((n : Int) / 1024) = (sml1 n : Int) := by
  rw [u32_xor_nat _ _ (rotr_lt n 17 hn) (rotr_lt n 19 hn)]
  have := u32_xor_nat (rotr n 17 ^^^ rotr n 19) (n / 1024) (xor_lt _ _ (rotr_lt n 17 hn) (rotr_lt n 19 hn)) (by omega)
  unfold sml1
  rw [← this]
  simp

theorem big0_bits (n : Nat) (hn : n < 4294967296) : bits .xor .u32 (bits .xor .u32 (rotr n 2 : Int) (rotr n 13 : Int)) (rotr n 22 : Int) = (big0 n : Int) := by
  rw [u32_xor_nat _ _ (rotr_lt n 2 hn) (rotr_lt n 13 hn), u32_xor_nat _ _ (xor_lt _ _ (rotr_lt n 2 hn) (rotr_lt n 13 hn)) (rotr_lt n 22 hn)]
  rfl

theorem big1_bits (n : Nat) (hn : n < 4294967296) : bits .xor .u32 (bits .xor .u32 (rotr n 6 : Int) (rotr n 11 : Int)) (rotr n 25 : Int) = (big1 n : Int) := by
  rw [u32_xor_nat _ _ (rotr_lt n 6 hn) (rotr_lt n 11 hn), u32_xor_nat _ _ (xor_lt _ _ (rotr_lt n 6 hn) (rotr_lt n 11 hn)) (rotr_lt n 25 hn)]
  rfl

set_option maxRecDepth 20000 in
set_option maxHeartbeats 2000000 in
theorem rblock_any (s : St) (m : List UInt8) (kb kc b off cap : Nat) (w : World) (hs : s.ok) (hK : KonAt w kb) (hR : Rd w (some ⟨b, off, none⟩) 64 cap m) :
    Calls Tryz.prog 138 #[.agg (stArr s), .slice (some ⟨kb, 0, none⟩) 64 kc, .slice (some ⟨b, off, none⟩) 64 cap] w fun e w' => e = .returned (.agg (stArr (nxt s m))) ∧ Below w.heap.size w w' := by
  have hok := Lib.hid hs
  have hKl := World.block_lt_of_cell? w _ (hK 0 (by omega))
  have HK := Lib.hid hK
  obtain ⟨b', off', hbo, hbl, hcm⟩ := hR.at0 (by omega)
  obtain ⟨rfl, rfl⟩ : b = b' ∧ off = off' := by simpa using hbo
  have HM := Lib.hid hcm
  have HBl := Lib.hid hbl
  have HKl := Lib.hid hKl
  obtain ⟨A, hA⟩ : ∃ A, A = stArr s := ⟨_, rfl⟩
  have hA1 := stArr_one s
  have hAs : (stArr s).size = 8 := rfl
  have hAat : A[0]? = some (.int .u32 (s.a : Int)) ∧ A[1]? = some (.int .u32 (s.b : Int)) ∧ A[2]? = some (.int .u32 (s.c : Int)) ∧ A[3]? = some (.int .u32 (s.d : Int)) ∧
    A[4]? = some (.int .u32 (s.e : Int)) ∧ A[5]? = some (.int .u32 (s.f : Int)) ∧ A[6]? = some (.int .u32 (s.g : Int)) ∧ A[7]? = some (.int .u32 (s.h : Int)) := by subst hA; exact ⟨rfl, rfl, rfl, rfl, rfl, rfl, rfl, rfl⟩
  rw [← hA] at hA1 hAs ⊢
  have HA := Lib.hid hAat
  obtain ⟨Z, hZ⟩ : ∃ Z : Array Value, Z = Array.replicate 8 (.int .u32 0) := ⟨_, rfl⟩
  have hz := zero_state
  rw [← hZ] at hz
  have HZs := Lib.hid (show Z.size = 8 by rw [hZ]; simp)
  obtain ⟨Y, hY⟩ : ∃ Y : Array Value, Y = Array.replicate 64 (.int .u32 0) := ⟨_, rfl⟩
  have hy := zero_words
  have hbd := build_words
  rw [← hY] at hy hbd
  have HYs := Lib.hid (show Y.size = 64 by rw [hY]; simp)
  have hYo : Y.all (·.oneCell') = true := by rw [hY]; exact Array.all_eq_true_iff_forall_mem.2 (fun v hv => by simp at hv; subst hv; rfl)
  have hi47 : (Tryz.prog.info? 177).map (·.size) = some Y.size := by rw [HYs.out]; kernel_rfl
  clear hs hKl hK hAat hAs hA hZ hY hbo hR hcm hbl
  obtain ⟨hA0, hZ0, hY0⟩ := alloc3 w (.cells A 157) (.cells Z 157) (.cells Y 177)
  have hBel : Below w.heap.size w (((w.alloc (.cells A 157)).alloc (.cells Z 157)).alloc (.cells Y 177)) :=
    (((Below.refl _ _).alloc (Nat.le_refl _) _).alloc (by simp) _).alloc (by simp; omega) _
  have H1 := Lib.hid hA0
  have H3 := Lib.hid hZ0
  have HB := Lib.hid hBel
  clear hA0 hZ0 hBel
  go_enter Tryz.func138, Tryz.ntmps138
  go_wp2_with (with_reducible refine wpList_store_row (o := ⟨none, _, _, _, _, _⟩) rfl 177 (.tmp 7) (.tmp 23) rfl (w.heap.size + 1 + 1) Y rfl rfl 177 Y hY0 hi47 rfl hYo ?_)
  obtain ⟨q, hq⟩ : ∃ q, q = w.heap.size := ⟨_, rfl⟩
  obtain ⟨w0, hw0⟩ : ∃ w0, w0 = ((w.alloc (.cells A 157)).alloc (.cells Z 157)).alloc (.cells Y 177) := ⟨_, rfl⟩
  have hrow := setRow_heap w0 (q + 1 + 1) Y Y 177 (0, 0) (by rw [hw0, hq]; exact hY0)
  have A1 := H1.out
  have A3 := H3.out
  have AB := HB.out
  rw [← hw0] at A1 A3 AB
  rw [← hq] at A1 A3 ⊢
  rw [← hw0]
  have hsz0 : w0.heap.size = q + 3 := by rw [hw0, hq]; simp
  have hb1 : Below (q + 1 + 1) w0 (w0.setRow (q + 1 + 1) Y) := below_setRow (Below.refl _ _) (Nat.le_refl _) _
  obtain ⟨w1, hw1⟩ : ∃ w1, w1 = w0.setRow (q + 1 + 1) Y := ⟨_, rfl⟩
  rw [← hw1] at hrow hb1 ⊢
  have hA1' : w1.heap[q]? = some (.cells A 157 (0, 0)) := (hb1.block q (by omega)).trans A1
  have hZ1 : w1.heap[q + 1]? = some (.cells Z 157 (0, 0)) := (hb1.block _ (by omega)).trans A3
  have hB1 : Below w.heap.size w w1 := AB.trans (hb1.mono (by omega))
  have hW1 : WTab w1 (q + 1 + 1) 0 m := ⟨Y, hrow, HYs.out, fun j hj => by omega⟩
  have HQ := Lib.hid hq
  clear hw0 hw1 hb1 hq A1 A3 AB hsz0 hrow H1 H3 HB hY0 hz hy hbd hYo hi47 hA1
  go_loopw [8] (fun i wr => ∃ k : Nat, k ≤ 16 ∧ i = .int .i64 k ∧ WTab wr (q + 1 + 1) k m ∧ wr.heap[q]? = some (.cells A 157 (0, 0)) ∧ wr.heap[q + 1]? = some (.cells Z 157 (0, 0)) ∧ Below w.heap.size w wr) (fun i _ => 16 - (intOf i).toNat)
  case atStart => exact ⟨0, by omega, rfl, hW1, hA1', hZ1, hB1⟩
  case round =>
    clear hW1 hA1' hZ1 hB1
    obtain ⟨k, hk, rfl, hrow, hb0, hp0, hB0⟩ := hrel
    by_cases hlt : k < 16
    · have hcB : ∀ j, j < 64 → wr.cell? ⟨b, off + j, none⟩ = some (.int .u8 (byt m j : Int)) := fun j hj => by
        rw [hB0.cell (by show b < _; exact HBl.out)]; exact HM.out j hj
      have c0 := hcB (4 * k) (by omega)
      have c1 := hcB (4 * k + 1) (by omega)
      have c2 := hcB (4 * k + 2) (by omega)
      have c3 := hcB (4 * k + 3) (by omega)
      have l0 := byt_lt m (4 * k)
      have l1 := byt_lt m (4 * k + 1)
      have l2 := byt_lt m (4 * k + 2)
      have l3 := byt_lt m (4 * k + 3)
      have e := be4_bits _ _ _ _ l0 l1 l2 l3
      rw [← wv_low m k hlt] at e
      have hst := WTab.step hrow (show k < 64 by omega)
      obtain ⟨C, hC, hsz, hcs⟩ := hrow.row
      have hfree : wr.frozen? ⟨q + 1 + 1, k, none⟩ = false := frozen_of_row wr _ k C 177 hC
      obtain ⟨u, hu⟩ : ∃ u, C[k]? = some u := ⟨_, Array.getElem?_eq_getElem (by omega)⟩
      have hck : wr.cell? ⟨q + 1 + 1, k, none⟩ = some u := (cell_of_row wr _ k C 177 (0, 0) hC).trans hu
      generalize byt m (4 * k) = x0 at c0 l0 e
      generalize byt m (4 * k + 1) = x1 at c1 l1 e
      generalize byt m (4 * k + 2) = x2 at c2 l2 e
      generalize byt m (4 * k + 3) = x3 at c3 l3 e
      generalize wv m k = y at e hst
      have HS := Lib.hid hst
      have H0 := Lib.hid hb0
      have H1 := Lib.hid hp0
      have H2 := Lib.hid hB0
      clear hst hb0 hp0 hB0 hC hcs hu hrow hcB
      go_wp2
      go_region
      all_goals go_wp2
      go_roundw
      case rel => exact ⟨k + 1, by omega, by go_num, HS.out.drew, other_set H0.out (by omega), other_set H1.out (by omega), (H2.out.setCell (by have := HQ.out; show w.heap.size ≤ q + 1 + 1; omega) _).drew⟩
      case measure => simp [intOf]; omega
    · have hk16 : k = 16 := by omega
      rw [hk16] at hrow
      go_wp2
      clear hk hk16 hlt
      go_loopw [9] (fun i wr => ∃ k : Nat, 16 ≤ k ∧ k ≤ 64 ∧ i = .int .i64 k ∧ WTab wr (q + 1 + 1) k m ∧ wr.heap[q]? = some (.cells A 157 (0, 0)) ∧ wr.heap[q + 1]? = some (.cells Z 157 (0, 0)) ∧ Below w.heap.size w wr) (fun i _ => 64 - (intOf i).toNat)
      case atStart => exact ⟨16, by omega, by omega, rfl, hrow, hb0, hp0, hB0⟩
      case round =>
        clear hrow hb0 hp0 hB0
        obtain ⟨k, hk, hk2, rfl, hrow, hb0, hp0, hB0⟩ := hrel
        by_cases hlt2 : k < 64
        · have hst := WTab.step hrow hlt2
          obtain ⟨C, hC, hsz, hcs⟩ := hrow.row
          have hcell : ∀ j, j < k → wr.cell? ⟨q + 1 + 1, j, none⟩ = some (.int .u32 (wv m j : Int)) := fun j hj => (cell_of_row wr _ j C 177 (0, 0) hC).trans (hcs j hj)
          have e := wv_high m k (by omega)
          obtain ⟨k16, hk16⟩ : ∃ j, j = k - 16 := ⟨_, rfl⟩
          have g16 : IntKind.i64.wrap ((k : Int) - 16) = (k16 : Int) := by rw [IntWalk.i64_in _ (by omega)]; omega
          have a16 : (0 : Int) ≤ (k16 : Int) := by omega
          have b16 : (k16 : Int) < 64 := by omega
          have n16 : k16 < k := by omega
          rw [← hk16] at e
          have c0 := hcell k16 (by omega)
          obtain ⟨k15, hk15⟩ : ∃ j, j = k - 15 := ⟨_, rfl⟩
          have g15 : IntKind.i64.wrap ((k : Int) - 15) = (k15 : Int) := by rw [IntWalk.i64_in _ (by omega)]; omega
          have a15 : (0 : Int) ≤ (k15 : Int) := by omega
          have b15 : (k15 : Int) < 64 := by omega
          have n15 : k15 < k := by omega
          rw [← hk15] at e
          have c1 := hcell k15 (by omega)
          obtain ⟨k7, hk7⟩ : ∃ j, j = k - 7 := ⟨_, rfl⟩
          have g7 : IntKind.i64.wrap ((k : Int) - 7) = (k7 : Int) := by rw [IntWalk.i64_in _ (by omega)]; omega
          have a7 : (0 : Int) ≤ (k7 : Int) := by omega
          have b7 : (k7 : Int) < 64 := by omega
          have n7 : k7 < k := by omega
          rw [← hk7] at e
          have c9 := hcell k7 (by omega)
          obtain ⟨k2, hk2⟩ : ∃ j, j = k - 2 := ⟨_, rfl⟩
          have g2 : IntKind.i64.wrap ((k : Int) - 2) = (k2 : Int) := by rw [IntWalk.i64_in _ (by omega)]; omega
          have a2 : (0 : Int) ≤ (k2 : Int) := by omega
          have b2 : (k2 : Int) < 64 := by omega
          have n2 : k2 < k := by omega
          rw [← hk2] at e
          have c14 := hcell k2 (by omega)
          have hfree : wr.frozen? ⟨q + 1 + 1, k, none⟩ = false := frozen_of_row wr _ k C 177 hC
          obtain ⟨u, hu⟩ : ∃ u, C[k]? = some u := ⟨_, Array.getElem?_eq_getElem (by omega)⟩
          have hck : wr.cell? ⟨q + 1 + 1, k, none⟩ = some u := (cell_of_row wr _ k C 177 (0, 0) hC).trans hu
          have l0 := wv_lt m k16
          have l1 := wv_lt m k15
          have l9 := wv_lt m k7
          have l14 := wv_lt m k2
          generalize wv m k16 = x0 at c0 l0 e
          generalize wv m k15 = x1 at c1 l1 e
          generalize wv m k7 = x9 at c9 l9 e
          generalize wv m k2 = x14 at c14 l14 e
          generalize wv m k = y at e hst
          have HM1 := Lib.hid (fun w => rturn_lit x1 7 7 w rfl l1 (by omega) (by omega))
          have HM2 := Lib.hid (fun w => rturn_lit x1 18 18 w rfl l1 (by omega) (by omega))
          have HM3 := Lib.hid (fun w => rturn_lit x14 17 17 w rfl l14 (by omega) (by omega))
          have HM4 := Lib.hid (fun w => rturn_lit x14 19 19 w rfl l14 (by omega) (by omega))
          have es0 := sml0_bits x1 l1
          have es1 := sml1_bits x14 l14
          generalize rotr x1 7 = r7 at HM1 es0
          generalize rotr x1 18 = r18 at HM2 es0
          generalize rotr x14 17 = r17 at HM3 es1
          generalize rotr x14 19 = r19 at HM4 es1
          generalize sml0 x1 = s0 at e es0
          generalize sml1 x14 = s1 at e es1
          have hv : IntKind.u32.wrap (IntKind.u32.wrap (IntKind.u32.wrap ((x0 : Int) + (s0 : Int)) + (x9 : Int)) + (s1 : Int)) = (y : Int) := by
            rw [IntKind.wrap_u32, IntKind.wrap_u32, IntKind.wrap_u32, e]; omega
          have HV := Lib.hid hv
          have HS := Lib.hid hst
          have H0 := Lib.hid hb0
          have H1 := Lib.hid hp0
          have H2 := Lib.hid hB0
          have a0 : (0 : Int) ≤ (k : Int) := by omega
          have b0 : (k : Int) < 64 := by omega
          have hkeep : ∀ (r : Nat) (v : Value), ((wr.drewN r).setCell ⟨q + 1 + 1, k, none⟩ v).cell? ⟨q + 1 + 1, k16, none⟩ = some (.int .u32 (x0 : Int)) ∧ ((wr.drewN r).setCell ⟨q + 1 + 1, k, none⟩ v).cell? ⟨q + 1 + 1, k7, none⟩ = some (.int .u32 (x9 : Int)) := fun r v =>
            ⟨(World.cell?_setCell_other _ _ _ _ (by simp)).trans c0, (World.cell?_setCell_other _ _ _ _ (by simp)).trans c9⟩
          have HK2 := Lib.hid hkeep
          clear hst hb0 hp0 hB0 hC hcs hu hrow hcell e hv l1 l14 hsz hkeep hk16 hk15 hk7 hk2
          go_wp2_with fail
          go_region_held3 (fun w' => w'.cell? ⟨q + 1 + 1, k16, none⟩ = some (.int .u32 (x0 : Int)) ∧ w'.cell? ⟨q + 1 + 1, k7, none⟩ = some (.int .u32 (x9 : Int))) (first | exact ⟨c0, c9⟩ | exact HK2.out 1 _ | exact HK2.out _ _)
            (first
            | (go_at_call 163; with_reducible refine (HM1.out _).mono ?_; rintro r w' ⟨rfl, rfl⟩)
            | (go_at_call 163; with_reducible refine (HM2.out _).mono ?_; rintro r w' ⟨rfl, rfl⟩)
            | (go_at_call 163; with_reducible refine (HM3.out _).mono ?_; rintro r w' ⟨rfl, rfl⟩)
            | (go_at_call 163; with_reducible refine (HM4.out _).mono ?_; rintro r w' ⟨rfl, rfl⟩))
          rename_i hHeld
          clear hHeld
          rw [HV.out]
          go_wp2
          go_roundw
          case rel => exact ⟨k + 1, by omega, by omega, by go_num, ⟨HS.out.row⟩, other_set H0.out (by omega), other_set H1.out (by omega), (H2.out.setCell (by have := HQ.out; show w.heap.size ≤ q + 1 + 1; omega) _).drew⟩
          case measure => simp [intOf]; omega
        · have hk64 : k = 64 := by omega
          rw [hk64] at hrow
          obtain ⟨C, hC, hsz, hcs⟩ := hrow.row
          have hwc : ∀ j, j < 64 → wr.cell? ⟨q + 1 + 1, j, none⟩ = some (.int .u32 (wv m j : Int)) := fun j hj => (cell_of_row wr _ j C 177 (0, 0) hC).trans (hcs j hj)
          have hkc : ∀ j, j < 64 → wr.cell? ⟨kb, j, none⟩ = some (.int .u32 (konAt j : Int)) := fun j hj => by
            rw [hB0.cell (by show kb < _; exact HKl.out)]; exact HK.out j hj
          obtain ⟨a0, a1, a2, a3, a4, a5, a6, a7⟩ := HA.out
          have c0 : wr.cell? ⟨q, 0, none⟩ = _ := (cell_of_row wr q 0 A 157 (0, 0) hb0).trans a0
          have c1 : wr.cell? ⟨q, 1, none⟩ = _ := (cell_of_row wr q 1 A 157 (0, 0) hb0).trans a1
          have c2 : wr.cell? ⟨q, 2, none⟩ = _ := (cell_of_row wr q 2 A 157 (0, 0) hb0).trans a2
          have c3 : wr.cell? ⟨q, 3, none⟩ = _ := (cell_of_row wr q 3 A 157 (0, 0) hb0).trans a3
          have c4 : wr.cell? ⟨q, 4, none⟩ = _ := (cell_of_row wr q 4 A 157 (0, 0) hb0).trans a4
          have c5 : wr.cell? ⟨q, 5, none⟩ = _ := (cell_of_row wr q 5 A 157 (0, 0) hb0).trans a5
          have c6 : wr.cell? ⟨q, 6, none⟩ = _ := (cell_of_row wr q 6 A 157 (0, 0) hb0).trans a6
          have c7 : wr.cell? ⟨q, 7, none⟩ = _ := (cell_of_row wr q 7 A 157 (0, 0) hb0).trans a7
          have HC := Lib.hid (And.intro c0 (And.intro c1 (And.intro c2 (And.intro c3 (And.intro c4 (And.intro c5 (And.intro c6 c7)))))))
          have HWc := Lib.hid hwc
          have HKc := Lib.hid hkc
          have HZ5 := Lib.hid hp0
          have HB5 := Lib.hid hB0
          obtain ⟨S, hS⟩ : ∃ S, S = rds kon (wds m 64) s := ⟨_, rfl⟩
          have hS0 : S 0 = s := by rw [hS]; rfl
          have hSs : ∀ k, k < 64 → S (k + 1) = rnd (S k) (konAt k) (wv m k) := fun k hk => by
            rw [hS]; show rnd (rds kon (wds m 64) s k) (kon.getD k 0) ((wds m 64).getD k 0) = _
            rw [wds_at m 64 k hk]; rfl
          have hSk : ∀ k, (S k).ok := fun k => by rw [hS]; exact rds_ok _ _ s hok.out k
          have hSn : nxt s m = addSt s (S 64) := by rw [hS]; rfl
          have HS0 := Lib.hid hS0
          have HSs := Lib.hid hSs
          have HSk := Lib.hid hSk
          have HSn := Lib.hid hSn
          clear hS hS0 hSs hSk hSn hwc hkc hp0 hB0 hb0 hC hcs hsz hrow a0 a1 a2 a3 a4 a5 a6 a7
          go_wp2
          clear c0 c1 c2 c3 c4 c5 c6 c7 hk hk2 hk64 hlt2
          obtain ⟨w5, hw5⟩ : ∃ w5, w5 = wr := ⟨_, rfl⟩
          rw [← hw5]
          have HW5 := Lib.hid hw5
          clear hw5
          go_loopw [20, 12, 13, 14, 15, 16, 17, 18, 19] (fun i a b c d e f g' h' wr => ∃ k : Nat, k ≤ 64 ∧ i = .int .i64 k ∧ a = .int .u32 ((S k).a : Int) ∧ b = .int .u32 ((S k).b : Int) ∧ c = .int .u32 ((S k).c : Int) ∧ d = .int .u32 ((S k).d : Int) ∧
            e = .int .u32 ((S k).e : Int) ∧ f = .int .u32 ((S k).f : Int) ∧ g' = .int .u32 ((S k).g : Int) ∧ h' = .int .u32 ((S k).h : Int) ∧ ∃ r, wr = w5.drewN r) (fun i _ _ _ _ _ _ _ _ _ => 64 - (intOf i).toNat)
          case atStart => exact ⟨0, by omega, rfl, by rw [HS0.out], by rw [HS0.out], by rw [HS0.out], by rw [HS0.out], by rw [HS0.out], by rw [HS0.out], by rw [HS0.out], by rw [HS0.out], 0, rfl⟩
          case round =>
            obtain ⟨k, hk, rfl, rfl, rfl, rfl, rfl, rfl, rfl, rfl, rfl, r, hr⟩ := hrel
            by_cases hlt : k < 64
            · have hkc : wr.cell? ⟨kb, k, none⟩ = some (.int .u32 (konAt k : Int)) := by rw [hr, World.cell?_drewN, HW5.out]; exact HKc.out k hlt
              have hwc : wr.cell? ⟨q + 1 + 1, k, none⟩ = some (.int .u32 (wv m k : Int)) := by rw [hr, World.cell?_drewN, HW5.out]; exact HWc.out k hlt
              have hst := HSs.out k hlt
              have hx := HSk.out k
              have lk := kon_lt ⟨k, hlt⟩
              have lw := wv_lt m k
              simp only at lk
              generalize konAt k = kk at hkc hst lk
              generalize wv m k = ww at hwc hst lw
              generalize S k = t at hst hx ⊢
              obtain ⟨a, b, c, d, e, f, g', h'⟩ := t
              obtain ⟨x1, x2, x3, x4, x5, x6, x7, x8⟩ := hx
              simp only at x1 x2 x3 x4 x5 x6 x7 x8
              have hch := ch_bits e f g' x5 x6 x7
              have hch2 : bits .xor .u32 (bits .and .u32 (e : Int) (f : Int)) (bits .and .u32 (bits .xor .u32 (if IntKind.u32.signed = true then -1 else IntKind.u32.max) (e : Int)) (g' : Int)) = (chN e f g' : Int) := ch_bits e f g' x5 x6 x7
              have hmj := maj_bits a b c x1 x2 x3
              have lch := ch_lt e f g' x6 x7
              have lmj := maj_lt a b c x2 x3
              have l0 := big0_lt a x1
              have l1 := big1_lt e x5
              have e0 := big0_bits a x1
              have e1 := big1_bits e x5
              have T6 := Lib.hid (fun w => rturn_lit e 6 6 w rfl x5 (by omega) (by omega))
              have T11 := Lib.hid (fun w => rturn_lit e 11 11 w rfl x5 (by omega) (by omega))
              have T25 := Lib.hid (fun w => rturn_lit e 25 25 w rfl x5 (by omega) (by omega))
              have T2 := Lib.hid (fun w => rturn_lit a 2 2 w rfl x1 (by omega) (by omega))
              have T13 := Lib.hid (fun w => rturn_lit a 13 13 w rfl x1 (by omega) (by omega))
              have T22 := Lib.hid (fun w => rturn_lit a 22 22 w rfl x1 (by omega) (by omega))
              unfold rnd at hst
              simp only at hst
              generalize chN e f g' = ch at hch hch2 hst lch
              generalize majN a b c = mj at hmj hst lmj
              generalize big0 a = b0 at e0 hst l0
              generalize big1 e = b1 at e1 hst l1
              generalize rotr e 6 = r6 at T6 e1
              generalize rotr e 11 = r11 at T11 e1
              generalize rotr e 25 = r25 at T25 e1
              generalize rotr a 2 = r2 at T2 e0
              generalize rotr a 13 = r13 at T13 e0
              generalize rotr a 22 = r22 at T22 e0
              have HS := Lib.hid hst
              have HR6 := Lib.hid hr
              have i1 : (0 : Int) ≤ (k : Int) := by omega
              have i2 : (k : Int) < 64 := by omega
              clear hst hr
              go_wp2_with fail
              go_quiet (first
                | (go_at_call 163; with_reducible exact Calls.quiet_of_same (T6.out _))
                | (go_at_call 163; with_reducible exact Calls.quiet_of_same (T11.out _))
                | (go_at_call 163; with_reducible exact Calls.quiet_of_same (T25.out _)))
              go_wp2_with (first
                | (go_at_call 163; with_reducible refine (T2.out _).mono ?_; rintro e' w' ⟨rfl, rfl⟩)
                | (go_at_call 163; with_reducible refine (T13.out _).mono ?_; rintro e' w' ⟨rfl, rfl⟩)
                | (go_at_call 163; with_reducible refine (T22.out _).mono ?_; rintro e' w' ⟨rfl, rfl⟩))
              go_roundw
              case rel => exact ⟨k + 1, by omega, by go_num, by rw [HS.out]; refine congrArg (Value.int .u32) ?_; simp only; omega, by rw [HS.out], by rw [HS.out], by rw [HS.out], by rw [HS.out]; refine congrArg (Value.int .u32) ?_; simp only; omega, by rw [HS.out], by rw [HS.out], by rw [HS.out], _, by rw [HR6.out, World.drewN_drewN]⟩
              case measure => simp [intOf]; omega
            · obtain rfl : k = 64 := by omega
              obtain ⟨c0, c1, c2, c3, c4, c5, c6, c7⟩ := HC.out
              rw [← HW5.out] at c0 c1 c2 c3 c4 c5 c6 c7
              have hcl : ∀ (o : Nat) (v : Value), w5.cell? ⟨q, o, none⟩ = some v → wr.cell? ⟨q, o, none⟩ = some v := fun o v hv => by
                rw [hr, World.cell?_drewN]; exact hv
              have c0 := hcl _ _ c0
              have c1 := hcl _ _ c1
              have c2 := hcl _ _ c2
              have c3 := hcl _ _ c3
              have c4 := hcl _ _ c4
              have c5 := hcl _ _ c5
              have c6 := hcl _ _ c6
              have c7 := hcl _ _ c7
              have hZ6 : wr.heap[q + 1]? = some (.cells Z 157 (0, 0)) := by rw [hr]; show w5.heap[q + 1]? = _; rw [HW5.out]; exact HZ5.out
              have B6 : Below w.heap.size w wr := by rw [hr]; refine below_drewN ?_ _; rw [HW5.out]; exact HB5.out
              have HB6 := Lib.hid B6
              obtain ⟨R, hR⟩ : ∃ R, R = stArr (nxt s m) := ⟨_, rfl⟩
              have hR0 : (#[.int .u32 ((((s.a : Nat) : Int) + (((S 64).a : Nat) : Int)) % 4294967296), .int .u32 ((((s.b : Nat) : Int) + (((S 64).b : Nat) : Int)) % 4294967296), .int .u32 ((((s.c : Nat) : Int) + (((S 64).c : Nat) : Int)) % 4294967296), .int .u32 ((((s.d : Nat) : Int) + (((S 64).d : Nat) : Int)) % 4294967296), .int .u32 ((((s.e : Nat) : Int) + (((S 64).e : Nat) : Int)) % 4294967296), .int .u32 ((((s.f : Nat) : Int) + (((S 64).f : Nat) : Int)) % 4294967296), .int .u32 ((((s.g : Nat) : Int) + (((S 64).g : Nat) : Int)) % 4294967296), .int .u32 ((((s.h : Nat) : Int) + (((S 64).h : Nat) : Int)) % 4294967296)] : Array Value) = R := by
                rw [hR, HSn.out]; simp [stArr, addSt]
              have hR1 : R.all (·.oneCell') = true := by rw [hR]; exact stArr_one _
              have hi36 : (Tryz.prog.info? 157).map (·.size) = some R.size := by rw [hR]; kernel_rfl
              have hZR : Z.size = R.size := by rw [HZs.out, hR]; rfl
              have hrw := setRow_heap wr (q + 1) Z R 157 (0, 0) hZ6
              have HRR := Lib.hid hR
              clear hcl hr B6 hR
              go_wp2_with (with_reducible refine wpList_store_row (o := ⟨none, _, _, _, _, _⟩) rfl 157 (.tmp 6) (.tmp 216) rfl (q + 1) R rfl rfl 157 Z hZ6 hi36 hZR hR1 ?_)
              have hB7 : Below w.heap.size w (wr.setRow (q + 1) R) := below_setRow HB6.out (by have := HQ.out; omega) _
              refine bodyPost_ret (v := .agg R) (results_cell_row (p := 6) (ty := 157) rfl _ _ (q + 1) 157 R (0, 0) _ rfl hrw Tryz.underlying157 rfl hi36) rfl ⟨by rw [HRR.out], hB7⟩
end Go.Proofs.YtpkeikbiblfidaaGreatDoor.Dg

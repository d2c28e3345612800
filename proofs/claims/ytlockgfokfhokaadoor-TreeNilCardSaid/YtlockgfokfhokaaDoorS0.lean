/-
  Plain facts on SHA-256 over natural numbers: no program in sight.
-/
import Derived.Test.YtlockgfokfhokaaDoorA0
import Derived.WalkKit
import Derived.Laws.BitsAllLaws
namespace Go.Proofs.YtlockgfokfhokaaDoor
open Go.RowKit

/-- A number of 32 bits turned to the right. -/
def rotr (n k : Nat) : Nat := (n / 2 ^ k) ||| (n * 2 ^ (32 - k) % 4294967296)
def big0 (n : Nat) : Nat := (rotr n 2 ^^^ rotr n 13) ^^^ rotr n 22
def big1 (n : Nat) : Nat := (rotr n 6 ^^^ rotr n 11) ^^^ rotr n 25
def sml0 (n : Nat) : Nat := (rotr n 7 ^^^ rotr n 18) ^^^ (n / 8)
def sml1 (n : Nat) : Nat := (rotr n 17 ^^^ rotr n 19) ^^^ (n / 1024)
def chN (e f g : Nat) : Nat := (e &&& f) ^^^ ((4294967295 - e) &&& g)
def majN (a b c : Nat) : Nat := ((a &&& b) ^^^ (a &&& c)) ^^^ (b &&& c)

/-- The state: eight numbers. -/
structure St where
  a : Nat
  b : Nat
  c : Nat
  d : Nat
  e : Nat
  f : Nat
  g : Nat
  h : Nat

def St.ok (s : St) : Prop := s.a < 4294967296 ∧ s.b < 4294967296 ∧ s.c < 4294967296 ∧ s.d < 4294967296 ∧ s.e < 4294967296 ∧ s.f < 4294967296 ∧ s.g < 4294967296 ∧ s.h < 4294967296

/-- One round. -/
def rnd (s : St) (k w : Nat) : St :=
  ⟨(s.h + big1 s.e + chN s.e s.f s.g + k + w + big0 s.a + majN s.a s.b s.c) % 4294967296, s.a, s.b, s.c,
    (s.d + s.h + big1 s.e + chN s.e s.f s.g + k + w) % 4294967296, s.e, s.f, s.g⟩

def kon : List Nat := [
  0x428a2f98, 0x71374491, 0xb5c0fbcf, 0xe9b5dba5, 0x3956c25b, 0x59f111f1, 0x923f82a4, 0xab1c5ed5,
  0xd807aa98, 0x12835b01, 0x243185be, 0x550c7dc3, 0x72be5d74, 0x80deb1fe, 0x9bdc06a7, 0xc19bf174,
  0xe49b69c1, 0xefbe4786, 0x0fc19dc6, 0x240ca1cc, 0x2de92c6f, 0x4a7484aa, 0x5cb0a9dc, 0x76f988da,
  0x983e5152, 0xa831c66d, 0xb00327c8, 0xbf597fc7, 0xc6e00bf3, 0xd5a79147, 0x06ca6351, 0x14292967,
  0x27b70a85, 0x2e1b2138, 0x4d2c6dfc, 0x53380d13, 0x650a7354, 0x766a0abb, 0x81c2c92e, 0x92722c85,
  0xa2bfe8a1, 0xa81a664b, 0xc24b8b70, 0xc76c51a3, 0xd192e819, 0xd6990624, 0xf40e3585, 0x106aa070,
  0x19a4c116, 0x1e376c08, 0x2748774c, 0x34b0bcb5, 0x391c0cb3, 0x4ed8aa4a, 0x5b9cca4f, 0x682e6ff3,
  0x748f82ee, 0x78a5636f, 0x84c87814, 0x8cc70208, 0x90befffa, 0xa4506ceb, 0xbef9a3f7, 0xc67178f2]

def konAt (i : Nat) : Nat := kon.getD i 0

def st0 : St := ⟨0x6a09e667, 0xbb67ae85, 0x3c6ef372, 0xa54ff53a, 0x510e527f, 0x9b05688c, 0x1f83d9ab, 0x5be0cd19⟩

/-- Byte i. -/
def byt (m : List UInt8) (i : Nat) : Nat := (m[i]?.getD 0).toNat
def be4 (a b c d : Nat) : Nat := (((a * 16777216) ||| (b * 65536)) ||| (c * 256)) ||| d

/-- The block's numbers, so many of them. -/
def wnx (m : List UInt8) (l : List Nat) (k : Nat) : Nat :=
  if k < 16 then be4 (byt m (4 * k)) (byt m (4 * k + 1)) (byt m (4 * k + 2)) (byt m (4 * k + 3))
  else (l.getD (k - 16) 0 + sml0 (l.getD (k - 15) 0) + l.getD (k - 7) 0 + sml1 (l.getD (k - 2) 0)) % 4294967296
def wds (m : List UInt8) : Nat → List Nat
  | 0 => []
  | k + 1 => wds m k ++ [wnx m (wds m k) k]
def wdAt (m : List UInt8) (i : Nat) : Nat := (wds m 64).getD i 0

/-- So many rounds. -/
def rds (ks ws : List Nat) (s : St) : Nat → St
  | 0 => s
  | k + 1 => rnd (rds ks ws s k) (ks.getD k 0) (ws.getD k 0)

def addSt (s t : St) : St := ⟨(s.a + t.a) % 4294967296, (s.b + t.b) % 4294967296, (s.c + t.c) % 4294967296, (s.d + t.d) % 4294967296,
  (s.e + t.e) % 4294967296, (s.f + t.f) % 4294967296, (s.g + t.g) % 4294967296, (s.h + t.h) % 4294967296⟩

/-- The state behind a block. -/
def nxt (s : St) (m : List UInt8) : St := addSt s (rds kon (wds m 64) s 64)

/-- The state behind so many blocks. -/
def runB : Nat → St → List UInt8 → St
  | 0, s, _ => s
  | n + 1, s, xs => runB n (nxt s (xs.take 64)) (xs.drop 64)

def full (xs : List UInt8) : St := runB (xs.length / 64) st0 xs

def out4 (n : Nat) : List UInt8 := enc n 4
def outS (s : St) : List UInt8 := out4 s.a ++ out4 s.b ++ out4 s.c ++ out4 s.d ++ out4 s.e ++ out4 s.f ++ out4 s.g ++ out4 s.h

def out8 (n : Nat) : List UInt8 := enc n 8

/-- What comes behind n bytes. -/
def padN (n : Nat) : List UInt8 := (0x80 :: List.replicate (63 - (n + 8) % 64) 0) ++ out8 (n * 8 % 18446744073709551616)

/-- The digest. -/
def dig (xs : List UInt8) : List UInt8 := outS (full (xs ++ padN xs.length))

theorem dig_abc : (dig [97, 98, 99]).take 4 = [0xba, 0x78, 0x16, 0xbf] := by decide +kernel
end Go.Proofs.YtlockgfokfhokaaDoor


/-
  Contracts: the reference's Add and Sum.
-/
import Derived.Test.YtodcdefmoliegaaDoorK1
namespace Go.Proofs.YtodcdefmoliegaaDoor
open Go.RowKit
set_option linter.unusedVariables false

theorem xor_u8 (n : Nat) (x : UInt8) : bits .xor .u8 ((n : Int) % 256) (x.toNat : Int) = (((n % 256) ^^^ x.toNat : Nat) : Int) := by
  have hx := UInt8.toNat_lt x
  have := u8_xor_nat (n % 256) x.toNat (by omega) (by omega)
  rw [← this]
  simp

theorem xor_upd (n : Nat) (x : UInt8) (h : n < 4294967296) : bits .xor .u32 ((n : Int) / 256) (ent ((n % 256) ^^^ x.toNat) : Int) = ((upd n x.toNat : Nat) : Int) := by
  have hx := UInt8.toNat_lt x
  have hj := xor_byte_lt (n % 256) x.toNat (by omega) hx
  have := u32_xor_nat (n / 256) (ent ((n % 256) ^^^ x.toNat)) (by omega) (ent_lt _ (by omega))
  unfold upd
  rw [← this]
  simp

theorem not_nat (s : Nat) (h : s < 4294967296) : 4294967295 ^^^ s = 4294967295 - s := by
  have h1 : (BitVec.allOnes 32 ^^^ BitVec.ofNat 32 s).toNat = 4294967295 ^^^ s := by
    rw [BitVec.toNat_xor, BitVec.toNat_allOnes, BitVec.toNat_ofNat, Nat.mod_eq_of_lt (by omega)]
  have h2 : (BitVec.allOnes 32 ^^^ BitVec.ofNat 32 s) = ~~~ (BitVec.ofNat 32 s) := by
    rw [BitVec.allOnes_xor]
  rw [← h1, h2, BitVec.toNat_not, BitVec.toNat_ofNat, Nat.mod_eq_of_lt (by omega)]

theorem not_u32 (s : Nat) (h : s < 4294967296) : bits .xor .u32 IntKind.u32.max (s : Int) = ((4294967295 - s : Nat) : Int) := by
  have := u32_xor_nat 4294967295 s (by omega) h
  rw [not_nat s h] at this
  exact this



end Go.Proofs.YtodcdefmoliegaaDoor


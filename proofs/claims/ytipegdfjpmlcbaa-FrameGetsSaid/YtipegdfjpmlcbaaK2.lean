/-
  Contracts: the reference's Add and Sum.
-/
import Derived.Test.YtipegdfjpmlcbaaK1
namespace Go.Proofs.Ytipegdfjpmlcbaa
open Go.RowKit
set_option linter.unusedVariables false

theorem xor_u8 (n : Nat) (x : UInt8) : bits .xor .u8 ((n : Int) % 256) (x.toNat : Int) = (((n % 256) ^^^ x.toNat : Nat) : Int) := by
  have hx := UInt8.toNat_lt x
  have := u8_xor_nat (n % 256) x.toNat (by omega) (by omega)
  rw [← this]
  simp

theorem xor_upd (n : Nat) (x : UInt8) (h : n < 4294967296) : bits .xor .u32 ((n : Int) / 256) (ent ((n % 256) ^^^ x.toNat) : Int) = ((upd n x.toNat : Nat) : Int) := by
  have hx := UInt8.toNat_lt x
  have hj := xor_byte_lt (n % 256) x.toNat (by omega) hx
  have := u32_xor_nat (n / 256) (ent ((n % 256) ^^^ x.toNat)) (by omega) (ent_lt _ (by omega))
  unfold upd
  rw [← this]
  simp

theorem not_nat (s : Nat) (h : s < 4294967296) : 4294967295 ^^^ s = 4294967295 - s := by
  have h1 : (BitVec.allOnes 32 ^^^ BitVec.ofNat 32 s).toNat = 4294967295 ^^^ s := by
    rw [BitVec.toNat_xor, BitVec.toNat_allOnes, BitVec.toNat_ofNat, Nat.mod_eq_of_lt (by omega)]
  have h2 : (BitVec.allOnes 32 ^^^ BitVec.ofNat 32 s) = ~~~ (BitVec.ofNat 32 s) := by
    rw [BitVec.allOnes_xor]
  rw [← h1, h2, BitVec.toNat_not, BitVec.toNat_ofNat, Nat.mod_eq_of_lt (by omega)]

theorem not_u32 (s : Nat) (h : s < 4294967296) : bits .xor .u32 IntKind.u32.max (s : Int) = ((4294967295 - s : Nat) : Int) := by
  have := u32_xor_nat 4294967295 s (by omega) h
  rw [not_nat s h] at this
  exact this

set_option maxRecDepth 20000 in
set_option maxHeartbeats 400000 in
theorem radd_any (s : Nat) (a : Option Addr) (n cap : Nat) (xs : List UInt8) (w : World) (hR : Rd w a n cap xs) (hs : s < 4294967296) :
    Calls Try.prog 41 #[.int .u32 s, .slice a n cap] w fun e w' => e = .returned (.int .u32 (addN s xs : Int)) ∧ w = w' := by
  have hbig := hR.big
  have hlen := Lib.hid hR.len
  obtain ⟨t, ht⟩ : ∃ t, t = 4294967295 - s := ⟨_, rfl⟩
  have hnot := not_u32 s hs
  rw [← ht] at hnot
  have htl : t < 4294967296 := by omega
  have HT := Lib.hid ht
  clear ht
  go_enter Try.func41, Try.ntmps41
  go_wp2
  go_loop [5, 6] (fun t' i => ∃ k : Nat, k ≤ n ∧ i = .int .i64 k ∧ t' = .int .u32 (foldN t (xs.take k) : Int)) (fun _ i => n - (intOf i).toNat)
  case atStart => exact ⟨0, by omega, rfl, rfl⟩
  case round =>
    clear hnot
    obtain ⟨k, hk, rfl, rfl⟩ := hrel
    have hfl := foldN_lt t htl (xs.take k)
    by_cases hlt : k < n
    · obtain ⟨b, off, rfl, hb, hc⟩ := hR.at0 (by omega)
      have hcell := hc k hlt
      clear hc
      have hst := foldN_step t xs k (by rw [hlen.out]; exact hlt)
      obtain ⟨m, hm⟩ : ∃ m, m = foldN t (xs.take k) := ⟨_, rfl⟩
      rw [← hm] at hfl hst ⊢
      generalize xs[k]?.getD 0 = x at hcell hst
      have hx := UInt8.toNat_lt x
      have hj := xor_byte_lt (m % 256) x.toNat (by omega) hx
      have e1 := xor_u8 m x
      have e2 := xor_upd m x hfl
      generalize (m % 256) ^^^ x.toNat = j at hj e1 e2
      have HS := Lib.hid hst
      clear hst hm
      go_wp2_with (go_at_call 46; refine (rentry_any j _ hj).mono ?_; rintro r w' ⟨rfl, rfl⟩)
      go_round
      case rel => exact ⟨k + 1, by omega, by go_num, by rw [HS.out]⟩
      case measure => simp [intOf]; omega
    · have hfin := not_u32 _ hfl
      obtain rfl : k = n := by omega
      have htk : xs.take k = xs := List.take_of_length_le (by rw [hlen.out]; omega)
      rw [htk] at hfin ⊢
      go_wp2
      go_ret
      exact ⟨by unfold addN; rw [← HT.out]; rfl, rfl⟩

set_option maxRecDepth 20000 in
set_option maxHeartbeats 400000 in
theorem rsum_any (a : Option Addr) (n cap : Nat) (xs : List UInt8) (w : World) (h : Rd w a n cap xs) :
    Calls Try.prog 22 #[.slice a n cap] w fun e w' => e = .returned (.int .u32 (addN 0 xs : Int)) ∧ w = w' := by
  go_enter Try.func22, Try.ntmps22
  go_wp2_with (go_at_call 41; refine (radd_any 0 a n cap xs _ h (by omega)).mono ?_; rintro r w' ⟨rfl, rfl⟩)
  go_ret
  exact ⟨rfl, rfl⟩

end Go.Proofs.Ytipegdfjpmlcbaa


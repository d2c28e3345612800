/-
  Contracts: turns of numbers, of the program and of the reference.
-/
import Derived.Test.YtlockgfokfhokaaDoorB0
import Derived.Test.YtlockgfokfhokaaDoorS0
import Derived.BigQuiet
namespace Go.Proofs.YtlockgfokfhokaaDoor
open Go.RowKit
set_option linter.unusedVariables false

theorem rot_facts : ∀ i : Fin 32, 0 < i.val → bits .and .u64 (IntKind.u64.wrap (-(i.val : Int))) 31 = ((32 - i.val : Nat) : Int) := by decide +kernel

theorem rotr_or (n i : Nat) (hn : n < 4294967296) : bits .or .u32 ((n : Int) / 2 ^ i) ((n : Int) * 2 ^ (32 - i) % 4294967296) = ((rotr n i : Nat) : Int) := by
  have h1 : n / 2 ^ i < 4294967296 := Nat.lt_of_le_of_lt (Nat.div_le_self _ _) hn
  have := u32_or_nat (n / 2 ^ i) (n * 2 ^ (32 - i) % 4294967296) h1 (Nat.mod_lt _ (by omega))
  unfold rotr
  rw [← this]
  simp

theorem rotr_or' (n i : Nat) (hn : n < 4294967296) : bits .or .u32 ((n : Int) * 2 ^ (32 - i) % 4294967296) ((n : Int) / 2 ^ i) = ((rotr n i : Nat) : Int) := by
  have h1 : n / 2 ^ i < 4294967296 := Nat.lt_of_le_of_lt (Nat.div_le_self _ _) hn
  have := u32_or_nat (n * 2 ^ (32 - i) % 4294967296) (n / 2 ^ i) (Nat.mod_lt _ (by omega)) h1
  unfold rotr
  rw [Nat.or_comm, ← this]
  simp

set_option maxRecDepth 20000 in
set_option maxHeartbeats 400000 in
theorem rot_any (n i : Nat) (w : World) (hn : n < 4294967296) (hi : 0 < i) (hi2 : i < 32) :
    Calls Tryd.prog 84 #[.int .u32 n, .int .i64 (-(i : Int))] w fun e w' => e = .returned (.int .u32 (rotr n i : Int)) ∧ w = w' := by
  have h1 := rot_facts ⟨i, hi2⟩ hi
  simp only at h1
  have h2 := rotr_or' n i hn
  have h3 : 32 - (32 - i) = i := by omega
  go_enter Tryd.func84, Tryd.ntmps84
  go_wp2
  go_ret
  exact ⟨rfl, rfl⟩

set_option maxRecDepth 20000 in
set_option maxHeartbeats 400000 in
theorem rturn_any (n i : Nat) (w : World) (hn : n < 4294967296) (hi : 0 < i) (hi2 : i < 32) :
    Calls Tryd.prog 76 #[.int .u32 n, .int .u64 (i : Int)] w fun e w' => e = .returned (.int .u32 (rotr n i : Int)) ∧ w = w' := by
  have h2 := rotr_or n i hn
  go_enter Tryd.func76, Tryd.ntmps76
  go_wp2
  go_ret
  exact ⟨rfl, rfl⟩

theorem rotr_lt (n i : Nat) (hn : n < 4294967296) : rotr n i < 4294967296 :=
  Nat.or_lt_two_pow (n := 32) (Nat.lt_of_le_of_lt (Nat.div_le_self _ _) hn) (Nat.mod_lt _ (by omega))

theorem xor_lt (a b : Nat) (ha : a < 4294967296) (hb : b < 4294967296) : a ^^^ b < 4294967296 := Nat.xor_lt_two_pow (n := 32) ha hb
theorem and_lt (a b : Nat) (hb : b < 4294967296) : a &&& b < 4294967296 := Nat.and_lt_two_pow (n := 32) _ hb

set_option maxRecDepth 20000 in
set_option maxHeartbeats 400000 in
theorem turned_any (n i j k : Nat) (w : World) (hn : n < 4294967296) (hi : 0 < i) (hi2 : i < 32) (hj : 0 < j) (hj2 : j < 32) (hk : 0 < k) (hk2 : k < 32) :
    Calls Tryd.prog 82 #[.int .u32 n, .int .i64 i, .int .i64 j, .int .i64 k] w fun e w' => e = .returned (.int .u32 (((rotr n i ^^^ rotr n j) ^^^ rotr n k : Nat) : Int)) ∧ w = w' := by
  have h1 := u32_xor_nat (rotr n i) (rotr n j) (rotr_lt n i hn) (rotr_lt n j hn)
  have h2 := u32_xor_nat (rotr n i ^^^ rotr n j) (rotr n k) (xor_lt _ _ (rotr_lt n i hn) (rotr_lt n j hn)) (rotr_lt n k hn)
  have R1 := Lib.hid (fun w => rot_any n i w hn hi hi2)
  have R2 := Lib.hid (fun w => rot_any n j w hn hj hj2)
  have R3 := Lib.hid (fun w => rot_any n k w hn hk hk2)
  go_enter Tryd.func82, Tryd.ntmps82
  go_wp2_with fail
  refine (R1.out _).mono ?_
  rintro e w1 ⟨rfl, rfl⟩
  go_wp2_with fail
  refine (R2.out _).mono ?_
  rintro e w1 ⟨rfl, rfl⟩
  go_wp2_with fail
  refine (R3.out _).mono ?_
  rintro e w1 ⟨rfl, rfl⟩
  go_wp2
  go_ret
  exact ⟨rfl, rfl⟩

set_option maxRecDepth 20000 in
set_option maxHeartbeats 400000 in
theorem mixed_a (n : Nat) (w : World) (hn : n < 4294967296) :
    Calls Tryd.prog 83 #[.int .u32 n, .int .i64 7, .int .i64 18, .int .i64 3] w fun e w' => e = .returned (.int .u32 (sml0 n : Int)) ∧ ∃ q, w' = w.drewN q := by
  have e1 : bits .xor .u32 (bits .xor .u32 (rotr n 7 : Int) (rotr n 18 : Int)) ((n : Int) / 8) = (sml0 n : Int) := by
    rw [u32_xor_nat _ _ (rotr_lt n 7 hn) (rotr_lt n 18 hn)]
    have := u32_xor_nat (rotr n 7 ^^^ rotr n 18) (n / 8) (xor_lt _ _ (rotr_lt n 7 hn) (rotr_lt n 18 hn)) (by omega)
    unfold sml0
    rw [← this]
    simp
  obtain ⟨r1, hr1⟩ : ∃ r, r = rotr n 7 := ⟨_, rfl⟩
  obtain ⟨r2, hr2⟩ : ∃ r, r = rotr n 18 := ⟨_, rfl⟩
  have R1 : ∀ w, Calls Tryd.prog 84 #[.int .u32 n, .int .i64 (-7)] w fun e w' => e = .returned (.int .u32 (r1 : Int)) ∧ w' = w := fun w => hr1 ▸ (rot_any n 7 w hn (by omega) (by omega)).mono fun e w' ⟨h1, h2⟩ => ⟨h1, h2.symm⟩
  have R2 : ∀ w, Calls Tryd.prog 84 #[.int .u32 n, .int .i64 (-18)] w fun e w' => e = .returned (.int .u32 (r2 : Int)) ∧ w' = w := fun w => hr2 ▸ (rot_any n 18 w hn (by omega) (by omega)).mono fun e w' ⟨h1, h2⟩ => ⟨h1, h2.symm⟩
  rw [← hr1, ← hr2] at e1
  generalize sml0 n = m at e1 ⊢
  have S1 := Lib.hid R1
  have S2 := Lib.hid R2
  clear hr1 hr2 R1 R2
  have v1 : IntKind.i64.wrap (-7) = -7 := by decide +kernel
  have v2 : IntKind.i64.wrap (-18) = -18 := by decide +kernel
  go_enter Tryd.func83, Tryd.ntmps83
  go_wp2_with fail
  go_quiet (first
    | (go_at_call 84; with_reducible exact Calls.quiet_of_same (S1.out _))
    | (go_at_call 84; with_reducible exact Calls.quiet_of_same (S2.out _)))
  go_wp2
  go_ret
  exact ⟨rfl, _, rfl⟩

set_option maxRecDepth 20000 in
set_option maxHeartbeats 400000 in
theorem mixed_b (n : Nat) (w : World) (hn : n < 4294967296) :
    Calls Tryd.prog 83 #[.int .u32 n, .int .i64 17, .int .i64 19, .int .i64 10] w fun e w' => e = .returned (.int .u32 (sml1 n : Int)) ∧ ∃ q, w' = w.drewN q := by
  have e1 : bits .xor .u32 (bits .xor .u32 (rotr n 17 : Int) (rotr n 19 : Int)) ((n : Int) / 1024) = (sml1 n : Int) := by
    rw [u32_xor_nat _ _ (rotr_lt n 17 hn) (rotr_lt n 19 hn)]
    have := u32_xor_nat (rotr n 17 ^^^ rotr n 19) (n / 1024) (xor_lt _ _ (rotr_lt n 17 hn) (rotr_lt n 19 hn)) (by omega)
    unfold sml1
    rw [← this]
    simp
  obtain ⟨r1, hr1⟩ : ∃ r, r = rotr n 17 := ⟨_, rfl⟩
  obtain ⟨r2, hr2⟩ : ∃ r, r = rotr n 19 := ⟨_, rfl⟩
  have R1 : ∀ w, Calls Tryd.prog 84 #[.int .u32 n, .int .i64 (-17)] w fun e w' => e = .returned (.int .u32 (r1 : Int)) ∧ w' = w := fun w => hr1 ▸ (rot_any n 17 w hn (by omega) (by omega)).mono fun e w' ⟨h1, h2⟩ => ⟨h1, h2.symm⟩
  have R2 : ∀ w, Calls Tryd.prog 84 #[.int .u32 n, .int .i64 (-19)] w fun e w' => e = .returned (.int .u32 (r2 : Int)) ∧ w' = w := fun w => hr2 ▸ (rot_any n 19 w hn (by omega) (by omega)).mono fun e w' ⟨h1, h2⟩ => ⟨h1, h2.symm⟩
  rw [← hr1, ← hr2] at e1
  generalize sml1 n = m at e1 ⊢
  have S1 := Lib.hid R1
  have S2 := Lib.hid R2
  clear hr1 hr2 R1 R2
  have v1 : IntKind.i64.wrap (-17) = -17 := by decide +kernel
  have v2 : IntKind.i64.wrap (-19) = -19 := by decide +kernel
  go_enter Tryd.func83, Tryd.ntmps83
  go_wp2_with fail
  go_quiet (first
    | (go_at_call 84; with_reducible exact Calls.quiet_of_same (S1.out _))
    | (go_at_call 84; with_reducible exact Calls.quiet_of_same (S2.out _)))
  go_wp2
  go_ret
  exact ⟨rfl, _, rfl⟩

end Go.Proofs.YtlockgfokfhokaaDoor


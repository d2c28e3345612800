/-
  Contracts of digest: the reference's Digits and Hex.
-/
import Derived.Test.YtangadeihfkhpaaDoorD3
import Derived.BigQuiet
import Derived.Laws.Concat
namespace Go.Proofs.YtangadeihfkhpaaDoor
open Go.RowKit
set_option linter.unusedVariables false
set_option linter.unusedSimpArgs false

set_option maxRecDepth 20000 in
theorem digit_cut (n : Nat) (h : n < 16) (w : World) : (Instr.sliceAt 9 (.string ⟨#[48, 49, 50, 51, 52, 53, 54, 55, 56, 57, 97, 98, 99, 100, 101, 102]⟩) (some (.int .u8 (n : Int))) (some (.int .u8 ((n : Int) + 1))) none).run Tryd.prog w = .ok (.string ⟨#[hx n]⟩) w := by
  match n, h with
  | 0, _ => (change _ = _; kernel_rfl)
  | 1, _ => (change _ = _; kernel_rfl)
  | 2, _ => (change _ = _; kernel_rfl)
  | 3, _ => (change _ = _; kernel_rfl)
  | 4, _ => (change _ = _; kernel_rfl)
  | 5, _ => (change _ = _; kernel_rfl)
  | 6, _ => (change _ = _; kernel_rfl)
  | 7, _ => (change _ = _; kernel_rfl)
  | 8, _ => (change _ = _; kernel_rfl)
  | 9, _ => (change _ = _; kernel_rfl)
  | 10, _ => (change _ = _; kernel_rfl)
  | 11, _ => (change _ = _; kernel_rfl)
  | 12, _ => (change _ = _; kernel_rfl)
  | 13, _ => (change _ = _; kernel_rfl)
  | 14, _ => (change _ = _; kernel_rfl)
  | 15, _ => (change _ = _; kernel_rfl)
  | n + 16, h => exact absurd h (by omega)

/-- Two texts, one behind the other. -/
theorem add_texts (xs ys : List UInt8) (hx : xs.length + ys.length ≤ 9223372036854775807) (w : World) : (binOp .add 9 (strV xs) (strV ys)).run Tryd.prog w = .ok (strV (xs ++ ys)) w := by
  unfold strV
  rw [binOp_string_add, run_string_add_sum w _ _ (by simp [ByteArray.size]; omega), ByteArray.mk_append_mk]

set_option maxRecDepth 20000 in
set_option maxHeartbeats 1000000 in
theorem rdigits_any (s : ByteArray) (w : World) (hl : s.size ≤ 1000000000) :
    Calls Tryd.prog 20 #[.string s] w fun e w' => e = .returned (strV (hexL s.data.toList)) ∧ Below w.heap.size w w' := by
  go_enter Tryd.func20, Tryd.ntmps20
  go_wp2
  go_loopw [4, 5] (fun o i wr => ∃ k : Nat, k ≤ s.size ∧ i = .int .i64 k ∧ o = strV (hexL (s.data.toList.take k)) ∧ Below w.heap.size w wr) (fun _ i _ => s.size - (intOf i).toNat)
  case atStart => exact ⟨0, by omega, rfl, rfl, Below.refl _ _⟩
  case round =>
    obtain ⟨k, hk, rfl, rfl, hB⟩ := hrel
    by_cases hlt : k < s.size
    · have hls : k < s.data.toList.length := hlt
      have hst := hexL_step s.data.toList k hls
      have hix := index_text s k hlt
      generalize (s.data.toList)[k]?.getD 0 = b at hst hix
      have hb := b.toNat_lt
      obtain ⟨N, hN⟩ : ∃ N, N = b.toNat := ⟨_, rfl⟩
      rw [← hN] at hst hix hb
      have hd1 := digit_cut (N / 16) (by omega)
      have hd2 := digit_cut (N % 16) (by omega)
      rw [show ((N / 16 : Nat) : Int) = (N : Int) / 16 from by omega] at hd1
      rw [show ((N % 16 : Nat) : Int) = (N : Int) % 16 from by omega] at hd2
      have hw1 : IntKind.u8.wrap ((N : Int) / 16 + 1) = (N : Int) / 16 + 1 := by rw [IntKind.wrap_u8]; omega
      have hw2 : IntKind.u8.wrap ((N : Int) % 16 + 1) = (N : Int) % 16 + 1 := by rw [IntKind.wrap_u8]; omega
      have hlen : (hexL (s.data.toList.take k)).length ≤ 2000000000 := by rw [hexL_length]; simp; omega
      have ha1 := add_texts (hexL (s.data.toList.take k)) [hx (N / 16)] (by simp; omega)
      have ha2 := add_texts (hexL (s.data.toList.take k) ++ [hx (N / 16)]) [hx (N % 16)] (by simp; omega)
      rw [List.append_assoc, List.cons_append, List.nil_append, ← hst] at ha2
      generalize strV (hexL (s.data.toList.take k) ++ [hx (N / 16)]) = V1 at ha1 ha2
      obtain ⟨V0, hV0⟩ : ∃ V, V = strV (hexL (s.data.toList.take k)) := ⟨_, rfl⟩
      obtain ⟨V2, hV2⟩ : ∃ V, V = strV (hexL (s.data.toList.take (k + 1))) := ⟨_, rfl⟩
      obtain ⟨D1, hD1⟩ : ∃ V, V = strV [hx (N / 16)] := ⟨_, rfl⟩
      obtain ⟨D2, hD2⟩ : ∃ V, V = strV [hx (N % 16)] := ⟨_, rfl⟩
      change ∀ w, _ = Result.ok (strV [hx (N / 16)]) w at hd1
      change ∀ w, _ = Result.ok (strV [hx (N % 16)]) w at hd2
      rw [← hV0, ← hD1] at ha1
      rw [← hD2, ← hV2] at ha2
      rw [← hD1] at hd1
      rw [← hD2] at hd2
      rw [← hV0]
      have HV2 := Lib.hid hV2
      have HB := Lib.hid hB
      have i1 : (0 : Int) ≤ (k : Int) := by omega
      have i2 : (k : Int) < (s.size : Int) := by omega
      clear hst hN hV0 hV2 hD1 hD2 hB hlen
      go_wp2_with fail
      go_quiet (fail)
      go_wp2
      go_roundw
      case rel => exact ⟨k + 1, by omega, by go_num, HV2.out, HB.out.grown (gb_drewN _ _ none) HB.out.size (fun j h => by cases h)⟩
      case measure => simp [intOf]; omega
    · obtain rfl : k = s.size := by omega
      have ht : s.data.toList.take s.size = s.data.toList := List.take_of_length_le (Nat.le_refl _)
      rw [ht]
      have i2 : ¬ (s.size : Int) < (s.size : Int) := by omega
      go_wp2
      go_ret
      exact ⟨rfl, hB⟩
end Go.Proofs.YtangadeihfkhpaaDoor

/-
  Contracts: the reference's made.
-/
import Derived.Test.YtodcdefmoliegaaI3
namespace Go.Proofs.Ytodcdefmoliegaa
open Go.RowKit
set_option linter.unusedVariables false
set_option linter.unusedSimpArgs false

theorem word_or (f : Nat → Bool) (k : Nat) (h : f k = true) : wordB f k ||| 2 ^ k = wordB f (k + 1) := by
  have e : wordB f (k + 1) = 2 ^ k * 1 + wordB f k := by show (if f k then _ else _) = _; rw [if_pos h]; omega
  rw [e, Nat.two_pow_add_eq_or_of_lt (wordB_lt f k), Nat.mul_one, Nat.or_comm]
theorem word_skip (f : Nat → Bool) (k : Nat) (h : f k = false) : wordB f (k + 1) = wordB f k := by
  show (if f k then _ else _) = _
  rw [h]; rfl
def hi64 (f : Nat → Bool) : Nat → Bool := fun i => f (i + 64)
theorem word_lt64 (f : Nat → Bool) (k : Nat) (h : k ≤ 64) : wordB f k < 18446744073709551616 := Nat.lt_of_lt_of_le (wordB_lt f k) (Nat.pow_le_pow_right (by omega) h)

set_option maxRecDepth 20000 in
set_option maxHeartbeats 4000000 in
theorem made_any (g c : Nat) (f : Nat → Bool) (w : World) (h : BR w g f) (hg : g < w.heap.size) (hc : 128 ≤ c) (hcm : c ≤ maxLen) :
    Calls Try.prog 22 #[.slice (some ⟨g, 0, none⟩) 128 c] w fun e w' => e = .returned (setF f) ∧ Below w.heap.size w w' := by
  have hcc : (c : Int) ≤ 9223372036854775807 := by unfold maxLen at hcm; omega
  have hc2 : (128 : Int) ≤ (c : Int) := by omega
  have bR := (Box2.new w 24 (.int .u64 0) (.int .u64 0)).alloc (.cells #[.int .u64 0, .int .u64 0] 24)
  have bS := Box2.new (w.alloc (.cells #[.int .u64 0, .int .u64 0] 24)) 24 (.int .u64 0) (.int .u64 0)
  have hB0 := below2 w (.cells #[.int .u64 0, .int .u64 0] 24) (.cells #[.int .u64 0, .int .u64 0] 24)
  simp only [World.size_alloc] at bS
  have HR := Lib.hid bR
  have HS := Lib.hid bS
  have HB0 := Lib.hid hB0
  have HF := Lib.hid h
  clear bR bS hB0 h hc hcm
  unfold setF setV
  go_enter Try.func22, Try.ntmps22
  go_wp2
  go_loopw [4] (fun i wr => ∃ (k x y : Nat), k ≤ 128 ∧ x = wordB f (min k 64) ∧ y = wordB (hi64 f) (k - 64) ∧ i = .int .i64 (k : Int) ∧ Box2 wr w.heap.size 24 (.int .u64 0) (.int .u64 0) ∧ Box2 wr (w.heap.size + 1) 24 (.int .u64 (x : Int)) (.int .u64 (y : Int)) ∧ Below w.heap.size w wr) (fun i _ => 128 - (intOf i).toNat)
  case atStart => exact ⟨0, 0, 0, by omega, rfl, rfl, rfl, HR.out, HS.out, HB0.out⟩
  case round =>
    clear HR HS HB0
    obtain ⟨k, x, y, hk, hx, hy, rfl, hR, hS, hB⟩ := hrel
    have i2 : (0 : Int) ≤ (k : Int) := by omega
    by_cases hlt : k < 128
    · have i1 : (k : Int) < 128 := by omega
      have cf := HF.out.below hB hg k hlt
      have c0 := hS.c0
      have c1 := hS.c1
      have f0 := hS.f0
      have f1 := hS.f1
      cases hf : f k with
      | false =>
        rw [hf] at cf
        have e1 : wordB f (min (k + 1) 64) = x := by
          by_cases h64 : k < 64
          · rw [hx, show min (k + 1) 64 = k + 1 from by omega, show min k 64 = k from by omega, word_skip f k hf]
          · rw [hx, show min (k + 1) 64 = 64 from by omega, show min k 64 = 64 from by omega]
        have e2 : wordB (hi64 f) (k + 1 - 64) = y := by
          by_cases h64 : k < 64
          · rw [hy, show k + 1 - 64 = 0 from by omega, show k - 64 = 0 from by omega]
          · rw [hy, show k + 1 - 64 = (k - 64) + 1 from by omega, word_skip]
            show f (k - 64 + 64) = false
            rw [show k - 64 + 64 = k from by omega]; exact hf
        have HE := Lib.hid (And.intro e1 e2)
        have HR := Lib.hid hR
        have HS := Lib.hid hS
        have HB := Lib.hid hB
        clear e1 e2 hx hy hR hS hB hf
        go_wp2
        refine ⟨⟨k + 1, x, y, by omega, HE.out.1.symm, HE.out.2.symm, by go_num, HR.out, HS.out, HB.out⟩, ?_⟩
        simp [intOf]; omega
      | true =>
        rw [hf] at cf
        by_cases h64 : k < 64
        · have e3 : ((k : Int) % 64).toNat = k := by omega
          have e4 : (k : Int) / 64 = 0 := by omega
          have hp := wrap_pow k h64
          have hxk : x = wordB f k := by rw [hx, show min k 64 = k from by omega]
          have ho := u64_or_nat x (2 ^ k) (by rw [hxk]; exact word_lt64 f k (by omega)) (pow_lt64 k h64)
          have e1 : x ||| 2 ^ k = wordB f (min (k + 1) 64) := by rw [hxk, word_or f k hf, show min (k + 1) 64 = k + 1 from by omega]
          have e2 : wordB (hi64 f) (k + 1 - 64) = y := by rw [hy, show k + 1 - 64 = 0 from by omega, show k - 64 = 0 from by omega]
          generalize hz : (x ||| 2 ^ k) = z at *
          rw [← hp] at ho
          have HE := Lib.hid (And.intro e1 e2)
          have HR := Lib.hid hR
          have HS := Lib.hid hS
          have HB := Lib.hid hB
          clear e1 e2 hx hy hR hS hB hf hz hxk hp
          go_wp2
          refine ⟨⟨k + 1, z, y, by omega, HE.out.1, HE.out.2.symm, by go_num, HR.out.other 0 (by omega) _, HS.out.set0 _, below_set HB.out (by omega)⟩, ?_⟩
          simp [intOf]; omega
        · have e3 : ((k : Int) % 64).toNat = k - 64 := by omega
          have e4 : (k : Int) / 64 = 1 := by omega
          have hp := wrap_pow (k - 64) (by omega)
          have hf2 : hi64 f (k - 64) = true := by show f (k - 64 + 64) = true; rw [show k - 64 + 64 = k from by omega]; exact hf
          have ho := u64_or_nat y (2 ^ (k - 64)) (by rw [hy]; exact word_lt64 (hi64 f) (k - 64) (by omega)) (pow_lt64 (k - 64) (by omega))
          have e1 : x = wordB f (min (k + 1) 64) := by rw [hx, show min (k + 1) 64 = 64 from by omega, show min k 64 = 64 from by omega]
          have e2 : y ||| 2 ^ (k - 64) = wordB (hi64 f) (k + 1 - 64) := by rw [hy, word_or (hi64 f) (k - 64) hf2, show k + 1 - 64 = (k - 64) + 1 from by omega]
          generalize hz : (y ||| 2 ^ (k - 64)) = z at *
          rw [← hp] at ho
          have HE := Lib.hid (And.intro e1 e2)
          have HR := Lib.hid hR
          have HS := Lib.hid hS
          have HB := Lib.hid hB
          clear e1 e2 hx hy hR hS hB hf hz hp hf2
          go_wp2
          refine ⟨⟨k + 1, x, z, by omega, HE.out.1, HE.out.2, by go_num, HR.out.other 1 (by omega) _, HS.out.set1 _, below_set HB.out (by omega)⟩, ?_⟩
          simp [intOf]; omega
    · obtain rfl : k = 128 := by omega
      have ex : x = mkA f := by rw [hx]; rfl
      have ey : y = mkB f := by rw [hy]; rfl
      have HEX := Lib.hid (And.intro ex ey)
      have r0 := hR.f0
      have r1 := hR.f1
      have q0 := hR.c0
      have q1 := hR.c1
      have c0 := hS.c0
      have c1 := hS.c1
      have hR2 := (hR.set0 (.int .u64 (x : Int))).set1 (.int .u64 (y : Int))
      have hB2 := below_set (b := w.heap.size) (i := 1) (v := .int .u64 (y : Int)) (below_set (b := w.heap.size) (i := 0) (v := .int .u64 (x : Int)) hB (by omega)) (by omega)
      have HR2 := Lib.hid hR2
      have HB2 := Lib.hid hB2
      clear hx hy ex ey hR hS hB hR2 hB2
      go_wp2
      refine bodyPost_ret (by simp [results, Try.f22, go_sem, HR2.out.c0, HR2.out.c1]; try rfl) rfl ?_
      exact ⟨by rw [← HEX.out.1, ← HEX.out.2], HB2.out⟩
end Go.Proofs.Ytodcdefmoliegaa


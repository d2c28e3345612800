/-
  Pasts: few, numbers; the fixed calls.
-/
import Derived.Test.YthapcpfemmfhoaaAPB
namespace Go.Proofs.Ythapcpfemmfhoaa
namespace Ap
open Go.RowKit
set_option linter.unusedVariables false
set_option linter.unusedSimpArgs false

/-- Texts are few, and short. -/
def fewP (L : List ByteArray) : Prop := L.length ≤ 20 ∧ ∀ i, i < L.length → (lAt L i).size ≤ 200

set_option maxRecDepth 20000 in
set_option maxHeartbeats 1000000 in
theorem few_any (a : Option Addr) (n c : Nat) (L : List ByteArray) (w : World) (h : Rs w a n c L) :
    Calls Try.prog 6 #[.slice a n c] w fun e w' => ((e = .returned (.bool true) ∧ fewP L) ∨ (e = .returned (.bool false) ∧ ¬ fewP L)) ∧ Below w.heap.size w w' := by
  have hcm : (c : Int) ≤ 9223372036854775807 := by have := h.cm; unfold maxLen at this; omega
  have hle := h.le
  have hlen := h.len
  have HH := Lib.hid h
  clear h
  by_cases h20 : n ≤ 20
  · have g0 : ¬ (20 : Int) < (n : Int) := by omega
    go_enter Try.func6, Try.ntmps6
    go_wp2
    go_loopw [3] (fun i wr => ∃ k : Nat, k ≤ n ∧ i = .int .i64 k ∧ (∀ j, j < k → (lAt L j).size ≤ 200) ∧ Below w.heap.size w wr) (fun i _ => n - (intOf i).toNat)
    case atStart => exact ⟨0, by omega, rfl, fun j hj => by omega, Below.refl _ _⟩
    case round =>
      obtain ⟨k, hk, rfl, hall, hB⟩ := hrel
      have HALL := Lib.hid hall
      clear hall
      by_cases hlt : k < n
      · have i0 : (0 : Int) ≤ (k : Int) := by omega
        have i1 : (k : Int) < (n : Int) := by omega
        obtain ⟨b1, o1, rfl, _, hc1⟩ := (HH.out.later hB).at0 (by omega)
        have d1 := hc1 k hlt
        obtain ⟨t, ht⟩ : ∃ t, t = lAt L k := ⟨_, rfl⟩
        rw [← ht] at d1
        have HB := Lib.hid hB
        clear hc1 hB
        by_cases h2 : t.size ≤ 200
        · have g1 : ¬ (200 : Int) < (t.size : Int) := by omega
          have HX := Lib.hid (show ∀ j, j < k + 1 → (lAt L j).size ≤ 200 from fun j hj => by
            rcases Nat.lt_or_ge j k with h | h
            · exact HALL.out j h
            · obtain rfl : j = k := by omega
              rw [← ht]; exact h2)
          clear ht
          go_wp2
          go_roundw
          case rel => exact ⟨k + 1, by omega, by go_num, HX.out, HB.out⟩
          case measure => simp [intOf]; omega
        · have g1 : (200 : Int) < (t.size : Int) := by omega
          have HX := Lib.hid (show ¬ fewP L from fun hf => h2 (by rw [ht]; exact hf.2 k (by omega)))
          clear ht
          go_wp2
          go_ret
          exact ⟨.inr ⟨rfl, HX.out⟩, HB.out⟩
      · obtain rfl : k = n := by omega
        have i1 : ¬ (k : Int) < (k : Int) := by omega
        have HX := Lib.hid (show fewP L from ⟨by omega, fun i hi => HALL.out i (by omega)⟩)
        have HB := Lib.hid hB
        clear hB
        go_wp2
        go_ret
        exact ⟨.inl ⟨rfl, HX.out⟩, HB.out⟩
  · have g0 : (20 : Int) < (n : Int) := by omega
    have HX := Lib.hid (show ¬ fewP L from fun hf => h20 (by have := hf.1; omega))
    go_enter Try.func6, Try.ntmps6
    go_wp2
    go_ret
    exact ⟨.inr ⟨rfl, HX.out⟩, Below.refl _ _⟩

/-- The slice reads as the epochs. -/
structure Us (w : World) (a : Option Addr) (n cap : Nat) (E : List (Nat × List ByteArray)) : Prop where
  len : E.length = n
  le : n ≤ cap
  cm : cap ≤ maxLen
  at0 : 0 < n → ∃ b off, a = some ⟨b, off, none⟩ ∧ b < w.heap.size ∧ ∀ i, i < n → w.cell? ⟨b, off + i, none⟩ = some (.int .u64 ((EAt E i).1 : Int))
theorem Us.later {w w' : World} {a n cap E} (h : Us w a n cap E) (hb : Below w.heap.size w w') : Us w' a n cap E where
  len := h.len
  le := h.le
  cm := h.cm
  at0 := fun h0 => by
    obtain ⟨b, off, ha, hlt, hc⟩ := h.at0 h0
    exact ⟨b, off, ha, Nat.lt_of_lt_of_le hlt hb.size, fun i hi => by rw [hb.cell (by exact hlt)]; exact hc i hi⟩
theorem us_of {w : World} {B : Nat} {v : Value} {E : List (Nat × List ByteArray)} (h : w.ownsRow B 30 1 v E.length (eps E)) : ∃ a c, v = .slice a E.length c ∧ Us w a E.length c E := by
  obtain ⟨a, c, e, hle, hcm, hg⟩ := owns_shape1 h
  refine ⟨a, c, e, rfl, hle, hcm, fun h0 => ?_⟩
  obtain ⟨g, rfl, hgo, _, hgl⟩ := hg h0
  exact ⟨g, 0, rfl, hgl, fun i hi => by rw [Nat.zero_add]; exact owns_cell h hgo _ _ (eps_at E hi)⟩

set_option maxRecDepth 20000 in
set_option maxHeartbeats 1000000 in
theorem numbers_any (a b : Option Addr) (n ca cb : Nat) (E : List (Nat × List ByteArray)) (w : World) (hA : Us w a n ca E) (hB0 : Us w b n cb E) :
    Calls Try.prog 25 #[.slice a n ca, .slice b n cb] w fun e w' => e = .returned (.bool true) ∧ Below w.heap.size w w' := by
  have hca : (ca : Int) ≤ 9223372036854775807 := by have := hA.cm; unfold maxLen at this; omega
  have hcb : (cb : Int) ≤ 9223372036854775807 := by have := hB0.cm; unfold maxLen at this; omega
  have hna := hA.le
  have hnb := hB0.le
  have HA := Lib.hid hA
  have HB0 := Lib.hid hB0
  clear hA hB0
  go_enter Try.func25, Try.ntmps25
  go_wp2
  go_loopw [5] (fun i wr => ∃ k : Nat, k ≤ n ∧ i = .int .i64 k ∧ Below w.heap.size w wr) (fun i _ => n - (intOf i).toNat)
  case atStart => exact ⟨0, by omega, rfl, Below.refl _ _⟩
  case round =>
    obtain ⟨k, hk, rfl, hB⟩ := hrel
    by_cases hlt : k < n
    · have i0 : (0 : Int) ≤ (k : Int) := by omega
      have i1 : (k : Int) < (n : Int) := by omega
      obtain ⟨b1, o1, rfl, _, hc1⟩ := (HA.out.later hB.drew).at0 (by omega)
      obtain ⟨b2, o2, rfl, _, hc2⟩ := (HB0.out.later hB.drew).at0 (by omega)
      have d1 := hc1 k hlt
      have d2 := hc2 k hlt
      obtain ⟨t, ht⟩ : ∃ t, t = (EAt E k).1 := ⟨_, rfl⟩
      rw [← ht] at d1 d2
      have t1 : ((t : Int) != (t : Int)) = false := by simp
      have HB := Lib.hid hB.drew
      clear hc1 hc2 hB ht
      go_wp2_with fail
      go_region
      go_wp2
      go_roundw
      case rel => exact ⟨k + 1, by omega, by go_num, HB.out⟩
      case measure => simp [intOf]; omega
    · obtain rfl : k = n := by omega
      have i1 : ¬ (k : Int) < (k : Int) := by omega
      have HB := Lib.hid hB
      clear hB
      go_wp2
      go_ret
      exact ⟨rfl, HB.out⟩

def K0 : PS := ⟨[[secOf 0]], []⟩
def K1 : PS := ⟨[[secOf 0, secOf 1]], []⟩
def K2 : PS := ⟨[[secOf 1]], []⟩
def K3 : PS := ⟨[[secOf 1]], [(3, [secOf 1])]⟩
theorem k0 : PS.new [secOf 0] = K0 := rfl
theorem k1 : K0.write 0 (secOf 1) = (0, K1) := by
  unfold PS.write
  rw [if_pos (by decide), if_pos (secOf_size 1)]
  rfl
theorem k1a : K1.may 0 (secOf 0) = true := by decide +kernel
theorem k1b : K1.may 0 (secOf 1) = true := by decide +kernel
theorem k2 : K1.flush = K2 := rfl
theorem k3 : K2.sealP 3 = (0, K3) := rfl
theorem k3a : K3.image 3 = ([secOf 1], 0) := rfl
theorem k3b : K3.may 0 (secOf 0) = false := by decide +kernel
theorem k3c : K3.sealP 3 = (14, K3) := rfl
theorem kok (L : List ByteArray) (E : List (Nat × List ByteArray)) (h1 : 0 < L.length) (h2 : L.length ≤ 2) (hE : E = [] ∨ E = [(3, [secOf 1])]) : (⟨[L], E⟩ : PS).ok 2 := by
  refine ⟨by simp, by rcases hE with rfl | rfl <;> simp, fun i hi => ?_, fun j hj => ?_⟩
  · have : i = 0 := by simpa using hi
    subst this
    exact ⟨h1, h2⟩
  · rcases hE with rfl | rfl
    · simp at hj
    · have : j = 0 := by simpa using hj
      subst this
      exact ⟨Nat.le_succ 1, show (3 : Nat) < 18446744073709551616 by omega⟩

end Ap
end Go.Proofs.Ythapcpfemmfhoaa


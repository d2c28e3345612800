/-
  Sectors: the contracts of sector's repeat, Fill, Zero, Right, and the reference's.
-/
import Derived.Test.YthapcpfemmfhoaaB0

import Derived.Laws.BytesString
namespace Go.Proofs.Ythapcpfemmfhoaa
open Go.RowKit
set_option linter.unusedVariables false
set_option linter.unusedSimpArgs false

/-- A sector of one byte. -/
def secOf (x : UInt8) : ByteArray := ⟨(List.replicate 64 x).toArray⟩
theorem secOf_size (x : UInt8) : (secOf x).size = 64 := by simp [secOf, ByteArray.size]


theorem rd_string {w : World} {a : Option Addr} {n cap : Nat} {xs : List UInt8} (h : Rd w a n cap xs) :
    (convert 69 9 (.slice a n cap)).run Try.prog w = .ok (.string ⟨xs.toArray⟩) w := by
  cases a with
  | none =>
    have hc := h.nil rfl
    have hn : n = 0 := by have := h.le; omega
    subst hn
    obtain rfl : xs = [] := List.eq_nil_of_length_eq_zero h.len
    rw [run_convert_bytes_string w 69 9 5 none 0 cap Try.underlying69 Try.underlying5 Try.underlying9]
    simp [Conv.bytesToString]
    rfl
  | some x =>
    have := run_convert_bytes_back (P := Try.prog) w 69 9 5 x cap xs Try.underlying69 Try.underlying5 Try.underlying9 (fun j hj => by
      obtain ⟨b, off, e, hlt, hc⟩ := h.at0 (by rw [← h.len]; omega)
      cases e
      rw [Addr.add_none, hc j (by rw [← h.len]; exact hj), List.getElem?_eq_getElem hj]
      rfl)
    rwa [h.len] at this




set_option maxRecDepth 20000 in
set_option maxHeartbeats 400000 in
theorem right_any (s : ByteArray) (w : World) :
    Calls Try.prog 30 #[.string s] w fun e w' => e = .returned (.bool (decide (s.size = 64))) ∧ w' = w := by
  go_enter Try.func30, Try.ntmps30
  go_wp2
  go_ret
  refine ⟨?_, rfl⟩
  by_cases h : s.size = 64
  · simp [h]
  · have : ¬ ((s.size : Int) = 64) := by omega
    simp [h, this]

set_option maxRecDepth 20000 in
set_option maxHeartbeats 400000 in
theorem rright_any (s : ByteArray) (w : World) :
    Calls Try.prog 32 #[.string s] w fun e w' => e = .returned (.bool (decide (s.size = 64))) ∧ w' = w := by
  go_enter Try.func32, Try.ntmps32
  go_wp2
  go_ret
  refine ⟨?_, rfl⟩
  by_cases h : s.size = 64
  · simp [h]
  · have : ¬ ((s.size : Int) = 64) := by omega
    simp [h, this]

set_option maxRecDepth 20000 in
set_option maxHeartbeats 400000 in
theorem rfill_any (c : Int) (x : UInt8) (hc : c = (x.toNat : Int)) (w : World) :
    Calls Try.prog 28 #[.int .u8 c] w fun e w' => e = .returned (.string (secOf x)) ∧ Below w.heap.size w w' := by
  subst hc
  obtain ⟨i0, hi, hz0, hz1, hz2⟩ := info_parts Try.info5
  go_enter Try.func28, Try.ntmps28
  go_wp2
  go_loopw [3, 4] (fun o i wr => ∃ k : Nat, k ≤ 64 ∧ i = .int .i64 k ∧ wr.ownsRow w.heap.size 5 1 o k (bvs (List.replicate k x)) ∧ Below w.heap.size w wr) (fun _ i _ => 64 - (intOf i).toNat)
  case atStart => exact ⟨0, by omega, rfl, World.ownsRow_nil _ _ _ _, Below.refl _ _⟩
  case round =>
    obtain ⟨k, hk, rfl, hown, hB⟩ := hrel
    by_cases hlt : k < 64
    · have i1 : (k : Int) < 64 := by omega
      have hs : List.replicate (k + 1) x = List.replicate k x ++ [x] := by rw [List.replicate_succ']
      have hB1 : Below w.heap.size w (wr.alloc (.cells #[.int .u8 (x.toNat : Int)] 5)) := hB.alloc hB.size _
      have HB := Lib.hid hB1
      have hrd := one_rd wr _ x rfl
      have ho := hown.alloc (.cells #[.int .u8 (x.toNat : Int)] 5)
      clear hB1
      go_wp2_with (at_builtin; refine wpList_append_rd (o := ⟨some 12, _, _, _, _, _⟩) rfl (.tmp 9) (.tmp 11) 69 rfl w.heap.size 5 i0 Try.underlying69 hi hz0 hz1 hz2 _ k _ rfl ho _ 1 1 [x] rfl hrd (by omega) HB.out.size ?_)
      intro v' w5 hown5 hgrow
      rw [← hs] at hown5
      have hB5 := HB.out.grown hgrow HB.out.size (fun j hj => ?_)
      · clear hown ho hgrow hrd hB
        go_wp2
        go_roundw
        case rel => exact ⟨k + 1, by omega, by go_num, hown5, hB5⟩
        case measure => simp [intOf]; omega
      · exact (hown.lt j hj).1
    · obtain rfl : k = 64 := by omega
      obtain ⟨a, c, rfl, hrd, _⟩ := owns_shape hown (by omega)
      have hcv := rd_string hrd
      go_wp2
      go_ret
      exact ⟨rfl, hB⟩

set_option maxRecDepth 20000 in
set_option maxHeartbeats 400000 in
theorem rzero_any (w : World) :
    Calls Try.prog 27 #[] w fun e w' => e = .returned (.string (secOf 0)) ∧ Below w.heap.size w w' := by
  have hr := rfill_any 0 0 rfl w
  go_enter Try.func27, Try.ntmps27
  go_wp2_with fail
  refine hr.mono ?_
  rintro e w1 ⟨rfl, hb⟩
  go_wp2
  go_ret
  exact ⟨rfl, hb⟩

end Go.Proofs.Ythapcpfemmfhoaa


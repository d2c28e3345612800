/-
  Sectors: the contracts of sector's repeat, Fill, Zero, Right, and the reference's.
-/
import Derived.Test.YtodcdefmoliegaaDoorB0
import Derived.Test.YtodcdefmoliegaaDoorSH
import Derived.Laws.BytesString
namespace Go.Proofs.YtodcdefmoliegaaDoor
open Go.RowKit
set_option linter.unusedVariables false
set_option linter.unusedSimpArgs false

/-- A sector of one byte. -/
def secOf (x : UInt8) : ByteArray := ⟨(List.replicate 64 x).toArray⟩
theorem secOf_size (x : UInt8) : (secOf x).size = 64 := by simp [secOf, ByteArray.size]

theorem repeatL_one /- 57 -/ (x : UInt8) : ∀ n : Nat, Lib.repeatL [x] n = List.replicate n x
  | 0 => rfl
  | n + 1 => by
    have := repeatL_one x n
    simp [Lib.repeatL] at this ⊢
    try rw [this]
    try rfl

theorem rd_string {w : World} {a : Option Addr} {n cap : Nat} {xs : List UInt8} (h : Rd w a n cap xs) :
    (convert 74 9 (.slice a n cap)).run Tryd.prog w = .ok (.string ⟨xs.toArray⟩) w := by
  cases a with
  | none =>
    have hc := h.nil rfl
    have hn : n = 0 := by have := h.le; omega
    subst hn
    obtain rfl : xs = [] := List.eq_nil_of_length_eq_zero h.len
    rw [run_convert_bytes_string w 74 9 5 none 0 cap Tryd.underlying74 Tryd.underlying5 Tryd.underlying9]
    simp [Conv.bytesToString]
    rfl
  | some x =>
    have := run_convert_bytes_back (P := Tryd.prog) w 74 9 5 x cap xs Tryd.underlying74 Tryd.underlying5 Tryd.underlying9 (fun j hj => by
      obtain ⟨b, off, e, hlt, hc⟩ := h.at0 (by rw [← h.len]; omega)
      cases e
      rw [Addr.add_none, hc j (by rw [← h.len]; exact hj), List.getElem?_eq_getElem hj]
      rfl)
    rwa [h.len] at this

set_option maxRecDepth 20000 in
set_option maxHeartbeats 400000 in
theorem repeat_any (c : Int) (x : UInt8) (hc : c = (x.toNat : Int)) (m : Int) (n : Nat) (hm : m = (n : Int)) (hn : n ≤ 1000000) (S : ByteArray) (hS : S = ⟨(List.replicate n x).toArray⟩) (w : World) :
    Calls Tryd.prog 49 #[.int .u8 c, .int .i64 m] w fun e w' => e = .returned (.string S) ∧ Below w.heap.size w w' := by
  subst hc hm
  have hrd := rd_string (one_rd w _ x rfl)
  have hr := Tryd.strings_Repeat ⟨[x].toArray⟩ n
  have e1 : (⟨[x].toArray⟩ : ByteArray).data.toList = [x] := rfl
  have e2 : (⟨[x].toArray⟩ : ByteArray).size = 1 := rfl
  rw [e1, e2, repeatL_one, ← hS] at hr
  clear hS
  obtain ⟨V, hV⟩ : ∃ V, V = Value.string ⟨[x].toArray⟩ := ⟨_, rfl⟩
  rw [← hV] at hrd
  simp only [← hV] at hr
  have HR := Lib.hid hr
  clear hr hV e1 e2
  go_enter Tryd.func49, Tryd.ntmps49
  go_wp2_with fail
  refine (HR.out _ (by omega) (by omega)).mono ?_
  rintro e w1 ⟨rfl, hb⟩
  have hb' : Below w.heap.size w w1 := ((Below.refl _ _).alloc (Nat.le_refl _) _).trans (hb.mono (by simp))
  clear hb
  go_wp2
  go_ret
  exact ⟨rfl, hb'⟩

set_option maxRecDepth 20000 in
set_option maxHeartbeats 400000 in
theorem fill_any (c : Int) (x : UInt8) (hc : c = (x.toNat : Int)) (w : World) :
    Calls Tryd.prog 31 #[.int .u8 c] w fun e w' => e = .returned (.string (secOf x)) ∧ Below w.heap.size w w' := by
  have hr := repeat_any c x hc 64 64 rfl (by omega) (secOf x) rfl w
  clear hc
  go_enter Tryd.func31, Tryd.ntmps31
  go_wp2_with fail
  refine hr.mono ?_
  rintro e w1 ⟨rfl, hb⟩
  go_wp2
  go_ret
  exact ⟨rfl, hb⟩

set_option maxRecDepth 20000 in
set_option maxHeartbeats 400000 in
theorem zero_any (w : World) :
    Calls Tryd.prog 19 #[] w fun e w' => e = .returned (.string (secOf 0)) ∧ Below w.heap.size w w' := by
  have hr := fill_any 0 0 rfl w
  go_enter Tryd.func19, Tryd.ntmps19
  go_wp2_with fail
  refine hr.mono ?_
  rintro e w1 ⟨rfl, hb⟩
  go_wp2
  go_ret
  exact ⟨rfl, hb⟩

set_option maxRecDepth 20000 in
set_option maxHeartbeats 400000 in
theorem right_any (s : ByteArray) (w : World) :
    Calls Tryd.prog 39 #[.string s] w fun e w' => e = .returned (.bool (decide (s.size = 64))) ∧ w' = w := by
  go_enter Tryd.func39, Tryd.ntmps39
  go_wp2
  go_ret
  refine ⟨?_, rfl⟩
  by_cases h : s.size = 64
  · simp [h]
  · have : ¬ ((s.size : Int) = 64) := by omega
    simp [h, this]




end Go.Proofs.YtodcdefmoliegaaDoor


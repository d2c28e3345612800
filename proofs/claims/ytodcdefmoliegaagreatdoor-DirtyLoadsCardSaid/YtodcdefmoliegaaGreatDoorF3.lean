/-
  Contracts of both Pad; the reference's Digits of numbers below 100.
-/
import Derived.Test.YtodcdefmoliegaaGreatDoorF2
namespace Go.Proofs.YtodcdefmoliegaaGreatDoor
open Go.RowKit
set_option linter.unusedVariables false
set_option linter.unusedSimpArgs false

/-- A text filled up to a sector. -/
def padL (xs : List UInt8) : List UInt8 := xs ++ List.replicate (64 - xs.length) 0
def padV (s : ByteArray) : Value := if s.size ≤ 64 then .tuple #[strV (padL s.data.toList), .int .i64 0] else .tuple #[strV [], .int .i64 4]

theorem strV_self (s : ByteArray) : strV s.data.toList = .string s := rfl

set_option maxRecDepth 20000 in
set_option maxHeartbeats 400000 in
theorem pad_any (s : ByteArray) (w : World) :
    Calls Tryz.prog 60 #[.string s] w fun e w' => e = .returned (padV s) ∧ Below w.heap.size w w' := by
  by_cases h : s.size ≤ 64
  · have hp : padV s = .tuple #[strV (padL s.data.toList), .int .i64 0] := if_pos h
    have hr := repeat_any 0 0 rfl (64 - (s.size : Int)) (64 - s.size) (by omega) (by omega) ⟨(List.replicate (64 - s.size) 0).toArray⟩ rfl w
    have ha := add_texts s.data.toList (List.replicate (64 - s.size) 0) (by simp; have : s.data.toList.length = s.size := rfl; simp at this; omega)
    have hl : s.data.toList ++ List.replicate (64 - s.size) 0 = padL s.data.toList := rfl
    rw [hl, strV_self] at ha
    change Calls _ _ _ _ fun e w' => e = .returned (strV (List.replicate (64 - s.size) 0)) ∧ Below w.heap.size w w' at hr
    rw [hp]
    generalize strV (padL s.data.toList) = V1 at ha ⊢
    generalize strV (List.replicate (64 - s.size) 0) = V2 at ha hr
    have i1 : (s.size : Int) ≤ 64 := by omega
    have i2 : ¬ (64 : Int) < (s.size : Int) := by omega
    have i3 : (0 : Int) ≤ (s.size : Int) := by omega
    have HR := Lib.hid hr
    clear hr hp hl
    go_enter Tryz.func60, Tryz.ntmps60
    go_wp2_with fail
    refine HR.out.mono ?_
    rintro e w1 ⟨rfl, hb⟩
    go_wp2
    refine bodyPost_ret (results_tmp2 rfl _ _ _) rfl ?_
    exact ⟨rfl, hb⟩
  · have hp : padV s = .tuple #[strV [], .int .i64 4] := if_neg h
    rw [hp]
    have i2 : (64 : Int) < (s.size : Int) := by omega
    clear hp h
    go_enter Tryz.func60, Tryz.ntmps60
    go_wp2
    refine bodyPost_ret (results_tmp2 rfl _ _ _) rfl ?_
    exact ⟨rfl, Below.refl _ _⟩

theorem sec_from (k : Nat) (h : k ≤ 64) (w : World) : (Instr.sliceAt 9 (.string (secOf 0)) (some (.int .i64 (k : Int))) none none).run Tryz.prog w = .ok (strV (List.replicate (64 - k) 0)) w := by
  rw [run_sliceAt_string _ _ _ _ _ _ Tryz.underlying9, run_slice_string_l w 9 (secOf 0) Tryz.underlying9 .i64 (k : Int) (by omega) (by rw [secOf_size]; omega)]
  have e : (secOf 0).extract (k : Int).toNat (secOf 0).size = ⟨(List.replicate (64 - k) (0 : UInt8)).toArray⟩ := by
    apply ByteArray.ext
    rw [ByteArray.data_extract, secOf_size]
    apply Array.toList_inj.mp
    have hrep : ∀ n j : Nat, List.take (n - j) (List.drop j (List.replicate n (0 : UInt8))) = List.replicate (n - j) 0 := fun n j => by rw [List.drop_replicate, List.take_replicate, Nat.min_self]
    rw [Array.toList_extract]
    exact hrep 64 k
  rw [e]; rfl


end Go.Proofs.YtodcdefmoliegaaGreatDoor


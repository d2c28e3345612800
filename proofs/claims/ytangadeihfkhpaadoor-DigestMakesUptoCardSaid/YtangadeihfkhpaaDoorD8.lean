/-
  The fixed calls of the laws of digest; the reference's Leaf and Node.
-/
import Derived.Test.YtangadeihfkhpaaDoorD7
namespace Go.Proofs.YtangadeihfkhpaaDoor
open Go.RowKit
set_option linter.unusedVariables false
set_option linter.unusedSimpArgs false

def dA : List UInt8 := [110, 52, 11, 156, 255, 179, 122, 152, 156, 165, 68, 230, 187, 120, 10, 44, 120, 144, 29, 63, 179, 55, 56, 118, 133, 17, 163, 6, 23, 175, 160, 29]
def dN : List UInt8 := [75, 245, 18, 47, 52, 69, 84, 197, 59, 222, 46, 187, 140, 210, 183, 227, 209, 96, 10, 214, 49, 195, 133, 165, 215, 204, 226, 60, 119, 133, 69, 154]
def dX : List UInt8 := [54, 101, 51, 52, 48, 98, 57, 99, 102, 102, 98, 51, 55, 97, 57, 56, 57, 99, 97, 53, 52, 52, 101, 54, 98, 98, 55, 56, 48, 97, 50, 99, 55, 56, 57, 48, 49, 100, 51, 102, 98, 51, 51, 55, 51, 56, 55, 54, 56, 53, 49, 49, 97, 51, 48, 54, 49, 55, 97, 102, 97, 48, 49, 100]
theorem dig_A : dig [0] = dA := by decide +kernel
theorem dig_N : dig [1] = dN := by decide +kernel
theorem hex_A : hexL dA = dX := by decide +kernel
theorem back_A : backP dX = (dA, 0) := by decide +kernel

theorem len_A (w : World) : (Builtin.len_ #[9] 3 #[strV dA]).run Tryd.prog w = .ok (.int .i64 32) w := by kernel_rfl
theorem len_X (w : World) : (Builtin.len_ #[9] 3 #[strV dX]).run Tryd.prog w = .ok (.int .i64 64) w := by kernel_rfl
theorem neq_NA (w : World) : (binOp .neq 9 (strV dN) (strV dA)).run Tryd.prog w = .ok (.bool true) w := by kernel_rfl
theorem guard_NA (x y : Operand) (w : World) : (eqGuard .neq 9 x y (strV dN) (strV dA)).run Tryd.prog w = .ok () w := by unfold strV; go_simp

set_option maxHeartbeats 1000000 in
theorem known_true (w : World) (hK : Kon w) : Calls Tryd.prog 5 #[] w fun e w' => e = .returned (.bool true) ∧ Below w.heap.size w w' := by
  have hl := leaf_any ⟨#[]⟩ w hK (by decide)
  change Calls Tryd.prog 6 #[.string ⟨#[]⟩] w fun e w' => e = .returned (strV (dig [0])) ∧ Below w.heap.size w w' at hl
  rw [dig_A] at hl
  have hh := fun w => hex_any ⟨dA.toArray⟩ w (by decide)
  have ehx : hexV ⟨dA.toArray⟩ = strV dX := by
    unfold hexV; rw [if_pos (by decide)]; exact congrArg strV hex_A
  rw [ehx] at hh
  change ∀ w, Calls Tryd.prog 12 #[strV dA] w _ at hh
  have hb := fun w => back_any ⟨dX.toArray⟩ w (by decide)
  have ebk : backV ⟨dX.toArray⟩ = .tuple #[strV dA, .int .i64 0] := by
    unfold backV; rw [show backP (⟨dX.toArray⟩ : ByteArray).data.toList = (dA, 0) from back_A]
  rw [ebk] at hb
  change ∀ w, Calls Tryd.prog 13 #[strV dX] w _ at hb
  have hn := fun (w : World) (hK : Kon w) => node_any (some ⟨w.heap.size, 0, none⟩) 1 1 (fun _ => ⟨#[]⟩) (w.alloc (.cells #[.string ⟨#[]⟩] 9)) ⟨fun _ => ⟨_, _, rfl, by simp, fun i hi => by
    obtain rfl : i = 0 := by omega
    exact World.cell?_alloc_at _ _ _ _ rfl⟩⟩ (hK.below ((Below.refl w.heap.size w).alloc (Nat.le_refl _) _)) (by decide) (by omega)
  have ejn : dig (1 :: jn (fun _ => ⟨#[]⟩) 1) = dN := dig_N
  rw [ejn] at hn
  have l1 := len_A
  have l2 := len_X
  have q1 := neq_NA
  have q2 := guard_NA
  obtain ⟨VA, hVA⟩ : ∃ V, V = strV dA := ⟨_, rfl⟩
  obtain ⟨VX, hVX⟩ : ∃ V, V = strV dX := ⟨_, rfl⟩
  obtain ⟨VN, hVN⟩ : ∃ V, V = strV dN := ⟨_, rfl⟩
  have HV : Hid (VA = .string _) := Lib.hid (hVA.trans rfl)
  have e1 := eql_V HV
  have e2 := guard_V HV
  rw [← hVA] at hl hh hb l1 q1 q2
  rw [← hVX] at hh hb l2
  rw [← hVN] at hn q1 q2
  have HL := Lib.hid hl
  have HH := Lib.hid hh
  have HBK := Lib.hid hb
  have HN := Lib.hid hn
  have HK := Lib.hid hK
  clear hl hh hb hn hK ehx ebk ejn hVA hVX hVN
  go_enter Tryd.func5, Tryd.ntmps5
  go_wp2_with fail
  refine HL.out.mono ?_
  rintro e w1 ⟨rfl, hb1⟩
  have HB1 := Lib.hid hb1
  clear hb1
  go_wp2_with fail
  refine (HH.out _).mono ?_
  rintro e w2 ⟨rfl, hb2⟩
  have HB2 := Lib.hid (HB1.out.trans (hb2.mono HB1.out.size))
  clear hb2
  go_wp2_with fail
  refine (HBK.out _).mono ?_
  rintro e w3 ⟨rfl, hb3⟩
  have HB3 := Lib.hid (HB2.out.trans (hb3.mono HB2.out.size))
  have HK3 := Lib.hid (HK.out.below HB3.out)
  clear hb3
  go_wp2_with fail
  refine (HN.out _ HK3.out).mono ?_
  rintro e w4 ⟨rfl, hb4⟩
  have hba : Below w3.heap.size w3 (w3.alloc (.cells #[.string ⟨#[]⟩] 9)) := (Below.refl _ _).alloc (Nat.le_refl _) _
  have HB4 := Lib.hid (HB3.out.trans ((hba.trans (hb4.mono hba.size)).mono HB3.out.size))
  clear hb4 hba
  go_wp2
  go_ret
  exact ⟨rfl, HB4.out⟩
end Go.Proofs.YtangadeihfkhpaaDoor

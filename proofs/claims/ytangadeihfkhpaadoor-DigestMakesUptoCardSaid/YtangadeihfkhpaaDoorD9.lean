/-
  The walk of DigestHex.
-/
import Derived.Test.YtangadeihfkhpaaDoorD8
namespace Go.Proofs.YtangadeihfkhpaaDoor
open Go.RowKit
set_option linter.unusedVariables false
set_option linter.unusedSimpArgs false

theorem nql_string (s : ByteArray) (w : World) : (binOp .neq 9 (.string s) (.string s)).run Tryd.prog w = .ok (.bool false) w := by
  go_simp
theorem nql_V {V : Value} {s : ByteArray} (hs : Hid (V = .string s)) (w : World) : (binOp .neq 9 V V).run Tryd.prog w = .ok (.bool false) w := by rw [hs.out]; exact nql_string _ _
theorem nguard_V {V : Value} {s : ByteArray} (hs : Hid (V = .string s)) (x y : Operand) (w : World) : (eqGuard .neq 9 x y V V).run Tryd.prog w = .ok () w := by rw [hs.out]; go_simp
theorem len_V {V : Value} {s : ByteArray} (hs : Hid (V = .string s)) (w : World) : (Builtin.len_ #[9] 3 #[V]).run Tryd.prog w = .ok (.int .i64 (s.size : Int)) w := by rw [hs.out]; go_simp

set_option maxRecDepth 20000 in
set_option maxHeartbeats 1000000 in
theorem body (VD VS VX VY VW : Value) (s0 s1 sx sy : ByteArray) (c g : Int) (r : Bool) (w : World) (hK : Kon w)
    (z0 : (s0.size : Int) ≤ 1000) (z1 : (s1.size : Int) ≤ 1000)
    (HVD : Hid (VD = .string s0)) (HVS : Hid (VS = .string s1)) (HVX : Hid (VX = .string sx)) (HVY : Hid (VY = .string sy))
    (H1 : Hid (∀ w, Calls Tryd.prog 12 #[VD] w fun e w' => e = .returned VX ∧ Below w.heap.size w w'))
    (H2 : Hid (∀ w, Calls Tryd.prog 13 #[VS] w fun e w' => e = .returned (.tuple #[VY, .int .i64 c]) ∧ Below w.heap.size w w'))
    (H3 : Hid (∀ w, Calls Tryd.prog 14 #[VS] w fun e w' => e = .returned (.tuple #[VY, .int .i64 c]) ∧ Below w.heap.size w w'))
    (H4 : Hid (∀ w, Calls Tryd.prog 15 #[VD] w fun e w' => e = .returned VX ∧ Below w.heap.size w w'))
    (H5 : Hid (∀ w, Calls Tryd.prog 13 #[VX] w fun e w' => e = .returned (.tuple #[VW, .int .i64 g]) ∧ Below w.heap.size w w'))
    (H6 : Hid (∀ w, Calls Tryd.prog 11 #[VD] w fun e w' => e = .returned (.bool r) ∧ w' = w))
    (H7 : Hid (c = 0 → ∀ w, Calls Tryd.prog 12 #[VY] w fun e w' => e = .returned VS ∧ Below w.heap.size w w'))
    (hr : r = true → VW = VD ∧ g = 0) :
    Calls Tryd.prog 4 #[VD, VS] w fun e w' => e = .returned (.bool true) ∧ Below w.heap.size w w' := by
  have HK := Lib.hid hK
  have e1 := eql_V HVD
  have e2 := guard_V HVD
  have e3 := eql_V HVS
  have e4 := guard_V HVS
  have e5 := nql_V HVX
  have e6 := nguard_V HVX
  have e7 := nql_V HVY
  have e8 := nguard_V HVY
  have l1 := len_V HVD
  have l2 := len_V HVS
  clear hK
  go_enter Tryd.func4, Tryd.ntmps4
  go_wp2_with fail
  refine (H1.out _).mono ?_
  rintro e w1 ⟨rfl, hb1⟩
  have HB1 := Lib.hid hb1
  clear hb1
  go_wp2_with fail
  refine (H2.out _).mono ?_
  rintro e w2 ⟨rfl, hb2⟩
  have HB2 := Lib.hid (HB1.out.trans (hb2.mono HB1.out.size))
  clear hb2
  go_wp2_with fail
  refine (H3.out _).mono ?_
  rintro e w3 ⟨rfl, hb3⟩
  have HB3 := Lib.hid (HB2.out.trans (hb3.mono HB2.out.size))
  clear hb3
  go_wp2_with fail
  refine (H4.out _).mono ?_
  rintro e w4 ⟨rfl, hb4⟩
  have HB4 := Lib.hid (HB3.out.trans (hb4.mono HB3.out.size))
  clear hb4
  go_wp2_with fail
  refine (H5.out _).mono ?_
  rintro e w5 ⟨rfl, hb5⟩
  have HB5 := Lib.hid (HB4.out.trans (hb5.mono HB4.out.size))
  have HK5 := Lib.hid (HK.out.below HB5.out)
  clear hb5
  go_wp2_with fail
  refine (H6.out _).mono ?_
  rintro e w6 ⟨rfl, rfl⟩
  cases r with
  | false =>
    by_cases hc : c = 0
    · have h7 := Lib.hid (H7.out hc)
      subst hc
      go_wp2_with fail
      refine (h7.out _).mono ?_
      rintro e w7 ⟨rfl, hb7⟩
      have HB7 := Lib.hid (HB5.out.trans (hb7.mono HB5.out.size))
      have HK7 := Lib.hid (HK.out.below HB7.out)
      clear hb7
      go_wp2_with fail
      refine (known_true _ HK7.out).mono ?_
      rintro e w8 ⟨rfl, hb8⟩
      go_wp2
      go_ret
      exact ⟨rfl, HB7.out.trans (hb8.mono HB7.out.size)⟩
    · go_wp2_with fail
      refine (known_true _ HK5.out).mono ?_
      rintro e w8 ⟨rfl, hb8⟩
      go_wp2
      go_ret
      exact ⟨rfl, HB5.out.trans (hb8.mono HB5.out.size)⟩
  | true =>
    obtain ⟨hw, rfl⟩ := hr rfl
    subst hw
    by_cases hc : c = 0
    · have h7 := Lib.hid (H7.out hc)
      subst hc
      go_wp2_with fail
      refine (h7.out _).mono ?_
      rintro e w7 ⟨rfl, hb7⟩
      have HB7 := Lib.hid (HB5.out.trans (hb7.mono HB5.out.size))
      have HK7 := Lib.hid (HK.out.below HB7.out)
      clear hb7
      go_wp2_with fail
      refine (known_true _ HK7.out).mono ?_
      rintro e w8 ⟨rfl, hb8⟩
      go_wp2
      go_ret
      exact ⟨rfl, HB7.out.trans (hb8.mono HB7.out.size)⟩
    · go_wp2_with fail
      refine (known_true _ HK5.out).mono ?_
      rintro e w8 ⟨rfl, hb8⟩
      go_wp2
      go_ret
      exact ⟨rfl, HB5.out.trans (hb8.mono HB5.out.size)⟩
end Go.Proofs.YtangadeihfkhpaaDoor

/-
  The fixed calls of the laws of sha.
-/
import Derived.Test.YtmmpeljllhbhhaaDoorS9
import Derived.Lib.SlBytesConst
namespace Go.Proofs.YtmmpeljllhbhhaaDoor
open Go.RowKit
set_option linter.unusedVariables false
set_option linter.unusedSimpArgs false

theorem dig_abc_all : dig [97, 98, 99] = [186, 120, 22, 191, 143, 1, 207, 234, 65, 65, 64, 222, 93, 174, 34, 35, 176, 3, 97, 163, 150, 23, 122, 156, 180, 16, 255, 97, 242, 0, 21, 173] := by decide +kernel

theorem abc_rd (w : World) : Rd (w.alloc (.cells #[.int .u8 97, .int .u8 98, .int .u8 99] 5 (3, 4))) (some ⟨w.heap.size, 0, none⟩) 3 3 [97, 98, 99] := by
  refine ⟨rfl, Nat.le_refl _, by omega, by unfold maxLen; omega, fun _ => ⟨_, _, rfl, by simp, fun i hi => ?_⟩, fun e => by cases e⟩
  rw [World.cell?_alloc_mark, Nat.zero_add]
  match i, hi with
  | 0, _ => rfl
  | 1, _ => rfl
  | 2, _ => rfl

theorem eql_string (s : ByteArray) (w : World) : (binOp .eql 9 (.string s) (.string s)).run Tryd.prog w = .ok (.bool true) w := by
  go_simp
theorem eql_V {V : Value} {s : ByteArray} (hs : Hid (V = .string s)) (w : World) : (binOp .eql 9 V V).run Tryd.prog w = .ok (.bool true) w := by rw [hs.out]; exact eql_string _ _
theorem guard_V {V : Value} {s : ByteArray} (hs : Hid (V = .string s)) (x y : Operand) (w : World) : (eqGuard .eql 9 x y V V).run Tryd.prog w = .ok () w := by rw [hs.out]; go_simp

theorem len_abc (w : World) : (Builtin.len_ #[9] 3 #[strV (dig [97, 98, 99])]).run Tryd.prog w = .ok (.int .i64 32) w := by
  rw [dig_abc_all]; kernel_rfl
theorem cut_abc (w : World) : (Instr.sliceAt 9 (strV (dig [97, 98, 99])) none (some (.int .i64 4)) none).run Tryd.prog w = .ok (.string ⟨#[186, 120, 22, 191]⟩) w := by
  rw [dig_abc_all]; kernel_rfl

set_option maxHeartbeats 1000000 in
theorem known_true (w : World) (hK : Kon w) : Calls Tryd.prog 6 #[] w fun e w' => e = .returned (.bool true) ∧ Below w.heap.size w w' := by
  have hcv := fun (w : World) (C : Array Value) (n c : Nat) => Lib.run_convert_bytes_const (P := Tryd.prog) w 22 5 C n c Tryd.underlying22 Tryd.underlying5
  have HK := Lib.hid hK
  have hV := len_abc
  have hV2 := cut_abc
  obtain ⟨V, hVe⟩ : ∃ V, V = strV (dig [97, 98, 99]) := ⟨_, rfl⟩
  have HV : Hid (V = .string _) := Lib.hid (hVe.trans rfl)
  have e1 := eql_V HV
  have e2 := guard_V HV
  rw [← hVe] at hV hV2
  have HVe := Lib.hid hVe
  clear hK hVe
  go_enter Tryd.func6, Tryd.ntmps6
  go_wp2_with fail
  refine (new_hash _).mono ?_
  rintro e w1 ⟨p, rfl, hp, hh, hb1⟩
  have hK1 := HK.out.below hb1
  have hp0 : p ≠ 0 := by have := HK.out.lt; omega
  have HK1 := Lib.hid hK1
  have HH := Lib.hid hh
  have HB1 := Lib.hid hb1
  clear hK1 hh hb1
  go_wp2_with fail
  have hra := abc_rd w1
  have hba : Below w1.heap.size w1 (w1.alloc (.cells #[.int .u8 97, .int .u8 98, .int .u8 99] 5 (3, 4))) := (Below.refl _ _).alloc (Nat.le_refl _) _
  have hpl := HH.out.lt
  refine (write_any p [] (some ⟨w1.heap.size, 0, none⟩) 3 3 [97, 98, 99] _ (HH.out.below hba) hra (fun x e _ => by cases e; show w1.heap.size ≠ p; omega) (HK1.out.below hba) hp0 (by simp)).mono ?_
  rintro e w2 ⟨rfl, hst, hgr⟩
  have hH2 : Hsh w2 p [97, 98, 99] := hst.hsh (by simp)
  have hK1a := HK1.out.below hba
  have hK2 : Kon w2 := fun j hj => by
    rw [World.cell?_of_block (hgr.block _ hK1a.lt (by show some _ ≠ some _; intro e; cases e; exact hp0 rfl))]; exact hK1a j hj
  have hB1a := HB1.out.trans (hba.mono HB1.out.size)
  have hB2 : Below w.heap.size w w2 := hB1a.grown hgr hB1a.size (fun j hj => by cases hj; exact hp)
  have HK2 := Lib.hid hK2
  have HH2 := Lib.hid hH2
  have HB2 := Lib.hid hB2
  clear hst hgr hH2 hK2 hB2 hK1a hB1a hba hra hpl
  go_wp2_with fail
  have hsum := hsum_any p [97, 98, 99] w2 HH2.out HK2.out (by simp)
  rw [← HVe.out] at hsum
  refine hsum.mono ?_
  rintro e w3 ⟨rfl, hb3⟩
  have HK3 := Lib.hid (HK2.out.below hb3)
  have HH3 := Lib.hid (HH2.out.below hb3)
  have HB3 := Lib.hid (HB2.out.trans (hb3.mono HB2.out.size))
  clear hb3 hsum
  have hra := abc_rd w3
  have hba : Below w3.heap.size w3 (w3.alloc (.cells #[.int .u8 97, .int .u8 98, .int .u8 99] 5 (3, 4))) := (Below.refl _ _).alloc (Nat.le_refl _) _
  have hsb := sum_any (some ⟨w3.heap.size, 0, none⟩) 3 3 [97, 98, 99] _ hra (HK3.out.below hba) (by omega)
  rw [← HVe.out] at hsb
  have HSB := Lib.hid hsb
  clear hsb hra
  go_wp2_with fail
  refine HSB.out.mono ?_
  rintro e w4 ⟨rfl, hb4⟩
  have hb34 := hba.trans (hb4.mono hba.size)
  have hH4 := HH3.out.below hb34
  have HB4 := Lib.hid (HB3.out.trans (hb34.mono HB3.out.size))
  clear hb4 hba HSB hb34
  go_wp2_with fail
  refine (len_any p _ w4 hH4).mono ?_
  rintro e w5 ⟨rfl, rfl⟩
  go_wp2
  go_ret
  exact ⟨rfl, HB4.out⟩
end Go.Proofs.YtmmpeljllhbhhaaDoor

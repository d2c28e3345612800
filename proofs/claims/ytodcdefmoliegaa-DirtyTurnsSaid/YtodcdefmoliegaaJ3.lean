/-
  The walk of DirtyTurns.
-/
import Derived.Test.YtodcdefmoliegaaJ2
import Derived.Deep.DeepCutAuto
namespace Go.Proofs.Ytodcdefmoliegaa
open Go.RowKit
set_option linter.unusedVariables false
set_option linter.unusedSimpArgs false

theorem mark_some (a b c d g : Nat) (i : Int) : ∃ m0 m1 m2 m3 m4 err : Nat, markV a b c d g i = .tuple #[mapV m0 m1 m2 m3 m4, .int .i64 (err : Int)] := by
  unfold markV markP
  split <;> exact ⟨_, _, _, _, _, _, rfl⟩

set_option maxRecDepth 20000 in
set_option maxHeartbeats 8000000 in
theorem turns_walk (a b c d g : Nat) (i : Int) (e : Nat) (w : World) (ha : a < 18446744073709551616) (hb : b < 18446744073709551616) (hc : c < 18446744073709551616) (hd : d < 18446744073709551616) :
    Calls Try.prog 3 #[mapV a b c d g, .int .i64 i, .int .u64 (e : Int)] w fun x w' => x = .returned (.bool true) ∧ Below w.heap.size w w' := by
  have h0 := fun w => given_any a b c d g w
  have ht := fun a b c d g w => taken_any a b c d g w
  have h1 := fun w => mark_any a b c d g i w ha hb
  have h2 := fun w => rmark_any a b c d g i w ha hb
  have h3 := fun w => freeze_any a b c d g e w
  have h4 := fun w => rfreeze_any a b c d g e w
  have h5 := fun w => merge_any a b c d g w ha hb hc hd
  have h6 := fun w => rmerge_any a b c d g w ha hb hc hd
  have h7 := fun w => close_any a b c d g w
  have h8 := fun w => rclose_any a b c d g w
  have h9 := fun w => dknown_any w
  obtain ⟨m0, m1, m2, m3, m4, err, hm⟩ := mark_some a b c d g i
  rw [hm] at h1 h2
  clear hm
  generalize (a ||| c) = x at *
  generalize (b ||| d) = y at *
  obtain ⟨z, hz⟩ : ∃ z : Nat, z = 0 := ⟨_, rfl⟩
  rw [← hz] at h3 h4 h5 h6 h7 h8
  clear hz ha hb hc hd
  have qm := fun a b c d g w => eql_rmap a b c d g a b c d g w
  have qn := fun op p q a b c d g w => guard_rmap op p q a b c d g a b c d g w
  have qe : ∀ w, (binOp .eql 31 (.int .i64 (err : Int)) (.int .i64 (err : Int))).run Try.prog w = .ok (.bool true) w := fun w => by simp [go_sem]
  have qg : ∀ op x y w, Sem.run Try.prog (eqGuard op 31 x y (.int .i64 (err : Int)) (.int .i64 (err : Int))) w = .ok () w := fun op x y w => by unfold eqGuard; cases op <;> rfl
  simp only [and_self, decide_true] at qm
  unfold mapV at *
  generalize Value.int .i64 (err : Int) = ER at *
  have H0 := Lib.hid h0
  have HT := Lib.hid ht
  have H1 := Lib.hid h1
  have H2 := Lib.hid h2
  have H3 := Lib.hid h3
  have H4 := Lib.hid h4
  have H5 := Lib.hid h5
  have H6 := Lib.hid h6
  have H7 := Lib.hid h7
  have H8 := Lib.hid h8
  have H9 := Lib.hid h9
  clear h0 ht h1 h2 h3 h4 h5 h6 h7 h8 h9
  have b0 := Box5.new w 26 (.int .u64 (a : Int)) (.int .u64 (b : Int)) (.int .u64 (c : Int)) (.int .u64 (d : Int)) (.int .u64 (g : Int))
  have hB0 : Below w.heap.size w (w.alloc (.cells #[.int .u64 (a : Int), .int .u64 (b : Int), .int .u64 (c : Int), .int .u64 (d : Int), .int .u64 (g : Int)] 26)) := (Below.refl _ w).alloc (Nat.le_refl _) _
  go_enter Try.func3, Try.ntmps3
  go_wp2_with fail
  generalize w.alloc (.cells #[.int .u64 (a : Int), .int .u64 (b : Int), .int .u64 (c : Int), .int .u64 (d : Int), .int .u64 (g : Int)] 26) = W0 at *
  have k0 := b0.c0
  have k1 := b0.c1
  have k2 := b0.c2
  have k3 := b0.c3
  have k4 := b0.c4
  have HB0 := Lib.hid hB0
  have HX0 := Lib.hid b0
  clear hB0 b0
  go_wp2_with fail
  refine (H0.out _).mono ?_
  rintro r w1 ⟨rfl, hb⟩
  have hB := HB0.out.trans (hb.mono HB0.out.size)
  have bM := (HX0.out.below hb HX0.out.lt).alloc (.cells #[.int .u64 (a : Int), .int .u64 (b : Int), .int .u64 (c : Int), .int .u64 (d : Int), .int .u64 (g : Int)] 29)
  have bX := Box5.new w1 29 (.int .u64 (a : Int)) (.int .u64 (b : Int)) (.int .u64 (c : Int)) (.int .u64 (d : Int)) (.int .u64 (g : Int))
  have hB1 : Below w.heap.size w (w1.alloc (.cells #[.int .u64 (a : Int), .int .u64 (b : Int), .int .u64 (c : Int), .int .u64 (d : Int), .int .u64 (g : Int)] 29)) := hB.alloc hB.size _
  obtain ⟨pX, hpX⟩ : ∃ p, p = w1.heap.size := ⟨_, rfl⟩
  obtain ⟨W1, hW1⟩ : ∃ W, W = w1.alloc (.cells #[.int .u64 (a : Int), .int .u64 (b : Int), .int .u64 (c : Int), .int .u64 (d : Int), .int .u64 (g : Int)] 29) := ⟨_, rfl⟩
  rw [← hpX] at bX
  rw [← hW1] at bM bX hB1
  clear hb hB k0 k1 k2 k3 k4 HX0 HB0
  have k0 := bX.c0
  have k1 := bX.c1
  have k2 := bX.c2
  have k3 := bX.c3
  have k4 := bX.c4
  have HM1 := Lib.hid bM
  have HX1 := Lib.hid bX
  have HB1 := Lib.hid hB1
  clear bM bX hB1
  go_wp2_with fail
  rw [← hpX, ← hW1]
  clear hpX hW1
  go_wp2_with fail
  refine (H1.out _).mono ?_
  rintro r w2 ⟨rfl, hb⟩
  have hB := HB1.out.trans (hb.mono HB1.out.size)
  have bM := (HM1.out.below hb HM1.out.lt).alloc (.cells #[.int .u64 (m0 : Int), .int .u64 (m1 : Int), .int .u64 (m2 : Int), .int .u64 (m3 : Int), .int .u64 (m4 : Int)] 29)
  have bX := (HX1.out.below hb HX1.out.lt).alloc (.cells #[.int .u64 (m0 : Int), .int .u64 (m1 : Int), .int .u64 (m2 : Int), .int .u64 (m3 : Int), .int .u64 (m4 : Int)] 29)
  have bA := Box5.new w2 29 (.int .u64 (m0 : Int)) (.int .u64 (m1 : Int)) (.int .u64 (m2 : Int)) (.int .u64 (m3 : Int)) (.int .u64 (m4 : Int))
  have hB2 : Below w.heap.size w (w2.alloc (.cells #[.int .u64 (m0 : Int), .int .u64 (m1 : Int), .int .u64 (m2 : Int), .int .u64 (m3 : Int), .int .u64 (m4 : Int)] 29)) := hB.alloc hB.size _
  obtain ⟨pA, hpA⟩ : ∃ p, p = w2.heap.size := ⟨_, rfl⟩
  obtain ⟨W2, hW2⟩ : ∃ W, W = w2.alloc (.cells #[.int .u64 (m0 : Int), .int .u64 (m1 : Int), .int .u64 (m2 : Int), .int .u64 (m3 : Int), .int .u64 (m4 : Int)] 29) := ⟨_, rfl⟩
  rw [← hpA] at bA
  rw [← hW2] at bM bX bA hB2
  clear hb hB k0 k1 k2 k3 k4 HX1 HM1 HB1
  have k0 := bM.c0
  have k1 := bM.c1
  have k2 := bM.c2
  have k3 := bM.c3
  have k4 := bM.c4
  have HM2 := Lib.hid bM
  have HX2 := Lib.hid bX
  have HA2 := Lib.hid bA
  have HB2 := Lib.hid hB2
  clear bM bX bA hB2
  go_upto_region 3 with fail
  rw [← hpA, ← hW2]
  clear hpA hW2
  go_wp2_with fail
  refine (H2.out _).mono ?_
  rintro r w3 ⟨rfl, hb⟩
  have hB := HB2.out.trans (hb.mono HB2.out.size)
  have bM := (HM2.out.below hb HM2.out.lt).alloc (.cells #[.int .u64 (m0 : Int), .int .u64 (m1 : Int), .int .u64 (m2 : Int), .int .u64 (m3 : Int), .int .u64 (m4 : Int)] 26)
  have bX := (HX2.out.below hb HX2.out.lt).alloc (.cells #[.int .u64 (m0 : Int), .int .u64 (m1 : Int), .int .u64 (m2 : Int), .int .u64 (m3 : Int), .int .u64 (m4 : Int)] 26)
  have bA := (HA2.out.below hb HA2.out.lt).alloc (.cells #[.int .u64 (m0 : Int), .int .u64 (m1 : Int), .int .u64 (m2 : Int), .int .u64 (m3 : Int), .int .u64 (m4 : Int)] 26)
  have bB := Box5.new w3 26 (.int .u64 (m0 : Int)) (.int .u64 (m1 : Int)) (.int .u64 (m2 : Int)) (.int .u64 (m3 : Int)) (.int .u64 (m4 : Int))
  have hB3 : Below w.heap.size w (w3.alloc (.cells #[.int .u64 (m0 : Int), .int .u64 (m1 : Int), .int .u64 (m2 : Int), .int .u64 (m3 : Int), .int .u64 (m4 : Int)] 26)) := hB.alloc hB.size _
  obtain ⟨pB, hpB⟩ : ∃ p, p = w3.heap.size := ⟨_, rfl⟩
  obtain ⟨W3, hW3⟩ : ∃ W, W = w3.alloc (.cells #[.int .u64 (m0 : Int), .int .u64 (m1 : Int), .int .u64 (m2 : Int), .int .u64 (m3 : Int), .int .u64 (m4 : Int)] 26) := ⟨_, rfl⟩
  rw [← hpB] at bB
  rw [← hW3] at bM bX bA bB hB3
  clear hb hB k0 k1 k2 k3 k4 HX2 HM2 HA2 HB2
  have HB3 := Lib.hid hB3
  clear hB3
  go_wp2_with fail
  rw [← hpB, ← hW3]
  clear hpB hW3
  have hkp : ∀ w', Below W3.drew.heap.size W3.drew w' → (w'.cell? ⟨w.heap.size, 0, none⟩ = some (.int .u64 (a : Int)) ∧ w'.cell? ⟨w.heap.size, 1, none⟩ = some (.int .u64 (b : Int)) ∧ w'.cell? ⟨w.heap.size, 2, none⟩ = some (.int .u64 (c : Int)) ∧ w'.cell? ⟨w.heap.size, 3, none⟩ = some (.int .u64 (d : Int)) ∧ w'.cell? ⟨w.heap.size, 4, none⟩ = some (.int .u64 (g : Int)) ∧ w'.cell? ⟨pX, 0, none⟩ = some (.int .u64 (a : Int)) ∧ w'.cell? ⟨pX, 1, none⟩ = some (.int .u64 (b : Int)) ∧ w'.cell? ⟨pX, 2, none⟩ = some (.int .u64 (c : Int)) ∧ w'.cell? ⟨pX, 3, none⟩ = some (.int .u64 (d : Int)) ∧ w'.cell? ⟨pX, 4, none⟩ = some (.int .u64 (g : Int)) ∧ w'.cell? ⟨pA, 0, none⟩ = some (.int .u64 (m0 : Int)) ∧ w'.cell? ⟨pA, 1, none⟩ = some (.int .u64 (m1 : Int)) ∧ w'.cell? ⟨pA, 2, none⟩ = some (.int .u64 (m2 : Int)) ∧ w'.cell? ⟨pA, 3, none⟩ = some (.int .u64 (m3 : Int)) ∧ w'.cell? ⟨pA, 4, none⟩ = some (.int .u64 (m4 : Int)) ∧ w'.cell? ⟨pB, 0, none⟩ = some (.int .u64 (m0 : Int)) ∧ w'.cell? ⟨pB, 1, none⟩ = some (.int .u64 (m1 : Int)) ∧ w'.cell? ⟨pB, 2, none⟩ = some (.int .u64 (m2 : Int)) ∧ w'.cell? ⟨pB, 3, none⟩ = some (.int .u64 (m3 : Int)) ∧ w'.cell? ⟨pB, 4, none⟩ = some (.int .u64 (m4 : Int))) := fun w' h =>
    have xM := (show Box5 W3.drew _ _ _ _ _ _ _ from bM).below h bM.lt
    have xX := (show Box5 W3.drew _ _ _ _ _ _ _ from bX).below h bX.lt
    have xA := (show Box5 W3.drew _ _ _ _ _ _ _ from bA).below h bA.lt
    have xB := (show Box5 W3.drew _ _ _ _ _ _ _ from bB).below h bB.lt
    ⟨xM.c0, xM.c1, xM.c2, xM.c3, xM.c4, xX.c0, xX.c1, xX.c2, xX.c3, xX.c4, xA.c0, xA.c1, xA.c2, xA.c3, xA.c4, xB.c0, xB.c1, xB.c2, xB.c3, xB.c4⟩
  have hG : Below W3.drew.heap.size W3.drew W3.drew := Below.refl _ _
  have HKP := Lib.hid hkp
  clear hkp bM bX bA bB
  go_wp2_with fail
  go_region_held3 (fun w' => (w'.cell? ⟨w.heap.size, 0, none⟩ = some (.int .u64 (a : Int)) ∧ w'.cell? ⟨w.heap.size, 1, none⟩ = some (.int .u64 (b : Int)) ∧ w'.cell? ⟨w.heap.size, 2, none⟩ = some (.int .u64 (c : Int)) ∧ w'.cell? ⟨w.heap.size, 3, none⟩ = some (.int .u64 (d : Int)) ∧ w'.cell? ⟨w.heap.size, 4, none⟩ = some (.int .u64 (g : Int)) ∧ w'.cell? ⟨pX, 0, none⟩ = some (.int .u64 (a : Int)) ∧ w'.cell? ⟨pX, 1, none⟩ = some (.int .u64 (b : Int)) ∧ w'.cell? ⟨pX, 2, none⟩ = some (.int .u64 (c : Int)) ∧ w'.cell? ⟨pX, 3, none⟩ = some (.int .u64 (d : Int)) ∧ w'.cell? ⟨pX, 4, none⟩ = some (.int .u64 (g : Int)) ∧ w'.cell? ⟨pA, 0, none⟩ = some (.int .u64 (m0 : Int)) ∧ w'.cell? ⟨pA, 1, none⟩ = some (.int .u64 (m1 : Int)) ∧ w'.cell? ⟨pA, 2, none⟩ = some (.int .u64 (m2 : Int)) ∧ w'.cell? ⟨pA, 3, none⟩ = some (.int .u64 (m3 : Int)) ∧ w'.cell? ⟨pA, 4, none⟩ = some (.int .u64 (m4 : Int)) ∧ w'.cell? ⟨pB, 0, none⟩ = some (.int .u64 (m0 : Int)) ∧ w'.cell? ⟨pB, 1, none⟩ = some (.int .u64 (m1 : Int)) ∧ w'.cell? ⟨pB, 2, none⟩ = some (.int .u64 (m2 : Int)) ∧ w'.cell? ⟨pB, 3, none⟩ = some (.int .u64 (m3 : Int)) ∧ w'.cell? ⟨pB, 4, none⟩ = some (.int .u64 (m4 : Int))))
    (exact HKP.out _ hG)
    (first
    | (go_at_call 7; with_reducible refine (HT.out _ _ _ _ _ _).mono ?_; rintro r w' ⟨rfl, hb⟩; replace hG := hG.trans (hb.mono hG.size); clear hb)
    | (go_at_call 8; with_reducible refine (H3.out _).mono ?_; rintro r w' ⟨rfl, hb⟩; replace hG := hG.trans (hb.mono hG.size); clear hb)
    | (go_at_call 9; with_reducible refine (H4.out _).mono ?_; rintro r w' ⟨rfl, hb⟩; replace hG := hG.trans (hb.mono hG.size); clear hb)
    | (go_at_call 10; with_reducible refine (H5.out _).mono ?_; rintro r w' ⟨rfl, hb⟩; replace hG := hG.trans (hb.mono hG.size); clear hb)
    | (go_at_call 11; with_reducible refine (H6.out _).mono ?_; rintro r w' ⟨rfl, hb⟩; replace hG := hG.trans (hb.mono hG.size); clear hb)
    | (go_at_call 12; with_reducible refine (H7.out _).mono ?_; rintro r w' ⟨rfl, hb⟩; replace hG := hG.trans (hb.mono hG.size); clear hb)
    | (go_at_call 13; with_reducible refine (H8.out _).mono ?_; rintro r w' ⟨rfl, hb⟩; replace hG := hG.trans (hb.mono hG.size); clear hb)
    | (go_at_call 14; with_reducible refine (H9.out _).mono ?_; rintro r w' ⟨rfl, hb⟩; replace hG := hG.trans (hb.mono hG.size); clear hb))
  rename_i hHeld
  clear hHeld
  have hF := HB3.out.trans (Below.mono ⟨hG.os, hG.tape, hG.output, hG.size, hG.block⟩ HB3.out.size)
  have HF := Lib.hid hF
  clear hF hG
  go_wp2
  go_ret
  exact ⟨rfl, HF.out⟩
end Go.Proofs.Ytodcdefmoliegaa


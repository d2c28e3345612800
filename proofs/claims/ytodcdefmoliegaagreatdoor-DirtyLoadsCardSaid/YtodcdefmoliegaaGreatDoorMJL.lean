/-
  Texts put together: JL, J4, JM.
-/
import Derived.Test.YtodcdefmoliegaaGreatDoorMJC
import Derived.Deep.RegionHeld3
import Derived.Test.YtodcdefmoliegaaGreatDoorMJ0
import Derived.ProofKit
import Derived.OpenShut
import Derived.ChangeOld
import Derived.Below
/-
  The walk of DirtyLoads.
-/
namespace Go.Proofs.YtodcdefmoliegaaGreatDoor
open Go.RowKit
set_option linter.unusedVariables false
set_option linter.unusedSimpArgs false

set_option maxRecDepth 20000 in
set_option maxHeartbeats 16000000 in
theorem dloads_walk (n : Int) (s : ByteArray) (m : MT) (down : Bool) (w : World) (hm : m.ok) :
    Calls Tryz.prog 3 #[.int .i64 n, .string s, m.val, .bool down] w fun e w' => e = .returned (.bool true) ∧ Below w.heap.size w w' := by
  obtain ⟨w0, hw0⟩ : ∃ w0, w0 = w.alloc (.cells #[.int .u64 (m.a : Int), .int .u64 (m.b : Int), .int .u64 (m.c : Int), .int .u64 (m.d : Int), .int .u64 (m.e : Int)] 26) := ⟨_, rfl⟩
  have hal : Below w.heap.size w w0 := by rw [hw0]; exact (Below.refl _ w).alloc (Nat.le_refl _) _
  have hbx : Bx w0 [(w.heap.size, 26, m)] := by rw [hw0]; exact Bx.new (l := []) (fun e he => by cases he) m 26
  have KN := Lib.hid known_one
  have HAL := Lib.hid hal
  have HW0 := Lib.hid hw0
  have HBX0 := Lib.hid hbx
  clear hal hw0 hbx
  by_cases hbad : n < 1 ∨ 10 < n
  · simp only [MT.val_cells]
    clear hm
    rcases hbad with hb | hb
    · have hd : decide (n < 1) = true := decide_eq_true hb
      go_enter Tryz.func3, Tryz.ntmps3
      go_wp2_with fail
      rw [← HW0.out]
      go_wp2_with fail
      refine (KN.out _).mono ?_
      rintro e w1 ⟨rfl, hb⟩
      have HB := Lib.hid (HAL.out.trans (hb.mono HAL.out.size))
      clear hb
      go_wp2
      go_ret
      exact ⟨rfl, HB.out⟩
    · have hd : ¬ n < 1 := by omega
      go_enter Tryz.func3, Tryz.ntmps3
      go_wp2_with fail
      rw [← HW0.out]
      go_wp2_with fail
      refine (KN.out _).mono ?_
      rintro e w1 ⟨rfl, hb⟩
      have HB := Lib.hid (HAL.out.trans (hb.mono HAL.out.size))
      clear hb
      go_wp2
      go_ret
      exact ⟨rfl, HB.out⟩
  · obtain ⟨n, rfl⟩ : ∃ k : Nat, n = k := ⟨n.toNat, by omega⟩
    have q4 : ¬ (n : Int) < 1 := by omega
    have q5 : ¬ 10 < (n : Int) := by omega
    have o0 : (ds0 n).ok 0 := ds0_ok n (by omega)
    have o1 := o0.write 5 s
    obtain ⟨a, S1, e1⟩ : ∃ a S1, (ds0 n).write 5 s = (a, S1) := ⟨_, _, rfl⟩
    obtain ⟨S2, e2⟩ : ∃ S2, S2 = (if down = true then S1.crash [true] else S1) := ⟨_, rfl⟩
    rw [e1] at o1
    dsimp only at o1
    have o2 : S2.ok 1 := by rw [e2]; split; exact o1.crash _; exact o1
    obtain ⟨x, ex, e3⟩ : ∃ x ex, dloadP S2 = (x, ex) := ⟨_, _, rfl⟩
    have o3 := dsaveP_ok o2 m
    have hth := fun h => dsave_then (S := S2) hm h
    obtain ⟨g, S3, e4⟩ : ∃ g S3, dsaveP S2 m = (g, S3) := ⟨_, _, rfl⟩
    rw [e4] at o3 hth
    dsimp only at o3 hth
    obtain ⟨z, ez, e5⟩ : ∃ z ez, dloadP S3 = (z, ez) := ⟨_, _, rfl⟩
    rw [e5] at hth
    have hzm : g = 0 → z = m := fun h => congrArg Prod.fst (hth h)
    have m0 := fun w' => st_new n w' (by omega) (by omega)
    have m1 := fun w' p (h : St w0 w' p (ds0 n)) => s2_new n h HBX0.out (by omega) (by omega)
    have m2 := fun w' p q l (h : St2 w0 w' p q (ds0 n) (ds0 n) l) => s2_write 5 s h (o0.mono (by omega))
    have m3 := fun w' p q l (h : St2 w0 w' p q S1 (ds0 n) l) => s2_rwrite 5 s h (o0.mono (by omega))
    have m4 := fun w' p q l (h : St2 w0 w' p q S1 S1 l) => s2_crash h (o1.mono (by omega))
    have m5 := fun w' p q l (h : St2 w0 w' p q (S1.crash [true]) S1 l) => s2_rcrash h (o1.mono (by omega))
    have m6 := fun w' p q l (h : St2 w0 w' p q S2 S2 l) => s2_load h (o2.mono (by omega))
    have m7 := fun w' p q l (h : St2 w0 w' p q S2 S2 l) => s2_rload h (o2.mono (by omega))
    have m8 := fun w' p q l (h : St2 w0 w' p q S2 S2 l) => s2_save m h (o2.mono (by omega)) hm
    have m9 := fun w' p q l (h : St2 w0 w' p q S3 S2 l) => s2_rsave m h (o2.mono (by omega)) hm
    have mA := fun w' p q l (h : St2 w0 w' p q S3 S3 l) => s2_load h (o3.mono (by omega))
    have mB := fun w' p q l (h : St2 w0 w' p q S3 S3 l) => s2_rload h (o3.mono (by omega))
    simp only [e1] at m2 m3
    simp only [e3] at m6 m7
    simp only [e4] at m8 m9
    simp only [e5] at mA mB
    unfold dloadV at m6 m7 mA mB
    dsimp only at m6 m7 mA mB
    have hg := fun w' => given_val m w'
    have hx := fun w' => taken_val x w'
    have hz := fun w' => taken_val z w'
    have q1 := fun w' => eql_mt x x w'
    have q2 := fun op u v w' => guard_mt op u v x x w'
    have q3 := fun w' => eql_mt z z w'
    have q6 := fun op u v w' => guard_mt op u v z z w'
    have q7 := fun w' => eql_mt z m w'
    have q8 := fun op u v w' => guard_mt op u v z m w'
    simp only [decide_true] at q1 q3
    simp only [MT.val_cells] at *
    have M0 := Lib.hid m0
    have M1 := Lib.hid m1
    have M2 := Lib.hid m2
    have M3 := Lib.hid m3
    have M4 := Lib.hid m4
    have M5 := Lib.hid m5
    have M6 := Lib.hid m6
    have M7 := Lib.hid m7
    have M8 := Lib.hid m8
    have M9 := Lib.hid m9
    have MA := Lib.hid mA
    have MB := Lib.hid mB
    have HG := Lib.hid hg
    have HTX := Lib.hid hx
    have HTZ := Lib.hid hz
    have HZM := Lib.hid hzm
    have HQ := Lib.hid (And.intro q1 (And.intro q2 (And.intro q3 (And.intro q6 (And.intro q7 q8)))))
    clear hbad hm o0 o1 o2 o3 e1 e3 e4 e5 m0 m1 m2 m3 m4 m5 m6 m7 m8 m9 mA mB hg hx hz hth hzm q1 q2 q3 q6 q7 q8
    cases down with
    | true =>
      rw [if_pos rfl] at e2
      subst e2
      go_enter Tryz.func3, Tryz.ntmps3
      go_wp2_with fail
      rw [← HW0.out]
      go_wp2_with fail
      refine (M0.out _).mono ?_
      rintro e w1 ⟨p, rfl, h1⟩
      have H1 := Lib.hid h1
      clear h1 M0
      go_wp2_with fail
      refine (M1.out _ _ H1.out).mono ?_
      rintro e w2 ⟨q, rfl, h1⟩
      have H2 := Lib.hid h1
      clear h1 M1 H1
      go_wp2_with fail
      refine (M2.out _ _ _ _ H2.out).mono ?_
      rintro e w3 ⟨rfl, h1⟩
      have H3 := Lib.hid h1
      clear h1 M2 H2
      go_wp2_with fail
      refine (M3.out _ _ _ _ H3.out).mono ?_
      rintro e w4 ⟨rfl, h1⟩
      have H4 := Lib.hid h1
      clear h1 M3 H3
      go_wp2_with fail
      refine (M4.out _ _ _ _ H4.out).mono ?_
      rintro e w5 ⟨rfl, h1⟩
      have H5 := Lib.hid h1
      clear h1 M4 H4
      go_wp2_with fail
      refine (M5.out _ _ _ _ H5.out).mono ?_
      rintro e w6 ⟨rfl, h1⟩
      have H6 := Lib.hid h1
      clear h1 M5 H5
      go_wp2_with fail
      refine (M6.out _ _ _ _ H6.out).mono ?_
      rintro e v6 ⟨rfl, h1⟩
      have h2 := h1.box x 41
      go_upto_region 11 with fail
      obtain ⟨pA, hp⟩ : ∃ p, p = v6.heap.size := ⟨_, rfl⟩
      obtain ⟨V6, hW⟩ : ∃ W, W = v6.alloc (.cells #[.int .u64 (x.a : Int), .int .u64 (x.b : Int), .int .u64 (x.c : Int), .int .u64 (x.d : Int), .int .u64 (x.e : Int)] 41) := ⟨_, rfl⟩
      rw [← hp] at h2 ⊢
      rw [← hW] at h2 ⊢
      have H7 := Lib.hid h2
      clear h1 h2 hp hW H6 M6
      go_wp2_with fail
      refine (M7.out _ _ _ _ H7.out).mono ?_
      rintro e v7 ⟨rfl, h1⟩
      have h2 := h1.box x 26
      go_upto_region 12 with fail
      obtain ⟨pB, hp⟩ : ∃ p, p = v7.heap.size := ⟨_, rfl⟩
      obtain ⟨V7, hW⟩ : ∃ W, W = v7.alloc (.cells #[.int .u64 (x.a : Int), .int .u64 (x.b : Int), .int .u64 (x.c : Int), .int .u64 (x.d : Int), .int .u64 (x.e : Int)] 26) := ⟨_, rfl⟩
      rw [← hp] at h2 ⊢
      rw [← hW] at h2 ⊢
      have H8 := Lib.hid h2
      clear h1 h2 hp hW H7 M7
      have bm := H8.out.bx.get (p := w.heap.size) (t := 26) (m := m) (by simp)
      have k0 := bm.c0
      have k1 := bm.c1
      have k2 := bm.c2
      have k3 := bm.c3
      have k4 := bm.c4
      clear bm
      go_wp2_with fail
      refine (HG.out _).mono ?_
      rintro e w7 ⟨rfl, hb⟩
      have H9 := Lib.hid (H8.out.below hb)
      clear hb H8 k0 k1 k2 k3 k4
      go_wp2_with fail
      refine (M8.out _ _ _ _ H9.out).mono ?_
      rintro e w8 ⟨rfl, h1⟩
      have H10 := Lib.hid h1
      have bm := h1.bx.get (p := w.heap.size) (t := 26) (m := m) (by simp)
      have k0 := bm.c0
      have k1 := bm.c1
      have k2 := bm.c2
      have k3 := bm.c3
      have k4 := bm.c4
      clear h1 bm M8 H9
      go_wp2_with fail
      refine (M9.out _ _ _ _ H10.out).mono ?_
      rintro e w9 ⟨rfl, h1⟩
      have H11 := Lib.hid h1
      clear h1 M9 H10 k0 k1 k2 k3 k4
      go_wp2_with fail
      refine (MA.out _ _ _ _ H11.out).mono ?_
      rintro e v8 ⟨rfl, h1⟩
      have h2 := h1.box z 41
      go_upto_region 15 with fail
      obtain ⟨pC, hp⟩ : ∃ p, p = v8.heap.size := ⟨_, rfl⟩
      obtain ⟨V8, hW⟩ : ∃ W, W = v8.alloc (.cells #[.int .u64 (z.a : Int), .int .u64 (z.b : Int), .int .u64 (z.c : Int), .int .u64 (z.d : Int), .int .u64 (z.e : Int)] 41) := ⟨_, rfl⟩
      rw [← hp] at h2 ⊢
      rw [← hW] at h2 ⊢
      have H12 := Lib.hid h2
      clear h1 h2 hp hW H11 MA
      go_wp2_with fail
      refine (MB.out _ _ _ _ H12.out).mono ?_
      rintro e v9 ⟨rfl, h1⟩
      have h2 := h1.box z 26
      go_upto_region 16 with fail
      obtain ⟨pE, hp⟩ : ∃ p, p = v9.heap.size := ⟨_, rfl⟩
      obtain ⟨V9, hW⟩ : ∃ W, W = v9.alloc (.cells #[.int .u64 (z.a : Int), .int .u64 (z.b : Int), .int .u64 (z.c : Int), .int .u64 (z.d : Int), .int .u64 (z.e : Int)] 26) := ⟨_, rfl⟩
      rw [← hp] at h2 ⊢
      rw [← hW] at h2 ⊢
      have H13 := Lib.hid h2
      clear h1 h2 hp hW H12 MB
      have hkp : ∀ w', Below V9.drew.heap.size V9.drew w' → (w'.cell? ⟨w.heap.size, 0, none⟩ = some (.int .u64 (m.a : Int)) ∧ w'.cell? ⟨w.heap.size, 1, none⟩ = some (.int .u64 (m.b : Int)) ∧ w'.cell? ⟨w.heap.size, 2, none⟩ = some (.int .u64 (m.c : Int)) ∧ w'.cell? ⟨w.heap.size, 3, none⟩ = some (.int .u64 (m.d : Int)) ∧ w'.cell? ⟨w.heap.size, 4, none⟩ = some (.int .u64 (m.e : Int)) ∧ w'.cell? ⟨pA, 0, none⟩ = some (.int .u64 (x.a : Int)) ∧ w'.cell? ⟨pA, 1, none⟩ = some (.int .u64 (x.b : Int)) ∧ w'.cell? ⟨pA, 2, none⟩ = some (.int .u64 (x.c : Int)) ∧ w'.cell? ⟨pA, 3, none⟩ = some (.int .u64 (x.d : Int)) ∧ w'.cell? ⟨pA, 4, none⟩ = some (.int .u64 (x.e : Int)) ∧ w'.cell? ⟨pB, 0, none⟩ = some (.int .u64 (x.a : Int)) ∧ w'.cell? ⟨pB, 1, none⟩ = some (.int .u64 (x.b : Int)) ∧ w'.cell? ⟨pB, 2, none⟩ = some (.int .u64 (x.c : Int)) ∧ w'.cell? ⟨pB, 3, none⟩ = some (.int .u64 (x.d : Int)) ∧ w'.cell? ⟨pB, 4, none⟩ = some (.int .u64 (x.e : Int)) ∧ w'.cell? ⟨pC, 0, none⟩ = some (.int .u64 (z.a : Int)) ∧ w'.cell? ⟨pC, 1, none⟩ = some (.int .u64 (z.b : Int)) ∧ w'.cell? ⟨pC, 2, none⟩ = some (.int .u64 (z.c : Int)) ∧ w'.cell? ⟨pC, 3, none⟩ = some (.int .u64 (z.d : Int)) ∧ w'.cell? ⟨pC, 4, none⟩ = some (.int .u64 (z.e : Int)) ∧ w'.cell? ⟨pE, 0, none⟩ = some (.int .u64 (z.a : Int)) ∧ w'.cell? ⟨pE, 1, none⟩ = some (.int .u64 (z.b : Int)) ∧ w'.cell? ⟨pE, 2, none⟩ = some (.int .u64 (z.c : Int)) ∧ w'.cell? ⟨pE, 3, none⟩ = some (.int .u64 (z.d : Int)) ∧ w'.cell? ⟨pE, 4, none⟩ = some (.int .u64 (z.e : Int))) := fun w' h =>
        have bx : Bx w' _ := (show Bx V9.drew _ from H13.out.bx).below h
        have b0 := bx.get (p := w.heap.size) (t := 26) (m := m) (by simp)
        have b1 := bx.get (p := pA) (t := 41) (m := x) (by simp)
        have b2 := bx.get (p := pB) (t := 26) (m := x) (by simp)
        have b3 := bx.get (p := pC) (t := 41) (m := z) (by simp)
        have b4 := bx.get (p := pE) (t := 26) (m := z) (by simp)
        ⟨b0.c0, b0.c1, b0.c2, b0.c3, b0.c4, b1.c0, b1.c1, b1.c2, b1.c3, b1.c4, b2.c0, b2.c1, b2.c2, b2.c3, b2.c4, b3.c0, b3.c1, b3.c2, b3.c3, b3.c4, b4.c0, b4.c1, b4.c2, b4.c3, b4.c4⟩
      have hG : Below V9.drew.heap.size V9.drew V9.drew := Below.refl _ _
      have HB9 := Lib.hid (HAL.out.trans (H13.out.fin.mono HAL.out.size))
      have HKP := Lib.hid hkp
      clear hkp H13
      obtain ⟨q1, q2, q3, q6, q7, q8⟩ := HQ.out
      have qa : ∀ w, (binOp .eql 29 (.int .i64 a) (.int .i64 a)).run Tryz.prog w = .ok (.bool true) w := fun w => by simp [go_sem]
      have qb : ∀ op x y w, Sem.run Tryz.prog (eqGuard op 29 x y (.int .i64 a) (.int .i64 a)) w = .ok () w := fun op x y w => by unfold eqGuard; cases op <;> rfl
      by_cases hg0 : g = 0
      · have hzm := HZM.out hg0
        subst hg0
        have hdz : decide (z = m) = true := decide_eq_true hzm
        simp only [hdz] at q7
        clear hdz
        clear HZM hzm HQ HBX0 HW0
        go_region_held3 (fun w' => (w'.cell? ⟨w.heap.size, 0, none⟩ = some (.int .u64 (m.a : Int)) ∧ w'.cell? ⟨w.heap.size, 1, none⟩ = some (.int .u64 (m.b : Int)) ∧ w'.cell? ⟨w.heap.size, 2, none⟩ = some (.int .u64 (m.c : Int)) ∧ w'.cell? ⟨w.heap.size, 3, none⟩ = some (.int .u64 (m.d : Int)) ∧ w'.cell? ⟨w.heap.size, 4, none⟩ = some (.int .u64 (m.e : Int)) ∧ w'.cell? ⟨pA, 0, none⟩ = some (.int .u64 (x.a : Int)) ∧ w'.cell? ⟨pA, 1, none⟩ = some (.int .u64 (x.b : Int)) ∧ w'.cell? ⟨pA, 2, none⟩ = some (.int .u64 (x.c : Int)) ∧ w'.cell? ⟨pA, 3, none⟩ = some (.int .u64 (x.d : Int)) ∧ w'.cell? ⟨pA, 4, none⟩ = some (.int .u64 (x.e : Int)) ∧ w'.cell? ⟨pB, 0, none⟩ = some (.int .u64 (x.a : Int)) ∧ w'.cell? ⟨pB, 1, none⟩ = some (.int .u64 (x.b : Int)) ∧ w'.cell? ⟨pB, 2, none⟩ = some (.int .u64 (x.c : Int)) ∧ w'.cell? ⟨pB, 3, none⟩ = some (.int .u64 (x.d : Int)) ∧ w'.cell? ⟨pB, 4, none⟩ = some (.int .u64 (x.e : Int)) ∧ w'.cell? ⟨pC, 0, none⟩ = some (.int .u64 (z.a : Int)) ∧ w'.cell? ⟨pC, 1, none⟩ = some (.int .u64 (z.b : Int)) ∧ w'.cell? ⟨pC, 2, none⟩ = some (.int .u64 (z.c : Int)) ∧ w'.cell? ⟨pC, 3, none⟩ = some (.int .u64 (z.d : Int)) ∧ w'.cell? ⟨pC, 4, none⟩ = some (.int .u64 (z.e : Int)) ∧ w'.cell? ⟨pE, 0, none⟩ = some (.int .u64 (z.a : Int)) ∧ w'.cell? ⟨pE, 1, none⟩ = some (.int .u64 (z.b : Int)) ∧ w'.cell? ⟨pE, 2, none⟩ = some (.int .u64 (z.c : Int)) ∧ w'.cell? ⟨pE, 3, none⟩ = some (.int .u64 (z.d : Int)) ∧ w'.cell? ⟨pE, 4, none⟩ = some (.int .u64 (z.e : Int))))
          (exact HKP.out _ hG)
          (first
          | (go_at_call 16; with_reducible refine (HTX.out _).mono ?_; rintro r w' ⟨rfl, hb⟩; replace hG := hG.trans (hb.mono hG.size); clear hb)
          | (go_at_call 16; with_reducible refine (HTZ.out _).mono ?_; rintro r w' ⟨rfl, hb⟩; replace hG := hG.trans (hb.mono hG.size); clear hb)
          | (go_at_call 4; with_reducible refine (KN.out _).mono ?_; rintro r w' ⟨rfl, hb⟩; replace hG := hG.trans (hb.mono hG.size); clear hb))
        rename_i hHeld
        clear hHeld
        have hF := HB9.out.trans (Below.mono ⟨hG.os, hG.tape, hG.output, hG.size, hG.block⟩ HB9.out.size)
        have HF := Lib.hid hF
        clear hF hG
        go_wp2
        go_ret
        exact ⟨rfl, HF.out⟩
      · have hg1 : (g == 0) = false := by simpa using hg0
        have hg2 : (g != 0) = true := by simp [bne, hg1]
        clear HZM HQ HBX0 HW0 hg0
        skip
        refine wp_region_held_drew (S := (fun w' => (w'.cell? ⟨w.heap.size, 0, none⟩ = some (.int .u64 (m.a : Int)) ∧ w'.cell? ⟨w.heap.size, 1, none⟩ = some (.int .u64 (m.b : Int)) ∧ w'.cell? ⟨w.heap.size, 2, none⟩ = some (.int .u64 (m.c : Int)) ∧ w'.cell? ⟨w.heap.size, 3, none⟩ = some (.int .u64 (m.d : Int)) ∧ w'.cell? ⟨w.heap.size, 4, none⟩ = some (.int .u64 (m.e : Int)) ∧ w'.cell? ⟨pA, 0, none⟩ = some (.int .u64 (x.a : Int)) ∧ w'.cell? ⟨pA, 1, none⟩ = some (.int .u64 (x.b : Int)) ∧ w'.cell? ⟨pA, 2, none⟩ = some (.int .u64 (x.c : Int)) ∧ w'.cell? ⟨pA, 3, none⟩ = some (.int .u64 (x.d : Int)) ∧ w'.cell? ⟨pA, 4, none⟩ = some (.int .u64 (x.e : Int)) ∧ w'.cell? ⟨pB, 0, none⟩ = some (.int .u64 (x.a : Int)) ∧ w'.cell? ⟨pB, 1, none⟩ = some (.int .u64 (x.b : Int)) ∧ w'.cell? ⟨pB, 2, none⟩ = some (.int .u64 (x.c : Int)) ∧ w'.cell? ⟨pB, 3, none⟩ = some (.int .u64 (x.d : Int)) ∧ w'.cell? ⟨pB, 4, none⟩ = some (.int .u64 (x.e : Int)) ∧ w'.cell? ⟨pC, 0, none⟩ = some (.int .u64 (z.a : Int)) ∧ w'.cell? ⟨pC, 1, none⟩ = some (.int .u64 (z.b : Int)) ∧ w'.cell? ⟨pC, 2, none⟩ = some (.int .u64 (z.c : Int)) ∧ w'.cell? ⟨pC, 3, none⟩ = some (.int .u64 (z.d : Int)) ∧ w'.cell? ⟨pC, 4, none⟩ = some (.int .u64 (z.e : Int)) ∧ w'.cell? ⟨pE, 0, none⟩ = some (.int .u64 (z.a : Int)) ∧ w'.cell? ⟨pE, 1, none⟩ = some (.int .u64 (z.b : Int)) ∧ w'.cell? ⟨pE, 2, none⟩ = some (.int .u64 (z.c : Int)) ∧ w'.cell? ⟨pE, 3, none⟩ = some (.int .u64 (z.d : Int)) ∧ w'.cell? ⟨pE, 4, none⟩ = some (.int .u64 (z.e : Int))))) (by kernel_rfl) (HKP.out _ hG) (fun hHeld => ?_)
        refine wpAnyH_take (i := 0) (oi := { dst := some 82, op := Op.move (Operand.tmp 13), type := 29, pos := "law.go:58", after := #[], guard := none }) (v := ?_) rfl (by kernel_rfl) (by kernel_rfl) (by kernel_rfl) (fun _ _ _ h => h) (Or.inl ⟨by rfl, ?_⟩) (by assumption) ?_
        rotate_left
        · (intro w hSw; (try dsimp only at hSw); go_simp <;> with_reducible rfl)
        try simp only [Act.put, List.setIfInBounds_toArray, List.set_cons_zero, List.set_cons_succ]
        refine wpAnyH_take (i := 1) (oi := { dst := some 83, op := Op.move (Operand.tmp 14), type := 29, pos := "law.go:58", after := #[], guard := none }) (v := ?_) rfl (by kernel_rfl) (by kernel_rfl) (by kernel_rfl) (fun _ _ _ h => h) (Or.inl ⟨by rfl, ?_⟩) (by assumption) ?_
        rotate_left
        · (intro w hSw; (try dsimp only at hSw); go_simp <;> with_reducible rfl)
        try simp only [Act.put, List.setIfInBounds_toArray, List.set_cons_zero, List.set_cons_succ]
        refine wpAnyH_take (i := 2) (oi := { dst := some 84, op := Op.binOp BinOp.eql 29 (Operand.tmp 82) (Operand.tmp 83) 29, type := 4, pos := "law.go:58", after := #[{ on := 0, ground := Ground.data }, { on := 1, ground := Ground.data }], guard := none }) (v := ?_) rfl (by kernel_rfl) (by kernel_rfl) (by kernel_rfl) (fun _ _ _ h => h) (Or.inl ⟨by rfl, ?_⟩) (by assumption) ?_
        rotate_left
        · (intro w hSw; (try dsimp only at hSw); go_simp <;> with_reducible rfl)
        try simp only [Act.put, List.setIfInBounds_toArray, List.set_cons_zero, List.set_cons_succ]
        refine wpAnyH_take (i := 3) (oi := { dst := some 85, op := Op.move (Operand.tmp 84), type := 4, pos := "law.go:58", after := #[{ on := 2, ground := Ground.data }], guard := none }) (v := ?_) rfl (by kernel_rfl) (by kernel_rfl) (by kernel_rfl) (fun _ _ _ h => h) (Or.inl ⟨by rfl, ?_⟩) (by assumption) ?_
        rotate_left
        · (intro w hSw; (try dsimp only at hSw); go_simp <;> with_reducible rfl)
        try simp only [Act.put, List.setIfInBounds_toArray, List.set_cons_zero, List.set_cons_succ]
        refine wpAnyH_take (i := 4) (oi := { dst := some 86, op := Op.load 41 (Operand.tmp 15), type := 41, pos := "law.go:58", after := #[{ on := 3, ground := Ground.guard }], guard := some (3, true) }) (v := ?_) rfl (by kernel_rfl) (by kernel_rfl) (by kernel_rfl) (fun _ _ _ h => h) (Or.inl ⟨by rfl, ?_⟩) (by assumption) ?_
        rotate_left
        · (intro w hSw; (try dsimp only at hSw); go_simp <;> with_reducible rfl)
        try simp only [Act.put, List.setIfInBounds_toArray, List.set_cons_zero, List.set_cons_succ]
        refine wpAnyH_take (i := 6) (oi := { dst := some 88, op := Op.load 26 (Operand.tmp 17), type := 26, pos := "law.go:58", after := #[{ on := 3, ground := Ground.guard }], guard := some (3, true) }) (v := ?_) rfl (by kernel_rfl) (by kernel_rfl) (by kernel_rfl) (fun _ _ _ h => h) (Or.inl ⟨by rfl, ?_⟩) (by assumption) ?_
        rotate_left
        · (intro w hSw; (try dsimp only at hSw); go_simp <;> with_reducible rfl)
        try simp only [Act.put, List.setIfInBounds_toArray, List.set_cons_zero, List.set_cons_succ]
        refine wpAnyH_ready (rs := [5]) (by kernel_rfl) (by simp) ?_
        refine AllReadyH.cons (o := { dst := some 87, op := Op.call { callee := Callee.value (Operand.func 16), args := #[Operand.tmp 86], argTypes := #[41] }, type := 26, pos := "law.go:58", after := #[{ on := 4, ground := Ground.data }, { on := 3, ground := Ground.chain }, { on := 3, ground := Ground.guard }], guard := some (3, true) }) rfl (fun K hK => ?_) AllReadyH.nil
        go_simp
        go_at_call 16
        with_reducible refine (HTX.out _).mono ?_
        rintro r w' ⟨rfl, hb⟩
        replace hG := hG.trans (hb.mono hG.size)
        clear hb
        refine hK.out _ _ (HKP.out _ hG) (fun hHeld => ?_)
        clear hK K
        try simp only [Act.put, List.setIfInBounds_toArray, List.set_cons_zero, List.set_cons_succ]
        refine wpAnyH_take (i := 7) (oi := { dst := some 89, op := Op.binOp BinOp.eql 26 (Operand.tmp 87) (Operand.tmp 88) 26, type := 4, pos := "law.go:58", after := #[{ on := 5, ground := Ground.data }, { on := 6, ground := Ground.data }, { on := 3, ground := Ground.guard }], guard := some (3, true) }) (v := ?_) rfl (by kernel_rfl) (by kernel_rfl) (by kernel_rfl) (fun _ _ _ h => h) (Or.inl ⟨by rfl, ?_⟩) (by assumption) ?_
        rotate_left
        · (intro w hSw; (try dsimp only at hSw); go_simp <;> with_reducible rfl)
        try simp only [Act.put, List.setIfInBounds_toArray, List.set_cons_zero, List.set_cons_succ]
        refine wpAnyH_take (i := 8) (oi := { dst := some 90, op := Op.pick (Operand.tmp 85) (Operand.tmp 89) (Operand.const (Value.bool false)), type := 4, pos := "law.go:58", after := #[{ on := 3, ground := Ground.data }, { on := 7, ground := Ground.data }], guard := none }) (v := ?_) rfl (by kernel_rfl) (by kernel_rfl) (by kernel_rfl) (fun _ _ _ h => h) (Or.inl ⟨by rfl, ?_⟩) (by assumption) ?_
        rotate_left
        · (intro w hSw; (try dsimp only at hSw); go_simp <;> with_reducible rfl)
        try simp only [Act.put, List.setIfInBounds_toArray, List.set_cons_zero, List.set_cons_succ]
        refine wpAnyH_take (i := 9) (oi := { dst := some 91, op := Op.move (Operand.tmp 90), type := 4, pos := "law.go:58", after := #[{ on := 8, ground := Ground.data }, { on := 5, ground := Ground.chain }], guard := none }) (v := ?_) rfl (by kernel_rfl) (by kernel_rfl) (by kernel_rfl) (fun _ _ _ h => h) (Or.inl ⟨by rfl, ?_⟩) (by assumption) ?_
        rotate_left
        · (intro w hSw; (try dsimp only at hSw); go_simp <;> with_reducible rfl)
        try simp only [Act.put, List.setIfInBounds_toArray, List.set_cons_zero, List.set_cons_succ]
        refine wpAnyH_take (i := 10) (oi := { dst := some 92, op := Op.move (Operand.tmp 16), type := 29, pos := "law.go:58", after := #[{ on := 9, ground := Ground.guard }], guard := some (9, true) }) (v := ?_) rfl (by kernel_rfl) (by kernel_rfl) (by kernel_rfl) (fun _ _ _ h => h) (Or.inl ⟨by rfl, ?_⟩) (by assumption) ?_
        rotate_left
        · (intro w hSw; (try dsimp only at hSw); go_simp <;> with_reducible rfl)
        try simp only [Act.put, List.setIfInBounds_toArray, List.set_cons_zero, List.set_cons_succ]
        refine wpAnyH_take (i := 11) (oi := { dst := some 93, op := Op.move (Operand.tmp 18), type := 29, pos := "law.go:58", after := #[{ on := 9, ground := Ground.guard }], guard := some (9, true) }) (v := ?_) rfl (by kernel_rfl) (by kernel_rfl) (by kernel_rfl) (fun _ _ _ h => h) (Or.inl ⟨by rfl, ?_⟩) (by assumption) ?_
        rotate_left
        · (intro w hSw; (try dsimp only at hSw); go_simp <;> with_reducible rfl)
        try simp only [Act.put, List.setIfInBounds_toArray, List.set_cons_zero, List.set_cons_succ]
        refine wpAnyH_take (i := 12) (oi := { dst := some 94, op := Op.binOp BinOp.eql 29 (Operand.tmp 92) (Operand.tmp 93) 29, type := 4, pos := "law.go:58", after := #[{ on := 10, ground := Ground.data }, { on := 11, ground := Ground.data }, { on := 9, ground := Ground.guard }], guard := some (9, true) }) (v := ?_) rfl (by kernel_rfl) (by kernel_rfl) (by kernel_rfl) (fun _ _ _ h => h) (Or.inl ⟨by rfl, ?_⟩) (by assumption) ?_
        rotate_left
        · (intro w hSw; (try dsimp only at hSw); go_simp <;> with_reducible rfl)
        try simp only [Act.put, List.setIfInBounds_toArray, List.set_cons_zero, List.set_cons_succ]
        refine wpAnyH_take (i := 13) (oi := { dst := some 95, op := Op.pick (Operand.tmp 91) (Operand.tmp 94) (Operand.const (Value.bool false)), type := 4, pos := "law.go:58", after := #[{ on := 9, ground := Ground.data }, { on := 12, ground := Ground.data }], guard := none }) (v := ?_) rfl (by kernel_rfl) (by kernel_rfl) (by kernel_rfl) (fun _ _ _ h => h) (Or.inl ⟨by rfl, ?_⟩) (by assumption) ?_
        rotate_left
        · (intro w hSw; (try dsimp only at hSw); go_simp <;> with_reducible rfl)
        try simp only [Act.put, List.setIfInBounds_toArray, List.set_cons_zero, List.set_cons_succ]
        refine wpAnyH_take (i := 14) (oi := { dst := some 96, op := Op.move (Operand.tmp 95), type := 4, pos := "law.go:58", after := #[{ on := 13, ground := Ground.data }, { on := 9, ground := Ground.chain }], guard := none }) (v := ?_) rfl (by kernel_rfl) (by kernel_rfl) (by kernel_rfl) (fun _ _ _ h => h) (Or.inl ⟨by rfl, ?_⟩) (by assumption) ?_
        rotate_left
        · (intro w hSw; (try dsimp only at hSw); go_simp <;> with_reducible rfl)
        try simp only [Act.put, List.setIfInBounds_toArray, List.set_cons_zero, List.set_cons_succ]
        refine wpAnyH_take (i := 15) (oi := { dst := some 97, op := Op.move (Operand.tmp 19), type := 29, pos := "law.go:58", after := #[{ on := 14, ground := Ground.guard }], guard := some (14, true) }) (v := ?_) rfl (by kernel_rfl) (by kernel_rfl) (by kernel_rfl) (fun _ _ _ h => h) (Or.inl ⟨by rfl, ?_⟩) (by assumption) ?_
        rotate_left
        · (intro w hSw; (try dsimp only at hSw); go_simp <;> with_reducible rfl)
        try simp only [Act.put, List.setIfInBounds_toArray, List.set_cons_zero, List.set_cons_succ]
        refine wpAnyH_take (i := 16) (oi := { dst := some 98, op := Op.move (Operand.tmp 20), type := 29, pos := "law.go:58", after := #[{ on := 14, ground := Ground.guard }], guard := some (14, true) }) (v := ?_) rfl (by kernel_rfl) (by kernel_rfl) (by kernel_rfl) (fun _ _ _ h => h) (Or.inl ⟨by rfl, ?_⟩) (by assumption) ?_
        rotate_left
        · (intro w hSw; (try dsimp only at hSw); go_simp <;> with_reducible rfl)
        try simp only [Act.put, List.setIfInBounds_toArray, List.set_cons_zero, List.set_cons_succ]
        refine wpAnyH_take (i := 17) (oi := { dst := some 99, op := Op.binOp BinOp.eql 29 (Operand.tmp 97) (Operand.tmp 98) 29, type := 4, pos := "law.go:58", after := #[{ on := 15, ground := Ground.data }, { on := 16, ground := Ground.data }, { on := 14, ground := Ground.guard }], guard := some (14, true) }) (v := ?_) rfl (by kernel_rfl) (by kernel_rfl) (by kernel_rfl) (fun _ _ _ h => h) (Or.inl ⟨by rfl, ?_⟩) (by assumption) ?_
        rotate_left
        · (intro w hSw; (try dsimp only at hSw); go_simp <;> with_reducible rfl)
        try simp only [Act.put, List.setIfInBounds_toArray, List.set_cons_zero, List.set_cons_succ]
        refine wpAnyH_take (i := 18) (oi := { dst := some 100, op := Op.pick (Operand.tmp 96) (Operand.tmp 99) (Operand.const (Value.bool false)), type := 4, pos := "law.go:58", after := #[{ on := 14, ground := Ground.data }, { on := 17, ground := Ground.data }], guard := none }) (v := ?_) rfl (by kernel_rfl) (by kernel_rfl) (by kernel_rfl) (fun _ _ _ h => h) (Or.inl ⟨by rfl, ?_⟩) (by assumption) ?_
        rotate_left
        · (intro w hSw; (try dsimp only at hSw); go_simp <;> with_reducible rfl)
        try simp only [Act.put, List.setIfInBounds_toArray, List.set_cons_zero, List.set_cons_succ]
        refine wpAnyH_take (i := 19) (oi := { dst := some 101, op := Op.move (Operand.tmp 100), type := 4, pos := "law.go:58", after := #[{ on := 18, ground := Ground.data }, { on := 14, ground := Ground.chain }], guard := none }) (v := ?_) rfl (by kernel_rfl) (by kernel_rfl) (by kernel_rfl) (fun _ _ _ h => h) (Or.inl ⟨by rfl, ?_⟩) (by assumption) ?_
        rotate_left
        · (intro w hSw; (try dsimp only at hSw); go_simp <;> with_reducible rfl)
        try simp only [Act.put, List.setIfInBounds_toArray, List.set_cons_zero, List.set_cons_succ]
        refine wpAnyH_take (i := 20) (oi := { dst := some 102, op := Op.load 41 (Operand.tmp 21), type := 41, pos := "law.go:58", after := #[{ on := 19, ground := Ground.guard }], guard := some (19, true) }) (v := ?_) rfl (by kernel_rfl) (by kernel_rfl) (by kernel_rfl) (fun _ _ _ h => h) (Or.inl ⟨by rfl, ?_⟩) (by assumption) ?_
        rotate_left
        · (intro w hSw; (try dsimp only at hSw); go_simp <;> with_reducible rfl)
        try simp only [Act.put, List.setIfInBounds_toArray, List.set_cons_zero, List.set_cons_succ]
        refine wpAnyH_take (i := 22) (oi := { dst := some 104, op := Op.load 26 (Operand.tmp 23), type := 26, pos := "law.go:58", after := #[{ on := 19, ground := Ground.guard }], guard := some (19, true) }) (v := ?_) rfl (by kernel_rfl) (by kernel_rfl) (by kernel_rfl) (fun _ _ _ h => h) (Or.inl ⟨by rfl, ?_⟩) (by assumption) ?_
        rotate_left
        · (intro w hSw; (try dsimp only at hSw); go_simp <;> with_reducible rfl)
        try simp only [Act.put, List.setIfInBounds_toArray, List.set_cons_zero, List.set_cons_succ]
        refine wpAnyH_ready (rs := [21]) (by kernel_rfl) (by simp) ?_
        refine AllReadyH.cons (o := { dst := some 103, op := Op.call { callee := Callee.value (Operand.func 16), args := #[Operand.tmp 102], argTypes := #[41] }, type := 26, pos := "law.go:58", after := #[{ on := 20, ground := Ground.data }, { on := 19, ground := Ground.chain }, { on := 19, ground := Ground.guard }], guard := some (19, true) }) rfl (fun K hK => ?_) AllReadyH.nil
        go_simp
        go_at_call 16
        with_reducible refine (HTZ.out _).mono ?_
        rintro r w' ⟨rfl, hb⟩
        replace hG := hG.trans (hb.mono hG.size)
        clear hb
        refine hK.out _ _ (HKP.out _ hG) (fun hHeld => ?_)
        clear hK K
        try simp only [Act.put, List.setIfInBounds_toArray, List.set_cons_zero, List.set_cons_succ]
        refine wpAnyH_take (i := 23) (oi := { dst := some 105, op := Op.binOp BinOp.eql 26 (Operand.tmp 103) (Operand.tmp 104) 26, type := 4, pos := "law.go:58", after := #[{ on := 21, ground := Ground.data }, { on := 22, ground := Ground.data }, { on := 19, ground := Ground.guard }], guard := some (19, true) }) (v := ?_) rfl (by kernel_rfl) (by kernel_rfl) (by kernel_rfl) (fun _ _ _ h => h) (Or.inl ⟨by rfl, ?_⟩) (by assumption) ?_
        rotate_left
        · (intro w hSw; (try dsimp only at hSw); go_simp <;> with_reducible rfl)
        try simp only [Act.put, List.setIfInBounds_toArray, List.set_cons_zero, List.set_cons_succ]
        refine wpAnyH_take (i := 24) (oi := { dst := some 106, op := Op.pick (Operand.tmp 101) (Operand.tmp 105) (Operand.const (Value.bool false)), type := 4, pos := "law.go:58", after := #[{ on := 19, ground := Ground.data }, { on := 23, ground := Ground.data }], guard := none }) (v := ?_) rfl (by kernel_rfl) (by kernel_rfl) (by kernel_rfl) (fun _ _ _ h => h) (Or.inl ⟨by rfl, ?_⟩) (by assumption) ?_
        rotate_left
        · (intro w hSw; (try dsimp only at hSw); go_simp <;> with_reducible rfl)
        try simp only [Act.put, List.setIfInBounds_toArray, List.set_cons_zero, List.set_cons_succ]
        refine wpAnyH_take (i := 25) (oi := { dst := some 107, op := Op.move (Operand.tmp 106), type := 4, pos := "law.go:58", after := #[{ on := 24, ground := Ground.data }, { on := 21, ground := Ground.chain }], guard := none }) (v := ?_) rfl (by kernel_rfl) (by kernel_rfl) (by kernel_rfl) (fun _ _ _ h => h) (Or.inl ⟨by rfl, ?_⟩) (by assumption) ?_
        rotate_left
        · (intro w hSw; (try dsimp only at hSw); go_simp <;> with_reducible rfl)
        try simp only [Act.put, List.setIfInBounds_toArray, List.set_cons_zero, List.set_cons_succ]
        refine wpAnyH_take (i := 26) (oi := { dst := some 108, op := Op.move (Operand.tmp 22), type := 29, pos := "law.go:58", after := #[{ on := 25, ground := Ground.guard }], guard := some (25, true) }) (v := ?_) rfl (by kernel_rfl) (by kernel_rfl) (by kernel_rfl) (fun _ _ _ h => h) (Or.inl ⟨by rfl, ?_⟩) (by assumption) ?_
        rotate_left
        · (intro w hSw; (try dsimp only at hSw); go_simp <;> with_reducible rfl)
        try simp only [Act.put, List.setIfInBounds_toArray, List.set_cons_zero, List.set_cons_succ]
        refine wpAnyH_take (i := 27) (oi := { dst := some 109, op := Op.move (Operand.tmp 24), type := 29, pos := "law.go:58", after := #[{ on := 25, ground := Ground.guard }], guard := some (25, true) }) (v := ?_) rfl (by kernel_rfl) (by kernel_rfl) (by kernel_rfl) (fun _ _ _ h => h) (Or.inl ⟨by rfl, ?_⟩) (by assumption) ?_
        rotate_left
        · (intro w hSw; (try dsimp only at hSw); go_simp <;> with_reducible rfl)
        try simp only [Act.put, List.setIfInBounds_toArray, List.set_cons_zero, List.set_cons_succ]
        refine wpAnyH_take (i := 28) (oi := { dst := some 110, op := Op.binOp BinOp.eql 29 (Operand.tmp 108) (Operand.tmp 109) 29, type := 4, pos := "law.go:58", after := #[{ on := 26, ground := Ground.data }, { on := 27, ground := Ground.data }, { on := 25, ground := Ground.guard }], guard := some (25, true) }) (v := ?_) rfl (by kernel_rfl) (by kernel_rfl) (by kernel_rfl) (fun _ _ _ h => h) (Or.inl ⟨by rfl, ?_⟩) (by assumption) ?_
        rotate_left
        · (intro w hSw; (try dsimp only at hSw); go_simp <;> with_reducible rfl)
        try simp only [Act.put, List.setIfInBounds_toArray, List.set_cons_zero, List.set_cons_succ]
        refine wpAnyH_take (i := 29) (oi := { dst := some 111, op := Op.pick (Operand.tmp 107) (Operand.tmp 110) (Operand.const (Value.bool false)), type := 4, pos := "law.go:58", after := #[{ on := 25, ground := Ground.data }, { on := 28, ground := Ground.data }], guard := none }) (v := ?_) rfl (by kernel_rfl) (by kernel_rfl) (by kernel_rfl) (fun _ _ _ h => h) (Or.inl ⟨by rfl, ?_⟩) (by assumption) ?_
        rotate_left
        · (intro w hSw; (try dsimp only at hSw); go_simp <;> with_reducible rfl)
        try simp only [Act.put, List.setIfInBounds_toArray, List.set_cons_zero, List.set_cons_succ]
        refine wpAnyH_take (i := 30) (oi := { dst := some 112, op := Op.move (Operand.tmp 111), type := 4, pos := "law.go:58", after := #[{ on := 29, ground := Ground.data }, { on := 25, ground := Ground.chain }], guard := none }) (v := ?_) rfl (by kernel_rfl) (by kernel_rfl) (by kernel_rfl) (fun _ _ _ h => h) (Or.inl ⟨by rfl, ?_⟩) (by assumption) ?_
        rotate_left
        · (intro w hSw; (try dsimp only at hSw); go_simp <;> with_reducible rfl)
        try simp only [Act.put, List.setIfInBounds_toArray, List.set_cons_zero, List.set_cons_succ]
        refine wpAnyH_take (i := 31) (oi := { dst := some 113, op := Op.move (Operand.tmp 20), type := 29, pos := "law.go:58", after := #[{ on := 30, ground := Ground.guard }], guard := some (30, true) }) (v := ?_) rfl (by kernel_rfl) (by kernel_rfl) (by kernel_rfl) (fun _ _ _ h => h) (Or.inl ⟨by rfl, ?_⟩) (by assumption) ?_
        rotate_left
        · (intro w hSw; (try dsimp only at hSw); go_simp <;> with_reducible rfl)
        try simp only [Act.put, List.setIfInBounds_toArray, List.set_cons_zero, List.set_cons_succ]
        refine wpAnyH_take (i := 32) (oi := { dst := some 114, op := Op.binOp BinOp.neq 29 (Operand.tmp 113) (Operand.const (Value.int IntKind.i64 0)) 29, type := 4, pos := "law.go:58", after := #[{ on := 31, ground := Ground.data }, { on := 30, ground := Ground.guard }], guard := some (30, true) }) (v := ?_) rfl (by kernel_rfl) (by kernel_rfl) (by kernel_rfl) (fun _ _ _ h => h) (Or.inl ⟨by rfl, ?_⟩) (by assumption) ?_
        rotate_left
        · (intro w hSw; (try dsimp only at hSw); go_simp <;> with_reducible rfl)
        try simp only [Act.put, List.setIfInBounds_toArray, List.set_cons_zero, List.set_cons_succ]
        refine wpAnyH_take (i := 33) (oi := { dst := some 115, op := Op.move (Operand.tmp 114), type := 4, pos := "law.go:58", after := #[{ on := 32, ground := Ground.data }, { on := 30, ground := Ground.chain }, { on := 30, ground := Ground.guard }], guard := some (30, true) }) (v := ?_) rfl (by kernel_rfl) (by kernel_rfl) (by kernel_rfl) (fun _ _ _ h => h) (Or.inl ⟨by rfl, ?_⟩) (by assumption) ?_
        rotate_left
        · (intro w hSw; (try dsimp only at hSw); go_simp <;> with_reducible rfl)
        try simp only [Act.put, List.setIfInBounds_toArray, List.set_cons_zero, List.set_cons_succ]
        refine wpAnyH_take (i := 34) (oi := { dst := some 116, op := Op.load 26 (Operand.tmp 23), type := 26, pos := "law.go:58", after := #[{ on := 33, ground := Ground.guard }], guard := some (33, false) }) (v := undef) rfl (by kernel_rfl) (by kernel_rfl) (by kernel_rfl) (fun _ _ _ h => h) (Or.inr ⟨by rfl, rfl⟩) (by assumption) ?_
        try simp only [Act.put, List.setIfInBounds_toArray, List.set_cons_zero, List.set_cons_succ]
        refine wpAnyH_take (i := 35) (oi := { dst := some 117, op := Op.load 26 (Operand.tmp 6), type := 26, pos := "law.go:58", after := #[{ on := 33, ground := Ground.guard }], guard := some (33, false) }) (v := undef) rfl (by kernel_rfl) (by kernel_rfl) (by kernel_rfl) (fun _ _ _ h => h) (Or.inr ⟨by rfl, rfl⟩) (by assumption) ?_
        try simp only [Act.put, List.setIfInBounds_toArray, List.set_cons_zero, List.set_cons_succ]
        refine wpAnyH_take (i := 36) (oi := { dst := some 118, op := Op.binOp BinOp.eql 26 (Operand.tmp 116) (Operand.tmp 117) 26, type := 4, pos := "law.go:58", after := #[{ on := 34, ground := Ground.data }, { on := 35, ground := Ground.data }, { on := 33, ground := Ground.guard }], guard := some (33, false) }) (v := undef) rfl (by kernel_rfl) (by kernel_rfl) (by kernel_rfl) (fun _ _ _ h => h) (Or.inr ⟨by rfl, rfl⟩) (by assumption) ?_
        try simp only [Act.put, List.setIfInBounds_toArray, List.set_cons_zero, List.set_cons_succ]
        refine wpAnyH_take (i := 37) (oi := { dst := some 119, op := Op.pick (Operand.tmp 115) (Operand.const (Value.bool true)) (Operand.tmp 118), type := 4, pos := "law.go:58", after := #[{ on := 33, ground := Ground.data }, { on := 36, ground := Ground.data }, { on := 30, ground := Ground.guard }], guard := some (30, true) }) (v := ?_) rfl (by kernel_rfl) (by kernel_rfl) (by kernel_rfl) (fun _ _ _ h => h) (Or.inl ⟨by rfl, ?_⟩) (by assumption) ?_
        rotate_left
        · (intro w hSw; (try dsimp only at hSw); go_simp <;> with_reducible rfl)
        try simp only [Act.put, List.setIfInBounds_toArray, List.set_cons_zero, List.set_cons_succ]
        refine wpAnyH_take (i := 38) (oi := { dst := some 120, op := Op.pick (Operand.tmp 112) (Operand.tmp 119) (Operand.const (Value.bool false)), type := 4, pos := "law.go:58", after := #[{ on := 30, ground := Ground.data }, { on := 37, ground := Ground.data }], guard := none }) (v := ?_) rfl (by kernel_rfl) (by kernel_rfl) (by kernel_rfl) (fun _ _ _ h => h) (Or.inl ⟨by rfl, ?_⟩) (by assumption) ?_
        rotate_left
        · (intro w hSw; (try dsimp only at hSw); go_simp <;> with_reducible rfl)
        try simp only [Act.put, List.setIfInBounds_toArray, List.set_cons_zero, List.set_cons_succ]
        refine wpAnyH_take (i := 39) (oi := { dst := some 121, op := Op.move (Operand.tmp 120), type := 4, pos := "law.go:58", after := #[{ on := 38, ground := Ground.data }, { on := 33, ground := Ground.chain }], guard := none }) (v := ?_) rfl (by kernel_rfl) (by kernel_rfl) (by kernel_rfl) (fun _ _ _ h => h) (Or.inl ⟨by rfl, ?_⟩) (by assumption) ?_
        rotate_left
        · (intro w hSw; (try dsimp only at hSw); go_simp <;> with_reducible rfl)
        try simp only [Act.put, List.setIfInBounds_toArray, List.set_cons_zero, List.set_cons_succ]
        refine wpAnyH_ready (rs := [40]) (by kernel_rfl) (by simp) ?_
        refine AllReadyH.cons (o := { dst := some 122, op := Op.call { callee := Callee.value (Operand.func 4), args := #[], argTypes := #[] }, type := 4, pos := "law.go:58", after := #[{ on := 39, ground := Ground.chain }, { on := 39, ground := Ground.guard }], guard := some (39, true) }) rfl (fun K hK => ?_) AllReadyH.nil
        go_simp
        go_at_call 4
        with_reducible refine (KN.out _).mono ?_
        rintro r w' ⟨rfl, hb⟩
        replace hG := hG.trans (hb.mono hG.size)
        clear hb
        refine hK.out _ _ (HKP.out _ hG) (fun hHeld => ?_)
        clear hK K
        try simp only [Act.put, List.setIfInBounds_toArray, List.set_cons_zero, List.set_cons_succ]
        refine wpAnyH_take (i := 41) (oi := { dst := some 123, op := Op.pick (Operand.tmp 121) (Operand.tmp 122) (Operand.const (Value.bool false)), type := 4, pos := "law.go:58", after := #[{ on := 39, ground := Ground.data }, { on := 40, ground := Ground.data }], guard := none }) (v := ?_) rfl (by kernel_rfl) (by kernel_rfl) (by kernel_rfl) (fun _ _ _ h => h) (Or.inl ⟨by rfl, ?_⟩) (by assumption) ?_
        rotate_left
        · (intro w hSw; (try dsimp only at hSw); go_simp <;> with_reducible rfl)
        try simp only [Act.put, List.setIfInBounds_toArray, List.set_cons_zero, List.set_cons_succ]
        refine wpAnyH_take (i := 42) (oi := { dst := some 8, op := Op.assign (Operand.tmp 123), type := 4, pos := "law.go:58", after := #[{ on := 41, ground := Ground.data }, { on := 40, ground := Ground.chain }, { on := 0, ground := Ground.phase }, { on := 1, ground := Ground.phase }, { on := 2, ground := Ground.phase }, { on := 3, ground := Ground.phase }, { on := 4, ground := Ground.phase }, { on := 5, ground := Ground.phase }, { on := 6, ground := Ground.phase }, { on := 7, ground := Ground.phase }, { on := 8, ground := Ground.phase }, { on := 9, ground := Ground.phase }, { on := 10, ground := Ground.phase }, { on := 11, ground := Ground.phase }, { on := 12, ground := Ground.phase }, { on := 13, ground := Ground.phase }, { on := 14, ground := Ground.phase }, { on := 15, ground := Ground.phase }, { on := 16, ground := Ground.phase }, { on := 17, ground := Ground.phase }, { on := 18, ground := Ground.phase }, { on := 19, ground := Ground.phase }, { on := 20, ground := Ground.phase }, { on := 21, ground := Ground.phase }, { on := 22, ground := Ground.phase }, { on := 23, ground := Ground.phase }, { on := 24, ground := Ground.phase }, { on := 25, ground := Ground.phase }, { on := 26, ground := Ground.phase }, { on := 27, ground := Ground.phase }, { on := 28, ground := Ground.phase }, { on := 29, ground := Ground.phase }, { on := 30, ground := Ground.phase }, { on := 31, ground := Ground.phase }, { on := 32, ground := Ground.phase }, { on := 33, ground := Ground.phase }, { on := 34, ground := Ground.phase }, { on := 35, ground := Ground.phase }, { on := 36, ground := Ground.phase }, { on := 37, ground := Ground.phase }, { on := 38, ground := Ground.phase }, { on := 39, ground := Ground.phase }, { on := 40, ground := Ground.phase }, { on := 41, ground := Ground.phase }], guard := none }) (v := ?_) rfl (by kernel_rfl) (by kernel_rfl) (by kernel_rfl) (fun _ _ _ h => h) (Or.inl ⟨by rfl, ?_⟩) (by assumption) ?_
        rotate_left
        · (intro w hSw; (try dsimp only at hSw); go_simp <;> with_reducible rfl)
        try simp only [Act.put, List.setIfInBounds_toArray, List.set_cons_zero, List.set_cons_succ]
        refine wpAnyH_done (by kernel_rfl) ?_ _
        have hF := HB9.out.trans (Below.mono ⟨hG.os, hG.tape, hG.output, hG.size, hG.block⟩ HB9.out.size)
        have HF := Lib.hid hF
        clear hF hG
        go_wp2
        go_ret
        exact ⟨rfl, HF.out⟩
    | false =>
      rw [if_neg (by simp)] at e2
      subst e2
      go_enter Tryz.func3, Tryz.ntmps3
      go_wp2_with fail
      rw [← HW0.out]
      go_wp2_with fail
      refine (M0.out _).mono ?_
      rintro e w1 ⟨p, rfl, h1⟩
      have H1 := Lib.hid h1
      clear h1 M0
      go_wp2_with fail
      refine (M1.out _ _ H1.out).mono ?_
      rintro e w2 ⟨q, rfl, h1⟩
      have H2 := Lib.hid h1
      clear h1 M1 H1
      go_wp2_with fail
      refine (M2.out _ _ _ _ H2.out).mono ?_
      rintro e w3 ⟨rfl, h1⟩
      have H3 := Lib.hid h1
      clear h1 M2 H2
      go_wp2_with fail
      refine (M3.out _ _ _ _ H3.out).mono ?_
      rintro e w4 ⟨rfl, h1⟩
      have H4 := Lib.hid h1
      clear h1 M3 H3
      have H6 := Lib.hid H4.out
      clear H4 M4 M5
      go_wp2_with fail
      refine (M6.out _ _ _ _ H6.out).mono ?_
      rintro e v6 ⟨rfl, h1⟩
      have h2 := h1.box x 41
      go_upto_region 11 with fail
      obtain ⟨pA, hp⟩ : ∃ p, p = v6.heap.size := ⟨_, rfl⟩
      obtain ⟨V6, hW⟩ : ∃ W, W = v6.alloc (.cells #[.int .u64 (x.a : Int), .int .u64 (x.b : Int), .int .u64 (x.c : Int), .int .u64 (x.d : Int), .int .u64 (x.e : Int)] 41) := ⟨_, rfl⟩
      rw [← hp] at h2 ⊢
      rw [← hW] at h2 ⊢
      have H7 := Lib.hid h2
      clear h1 h2 hp hW H6 M6
      go_wp2_with fail
      refine (M7.out _ _ _ _ H7.out).mono ?_
      rintro e v7 ⟨rfl, h1⟩
      have h2 := h1.box x 26
      go_upto_region 12 with fail
      obtain ⟨pB, hp⟩ : ∃ p, p = v7.heap.size := ⟨_, rfl⟩
      obtain ⟨V7, hW⟩ : ∃ W, W = v7.alloc (.cells #[.int .u64 (x.a : Int), .int .u64 (x.b : Int), .int .u64 (x.c : Int), .int .u64 (x.d : Int), .int .u64 (x.e : Int)] 26) := ⟨_, rfl⟩
      rw [← hp] at h2 ⊢
      rw [← hW] at h2 ⊢
      have H8 := Lib.hid h2
      clear h1 h2 hp hW H7 M7
      have bm := H8.out.bx.get (p := w.heap.size) (t := 26) (m := m) (by simp)
      have k0 := bm.c0
      have k1 := bm.c1
      have k2 := bm.c2
      have k3 := bm.c3
      have k4 := bm.c4
      clear bm
      go_wp2_with fail
      refine (HG.out _).mono ?_
      rintro e w7 ⟨rfl, hb⟩
      have H9 := Lib.hid (H8.out.below hb)
      clear hb H8 k0 k1 k2 k3 k4
      go_wp2_with fail
      refine (M8.out _ _ _ _ H9.out).mono ?_
      rintro e w8 ⟨rfl, h1⟩
      have H10 := Lib.hid h1
      have bm := h1.bx.get (p := w.heap.size) (t := 26) (m := m) (by simp)
      have k0 := bm.c0
      have k1 := bm.c1
      have k2 := bm.c2
      have k3 := bm.c3
      have k4 := bm.c4
      clear h1 bm M8 H9
      go_wp2_with fail
      refine (M9.out _ _ _ _ H10.out).mono ?_
      rintro e w9 ⟨rfl, h1⟩
      have H11 := Lib.hid h1
      clear h1 M9 H10 k0 k1 k2 k3 k4
      go_wp2_with fail
      refine (MA.out _ _ _ _ H11.out).mono ?_
      rintro e v8 ⟨rfl, h1⟩
      have h2 := h1.box z 41
      go_upto_region 15 with fail
      obtain ⟨pC, hp⟩ : ∃ p, p = v8.heap.size := ⟨_, rfl⟩
      obtain ⟨V8, hW⟩ : ∃ W, W = v8.alloc (.cells #[.int .u64 (z.a : Int), .int .u64 (z.b : Int), .int .u64 (z.c : Int), .int .u64 (z.d : Int), .int .u64 (z.e : Int)] 41) := ⟨_, rfl⟩
      rw [← hp] at h2 ⊢
      rw [← hW] at h2 ⊢
      have H12 := Lib.hid h2
      clear h1 h2 hp hW H11 MA
      go_wp2_with fail
      refine (MB.out _ _ _ _ H12.out).mono ?_
      rintro e v9 ⟨rfl, h1⟩
      have h2 := h1.box z 26
      go_upto_region 16 with fail
      obtain ⟨pE, hp⟩ : ∃ p, p = v9.heap.size := ⟨_, rfl⟩
      obtain ⟨V9, hW⟩ : ∃ W, W = v9.alloc (.cells #[.int .u64 (z.a : Int), .int .u64 (z.b : Int), .int .u64 (z.c : Int), .int .u64 (z.d : Int), .int .u64 (z.e : Int)] 26) := ⟨_, rfl⟩
      rw [← hp] at h2 ⊢
      rw [← hW] at h2 ⊢
      have H13 := Lib.hid h2
      clear h1 h2 hp hW H12 MB
      have hkp : ∀ w', Below V9.drew.heap.size V9.drew w' → (w'.cell? ⟨w.heap.size, 0, none⟩ = some (.int .u64 (m.a : Int)) ∧ w'.cell? ⟨w.heap.size, 1, none⟩ = some (.int .u64 (m.b : Int)) ∧ w'.cell? ⟨w.heap.size, 2, none⟩ = some (.int .u64 (m.c : Int)) ∧ w'.cell? ⟨w.heap.size, 3, none⟩ = some (.int .u64 (m.d : Int)) ∧ w'.cell? ⟨w.heap.size, 4, none⟩ = some (.int .u64 (m.e : Int)) ∧ w'.cell? ⟨pA, 0, none⟩ = some (.int .u64 (x.a : Int)) ∧ w'.cell? ⟨pA, 1, none⟩ = some (.int .u64 (x.b : Int)) ∧ w'.cell? ⟨pA, 2, none⟩ = some (.int .u64 (x.c : Int)) ∧ w'.cell? ⟨pA, 3, none⟩ = some (.int .u64 (x.d : Int)) ∧ w'.cell? ⟨pA, 4, none⟩ = some (.int .u64 (x.e : Int)) ∧ w'.cell? ⟨pB, 0, none⟩ = some (.int .u64 (x.a : Int)) ∧ w'.cell? ⟨pB, 1, none⟩ = some (.int .u64 (x.b : Int)) ∧ w'.cell? ⟨pB, 2, none⟩ = some (.int .u64 (x.c : Int)) ∧ w'.cell? ⟨pB, 3, none⟩ = some (.int .u64 (x.d : Int)) ∧ w'.cell? ⟨pB, 4, none⟩ = some (.int .u64 (x.e : Int)) ∧ w'.cell? ⟨pC, 0, none⟩ = some (.int .u64 (z.a : Int)) ∧ w'.cell? ⟨pC, 1, none⟩ = some (.int .u64 (z.b : Int)) ∧ w'.cell? ⟨pC, 2, none⟩ = some (.int .u64 (z.c : Int)) ∧ w'.cell? ⟨pC, 3, none⟩ = some (.int .u64 (z.d : Int)) ∧ w'.cell? ⟨pC, 4, none⟩ = some (.int .u64 (z.e : Int)) ∧ w'.cell? ⟨pE, 0, none⟩ = some (.int .u64 (z.a : Int)) ∧ w'.cell? ⟨pE, 1, none⟩ = some (.int .u64 (z.b : Int)) ∧ w'.cell? ⟨pE, 2, none⟩ = some (.int .u64 (z.c : Int)) ∧ w'.cell? ⟨pE, 3, none⟩ = some (.int .u64 (z.d : Int)) ∧ w'.cell? ⟨pE, 4, none⟩ = some (.int .u64 (z.e : Int))) := fun w' h =>
        have bx : Bx w' _ := (show Bx V9.drew _ from H13.out.bx).below h
        have b0 := bx.get (p := w.heap.size) (t := 26) (m := m) (by simp)
        have b1 := bx.get (p := pA) (t := 41) (m := x) (by simp)
        have b2 := bx.get (p := pB) (t := 26) (m := x) (by simp)
        have b3 := bx.get (p := pC) (t := 41) (m := z) (by simp)
        have b4 := bx.get (p := pE) (t := 26) (m := z) (by simp)
        ⟨b0.c0, b0.c1, b0.c2, b0.c3, b0.c4, b1.c0, b1.c1, b1.c2, b1.c3, b1.c4, b2.c0, b2.c1, b2.c2, b2.c3, b2.c4, b3.c0, b3.c1, b3.c2, b3.c3, b3.c4, b4.c0, b4.c1, b4.c2, b4.c3, b4.c4⟩
      have hG : Below V9.drew.heap.size V9.drew V9.drew := Below.refl _ _
      have HB9 := Lib.hid (HAL.out.trans (H13.out.fin.mono HAL.out.size))
      have HKP := Lib.hid hkp
      clear hkp H13
      obtain ⟨q1, q2, q3, q6, q7, q8⟩ := HQ.out
      have qa : ∀ w, (binOp .eql 29 (.int .i64 a) (.int .i64 a)).run Tryz.prog w = .ok (.bool true) w := fun w => by simp [go_sem]
      have qb : ∀ op x y w, Sem.run Tryz.prog (eqGuard op 29 x y (.int .i64 a) (.int .i64 a)) w = .ok () w := fun op x y w => by unfold eqGuard; cases op <;> rfl
      by_cases hg0 : g = 0
      · have hzm := HZM.out hg0
        subst hg0
        have hdz : decide (z = m) = true := decide_eq_true hzm
        simp only [hdz] at q7
        clear hdz
        clear HZM hzm HQ HBX0 HW0
        go_region_held3 (fun w' => (w'.cell? ⟨w.heap.size, 0, none⟩ = some (.int .u64 (m.a : Int)) ∧ w'.cell? ⟨w.heap.size, 1, none⟩ = some (.int .u64 (m.b : Int)) ∧ w'.cell? ⟨w.heap.size, 2, none⟩ = some (.int .u64 (m.c : Int)) ∧ w'.cell? ⟨w.heap.size, 3, none⟩ = some (.int .u64 (m.d : Int)) ∧ w'.cell? ⟨w.heap.size, 4, none⟩ = some (.int .u64 (m.e : Int)) ∧ w'.cell? ⟨pA, 0, none⟩ = some (.int .u64 (x.a : Int)) ∧ w'.cell? ⟨pA, 1, none⟩ = some (.int .u64 (x.b : Int)) ∧ w'.cell? ⟨pA, 2, none⟩ = some (.int .u64 (x.c : Int)) ∧ w'.cell? ⟨pA, 3, none⟩ = some (.int .u64 (x.d : Int)) ∧ w'.cell? ⟨pA, 4, none⟩ = some (.int .u64 (x.e : Int)) ∧ w'.cell? ⟨pB, 0, none⟩ = some (.int .u64 (x.a : Int)) ∧ w'.cell? ⟨pB, 1, none⟩ = some (.int .u64 (x.b : Int)) ∧ w'.cell? ⟨pB, 2, none⟩ = some (.int .u64 (x.c : Int)) ∧ w'.cell? ⟨pB, 3, none⟩ = some (.int .u64 (x.d : Int)) ∧ w'.cell? ⟨pB, 4, none⟩ = some (.int .u64 (x.e : Int)) ∧ w'.cell? ⟨pC, 0, none⟩ = some (.int .u64 (z.a : Int)) ∧ w'.cell? ⟨pC, 1, none⟩ = some (.int .u64 (z.b : Int)) ∧ w'.cell? ⟨pC, 2, none⟩ = some (.int .u64 (z.c : Int)) ∧ w'.cell? ⟨pC, 3, none⟩ = some (.int .u64 (z.d : Int)) ∧ w'.cell? ⟨pC, 4, none⟩ = some (.int .u64 (z.e : Int)) ∧ w'.cell? ⟨pE, 0, none⟩ = some (.int .u64 (z.a : Int)) ∧ w'.cell? ⟨pE, 1, none⟩ = some (.int .u64 (z.b : Int)) ∧ w'.cell? ⟨pE, 2, none⟩ = some (.int .u64 (z.c : Int)) ∧ w'.cell? ⟨pE, 3, none⟩ = some (.int .u64 (z.d : Int)) ∧ w'.cell? ⟨pE, 4, none⟩ = some (.int .u64 (z.e : Int))))
          (exact HKP.out _ hG)
          (first
          | (go_at_call 16; with_reducible refine (HTX.out _).mono ?_; rintro r w' ⟨rfl, hb⟩; replace hG := hG.trans (hb.mono hG.size); clear hb)
          | (go_at_call 16; with_reducible refine (HTZ.out _).mono ?_; rintro r w' ⟨rfl, hb⟩; replace hG := hG.trans (hb.mono hG.size); clear hb)
          | (go_at_call 4; with_reducible refine (KN.out _).mono ?_; rintro r w' ⟨rfl, hb⟩; replace hG := hG.trans (hb.mono hG.size); clear hb))
        rename_i hHeld
        clear hHeld
        have hF := HB9.out.trans (Below.mono ⟨hG.os, hG.tape, hG.output, hG.size, hG.block⟩ HB9.out.size)
        have HF := Lib.hid hF
        clear hF hG
        go_wp2
        go_ret
        exact ⟨rfl, HF.out⟩
      · have hg1 : (g == 0) = false := by simpa using hg0
        have hg2 : (g != 0) = true := by simp [bne, hg1]
        clear HZM HQ HBX0 HW0 hg0
        skip
        refine wp_region_held_drew (S := (fun w' => (w'.cell? ⟨w.heap.size, 0, none⟩ = some (.int .u64 (m.a : Int)) ∧ w'.cell? ⟨w.heap.size, 1, none⟩ = some (.int .u64 (m.b : Int)) ∧ w'.cell? ⟨w.heap.size, 2, none⟩ = some (.int .u64 (m.c : Int)) ∧ w'.cell? ⟨w.heap.size, 3, none⟩ = some (.int .u64 (m.d : Int)) ∧ w'.cell? ⟨w.heap.size, 4, none⟩ = some (.int .u64 (m.e : Int)) ∧ w'.cell? ⟨pA, 0, none⟩ = some (.int .u64 (x.a : Int)) ∧ w'.cell? ⟨pA, 1, none⟩ = some (.int .u64 (x.b : Int)) ∧ w'.cell? ⟨pA, 2, none⟩ = some (.int .u64 (x.c : Int)) ∧ w'.cell? ⟨pA, 3, none⟩ = some (.int .u64 (x.d : Int)) ∧ w'.cell? ⟨pA, 4, none⟩ = some (.int .u64 (x.e : Int)) ∧ w'.cell? ⟨pB, 0, none⟩ = some (.int .u64 (x.a : Int)) ∧ w'.cell? ⟨pB, 1, none⟩ = some (.int .u64 (x.b : Int)) ∧ w'.cell? ⟨pB, 2, none⟩ = some (.int .u64 (x.c : Int)) ∧ w'.cell? ⟨pB, 3, none⟩ = some (.int .u64 (x.d : Int)) ∧ w'.cell? ⟨pB, 4, none⟩ = some (.int .u64 (x.e : Int)) ∧ w'.cell? ⟨pC, 0, none⟩ = some (.int .u64 (z.a : Int)) ∧ w'.cell? ⟨pC, 1, none⟩ = some (.int .u64 (z.b : Int)) ∧ w'.cell? ⟨pC, 2, none⟩ = some (.int .u64 (z.c : Int)) ∧ w'.cell? ⟨pC, 3, none⟩ = some (.int .u64 (z.d : Int)) ∧ w'.cell? ⟨pC, 4, none⟩ = some (.int .u64 (z.e : Int)) ∧ w'.cell? ⟨pE, 0, none⟩ = some (.int .u64 (z.a : Int)) ∧ w'.cell? ⟨pE, 1, none⟩ = some (.int .u64 (z.b : Int)) ∧ w'.cell? ⟨pE, 2, none⟩ = some (.int .u64 (z.c : Int)) ∧ w'.cell? ⟨pE, 3, none⟩ = some (.int .u64 (z.d : Int)) ∧ w'.cell? ⟨pE, 4, none⟩ = some (.int .u64 (z.e : Int))))) (by kernel_rfl) (HKP.out _ hG) (fun hHeld => ?_)
        refine wpAnyH_take (i := 0) (oi := { dst := some 82, op := Op.move (Operand.tmp 13), type := 29, pos := "law.go:58", after := #[], guard := none }) (v := ?_) rfl (by kernel_rfl) (by kernel_rfl) (by kernel_rfl) (fun _ _ _ h => h) (Or.inl ⟨by rfl, ?_⟩) (by assumption) ?_
        rotate_left
        · (intro w hSw; (try dsimp only at hSw); go_simp <;> with_reducible rfl)
        try simp only [Act.put, List.setIfInBounds_toArray, List.set_cons_zero, List.set_cons_succ]
        refine wpAnyH_take (i := 1) (oi := { dst := some 83, op := Op.move (Operand.tmp 14), type := 29, pos := "law.go:58", after := #[], guard := none }) (v := ?_) rfl (by kernel_rfl) (by kernel_rfl) (by kernel_rfl) (fun _ _ _ h => h) (Or.inl ⟨by rfl, ?_⟩) (by assumption) ?_
        rotate_left
        · (intro w hSw; (try dsimp only at hSw); go_simp <;> with_reducible rfl)
        try simp only [Act.put, List.setIfInBounds_toArray, List.set_cons_zero, List.set_cons_succ]
        refine wpAnyH_take (i := 2) (oi := { dst := some 84, op := Op.binOp BinOp.eql 29 (Operand.tmp 82) (Operand.tmp 83) 29, type := 4, pos := "law.go:58", after := #[{ on := 0, ground := Ground.data }, { on := 1, ground := Ground.data }], guard := none }) (v := ?_) rfl (by kernel_rfl) (by kernel_rfl) (by kernel_rfl) (fun _ _ _ h => h) (Or.inl ⟨by rfl, ?_⟩) (by assumption) ?_
        rotate_left
        · (intro w hSw; (try dsimp only at hSw); go_simp <;> with_reducible rfl)
        try simp only [Act.put, List.setIfInBounds_toArray, List.set_cons_zero, List.set_cons_succ]
        refine wpAnyH_take (i := 3) (oi := { dst := some 85, op := Op.move (Operand.tmp 84), type := 4, pos := "law.go:58", after := #[{ on := 2, ground := Ground.data }], guard := none }) (v := ?_) rfl (by kernel_rfl) (by kernel_rfl) (by kernel_rfl) (fun _ _ _ h => h) (Or.inl ⟨by rfl, ?_⟩) (by assumption) ?_
        rotate_left
        · (intro w hSw; (try dsimp only at hSw); go_simp <;> with_reducible rfl)
        try simp only [Act.put, List.setIfInBounds_toArray, List.set_cons_zero, List.set_cons_succ]
        refine wpAnyH_take (i := 4) (oi := { dst := some 86, op := Op.load 41 (Operand.tmp 15), type := 41, pos := "law.go:58", after := #[{ on := 3, ground := Ground.guard }], guard := some (3, true) }) (v := ?_) rfl (by kernel_rfl) (by kernel_rfl) (by kernel_rfl) (fun _ _ _ h => h) (Or.inl ⟨by rfl, ?_⟩) (by assumption) ?_
        rotate_left
        · (intro w hSw; (try dsimp only at hSw); go_simp <;> with_reducible rfl)
        try simp only [Act.put, List.setIfInBounds_toArray, List.set_cons_zero, List.set_cons_succ]
        refine wpAnyH_take (i := 6) (oi := { dst := some 88, op := Op.load 26 (Operand.tmp 17), type := 26, pos := "law.go:58", after := #[{ on := 3, ground := Ground.guard }], guard := some (3, true) }) (v := ?_) rfl (by kernel_rfl) (by kernel_rfl) (by kernel_rfl) (fun _ _ _ h => h) (Or.inl ⟨by rfl, ?_⟩) (by assumption) ?_
        rotate_left
        · (intro w hSw; (try dsimp only at hSw); go_simp <;> with_reducible rfl)
        try simp only [Act.put, List.setIfInBounds_toArray, List.set_cons_zero, List.set_cons_succ]
        refine wpAnyH_ready (rs := [5]) (by kernel_rfl) (by simp) ?_
        refine AllReadyH.cons (o := { dst := some 87, op := Op.call { callee := Callee.value (Operand.func 16), args := #[Operand.tmp 86], argTypes := #[41] }, type := 26, pos := "law.go:58", after := #[{ on := 4, ground := Ground.data }, { on := 3, ground := Ground.chain }, { on := 3, ground := Ground.guard }], guard := some (3, true) }) rfl (fun K hK => ?_) AllReadyH.nil
        go_simp
        go_at_call 16
        with_reducible refine (HTX.out _).mono ?_
        rintro r w' ⟨rfl, hb⟩
        replace hG := hG.trans (hb.mono hG.size)
        clear hb
        refine hK.out _ _ (HKP.out _ hG) (fun hHeld => ?_)
        clear hK K
        try simp only [Act.put, List.setIfInBounds_toArray, List.set_cons_zero, List.set_cons_succ]
        refine wpAnyH_take (i := 7) (oi := { dst := some 89, op := Op.binOp BinOp.eql 26 (Operand.tmp 87) (Operand.tmp 88) 26, type := 4, pos := "law.go:58", after := #[{ on := 5, ground := Ground.data }, { on := 6, ground := Ground.data }, { on := 3, ground := Ground.guard }], guard := some (3, true) }) (v := ?_) rfl (by kernel_rfl) (by kernel_rfl) (by kernel_rfl) (fun _ _ _ h => h) (Or.inl ⟨by rfl, ?_⟩) (by assumption) ?_
        rotate_left
        · (intro w hSw; (try dsimp only at hSw); go_simp <;> with_reducible rfl)
        try simp only [Act.put, List.setIfInBounds_toArray, List.set_cons_zero, List.set_cons_succ]
        refine wpAnyH_take (i := 8) (oi := { dst := some 90, op := Op.pick (Operand.tmp 85) (Operand.tmp 89) (Operand.const (Value.bool false)), type := 4, pos := "law.go:58", after := #[{ on := 3, ground := Ground.data }, { on := 7, ground := Ground.data }], guard := none }) (v := ?_) rfl (by kernel_rfl) (by kernel_rfl) (by kernel_rfl) (fun _ _ _ h => h) (Or.inl ⟨by rfl, ?_⟩) (by assumption) ?_
        rotate_left
        · (intro w hSw; (try dsimp only at hSw); go_simp <;> with_reducible rfl)
        try simp only [Act.put, List.setIfInBounds_toArray, List.set_cons_zero, List.set_cons_succ]
        refine wpAnyH_take (i := 9) (oi := { dst := some 91, op := Op.move (Operand.tmp 90), type := 4, pos := "law.go:58", after := #[{ on := 8, ground := Ground.data }, { on := 5, ground := Ground.chain }], guard := none }) (v := ?_) rfl (by kernel_rfl) (by kernel_rfl) (by kernel_rfl) (fun _ _ _ h => h) (Or.inl ⟨by rfl, ?_⟩) (by assumption) ?_
        rotate_left
        · (intro w hSw; (try dsimp only at hSw); go_simp <;> with_reducible rfl)
        try simp only [Act.put, List.setIfInBounds_toArray, List.set_cons_zero, List.set_cons_succ]
        refine wpAnyH_take (i := 10) (oi := { dst := some 92, op := Op.move (Operand.tmp 16), type := 29, pos := "law.go:58", after := #[{ on := 9, ground := Ground.guard }], guard := some (9, true) }) (v := ?_) rfl (by kernel_rfl) (by kernel_rfl) (by kernel_rfl) (fun _ _ _ h => h) (Or.inl ⟨by rfl, ?_⟩) (by assumption) ?_
        rotate_left
        · (intro w hSw; (try dsimp only at hSw); go_simp <;> with_reducible rfl)
        try simp only [Act.put, List.setIfInBounds_toArray, List.set_cons_zero, List.set_cons_succ]
        refine wpAnyH_take (i := 11) (oi := { dst := some 93, op := Op.move (Operand.tmp 18), type := 29, pos := "law.go:58", after := #[{ on := 9, ground := Ground.guard }], guard := some (9, true) }) (v := ?_) rfl (by kernel_rfl) (by kernel_rfl) (by kernel_rfl) (fun _ _ _ h => h) (Or.inl ⟨by rfl, ?_⟩) (by assumption) ?_
        rotate_left
        · (intro w hSw; (try dsimp only at hSw); go_simp <;> with_reducible rfl)
        try simp only [Act.put, List.setIfInBounds_toArray, List.set_cons_zero, List.set_cons_succ]
        refine wpAnyH_take (i := 12) (oi := { dst := some 94, op := Op.binOp BinOp.eql 29 (Operand.tmp 92) (Operand.tmp 93) 29, type := 4, pos := "law.go:58", after := #[{ on := 10, ground := Ground.data }, { on := 11, ground := Ground.data }, { on := 9, ground := Ground.guard }], guard := some (9, true) }) (v := ?_) rfl (by kernel_rfl) (by kernel_rfl) (by kernel_rfl) (fun _ _ _ h => h) (Or.inl ⟨by rfl, ?_⟩) (by assumption) ?_
        rotate_left
        · (intro w hSw; (try dsimp only at hSw); go_simp <;> with_reducible rfl)
        try simp only [Act.put, List.setIfInBounds_toArray, List.set_cons_zero, List.set_cons_succ]
        refine wpAnyH_take (i := 13) (oi := { dst := some 95, op := Op.pick (Operand.tmp 91) (Operand.tmp 94) (Operand.const (Value.bool false)), type := 4, pos := "law.go:58", after := #[{ on := 9, ground := Ground.data }, { on := 12, ground := Ground.data }], guard := none }) (v := ?_) rfl (by kernel_rfl) (by kernel_rfl) (by kernel_rfl) (fun _ _ _ h => h) (Or.inl ⟨by rfl, ?_⟩) (by assumption) ?_
        rotate_left
        · (intro w hSw; (try dsimp only at hSw); go_simp <;> with_reducible rfl)
        try simp only [Act.put, List.setIfInBounds_toArray, List.set_cons_zero, List.set_cons_succ]
        refine wpAnyH_take (i := 14) (oi := { dst := some 96, op := Op.move (Operand.tmp 95), type := 4, pos := "law.go:58", after := #[{ on := 13, ground := Ground.data }, { on := 9, ground := Ground.chain }], guard := none }) (v := ?_) rfl (by kernel_rfl) (by kernel_rfl) (by kernel_rfl) (fun _ _ _ h => h) (Or.inl ⟨by rfl, ?_⟩) (by assumption) ?_
        rotate_left
        · (intro w hSw; (try dsimp only at hSw); go_simp <;> with_reducible rfl)
        try simp only [Act.put, List.setIfInBounds_toArray, List.set_cons_zero, List.set_cons_succ]
        refine wpAnyH_take (i := 15) (oi := { dst := some 97, op := Op.move (Operand.tmp 19), type := 29, pos := "law.go:58", after := #[{ on := 14, ground := Ground.guard }], guard := some (14, true) }) (v := ?_) rfl (by kernel_rfl) (by kernel_rfl) (by kernel_rfl) (fun _ _ _ h => h) (Or.inl ⟨by rfl, ?_⟩) (by assumption) ?_
        rotate_left
        · (intro w hSw; (try dsimp only at hSw); go_simp <;> with_reducible rfl)
        try simp only [Act.put, List.setIfInBounds_toArray, List.set_cons_zero, List.set_cons_succ]
        refine wpAnyH_take (i := 16) (oi := { dst := some 98, op := Op.move (Operand.tmp 20), type := 29, pos := "law.go:58", after := #[{ on := 14, ground := Ground.guard }], guard := some (14, true) }) (v := ?_) rfl (by kernel_rfl) (by kernel_rfl) (by kernel_rfl) (fun _ _ _ h => h) (Or.inl ⟨by rfl, ?_⟩) (by assumption) ?_
        rotate_left
        · (intro w hSw; (try dsimp only at hSw); go_simp <;> with_reducible rfl)
        try simp only [Act.put, List.setIfInBounds_toArray, List.set_cons_zero, List.set_cons_succ]
        refine wpAnyH_take (i := 17) (oi := { dst := some 99, op := Op.binOp BinOp.eql 29 (Operand.tmp 97) (Operand.tmp 98) 29, type := 4, pos := "law.go:58", after := #[{ on := 15, ground := Ground.data }, { on := 16, ground := Ground.data }, { on := 14, ground := Ground.guard }], guard := some (14, true) }) (v := ?_) rfl (by kernel_rfl) (by kernel_rfl) (by kernel_rfl) (fun _ _ _ h => h) (Or.inl ⟨by rfl, ?_⟩) (by assumption) ?_
        rotate_left
        · (intro w hSw; (try dsimp only at hSw); go_simp <;> with_reducible rfl)
        try simp only [Act.put, List.setIfInBounds_toArray, List.set_cons_zero, List.set_cons_succ]
        refine wpAnyH_take (i := 18) (oi := { dst := some 100, op := Op.pick (Operand.tmp 96) (Operand.tmp 99) (Operand.const (Value.bool false)), type := 4, pos := "law.go:58", after := #[{ on := 14, ground := Ground.data }, { on := 17, ground := Ground.data }], guard := none }) (v := ?_) rfl (by kernel_rfl) (by kernel_rfl) (by kernel_rfl) (fun _ _ _ h => h) (Or.inl ⟨by rfl, ?_⟩) (by assumption) ?_
        rotate_left
        · (intro w hSw; (try dsimp only at hSw); go_simp <;> with_reducible rfl)
        try simp only [Act.put, List.setIfInBounds_toArray, List.set_cons_zero, List.set_cons_succ]
        refine wpAnyH_take (i := 19) (oi := { dst := some 101, op := Op.move (Operand.tmp 100), type := 4, pos := "law.go:58", after := #[{ on := 18, ground := Ground.data }, { on := 14, ground := Ground.chain }], guard := none }) (v := ?_) rfl (by kernel_rfl) (by kernel_rfl) (by kernel_rfl) (fun _ _ _ h => h) (Or.inl ⟨by rfl, ?_⟩) (by assumption) ?_
        rotate_left
        · (intro w hSw; (try dsimp only at hSw); go_simp <;> with_reducible rfl)
        try simp only [Act.put, List.setIfInBounds_toArray, List.set_cons_zero, List.set_cons_succ]
        refine wpAnyH_take (i := 20) (oi := { dst := some 102, op := Op.load 41 (Operand.tmp 21), type := 41, pos := "law.go:58", after := #[{ on := 19, ground := Ground.guard }], guard := some (19, true) }) (v := ?_) rfl (by kernel_rfl) (by kernel_rfl) (by kernel_rfl) (fun _ _ _ h => h) (Or.inl ⟨by rfl, ?_⟩) (by assumption) ?_
        rotate_left
        · (intro w hSw; (try dsimp only at hSw); go_simp <;> with_reducible rfl)
        try simp only [Act.put, List.setIfInBounds_toArray, List.set_cons_zero, List.set_cons_succ]
        refine wpAnyH_take (i := 22) (oi := { dst := some 104, op := Op.load 26 (Operand.tmp 23), type := 26, pos := "law.go:58", after := #[{ on := 19, ground := Ground.guard }], guard := some (19, true) }) (v := ?_) rfl (by kernel_rfl) (by kernel_rfl) (by kernel_rfl) (fun _ _ _ h => h) (Or.inl ⟨by rfl, ?_⟩) (by assumption) ?_
        rotate_left
        · (intro w hSw; (try dsimp only at hSw); go_simp <;> with_reducible rfl)
        try simp only [Act.put, List.setIfInBounds_toArray, List.set_cons_zero, List.set_cons_succ]
        refine wpAnyH_ready (rs := [21]) (by kernel_rfl) (by simp) ?_
        refine AllReadyH.cons (o := { dst := some 103, op := Op.call { callee := Callee.value (Operand.func 16), args := #[Operand.tmp 102], argTypes := #[41] }, type := 26, pos := "law.go:58", after := #[{ on := 20, ground := Ground.data }, { on := 19, ground := Ground.chain }, { on := 19, ground := Ground.guard }], guard := some (19, true) }) rfl (fun K hK => ?_) AllReadyH.nil
        go_simp
        go_at_call 16
        with_reducible refine (HTZ.out _).mono ?_
        rintro r w' ⟨rfl, hb⟩
        replace hG := hG.trans (hb.mono hG.size)
        clear hb
        refine hK.out _ _ (HKP.out _ hG) (fun hHeld => ?_)
        clear hK K
        try simp only [Act.put, List.setIfInBounds_toArray, List.set_cons_zero, List.set_cons_succ]
        refine wpAnyH_take (i := 23) (oi := { dst := some 105, op := Op.binOp BinOp.eql 26 (Operand.tmp 103) (Operand.tmp 104) 26, type := 4, pos := "law.go:58", after := #[{ on := 21, ground := Ground.data }, { on := 22, ground := Ground.data }, { on := 19, ground := Ground.guard }], guard := some (19, true) }) (v := ?_) rfl (by kernel_rfl) (by kernel_rfl) (by kernel_rfl) (fun _ _ _ h => h) (Or.inl ⟨by rfl, ?_⟩) (by assumption) ?_
        rotate_left
        · (intro w hSw; (try dsimp only at hSw); go_simp <;> with_reducible rfl)
        try simp only [Act.put, List.setIfInBounds_toArray, List.set_cons_zero, List.set_cons_succ]
        refine wpAnyH_take (i := 24) (oi := { dst := some 106, op := Op.pick (Operand.tmp 101) (Operand.tmp 105) (Operand.const (Value.bool false)), type := 4, pos := "law.go:58", after := #[{ on := 19, ground := Ground.data }, { on := 23, ground := Ground.data }], guard := none }) (v := ?_) rfl (by kernel_rfl) (by kernel_rfl) (by kernel_rfl) (fun _ _ _ h => h) (Or.inl ⟨by rfl, ?_⟩) (by assumption) ?_
        rotate_left
        · (intro w hSw; (try dsimp only at hSw); go_simp <;> with_reducible rfl)
        try simp only [Act.put, List.setIfInBounds_toArray, List.set_cons_zero, List.set_cons_succ]
        refine wpAnyH_take (i := 25) (oi := { dst := some 107, op := Op.move (Operand.tmp 106), type := 4, pos := "law.go:58", after := #[{ on := 24, ground := Ground.data }, { on := 21, ground := Ground.chain }], guard := none }) (v := ?_) rfl (by kernel_rfl) (by kernel_rfl) (by kernel_rfl) (fun _ _ _ h => h) (Or.inl ⟨by rfl, ?_⟩) (by assumption) ?_
        rotate_left
        · (intro w hSw; (try dsimp only at hSw); go_simp <;> with_reducible rfl)
        try simp only [Act.put, List.setIfInBounds_toArray, List.set_cons_zero, List.set_cons_succ]
        refine wpAnyH_take (i := 26) (oi := { dst := some 108, op := Op.move (Operand.tmp 22), type := 29, pos := "law.go:58", after := #[{ on := 25, ground := Ground.guard }], guard := some (25, true) }) (v := ?_) rfl (by kernel_rfl) (by kernel_rfl) (by kernel_rfl) (fun _ _ _ h => h) (Or.inl ⟨by rfl, ?_⟩) (by assumption) ?_
        rotate_left
        · (intro w hSw; (try dsimp only at hSw); go_simp <;> with_reducible rfl)
        try simp only [Act.put, List.setIfInBounds_toArray, List.set_cons_zero, List.set_cons_succ]
        refine wpAnyH_take (i := 27) (oi := { dst := some 109, op := Op.move (Operand.tmp 24), type := 29, pos := "law.go:58", after := #[{ on := 25, ground := Ground.guard }], guard := some (25, true) }) (v := ?_) rfl (by kernel_rfl) (by kernel_rfl) (by kernel_rfl) (fun _ _ _ h => h) (Or.inl ⟨by rfl, ?_⟩) (by assumption) ?_
        rotate_left
        · (intro w hSw; (try dsimp only at hSw); go_simp <;> with_reducible rfl)
        try simp only [Act.put, List.setIfInBounds_toArray, List.set_cons_zero, List.set_cons_succ]
        refine wpAnyH_take (i := 28) (oi := { dst := some 110, op := Op.binOp BinOp.eql 29 (Operand.tmp 108) (Operand.tmp 109) 29, type := 4, pos := "law.go:58", after := #[{ on := 26, ground := Ground.data }, { on := 27, ground := Ground.data }, { on := 25, ground := Ground.guard }], guard := some (25, true) }) (v := ?_) rfl (by kernel_rfl) (by kernel_rfl) (by kernel_rfl) (fun _ _ _ h => h) (Or.inl ⟨by rfl, ?_⟩) (by assumption) ?_
        rotate_left
        · (intro w hSw; (try dsimp only at hSw); go_simp <;> with_reducible rfl)
        try simp only [Act.put, List.setIfInBounds_toArray, List.set_cons_zero, List.set_cons_succ]
        refine wpAnyH_take (i := 29) (oi := { dst := some 111, op := Op.pick (Operand.tmp 107) (Operand.tmp 110) (Operand.const (Value.bool false)), type := 4, pos := "law.go:58", after := #[{ on := 25, ground := Ground.data }, { on := 28, ground := Ground.data }], guard := none }) (v := ?_) rfl (by kernel_rfl) (by kernel_rfl) (by kernel_rfl) (fun _ _ _ h => h) (Or.inl ⟨by rfl, ?_⟩) (by assumption) ?_
        rotate_left
        · (intro w hSw; (try dsimp only at hSw); go_simp <;> with_reducible rfl)
        try simp only [Act.put, List.setIfInBounds_toArray, List.set_cons_zero, List.set_cons_succ]
        refine wpAnyH_take (i := 30) (oi := { dst := some 112, op := Op.move (Operand.tmp 111), type := 4, pos := "law.go:58", after := #[{ on := 29, ground := Ground.data }, { on := 25, ground := Ground.chain }], guard := none }) (v := ?_) rfl (by kernel_rfl) (by kernel_rfl) (by kernel_rfl) (fun _ _ _ h => h) (Or.inl ⟨by rfl, ?_⟩) (by assumption) ?_
        rotate_left
        · (intro w hSw; (try dsimp only at hSw); go_simp <;> with_reducible rfl)
        try simp only [Act.put, List.setIfInBounds_toArray, List.set_cons_zero, List.set_cons_succ]
        refine wpAnyH_take (i := 31) (oi := { dst := some 113, op := Op.move (Operand.tmp 20), type := 29, pos := "law.go:58", after := #[{ on := 30, ground := Ground.guard }], guard := some (30, true) }) (v := ?_) rfl (by kernel_rfl) (by kernel_rfl) (by kernel_rfl) (fun _ _ _ h => h) (Or.inl ⟨by rfl, ?_⟩) (by assumption) ?_
        rotate_left
        · (intro w hSw; (try dsimp only at hSw); go_simp <;> with_reducible rfl)
        try simp only [Act.put, List.setIfInBounds_toArray, List.set_cons_zero, List.set_cons_succ]
        refine wpAnyH_take (i := 32) (oi := { dst := some 114, op := Op.binOp BinOp.neq 29 (Operand.tmp 113) (Operand.const (Value.int IntKind.i64 0)) 29, type := 4, pos := "law.go:58", after := #[{ on := 31, ground := Ground.data }, { on := 30, ground := Ground.guard }], guard := some (30, true) }) (v := ?_) rfl (by kernel_rfl) (by kernel_rfl) (by kernel_rfl) (fun _ _ _ h => h) (Or.inl ⟨by rfl, ?_⟩) (by assumption) ?_
        rotate_left
        · (intro w hSw; (try dsimp only at hSw); go_simp <;> with_reducible rfl)
        try simp only [Act.put, List.setIfInBounds_toArray, List.set_cons_zero, List.set_cons_succ]
        refine wpAnyH_take (i := 33) (oi := { dst := some 115, op := Op.move (Operand.tmp 114), type := 4, pos := "law.go:58", after := #[{ on := 32, ground := Ground.data }, { on := 30, ground := Ground.chain }, { on := 30, ground := Ground.guard }], guard := some (30, true) }) (v := ?_) rfl (by kernel_rfl) (by kernel_rfl) (by kernel_rfl) (fun _ _ _ h => h) (Or.inl ⟨by rfl, ?_⟩) (by assumption) ?_
        rotate_left
        · (intro w hSw; (try dsimp only at hSw); go_simp <;> with_reducible rfl)
        try simp only [Act.put, List.setIfInBounds_toArray, List.set_cons_zero, List.set_cons_succ]
        refine wpAnyH_take (i := 34) (oi := { dst := some 116, op := Op.load 26 (Operand.tmp 23), type := 26, pos := "law.go:58", after := #[{ on := 33, ground := Ground.guard }], guard := some (33, false) }) (v := undef) rfl (by kernel_rfl) (by kernel_rfl) (by kernel_rfl) (fun _ _ _ h => h) (Or.inr ⟨by rfl, rfl⟩) (by assumption) ?_
        try simp only [Act.put, List.setIfInBounds_toArray, List.set_cons_zero, List.set_cons_succ]
        refine wpAnyH_take (i := 35) (oi := { dst := some 117, op := Op.load 26 (Operand.tmp 6), type := 26, pos := "law.go:58", after := #[{ on := 33, ground := Ground.guard }], guard := some (33, false) }) (v := undef) rfl (by kernel_rfl) (by kernel_rfl) (by kernel_rfl) (fun _ _ _ h => h) (Or.inr ⟨by rfl, rfl⟩) (by assumption) ?_
        try simp only [Act.put, List.setIfInBounds_toArray, List.set_cons_zero, List.set_cons_succ]
        refine wpAnyH_take (i := 36) (oi := { dst := some 118, op := Op.binOp BinOp.eql 26 (Operand.tmp 116) (Operand.tmp 117) 26, type := 4, pos := "law.go:58", after := #[{ on := 34, ground := Ground.data }, { on := 35, ground := Ground.data }, { on := 33, ground := Ground.guard }], guard := some (33, false) }) (v := undef) rfl (by kernel_rfl) (by kernel_rfl) (by kernel_rfl) (fun _ _ _ h => h) (Or.inr ⟨by rfl, rfl⟩) (by assumption) ?_
        try simp only [Act.put, List.setIfInBounds_toArray, List.set_cons_zero, List.set_cons_succ]
        refine wpAnyH_take (i := 37) (oi := { dst := some 119, op := Op.pick (Operand.tmp 115) (Operand.const (Value.bool true)) (Operand.tmp 118), type := 4, pos := "law.go:58", after := #[{ on := 33, ground := Ground.data }, { on := 36, ground := Ground.data }, { on := 30, ground := Ground.guard }], guard := some (30, true) }) (v := ?_) rfl (by kernel_rfl) (by kernel_rfl) (by kernel_rfl) (fun _ _ _ h => h) (Or.inl ⟨by rfl, ?_⟩) (by assumption) ?_
        rotate_left
        · (intro w hSw; (try dsimp only at hSw); go_simp <;> with_reducible rfl)
        try simp only [Act.put, List.setIfInBounds_toArray, List.set_cons_zero, List.set_cons_succ]
        refine wpAnyH_take (i := 38) (oi := { dst := some 120, op := Op.pick (Operand.tmp 112) (Operand.tmp 119) (Operand.const (Value.bool false)), type := 4, pos := "law.go:58", after := #[{ on := 30, ground := Ground.data }, { on := 37, ground := Ground.data }], guard := none }) (v := ?_) rfl (by kernel_rfl) (by kernel_rfl) (by kernel_rfl) (fun _ _ _ h => h) (Or.inl ⟨by rfl, ?_⟩) (by assumption) ?_
        rotate_left
        · (intro w hSw; (try dsimp only at hSw); go_simp <;> with_reducible rfl)
        try simp only [Act.put, List.setIfInBounds_toArray, List.set_cons_zero, List.set_cons_succ]
        refine wpAnyH_take (i := 39) (oi := { dst := some 121, op := Op.move (Operand.tmp 120), type := 4, pos := "law.go:58", after := #[{ on := 38, ground := Ground.data }, { on := 33, ground := Ground.chain }], guard := none }) (v := ?_) rfl (by kernel_rfl) (by kernel_rfl) (by kernel_rfl) (fun _ _ _ h => h) (Or.inl ⟨by rfl, ?_⟩) (by assumption) ?_
        rotate_left
        · (intro w hSw; (try dsimp only at hSw); go_simp <;> with_reducible rfl)
        try simp only [Act.put, List.setIfInBounds_toArray, List.set_cons_zero, List.set_cons_succ]
        refine wpAnyH_ready (rs := [40]) (by kernel_rfl) (by simp) ?_
        refine AllReadyH.cons (o := { dst := some 122, op := Op.call { callee := Callee.value (Operand.func 4), args := #[], argTypes := #[] }, type := 4, pos := "law.go:58", after := #[{ on := 39, ground := Ground.chain }, { on := 39, ground := Ground.guard }], guard := some (39, true) }) rfl (fun K hK => ?_) AllReadyH.nil
        go_simp
        go_at_call 4
        with_reducible refine (KN.out _).mono ?_
        rintro r w' ⟨rfl, hb⟩
        replace hG := hG.trans (hb.mono hG.size)
        clear hb
        refine hK.out _ _ (HKP.out _ hG) (fun hHeld => ?_)
        clear hK K
        try simp only [Act.put, List.setIfInBounds_toArray, List.set_cons_zero, List.set_cons_succ]
        refine wpAnyH_take (i := 41) (oi := { dst := some 123, op := Op.pick (Operand.tmp 121) (Operand.tmp 122) (Operand.const (Value.bool false)), type := 4, pos := "law.go:58", after := #[{ on := 39, ground := Ground.data }, { on := 40, ground := Ground.data }], guard := none }) (v := ?_) rfl (by kernel_rfl) (by kernel_rfl) (by kernel_rfl) (fun _ _ _ h => h) (Or.inl ⟨by rfl, ?_⟩) (by assumption) ?_
        rotate_left
        · (intro w hSw; (try dsimp only at hSw); go_simp <;> with_reducible rfl)
        try simp only [Act.put, List.setIfInBounds_toArray, List.set_cons_zero, List.set_cons_succ]
        refine wpAnyH_take (i := 42) (oi := { dst := some 8, op := Op.assign (Operand.tmp 123), type := 4, pos := "law.go:58", after := #[{ on := 41, ground := Ground.data }, { on := 40, ground := Ground.chain }, { on := 0, ground := Ground.phase }, { on := 1, ground := Ground.phase }, { on := 2, ground := Ground.phase }, { on := 3, ground := Ground.phase }, { on := 4, ground := Ground.phase }, { on := 5, ground := Ground.phase }, { on := 6, ground := Ground.phase }, { on := 7, ground := Ground.phase }, { on := 8, ground := Ground.phase }, { on := 9, ground := Ground.phase }, { on := 10, ground := Ground.phase }, { on := 11, ground := Ground.phase }, { on := 12, ground := Ground.phase }, { on := 13, ground := Ground.phase }, { on := 14, ground := Ground.phase }, { on := 15, ground := Ground.phase }, { on := 16, ground := Ground.phase }, { on := 17, ground := Ground.phase }, { on := 18, ground := Ground.phase }, { on := 19, ground := Ground.phase }, { on := 20, ground := Ground.phase }, { on := 21, ground := Ground.phase }, { on := 22, ground := Ground.phase }, { on := 23, ground := Ground.phase }, { on := 24, ground := Ground.phase }, { on := 25, ground := Ground.phase }, { on := 26, ground := Ground.phase }, { on := 27, ground := Ground.phase }, { on := 28, ground := Ground.phase }, { on := 29, ground := Ground.phase }, { on := 30, ground := Ground.phase }, { on := 31, ground := Ground.phase }, { on := 32, ground := Ground.phase }, { on := 33, ground := Ground.phase }, { on := 34, ground := Ground.phase }, { on := 35, ground := Ground.phase }, { on := 36, ground := Ground.phase }, { on := 37, ground := Ground.phase }, { on := 38, ground := Ground.phase }, { on := 39, ground := Ground.phase }, { on := 40, ground := Ground.phase }, { on := 41, ground := Ground.phase }], guard := none }) (v := ?_) rfl (by kernel_rfl) (by kernel_rfl) (by kernel_rfl) (fun _ _ _ h => h) (Or.inl ⟨by rfl, ?_⟩) (by assumption) ?_
        rotate_left
        · (intro w hSw; (try dsimp only at hSw); go_simp <;> with_reducible rfl)
        try simp only [Act.put, List.setIfInBounds_toArray, List.set_cons_zero, List.set_cons_succ]
        refine wpAnyH_done (by kernel_rfl) ?_ _
        have hF := HB9.out.trans (Below.mono ⟨hG.os, hG.tape, hG.output, hG.size, hG.block⟩ HB9.out.size)
        have HF := Lib.hid hF
        clear hF hG
        go_wp2
        go_ret
        exact ⟨rfl, HF.out⟩
end Go.Proofs.YtodcdefmoliegaaGreatDoor
/-
  A map as an argument: opened and shut.
-/
namespace Go.Proofs.YtodcdefmoliegaaGreatDoor
open Go.ChangeShapes Go.WideShapes Go.ChangeAt Go.RowKit
set_option linter.unusedVariables false
set_option linter.unusedSimpArgs false

def msetD {H : Type} (a b : Nat) : DataW H := .agg [.lit (.int .u64 (a : Int)), .lit (.int .u64 (b : Int))]
def mapD {H : Type} (a b c d e : Nat) : DataW H := .agg [msetD a b, msetD c d, .lit (.int .u64 (e : Int))]
theorem mu64_nat {x : Int} (h : (Lit.int .u64 x).wf = true) : ∃ n : Nat, x = (n : Int) ∧ n < 18446744073709551616 := by
  have := h
  have m0 : IntKind.u64.min = 0 := rfl
  have m1 : IntKind.u64.max = 18446744073709551615 := rfl
  simp [Lit.wf] at this
  exact ⟨x.toNat, by omega, by omega⟩
def W64 (n : Nat) : Prop := n < 18446744073709551616 ∧ (Lit.int .u64 (n : Int)).wf = true

section
variable {H : Type} {enc : TypeId × Value → H} {w : World} {base : Nat} {spare : Nat → Bool} {held : Bool}

theorem trod_mset {n : Nat} {c0 c1 : Value} {y : DataW H × List MemPlace} (h : DataW.trod enc Tryz.prog w base spare held n 24 [c0, c1] = some y) :
    ∃ a b : Nat, c0 = .int .u64 (a : Int) ∧ c1 = .int .u64 (b : Int) ∧ y = (msetD a b, []) ∧ W64 a ∧ W64 b := by
  obtain ⟨xs, m, _, hx, _, hlen, hfs⟩ := DataW.trod_array Tryz.underlying24 h
  match xs, hlen with
  | [y0, y1], _ =>
  have h0 := hfs 0 (by omega)
  have h1 := hfs 1 (by omega)
  simp only [List.getElem?_cons_zero, List.getElem?_cons_succ] at h0 h1
  obtain ⟨N, e0, rfl, w0⟩ := DataW.trod_int Tryz.underlying22 h0
  obtain ⟨F, e1, rfl, w1⟩ := DataW.trod_int Tryz.underlying22 h1
  have k3 : Tryz.prog.cellsOf 22 = 1 := by kernel_rfl
  simp [Value.cells, k3] at e0 e1
  subst e0 e1 hx
  obtain ⟨a, rfl, ha⟩ := mu64_nat w0
  obtain ⟨b, rfl, hb⟩ := mu64_nat w1
  exact ⟨a, b, rfl, rfl, rfl, ⟨ha, w0⟩, ⟨hb, w1⟩⟩

set_option maxRecDepth 100000 in
theorem open_map {r : Reach} {b0 : Nat} {v : Value} {d : DataW H} {ps : List MemPlace} (hval : Value.okWide Tryz.prog w r b0 26 v) (hd : DataW.Trod enc Tryz.prog w base spare held 26 v d ps) :
    ∃ a b c g e : Nat, v = mapV a b c g e ∧ d = mapD a b c g e ∧ ps = [] ∧ W64 a ∧ W64 b ∧ W64 c ∧ W64 g ∧ W64 e := by
  obtain ⟨cs, rfl, hsz⟩ := okWide_struct Tryz.underlying26 hval
  rw [show Tryz.prog.cellsOf 26 = 5 from by kernel_rfl] at hsz
  obtain ⟨l⟩ := cs
  match l, hsz with
  | [c0, c1, c2, c3, c4], _ =>
  obtain ⟨fuel, hf⟩ := hd
  obtain ⟨xs, n, _, hx, _, hlen, hfs⟩ := DataW.trod_struct Tryz.underlying26 hf
  match xs, hlen with
  | [y0, y1, y2], _ =>
  have h0 := hfs 0 _ rfl
  have h1 := hfs 1 _ rfl
  have h2 := hfs 2 _ rfl
  simp only [List.getElem?_cons_zero, List.getElem?_cons_succ] at h0 h1 h2
  have k34 : Tryz.prog.cellsOf 22 = 1 := by kernel_rfl
  have k33 : Tryz.prog.cellsOf 24 = 2 := by kernel_rfl
  obtain ⟨E, e2, rfl, w2⟩ := DataW.trod_int Tryz.underlying22 h2
  have h0' : DataW.trod enc Tryz.prog w base spare held n 24 [c0, c1] = some y0 := by
    have := h0
    simpa [Value.cells, k33] using this
  have h1' : DataW.trod enc Tryz.prog w base spare held n 24 [c2, c3] = some y1 := by
    have := h1
    simpa [Value.cells, k33] using this
  obtain ⟨a, b, rfl, rfl, rfl, wa, wb⟩ := trod_mset h0'
  obtain ⟨c, g, rfl, rfl, rfl, wc, wg⟩ := trod_mset h1'
  simp [Value.cells, k34] at e2
  subst e2
  obtain ⟨e, rfl, he⟩ := mu64_nat w2
  simp only [Prod.mk.injEq] at hx
  obtain ⟨rfl, rfl⟩ := hx
  exact ⟨a, b, c, g, e, rfl, rfl, rfl, wa, wb, wc, wg, ⟨he, w2⟩⟩

set_option maxRecDepth 100000 in
theorem shut_map {a b c g e : Nat} (wa : W64 a) (wb : W64 b) (wc : W64 c) (wg : W64 g) (we : W64 e) :
    DataW.Trod enc Tryz.prog w base spare held 26 (mapV a b c g e) (mapD a b c g e) [] := by
  refine ⟨3, ?_⟩
  have k34 : Tryz.prog.cellsOf 22 = 1 := by kernel_rfl
  have k33 : Tryz.prog.cellsOf 24 = 2 := by kernel_rfl
  have hset : ∀ {x y : Nat}, W64 x → W64 y → DataW.trod enc Tryz.prog w base spare held 2 24 [.int .u64 (x : Int), .int .u64 (y : Int)] = some (msetD x y, []) := fun {x y} hx hy => by
    simp [DataW.trod, msetD, Tryz.underlying24, Tryz.underlying22, k34, k33, hx.2, hy.2, show List.range 2 = [0, 1] from rfl]
  have := trod_struct_mk (enc := enc) (P := Tryz.prog) (w := w) (base := base) (spare := spare) (held := held) (n := 2) (cs := [.int .u64 (a : Int), .int .u64 (b : Int), .int .u64 (c : Int), .int .u64 (g : Int), .int .u64 (e : Int)])
    (xs := [(msetD a b, []), (msetD c g, []), (.lit (.int .u64 (e : Int)), [])]) Tryz.underlying26 (by kernel_rfl) (by
      have h1 := hset wa wb
      have h2 := hset wc wg
      simp [k33, k34, trod_int_mk 1 Tryz.underlying22 we.2]
      rw [h1, h2]
      rfl)
  simpa [Value.cells, mapV, mapD] using this
end
end Go.Proofs.YtodcdefmoliegaaGreatDoor
/-
  DirtyLoads' arguments.
-/
namespace Go.Proofs.YtodcdefmoliegaaGreatDoor
open Go.RowKit
set_option linter.unusedVariables false

theorem dloads_call (n : Int) (s : ByteArray) (a b c d e : Nat) (down : Bool) (w : World) (h : W64 a ∧ W64 b ∧ W64 c ∧ W64 d ∧ W64 e) :
    Calls Tryz.prog 3 #[.int .i64 n, .string s, mapV a b c d e, .bool down] w fun e w' => e = .returned (.bool true) ∧ Below w.heap.size w w' :=
  dloads_walk n s ⟨a, b, c, d, e⟩ down w ⟨h.1.1, h.2.1.1, h.2.2.1.1, h.2.2.2.1.1, h.2.2.2.2.1⟩
end Go.Proofs.YtodcdefmoliegaaGreatDoor

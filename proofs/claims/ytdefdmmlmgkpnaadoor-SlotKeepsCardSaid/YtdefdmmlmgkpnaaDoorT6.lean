/-
  The walk of SlotKeeps.
-/
import Derived.Test.YtdefdmmlmgkpnaaDoorT5
namespace Go.Proofs.YtdefdmmlmgkpnaaDoor
open Go.RowKit
set_option linter.unusedVariables false
set_option linter.unusedSimpArgs false

/-- What there is behind a save that may go down. -/
theorem keeps_math (seq : Nat) (xs ys : List UInt8) (f : Int) (K : List Bool) (hs : seq ≤ 1152921504606846976) (hx : xs.length ≤ 50) (hy : ys.length ≤ 50) (h0 : 0 ≤ f) (h2 : f ≤ 2) :
    ∃ D1 r D3 D5 c, saveP ⟨z4, [], -1, false, 0⟩ 1 4 seq xs = (0, D1) ∧ (D1.fuse f).ok 1000 ∧ saveP (D1.fuse f) 1 4 (seq + 1) ys = (r, D3) ∧ D3.ok 1000 ∧ (D3.crash K).up = (0, D5) ∧ D5.ok 1000 ∧ loadP D5 1 4 = (c, 0) ∧
      ((r = 0 ∧ f = 2 ∧ c = ⟨true, seq + 1, ys⟩) ∨ (r = 5 ∧ f ≠ 2 ∧ c = ⟨true, seq, xs⟩) ∨ (r = 5 ∧ f ≠ 2 ∧ c = ⟨true, seq + 1, ys⟩)) := by
  have e1 := save_whole z4 (-1) 0 1 4 seq xs (.inl rfl) (by decide) (by omega) (by omega) (by omega) hx
  have l1 := fun did => load_one 0 did 4 seq (-1) xs (by omega) (by omega) (by omega) hx
  have l2 := fun did => load_two did 4 seq (-1) xs ys (by omega) (by omega) (by omega) hx hy
  obtain ⟨L1, hL1⟩ : ∃ L, z4.set (1 + seq % 2) (recB 4 seq xs) = L := ⟨_, rfl⟩
  have hl : L1.length = 4 := by rw [← hL1]; simp [z4]
  rw [hL1] at e1
  simp only [hL1] at l1 l2
  change saveP ⟨z4, [], -1, false, 0⟩ 1 4 seq xs = (0, ⟨L1, [], -1, false, 2⟩) at e1
  have hf : (DS.mk L1 [] (-1) false 2).fuse f = ⟨L1, [], f, false, 2⟩ := by unfold DS.fuse; rw [if_pos h0]
  have hok : (DS.mk L1 [] f false 2).ok 1000 := flat_ok L1 f false 2 (by omega) (by omega) (by omega) (by omega)
  have hc : f = 0 ∨ f = 1 ∨ f = 2 := by omega
  rcases hc with rfl | rfl | rfl
  · have e2 := save_none L1 2 1 4 (seq + 1) ys (by omega) (by omega) (by omega) (by omega) hy
    refine ⟨_, 5, ⟨L1, [], -1, true, 2⟩, ⟨L1, [], -1, false, 2⟩, ⟨true, seq, xs⟩, e1, ?_, ?_, flat_ok L1 (-1) true 2 (by omega) (by omega) (by omega) (by omega), ?_, flat_ok L1 (-1) false 2 (by omega) (by omega) (by omega) (by omega), l1 2, .inr (.inl ⟨rfl, by omega, rfl⟩)⟩
    · rw [hf]; exact hok
    · rw [hf]; exact e2
    · simp [DS.crash, DS.up, appK]
  · have e2 := save_half L1 2 1 4 (seq + 1) ys (by omega) (by omega) (by omega) (by omega) hy
    have hokh : (DS.mk L1 [(((1 + (seq + 1) % 2 : Nat) : Int), recB 4 (seq + 1) ys)] (-1) true 3).ok 1000 := by
      refine ⟨fun i hi => ?_, by dsimp only; omega, by dsimp only; omega, by simp, by dsimp only; omega, by dsimp only; omega⟩
      obtain rfl : i = 0 := by simpa using hi
      exact has_of _ _ _ _ _ (1 + (seq + 1) % 2) (by omega)
    by_cases hk : K[0]?.getD false = true
    · refine ⟨_, 5, _, ⟨L1.set (1 + (seq + 1) % 2) (recB 4 (seq + 1) ys), [], -1, false, 3⟩, ⟨true, seq + 1, ys⟩, e1, ?_, ?_, hokh, ?_, flat_ok _ (-1) false 3 (by omega) (by omega) (by omega) (by simp; omega), l2 3, .inr (.inr ⟨rfl, by omega, rfl⟩)⟩
      · rw [hf]; exact hok
      · rw [hf]; exact e2
      · have e : (DS.mk L1 [(((1 + (seq + 1) % 2 : Nat) : Int), recB 4 (seq + 1) ys)] (-1) true 3).crash K = ⟨L1.set (1 + (seq + 1) % 2) (recB 4 (seq + 1) ys), [], -1, true, 3⟩ := by
          have e3 : appK L1 [(((1 + (seq + 1) % 2 : Nat) : Int), recB 4 (seq + 1) ys)] K 1 = L1.set (1 + (seq + 1) % 2) (recB 4 (seq + 1) ys) := by
            show (if K[0]?.getD false = true then L1.set _ _ else L1) = _
            rw [if_pos hk]
            rfl
          unfold DS.crash
          exact congrArg (fun l => DS.mk l [] (-1) true 3) e3
        rw [e]
        rfl
    · refine ⟨_, 5, _, ⟨L1, [], -1, false, 3⟩, ⟨true, seq, xs⟩, e1, ?_, ?_, hokh, ?_, flat_ok _ (-1) false 3 (by omega) (by omega) (by omega) (by omega), l1 3, .inr (.inl ⟨rfl, by omega, rfl⟩)⟩
      · rw [hf]; exact hok
      · rw [hf]; exact e2
      · have e : (DS.mk L1 [(((1 + (seq + 1) % 2 : Nat) : Int), recB 4 (seq + 1) ys)] (-1) true 3).crash K = ⟨L1, [], -1, true, 3⟩ := by
          have e3 : appK L1 [(((1 + (seq + 1) % 2 : Nat) : Int), recB 4 (seq + 1) ys)] K 1 = L1 := by
            show (if K[0]?.getD false = true then L1.set _ _ else L1) = _
            rw [if_neg hk]
          unfold DS.crash
          exact congrArg (fun l => DS.mk l [] (-1) true 3) e3
        rw [e]
        rfl
  · have e2 := save_whole L1 2 2 1 4 (seq + 1) ys (.inr rfl) (by omega) (by omega) (by omega) (by omega) hy
    rw [if_pos rfl] at e2
    obtain ⟨L2, hL2⟩ : ∃ L, L1.set (1 + (seq + 1) % 2) (recB 4 (seq + 1) ys) = L := ⟨_, rfl⟩
    have hl2 : L2.length = 4 := by rw [← hL2]; simp [hl]
    rw [hL2] at e2
    simp only [hL2] at l2
    refine ⟨_, 0, _, ⟨L2, [], -1, false, 4⟩, ⟨true, seq + 1, ys⟩, e1, ?_, ?_, flat_ok L2 0 false 4 (by omega) (by omega) (by omega) (by omega), ?_, flat_ok L2 (-1) false 4 (by omega) (by omega) (by omega) (by omega), l2 4, .inl ⟨rfl, rfl, rfl⟩⟩
    · rw [hf]; exact hok
    · rw [hf]; exact e2
    · simp [DS.crash, DS.up, appK]

theorem eql_vv (xs : List UInt8) (w : World) : (binOp .eql 9 (strV xs) (strV xs)).run Tryd.prog w = .ok (.bool true) w := by
  rw [eql_str]; simp

set_option maxRecDepth 20000 in
set_option maxHeartbeats 8000000 in
theorem skeeps_walk (seq : Nat) (xs ys : List UInt8) (f : Int) (ak : Option Addr) (nk ck : Nat) (K : List Bool) (w : World) (hs : seq < 18446744073709551616) (hx : xs.length ≤ 9223372036854775807) (hy : ys.length ≤ 9223372036854775807) (hK : Bl w ak nk K) :
    Calls Tryd.prog 3 #[.int .u64 seq, strV xs, strV ys, .agg #[.int .i64 f, .slice ak nk ck]] w fun e w' => e = .returned (.bool true) ∧ Below w.heap.size w w' := by
  have hlx := fun w => len_str xs w
  have hly := fun w => len_str ys w
  have hex := fun w => eql_vv xs w
  have hey := fun w => eql_vv ys w
  have hgx := fun x y w => eguard_str xs xs x y w
  have hgy := fun x y w => eguard_str ys ys x y w
  obtain ⟨w0, hw0⟩ : ∃ w0, w0 = w.alloc (.cells #[.int .i64 f, .slice ak nk ck] 25) := ⟨_, rfl⟩
  have hal : Below w.heap.size w w0 := by rw [hw0]; exact (Below.refl _ _).alloc (Nat.le_refl _) _
  have hnew : w0.heap[w.heap.size]? = some (.cells #[.int .i64 f, .slice ak nk ck] 25 (0, 0)) := by rw [hw0]; exact heap_alloc_new w _
  have b0 : w0.cell? ⟨w.heap.size, 0, none⟩ = some (.int .i64 f) := by rw [cell_of_blk hnew]; rfl
  have b1 : w0.cell? ⟨w.heap.size, 1, none⟩ = some (.slice ak nk ck) := by rw [cell_of_blk hnew]; rfl
  have kn := sknown_any
  have KN := Lib.hid kn
  have HAL := Lib.hid hal
  by_cases hbad : 50 < xs.length ∨ 50 < ys.length ∨ 1152921504606846976 < seq ∨ f < 0 ∨ 2 < f
  · obtain ⟨VX, hVX⟩ : ∃ V : Value, strV xs = V := ⟨_, rfl⟩
    obtain ⟨VY, hVY⟩ : ∃ V : Value, strV ys = V := ⟨_, rfl⟩
    rw [hVX] at hlx ⊢
    rw [hVY] at hly ⊢
    have c1 : 50 < (xs.length : Int) ∨ (¬ 50 < (xs.length : Int) ∧ (50 < (ys.length : Int) ∨ (¬ 50 < (ys.length : Int) ∧ (1152921504606846976 < (seq : Int) ∨ (¬ 1152921504606846976 < (seq : Int) ∧ (f < 0 ∨ (¬ f < 0 ∧ 2 < f))))))) := by omega
    have HW0 := Lib.hid hw0
    clear hbad hs hx hy hK hex hey hgx hgy hVX hVY kn hal hnew hw0
    generalize xs.length = lx at *
    generalize ys.length = ly at *
    rcases c1 with c1 | ⟨c1, c2 | ⟨c2, c3 | ⟨c3, c4 | ⟨c4, c5⟩⟩⟩⟩
    · go_enter Tryd.func3, Tryd.ntmps3
      go_wp2_with fail
      rw [← HW0.out] at *
      go_wp2_with fail
      refine (KN.out _).mono ?_
      rintro e w1 ⟨rfl, hb⟩
      have HB := Lib.hid (HAL.out.trans (hb.mono HAL.out.size))
      clear hb
      go_wp2
      go_ret
      exact ⟨rfl, HB.out⟩
    · go_enter Tryd.func3, Tryd.ntmps3
      go_wp2_with fail
      rw [← HW0.out] at *
      go_wp2_with fail
      refine (KN.out _).mono ?_
      rintro e w1 ⟨rfl, hb⟩
      have HB := Lib.hid (HAL.out.trans (hb.mono HAL.out.size))
      clear hb
      go_wp2
      go_ret
      exact ⟨rfl, HB.out⟩
    · go_enter Tryd.func3, Tryd.ntmps3
      go_wp2_with fail
      rw [← HW0.out] at *
      go_wp2_with fail
      refine (KN.out _).mono ?_
      rintro e w1 ⟨rfl, hb⟩
      have HB := Lib.hid (HAL.out.trans (hb.mono HAL.out.size))
      clear hb
      go_wp2
      go_ret
      exact ⟨rfl, HB.out⟩
    · go_enter Tryd.func3, Tryd.ntmps3
      go_wp2_with fail
      rw [← HW0.out] at *
      go_wp2_with fail
      refine (KN.out _).mono ?_
      rintro e w1 ⟨rfl, hb⟩
      have HB := Lib.hid (HAL.out.trans (hb.mono HAL.out.size))
      clear hb
      go_wp2
      go_ret
      exact ⟨rfl, HB.out⟩
    · go_enter Tryd.func3, Tryd.ntmps3
      go_wp2_with fail
      rw [← HW0.out] at *
      go_wp2_with fail
      refine (KN.out _).mono ?_
      rintro e w1 ⟨rfl, hb⟩
      have HB := Lib.hid (HAL.out.trans (hb.mono HAL.out.size))
      clear hb
      go_wp2
      go_ret
      exact ⟨rfl, HB.out⟩
  · have q1 : ¬ 50 < (xs.length : Int) := by omega
    have q2 : ¬ 50 < (ys.length : Int) := by omega
    have q3 : ¬ 1152921504606846976 < (seq : Int) := by omega
    have q4 : ¬ f < 0 := by omega
    have q5 : ¬ 2 < f := by omega
    obtain ⟨D1, r, D3, D5, c, e1, o1, e2, o2, e3, o3, e4, hend⟩ := keeps_math seq xs ys f K (by omega) (by omega) (by omega) (by omega) (by omega)
    have m0 := fun w' => st_new 4 w' (by omega) (by omega)
    rw [ds0_four] at m0
    have m1 := fun w' p (h : St w0 w' p ⟨z4, [], -1, false, 0⟩) => st_save 1 4 seq xs h (flat_ok z4 (-1) false 0 (by omega) (by omega) (by omega) (by decide)) hs hx
    have m2 := fun w' p (h : St w0 w' p D1) => st_fuse f h
    have m3 := fun w' p (h : St w0 w' p (D1.fuse f)) => st_save 1 4 (seq + 1) ys h o1 (by omega) hy
    have m4 := fun w' p (h : St w0 w' p D3) => st_crash ak nk ck K h o2 (hK.below hal)
    have m5 := fun w' p (h : St w0 w' p (D3.crash K)) => st_up h
    have m6 := fun w' p (h : St w0 w' p D5) => st_load 1 4 h o3
    simp only [e1] at m1
    simp only [e2] at m3
    simp only [e3] at m5
    simp only [e4] at m6
    have hc1 : ((seq + 1 : Nat) : Int) = (seq : Int) + 1 := by omega
    have wr : IntKind.u64.wrap ((seq : Int) + 1) = (seq : Int) + 1 := IntWalk.u64_in _ (by omega)
    simp only [hc1] at m3
    unfold loadV at m6
    have M0 := Lib.hid m0
    have M2 := Lib.hid m2
    have M4 := Lib.hid m4
    have hbk : ∀ w', Below w0.heap.size w0 w' → w'.cell? ⟨w.heap.size, 0, none⟩ = some (.int .i64 f) := fun w' h => (h.cell (p := ⟨w.heap.size, 0, none⟩) (lt_of_block hnew)).trans b0
    have HW0 := Lib.hid hw0
    clear hbad hs hx hy hK kn hal hnew hw0 e1 o1 e2 o2 e3 o3 e4 m0 m2 m4 hbk
    generalize xs.length = lx at *
    generalize ys.length = ly at *
    rcases hend with ⟨rfl, rfl, rfl⟩ | ⟨rfl, hf, rfl⟩ | ⟨rfl, hf, rfl⟩
    · dsimp only at m6
      simp only [hc1] at m6
      obtain ⟨VX, hVX⟩ : ∃ V : Value, strV xs = V := ⟨_, rfl⟩
      obtain ⟨VY, hVY⟩ : ∃ V : Value, strV ys = V := ⟨_, rfl⟩
      simp only [hVX, hVY] at *
      have M1 := Lib.hid m1
      have M3 := Lib.hid m3
      have M5 := Lib.hid m5
      have M6 := Lib.hid m6
      clear m1 m3 m5 m6 hVX hVY
      go_enter Tryd.func3, Tryd.ntmps3
      go_wp2_with fail
      rw [← HW0.out] at *
      go_wp2_with fail
      refine (M0.out _).mono ?_
      rintro e w1 ⟨p, rfl, h1⟩
      have H1 := Lib.hid h1
      clear h1 M0
      go_wp2_with fail
      refine (M1.out _ _ H1.out).mono ?_
      rintro e w2 ⟨rfl, h1⟩
      have H2 := Lib.hid h1
      clear h1 M1 H1
      go_wp2_with fail
      refine (M2.out _ _ H2.out).mono ?_
      rintro e w3 ⟨rfl, h1⟩
      have H3 := Lib.hid h1
      clear h1 M2 H2
      go_wp2_with fail
      refine (M3.out _ _ H3.out).mono ?_
      rintro e w4 ⟨rfl, h1⟩
      have H4 := Lib.hid h1
      clear h1 M3 H3
      go_wp2_with fail
      refine (M4.out _ _ H4.out).mono ?_
      rintro e w5 ⟨rfl, h1⟩
      have H5 := Lib.hid h1
      clear h1 M4 H4
      go_wp2_with fail
      refine (M5.out _ _ H5.out).mono ?_
      rintro e w6 ⟨rfl, h1⟩
      have H6 := Lib.hid h1
      clear h1 M5 H5
      go_wp2_with fail
      refine (M6.out _ _ H6.out).mono ?_
      rintro e w7 ⟨rfl, h1⟩
      have H7 := Lib.hid (HAL.out.trans (h1.fin.mono HAL.out.size))
      clear h1 M6 H6
      go_wp2_with fail
      refine (KN.out _).mono ?_
      rintro e w8 ⟨rfl, hb⟩
      have HB := Lib.hid (H7.out.trans (hb.mono H7.out.size))
      clear hb H7
      go_wp2
      go_ret
      exact ⟨rfl, HB.out⟩
    · dsimp only at m6
      have hf2 : (f == 2) = false := by simpa using hf
      obtain ⟨VX, hVX⟩ : ∃ V : Value, strV xs = V := ⟨_, rfl⟩
      obtain ⟨VY, hVY⟩ : ∃ V : Value, strV ys = V := ⟨_, rfl⟩
      simp only [hVX, hVY] at *
      have M1 := Lib.hid m1
      have M3 := Lib.hid m3
      have M5 := Lib.hid m5
      have M6 := Lib.hid m6
      clear m1 m3 m5 m6 hVX hVY
      go_enter Tryd.func3, Tryd.ntmps3
      go_wp2_with fail
      rw [← HW0.out] at *
      go_wp2_with fail
      refine (M0.out _).mono ?_
      rintro e w1 ⟨p, rfl, h1⟩
      have H1 := Lib.hid h1
      clear h1 M0
      go_wp2_with fail
      refine (M1.out _ _ H1.out).mono ?_
      rintro e w2 ⟨rfl, h1⟩
      have H2 := Lib.hid h1
      clear h1 M1 H1
      go_wp2_with fail
      refine (M2.out _ _ H2.out).mono ?_
      rintro e w3 ⟨rfl, h1⟩
      have H3 := Lib.hid h1
      clear h1 M2 H2
      go_wp2_with fail
      refine (M3.out _ _ H3.out).mono ?_
      rintro e w4 ⟨rfl, h1⟩
      have H4 := Lib.hid h1
      clear h1 M3 H3
      go_wp2_with fail
      refine (M4.out _ _ H4.out).mono ?_
      rintro e w5 ⟨rfl, h1⟩
      have H5 := Lib.hid h1
      clear h1 M4 H4
      go_wp2_with fail
      refine (M5.out _ _ H5.out).mono ?_
      rintro e w6 ⟨rfl, h1⟩
      have H6 := Lib.hid h1
      clear h1 M5 H5
      go_wp2_with fail
      refine (M6.out _ _ H6.out).mono ?_
      rintro e w7 ⟨rfl, h1⟩
      have H7 := Lib.hid (HAL.out.trans (h1.fin.mono HAL.out.size))
      clear h1 M6 H6
      go_wp2_with fail
      refine (KN.out _).mono ?_
      rintro e w8 ⟨rfl, hb⟩
      have HB := Lib.hid (H7.out.trans (hb.mono H7.out.size))
      clear hb H7
      go_wp2
      go_ret
      exact ⟨rfl, HB.out⟩
    · dsimp only at m6
      simp only [hc1] at m6
      have hf2 : (f == 2) = false := by simpa using hf
      have hn2 : ((seq : Int) + 1 == (seq : Int)) = false := beq_eq_false_iff_ne.2 (by omega)
      obtain ⟨VX, hVX⟩ : ∃ V : Value, strV xs = V := ⟨_, rfl⟩
      obtain ⟨VY, hVY⟩ : ∃ V : Value, strV ys = V := ⟨_, rfl⟩
      simp only [hVX, hVY] at *
      have M1 := Lib.hid m1
      have M3 := Lib.hid m3
      have M5 := Lib.hid m5
      have M6 := Lib.hid m6
      clear m1 m3 m5 m6 hVX hVY
      go_enter Tryd.func3, Tryd.ntmps3
      go_wp2_with fail
      rw [← HW0.out] at *
      go_wp2_with fail
      refine (M0.out _).mono ?_
      rintro e w1 ⟨p, rfl, h1⟩
      have H1 := Lib.hid h1
      clear h1 M0
      go_wp2_with fail
      refine (M1.out _ _ H1.out).mono ?_
      rintro e w2 ⟨rfl, h1⟩
      have H2 := Lib.hid h1
      clear h1 M1 H1
      go_wp2_with fail
      refine (M2.out _ _ H2.out).mono ?_
      rintro e w3 ⟨rfl, h1⟩
      have H3 := Lib.hid h1
      clear h1 M2 H2
      go_wp2_with fail
      refine (M3.out _ _ H3.out).mono ?_
      rintro e w4 ⟨rfl, h1⟩
      have H4 := Lib.hid h1
      clear h1 M3 H3
      go_wp2_with fail
      refine (M4.out _ _ H4.out).mono ?_
      rintro e w5 ⟨rfl, h1⟩
      have H5 := Lib.hid h1
      clear h1 M4 H4
      go_wp2_with fail
      refine (M5.out _ _ H5.out).mono ?_
      rintro e w6 ⟨rfl, h1⟩
      have H6 := Lib.hid h1
      clear h1 M5 H5
      go_wp2_with fail
      refine (M6.out _ _ H6.out).mono ?_
      rintro e w7 ⟨rfl, h1⟩
      have H7 := Lib.hid (HAL.out.trans (h1.fin.mono HAL.out.size))
      clear h1 M6 H6
      go_wp2_with fail
      refine (KN.out _).mono ?_
      rintro e w8 ⟨rfl, hb⟩
      have HB := Lib.hid (H7.out.trans (hb.mono H7.out.size))
      clear hb H7
      go_wp2
      go_ret
      exact ⟨rfl, HB.out⟩
end Go.Proofs.YtdefdmmlmgkpnaaDoor


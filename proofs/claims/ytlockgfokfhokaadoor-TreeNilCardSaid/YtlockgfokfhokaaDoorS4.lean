/-
  Contracts: the reference's block.
-/
import Derived.Test.YtlockgfokfhokaaDoorS3
namespace Go.Proofs.YtlockgfokfhokaaDoor
open Go.RowKit
set_option linter.unusedVariables false

theorem build_words (w : World) : (Instr.build 96 #[]).run Tryd.prog w = .ok (.agg (Array.replicate 64 (.int .u32 0))) w := by kernel_rfl

/-- A row of cells that reads as the table of constants. -/
def KonAt (w : World) (b : Nat) : Prop := ∀ j, j < 64 → w.cell? ⟨b, j, none⟩ = some (.int .u32 (konAt j : Int))

theorem rturn_lit (n i : Nat) (c : Int) (w : World) (hc : c = (i : Int)) (hn : n < 4294967296) (hi : 0 < i) (hi2 : i < 32) :
    Calls Tryd.prog 76 #[.int .u32 n, .int .u64 c] w fun e w' => e = .returned (.int .u32 (rotr n i : Int)) ∧ w' = w := by
  subst hc
  exact (rturn_any n i w hn hi hi2).mono fun e w' ⟨h1, h2⟩ => ⟨h1, h2.symm⟩

theorem sml0_bits (n : Nat) (hn : n < 4294967296) : bits .xor .u32 (bits .xor .u32 (rotr n 7 : Int) (rotr n 18 : Int)) ((n : Int) / 8) = (sml0 n : Int) := by
  rw [u32_xor_nat _ _ (rotr_lt n 7 hn) (rotr_lt n 18 hn)]
  have := u32_xor_nat (rotr n 7 ^^^ rotr n 18) (n / 8) (xor_lt _ _ (rotr_lt n 7 hn) (rotr_lt n 18 hn)) (by omega)
  unfold sml0
  rw [← this]
  simp

theorem sml1_bits (n : Nat) (hn : n < 4294967296) : bits .xor .u32 (bits .xor .u32 (rotr n 17 : Int) (rotr n 19 : Int)) ((n : Int) / 1024) = (sml1 n : Int) := by
  rw [u32_xor_nat _ _ (rotr_lt n 17 hn) (rotr_lt n 19 hn)]
  have := u32_xor_nat (rotr n 17 ^^^ rotr n 19) (n / 1024) (xor_lt _ _ (rotr_lt n 17 hn) (rotr_lt n 19 hn)) (by omega)
  unfold sml1
  rw [← this]
  simp

theorem big0_bits (n : Nat) (hn : n < 4294967296) : bits .xor .u32 (bits .xor .u32 (rotr n 2 : Int) (rotr n 13 : Int)) (rotr n 22 : Int) = (big0 n : Int) := by
  rw [u32_xor_nat _ _ (rotr_lt n 2 hn) (rotr_lt n 13 hn), u32_xor_nat _ _ (xor_lt _ _ (rotr_lt n 2 hn) (rotr_lt n 13 hn)) (rotr_lt n 22 hn)]
  rfl

theorem big1_bits (n : Nat) (hn : n < 4294967296) : bits .xor .u32 (bits .xor .u32 (rotr n 6 : Int) (rotr n 11 : Int)) (rotr n 25 : Int) = (big1 n : Int) := by
  rw [u32_xor_nat _ _ (rotr_lt n 6 hn) (rotr_lt n 11 hn), u32_xor_nat _ _ (xor_lt _ _ (rotr_lt n 6 hn) (rotr_lt n 11 hn)) (rotr_lt n 25 hn)]
  rfl

set_option maxRecDepth 20000 in
set_option maxHeartbeats 2000000 in
theorem rblock_any (s : St) (m : List UInt8) (kb kc b off cap : Nat) (w : World) (hs : s.ok) (hK : KonAt w kb) (hR : Rd w (some ⟨b, off, none⟩) 64 cap m) :
    Calls Tryd.prog 69 #[.agg (stArr s), .slice (some ⟨kb, 0, none⟩) 64 kc, .slice (some ⟨b, off, none⟩) 64 cap] w fun e w' => e = .returned (.agg (stArr (nxt s m))) ∧ Below w.heap.size w w' := by
  have hok := Lib.hid hs
  have hKl := World.block_lt_of_cell? w _ (hK 0 (by omega))
  have HK := Lib.hid hK
  obtain ⟨b', off', hbo, hbl, hcm⟩ := hR.at0 (by omega)
  obtain ⟨rfl, rfl⟩ : b = b' ∧ off = off' := by simpa using hbo
  have HM := Lib.hid hcm
  have HBl := Lib.hid hbl
  have HKl := Lib.hid hKl
  obtain ⟨A, hA⟩ : ∃ A, A = stArr s := ⟨_, rfl⟩
  have hA1 := stArr_one s
  have hAs : (stArr s).size = 8 := rfl
  have hAat : A[0]? = some (.int .u32 (s.a : Int)) ∧ A[1]? = some (.int .u32 (s.b : Int)) ∧ A[2]? = some (.int .u32 (s.c : Int)) ∧ A[3]? = some (.int .u32 (s.d : Int)) ∧
    A[4]? = some (.int .u32 (s.e : Int)) ∧ A[5]? = some (.int .u32 (s.f : Int)) ∧ A[6]? = some (.int .u32 (s.g : Int)) ∧ A[7]? = some (.int .u32 (s.h : Int)) := by subst hA; exact ⟨rfl, rfl, rfl, rfl, rfl, rfl, rfl, rfl⟩
  rw [← hA] at hA1 hAs ⊢
  have HA := Lib.hid hAat
  obtain ⟨Z, hZ⟩ : ∃ Z : Array Value, Z = Array.replicate 8 (.int .u32 0) := ⟨_, rfl⟩
  have hz := zero_state
  rw [← hZ] at hz
  have HZs := Lib.hid (show Z.size = 8 by rw [hZ]; simp)
  obtain ⟨Y, hY⟩ : ∃ Y : Array Value, Y = Array.replicate 64 (.int .u32 0) := ⟨_, rfl⟩
  have hy := zero_words
  have hbd := build_words
  rw [← hY] at hy hbd
  have HYs := Lib.hid (show Y.size = 64 by rw [hY]; simp)
  have hYo : Y.all (·.oneCell') = true := by rw [hY]; exact Array.all_eq_true_iff_forall_mem.2 (fun v hv => by simp at hv; subst hv; rfl)
  have hi47 : (Tryd.prog.info? 96).map (·.size) = some Y.size := by rw [HYs.out]; kernel_rfl
  clear hs hKl hK hAat hAs hA hZ hY hbo hR hcm hbl
  obtain ⟨hA0, hZ0, hY0⟩ := alloc3 w (.cells A 87) (.cells Z 87) (.cells Y 96)
  have hBel : Below w.heap.size w (((w.alloc (.cells A 87)).alloc (.cells Z 87)).alloc (.cells Y 96)) :=
    (((Below.refl _ _).alloc (Nat.le_refl _) _).alloc (by simp) _).alloc (by simp; omega) _
  have H1 := Lib.hid hA0
  have H3 := Lib.hid hZ0
  have HB := Lib.hid hBel
  clear hA0 hZ0 hBel
  go_enter Tryd.func69, Tryd.ntmps69
  go_wp2_with (with_reducible refine wpList_store_row (o := ⟨none, _, _, _, _, _⟩) rfl 96 (.tmp 7) (.tmp 23) rfl (w.heap.size + 1 + 1) Y rfl rfl 96 Y hY0 hi47 rfl hYo ?_)
  obtain ⟨q, hq⟩ : ∃ q, q = w.heap.size := ⟨_, rfl⟩
  obtain ⟨w0, hw0⟩ : ∃ w0, w0 = ((w.alloc (.cells A 87)).alloc (.cells Z 87)).alloc (.cells Y 96) := ⟨_, rfl⟩
  have hrow := setRow_heap w0 (q + 1 + 1) Y Y 96 (0, 0) (by rw [hw0, hq]; exact hY0)
  have A1 := H1.out
  have A3 := H3.out
  have AB := HB.out
  rw [← hw0] at A1 A3 AB
  rw [← hq] at A1 A3 ⊢
  rw [← hw0]
  have hsz0 : w0.heap.size = q + 3 := by rw [hw0, hq]; simp
  have hb1 : Below (q + 1 + 1) w0 (w0.setRow (q + 1 + 1) Y) := below_setRow (Below.refl _ _) (Nat.le_refl _) _
  obtain ⟨w1, hw1⟩ : ∃ w1, w1 = w0.setRow (q + 1 + 1) Y := ⟨_, rfl⟩
  rw [← hw1] at hrow hb1 ⊢
  have hA1' : w1.heap[q]? = some (.cells A 87 (0, 0)) := (hb1.block q (by omega)).trans A1
  have hZ1 : w1.heap[q + 1]? = some (.cells Z 87 (0, 0)) := (hb1.block _ (by omega)).trans A3
  have hB1 : Below w.heap.size w w1 := AB.trans (hb1.mono (by omega))
  have hW1 : WTab w1 (q + 1 + 1) 0 m := ⟨Y, hrow, HYs.out, fun j hj => by omega⟩
  have HQ := Lib.hid hq
  clear hw0 hw1 hb1 hq A1 A3 AB hsz0 hrow H1 H3 HB hY0 hz hy hbd hYo hi47 hA1
  go_loopw [8] (fun i wr => ∃ k : Nat, k ≤ 16 ∧ i = .int .i64 k ∧ WTab wr (q + 1 + 1) k m ∧ wr.heap[q]? = some (.cells A 87 (0, 0)) ∧ wr.heap[q + 1]? = some (.cells Z 87 (0, 0)) ∧ Below w.heap.size w wr) (fun i _ => 16 - (intOf i).toNat)
  case atStart => exact ⟨0, by omega, rfl, hW1, hA1', hZ1, hB1⟩
  case round =>
    clear hW1 hA1' hZ1 hB1
    obtain ⟨k, hk, rfl, hrow, hb0, hp0, hB0⟩ := hrel
    by_cases hlt : k < 16
    · have hcB : ∀ j, j < 64 → wr.cell? ⟨b, off + j, none⟩ = some (.int .u8 (byt m j : Int)) := fun j hj => by
        rw [hB0.cell (by show b < _; exact HBl.out)]; exact HM.out j hj
      have c0 := hcB (4 * k) (by omega)
      have c1 := hcB (4 * k + 1) (by omega)
      have c2 := hcB (4 * k + 2) (by omega)
      have c3 := hcB (4 * k + 3) (by omega)
      have l0 := byt_lt m (4 * k)
      have l1 := byt_lt m (4 * k + 1)
      have l2 := byt_lt m (4 * k + 2)
      have l3 := byt_lt m (4 * k + 3)
      have e := be4_bits _ _ _ _ l0 l1 l2 l3
      rw [← wv_low m k hlt] at e
      have hst := WTab.step hrow (show k < 64 by omega)
      obtain ⟨C, hC, hsz, hcs⟩ := hrow.row
      have hfree : wr.frozen? ⟨q + 1 + 1, k, none⟩ = false := frozen_of_row wr _ k C 96 hC
      obtain ⟨u, hu⟩ : ∃ u, C[k]? = some u := ⟨_, Array.getElem?_eq_getElem (by omega)⟩
      have hck : wr.cell? ⟨q + 1 + 1, k, none⟩ = some u := (cell_of_row wr _ k C 96 (0, 0) hC).trans hu
      generalize byt m (4 * k) = x0 at c0 l0 e
      generalize byt m (4 * k + 1) = x1 at c1 l1 e
      generalize byt m (4 * k + 2) = x2 at c2 l2 e
      generalize byt m (4 * k + 3) = x3 at c3 l3 e
      generalize wv m k = y at e hst
      have HS := Lib.hid hst
      have H0 := Lib.hid hb0
      have H1 := Lib.hid hp0
      have H2 := Lib.hid hB0
      clear hst hb0 hp0 hB0 hC hcs hu hrow hcB
      go_wp2
      go_region
      all_goals go_wp2
      go_roundw
      case rel => exact ⟨k + 1, by omega, by go_num, HS.out.drew, other_set H0.out (by omega), other_set H1.out (by omega), (H2.out.setCell (by have := HQ.out; show w.heap.size ≤ q + 1 + 1; omega) _).drew⟩
      case measure => simp [intOf]; omega
    · have hk16 : k = 16 := by omega
      rw [hk16] at hrow
      go_wp2
      clear hk hk16 hlt
      go_loopw [9] (fun i wr => ∃ k : Nat, 16 ≤ k ∧ k ≤ 64 ∧ i = .int .i64 k ∧ WTab wr (q + 1 + 1) k m ∧ wr.heap[q]? = some (.cells A 87 (0, 0)) ∧ wr.heap[q + 1]? = some (.cells Z 87 (0, 0)) ∧ Below w.heap.size w wr) (fun i _ => 64 - (intOf i).toNat)
      case atStart => exact ⟨16, by omega, by omega, rfl, hrow, hb0, hp0, hB0⟩
      case round =>
        clear hrow hb0 hp0 hB0
        obtain ⟨k, hk, hk2, rfl, hrow, hb0, hp0, hB0⟩ := hrel
        by_cases hlt2 : k < 64
        · have hst := WTab.step hrow hlt2
          obtain ⟨C, hC, hsz, hcs⟩ := hrow.row
          have hcell : ∀ j, j < k → wr.cell? ⟨q + 1 + 1, j, none⟩ = some (.int .u32 (wv m j : Int)) := fun j hj => (cell_of_row wr _ j C 96 (0, 0) hC).trans (hcs j hj)
          have e := wv_high m k (by omega)
          obtain ⟨k16, hk16⟩ : ∃ j, j = k - 16 := ⟨_, rfl⟩
          have g16 : IntKind.i64.wrap ((k : Int) - 16) = (k16 : Int) := by rw [IntWalk.i64_in _ (by omega)]; omega
          have a16 : (0 : Int) ≤ (k16 : Int) := by omega
          have b16 : (k16 : Int) < 64 := by omega
          have n16 : k16 < k := by omega
          rw [← hk16] at e
          have c0 := hcell k16 (by omega)
          obtain ⟨k15, hk15⟩ : ∃ j, j = k - 15 := ⟨_, rfl⟩
          have g15 : IntKind.i64.wrap ((k : Int) - 15) = (k15 : Int) := by rw [IntWalk.i64_in _ (by omega)]; omega
          have a15 : (0 : Int) ≤ (k15 : Int) := by omega
          have b15 : (k15 : Int) < 64 := by omega
          have n15 : k15 < k := by omega
          rw [← hk15] at e
          have c1 := hcell k15 (by omega)
          obtain ⟨k7, hk7⟩ : ∃ j, j = k - 7 := ⟨_, rfl⟩
          have g7 : IntKind.i64.wrap ((k : Int) - 7) = (k7 : Int) := by rw [IntWalk.i64_in _ (by omega)]; omega
          have a7 : (0 : Int) ≤ (k7 : Int) := by omega
          have b7 : (k7 : Int) < 64 := by omega
          have n7 : k7 < k := by omega
          rw [← hk7] at e
          have c9 := hcell k7 (by omega)
          obtain ⟨k2, hk2⟩ : ∃ j, j = k - 2 := ⟨_, rfl⟩
          have g2 : IntKind.i64.wrap ((k : Int) - 2) = (k2 : Int) := by rw [IntWalk.i64_in _ (by omega)]; omega
          have a2 : (0 : Int) ≤ (k2 : Int) := by omega
          have b2 : (k2 : Int) < 64 := by omega
          have n2 : k2 < k := by omega
          rw [← hk2] at e
          have c14 := hcell k2 (by omega)
          have hfree : wr.frozen? ⟨q + 1 + 1, k, none⟩ = false := frozen_of_row wr _ k C 96 hC
          obtain ⟨u, hu⟩ : ∃ u, C[k]? = some u := ⟨_, Array.getElem?_eq_getElem (by omega)⟩
          have hck : wr.cell? ⟨q + 1 + 1, k, none⟩ = some u := (cell_of_row wr _ k C 96 (0, 0) hC).trans hu
          have l0 := wv_lt m k16
          have l1 := wv_lt m k15
          have l9 := wv_lt m k7
          have l14 := wv_lt m k2
          generalize wv m k16 = x0 at c0 l0 e
          generalize wv m k15 = x1 at c1 l1 e
          generalize wv m k7 = x9 at c9 l9 e
          generalize wv m k2 = x14 at c14 l14 e
          generalize wv m k = y at e hst
          have HM1 := Lib.hid (fun w => rturn_lit x1 7 7 w rfl l1 (by omega) (by omega))
          have HM2 := Lib.hid (fun w => rturn_lit x1 18 18 w rfl l1 (by omega) (by omega))
          have HM3 := Lib.hid (fun w => rturn_lit x14 17 17 w rfl l14 (by omega) (by omega))
          have HM4 := Lib.hid (fun w => rturn_lit x14 19 19 w rfl l14 (by omega) (by omega))
          have es0 := sml0_bits x1 l1
          have es1 := sml1_bits x14 l14
          generalize rotr x1 7 = r7 at HM1 es0
          generalize rotr x1 18 = r18 at HM2 es0
          generalize rotr x14 17 = r17 at HM3 es1
          generalize rotr x14 19 = r19 at HM4 es1
          generalize sml0 x1 = s0 at e es0
          generalize sml1 x14 = s1 at e es1
          have hv : IntKind.u32.wrap (IntKind.u32.wrap (IntKind.u32.wrap ((x0 : Int) + (s0 : Int)) + (x9 : Int)) + (s1 : Int)) = (y : Int) := by
            rw [IntKind.wrap_u32, IntKind.wrap_u32, IntKind.wrap_u32, e]; omega
          have HV := Lib.hid hv
          have HS := Lib.hid hst
          have H0 := Lib.hid hb0
          have H1 := Lib.hid hp0
          have H2 := Lib.hid hB0
          have a0 : (0 : Int) ≤ (k : Int) := by omega
          have b0 : (k : Int) < 64 := by omega
          have hkeep : ∀ (r : Nat) (v : Value), ((wr.drewN r).setCell ⟨q + 1 + 1, k, none⟩ v).cell? ⟨q + 1 + 1, k16, none⟩ = some (.int .u32 (x0 : Int)) ∧ ((wr.drewN r).setCell ⟨q + 1 + 1, k, none⟩ v).cell? ⟨q + 1 + 1, k7, none⟩ = some (.int .u32 (x9 : Int)) := fun r v =>
            ⟨(World.cell?_setCell_other _ _ _ _ (by simp)).trans c0, (World.cell?_setCell_other _ _ _ _ (by simp)).trans c9⟩
          have HK2 := Lib.hid hkeep
          clear hst hb0 hp0 hB0 hC hcs hu hrow hcell e hv l1 l14 hsz hkeep hk16 hk15 hk7 hk2
          go_wp2_with fail
          go_region_held3 (fun w' => w'.cell? ⟨q + 1 + 1, k16, none⟩ = some (.int .u32 (x0 : Int)) ∧ w'.cell? ⟨q + 1 + 1, k7, none⟩ = some (.int .u32 (x9 : Int))) (first | exact ⟨c0, c9⟩ | exact HK2.out 1 _ | exact HK2.out _ _)
            (first
            | (go_at_call 76; with_reducible refine (HM1.out _).mono ?_; rintro r w' ⟨rfl, rfl⟩)
            | (go_at_call 76; with_reducible refine (HM2.out _).mono ?_; rintro r w' ⟨rfl, rfl⟩)
            | (go_at_call 76; with_reducible refine (HM3.out _).mono ?_; rintro r w' ⟨rfl, rfl⟩)
            | (go_at_call 76; with_reducible refine (HM4.out _).mono ?_; rintro r w' ⟨rfl, rfl⟩))
          rename_i hHeld
          clear hHeld
          rw [HV.out]
          go_wp2
          go_roundw
          case rel => exact ⟨k + 1, by omega, by omega, by go_num, ⟨HS.out.row⟩, other_set H0.out (by omega), other_set H1.out (by omega), (H2.out.setCell (by have := HQ.out; show w.heap.size ≤ q + 1 + 1; omega) _).drew⟩
          case measure => simp [intOf]; omega
        · have hk64 : k = 64 := by omega
          rw [hk64] at hrow
          obtain ⟨C, hC, hsz, hcs⟩ := hrow.row
          have hwc : ∀ j, j < 64 → wr.cell? ⟨q + 1 + 1, j, none⟩ = some (.int .u32 (wv m j : Int)) := fun j hj => (cell_of_row wr _ j C 96 (0, 0) hC).trans (hcs j hj)
          have hkc : ∀ j, j < 64 → wr.cell? ⟨kb, j, none⟩ = some (.int .u32 (konAt j : Int)) := fun j hj => by
            rw [hB0.cell (by show kb < _; exact HKl.out)]; exact HK.out j hj
          obtain ⟨a0, a1, a2, a3, a4, a5, a6, a7⟩ := HA.out
          have c0 : wr.cell? ⟨q, 0, none⟩ = _ := (cell_of_row wr q 0 A 87 (0, 0) hb0).trans a0
          have c1 : wr.cell? ⟨q, 1, none⟩ = _ := (cell_of_row wr q 1 A 87 (0, 0) hb0).trans a1
          have c2 : wr.cell? ⟨q, 2, none⟩ = _ := (cell_of_row wr q 2 A 87 (0, 0) hb0).trans a2
          have c3 : wr.cell? ⟨q, 3, none⟩ = _ := (cell_of_row wr q 3 A 87 (0, 0) hb0).trans a3
          have c4 : wr.cell? ⟨q, 4, none⟩ = _ := (cell_of_row wr q 4 A 87 (0, 0) hb0).trans a4
          have c5 : wr.cell? ⟨q, 5, none⟩ = _ := (cell_of_row wr q 5 A 87 (0, 0) hb0).trans a5
          have c6 : wr.cell? ⟨q, 6, none⟩ = _ := (cell_of_row wr q 6 A 87 (0, 0) hb0).trans a6
          have c7 : wr.cell? ⟨q, 7, none⟩ = _ := (cell_of_row wr q 7 A 87 (0, 0) hb0).trans a7
          have HC := Lib.hid (And.intro c0 (And.intro c1 (And.intro c2 (And.intro c3 (And.intro c4 (And.intro c5 (And.intro c6 c7)))))))
          have HWc := Lib.hid hwc
          have HKc := Lib.hid hkc
          have HZ5 := Lib.hid hp0
          have HB5 := Lib.hid hB0
          obtain ⟨S, hS⟩ : ∃ S, S = rds kon (wds m 64) s := ⟨_, rfl⟩
          have hS0 : S 0 = s := by rw [hS]; rfl
          have hSs : ∀ k, k < 64 → S (k + 1) = rnd (S k) (konAt k) (wv m k) := fun k hk => by
            rw [hS]; show rnd (rds kon (wds m 64) s k) (kon.getD k 0) ((wds m 64).getD k 0) = _
            rw [wds_at m 64 k hk]; rfl
          have hSk : ∀ k, (S k).ok := fun k => by rw [hS]; exact rds_ok _ _ s hok.out k
          have hSn : nxt s m = addSt s (S 64) := by rw [hS]; rfl
          have HS0 := Lib.hid hS0
          have HSs := Lib.hid hSs
          have HSk := Lib.hid hSk
          have HSn := Lib.hid hSn
          clear hS hS0 hSs hSk hSn hwc hkc hp0 hB0 hb0 hC hcs hsz hrow a0 a1 a2 a3 a4 a5 a6 a7
          go_wp2
          clear c0 c1 c2 c3 c4 c5 c6 c7 hk hk2 hk64 hlt2
          obtain ⟨w5, hw5⟩ : ∃ w5, w5 = wr := ⟨_, rfl⟩
          rw [← hw5]
          have HW5 := Lib.hid hw5
          clear hw5
          go_loopw [20, 12, 13, 14, 15, 16, 17, 18, 19] (fun i a b c d e f g' h' wr => ∃ k : Nat, k ≤ 64 ∧ i = .int .i64 k ∧ a = .int .u32 ((S k).a : Int) ∧ b = .int .u32 ((S k).b : Int) ∧ c = .int .u32 ((S k).c : Int) ∧ d = .int .u32 ((S k).d : Int) ∧
            e = .int .u32 ((S k).e : Int) ∧ f = .int .u32 ((S k).f : Int) ∧ g' = .int .u32 ((S k).g : Int) ∧ h' = .int .u32 ((S k).h : Int) ∧ ∃ r, wr = w5.drewN r) (fun i _ _ _ _ _ _ _ _ _ => 64 - (intOf i).toNat)
          case atStart => exact ⟨0, by omega, rfl, by rw [HS0.out], by rw [HS0.out], by rw [HS0.out], by rw [HS0.out], by rw [HS0.out], by rw [HS0.out], by rw [HS0.out], by rw [HS0.out], 0, rfl⟩
          case round =>
            obtain ⟨k, hk, rfl, rfl, rfl, rfl, rfl, rfl, rfl, rfl, rfl, r, hr⟩ := hrel
            by_cases hlt : k < 64
            · have hkc : wr.cell? ⟨kb, k, none⟩ = some (.int .u32 (konAt k : Int)) := by rw [hr, World.cell?_drewN, HW5.out]; exact HKc.out k hlt
              have hwc : wr.cell? ⟨q + 1 + 1, k, none⟩ = some (.int .u32 (wv m k : Int)) := by rw [hr, World.cell?_drewN, HW5.out]; exact HWc.out k hlt
              have hst := HSs.out k hlt
              have hx := HSk.out k
              have lk := kon_lt ⟨k, hlt⟩
              have lw := wv_lt m k
              simp only at lk
              generalize konAt k = kk at hkc hst lk
              generalize wv m k = ww at hwc hst lw
              generalize S k = t at hst hx ⊢
              obtain ⟨a, b, c, d, e, f, g', h'⟩ := t
              obtain ⟨x1, x2, x3, x4, x5, x6, x7, x8⟩ := hx
              simp only at x1 x2 x3 x4 x5 x6 x7 x8
              have hch := ch_bits e f g' x5 x6 x7
              have hch2 : bits .xor .u32 (bits .and .u32 (e : Int) (f : Int)) (bits .and .u32 (bits .xor .u32 (if IntKind.u32.signed = true then -1 else IntKind.u32.max) (e : Int)) (g' : Int)) = (chN e f g' : Int) := ch_bits e f g' x5 x6 x7
              have hmj := maj_bits a b c x1 x2 x3
              have lch := ch_lt e f g' x6 x7
              have lmj := maj_lt a b c x2 x3
              have l0 := big0_lt a x1
              have l1 := big1_lt e x5
              have e0 := big0_bits a x1
              have e1 := big1_bits e x5
              have T6 := Lib.hid (fun w => rturn_lit e 6 6 w rfl x5 (by omega) (by omega))
              have T11 := Lib.hid (fun w => rturn_lit e 11 11 w rfl x5 (by omega) (by omega))
              have T25 := Lib.hid (fun w => rturn_lit e 25 25 w rfl x5 (by omega) (by omega))
              have T2 := Lib.hid (fun w => rturn_lit a 2 2 w rfl x1 (by omega) (by omega))
              have T13 := Lib.hid (fun w => rturn_lit a 13 13 w rfl x1 (by omega) (by omega))
              have T22 := Lib.hid (fun w => rturn_lit a 22 22 w rfl x1 (by omega) (by omega))
              unfold rnd at hst
              simp only at hst
              generalize chN e f g' = ch at hch hch2 hst lch
              generalize majN a b c = mj at hmj hst lmj
              generalize big0 a = b0 at e0 hst l0
              generalize big1 e = b1 at e1 hst l1
              generalize rotr e 6 = r6 at T6 e1
              generalize rotr e 11 = r11 at T11 e1
              generalize rotr e 25 = r25 at T25 e1
              generalize rotr a 2 = r2 at T2 e0
              generalize rotr a 13 = r13 at T13 e0
              generalize rotr a 22 = r22 at T22 e0
              have HS := Lib.hid hst
              have HR6 := Lib.hid hr
              have i1 : (0 : Int) ≤ (k : Int) := by omega
              have i2 : (k : Int) < 64 := by omega
              clear hst hr
              go_wp2_with fail
              go_quiet (first
                | (go_at_call 76; with_reducible exact Calls.quiet_of_same (T6.out _))
                | (go_at_call 76; with_reducible exact Calls.quiet_of_same (T11.out _))
                | (go_at_call 76; with_reducible exact Calls.quiet_of_same (T25.out _)))
              go_wp2_with (first
                | (go_at_call 76; with_reducible refine (T2.out _).mono ?_; rintro e' w' ⟨rfl, rfl⟩)
                | (go_at_call 76; with_reducible refine (T13.out _).mono ?_; rintro e' w' ⟨rfl, rfl⟩)
                | (go_at_call 76; with_reducible refine (T22.out _).mono ?_; rintro e' w' ⟨rfl, rfl⟩))
              go_roundw
              case rel => exact ⟨k + 1, by omega, by go_num, by rw [HS.out]; refine congrArg (Value.int .u32) ?_; simp only; omega, by rw [HS.out], by rw [HS.out], by rw [HS.out], by rw [HS.out]; refine congrArg (Value.int .u32) ?_; simp only; omega, by rw [HS.out], by rw [HS.out], by rw [HS.out], _, by rw [HR6.out, World.drewN_drewN]⟩
              case measure => simp [intOf]; omega
            · obtain rfl : k = 64 := by omega
              obtain ⟨c0, c1, c2, c3, c4, c5, c6, c7⟩ := HC.out
              rw [← HW5.out] at c0 c1 c2 c3 c4 c5 c6 c7
              have hcl : ∀ (o : Nat) (v : Value), w5.cell? ⟨q, o, none⟩ = some v → wr.cell? ⟨q, o, none⟩ = some v := fun o v hv => by
                rw [hr, World.cell?_drewN]; exact hv
              have c0 := hcl _ _ c0
              have c1 := hcl _ _ c1
              have c2 := hcl _ _ c2
              have c3 := hcl _ _ c3
              have c4 := hcl _ _ c4
              have c5 := hcl _ _ c5
              have c6 := hcl _ _ c6
              have c7 := hcl _ _ c7
              have hZ6 : wr.heap[q + 1]? = some (.cells Z 87 (0, 0)) := by rw [hr]; show w5.heap[q + 1]? = _; rw [HW5.out]; exact HZ5.out
              have B6 : Below w.heap.size w wr := by rw [hr]; refine below_drewN ?_ _; rw [HW5.out]; exact HB5.out
              have HB6 := Lib.hid B6
              obtain ⟨R, hR⟩ : ∃ R, R = stArr (nxt s m) := ⟨_, rfl⟩
              have hR0 : (#[.int .u32 ((((s.a : Nat) : Int) + (((S 64).a : Nat) : Int)) % 4294967296), .int .u32 ((((s.b : Nat) : Int) + (((S 64).b : Nat) : Int)) % 4294967296), .int .u32 ((((s.c : Nat) : Int) + (((S 64).c : Nat) : Int)) % 4294967296), .int .u32 ((((s.d : Nat) : Int) + (((S 64).d : Nat) : Int)) % 4294967296), .int .u32 ((((s.e : Nat) : Int) + (((S 64).e : Nat) : Int)) % 4294967296), .int .u32 ((((s.f : Nat) : Int) + (((S 64).f : Nat) : Int)) % 4294967296), .int .u32 ((((s.g : Nat) : Int) + (((S 64).g : Nat) : Int)) % 4294967296), .int .u32 ((((s.h : Nat) : Int) + (((S 64).h : Nat) : Int)) % 4294967296)] : Array Value) = R := by
                rw [hR, HSn.out]; simp [stArr, addSt]
              have hR1 : R.all (·.oneCell') = true := by rw [hR]; exact stArr_one _
              have hi36 : (Tryd.prog.info? 87).map (·.size) = some R.size := by rw [hR]; kernel_rfl
              have hZR : Z.size = R.size := by rw [HZs.out, hR]; rfl
              have hrw := setRow_heap wr (q + 1) Z R 87 (0, 0) hZ6
              have HRR := Lib.hid hR
              clear hcl hr B6 hR
              go_wp2_with (with_reducible refine wpList_store_row (o := ⟨none, _, _, _, _, _⟩) rfl 87 (.tmp 6) (.tmp 216) rfl (q + 1) R rfl rfl 87 Z hZ6 hi36 hZR hR1 ?_)
              have hB7 : Below w.heap.size w (wr.setRow (q + 1) R) := below_setRow HB6.out (by have := HQ.out; omega) _
              refine bodyPost_ret (v := .agg R) (results_cell_row (p := 6) (ty := 87) rfl _ _ (q + 1) 87 R (0, 0) _ rfl hrw Tryd.underlying87 rfl hi36) rfl ⟨by rw [HRR.out], hB7⟩
end Go.Proofs.YtlockgfokfhokaaDoor


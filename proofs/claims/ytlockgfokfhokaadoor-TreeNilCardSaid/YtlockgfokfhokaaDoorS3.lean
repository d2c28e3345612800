/-
  Contracts: one round's numbers; the program's next.
-/
import Derived.Test.YtlockgfokfhokaaDoorS2
namespace Go.Proofs.YtlockgfokfhokaaDoor
open Go.RowKit
set_option linter.unusedVariables false

/-- The program's table of constants lies as it was laid. -/
def Kon (w : World) : Prop := ∀ j, j < 64 → w.cell? ⟨0, j, none⟩ = some (.int .u32 (konAt j : Int))

def stArr (s : St) : Array Value := #[.int .u32 (s.a : Int), .int .u32 (s.b : Int), .int .u32 (s.c : Int), .int .u32 (s.d : Int), .int .u32 (s.e : Int), .int .u32 (s.f : Int), .int .u32 (s.g : Int), .int .u32 (s.h : Int)]

theorem not32 (n : Nat) (h : n < 4294967296) : bits .xor .u32 IntKind.u32.max (n : Int) = ((4294967295 - n : Nat) : Int) := by
  have h0 : 4294967295 ^^^ n = 4294967295 - n := by
    have h1 : (BitVec.allOnes 32 ^^^ BitVec.ofNat 32 n).toNat = 4294967295 ^^^ n := by
      rw [BitVec.toNat_xor, BitVec.toNat_allOnes, BitVec.toNat_ofNat, Nat.mod_eq_of_lt (by omega)]
    rw [← h1, BitVec.allOnes_xor, BitVec.toNat_not, BitVec.toNat_ofNat, Nat.mod_eq_of_lt (by omega)]
  have := u32_xor_nat 4294967295 n (by omega) h
  rw [h0] at this
  exact this

theorem ch_bits (e f g : Nat) (he : e < 4294967296) (hf : f < 4294967296) (hg : g < 4294967296) :
    bits .xor .u32 (bits .and .u32 (e : Int) (f : Int)) (bits .and .u32 (bits .xor .u32 IntKind.u32.max (e : Int)) (g : Int)) = (chN e f g : Int) := by
  rw [not32 e he, u32_and_nat e f he hf, u32_and_nat _ g (by omega) hg, u32_xor_nat _ _ (and_lt _ _ hf) (and_lt _ _ hg)]
  rfl

theorem maj_bits (a b c : Nat) (ha : a < 4294967296) (hb : b < 4294967296) (hc : c < 4294967296) :
    bits .xor .u32 (bits .xor .u32 (bits .and .u32 (a : Int) (b : Int)) (bits .and .u32 (a : Int) (c : Int))) (bits .and .u32 (b : Int) (c : Int)) = (majN a b c : Int) := by
  rw [u32_and_nat a b ha hb, u32_and_nat a c ha hc, u32_and_nat b c hb hc, u32_xor_nat _ _ (and_lt _ _ hb) (and_lt _ _ hc), u32_xor_nat _ _ (xor_lt _ _ (and_lt _ _ hb) (and_lt _ _ hc)) (and_lt _ _ hc)]
  rfl

theorem big0_lt (n : Nat) (h : n < 4294967296) : big0 n < 4294967296 := xor_lt _ _ (xor_lt _ _ (rotr_lt _ _ h) (rotr_lt _ _ h)) (rotr_lt _ _ h)
theorem big1_lt (n : Nat) (h : n < 4294967296) : big1 n < 4294967296 := xor_lt _ _ (xor_lt _ _ (rotr_lt _ _ h) (rotr_lt _ _ h)) (rotr_lt _ _ h)
theorem ch_lt (e f g : Nat) (hf : f < 4294967296) (hg : g < 4294967296) : chN e f g < 4294967296 := xor_lt _ _ (and_lt _ _ hf) (and_lt _ _ hg)
theorem maj_lt (a b c : Nat) (hb : b < 4294967296) (hc : c < 4294967296) : majN a b c < 4294967296 := xor_lt _ _ (xor_lt _ _ (and_lt _ _ hb) (and_lt _ _ hc)) (and_lt _ _ hc)

theorem rnd_ok (s : St) (k w : Nat) (h : s.ok) : (rnd s k w).ok := by
  obtain ⟨h1, h2, h3, h4, h5, h6, h7, h8⟩ := h
  exact ⟨Nat.mod_lt _ (by omega), h1, h2, h3, Nat.mod_lt _ (by omega), h5, h6, h7⟩

theorem rds_ok (ks ws : List Nat) (s : St) (h : s.ok) : ∀ k, (rds ks ws s k).ok
  | 0 => h
  | k + 1 => rnd_ok _ _ _ (rds_ok ks ws s h k)

theorem addSt_ok (s t : St) : (addSt s t).ok :=
  ⟨Nat.mod_lt _ (by omega), Nat.mod_lt _ (by omega), Nat.mod_lt _ (by omega), Nat.mod_lt _ (by omega), Nat.mod_lt _ (by omega), Nat.mod_lt _ (by omega), Nat.mod_lt _ (by omega), Nat.mod_lt _ (by omega)⟩

theorem nxt_ok (s : St) (m : List UInt8) : (nxt s m).ok := addSt_ok _ _

theorem kon_lt : ∀ i : Fin 64, konAt i.val < 4294967296 := by decide +kernel

theorem turned_e (n : Nat) (w : World) (hn : n < 4294967296) :
    Calls Tryd.prog 82 #[.int .u32 n, .int .i64 6, .int .i64 11, .int .i64 25] w fun e w' => e = .returned (.int .u32 (big1 n : Int)) ∧ w' = w :=
  (turned_any n 6 11 25 w hn (by omega) (by omega) (by omega) (by omega) (by omega) (by omega)).mono fun e w' ⟨h1, h2⟩ => ⟨h1, h2.symm⟩

theorem turned_a (n : Nat) (w : World) (hn : n < 4294967296) :
    Calls Tryd.prog 82 #[.int .u32 n, .int .i64 2, .int .i64 13, .int .i64 22] w fun e w' => e = .returned (.int .u32 (big0 n : Int)) ∧ w' = w :=
  (turned_any n 2 13 22 w hn (by omega) (by omega) (by omega) (by omega) (by omega) (by omega)).mono fun e w' ⟨h1, h2⟩ => ⟨h1, h2.symm⟩

theorem zero_state (w : World) : (zeroValue 87).run Tryd.prog w = .ok (.agg (Array.replicate 8 (.int .u32 0))) w := by kernel_rfl

theorem stArr_one (s : St) : (stArr s).all (·.oneCell') = true := by simp [stArr, Value.oneCell']

/-- 'a[i]' of an array of one-celled values. -/
theorem index_row {P : Program} (t e : TypeId) (n : Nat) (T : Array Value) (i : Nat) (v : Value) (w : World) (hu : P.underlying t = some (.array n e)) (hs : ∀ w, (sizeOf e).run P w = .ok 1 w) (ha : ∀ w, (isAgg e).run P w = .ok false w) (hi : i < n) (hT : T[i]? = some v) :
    (Instr.index t (.agg T) (.int .i64 (i : Int))).run P w = .ok v w := by
  have h1 : (0 : Int) ≤ (i : Int) ∧ (i : Int) < (n : Int) := by omega
  simp [Instr.index, run_underlying hu, asIntOf, hi, hs, ha, hT, go_sem]

set_option maxRecDepth 20000 in
set_option maxHeartbeats 1000000 in
theorem next_any (s : St) (m : List UInt8) (w : World) (hs : s.ok) (hK : Kon w) :
    Calls Tryd.prog 79 #[.agg (stArr s), .agg (bArr m)] w fun e w' => e = .returned (.agg (stArr (nxt s m))) ∧ Below w.heap.size w w' := by
  have hok := Lib.hid hs
  have HX := Lib.hid (expand_any m)
  have hKl := fun j (hj : j < 64) => World.block_lt_of_cell? w _ (hK j hj)
  have HKl := Lib.hid hKl
  have HK := Lib.hid hK
  have hBs := Lib.hid (bArr_size m)
  have hB1 := bArr_one m
  have hi41 : (Tryd.prog.info? 98).map (·.size) = some (bArr m).size := by rw [bArr_size]; kernel_rfl
  generalize bArr m = B at hBs hB1 HX hi41 ⊢
  obtain ⟨A, hA⟩ : ∃ A, A = stArr s := ⟨_, rfl⟩
  have hA1 := stArr_one s
  have hAs : (stArr s).size = 8 := rfl
  have hAat : A[0]? = some (.int .u32 (s.a : Int)) ∧ A[1]? = some (.int .u32 (s.b : Int)) ∧ A[2]? = some (.int .u32 (s.c : Int)) ∧ A[3]? = some (.int .u32 (s.d : Int)) ∧
    A[4]? = some (.int .u32 (s.e : Int)) ∧ A[5]? = some (.int .u32 (s.f : Int)) ∧ A[6]? = some (.int .u32 (s.g : Int)) ∧ A[7]? = some (.int .u32 (s.h : Int)) := by subst hA; exact ⟨rfl, rfl, rfl, rfl, rfl, rfl, rfl, rfl⟩
  rw [← hA] at hA1 hAs ⊢
  have HA := Lib.hid hAat
  have HAs := Lib.hid hAs
  obtain ⟨Z, hZ⟩ : ∃ Z : Array Value, Z = Array.replicate 8 (.int .u32 0) := ⟨_, rfl⟩
  have hz := zero_state
  rw [← hZ] at hz
  have HZs := Lib.hid (show Z.size = 8 by rw [hZ]; simp)
  obtain ⟨Y, hY⟩ : ∃ Y : Array Value, Y = Array.replicate 64 (.int .u32 0) := ⟨_, rfl⟩
  have hy := zero_words
  rw [← hY] at hy
  have HYs := Lib.hid (show Y.size = 64 by rw [hY]; simp)
  clear hs hKl hK hAat hAs hA hZ hY
  obtain ⟨hA0, hB0, hZ0⟩ := alloc3 w (.cells A 87) (.cells B 98) (.cells Z 87)
  have hBel : Below w.heap.size w (((w.alloc (.cells A 87)).alloc (.cells B 98)).alloc (.cells Z 87)) :=
    (((Below.refl _ _).alloc (Nat.le_refl _) _).alloc (by simp) _).alloc (by simp; omega) _
  have H1 := Lib.hid hA0
  have H3 := Lib.hid hZ0
  have HB := Lib.hid hBel
  clear hA0 hZ0 hBel
  go_enter Tryd.func79, Tryd.ntmps79
  go_wp2_with (with_reducible refine wpList_load_row (o := ⟨some 20, _, _, _, _, _⟩) rfl 98 (.tmp 3) rfl (w.heap.size + 1) rfl 98 B (0, 0) _ hB0 Tryd.underlying98 rfl hi41 ?_)
  refine (HX.out _).mono ?_
  rintro e w2 ⟨rfl, hb2⟩
  obtain ⟨w1, hw1⟩ : ∃ w1, w1 = ((w.alloc (.cells A 87)).alloc (.cells B 98)).alloc (.cells Z 87) := ⟨_, rfl⟩
  obtain ⟨q, hq⟩ : ∃ q, q = w.heap.size := ⟨_, rfl⟩
  have hsz1 : w1.heap.size = q + 3 := by rw [hw1, hq]; simp
  have A1 := H1.out
  have A3 := H3.out
  have AB := HB.out
  rw [← hw1] at A1 A3 AB hb2
  rw [← hq] at A1 A3 ⊢
  have HQ := Lib.hid hq
  clear hw1 hB0 H1 H3 HB hz hq
  obtain ⟨T, hT⟩ : ∃ T, T = wArr m := ⟨_, rfl⟩
  have hTs := wArr_size m
  have hTat := wArr_at m
  have hT1 := wArr_one m
  rw [← hT] at hTs hTat hT1 ⊢
  have hi47 : (Tryd.prog.info? 96).map (·.size) = some T.size := by rw [hTs]; kernel_rfl
  have hYT : Y.size = T.size := by rw [HYs.out, hTs]
  have hnew := heap_alloc_new w2 (.cells Y 96)
  clear hT
  go_wp2_with (with_reducible refine wpList_store_row (o := ⟨none, _, _, _, _, _⟩) rfl 96 (.tmp 5) (.tmp 21) rfl w2.heap.size T rfl rfl 96 Y hnew hi47 hYT hT1 ?_)
  have hb3 : Below w1.heap.size w1 ((w2.alloc (.cells Y 96)).setRow w2.heap.size T) := below_setRow (hb2.alloc hb2.size _) hb2.size _
  have hrow := setRow_heap (w2.alloc (.cells Y 96)) w2.heap.size Y T 96 (0, 0) hnew
  obtain ⟨g, hg⟩ : ∃ g, g = w2.heap.size := ⟨_, rfl⟩
  rw [← hg] at hb3 hrow ⊢
  obtain ⟨w3, hw3⟩ : ∃ w3, w3 = (w2.alloc (.cells Y 96)).setRow g T := ⟨_, rfl⟩
  rw [← hw3] at hb3 hrow ⊢
  have hA3 : w3.heap[q]? = some (.cells A 87 (0, 0)) := (hb3.block q (by omega)).trans A1
  have hZ3 : w3.heap[q + 1 + 1]? = some (.cells Z 87 (0, 0)) := (hb3.block _ (by omega)).trans A3
  have hk3 : ∀ j, j < 64 → w3.cell? ⟨0, j, none⟩ = some (.int .u32 (konAt j : Int)) := fun j hj => by
    have hlt := HKl.out j hj
    rw [hb3.cell (by show 0 < _; omega), AB.cell (by show 0 < _; have := HQ.out; omega)]
    exact HK.out j hj
  have hB3 : Below w.heap.size w w3 := AB.trans (hb3.mono (by have := HQ.out; omega))
  obtain ⟨a0, a1, a2, a3, a4, a5, a6, a7⟩ := HA.out
  have c0 : w3.cell? ⟨q, 0, none⟩ = _ := (cell_of_row w3 q 0 A 87 (0, 0) hA3).trans a0
  have c1 : w3.cell? ⟨q, 1, none⟩ = _ := (cell_of_row w3 q 1 A 87 (0, 0) hA3).trans a1
  have c2 : w3.cell? ⟨q, 2, none⟩ = _ := (cell_of_row w3 q 2 A 87 (0, 0) hA3).trans a2
  have c3 : w3.cell? ⟨q, 3, none⟩ = _ := (cell_of_row w3 q 3 A 87 (0, 0) hA3).trans a3
  have c4 : w3.cell? ⟨q, 4, none⟩ = _ := (cell_of_row w3 q 4 A 87 (0, 0) hA3).trans a4
  have c5 : w3.cell? ⟨q, 5, none⟩ = _ := (cell_of_row w3 q 5 A 87 (0, 0) hA3).trans a5
  have c6 : w3.cell? ⟨q, 6, none⟩ = _ := (cell_of_row w3 q 6 A 87 (0, 0) hA3).trans a6
  have c7 : w3.cell? ⟨q, 7, none⟩ = _ := (cell_of_row w3 q 7 A 87 (0, 0) hA3).trans a7
  have HC := Lib.hid (And.intro c0 (And.intro c1 (And.intro c2 (And.intro c3 (And.intro c4 (And.intro c5 (And.intro c6 c7)))))))
  have HR := Lib.hid hrow
  have HZ3 := Lib.hid hZ3
  have HK3 := Lib.hid hk3
  have HB3 := Lib.hid hB3
  clear hw3 hg hb2 hb3 hA3 A1 A3 AB hy hYT hT1 hnew hrow hZ3 hk3 hB3 a0 a1 a2 a3 a4 a5 a6 a7 HK HKl hsz1 hA1
  go_wp2_with fail
  go_quiet (fail)
  clear c0 c1 c2 c3
  generalize hw4 : w3.drewN nq = w4
  have c4 : w4.cell? ⟨q, 4, none⟩ = some (.int .u32 (s.e : Int)) := by rw [← hw4]; exact c4
  have c5 : w4.cell? ⟨q, 5, none⟩ = some (.int .u32 (s.f : Int)) := by rw [← hw4]; exact c5
  have c6 : w4.cell? ⟨q, 6, none⟩ = some (.int .u32 (s.g : Int)) := by rw [← hw4]; exact c6
  have c7 : w4.cell? ⟨q, 7, none⟩ = some (.int .u32 (s.h : Int)) := by rw [← hw4]; exact c7
  have H4 := Lib.hid hw4
  clear hw4
  go_wp2_with fail
  go_quiet (fail)
  clear c4 c5 c6 c7
  generalize hw5 : w4.drewN nq = w5
  have e5 : w5.heap = w3.heap := by rw [← hw5, ← H4.out]; rfl
  have r5 : w5.heap[g]? = some (.cells T 96 (0, 0)) := by rw [e5]; exact HR.out
  have B5 : Below w.heap.size w w5 := by rw [← hw5, ← H4.out]; exact below_drewN (below_drewN HB3.out _) _
  have HB5 := Lib.hid B5
  have HE5 := Lib.hid e5
  have HT := Lib.hid hTat
  have HTs := Lib.hid hTs
  clear hw5 H4 e5 B5 hTat hTs
  go_wp2_with (with_reducible refine wpList_load_row (o := ⟨some 38, _, _, _, _, _⟩) rfl 96 (.tmp 5) rfl g rfl 96 T (0, 0) _ r5 Tryd.underlying96 rfl hi47 ?_)
  clear r5
  obtain ⟨S, hS⟩ : ∃ S, S = rds kon (wds m 64) s := ⟨_, rfl⟩
  have hS0 : S 0 = s := by rw [hS]; rfl
  have hSs : ∀ k, k < 64 → S (k + 1) = rnd (S k) (konAt k) (wv m k) := fun k hk => by
    rw [hS]; show rnd (rds kon (wds m 64) s k) (kon.getD k 0) ((wds m 64).getD k 0) = _
    rw [wds_at m 64 k hk]; rfl
  have hSk : ∀ k, (S k).ok := fun k => by rw [hS]; exact rds_ok _ _ s hok.out k
  have hSn : nxt s m = addSt s (S 64) := by rw [hS]; rfl
  have HS0 := Lib.hid hS0
  have HSs := Lib.hid hSs
  have HSk := Lib.hid hSk
  have HSn := Lib.hid hSn
  clear hS hS0 hSs hSk hSn
  go_loopw [39, 6, 7, 8, 9, 10, 11, 12, 13] (fun i a b c d e f g' h' wr => ∃ k : Nat, k ≤ 64 ∧ i = .int .i64 k ∧ a = .int .u32 ((S k).a : Int) ∧ b = .int .u32 ((S k).b : Int) ∧ c = .int .u32 ((S k).c : Int) ∧ d = .int .u32 ((S k).d : Int) ∧
    e = .int .u32 ((S k).e : Int) ∧ f = .int .u32 ((S k).f : Int) ∧ g' = .int .u32 ((S k).g : Int) ∧ h' = .int .u32 ((S k).h : Int) ∧ ∃ r, wr = w5.drewN r) (fun i _ _ _ _ _ _ _ _ _ => 64 - (intOf i).toNat)
  case atStart => exact ⟨0, by omega, rfl, by rw [HS0.out], by rw [HS0.out], by rw [HS0.out], by rw [HS0.out], by rw [HS0.out], by rw [HS0.out], by rw [HS0.out], by rw [HS0.out], 0, rfl⟩
  case round =>
    obtain ⟨k, hk, rfl, rfl, rfl, rfl, rfl, rfl, rfl, rfl, rfl, r, hr⟩ := hrel
    by_cases hlt : k < 64
    · have hT := fun w => index_row (P := Tryd.prog) 96 86 64 T k _ w Tryd.underlying96 (fun _ => by kernel_rfl) (fun _ => by kernel_rfl) hlt (HT.out k hlt)
      have hkc : wr.cell? ⟨0, k, none⟩ = some (.int .u32 (konAt k : Int)) := by
        rw [hr, World.cell?_drewN, World.cell?_of_block (w := w3) (by rw [HE5.out])]; exact HK3.out k hlt
      have hst := HSs.out k hlt
      have hx := HSk.out k
      have lk := kon_lt ⟨k, hlt⟩
      have lw := wv_lt m k
      simp only at lk
      generalize konAt k = kk at hkc hst lk
      generalize wv m k = ww at hT hst lw
      generalize S k = t at hst hx ⊢
      obtain ⟨a, b, c, d, e, f, g', h'⟩ := t
      obtain ⟨x1, x2, x3, x4, x5, x6, x7, x8⟩ := hx
      simp only at x1 x2 x3 x4 x5 x6 x7 x8
      have hch := ch_bits e f g' x5 x6 x7
      have hmj := maj_bits a b c x1 x2 x3
      have lch := ch_lt e f g' x6 x7
      have lmj := maj_lt a b c x2 x3
      have l0 := big0_lt a x1
      have l1 := big1_lt e x5
      have T0 := Lib.hid (fun w => turned_a a w x1)
      have T1 := Lib.hid (fun w => turned_e e w x5)
      unfold rnd at hst
      simp only at hst
      generalize chN e f g' = ch at hch hst lch
      generalize majN a b c = mj at hmj hst lmj
      generalize big0 a = b0 at T0 hst l0
      generalize big1 e = b1 at T1 hst l1
      have HS := Lib.hid hst
      have HR6 := Lib.hid hr
      have i1 : (0 : Int) ≤ (k : Int) := by omega
      have i2 : (k : Int) < 64 := by omega
      clear hst hr c4 c5 c6 c7
      go_wp2_with fail
      go_quiet ((go_at_call 82; with_reducible exact Calls.quiet_of_same (T1.out _)))
      go_wp2_with fail
      refine (T0.out _).mono ?_
      rintro e' w' ⟨rfl, rfl⟩
      go_wp2
      go_roundw
      case rel => exact ⟨k + 1, by omega, by go_num, by rw [HS.out]; refine congrArg (Value.int .u32) ?_; simp only; omega, by rw [HS.out], by rw [HS.out], by rw [HS.out], by rw [HS.out]; refine congrArg (Value.int .u32) ?_; simp only; omega, by rw [HS.out], by rw [HS.out], by rw [HS.out], _, by rw [HR6.out, World.drewN_drewN]⟩
      case measure => simp [intOf]; omega
    · obtain rfl : k = 64 := by omega
      obtain ⟨c0, c1, c2, c3, c4, c5, c6, c7⟩ := HC.out
      have hcl : ∀ (o : Nat) (v : Value), w3.cell? ⟨q, o, none⟩ = some v → wr.cell? ⟨q, o, none⟩ = some v := fun o v hv => by
        rw [hr, World.cell?_drewN, World.cell?_of_block (w := w3) (by rw [HE5.out])]; exact hv
      have c0 := hcl _ _ c0
      have c1 := hcl _ _ c1
      have c2 := hcl _ _ c2
      have c3 := hcl _ _ c3
      have c4 := hcl _ _ c4
      have c5 := hcl _ _ c5
      have c6 := hcl _ _ c6
      have c7 := hcl _ _ c7
      have hZ6 : wr.heap[q + 1 + 1]? = some (.cells Z 87 (0, 0)) := by rw [hr]; show w5.heap[q + 1 + 1]? = _; rw [HE5.out]; exact HZ3.out
      have B6 : Below w.heap.size w wr := by rw [hr]; exact below_drewN HB5.out _
      have HB6 := Lib.hid B6
      obtain ⟨R, hR⟩ : ∃ R, R = stArr (nxt s m) := ⟨_, rfl⟩
      have hR0 : (#[.int .u32 ((((s.a : Nat) : Int) + (((S 64).a : Nat) : Int)) % 4294967296), .int .u32 ((((s.b : Nat) : Int) + (((S 64).b : Nat) : Int)) % 4294967296), .int .u32 ((((s.c : Nat) : Int) + (((S 64).c : Nat) : Int)) % 4294967296), .int .u32 ((((s.d : Nat) : Int) + (((S 64).d : Nat) : Int)) % 4294967296), .int .u32 ((((s.e : Nat) : Int) + (((S 64).e : Nat) : Int)) % 4294967296), .int .u32 ((((s.f : Nat) : Int) + (((S 64).f : Nat) : Int)) % 4294967296), .int .u32 ((((s.g : Nat) : Int) + (((S 64).g : Nat) : Int)) % 4294967296), .int .u32 ((((s.h : Nat) : Int) + (((S 64).h : Nat) : Int)) % 4294967296)] : Array Value) = R := by
        rw [hR, HSn.out]; simp [stArr, addSt]
      have hR1 : R.all (·.oneCell') = true := by rw [hR]; exact stArr_one _
      have hi36 : (Tryd.prog.info? 87).map (·.size) = some R.size := by rw [hR]; kernel_rfl
      have hZR : Z.size = R.size := by rw [HZs.out, hR]; rfl
      have hrw := setRow_heap wr (q + 1 + 1) Z R 87 (0, 0) hZ6
      have HRR := Lib.hid hR
      clear hcl hr B6 hR
      go_wp2_with (with_reducible refine wpList_store_row (o := ⟨none, _, _, _, _, _⟩) rfl 87 (.tmp 4) (.tmp 123) rfl (q + 1 + 1) R rfl rfl 87 Z hZ6 hi36 hZR hR1 ?_)
      have hB7 : Below w.heap.size w (wr.setRow (q + 1 + 1) R) := below_setRow HB6.out (by have := HQ.out; omega) _
      refine bodyPost_ret (v := .agg R) (results_cell_row (p := 4) (ty := 87) rfl _ _ (q + 1 + 1) 87 R (0, 0) _ rfl hrw Tryd.underlying87 rfl hi36) rfl ⟨by rw [HRR.out], hB7⟩
end Go.Proofs.YtlockgfokfhokaaDoor


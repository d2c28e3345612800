/-
  Contracts: the block's numbers, of the program.
-/
import Derived.Test.YtlockgfokfhokaaDoorS1
import Derived.RegionTactic
import Derived.BigRegion
import Derived.Deep.RegionHeld3
import Derived.Laws.Tables
namespace Go.Proofs.YtlockgfokfhokaaDoor
open Go.RowKit
set_option linter.unusedVariables false

/-- Number j of a block. -/
def wv (m : List UInt8) (j : Nat) : Nat := wnx m (wds m j) j

theorem wds_eq (m : List UInt8) (k : Nat) : wds m k = (List.range k).map (wv m) := by
  induction k with
  | zero => rfl
  | succ k ih => rw [List.range_succ, List.map_append, ← ih]; rfl

theorem wds_at (m : List UInt8) (k j : Nat) (h : j < k) : (wds m k).getD j 0 = wv m j := by
  rw [wds_eq]; simp [List.getD, h]

theorem wv_low (m : List UInt8) (k : Nat) (h : k < 16) : wv m k = be4 (byt m (4 * k)) (byt m (4 * k + 1)) (byt m (4 * k + 2)) (byt m (4 * k + 3)) := by
  unfold wv wnx; rw [if_pos h]

theorem wv_high (m : List UInt8) (k : Nat) (h : ¬ k < 16) : wv m k = (wv m (k - 16) + sml0 (wv m (k - 15)) + wv m (k - 7) + sml1 (wv m (k - 2))) % 4294967296 := by
  conv => lhs; unfold wv wnx
  rw [if_neg h, wds_at _ _ _ (by omega), wds_at _ _ _ (by omega), wds_at _ _ _ (by omega), wds_at _ _ _ (by omega)]

theorem byt_lt (m : List UInt8) (i : Nat) : byt m i < 256 := UInt8.toNat_lt _

theorem be4_lt (a b c d : Nat) (ha : a < 256) (hb : b < 256) (hc : c < 256) (hd : d < 256) : be4 a b c d < 4294967296 :=
  Nat.or_lt_two_pow (n := 32) (Nat.or_lt_two_pow (n := 32) (Nat.or_lt_two_pow (n := 32) (by omega) (by omega)) (by omega)) (by omega)

theorem wv_lt (m : List UInt8) (k : Nat) : wv m k < 4294967296 := by
  by_cases h : k < 16
  · rw [wv_low m k h]; exact be4_lt _ _ _ _ (byt_lt _ _) (byt_lt _ _) (byt_lt _ _) (byt_lt _ _)
  · rw [wv_high m k h]; exact Nat.mod_lt _ (by omega)

theorem be4_bits (a b c d : Nat) (ha : a < 256) (hb : b < 256) (hc : c < 256) (hd : d < 256) :
    bits .or .u32 (bits .or .u32 (bits .or .u32 ((a : Int) * 16777216) ((b : Int) * 65536)) ((c : Int) * 256)) (d : Int) = (be4 a b c d : Int) := by
  have h1 := u32_or_nat (a * 16777216) (b * 65536) (by omega) (by omega)
  have l1 : a * 16777216 ||| b * 65536 < 4294967296 := Nat.or_lt_two_pow (n := 32) (by omega) (by omega)
  have h2 := u32_or_nat (a * 16777216 ||| b * 65536) (c * 256) l1 (by omega)
  have l2 : (a * 16777216 ||| b * 65536) ||| c * 256 < 4294967296 := Nat.or_lt_two_pow (n := 32) l1 (by omega)
  have h3 := u32_or_nat ((a * 16777216 ||| b * 65536) ||| c * 256) d l2 (by omega)
  unfold be4
  rw [← h3, ← h2, ← h1]
  simp

/-- An array of 64 bytes. -/
def bArr (m : List UInt8) : Array Value := ((List.range 64).map fun j => Value.int .u8 (byt m j : Int)).toArray
theorem bArr_size (m : List UInt8) : (bArr m).size = 64 := by simp [bArr]
theorem bArr_at (m : List UInt8) (j : Nat) (h : j < 64) : (bArr m)[j]? = some (.int .u8 (byt m j : Int)) := by simp [bArr, h]
theorem bArr_one (m : List UInt8) : (bArr m).all (·.oneCell') = true :=
  Array.all_eq_true_iff_forall_mem.2 (fun v hv => by
    simp only [bArr, List.mem_toArray, List.mem_map] at hv
    obtain ⟨_, _, rfl⟩ := hv
    rfl)

def wArr (m : List UInt8) : Array Value := ((List.range 64).map fun j => Value.int .u32 (wv m j : Int)).toArray
theorem wArr_size (m : List UInt8) : (wArr m).size = 64 := by simp [wArr]
theorem wArr_at (m : List UInt8) (j : Nat) (h : j < 64) : (wArr m)[j]? = some (.int .u32 (wv m j : Int)) := by simp [wArr, h]
theorem wArr_one (m : List UInt8) : (wArr m).all (·.oneCell') = true :=
  Array.all_eq_true_iff_forall_mem.2 (fun v hv => by
    simp only [wArr, List.mem_toArray, List.mem_map] at hv
    obtain ⟨_, _, rfl⟩ := hv
    rfl)

theorem zero_words (w : World) : (zeroValue 96).run Tryd.prog w = .ok (.agg (Array.replicate 64 (.int .u32 0))) w := by kernel_rfl

/-- A row of the call's own whose first k cells are the block's first k numbers. -/
structure WTab (w : World) (g k : Nat) (m : List UInt8) : Prop where
  row : ∃ C : Array Value, w.heap[g]? = some (.cells C 96 (0, 0)) ∧ C.size = 64 ∧ ∀ j, j < k → C[j]? = some (.int .u32 (wv m j : Int))

theorem WTab.step {w : World} {g k : Nat} {m : List UInt8} (h : WTab w g k m) (hk : k < 64) : WTab (w.setCell ⟨g, k, none⟩ (.int .u32 (wv m k : Int))) g (k + 1) m := by
  obtain ⟨C, hC, hs, hc⟩ := h.row
  refine ⟨C.setIfInBounds k (.int .u32 (wv m k : Int)), heap_setCell_same w g k C 96 _ hC, by simp [hs], fun j hj => ?_⟩
  by_cases e : j = k
  · subst e; rw [Array.getElem?_setIfInBounds_self, if_pos (by omega)]
  · rw [Array.getElem?_setIfInBounds_ne (by omega)]; exact hc j (by omega)

theorem other_set {w : World} {b g k : Nat} {v : Value} {o : Obj} (h : w.heap[b]? = some o) (hne : b ≠ g) : (w.setCell ⟨g, k, none⟩ v).heap[b]? = some o := by
  rw [heap_setCell_other w _ b _ hne]; exact h

theorem WTab.drew {w : World} {g k : Nat} {m : List UInt8} (h : WTab w g k m) : WTab w.drew g k m := ⟨h.row⟩

theorem wtab_eq {C : Array Value} {m : List UInt8} (hs : C.size = 64) (hc : ∀ j, j < 64 → C[j]? = some (.int .u32 (wv m j : Int))) : C = wArr m := by
  apply Array.ext
  · simp [hs, wArr_size]
  · intro j h1 h2
    have a1 := hc j (by omega)
    have a2 := wArr_at m j (by omega)
    rw [Array.getElem?_eq_getElem h1] at a1
    rw [Array.getElem?_eq_getElem h2] at a2
    simp at a1 a2
    rw [a1, a2]

theorem below_drewN {B : Nat} {w w' : World} (h : Below B w w') (n : Nat) : Below B w (w'.drewN n) := ⟨h.os, h.tape, h.output, h.size, h.block⟩

theorem alloc3 (w : World) (a b c : Obj) : (((w.alloc a).alloc b).alloc c).heap[w.heap.size]? = some a ∧ (((w.alloc a).alloc b).alloc c).heap[w.heap.size + 1]? = some b ∧ (((w.alloc a).alloc b).alloc c).heap[w.heap.size + 1 + 1]? = some c := by
  have e : (((w.alloc a).alloc b).alloc c).heap = ((w.heap.push a).push b).push c := rfl
  rw [e]
  refine ⟨?_, ?_, ?_⟩
  · rw [Array.getElem?_push_lt (by simp; omega), ← Array.getElem?_eq_getElem, Array.getElem?_push_lt (by simp), ← Array.getElem?_eq_getElem, Array.getElem?_push_size]
  · rw [Array.getElem?_push_lt (by simp), ← Array.getElem?_eq_getElem]
    have := Array.getElem?_push_size (xs := w.heap.push a) (x := b)
    simpa using this
  · have := Array.getElem?_push_size (xs := (w.heap.push a).push b) (x := c)
    simpa using this

set_option maxRecDepth 20000 in
set_option maxHeartbeats 1000000 in
theorem expand_any (m : List UInt8) (w : World) :
    Calls Tryd.prog 81 #[.agg (bArr m)] w fun e w' => e = .returned (.agg (wArr m)) ∧ Below w.heap.size w w' := by
  obtain ⟨Z, hZ⟩ : ∃ Z : Array Value, Z = Array.replicate 64 (.int .u32 0) := ⟨_, rfl⟩
  have hz := zero_words
  rw [← hZ] at hz
  have hzs : Z.size = 64 := by rw [hZ]; simp
  have HZ := Lib.hid hzs
  have hBs := Lib.hid (bArr_size m)
  have hBat := Lib.hid (bArr_at m)
  have hB1 := bArr_one m
  generalize bArr m = B at hBs hBat hB1 ⊢
  clear hzs hZ
  go_enter Tryd.func81, Tryd.ntmps81
  go_wp2
  obtain ⟨q, hq⟩ : ∃ q, q = w.heap.size := ⟨_, rfl⟩
  obtain ⟨w1, hw1⟩ : ∃ w1, w1 = ((w.alloc (.cells B 98)).alloc (.cells Z 96)).alloc (.cells Z 96) := ⟨_, rfl⟩
  obtain ⟨hb0, hp0, hg0⟩ := alloc3 w (.cells B 98) (.cells Z 96) (.cells Z 96)
  rw [← hw1, ← hq] at hb0 hp0 hg0
  have hrow : WTab w1 (q + 1 + 1) 0 m := ⟨Z, hg0, HZ.out, fun j hj => by omega⟩
  have hB0 : Below w.heap.size w w1 := by
    rw [hw1]; exact (((Below.refl _ _).alloc (Nat.le_refl _) _).alloc (by simp) _).alloc (by simp; omega) _
  have HQ := Lib.hid hq
  rw [← hq, ← hw1]
  clear hw1 hq hz hg0
  go_loopw [6] (fun i wr => ∃ k : Nat, k ≤ 16 ∧ i = .int .i64 k ∧ WTab wr (q + 1 + 1) k m ∧ wr.heap[q]? = some (.cells B 98 (0, 0)) ∧ wr.heap[q + 1]? = some (.cells Z 96 (0, 0)) ∧ Below w.heap.size w wr) (fun i _ => 16 - (intOf i).toNat)
  case atStart => exact ⟨0, by omega, rfl, hrow, hb0, hp0, hB0⟩
  case round =>
    clear hrow hb0 hp0 hB0
    obtain ⟨k, hk, rfl, hrow, hb0, hp0, hB0⟩ := hrel
    by_cases hlt : k < 16
    · have hcB := fun j (hj : j < 64) => (cell_of_row wr q j B 98 (0, 0) hb0).trans (hBat.out j hj)
      have c0 := hcB (4 * k) (by omega)
      have c1 := hcB (4 * k + 1) (by omega)
      have c2 := hcB (4 * k + 2) (by omega)
      have c3 := hcB (4 * k + 3) (by omega)
      have l0 := byt_lt m (4 * k)
      have l1 := byt_lt m (4 * k + 1)
      have l2 := byt_lt m (4 * k + 2)
      have l3 := byt_lt m (4 * k + 3)
      have e := be4_bits _ _ _ _ l0 l1 l2 l3
      rw [← wv_low m k hlt] at e
      have hst := WTab.step hrow (show k < 64 by omega)
      obtain ⟨C, hC, hsz, hcs⟩ := hrow.row
      have hfree : wr.frozen? ⟨q + 1 + 1, k, none⟩ = false := frozen_of_row wr _ k C 96 hC
      obtain ⟨u, hu⟩ : ∃ u, C[k]? = some u := ⟨_, Array.getElem?_eq_getElem (by omega)⟩
      have hck : wr.cell? ⟨q + 1 + 1, k, none⟩ = some u := (cell_of_row wr _ k C 96 (0, 0) hC).trans hu
      generalize byt m (4 * k) = x0 at c0 l0 e
      generalize byt m (4 * k + 1) = x1 at c1 l1 e
      generalize byt m (4 * k + 2) = x2 at c2 l2 e
      generalize byt m (4 * k + 3) = x3 at c3 l3 e
      generalize wv m k = y at e hst
      have HS := Lib.hid hst
      have H0 := Lib.hid hb0
      have H1 := Lib.hid hp0
      have H2 := Lib.hid hB0
      clear hst hb0 hp0 hB0 hC hcs hu hrow hcB
      go_wp2
      go_region
      all_goals go_wp2
      go_roundw
      case rel => exact ⟨k + 1, by omega, by go_num, HS.out.drew, other_set H0.out (by omega), other_set H1.out (by omega), (H2.out.setCell (by have := HQ.out; show w.heap.size ≤ q + 1 + 1; omega) _).drew⟩
      case measure => simp [intOf]; omega
    · have hk16 : k = 16 := by omega
      rw [hk16] at hrow
      go_wp2
      clear hk hk16 hlt
      go_loopw [5] (fun i wr => ∃ k : Nat, 16 ≤ k ∧ k ≤ 64 ∧ i = .int .i64 k ∧ WTab wr (q + 1 + 1) k m ∧ wr.heap[q]? = some (.cells B 98 (0, 0)) ∧ wr.heap[q + 1]? = some (.cells Z 96 (0, 0)) ∧ Below w.heap.size w wr) (fun i _ => 64 - (intOf i).toNat)
      case atStart => exact ⟨16, by omega, by omega, rfl, hrow, hb0, hp0, hB0⟩
      case round =>
        clear hrow hb0 hp0 hB0
        obtain ⟨k, hk, hk2, rfl, hrow, hb0, hp0, hB0⟩ := hrel
        by_cases hlt2 : k < 64
        · have hst := WTab.step hrow hlt2
          obtain ⟨C, hC, hsz, hcs⟩ := hrow.row
          have hcell : ∀ j, j < k → wr.cell? ⟨q + 1 + 1, j, none⟩ = some (.int .u32 (wv m j : Int)) := fun j hj => (cell_of_row wr _ j C 96 (0, 0) hC).trans (hcs j hj)
          have e := wv_high m k (by omega)
          obtain ⟨k16, hk16⟩ : ∃ j, j = k - 16 := ⟨_, rfl⟩
          have g16 : IntKind.i64.wrap ((k : Int) - 16) = (k16 : Int) := by rw [IntWalk.i64_in _ (by omega)]; omega
          have a16 : (0 : Int) ≤ (k16 : Int) := by omega
          have b16 : (k16 : Int) < 64 := by omega
          have n16 : k16 < k := by omega
          rw [← hk16] at e
          have c0 := hcell k16 (by omega)
          obtain ⟨k15, hk15⟩ : ∃ j, j = k - 15 := ⟨_, rfl⟩
          have g15 : IntKind.i64.wrap ((k : Int) - 15) = (k15 : Int) := by rw [IntWalk.i64_in _ (by omega)]; omega
          have a15 : (0 : Int) ≤ (k15 : Int) := by omega
          have b15 : (k15 : Int) < 64 := by omega
          have n15 : k15 < k := by omega
          rw [← hk15] at e
          have c1 := hcell k15 (by omega)
          obtain ⟨k7, hk7⟩ : ∃ j, j = k - 7 := ⟨_, rfl⟩
          have g7 : IntKind.i64.wrap ((k : Int) - 7) = (k7 : Int) := by rw [IntWalk.i64_in _ (by omega)]; omega
          have a7 : (0 : Int) ≤ (k7 : Int) := by omega
          have b7 : (k7 : Int) < 64 := by omega
          have n7 : k7 < k := by omega
          rw [← hk7] at e
          have c9 := hcell k7 (by omega)
          obtain ⟨k2, hk2⟩ : ∃ j, j = k - 2 := ⟨_, rfl⟩
          have g2 : IntKind.i64.wrap ((k : Int) - 2) = (k2 : Int) := by rw [IntWalk.i64_in _ (by omega)]; omega
          have a2 : (0 : Int) ≤ (k2 : Int) := by omega
          have b2 : (k2 : Int) < 64 := by omega
          have n2 : k2 < k := by omega
          rw [← hk2] at e
          have c14 := hcell k2 (by omega)
          have hfree : wr.frozen? ⟨q + 1 + 1, k, none⟩ = false := frozen_of_row wr _ k C 96 hC
          obtain ⟨u, hu⟩ : ∃ u, C[k]? = some u := ⟨_, Array.getElem?_eq_getElem (by omega)⟩
          have hck : wr.cell? ⟨q + 1 + 1, k, none⟩ = some u := (cell_of_row wr _ k C 96 (0, 0) hC).trans hu
          have l0 := wv_lt m k16
          have l1 := wv_lt m k15
          have l9 := wv_lt m k7
          have l14 := wv_lt m k2
          generalize wv m k16 = x0 at c0 l0 e
          generalize wv m k15 = x1 at c1 l1 e
          generalize wv m k7 = x9 at c9 l9 e
          generalize wv m k2 = x14 at c14 l14 e
          generalize wv m k = y at e hst
          have HM1 := Lib.hid (fun w => mixed_a x1 w l1)
          have HM2 := Lib.hid (fun w => mixed_b x14 w l14)
          generalize sml0 x1 = s0 at e HM1
          generalize sml1 x14 = s1 at e HM2
          have hv : IntKind.u32.wrap (IntKind.u32.wrap (IntKind.u32.wrap ((s1 : Int) + (x9 : Int)) + (s0 : Int)) + (x0 : Int)) = (y : Int) := by
            rw [IntKind.wrap_u32, IntKind.wrap_u32, IntKind.wrap_u32, e]; omega
          have HV := Lib.hid hv
          have HS := Lib.hid hst
          have H0 := Lib.hid hb0
          have H1 := Lib.hid hp0
          have H2 := Lib.hid hB0
          have hkeep : ∀ (r : Nat) (v : Value), ((wr.drewN r).setCell ⟨q + 1 + 1, k, none⟩ v).cell? ⟨q + 1 + 1, k16, none⟩ = some (.int .u32 (x0 : Int)) ∧ ((wr.drewN r).setCell ⟨q + 1 + 1, k, none⟩ v).cell? ⟨q + 1 + 1, k15, none⟩ = some (.int .u32 (x1 : Int)) ∧ ((wr.drewN r).setCell ⟨q + 1 + 1, k, none⟩ v).cell? ⟨q + 1 + 1, k7, none⟩ = some (.int .u32 (x9 : Int)) ∧ ((wr.drewN r).setCell ⟨q + 1 + 1, k, none⟩ v).cell? ⟨q + 1 + 1, k2, none⟩ = some (.int .u32 (x14 : Int)) := fun r v =>
            ⟨(World.cell?_setCell_other _ _ _ _ (by simp)).trans c0, (World.cell?_setCell_other _ _ _ _ (by simp)).trans c1, (World.cell?_setCell_other _ _ _ _ (by simp)).trans c9, (World.cell?_setCell_other _ _ _ _ (by simp)).trans c14⟩
          have HK := Lib.hid hkeep
          clear hst hb0 hp0 hB0 hC hcs hu hrow hcell e hv l1 l14 hsz hkeep hk16 hk15 hk7 hk2
          have a0 : (0 : Int) ≤ (k : Int) := by omega
          have b0 : (k : Int) < 64 := by omega
          go_wp2
          go_region_held3 (fun w' => w'.cell? ⟨q + 1 + 1, k16, none⟩ = some (.int .u32 (x0 : Int)) ∧ w'.cell? ⟨q + 1 + 1, k15, none⟩ = some (.int .u32 (x1 : Int)) ∧ w'.cell? ⟨q + 1 + 1, k7, none⟩ = some (.int .u32 (x9 : Int)) ∧ w'.cell? ⟨q + 1 + 1, k2, none⟩ = some (.int .u32 (x14 : Int))) (first | exact ⟨c0, c1, c9, c14⟩ | exact HK.out _ _)
            (first
            | (go_at_call 83; with_reducible refine (HM2.out _).mono ?_; rintro r w' ⟨rfl, n1, rfl⟩)
            | (go_at_call 83; with_reducible refine (HM1.out _).mono ?_; rintro r w' ⟨rfl, n1, rfl⟩))
          rename_i n0 hHeld
          clear hHeld
          rw [HV.out]
          go_wp2
          go_roundw
          case rel => exact ⟨k + 1, by omega, by omega, by go_num, ⟨HS.out.row⟩, other_set H0.out (by omega), other_set H1.out (by omega), (below_drewN H2.out _).setCell (by have := HQ.out; show w.heap.size ≤ q + 1 + 1; omega) _⟩
          case measure => simp [intOf]; omega
        · obtain rfl : k = 64 := by omega
          obtain ⟨C, hC, hsz, hcs⟩ := hrow.row
          have hCT : C = wArr m := wtab_eq hsz hcs
          have hone : C.all (·.oneCell') = true := by rw [hCT]; exact wArr_one m
          have hi47 : (Tryd.prog.info? 96).map (·.size) = some C.size := by rw [hsz]; kernel_rfl
          have hZC : Z.size = C.size := by rw [HZ.out, hsz]
          have H1 := Lib.hid hCT
          have hB2 : Below w.heap.size w (wr.setRow (q + 1) C) := below_setRow hB0 (by have := HQ.out; omega) _
          have hrw := setRow_heap wr (q + 1) Z C 96 (0, 0) hp0
          clear hCT hcs hrow hb0
          go_wp2_with (first | (with_reducible refine wpList_load_row (o := ⟨some 68, _, _, _, _, _⟩) rfl 96 (.tmp 3) rfl (q + 1 + 1) rfl 96 C (0, 0) _ hC Tryd.underlying96 rfl hi47 ?_) | (with_reducible refine wpList_store_row (o := ⟨none, _, _, _, _, _⟩) rfl 96 (.tmp 2) (.tmp 68) rfl (q + 1) C rfl rfl 96 Z hp0 hi47 hZC hone ?_))
          refine bodyPost_ret (v := .agg C) (results_cell_row (p := 2) (ty := 96) rfl _ _ (q + 1) 96 C (0, 0) _ rfl hrw Tryd.underlying96 rfl hi47) rfl ⟨by rw [H1.out], hB2⟩
end Go.Proofs.YtlockgfokfhokaaDoor


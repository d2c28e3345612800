/-
  Blocks of texts; how a hash lies in memory; New, pending, Len, start.
-/
import Derived.Test.YtlockgfokfhokaaDoorS4
import Derived.Deep.MidRow
namespace Go.Proofs.YtlockgfokfhokaaDoor
open Go.RowKit
set_option linter.unusedVariables false

/-! ### blocks, one behind the other -/
theorem runB_append (k : Nat) (ys : List UInt8) : ∀ (n : Nat) (s : St) (xs : List UInt8), xs.length = 64 * n → runB (n + k) s (xs ++ ys) = runB k (runB n s xs) ys
  | 0, s, xs, h => by
    have : xs = [] := List.eq_nil_of_length_eq_zero (by omega)
    subst this
    simp [runB]
  | n + 1, s, xs, h => by
    rw [show n + 1 + k = (n + k) + 1 from by omega]
    simp only [runB]
    rw [List.take_append_of_le_length (by omega), List.drop_append_of_le_length (by omega)]
    exact runB_append k ys n _ _ (by simp; omega)

theorem runB_next : ∀ (i : Nat) (s : St) (xs : List UInt8), runB (i + 1) s xs = nxt (runB i s xs) ((xs.drop (64 * i)).take 64)
  | 0, s, xs => by simp [runB]
  | i + 1, s, xs => by
    have := runB_next i (nxt s (xs.take 64)) (xs.drop 64)
    rw [List.drop_drop, show 64 + 64 * i = 64 * (i + 1) from by omega] at this
    exact this

theorem runB_ok : ∀ (n : Nat) (s : St) (xs : List UInt8), s.ok → (runB n s xs).ok
  | 0, _, _, h => h
  | n + 1, s, xs, h => runB_ok n _ _ (nxt_ok _ _)

theorem st0_ok : st0.ok := by unfold St.ok st0; decide

theorem full_ok (xs : List UInt8) : (full xs).ok := runB_ok _ _ _ st0_ok

theorem full_any (xs ys : List UInt8) (hy : xs.length % 64 + ys.length < 64 ∨ xs.length % 64 + ys.length = 64) :
    full (xs ++ ys) = runB ((xs.length % 64 + ys.length) / 64) (full xs) (xs.drop (xs.length / 64 * 64) ++ ys) := by
  have e : xs = xs.take (xs.length / 64 * 64) ++ xs.drop (xs.length / 64 * 64) := (List.take_append_drop _ _).symm
  have hl : (xs.take (xs.length / 64 * 64)).length = 64 * (xs.length / 64) := by simp; omega
  have h1 : full xs = runB (xs.length / 64) st0 (xs.take (xs.length / 64 * 64)) := by
    have := runB_append 0 (xs.drop (xs.length / 64 * 64)) (xs.length / 64) st0 _ hl
    rw [List.take_append_drop, Nat.add_zero] at this
    exact this
  have h2 : (xs ++ ys).length / 64 = xs.length / 64 + (xs.length % 64 + ys.length) / 64 := by simp; omega
  unfold full at h1 ⊢
  rw [h2, h1]
  have := runB_append ((xs.length % 64 + ys.length) / 64) (xs.drop (xs.length / 64 * 64) ++ ys) (xs.length / 64) st0 _ hl
  rw [← List.append_assoc, List.take_append_drop] at this
  exact this

theorem full_same (xs ys : List UInt8) (hy : xs.length % 64 + ys.length < 64) : full (xs ++ ys) = full xs := by
  rw [full_any xs ys (.inl hy), Nat.div_eq_of_lt hy]; rfl

theorem full_step (xs ys : List UInt8) (hy : xs.length % 64 + ys.length = 64) : full (xs ++ ys) = nxt (full xs) (xs.drop (xs.length / 64 * 64) ++ ys) := by
  rw [full_any xs ys (.inr hy), hy]
  show nxt (full xs) ((xs.drop (xs.length / 64 * 64) ++ ys).take 64) = _
  rw [List.take_of_length_le (by simp; omega)]

theorem out8_length (n : Nat) : (out8 n).length = 8 := enc_length n 8
theorem padN_length (n : Nat) : (padN n).length = 72 - (n + 8) % 64 := by simp [padN, out8_length]; omega
theorem outS_length (s : St) : (outS s).length = 32 := by simp [outS, out4, enc_length]

/-! ### a hash in memory -/
/-- The cells of a hash: the state, the block, the number of bytes. -/
def hcl (sv : List Value) (blk : List UInt8) (n : Nat) : List Value := sv ++ (bvs blk ++ [.int .u64 (n : Int)])

theorem hcl_length {sv : List Value} {blk : List UInt8} (n : Nat) (hs : sv.length = 8) (hb : blk.length = 64) : (hcl sv blk n).length = 73 := by simp [hcl, bvs_length, hs, hb]

theorem hcl_count {sv : List Value} {blk : List UInt8} (n : Nat) (hs : sv.length = 8) (hb : blk.length = 64) : (hcl sv blk n)[72]? = some (.int .u64 (n : Int)) := by
  unfold hcl
  rw [List.getElem?_append_right (by omega), List.getElem?_append_right (by simp [bvs_length]; omega)]
  simp [bvs_length, hs, hb]

theorem hcl_state {sv : List Value} {blk : List UInt8} (n j : Nat) (v : Value) (h : sv[j]? = some v) : (hcl sv blk n)[j]? = some v := by
  unfold hcl
  rw [List.getElem?_append_left (List.getElem?_eq_some_iff.1 h).1]; exact h

theorem hcl_block {sv : List Value} {blk : List UInt8} (n j : Nat) (v : Value) (hs : sv.length = 8) (h : (bvs blk)[j]? = some v) : (hcl sv blk n)[8 + j]? = some v := by
  have hj := (List.getElem?_eq_some_iff.1 h).1
  unfold hcl
  rw [List.getElem?_append_right (by omega), List.getElem?_append_left (by omega), hs, Nat.add_sub_cancel_left]; exact h

theorem hcl_set_count {sv : List Value} {blk : List UInt8} (n m : Nat) (hs : sv.length = 8) (hb : blk.length = 64) : (hcl sv blk n).set 72 (.int .u64 (m : Int)) = hcl sv blk m := by
  unfold hcl
  rw [List.set_append_right _ _ (by omega), List.set_append_right _ _ (by simp [bvs_length]; omega)]
  simp [bvs_length, hs, hb]

theorem hcl_splice_state {sv sv' : List Value} {blk : List UInt8} (n : Nat) (hs : sv.length = 8) (hs' : sv'.length = 8) : splice (hcl sv blk n) 0 sv' = hcl sv' blk n := by
  unfold hcl splice
  simp [hs, hs']

theorem hcl_splice_block {sv : List Value} {blk ys : List UInt8} (n i : Nat) (hs : sv.length = 8) (hb : blk.length = 64) (hi : i + ys.length ≤ 64) : splice (hcl sv blk n) (8 + i) (bvs ys) = hcl sv (splice blk i ys) n := by
  unfold hcl splice
  rw [List.take_append, List.drop_append, List.take_of_length_le (by omega), List.drop_of_length_le (by simp [bvs_length]; omega), hs]
  simp only [Nat.add_sub_cancel_left, List.nil_append, bvs_length]
  rw [List.take_append_of_le_length (by simp [bvs_length]; omega), show 8 + i + ys.length - 8 = i + ys.length from by omega, List.drop_append_of_le_length (by simp [bvs_length]; omega)]
  simp [bvs, List.map_take, List.map_drop, List.append_assoc]

theorem splice_length {blk ys : List UInt8} (i : Nat) (h : i + ys.length ≤ blk.length) : (splice blk i ys).length = blk.length := by simp [splice]; omega

theorem splice_take {blk ys : List UInt8} (i : Nat) (h : i + ys.length ≤ blk.length) : (splice blk i ys).take (i + ys.length) = blk.take i ++ ys := by
  unfold splice
  rw [← List.append_assoc, List.take_append_of_le_length (by simp; omega), List.take_of_length_le (by simp; omega)]

/-- The hash at block p: the bytes xs have been written. -/
structure Hsh (w : World) (p : Nat) (xs : List UInt8) : Prop where
  blk : ∃ sv bl, w.heap[p]? = some (.cells (hcl sv bl xs.length).toArray 100 (0, 0)) ∧ sv.length = 8 ∧ (∀ v ∈ sv, v.oneCell' = true) ∧ bl.length = 64 ∧
    (0 < xs.length → sv = (stArr (full xs)).toList) ∧ bl.take (xs.length % 64) = xs.drop (xs.length / 64 * 64)
  le : xs.length ≤ 1152921504606846976

theorem Hsh.lt {w : World} {p : Nat} {xs : List UInt8} (h : Hsh w p xs) : p < w.heap.size := by
  obtain ⟨sv, bl, h, _⟩ := h.blk
  exact lt_of_block h

theorem Hsh.kept {w w' : World} {p : Nat} {xs : List UInt8} (h : Hsh w p xs) (hb : w'.heap[p]? = w.heap[p]?) : Hsh w' p xs := by
  obtain ⟨sv, bl, h1, h2⟩ := h.blk
  exact ⟨⟨sv, bl, hb.trans h1, h2⟩, h.le⟩

theorem Hsh.below {w w' : World} {p : Nat} {xs : List UInt8} (h : Hsh w p xs) (hb : Below w.heap.size w w') : Hsh w' p xs := h.kept (hb.block p h.lt)

theorem Hsh.count {w : World} {p : Nat} {xs : List UInt8} (h : Hsh w p xs) : w.cell? ⟨p, 72, none⟩ = some (.int .u64 (xs.length : Int)) := by
  obtain ⟨sv, bl, h1, h2, _, h3, _⟩ := h.blk
  rw [cell_of_blk h1]
  simpa using hcl_count xs.length h2 h3

theorem Hsh.free {w : World} {p : Nat} {xs : List UInt8} (h : Hsh w p xs) (i : Nat) : w.frozen? ⟨p, i, none⟩ = false := by
  obtain ⟨sv, bl, h1, _⟩ := h.blk
  exact free_of_blk h1 i

theorem zero_hash (w : World) : (zeroValue 100).run Tryd.prog w = .ok (.agg (hcl (List.replicate 8 (.int .u32 0)) (List.replicate 64 0) 0).toArray) w := by kernel_rfl

set_option maxRecDepth 20000 in
set_option maxHeartbeats 400000 in
theorem new_hash (w : World) :
    Calls Tryd.prog 70 #[] w fun e w' => ∃ p, e = .returned (.pointer (some ⟨p, 0, none⟩)) ∧ w.heap.size ≤ p ∧ Hsh w' p [] ∧ Below w.heap.size w w' := by
  obtain ⟨Z, hZ⟩ : ∃ Z : Array Value, Z = (hcl (List.replicate 8 (.int .u32 0)) (List.replicate 64 0) 0).toArray := ⟨_, rfl⟩
  have hbd := zero_hash
  rw [← hZ] at hbd
  have hZ1 : Z.all (·.oneCell') = true := by rw [hZ]; decide +kernel
  have HZ := Lib.hid hZ
  clear hZ
  go_enter Tryd.func70, Tryd.ntmps70
  go_wp2
  go_ret
  refine ⟨_, rfl, Nat.le_refl _, ⟨⟨_, _, by rw [heap_alloc_new, HZ.out]; rfl, rfl, ?_, rfl, fun h => by simp at h, rfl⟩, by simp⟩, (Below.refl _ _).alloc (Nat.le_refl _) _⟩
  intro v hv
  simp at hv
  subst hv
  rfl

set_option maxRecDepth 20000 in
set_option maxHeartbeats 400000 in
theorem pending_any (p : Nat) (xs : List UInt8) (w : World) (hh : Hsh w p xs) :
    Calls Tryd.prog 78 #[.pointer (some ⟨p, 0, none⟩)] w fun e w' => e = .returned (.int .i64 ((xs.length % 64 : Nat) : Int)) ∧ w' = w := by
  have hc := hh.count
  have hle := hh.le
  generalize xs.length = n at hc hle ⊢
  go_enter Tryd.func78, Tryd.ntmps78
  go_wp2
  go_ret
  exact ⟨by go_num, rfl⟩

set_option maxRecDepth 20000 in
set_option maxHeartbeats 400000 in
theorem start_any (w : World) :
    Calls Tryd.prog 77 #[] w fun e w' => e = .returned (.agg (stArr st0)) ∧ Below w.heap.size w w' := by
  go_enter Tryd.func77, Tryd.ntmps77
  go_wp2
  refine bodyPost_ret (v := .agg (stArr st0)) (results_cell_row (p := 0) (ty := 87) rfl _ _ w.heap.size 87 (stArr st0) (0, 0) _ rfl (heap_alloc_new w _) Tryd.underlying87 rfl (by kernel_rfl)) rfl ⟨rfl, (Below.refl _ _).alloc (Nat.le_refl _) _⟩

set_option maxRecDepth 20000 in
set_option maxHeartbeats 400000 in
theorem first_any (w : World) :
    Calls Tryd.prog 67 #[] w fun e w' => e = .returned (.agg (stArr st0)) ∧ Below w.heap.size w w' := by
  go_enter Tryd.func67, Tryd.ntmps67
  go_wp2
  refine bodyPost_ret (v := .agg (stArr st0)) (results_cell_row (p := 0) (ty := 87) rfl _ _ w.heap.size 87 (stArr st0) (0, 0) _ rfl (heap_alloc_new w _) Tryd.underlying87 rfl (by kernel_rfl)) rfl ⟨rfl, (Below.refl _ _).alloc (Nat.le_refl _) _⟩

end Go.Proofs.YtlockgfokfhokaaDoor


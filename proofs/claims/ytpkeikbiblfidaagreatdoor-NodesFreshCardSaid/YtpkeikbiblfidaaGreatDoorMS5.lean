/-
  Texts put together: S5, S6, S7, S8, S11.
-/
import Derived.Test.YtpkeikbiblfidaaGreatDoorMS
import Derived.Deep.MidRow
import Derived.Laws.OwnMore
import Derived.WalkMore
import Derived.Deep.DeepCutAuto
import Derived.StillTailTactics
import Derived.Laws.BytesString
import Derived.Laws.IdiomStrings
import Derived.Deep.RegionHeldLaw
/-
  Blocks of texts; how a hash lies in memory; New, pending, Len, start.
-/
namespace Go.Proofs.YtpkeikbiblfidaaGreatDoor.Dg
open Go.RowKit
set_option linter.unusedVariables false

/-! ### blocks, one behind the other -/
theorem runB_append (k : Nat) (ys : List UInt8) : ∀ (n : Nat) (s : St) (xs : List UInt8), xs.length = 64 * n → runB (n + k) s (xs ++ ys) = runB k (runB n s xs) ys
  | 0, s, xs, h => by
    have : xs = [] := List.eq_nil_of_length_eq_zero (by omega)
    subst this
    simp [runB]
  | n + 1, s, xs, h => by
    rw [show n + 1 + k = (n + k) + 1 from by omega]
    simp only [runB]
    rw [List.take_append_of_le_length (by omega), List.drop_append_of_le_length (by omega)]
    exact runB_append k ys n _ _ (by simp; omega)

theorem runB_next : ∀ (i : Nat) (s : St) (xs : List UInt8), runB (i + 1) s xs = nxt (runB i s xs) ((xs.drop (64 * i)).take 64)
  | 0, s, xs => by simp [runB]
  | i + 1, s, xs => by
    have := runB_next i (nxt s (xs.take 64)) (xs.drop 64)
    rw [List.drop_drop, show 64 + 64 * i = 64 * (i + 1) from by omega] at this
    exact this

theorem runB_ok : ∀ (n : Nat) (s : St) (xs : List UInt8), s.ok → (runB n s xs).ok
  | 0, _, _, h => h
  | n + 1, s, xs, h => runB_ok n _ _ (nxt_ok _ _)

theorem st0_ok : st0.ok := by unfold St.ok st0; decide

theorem full_ok (xs : List UInt8) : (full xs).ok := runB_ok _ _ _ st0_ok

theorem full_any (xs ys : List UInt8) (hy : xs.length % 64 + ys.length < 64 ∨ xs.length % 64 + ys.length = 64) :
    full (xs ++ ys) = runB ((xs.length % 64 + ys.length) / 64) (full xs) (xs.drop (xs.length / 64 * 64) ++ ys) := by
  have e : xs = xs.take (xs.length / 64 * 64) ++ xs.drop (xs.length / 64 * 64) := (List.take_append_drop _ _).symm
  have hl : (xs.take (xs.length / 64 * 64)).length = 64 * (xs.length / 64) := by simp; omega
  have h1 : full xs = runB (xs.length / 64) st0 (xs.take (xs.length / 64 * 64)) := by
    have := runB_append 0 (xs.drop (xs.length / 64 * 64)) (xs.length / 64) st0 _ hl
    rw [List.take_append_drop, Nat.add_zero] at this
    exact this
  have h2 : (xs ++ ys).length / 64 = xs.length / 64 + (xs.length % 64 + ys.length) / 64 := by simp; omega
  unfold full at h1 ⊢
  rw [h2, h1]
  have := runB_append ((xs.length % 64 + ys.length) / 64) (xs.drop (xs.length / 64 * 64) ++ ys) (xs.length / 64) st0 _ hl
  rw [← List.append_assoc, List.take_append_drop] at this
  exact this

theorem full_same (xs ys : List UInt8) (hy : xs.length % 64 + ys.length < 64) : full (xs ++ ys) = full xs := by
  rw [full_any xs ys (.inl hy), Nat.div_eq_of_lt hy]; rfl

theorem full_step (xs ys : List UInt8) (hy : xs.length % 64 + ys.length = 64) : full (xs ++ ys) = nxt (full xs) (xs.drop (xs.length / 64 * 64) ++ ys) := by
  rw [full_any xs ys (.inr hy), hy]
  show nxt (full xs) ((xs.drop (xs.length / 64 * 64) ++ ys).take 64) = _
  rw [List.take_of_length_le (by simp; omega)]

theorem out8_length (n : Nat) : (out8 n).length = 8 := enc_length n 8
theorem padN_length (n : Nat) : (padN n).length = 72 - (n + 8) % 64 := by simp [padN, out8_length]; omega
theorem outS_length (s : St) : (outS s).length = 32 := by simp [outS, out4, enc_length]

/-! ### a hash in memory -/
/-- The cells of a hash: the state, the block, the number of bytes. -/
def hcl (sv : List Value) (blk : List UInt8) (n : Nat) : List Value := sv ++ (bvs blk ++ [.int .u64 (n : Int)])

theorem hcl_length {sv : List Value} {blk : List UInt8} (n : Nat) (hs : sv.length = 8) (hb : blk.length = 64) : (hcl sv blk n).length = 73 := by simp [hcl, bvs_length, hs, hb]

theorem hcl_count {sv : List Value} {blk : List UInt8} (n : Nat) (hs : sv.length = 8) (hb : blk.length = 64) : (hcl sv blk n)[72]? = some (.int .u64 (n : Int)) := by
  unfold hcl
  rw [List.getElem?_append_right (by omega), List.getElem?_append_right (by simp [bvs_length]; omega)]
  simp [bvs_length, hs, hb]

theorem hcl_state {sv : List Value} {blk : List UInt8} (n j : Nat) (v : Value) (h : sv[j]? = some v) : (hcl sv blk n)[j]? = some v := by
  unfold hcl
  rw [List.getElem?_append_left (List.getElem?_eq_some_iff.1 h).1]; exact h

theorem hcl_block {sv : List Value} {blk : List UInt8} (n j : Nat) (v : Value) (hs : sv.length = 8) (h : (bvs blk)[j]? = some v) : (hcl sv blk n)[8 + j]? = some v := by
  have hj := (List.getElem?_eq_some_iff.1 h).1
  unfold hcl
  rw [List.getElem?_append_right (by omega), List.getElem?_append_left (by omega), hs, Nat.add_sub_cancel_left]; exact h

theorem hcl_set_count {sv : List Value} {blk : List UInt8} (n m : Nat) (hs : sv.length = 8) (hb : blk.length = 64) : (hcl sv blk n).set 72 (.int .u64 (m : Int)) = hcl sv blk m := by
  unfold hcl
  rw [List.set_append_right _ _ (by omega), List.set_append_right _ _ (by simp [bvs_length]; omega)]
  simp [bvs_length, hs, hb]

theorem hcl_splice_state {sv sv' : List Value} {blk : List UInt8} (n : Nat) (hs : sv.length = 8) (hs' : sv'.length = 8) : splice (hcl sv blk n) 0 sv' = hcl sv' blk n := by
  unfold hcl splice
  simp [hs, hs']

theorem hcl_splice_block {sv : List Value} {blk ys : List UInt8} (n i : Nat) (hs : sv.length = 8) (hb : blk.length = 64) (hi : i + ys.length ≤ 64) : splice (hcl sv blk n) (8 + i) (bvs ys) = hcl sv (splice blk i ys) n := by
  unfold hcl splice
  rw [List.take_append, List.drop_append, List.take_of_length_le (by omega), List.drop_of_length_le (by simp [bvs_length]; omega), hs]
  simp only [Nat.add_sub_cancel_left, List.nil_append, bvs_length]
  rw [List.take_append_of_le_length (by simp [bvs_length]; omega), show 8 + i + ys.length - 8 = i + ys.length from by omega, List.drop_append_of_le_length (by simp [bvs_length]; omega)]
  simp [bvs, List.map_take, List.map_drop, List.append_assoc]

theorem splice_length {blk ys : List UInt8} (i : Nat) (h : i + ys.length ≤ blk.length) : (splice blk i ys).length = blk.length := by simp [splice]; omega

theorem splice_take {blk ys : List UInt8} (i : Nat) (h : i + ys.length ≤ blk.length) : (splice blk i ys).take (i + ys.length) = blk.take i ++ ys := by
  unfold splice
  rw [← List.append_assoc, List.take_append_of_le_length (by simp; omega), List.take_of_length_le (by simp; omega)]

/-- The hash at block p: the bytes xs have been written. -/
structure Hsh (w : World) (p : Nat) (xs : List UInt8) : Prop where
  blk : ∃ sv bl, w.heap[p]? = some (.cells (hcl sv bl xs.length).toArray 203 (0, 0)) ∧ sv.length = 8 ∧ (∀ v ∈ sv, v.oneCell' = true) ∧ bl.length = 64 ∧
    (0 < xs.length → sv = (stArr (full xs)).toList) ∧ bl.take (xs.length % 64) = xs.drop (xs.length / 64 * 64)
  le : xs.length ≤ 1152921504606846976

theorem Hsh.lt {w : World} {p : Nat} {xs : List UInt8} (h : Hsh w p xs) : p < w.heap.size := by
  obtain ⟨sv, bl, h, _⟩ := h.blk
  exact lt_of_block h

theorem Hsh.kept {w w' : World} {p : Nat} {xs : List UInt8} (h : Hsh w p xs) (hb : w'.heap[p]? = w.heap[p]?) : Hsh w' p xs := by
  obtain ⟨sv, bl, h1, h2⟩ := h.blk
  exact ⟨⟨sv, bl, hb.trans h1, h2⟩, h.le⟩

theorem Hsh.below {w w' : World} {p : Nat} {xs : List UInt8} (h : Hsh w p xs) (hb : Below w.heap.size w w') : Hsh w' p xs := h.kept (hb.block p h.lt)

theorem Hsh.count {w : World} {p : Nat} {xs : List UInt8} (h : Hsh w p xs) : w.cell? ⟨p, 72, none⟩ = some (.int .u64 (xs.length : Int)) := by
  obtain ⟨sv, bl, h1, h2, _, h3, _⟩ := h.blk
  rw [cell_of_blk h1]
  simpa using hcl_count xs.length h2 h3

theorem Hsh.free {w : World} {p : Nat} {xs : List UInt8} (h : Hsh w p xs) (i : Nat) : w.frozen? ⟨p, i, none⟩ = false := by
  obtain ⟨sv, bl, h1, _⟩ := h.blk
  exact free_of_blk h1 i

theorem zero_hash (w : World) : (zeroValue 203).run Tryz.prog w = .ok (.agg (hcl (List.replicate 8 (.int .u32 0)) (List.replicate 64 0) 0).toArray) w := by kernel_rfl

set_option maxRecDepth 20000 in
set_option maxHeartbeats 400000 in
theorem new_hash (w : World) :
    Calls Tryz.prog 177 #[] w fun e w' => ∃ p, e = .returned (.pointer (some ⟨p, 0, none⟩)) ∧ w.heap.size ≤ p ∧ Hsh w' p [] ∧ Below w.heap.size w w' := by
  obtain ⟨Z, hZ⟩ : ∃ Z : Array Value, Z = (hcl (List.replicate 8 (.int .u32 0)) (List.replicate 64 0) 0).toArray := ⟨_, rfl⟩
  have hbd := zero_hash
  rw [← hZ] at hbd
  have hZ1 : Z.all (·.oneCell') = true := by rw [hZ]; decide +kernel
  have HZ := Lib.hid hZ
  clear hZ
  go_enter Tryz.func177, Tryz.ntmps177
  go_wp2
  go_ret
  refine ⟨_, rfl, Nat.le_refl _, ⟨⟨_, _, by rw [heap_alloc_new, HZ.out]; rfl, rfl, ?_, rfl, fun h => by simp at h, rfl⟩, by simp⟩, (Below.refl _ _).alloc (Nat.le_refl _) _⟩
  intro v hv
  simp at hv
  subst hv
  rfl

set_option maxRecDepth 20000 in
set_option maxHeartbeats 400000 in
theorem pending_any (p : Nat) (xs : List UInt8) (w : World) (hh : Hsh w p xs) :
    Calls Tryz.prog 188 #[.pointer (some ⟨p, 0, none⟩)] w fun e w' => e = .returned (.int .i64 ((xs.length % 64 : Nat) : Int)) ∧ w' = w := by
  have hc := hh.count
  have hle := hh.le
  generalize xs.length = n at hc hle ⊢
  go_enter Tryz.func188, Tryz.ntmps188
  go_wp2
  go_ret
  exact ⟨by go_num, rfl⟩

set_option maxRecDepth 20000 in
set_option maxHeartbeats 400000 in
theorem start_any (w : World) :
    Calls Tryz.prog 187 #[] w fun e w' => e = .returned (.agg (stArr st0)) ∧ Below w.heap.size w w' := by
  go_enter Tryz.func187, Tryz.ntmps187
  go_wp2
  refine bodyPost_ret (v := .agg (stArr st0)) (results_cell_row (p := 0) (ty := 157) rfl _ _ w.heap.size 157 (stArr st0) (0, 0) _ rfl (heap_alloc_new w _) Tryz.underlying157 rfl (by kernel_rfl)) rfl ⟨rfl, (Below.refl _ _).alloc (Nat.le_refl _) _⟩

set_option maxRecDepth 20000 in
set_option maxHeartbeats 400000 in
theorem first_any (w : World) :
    Calls Tryz.prog 136 #[] w fun e w' => e = .returned (.agg (stArr st0)) ∧ Below w.heap.size w w' := by
  go_enter Tryz.func136, Tryz.ntmps136
  go_wp2
  refine bodyPost_ret (v := .agg (stArr st0)) (results_cell_row (p := 0) (ty := 157) rfl _ _ w.heap.size 157 (stArr st0) (0, 0) _ rfl (heap_alloc_new w _) Tryz.underlying157 rfl (by kernel_rfl)) rfl ⟨rfl, (Below.refl _ _).alloc (Nat.le_refl _) _⟩

end Go.Proofs.YtpkeikbiblfidaaGreatDoor.Dg
/-
  Contracts: the padding; the reference's constants; a copy into the middle of a block.
-/
namespace Go.Proofs.YtpkeikbiblfidaaGreatDoor.Dg
open Go.RowKit
set_option linter.unusedVariables false

/-- 'copy' into the middle of a block: the block alone has changed. -/
theorem wpList_copy_mid {P : Program} {w : World} {ops : Array Oper} {rest : List Oper} {o : Oper} {a : Act} {Q : Exit → Act → World → Prop} (hgd : o.guard = none) (d s : Operand) (dT sT : TypeId)
    (ho : o.op = .call { callee := .builtin .copy, args := #[d, s], argTypes := #[dT, sT] }) (elem : TypeId) (hu : P.underlying dT = some (.slice elem)) (hsz : (P.info? elem).map (·.size) = some 1)
    (g off dLen dCap : Nat) (ad : Addr) (sLen sCap : Nat) (hd : a.eval d = .slice (some ⟨g, off, none⟩) dLen dCap) (hs : a.eval s = .slice (some ad) sLen sCap)
    (cur : List Value) (t : TypeId) (hg : w.heap[g]? = some (.cells cur.toArray t (0, 0))) (cs : List Value) (hn : cs.length = Nat.min sLen dLen)
    (hsrc : ∀ j v, cs[j]? = some v → w.cell? (ad.add j) = some v) (hfit : off + cs.length ≤ cur.length) (h1 : ∀ v ∈ cs, v.oneCell' = true)
    (h : ∀ w', Hid (w'.heap[g]? = some (.cells (splice cur off cs).toArray t (0, 0))) → w.grownBy w' (some g) → wpList P ops Q rest (a.put o.dst (goInt cs.length)) w') :
    wpList P ops Q (o :: rest) a w := by
  refine wpList_copy_own hgd d s dT sT ho elem hu hsz g off dLen dCap ad sLen sCap hd hs cur.toArray t hg cs hn hsrc (by simpa using hfit) h1 ?_
  refine h _ (Lib.hid (by simpa [splice] using setRow_heap w g _ _ t _ hg)) ⟨rfl, rfl, rfl, by simp [World.setRow], fun k hk hne => setRow_other w g k _ (fun e => hne (by rw [e]))⟩

theorem owns_made_set {w : World} {B g n cap : Nat} {v : UInt8} (hB : B ≤ g) (hn : 0 < n) (hle : n ≤ cap) (hc : cap ≤ 140737488355328)
    (h : w.heap[g]? = some (.cells ((madeCells #[.int .u8 0] cap).setIfInBounds 0 (.int .u8 (v.toNat : Int))) 5 (0, 0))) :
    w.ownsRow B 5 1 (.slice (some ⟨g, 0, none⟩) n cap) n (bvs (v :: List.replicate (n - 1) 0)) := by
  refine ⟨by simp [bvs_length]; omega, .inr ⟨g, cap, _, rfl, hB, h, hle, by unfold maxLen; omega, by simp [size_madeCells], ?_⟩⟩
  rw [Array.toList_setIfInBounds, toList_madeCells_one]
  obtain ⟨k, rfl⟩ : ∃ k, n = k + 1 := ⟨n - 1, by omega⟩
  obtain ⟨m, rfl⟩ : ∃ m, cap = m + 1 := ⟨cap - 1, by omega⟩
  simp [List.replicate_succ, bvs, List.take_replicate, Nat.min_eq_left (show k ≤ m by omega)]

set_option maxRecDepth 20000 in
set_option maxHeartbeats 1000000 in
theorem padding_any (n : Nat) (w : World) (hn : n ≤ 1152921504606846976) :
    Calls Tryz.prog 190 #[.int .u64 n] w fun e w' => ∃ g c, e = .returned (.slice (some ⟨g, 0, none⟩) (72 - (n + 8) % 64) c) ∧ w.heap.size ≤ g ∧ Rd w' (some ⟨g, 0, none⟩) (72 - (n + 8) % 64) c (padN n) ∧ Below w.heap.size w w' := by
  obtain ⟨z, hz⟩ : ∃ z, z = 63 - (n + 8) % 64 := ⟨_, rfl⟩
  have hz1 : (63 : Int) - ((n : Int) + 8) % 64 = (z : Int) := by omega
  have hz2 : z < 64 := by omega
  have hm : 72 - (n + 8) % 64 = 1 + z + 8 := by omega
  have hp : padN n = (128 :: List.replicate (1 + z - 1) 0) ++ out8 (n * 8 % 18446744073709551616) := by unfold padN; rw [show 63 - (n + 8) % 64 = 1 + z - 1 from by omega]
  rw [hm, hp]
  have hmk : ∀ w, (Instr.makeSlice 128 (.int .i64 (1 + (z : Int))) (.int .i64 (1 + (z : Int) + 8))).run Tryz.prog w = .ok (.slice (some ⟨w.heap.size, 0, none⟩) (1 + z) (1 + z + 8)) (w.alloc (.cells (madeCells #[.int .u8 0] (1 + z + 8)) 5)) := fun w => by
    have := make_run (1 + z) (by omega) w
    simpa using this
  obtain ⟨i5, hi, hi0, hi1, hi2⟩ := info_parts Tryz.info5
  have hnew := heap_alloc_new w (.cells (madeCells #[.int .u8 0] (1 + z + 8)) 5)
  have hset := heap_alloc_new w (.cells ((madeCells #[.int .u8 0] (1 + z + 8)).setIfInBounds 0 (.int .u8 128)) 5)
  have hown := owns_made_set (v := 128) (n := 1 + z) (Nat.le_refl w.heap.size) (by omega) (by omega) (by omega) hset
  have hc0 : (w.alloc (.cells (madeCells #[.int .u8 0] (1 + z + 8)) 5)).cell? ⟨w.heap.size, 0, none⟩ = some (.int .u8 0) := by
    rw [cell_of_blk hnew, ← Array.getElem?_toList, toList_madeCells_one]; simp
  have hf0 : (w.alloc (.cells (madeCells #[.int .u8 0] (1 + z + 8)) 5)).frozen? ⟨w.heap.size, 0, none⟩ = false := free_of_blk hnew 0
  have hB : Below w.heap.size w (w.alloc (.cells ((madeCells #[.int .u8 0] (1 + z + 8)).setIfInBounds 0 (.int .u8 128)) 5)) := (Below.refl _ _).alloc (Nat.le_refl _) _
  have HZ := Lib.hid hz
  have HO := Lib.hid hown
  have HB := Lib.hid hB
  clear hz hnew hset hown hB hm hp
  go_enter Tryz.func190, Tryz.ntmps190
  go_wp2
  obtain ⟨xs, hxs⟩ : ∃ xs : List UInt8, xs = 128 :: List.replicate (1 + z - 1) 0 := ⟨_, rfl⟩
  obtain ⟨N, hN⟩ : ∃ N, N = n * 8 % 18446744073709551616 := ⟨_, rfl⟩
  have hNi : (n : Int) * 8 % 18446744073709551616 = (N : Int) := by omega
  have hown := HO.out
  have hB := HB.out
  rw [← hxs] at hown
  have hx0 : encTo N 8 0 = [] := rfl
  have HXS := Lib.hid hxs
  have HN := Lib.hid hN
  generalize w.alloc (.cells ((madeCells #[.int .u8 0] (1 + z + 8)).setIfInBounds 0 (.int .u8 128)) 5) = w1 at hown hB ⊢
  clear hN hxs HO HB hc0 hf0 hmk
  go_loopw [4, 19] (fun o i wr => ∃ k : Nat, k ≤ 8 ∧ i = .int .i64 k ∧ o = .slice (some ⟨w.heap.size, 0, none⟩) (1 + z + k) (1 + z + 8) ∧
      wr.ownsRow w.heap.size 5 1 (.slice (some ⟨w.heap.size, 0, none⟩) (1 + z + k) (1 + z + 8)) (1 + z + k) (bvs (xs ++ encTo N 8 k)) ∧ Below w.heap.size w wr) (fun _ i _ => 8 - (intOf i).toNat)
  case atStart => exact ⟨0, by omega, rfl, rfl, by simpa [hx0] using hown, hB⟩
  case round =>
    clear hown hx0 hB
    obtain ⟨k, hk, rfl, rfl, hown, hB⟩ := hrel
    by_cases hlt : k < 8
    · obtain ⟨j, hj⟩ : ∃ j, j = 8 - 1 - k := ⟨_, rfl⟩
      have hj1 : (7 : Int) - (k : Int) = (j : Int) := by omega
      have hj2 : (0 : Int) ≤ (j : Int) := by omega
      have hj3 : (j : Int) ≤ 7 := by omega
      go_wp2_with (first
        | (at_builtin; refine wpList_append_fits (o := ⟨some 31, _, _, _, _, _⟩) _ rfl (.tmp 22) (.tmp 30) 128 rfl w.heap.size 5 i5 1 Tryz.underlying128 hi hi1 w.heap.size (1 + z + k) (1 + z + 8) _ rfl (hown.alloc _) ⟨wr.heap.size, 0, none⟩ 1 1 (bvs [byteAt N (8 - 1 - k)]) rfl rfl ?d2 (bvs_one _) (by omega) ?d3))
      case d2 =>
        have hsb := shr_byte N j
        rw [← hj]
        have e8 : (n : Int) * 8 = (N : Int) := by have := HN.out; omega
        rw [e8, hsb]
        exact one_cell _ _
      intro w2 hown2 hgrow
      have hB2 := (hB.alloc (by have := hB.size; omega) _).grown hgrow (by have := hB.size; simp; omega) (fun j hj => by cases hj; exact Nat.le_refl _)
      rw [← bvs_append, List.append_assoc, ← encTo_snoc N 8 k hlt] at hown2
      clear hown hB hgrow
      go_wp2
      go_roundw
      case rel => exact ⟨k + 1, by omega, by go_num, rfl, hown2, hB2⟩
      case measure => simp [intOf]; omega
    · obtain rfl : k = 8 := by omega
      go_wp2
      go_ret
      have hrd := rd_of_owns hown (by omega)
      rw [show encTo N 8 8 = out8 N from List.take_of_length_le (by rw [enc_length]; omega), HXS.out, HN.out] at hrd
      exact ⟨_, _, rfl, Nat.le_refl _, hrd, hB⟩
end Go.Proofs.YtpkeikbiblfidaaGreatDoor.Dg
/-
  Contracts: Write.
-/
namespace Go.Proofs.YtpkeikbiblfidaaGreatDoor.Dg
open Go.RowKit
set_option linter.unusedVariables false
set_option linter.unusedSimpArgs false

/-- The hash at block p, its state laid. -/
structure Hst (w : World) (p : Nat) (xs : List UInt8) : Prop where
  blk : ∃ bl, w.heap[p]? = some (.cells (hcl (stArr (full xs)).toList bl xs.length).toArray 203 (0, 0)) ∧ bl.length = 64 ∧ bl.take (xs.length % 64) = xs.drop (xs.length / 64 * 64)

theorem stArr_list_one (s : St) : ∀ v ∈ (stArr s).toList, v.oneCell' = true := by
  intro v hv
  simp [stArr] at hv
  rcases hv with rfl | rfl | rfl | rfl | rfl | rfl | rfl | rfl <;> rfl

theorem Hst.hsh {w : World} {p : Nat} {xs : List UInt8} (h : Hst w p xs) (hle : xs.length ≤ 1152921504606846976) : Hsh w p xs := by
  obtain ⟨bl, h1, h2, h3⟩ := h.blk
  exact ⟨⟨_, bl, h1, rfl, stArr_list_one _, h2, fun _ => rfl, h3⟩, hle⟩

theorem Hsh.hst {w : World} {p : Nat} {xs : List UInt8} (h : Hsh w p xs) (h0 : 0 < xs.length) : Hst w p xs := by
  obtain ⟨sv, bl, h1, h2, h3, h4, h5, h6⟩ := h.blk
  obtain rfl := h5 h0
  exact ⟨bl, h1, h4, h6⟩

theorem Hst.kept {w w' : World} {p : Nat} {xs : List UInt8} (h : Hst w p xs) (hb : w'.heap[p]? = w.heap[p]?) : Hst w' p xs := by
  obtain ⟨bl, h1, h2⟩ := h.blk
  exact ⟨bl, hb.trans h1, h2⟩

theorem there_of_blk {w : World} {p : Nat} {cs : List Value} {t : TypeId} (h : w.heap[p]? = some (.cells cs.toArray t (0, 0))) (o n : Nat) (hn : o + n ≤ cs.length) : w.there p o n := fun j hj => by
  refine ⟨?_, free_of_blk h _⟩
  rw [cell_of_blk h]
  simp [List.getElem?_eq_getElem (show o + j < cs.length by omega)]

theorem heap_setCells (p : Nat) (t : TypeId) : ∀ (vs : List Value) (o : Nat) (w : World) (cs : List Value), w.heap[p]? = some (.cells cs.toArray t (0, 0)) → o + vs.length ≤ cs.length → (w.setCells p o vs).heap[p]? = some (.cells (splice cs o vs).toArray t (0, 0))
  | [], o, w, cs, h, hl => by
    show w.heap[p]? = _
    rw [h]; simp [splice]
  | v :: vs, o, w, cs, h, hl => by
    rw [World.setCells]
    simp only [List.length_cons] at hl
    have h1 : (w.setCell ⟨p, o, none⟩ v).heap[p]? = some (.cells (cs.set o v).toArray t (0, 0)) := by
      rw [blk_setCell h]; simp
    rw [heap_setCells p t vs (o + 1) _ (cs.set o v) h1 (by simp; omega)]
    have e : splice (cs.set o v) (o + 1) vs = splice cs o (v :: vs) := by
      unfold splice
      rw [List.take_set, List.drop_set_of_lt (by omega), List.take_add_one, List.getElem?_eq_getElem (show o < cs.length by omega)]
      simp only [Option.toList_some, List.length_cons]
      rw [List.set_append_right _ _ (by simp; omega), List.append_assoc]
      rw [show o + 1 + vs.length = o + (vs.length + 1) from by omega, show o - (List.take o cs).length = 0 from by simp; omega]
      simp
    rw [e]

theorem gb_setCells (w : World) (p o : Nat) (vs : List Value) : w.grownBy (w.setCells p o vs) (some p) := by
  induction vs generalizing w o with
  | nil => exact World.grownBy.refl _ _
  | cons v vs ih =>
    rw [World.setCells]
    exact gb_trans (gb_setCell (World.grownBy.refl _ _)) (ih _ _)

theorem gb_below {w w' : World} {p : Nat} (h : Below w.heap.size w w') : w.grownBy w' (some p) := ⟨h.os, h.tape, h.output, h.size, fun k hk _ => h.block k hk⟩

def slLen : Value → Nat
  | .slice _ l _ => l
  | _ => 0

/-- 's[m:]' of a slice of bytes. -/
theorem slice_from (a : Option Addr) (n c m : Nat) (hm : m ≤ n) (hc : n ≤ c) (w : World) :
    (Instr.sliceAt 128 (.slice a n c) (some (.int .i64 (m : Int))) none none).run Tryz.prog w = .ok (.slice (if c = m then a else a.map (·.add m)) (n - m) (c - m)) w := by
  have hu := Tryz.underlying128
  have hz : ∀ w, (sizeOf 5).run Tryz.prog w = .ok 1 w := fun _ => by kernel_rfl
  have h1 : (0 : Int) ≤ (m : Int) ∧ (m : Int) ≤ (n : Int) := by omega
  simp [Instr.sliceAt, Instr.slice, Instr.sliceBounds, Instr.sliceBound, run_underlying hu, asIntOf, h1, hm, hz, go_sem]

theorem slice_rd {w : World} {a : Option Addr} {n c m : Nat} {ys : List UInt8} (h : Rd w a n c ys) (hm : m ≤ n) : Rd w (if c = m then a else a.map (·.add m)) (n - m) (c - m) (ys.drop m) := by
  by_cases e : c = m
  · rw [if_pos e, show c - m = 0 from by omega]
    exact h.suf_end hm e
  · rw [if_neg e]; exact h.suf hm

theorem slice_blk {a : Option Addr} {c m : Nat} {p : Nat} (h : ∀ x, a = some x → x.block ≠ p) : ∀ x, (if c = m then a else a.map (·.add m)) = some x → x.block ≠ p := by
  intro x hx
  by_cases e : c = m
  · rw [if_pos e] at hx; exact h x hx
  · rw [if_neg e] at hx
    cases a with
    | none => cases hx
    | some y => simp only [Option.map_some, Option.some.injEq] at hx; subst hx; rw [add_block]; exact h y rfl

/-- The load of an array out of the middle of a block, as one step of a region that draws. -/
theorem step_load_mid {P : Program} {ops : Array Oper} {w : World} {K : Act → World → Prop} {Q : Exit → Act → World → Prop} {E : Prop} {op : Oper} {a : Act} (hgd : op.guard = none) (ty : TypeId) (x : Operand) (ho : op.op = .load ty x)
    (b o : Nat) (hx : a.eval x = .pointer (some ⟨b, o, none⟩)) (cs : List Value) (d : TypeDesc) (hc : w.rangeAt b o cs)
    (hu : P.underlying ty = some d) (hd : d.isRow = true) (hi : (P.info? ty).map (·.size) = some cs.length)
    (h : K (a.put op.dst (.agg cs.toArray)) w) : if Region.wanted op (yielded ops a.tmps) = true then Oper.wp P op a w K Q else E := by
  have hw : Region.wanted op (yielded ops a.tmps) = true := by simp [Region.wanted, hgd]
  rw [if_pos hw]
  exact wp_load_mid ty x ho b o hx cs d hc hu hd hi h

theorem step_store_mid {P : Program} {ops : Array Oper} {w : World} {K : Act → World → Prop} {Q : Exit → Act → World → Prop} {E : Prop} {op : Oper} {a : Act} (hgd : op.guard = none) (ty : TypeId) (x y : Operand) (ho : op.op = .store ty x y)
    (b o : Nat) (cells : Array Value) (hx : a.eval x = .pointer (some ⟨b, o, none⟩)) (hy : a.eval y = .agg cells)
    (ht : w.there b o cells.size) (hi : (P.info? ty).map (·.size) = some cells.size) (h1 : cells.all (·.oneCell') = true)
    (h : K (a.put op.dst undef) (w.setCells b o cells.toList)) : if Region.wanted op (yielded ops a.tmps) = true then Oper.wp P op a w K Q else E := by
  have hw : Region.wanted op (yielded ops a.tmps) = true := by simp [Region.wanted, hgd]
  rw [if_pos hw]
  exact wp_store_mid ty x y ho b o cells hx hy ht hi h1 h

theorem abstract_act {P : Program} {c : Code} {Q : Exit → Act → World → Prop} {a : Act} {w : World} (h : ∀ act, act = a → c.wp P Q act w) : c.wp P Q a w := h a rfl

theorem ev_same (a : Act) (d : Nat) (v : Value) (h : d < a.tmps.size) : (a.put (some d) v).eval (.tmp d) = v := by simp [Act.put, Act.eval, Array.getD, h]
theorem ev_ne (a : Act) (d e : Nat) (v : Value) (h : d ≠ e) : (a.put (some d) v).eval (.tmp e) = a.eval (.tmp e) := by
  show (a.tmps.setIfInBounds d v).getD e undef = a.tmps.getD e undef
  rw [Array.getD_eq_getD_getElem?, Array.getD_eq_getD_getElem?, Array.getElem?_setIfInBounds_ne h]
theorem size_put (a : Act) (d : Nat) (v : Value) : (a.put (some d) v).tmps.size = a.tmps.size := by simp [Act.put]

theorem take_run {P : Program} {md : Region.Mode} {ops : Array Oper} {Q : Exit → Act → World → Prop} {fuel : Nat} {listed : Array Bool} {a : Act} {w : World} (i : Nat) (o : Oper) (d : Nat) (v : Value) (hi : ops[i]? = some o) (hd : o.dst = some d) (hgd : o.guard = none)
    (hs : Region.noSelect ops = true) (hf : Region.free md ops listed i = true) (hr : (Region.ready md ops listed).contains i = true)
    (hQ : ∀ c a w, Q (.panic c) (a.put (some d) v) w → Q (.panic c) a w) (hy : ∀ w, (execOp a.eval o).run P w = .ok (.value v) w)
    (h : wpAny P md ops Q fuel (listed.setIfInBounds i true) (a.put (some d) v) w) : wpAny P md ops Q (fuel + 1) listed a w := by
  refine wpAny_take hi hs hf hr (by rw [hd]; exact hQ) (Or.inl ⟨by simp [Region.wanted, hgd], hy⟩) (by rw [hd]; exact h)

theorem run_move {P : Program} {a : Act} {o : Oper} {x : Operand} {v : Value} (ho : o.op = .move x) (hx : a.eval x = v) (w : World) : (execOp a.eval o).run P w = .ok (.value v) w := by
  unfold execOp; simp [ho, hx]
theorem run_nil {P : Program} {a : Act} {o : Oper} {x : Operand} {b off : Nat} (ho : o.op = .nilCheck x) (hx : a.eval x = .pointer (some ⟨b, off, none⟩)) (w : World) : (execOp a.eval o).run P w = .ok (.value (.pointer (some ⟨b, off, none⟩))) w := by
  unfold execOp; simp only [ho, hx]; rfl
theorem run_field {P : Program} {a : Act} {o : Oper} {t : TypeId} {x : Operand} {f : Nat} {u v : Value} (ho : o.op = .fieldAddr t x f) (hx : a.eval x = u) (hf : ∀ w, (Instr.fieldAt t u f).run P w = .ok v w) (w : World) : (execOp a.eval o).run P w = .ok (.value v) w := by
  unfold execOp; simp [ho, hx, hf]
theorem step_call {P : Program} {ops : Array Oper} {w : World} {K : Act → World → Prop} {Q : Exit → Act → World → Prop} {E : Prop} {op : Oper} {a : Act} (hgd : op.guard = none) (f : FuncId) (hrun : ∀ args w, (callFunc f args).run P w = .ok (.enter f args) w) (x y : Operand) (tys : Array TypeId)
    (ho : op.op = .call { callee := .value (.func f), args := #[x, y], argTypes := tys }) (u v r : Value) (hx : a.eval x = u) (hy : a.eval y = v) (C : World → Prop) (hc : Calls P f #[u, v] w fun e w' => e = .returned r ∧ C w')
    (h : ∀ w', C w' → K (a.put op.dst r) w') : if Region.wanted op (yielded ops a.tmps) = true then Oper.wp P op a w K Q else E := by
  have hw : Region.wanted op (yielded ops a.tmps) = true := by simp [Region.wanted, hgd]
  rw [if_pos hw]
  have e : (execOp a.eval op).run P w = .ok (.enter f #[u, v]) w := by
    obtain ⟨d, o2, t2, p2, af, g⟩ := op
    simp only at ho
    subst ho
    show (callFunc f (#[] ++ #[x, y].map a.eval ++ #[])).run P w = _
    rw [hrun]
    simp [← hx, ← hy]
  unfold Oper.wp
  rw [e]
  exact hc.mono (by rintro e w' ⟨rfl, hC⟩; exact h w' hC)

theorem next_enter (args : Array Value) (w : World) : (callFunc 189 args).run Tryz.prog w = .ok (.enter 189 args) w := by
  have h1 : Tryz.f189.name ≠ "runtime.NumGoroutine" := by decide
  obtain ⟨c, hb⟩ : ∃ c, Tryz.f189.body = some c := ⟨_, rfl⟩
  simp [callFunc, Tryz.func189, h1, hb]

theorem field0 (p : Nat) (w : World) : (Instr.fieldAt 203 (.pointer (some ⟨p, 0, none⟩)) 0).run Tryz.prog w = .ok (.pointer (some ⟨p, 0, none⟩)) w := by kernel_rfl
theorem field1 (p : Nat) (w : World) : (Instr.fieldAt 203 (.pointer (some ⟨p, 0, none⟩)) 1).run Tryz.prog w = .ok (.pointer (some ⟨p, 8, none⟩)) w := by kernel_rfl

theorem bvs_bArr {b : List UInt8} (h : b.length = 64) : (bvs b).toArray = bArr b := by
  apply Array.ext
  · simp [bvs_length, h, bArr]
  · intro i h1 h2
    have h3 : i < b.length := by simpa [bvs_length] using h1
    simp [bvs, bArr, byt, List.getElem?_eq_getElem h3]

theorem range_of_hcl_state {w : World} {p n : Nat} {sv : List Value} {bl : List UInt8} {t : TypeId} (h : w.heap[p]? = some (.cells (hcl sv bl n).toArray t (0, 0))) : w.drew.rangeAt p 0 sv := fun j v hj => by
  rw [World.cell?_drew, cell_of_blk h, Nat.zero_add]
  simpa using hcl_state (blk := bl) n j v hj

theorem range_of_hcl_block {w : World} {p n : Nat} {s : St} {bl : List UInt8} {t : TypeId} (h : w.heap[p]? = some (.cells (hcl (stArr s).toList bl n).toArray t (0, 0))) : w.drew.rangeAt p 8 (bvs bl) := fun j v hj => by
  rw [World.cell?_drew, cell_of_blk h]
  simpa using hcl_block (sv := (stArr s).toList) n j v rfl hj

set_option maxRecDepth 20000 in
set_option maxHeartbeats 2000000 in
theorem write_any (p : Nat) (xs : List UInt8) (a : Option Addr) (n cap : Nat) (ys : List UInt8) (w : World) (hh : Hsh w p xs) (hR : Rd w a n cap ys) (hne : ∀ x, a = some x → 0 < n → x.block ≠ p) (hK : Kon w) (hp : p ≠ 2) (hl : xs.length + n ≤ 1152921504606846976) :
    Calls Tryz.prog 178 #[.pointer (some ⟨p, 0, none⟩), .slice a n cap] w fun e w' => e = .returned (.tuple #[]) ∧ Hst w' p (xs ++ ys) ∧ w.grownBy w' (some p) := by
  have hc := hh.count
  have hle := hh.le
  have hlen := Lib.hid hR.len
  have hfr := hh.free
  have HH := Lib.hid hh
  have HR := Lib.hid hR
  have HNE := Lib.hid hne
  have HK := Lib.hid hK
  have hi36 : (Tryz.prog.info? 157).map (·.size) = some (stArr st0).size := by kernel_rfl
  have hsz5 : (Tryz.prog.info? 5).map (·.size) = some 1 := by kernel_rfl
  have HS1 := stArr_one st0
  clear hh hR hne hK
  go_enter Tryz.func178, Tryz.ntmps178
  go_upto_if 12 with fail
  go_cut [] (fun wx => Hst wx p xs ∧ w.grownBy wx (some p))
  case first =>
    by_cases hx : xs = []
    · subst hx
      obtain ⟨sv, bl, h1, h2, h3, h4, h5, h6⟩ := HH.out.blk
      have hth : ∀ w1, Below w.heap.size w w1 → w1.heap[p]? = some (.cells (hcl sv bl 0).toArray 203 (0, 0)) := fun w1 hb => (hb.block p HH.out.lt).trans h1
      have HT := Lib.hid hth
      clear hth h1 h5 h6 h3
      go_wp2_with fail
      refine (start_any _).mono ?_
      rintro e w1 ⟨rfl, hb1⟩
      have hw1 := HT.out w1 hb1
      have hth : w1.there p 0 (stArr st0).size := there_of_blk hw1 0 8 (by rw [hcl_length 0 h2 h4]; omega)
      have hcells := heap_setCells p 203 (stArr st0).toList 0 w1 _ hw1 (by rw [hcl_length 0 h2 h4]; simp [stArr])
      rw [hcl_splice_state 0 h2 rfl] at hcells
      have HC := Lib.hid hcells
      clear hcells hw1
      go_wp2_with (with_reducible refine wpList_store_mid (op := ⟨none, _, _, _, _, _⟩) rfl 157 (.tmp 16) (.tmp 14) rfl p 0 (stArr st0) rfl rfl hth hi36 HS1 ?_)
      go_meet
      exact ⟨⟨bl, HC.out, h4, rfl⟩, gb_trans (gb_below hb1) (gb_setCells _ _ _ _)⟩
    · have hpos : 0 < xs.length := by cases xs with | nil => exact absurd rfl hx | cons => simp
      have hz0 : ((xs.length : Int) == 0) = false := by simp; exact hx
      go_wp2_with fail
      go_meet
      exact ⟨HH.out.hst hpos, World.grownBy.refl _ _⟩
  case rest =>
    obtain ⟨hst, hgr⟩ := hcut
    have hHS := Lib.hid hst
    have hGR := Lib.hid hgr
    clear hst hgr hc hfr HS1 hi36
    go_wp2_with fail
    go_loopw [1] (fun b wr => ∃ (k : Nat) (a' : Option Addr) (c' : Nat), k ≤ n ∧ b = .slice a' (n - k) c' ∧ Rd wr a' (n - k) c' (ys.drop k) ∧ (∀ x, a' = some x → 0 < n - k → x.block ≠ p) ∧ Hst wr p (xs ++ ys.take k) ∧ w.grownBy wr (some p)) (fun b _ => slLen b)
    case atStart => exact ⟨0, a, cap, by omega, rfl, by simpa using HR.out.kept0 hGR.out.size (fun b off e h0 => hGR.out.block b (by obtain ⟨b', o', e', hb, _⟩ := HR.out.at0 h0; rw [e] at e'; cases e'; exact hb) (by have := HNE.out _ e h0; simpa using this)), fun x e h0 => HNE.out x e (by omega), by simpa using hHS.out, hGR.out⟩
    case round =>
      obtain ⟨k, a', c', hk, rfl, hrd, hnb, hst, hgr⟩ := hrel
      by_cases hlt : k < n
      · obtain ⟨zs, hzs⟩ : ∃ zs, zs = xs ++ ys.take k := ⟨_, rfl⟩
        have hzl : zs.length = xs.length + k := by rw [hzs]; simp [hlen.out]; omega
        rw [← hzs] at hst
        obtain ⟨pd, hpd⟩ : ∃ pd, pd = zs.length % 64 := ⟨_, rfl⟩
        have hp64 : pd < 64 := by omega
        obtain ⟨m, hm⟩ : ∃ m, m = Nat.min (n - k) (64 - pd) := ⟨_, rfl⟩
        have hm1 : m ≤ n - k := by rw [hm]; exact Nat.min_le_left _ _
        have hm2 : m ≤ 64 - pd := by rw [hm]; exact Nat.min_le_right _ _
        have hm0 : 0 < m := by rw [hm]; exact Nat.lt_min.2 ⟨by omega, by omega⟩
        obtain ⟨zz, hzz⟩ : ∃ zz, zz = (ys.drop k).take m := ⟨_, rfl⟩
        have hzzl : zz.length = m := by rw [hzz]; simp [hlen.out]; omega
        have hpend := fun w1 (h : Hst w1 p zs) => pending_any p zs w1 (h.hsh (by omega))
        rw [← hpd] at hpend
        obtain ⟨bl, hb1, hb2, hb3⟩ := hst.blk
        obtain ⟨ad, rfl⟩ : ∃ ad, a' = some ad := by
          obtain ⟨b1, o1, e1, _⟩ := hrd.at0 (by omega)
          exact ⟨_, e1⟩
        have hadb : ∀ j v, (bvs zz)[j]? = some v → wr.cell? (ad.add j) = some v := by
          intro j v hv
          obtain ⟨b1, o1, e1, _, hc1⟩ := hrd.at0 (by omega)
          cases e1
          have hj : j < zz.length := by have := (List.getElem?_eq_some_iff.1 hv).1; simpa [bvs_length] using this
          rw [bvs_at zz j hj] at hv
          rw [Addr.add_none, hc1 j (by omega), ← hv, hzz, List.getElem?_take_of_lt (by omega)]
        have hsl := fun w1 => slice_from (some ad) (n - k) c' m hm1 hrd.le w1
        have hsr := fun w1 (h : Rd w1 (some ad) (n - k) c' (ys.drop k)) => slice_rd h hm1
        have hsb := slice_blk (c := c') (m := m) (fun x e => hnb x e (by omega))
        generalize (if c' = m then some ad else Option.map (·.add m) (some ad)) = a2 at hsl hsr hsb
        have hzm : zs ++ zz = xs ++ ys.take (k + m) := by rw [hzs, hzz, List.append_assoc, ← List.take_add]
        have hkm : n - k - m = n - (k + m) := by omega
        have hsp : splice (hcl (stArr (full zs)).toList bl zs.length) (8 + pd) (bvs zz) = hcl (stArr (full zs)).toList (splice bl pd zz) zs.length := hcl_splice_block _ _ rfl hb2 (by omega)
        have hl2 : (splice bl pd zz).length = 64 := by rw [splice_length _ (by omega), hb2]
        have ht2 : (splice bl pd zz).take (pd + m) = zs.drop (zs.length / 64 * 64) ++ zz := by
          have := splice_take (blk := bl) (ys := zz) pd (by omega)
          rw [hzzl] at this
          rw [this, hpd, hb3]
        generalize splice bl pd zz = b2 at hsp hl2 ht2
        have hwm : wr.heap[p]? = _ := hb1
        have i1 : (0 : Int) ≤ (pd : Int) := by omega
        have i2 : (pd : Int) ≤ 64 := by omega
        have i3 : ¬ (64 = pd) := by omega
        have hfit : 8 + pd + (bvs zz).length ≤ (hcl (stArr (full zs)).toList bl zs.length).length := by rw [hcl_length _ rfl hb2, bvs_length]; omega
        have hcn : (bvs zz).length = Nat.min (n - k) (64 - pd) := by rw [bvs_length, hzzl, hm]
        have HP := Lib.hid hpend
        have HRd := Lib.hid hrd
        have HG0 := Lib.hid hgr
        have HSR := Lib.hid hsr
        have HST := Lib.hid hst
        have HZL := Lib.hid hzl
        have HCN := Lib.hid hcn
        have HPD := Lib.hid hpd
        have HM := Lib.hid hm
        have HSP := Lib.hid hsp
        have HT2 := Lib.hid ht2
        have hzb : zs.length ≤ 1152921504606846976 := by omega
        have hbl : (bvs zz).length = m := by rw [bvs_length, hzzl]
        have j1 : (0 : Int) ≤ (m : Int) := by omega
        clear hst hgr hpend hsr hb1 hb3 hzs hpd hm hzz hzl hsp ht2 hb2 hcn
        go_wp2_with (first
          | (go_at_call 188; refine (HP.out _ HST.out).mono ?_; rintro e w' ⟨rfl, rfl⟩)
          | (with_reducible refine wpList_copy_mid (o := ⟨some 28, _, _, _, _, _⟩) rfl (.tmp 26) (.tmp 27) 128 128 rfl 5 Tryz.underlying128 hsz5 p (8 + pd) (64 - pd) (64 - pd) ad (n - k) c' rfl rfl (hcl (stArr (full zs)).toList bl zs.length) 203 hwm (bvs zz) HCN.out hadb hfit (bvs_one zz) ?_))
        intro w2 HG hg2
        have hG := HG.out
        rw [HSP.out] at hG
        have c72 : w2.cell? ⟨p, 72, none⟩ = some (.int .u64 (zs.length : Int)) := by rw [cell_of_blk hG]; simpa using hcl_count zs.length rfl hl2
        have f72 : w2.frozen? ⟨p, 72, none⟩ = false := free_of_blk hG 72
        have hG3 : (w2.setCell ⟨p, 72, none⟩ (.int .u64 ((zs.length : Int) + (m : Int)))).heap[p]? = some (.cells (hcl (stArr (full zs)).toList b2 (zs.length + m)).toArray 203 (0, 0)) := by
          rw [blk_setCell hG]
          have := hcl_set_count (sv := (stArr (full zs)).toList) (blk := b2) zs.length (zs.length + m) rfl hl2
          rw [← this]
          simp
        have hg3 : w.grownBy (w2.setCell ⟨p, 72, none⟩ (.int .u64 ((zs.length : Int) + (m : Int)))) (some p) := gb_trans HG0.out (gb_setCell hg2)
        have hR3 := (HSR.out _ HRd.out).kept0 (w' := w2.setCell ⟨p, 72, none⟩ (.int .u64 ((zs.length : Int) + (m : Int)))) (gb_setCell hg2).size (fun b off e h0 => (gb_setCell hg2).block b (by
          obtain ⟨b', o', e', hb, _⟩ := (HSR.out _ HRd.out).at0 h0
          rw [e] at e'; cases e'; exact hb) (by have := hsb _ e; simpa using this))
        have HG3 := Lib.hid hG3
        have Hg3 := Lib.hid hg3
        have HR3 := Lib.hid hR3
        clear hG hG3 hg3 hR3 hg2 HG hwm hadb hfit hrd
        by_cases h64 : pd + m = 64
        · have hdec : (((pd : Int) + (m : Int)) == 64) = true := by simp; omega
          obtain ⟨w3, hw3⟩ : ∃ w3, w3 = w2.setCell ⟨p, 72, none⟩ (.int .u64 ((zs.length : Int) + (m : Int))) := ⟨_, rfl⟩
          have hG3 := HG3.out
          rw [← hw3] at hG3
          have hg3 := Hg3.out
          rw [← hw3] at hg3
          have hK3 : Kon w3.drew := fun j hj => by
            have := HK.out j hj
            rw [World.cell?_drew, World.cell?_of_block (w := w) (hg3.block _ (World.block_lt_of_cell? w _ this) (by show some _ ≠ some _; intro e; cases e; exact hp rfl))]
            exact this
          obtain ⟨A, hA⟩ : ∃ A, A = stArr (full zs) := ⟨_, rfl⟩
          obtain ⟨Bv, hBv⟩ : ∃ Bv, Bv = bArr b2 := ⟨_, rfl⟩
          have hBv2 : (bvs b2).toArray = Bv := by rw [hBv]; exact bvs_bArr hl2
          obtain ⟨R, hR⟩ : ∃ R, R = stArr (nxt (full zs) b2) := ⟨_, rfl⟩
          have hN := next_any (full zs) b2
          rw [← hA, ← hBv, ← hR] at hN
          have hS : ∀ w4, Below w3.drew.heap.size w3.drew w4 → (Instr.storeAt 157 (.pointer (some ⟨p, 0, none⟩)) (.agg R)).run Tryz.prog w4 = .ok () (w4.setCells p 0 R.toList) := fun w4 hb4 => by
            have h4 : w4.heap[p]? = _ := (hb4.block p (lt_of_block hG3)).trans hG3
            exact run_storeAt_mid w4 p 0 157 R (by rw [hR]; exact there_of_blk h4 0 8 (by rw [hcl_length _ rfl hl2]; omega)) (by rw [hR]; kernel_rfl) (by rw [hR]; exact stArr_one _)
          have HL1 := Lib.hid (range_of_hcl_state hG3)
          have HL2 := Lib.hid (range_of_hcl_block hG3)
          have HN := Lib.hid hN
          have HS := Lib.hid hS
          have HW3 := Lib.hid hw3
          have HG4 := Lib.hid hG3
          have Hg4 := Lib.hid hg3
          have HK3 := Lib.hid hK3
          have HRr := Lib.hid hR
          have HAa := Lib.hid hA
          have HBv := Lib.hid hBv2
          clear hN hS hG3 hg3 hK3 hA hBv hBv2 hR hw3
          go_wp2_with fail
          rw [← HW3.out]
          clear c72 f72
          have hr1 : w3.drew.rangeAt p 0 A.toList := by rw [HAa.out]; exact HL1.out
          have hr2 : w3.drew.rangeAt p 8 Bv.toList := by rw [← HBv.out]; exact HL2.out
          have hi64 : (Tryz.prog.info? 201).map (·.size) = some Bv.toList.length := by rw [← HBv.out]; show _ = some (bvs b2).length; rw [bvs_length, hl2]; kernel_rfl
          have hi8 : (Tryz.prog.info? 157).map (·.size) = some A.toList.length := by rw [HAa.out]; kernel_rfl
          have HR1 := Lib.hid hr1
          have HR2 := Lib.hid hr2
          have HI64 := Lib.hid hi64
          have HI8 := Lib.hid hi8
          clear hr1 hr2 hi64 hi8
          refine abstract_act (fun act hact => ?_)
          have x0 : act.eval (.tmp 0) = .pointer (some ⟨p, 0, none⟩) := by rw [hact]; rfl
          have xs0 : act.tmps.size = 57 := by rw [hact]; rfl
          have HACT := Lib.hid hact
          clear hact
          refine wp_region_any (by kernel_rfl) ?_
          change wpAny _ _ _ _ _ _ _ w3.drew
          refine take_run 0 ⟨some 45, .move (.tmp 0), _, _, _, _⟩ 45 (.pointer (some ⟨p, 0, none⟩)) rfl rfl rfl (by kernel_rfl) (by kernel_rfl) (by kernel_rfl) (fun _ _ _ h => h) (run_move rfl (by simp [ev_same, ev_ne, size_put, x0, xs0])) ?_
          refine take_run 1 ⟨some 46, .move (.tmp 0), _, _, _, _⟩ 46 (.pointer (some ⟨p, 0, none⟩)) rfl rfl rfl (by kernel_rfl) (by kernel_rfl) (by kernel_rfl) (fun _ _ _ h => h) (run_move rfl (by simp [ev_same, ev_ne, size_put, x0, xs0])) ?_
          refine take_run 2 ⟨some 47, .nilCheck (.tmp 46), _, _, _, _⟩ 47 (.pointer (some ⟨p, 0, none⟩)) rfl rfl rfl (by kernel_rfl) (by kernel_rfl) (by kernel_rfl) (fun _ _ _ h => h) (run_nil rfl (by simp [ev_same, ev_ne, size_put, x0, xs0])) ?_
          refine take_run 3 ⟨some 48, .fieldAddr 203 (.tmp 47) 0, _, _, _, _⟩ 48 (.pointer (some ⟨p, 0, none⟩)) rfl rfl rfl (by kernel_rfl) (by kernel_rfl) (by kernel_rfl) (fun _ _ _ h => h) (run_field rfl (by simp [ev_same, ev_ne, size_put, x0, xs0]) (field0 p)) ?_
          refine take_run 5 ⟨some 50, .move (.tmp 0), _, _, _, _⟩ 50 (.pointer (some ⟨p, 0, none⟩)) rfl rfl rfl (by kernel_rfl) (by kernel_rfl) (by kernel_rfl) (fun _ _ _ h => h) (run_move rfl (by simp [ev_same, ev_ne, size_put, x0, xs0])) ?_
          refine take_run 6 ⟨some 51, .nilCheck (.tmp 50), _, _, _, _⟩ 51 (.pointer (some ⟨p, 0, none⟩)) rfl rfl rfl (by kernel_rfl) (by kernel_rfl) (by kernel_rfl) (fun _ _ _ h => h) (run_nil rfl (by simp [ev_same, ev_ne, size_put, x0, xs0])) ?_
          refine take_run 7 ⟨some 52, .fieldAddr 203 (.tmp 51) 1, _, _, _, _⟩ 52 (.pointer (some ⟨p, 8, none⟩)) rfl rfl rfl (by kernel_rfl) (by kernel_rfl) (by kernel_rfl) (fun _ _ _ h => h) (run_field rfl (by simp [ev_same, ev_ne, size_put, x0, xs0]) (field1 p)) ?_
          refine wpAny_ready (rs := [4, 8]) (by kernel_rfl) (by simp) ?_
          refine AllReady.cons (o := ⟨some 49, .load 157 (.tmp 48), _, _, _, _⟩) rfl (fun K hK => ?_) (AllReady.cons (o := ⟨some 53, .load 201 (.tmp 52), _, _, _, _⟩) rfl (fun K hK => ?_) AllReady.nil)
          · with_reducible refine step_load_mid (hgd := rfl) 157 (.tmp 48) rfl p 0 (by simp [ev_same, ev_ne, size_put, x0, xs0]) A.toList _ HR1.out Tryz.underlying157 rfl HI8.out (hK _ _ ?_)
            clear hK K
            refine wpAny_ready (rs := [8]) (by kernel_rfl) (by simp) ?_
            refine AllReady.cons (o := ⟨some 53, .load 201 (.tmp 52), _, _, _, _⟩) rfl (fun K hK => ?_) AllReady.nil
            with_reducible refine step_load_mid (hgd := rfl) 201 (.tmp 52) rfl p 8 (by simp [ev_same, ev_ne, size_put, x0, xs0]) Bv.toList _ HR2.out Tryz.underlying201 rfl HI64.out (hK _ _ ?_)
            clear hK K
            refine wpAny_ready (rs := [9]) (by kernel_rfl) (by simp) ?_
            refine AllReady.cons (o := ⟨some 54, .call { callee := .value (.func 189), args := #[.tmp 49, .tmp 53], argTypes := #[157, 201] }, _, _, _, _⟩) rfl (fun K hK => ?_) AllReady.nil
            with_reducible refine step_call rfl 189 next_enter (.tmp 49) (.tmp 53) _ rfl (.agg A) (.agg Bv) (.agg R) (by simp [ev_same, ev_ne, size_put, x0, xs0]) (by simp [ev_same, ev_ne, size_put, x0, xs0]) _ (HN.out _ (full_ok _) HK3.out) (fun w4 hb4 => hK _ _ ?_)
            clear hK K
            refine take_run 10 ⟨some 55, .nilCheck (.tmp 45), _, _, _, _⟩ 55 (.pointer (some ⟨p, 0, none⟩)) rfl rfl rfl (by kernel_rfl) (by kernel_rfl) (by kernel_rfl) (fun _ _ _ h => h) (run_nil rfl (by simp [ev_same, ev_ne, size_put, x0, xs0])) ?_
            refine take_run 11 ⟨some 56, .fieldAddr 203 (.tmp 55) 0, _, _, _, _⟩ 56 (.pointer (some ⟨p, 0, none⟩)) rfl rfl rfl (by kernel_rfl) (by kernel_rfl) (by kernel_rfl) (fun _ _ _ h => h) (run_field rfl (by simp [ev_same, ev_ne, size_put, x0, xs0]) (field0 p)) ?_
            refine wpAny_ready (rs := [12]) (by kernel_rfl) (by simp) ?_
            refine AllReady.cons (o := ⟨none, .store 157 (.tmp 56) (.tmp 54), _, _, _, _⟩) rfl (fun K hK => ?_) AllReady.nil
            have h4 : w4.heap[p]? = some (.cells (hcl (stArr (full zs)).toList b2 (zs.length + m)).toArray 203 (0, 0)) := (hb4.block p (lt_of_block HG4.out)).trans HG4.out
            have hth : w4.there p 0 R.size := by rw [HRr.out]; exact there_of_blk h4 0 8 (by rw [hcl_length _ rfl hl2]; omega)
            have hi36 : (Tryz.prog.info? 157).map (·.size) = some R.size := by rw [HRr.out]; kernel_rfl
            have hR1 : R.all (·.oneCell') = true := by rw [HRr.out]; exact stArr_one _
            have hcells := heap_setCells p 203 R.toList 0 w4 _ h4 (by rw [hcl_length _ rfl hl2, HRr.out]; simp [stArr])
            rw [hcl_splice_state (sv' := R.toList) _ rfl (by rw [HRr.out]; rfl)] at hcells
            have HC := Lib.hid hcells
            have HB4 := Lib.hid hb4
            with_reducible refine step_store_mid (hgd := rfl) 157 (.tmp 56) (.tmp 54) rfl p 0 R (by simp [ev_same, ev_ne, size_put, x0, xs0]) (by simp [ev_same, ev_ne, size_put, x0, xs0]) hth hi36 hR1 (hK _ _ ?_)
            clear hK K hcells h4 hb4 hth hi36 hR1
            refine wpAny_done (by kernel_rfl) ?_ _
            rw [HACT.out]
            clear x0 xs0
            simp only [Act.put, List.setIfInBounds_toArray, List.set_cons_succ, List.set_cons_zero]
            go_wp2_with fail
            go_roundw
            case rel =>
              have e1 := HZL.out
              have e2 := HPD.out
              have hgf : w3.grownBy (w4.setCells p 0 R.toList) (some p) := gb_trans (gb_drew (World.grownBy.refl _ _)) (gb_trans (gb_below HB4.out) (gb_setCells _ _ _ _))
              have hR3 := HR3.out
              rw [← HW3.out] at hR3
              refine ⟨k + m, a2, c' - m, by omega, rfl, by rw [← hkm, ← List.drop_drop]; exact hR3.kept0 hgf.size (fun b off e h0 => hgf.block b (by
                obtain ⟨b', o', e', hb, _⟩ := hR3.at0 h0
                rw [e] at e'; cases e'; exact hb) (by have := hsb _ e; simpa using this)), (fun x e _ => hsb x e), ?_, gb_trans Hg4.out hgf⟩
              rw [← hzm]
              have hfs : full (zs ++ zz) = nxt (full zs) b2 := by
                rw [full_step zs zz (by omega), ← HT2.out, List.take_of_length_le (by omega)]
              refine ⟨b2, by rw [hfs, List.length_append, hzzl, ← HRr.out]; exact HC.out, hl2, ?_⟩
              have e3 : (zs ++ zz).length % 64 = 0 := by simp [hzzl]; omega
              have e4 : (zs ++ zz).length / 64 * 64 = (zs ++ zz).length := by omega
              rw [e3, e4, List.drop_length]; rfl
            case measure => simp [slLen]; omega
          · with_reducible refine step_load_mid (hgd := rfl) 201 (.tmp 52) rfl p 8 (by simp [ev_same, ev_ne, size_put, x0, xs0]) Bv.toList _ HR2.out Tryz.underlying201 rfl HI64.out (hK _ _ ?_)
            clear hK K
            refine wpAny_ready (rs := [4]) (by kernel_rfl) (by simp) ?_
            refine AllReady.cons (o := ⟨some 49, .load 157 (.tmp 48), _, _, _, _⟩) rfl (fun K hK => ?_) AllReady.nil
            with_reducible refine step_load_mid (hgd := rfl) 157 (.tmp 48) rfl p 0 (by simp [ev_same, ev_ne, size_put, x0, xs0]) A.toList _ HR1.out Tryz.underlying157 rfl HI8.out (hK _ _ ?_)
            clear hK K
            refine wpAny_ready (rs := [9]) (by kernel_rfl) (by simp) ?_
            refine AllReady.cons (o := ⟨some 54, .call { callee := .value (.func 189), args := #[.tmp 49, .tmp 53], argTypes := #[157, 201] }, _, _, _, _⟩) rfl (fun K hK => ?_) AllReady.nil
            with_reducible refine step_call rfl 189 next_enter (.tmp 49) (.tmp 53) _ rfl (.agg A) (.agg Bv) (.agg R) (by simp [ev_same, ev_ne, size_put, x0, xs0]) (by simp [ev_same, ev_ne, size_put, x0, xs0]) _ (HN.out _ (full_ok _) HK3.out) (fun w4 hb4 => hK _ _ ?_)
            clear hK K
            refine take_run 10 ⟨some 55, .nilCheck (.tmp 45), _, _, _, _⟩ 55 (.pointer (some ⟨p, 0, none⟩)) rfl rfl rfl (by kernel_rfl) (by kernel_rfl) (by kernel_rfl) (fun _ _ _ h => h) (run_nil rfl (by simp [ev_same, ev_ne, size_put, x0, xs0])) ?_
            refine take_run 11 ⟨some 56, .fieldAddr 203 (.tmp 55) 0, _, _, _, _⟩ 56 (.pointer (some ⟨p, 0, none⟩)) rfl rfl rfl (by kernel_rfl) (by kernel_rfl) (by kernel_rfl) (fun _ _ _ h => h) (run_field rfl (by simp [ev_same, ev_ne, size_put, x0, xs0]) (field0 p)) ?_
            refine wpAny_ready (rs := [12]) (by kernel_rfl) (by simp) ?_
            refine AllReady.cons (o := ⟨none, .store 157 (.tmp 56) (.tmp 54), _, _, _, _⟩) rfl (fun K hK => ?_) AllReady.nil
            have h4 : w4.heap[p]? = some (.cells (hcl (stArr (full zs)).toList b2 (zs.length + m)).toArray 203 (0, 0)) := (hb4.block p (lt_of_block HG4.out)).trans HG4.out
            have hth : w4.there p 0 R.size := by rw [HRr.out]; exact there_of_blk h4 0 8 (by rw [hcl_length _ rfl hl2]; omega)
            have hi36 : (Tryz.prog.info? 157).map (·.size) = some R.size := by rw [HRr.out]; kernel_rfl
            have hR1 : R.all (·.oneCell') = true := by rw [HRr.out]; exact stArr_one _
            have hcells := heap_setCells p 203 R.toList 0 w4 _ h4 (by rw [hcl_length _ rfl hl2, HRr.out]; simp [stArr])
            rw [hcl_splice_state (sv' := R.toList) _ rfl (by rw [HRr.out]; rfl)] at hcells
            have HC := Lib.hid hcells
            have HB4 := Lib.hid hb4
            with_reducible refine step_store_mid (hgd := rfl) 157 (.tmp 56) (.tmp 54) rfl p 0 R (by simp [ev_same, ev_ne, size_put, x0, xs0]) (by simp [ev_same, ev_ne, size_put, x0, xs0]) hth hi36 hR1 (hK _ _ ?_)
            clear hK K hcells h4 hb4 hth hi36 hR1
            refine wpAny_done (by kernel_rfl) ?_ _
            rw [HACT.out]
            clear x0 xs0
            simp only [Act.put, List.setIfInBounds_toArray, List.set_cons_succ, List.set_cons_zero]
            go_wp2_with fail
            go_roundw
            case rel =>
              have e1 := HZL.out
              have e2 := HPD.out
              have hgf : w3.grownBy (w4.setCells p 0 R.toList) (some p) := gb_trans (gb_drew (World.grownBy.refl _ _)) (gb_trans (gb_below HB4.out) (gb_setCells _ _ _ _))
              have hR3 := HR3.out
              rw [← HW3.out] at hR3
              refine ⟨k + m, a2, c' - m, by omega, rfl, by rw [← hkm, ← List.drop_drop]; exact hR3.kept0 hgf.size (fun b off e h0 => hgf.block b (by
                obtain ⟨b', o', e', hb, _⟩ := hR3.at0 h0
                rw [e] at e'; cases e'; exact hb) (by have := hsb _ e; simpa using this)), (fun x e _ => hsb x e), ?_, gb_trans Hg4.out hgf⟩
              rw [← hzm]
              have hfs : full (zs ++ zz) = nxt (full zs) b2 := by
                rw [full_step zs zz (by omega), ← HT2.out, List.take_of_length_le (by omega)]
              refine ⟨b2, by rw [hfs, List.length_append, hzzl, ← HRr.out]; exact HC.out, hl2, ?_⟩
              have e3 : (zs ++ zz).length % 64 = 0 := by simp [hzzl]; omega
              have e4 : (zs ++ zz).length / 64 * 64 = (zs ++ zz).length := by omega
              rw [e3, e4, List.drop_length]; rfl
            case measure => simp [slLen]; omega
        · have h64b : pd + m < 64 := by omega
          have hdec : (((pd : Int) + (m : Int)) == 64) = false := by simp; omega
          go_wp2
          go_roundw
          case rel =>
            have e1 := HZL.out
            have e2 := HPD.out
            refine ⟨k + m, a2, c' - m, by omega, rfl, by rw [← hkm, ← List.drop_drop]; exact HR3.out, (fun x e _ => hsb x e), ?_, Hg3.out⟩
            rw [← hzm]
            refine ⟨b2, by rw [full_same zs zz (by omega), List.length_append, hzzl]; exact HG3.out, hl2, ?_⟩
            have e3 : (zs ++ zz).length % 64 = pd + m := by simp [hzzl]; omega
            have e4 : (zs ++ zz).length / 64 = zs.length / 64 := by simp [hzzl]; omega
            rw [e3, e4, HT2.out, List.drop_append_of_le_length (by omega)]
          case measure => simp [slLen]; omega
      · obtain rfl : k = n := by omega
        have hnn : (k : Nat) - k = 0 := by omega
        rw [hnn] at hrd ⊢
        go_wp2
        refine bodyPost_end (results_none rfl _ _ _) rfl ?_
        refine ⟨rfl, ?_, hgr⟩
        rw [List.take_of_length_le (by rw [hlen.out]; exact Nat.le_refl _)] at hst
        exact hst

set_option maxRecDepth 20000 in
set_option maxHeartbeats 400000 in
theorem write_nil (v : Value) (w : World) :
    Calls Tryz.prog 178 #[.pointer none, v] w fun e w' => e = .returned (.tuple #[]) ∧ w' = w := by
  go_enter Tryz.func178, Tryz.ntmps178
  go_wp2
  refine bodyPost_ret (results_none rfl _ _ _) rfl ?_
  exact ⟨rfl, rfl⟩
end Go.Proofs.YtpkeikbiblfidaaGreatDoor.Dg
/-
  Contracts: Sum of a hash; Sum of bytes.
-/
namespace Go.Proofs.YtpkeikbiblfidaaGreatDoor.Dg
open Go.RowKit
set_option linter.unusedVariables false
set_option linter.unusedSimpArgs false

theorem run_string_rd {w : World} {a : Option Addr} {n cap : Nat} {xs : List UInt8} (h : Rd w a n cap xs) :
    (convert 128 9 (.slice a n cap)).run Tryz.prog w = .ok (.string ⟨xs.toArray⟩) w := by
  cases a with
  | none =>
    have hc := h.nil rfl
    have hn : n = 0 := by have := h.le; omega
    subst hn
    obtain rfl : xs = [] := List.eq_nil_of_length_eq_zero h.len
    rw [run_convert_bytes_string w 128 9 5 none 0 cap Tryz.underlying128 Tryz.underlying5 Tryz.underlying9]
    simp [Conv.bytesToString]
    rfl
  | some x =>
    have := run_convert_bytes_back (P := Tryz.prog) w 128 9 5 x cap xs Tryz.underlying128 Tryz.underlying5 Tryz.underlying9 (fun j hj => by
      obtain ⟨b, off, e, hlt, hc⟩ := h.at0 (by rw [← h.len]; omega)
      cases e
      rw [Addr.add_none, hc j (by rw [← h.len]; exact hj), List.getElem?_eq_getElem hj]
      rfl)
    rwa [h.len] at this


theorem Kon.below {w w' : World} (h : Kon w) (hb : Below w.heap.size w w') : Kon w' := fun j hj => by
  rw [hb.cell (by exact World.block_lt_of_cell? w _ (h j hj))]; exact h j hj

theorem Kon.lt {w : World} (h : Kon w) : 2 < w.heap.size := World.block_lt_of_cell? w _ (h 0 (by omega))


theorem eql_string (s : ByteArray) (w : World) : (binOp .eql 9 (.string s) (.string s)).run Tryz.prog w = .ok (.bool true) w := by
  go_simp
theorem eql_V {V : Value} {s : ByteArray} (hs : Hid (V = .string s)) (w : World) : (binOp .eql 9 V V).run Tryz.prog w = .ok (.bool true) w := by rw [hs.out]; exact eql_string _ _
theorem guard_V {V : Value} {s : ByteArray} (hs : Hid (V = .string s)) (x y : Operand) (w : World) : (eqGuard .eql 9 x y V V).run Tryz.prog w = .ok () w := by rw [hs.out]; go_simp


/-- A text as the program's value. -/
def strV (xs : List UInt8) : Value := .string ⟨xs.toArray⟩

def stL (s : St) : List Nat := [s.a, s.b, s.c, s.d, s.e, s.f, s.g, s.h]
theorem stArr_at (s : St) (k : Nat) (h : k < 8) : (stArr s)[k]? = some (.int .u32 (((stL s).getD k 0 : Nat) : Int)) := by
  match k, h with
  | 0, _ => rfl
  | 1, _ => rfl
  | 2, _ => rfl
  | 3, _ => rfl
  | 4, _ => rfl
  | 5, _ => rfl
  | 6, _ => rfl
  | 7, _ => rfl
theorem stL_lt (s : St) (h : s.ok) (k : Nat) : (stL s).getD k 0 < 4294967296 := by
  obtain ⟨h1, h2, h3, h4, h5, h6, h7, h8⟩ := h
  match k with
  | 0 => exact h1
  | 1 => exact h2
  | 2 => exact h3
  | 3 => exact h4
  | 4 => exact h5
  | 5 => exact h6
  | 6 => exact h7
  | 7 => exact h8
  | k + 8 => simp [stL]
def outTo (s : St) (k : Nat) : List UInt8 := ((stL s).take k).flatMap out4
theorem outTo_step (s : St) (k : Nat) (h : k < 8) : outTo s (k + 1) = outTo s k ++ out4 ((stL s).getD k 0) := by
  have e : (stL s).take (k + 1) = (stL s).take k ++ [(stL s).getD k 0] := by
    match k, h with
    | 0, _ => rfl
    | 1, _ => rfl
    | 2, _ => rfl
    | 3, _ => rfl
    | 4, _ => rfl
    | 5, _ => rfl
    | 6, _ => rfl
    | 7, _ => rfl
  unfold outTo
  rw [e]
  simp
theorem outTo_all (s : St) : outTo s 8 = outS s := by simp [outTo, stL, outS]
theorem outTo_length (s : St) (k : Nat) (h : k ≤ 8) : (outTo s k).length = 4 * k := by
  induction k with
  | zero => rfl
  | succ k ih => rw [outTo_step s k (by omega), List.length_append, ih (by omega)]; simp [out4, enc_length]; omega

theorem byteAt3 (n : Nat) (h : n < 4294967296) : (n : Int) / 16777216 = ((byteAt n 3).toNat : Int) := by
  rw [byteAt_toNat, show (256 : Nat) ^ 3 = 16777216 from rfl]; omega
theorem byteAt2 (n : Nat) : (n : Int) / 65536 % 256 = ((byteAt n 2).toNat : Int) := by rw [byteAt_toNat]; simp
theorem byteAt1 (n : Nat) : (n : Int) / 256 % 256 = ((byteAt n 1).toNat : Int) := by rw [byteAt_toNat]; simp
theorem byteAt0 (n : Nat) : (n : Int) % 256 = ((byteAt n 0).toNat : Int) := by rw [byteAt_toNat]; simp
theorem out4_cells (n : Nat) : bvs (out4 n) = [.int .u8 ((byteAt n 3).toNat : Int), .int .u8 ((byteAt n 2).toNat : Int), .int .u8 ((byteAt n 1).toNat : Int), .int .u8 ((byteAt n 0).toNat : Int)] := rfl

theorem row_cells (w : World) (cs : List Value) (t : TypeId) : ∀ (j : Nat) (u : Value), cs[j]? = some u → (w.alloc (.cells cs.toArray t)).cell? ((⟨w.heap.size, 0, none⟩ : Addr).add j) = some u := by
  intro j u hj
  rw [Addr.add_none, cell_of_blk (heap_alloc_new w (.cells cs.toArray t)), Nat.zero_add]
  simpa using hj

theorem make_32 (w : World) : (Instr.makeSlice 128 (.int .i64 0) (.int .i64 32)).run Tryz.prog w = .ok (.slice (some ⟨w.heap.size, 0, none⟩) 0 32) (w.alloc (.cells (madeCells #[.int .u8 0] 32) 5)) := by
  obtain ⟨i, hi, hz, hs, hb⟩ := info_parts Tryz.info5
  have := run_make (P := Tryz.prog) w 128 5 i (.int .u8 0) Tryz.underlying128 hi hz .i64 .i64 0 32 (by omega) (by omega) (by rw [hb]; omega) (by omega)
  simp [hs] at this
  exact this

theorem owns_made0 {w : World} {B g : Nat} (hB : B ≤ g) (h : w.heap[g]? = some (.cells (madeCells #[.int .u8 0] 32) 5 (0, 0))) : w.ownsRow B 5 1 (.slice (some ⟨g, 0, none⟩) 0 32) 0 (bvs []) :=
  ⟨rfl, .inr ⟨g, 32, _, rfl, hB, h, by omega, by unfold maxLen; omega, by simp [size_madeCells], by simp [bvs]⟩⟩

theorem zero_hash_one : ((hcl (List.replicate 8 (.int .u32 0)) (List.replicate 64 0) 0).toArray).all (·.oneCell') = true := by decide +kernel

set_option maxRecDepth 20000 in
set_option maxHeartbeats 1000000 in
theorem hsum_any (p : Nat) (xs : List UInt8) (w : World) (hh : Hsh w p xs) (hK : Kon w) (hl : xs.length ≤ 1125899906842624) :
    Calls Tryz.prog 179 #[.pointer (some ⟨p, 0, none⟩)] w fun e w' => e = .returned (strV (dig xs)) ∧ Below w.heap.size w w' := by
  obtain ⟨sv, bl, hb, s1, s2, s3, s4, s5⟩ := hh.blk
  have hc := hh.count
  obtain ⟨C, hC⟩ : ∃ C, C = (hcl sv bl xs.length).toArray := ⟨_, rfl⟩
  have hCs : C.size = 73 := by rw [hC]; simpa using hcl_length xs.length s1 s3
  have hC1 : C.all (·.oneCell') = true := by
    rw [hC]; refine all_oneCell_toArray fun v hv => ?_
    unfold hcl at hv
    rcases List.mem_append.1 hv with h | h
    · exact s2 v h
    · rcases List.mem_append.1 h with h | h
      · exact bvs_one _ v h
      · simp at h; subst h; rfl
  have hi43 : (Tryz.prog.info? 203).map (·.size) = some C.size := by rw [hCs]; kernel_rfl
  obtain ⟨Z, hZ⟩ : ∃ Z : Array Value, Z = (hcl (List.replicate 8 (.int .u32 0)) (List.replicate 64 0) 0).toArray := ⟨_, rfl⟩
  have hz := zero_hash
  rw [← hZ] at hz
  have hZC : Z.size = C.size := by rw [hCs, hZ]; decide +kernel
  rw [← hC] at hb
  have hnew := heap_alloc_new w (.cells Z 203)
  have hHn : Hsh ((w.alloc (.cells Z 203)).setRow w.heap.size C) w.heap.size xs := by
    refine ⟨⟨sv, bl, ?_, s1, s2, s3, s4, s5⟩, hh.le⟩
    rw [← hC]; exact setRow_heap _ _ Z C 203 (0, 0) hnew
  have hBn : Below w.heap.size w ((w.alloc (.cells Z 203)).setRow w.heap.size C) := below_setRow ((Below.refl _ _).alloc (Nat.le_refl _) _) (Nat.le_refl _) _
  have hb' : (w.alloc (.cells Z 203)).heap[p]? = some (.cells C 203 (0, 0)) := by rw [Below.heap_alloc _ _ _ hh.lt]; exact hb
  have hc' : ((w.alloc (.cells Z 203)).setRow w.heap.size C).cell? ⟨p, 72, none⟩ = some (.int .u64 (xs.length : Int)) := by rw [hBn.cell hh.lt]; exact hc
  have HH := Lib.hid hh
  have HHn := Lib.hid hHn
  have HBn := Lib.hid hBn
  have HK := Lib.hid hK
  clear hh hHn hBn hK s1 s2 s3 s4 s5 hZ hC
  go_enter Tryz.func179, Tryz.ntmps179
  go_wp2_with (first
    | (with_reducible refine wpList_load_row (o := ⟨some 11, _, _, _, _, _⟩) rfl 203 (.tmp 10) rfl p rfl 203 C (0, 0) _ hb Tryz.underlying203 rfl hi43 ?_)
    | (with_reducible refine wpList_store_row (o := ⟨none, _, _, _, _, _⟩) rfl 203 (.tmp 3) (.tmp 11) rfl w.heap.size C rfl rfl 203 Z hnew hi43 hZC hC1 ?_))
  refine (padding_any xs.length _ (by omega)).mono ?_
  rintro e w2 ⟨g2, c2, rfl, hg2, hr2, hb2⟩
  have hlw := HH.out.lt
  obtain ⟨g, hg⟩ : ∃ g, g = w.heap.size := ⟨_, rfl⟩
  have hHn := HHn.out
  have hBn := HBn.out
  have hK := HK.out
  have hgl : g < ((w.alloc (.cells Z 203)).setRow w.heap.size C).heap.size := by rw [hg]; exact hHn.lt
  have hH2 : Hsh w2 g xs := by rw [hg]; exact hHn.below hb2
  have hB2 : Below w.heap.size w w2 := hBn.trans (hb2.mono hBn.size)
  have hK2 : Kon w2 := fun j hj => by rw [hB2.cell (by exact World.block_lt_of_cell? w _ (hK j hj))]; exact hK j hj
  have hg0 : g ≠ 2 := by have := World.block_lt_of_cell? w _ (hK 0 (by omega)); simp at this; omega
  have hg2' : g ≠ g2 := by omega
  rw [← hg]
  have HG := Lib.hid hg
  have HB2 := Lib.hid hB2
  have HK2 := Lib.hid hK2
  have HH2 := Lib.hid hH2
  have HR2 := Lib.hid hr2
  clear hg hHn hBn hK hH2 hB2 hK2 hr2 hb2 hnew hb hb' hc hc' hz hZC hCs hC1 hi43 hg2 hgl
  go_wp2_with fail
  refine (write_any g xs _ _ _ (padN xs.length) w2 HH2.out HR2.out (fun x e _ => by cases e; exact fun e2 => hg2' e2.symm) HK2.out hg0 (by omega)).mono ?_
  rintro e w3 ⟨rfl, hst, hgr⟩
  obtain ⟨bl3, hb3, hb3l, _⟩ := hst.blk
  obtain ⟨S, hS⟩ : ∃ S, S = full (xs ++ padN xs.length) := ⟨_, rfl⟩
  have hSok : S.ok := by rw [hS]; exact full_ok _
  have hdig : dig xs = outTo S 8 := by rw [outTo_all, hS]; rfl
  rw [← hS] at hb3
  have hB3 : Below w.heap.size w w3 := HB2.out.grown hgr HB2.out.size (fun j hj => by cases hj; exact Nat.le_of_eq HG.out.symm)
  have HB3 := Lib.hid hB3
  have HST := Lib.hid hb3
  have HD := Lib.hid hdig
  have hmk := make_32
  obtain ⟨A, hA⟩ : ∃ A, A = stArr S := ⟨_, rfl⟩
  have hrange : ∀ w4 : World, w4.heap[g]? = w3.heap[g]? → w4.rangeAt g 0 A.toList := fun w4 e => by
    have h1 := e.trans hb3
    intro j v hj
    rw [cell_of_blk h1, Nat.zero_add]
    rw [hA] at hj
    simpa using hcl_state (blk := bl3) _ j v hj
  have hi8 : (Tryz.prog.info? 157).map (·.size) = some A.toList.length := by rw [hA]; kernel_rfl
  have HRg := Lib.hid hrange
  have hAat : ∀ k, k < 8 → A[k]? = some (.int .u32 (((stL S).getD k 0 : Nat) : Int)) := fun k hk => by rw [hA]; exact stArr_at S k hk
  have HAat := Lib.hid hAat
  have HOK := Lib.hid (stL_lt S hSok)
  have hra : (w3.alloc (.cells (madeCells #[.int .u8 0] 32) 5)).rangeAt g 0 A.toList := HRg.out _ (Below.heap_alloc _ _ _ (lt_of_block hb3))
  have hlt3 := lt_of_block hb3
  clear hst hgr hb3 hS hdig hA hrange hAat hSok
  go_wp2_with (with_reducible refine wpList_load_mid (op := ⟨some 20, _, _, _, _, _⟩) rfl 157 (.tmp 19) rfl g 0 rfl A.toList _ hra Tryz.underlying157 rfl hi8 ?_)
  have hmd := heap_alloc_new w3 (.cells (madeCells #[.int .u8 0] 32) 5)
  have hown := owns_made0 (Nat.le_refl w3.heap.size) hmd
  have hB4 : Below w.heap.size w (w3.alloc (.cells (madeCells #[.int .u8 0] 32) 5)) := HB3.out.alloc HB3.out.size _
  obtain ⟨q, hq⟩ : ∃ q, q = w3.heap.size := ⟨_, rfl⟩
  rw [← hq] at hown ⊢
  have hqs : w.heap.size ≤ q := by rw [hq]; exact HB3.out.size
  obtain ⟨i5, hi, hi0, hi1, hi2⟩ := info_parts Tryz.info5
  have HQ := Lib.hid hq
  have HQs := Lib.hid hqs
  generalize w3.alloc (.cells (madeCells #[.int .u8 0] 32) 5) = w4 at hown hB4 ⊢
  clear hq hra hmd hmk hlt3 hqs hi8
  go_loopw [21, 4] (fun i o wr => ∃ k : Nat, k ≤ 8 ∧ i = .int .i64 k ∧ o = .slice (some ⟨q, 0, none⟩) (4 * k) 32 ∧ wr.ownsRow q 5 1 (.slice (some ⟨q, 0, none⟩) (4 * k) 32) (4 * k) (bvs (outTo S k)) ∧ q < wr.heap.size ∧ Below w.heap.size w wr) (fun i _ _ => 8 - (intOf i).toNat)
  case atStart => exact ⟨0, by omega, rfl, rfl, hown, (hown.lt q rfl).2, hB4⟩
  case round =>
    clear hown hB4
    obtain ⟨k, hk, rfl, rfl, hown, hql, hB⟩ := hrel
    by_cases hlt : k < 8
    · have hix := fun w => index_row (P := Tryz.prog) 157 150 8 A k _ w Tryz.underlying157 (fun _ => by kernel_rfl) (fun _ => by kernel_rfl) hlt (HAat.out k hlt)
      have hnl := HOK.out k
      have hst := outTo_step S k hlt
      generalize (stL S).getD k 0 = N at hix hnl hst
      have hcl : (#[.int .u8 ((N : Int) / 16777216), .int .u8 ((N : Int) / 65536 % 256), .int .u8 ((N : Int) / 256 % 256), .int .u8 ((N : Int) % 256)] : Array Value) = (bvs (out4 N)).toArray := by
        rw [out4_cells, byteAt3 N hnl, byteAt2, byteAt1, byteAt0]
      have hcell := row_cells wr (bvs (out4 N)) 5
      rw [← hcl] at hcell
      have hlen4 : (bvs (out4 N)).length = 4 := rfl
      have HST4 := Lib.hid hst
      have HCL := Lib.hid hlen4
      clear hst hlen4 hcl
      go_wp2_with (at_builtin; refine wpList_append_fits (o := ⟨some 37, _, _, _, _, _⟩) _ rfl (.tmp 24) (.tmp 36) 128 rfl q 5 i5 1 Tryz.underlying128 hi hi1 q (4 * k) 32 _ rfl (hown.alloc _) ⟨wr.heap.size, 0, none⟩ 4 4 (bvs (out4 N)) rfl rfl hcell (bvs_one _) (by omega) ?d3)
      intro w5 hown5 hgrow
      have hB5 := (hB.alloc hB.size (.cells #[.int .u8 ((N : Int) / 16777216), .int .u8 ((N : Int) / 65536 % 256), .int .u8 ((N : Int) / 256 % 256), .int .u8 ((N : Int) % 256)] 5)).grown hgrow (by have := hB.size; simp; omega) (fun j hj => by cases hj; exact HQs.out)
      rw [← bvs_append, ← HST4.out] at hown5
      have hq5 := (hown5.lt q rfl).2
      clear hown hB hgrow hcell hix
      go_wp2
      go_roundw
      case rel => exact ⟨k + 1, by omega, by go_num, rfl, hown5, hq5, hB5⟩
      case measure => simp [intOf]; omega
    · obtain rfl : k = 8 := by omega
      have hrd := rd_of_owns hown (by omega)
      have hcv := run_string_rd hrd
      go_wp2
      go_ret
      exact ⟨by rw [HD.out]; rfl, hB⟩
end Go.Proofs.YtpkeikbiblfidaaGreatDoor.Dg
/-
  Contracts: the reference's Sum.
-/
namespace Go.Proofs.YtpkeikbiblfidaaGreatDoor.Dg
open Go.RowKit
set_option linter.unusedVariables false
set_option linter.unusedSimpArgs false

set_option maxRecDepth 20000 in
theorem rconst_any : ∃ C : Array Value, (∀ j, j < 64 → C[j]? = some (.int .u32 (konAt j : Int))) ∧
    ∀ w, Calls Tryz.prog 137 #[] w fun e w' => e = .returned (.slice (some ⟨w.heap.size, 0, none⟩) 64 64) ∧ w' = w.alloc (.cells C 150) := by
  refine ⟨(kon.map fun (n : Nat) => Value.int .u32 (n : Int)).toArray, ?_, ?_⟩
  · intro j hj
    have : j < kon.length := hj
    simp [konAt, List.getD, List.getElem?_eq_getElem this]
  · intro w
    go_enter Tryz.func137, Tryz.ntmps137
    go_wp2
    go_ret
    exact ⟨rfl, rfl⟩

/-- The load of an array out of the middle of a block, as a step that leaves the world alone. -/
theorem still_load_mid {P : Program} {ops : Array Oper} {w : World} {Q : Act → Prop} {op : Oper} {rest : List Oper} {a : Act} (hgd : op.guard = none) (ty : TypeId) (x : Operand) (ho : op.op = .load ty x)
    (b o : Nat) (hx : a.eval x = .pointer (some ⟨b, o, none⟩)) (cs : List Value) (d : TypeDesc) (hc : w.rangeAt b o cs)
    (hu : P.underlying ty = some d) (hd : d.isRow = true) (hi : (P.info? ty).map (·.size) = some cs.length)
    (h : wpStill P ops w Q rest (a.put op.dst (.agg cs.toArray))) : wpStill P ops w Q (op :: rest) a := by
  refine wpStill_step (fun K hK => ?_)
  have hw : Region.wanted op (yielded ops a.tmps) = true := by simp [Region.wanted, hgd]
  rw [if_pos hw]
  unfold Oper.still execOp
  simp only [ho, hx, Instr.loadAt, Instr.sureAddr, Sem.run_bind, Sem.run_pure, Result.andThen_ok, run_loadVar_mid w b o ty cs d hc hu hd hi]
  exact ⟨rfl, hK _ h⟩

theorem stArr_size (s : St) : (stArr s).size = 8 := rfl

theorem range_row {w : World} {g : Nat} {A : Array Value} {t : TypeId} (h : w.heap[g]? = some (.cells A t (0, 0))) : w.rangeAt g 0 A.toList := fun j v hj => by
  rw [cell_of_blk h, Nat.zero_add]; simpa using hj

/-- 's[i:j]' of a slice of bytes. -/
theorem slice_mid (b off n c i j : Nat) (hi : i < j) (hj : j ≤ c) (w : World) :
    (Instr.sliceAt 128 (.slice (some ⟨b, off, none⟩) n c) (some (.int .i64 (i : Int))) (some (.int .i64 (j : Int))) none).run Tryz.prog w = .ok (.slice (some ⟨b, off + i, none⟩) (j - i) (c - i)) w := by
  have hu := Tryz.underlying128
  have hz : ∀ w, (sizeOf 5).run Tryz.prog w = .ok 1 w := fun _ => by kernel_rfl
  have h1 : i ≤ j := by omega
  have h2 : ¬ c = i := by omega
  simp [Instr.sliceAt, Instr.slice, Instr.sliceBounds, Instr.sliceBound, run_underlying hu, asIntOf, h1, hj, h2, hz, Addr.add_none, go_sem]

/-- append of bytes to a row of the call's own, as one step of a region that draws. -/
theorem step_append_bytes {P : Program} {w : World} {ops : Array Oper} {o : Oper} {a : Act} {K : Act → World → Prop} {Q : Exit → Act → World → Prop} {E : Prop} (hgd : o.guard = none) (s x : Operand) (t : TypeId)
    (ho : o.op = .call { callee := .builtin .append, args := #[s, x], argTypes := #[t, t] }) (base : Nat) (e : TypeId) (i : TypeInfo) (ht : P.underlying t = some (.slice e)) (hi : P.info? e = some i) (hz : i.zero = some (.int .u8 0)) (hsize : i.size = 1) (hby : i.bytes = 1)
    (v : Value) (n : Nat) (xs : List UInt8) (hs : a.eval s = v) (hown : w.ownsRow base e 1 v n (bvs xs)) (ad : Addr) (m c : Nat) (ys : List UInt8) (hx : a.eval x = .slice (some ad) m c) (hl : ys.length = m)
    (hnews : ∀ j u, (bvs ys)[j]? = some u → w.cell? (ad.add j) = some u) (hb : n + m ≤ 140737488355328) (hbase : base ≤ w.heap.size)
    (h : ∀ v' w', w'.ownsRow base e 1 v' (n + m) (bvs (xs ++ ys)) → w.grownBy w' v.ownBlock → K (a.put o.dst v') w') :
    if Region.wanted o (yielded ops a.tmps) = true then Oper.wp P o a w K Q else E := by
  have hw : Region.wanted o (yielded ops a.tmps) = true := by simp [Region.wanted, hgd]
  rw [if_pos hw]
  exact wp_append_own w s x t ho base e i (.int .u8 0) 1 1 ht hi hz hsize hby rfl (by omega) v n (bvs xs) hs hown ad m c (bvs ys) hx (by simp [bvs_length, hl]) hnews (bvs_one _) (by unfold maxLen; omega) (by omega) hbase (fun v' w' h1 h2 _ => h v' w' (by rw [bvs_append]; exact h1) h2)

set_option maxRecDepth 20000 in
set_option maxHeartbeats 2000000 in
theorem rsum_any (a : Option Addr) (n cap : Nat) (ys : List UInt8) (w : World) (hR : Rd w a n cap ys) (hl : n ≤ 140737488355000) :
    Calls Tryz.prog 97 #[.slice a n cap] w fun e w' => e = .returned (strV (dig ys)) ∧ Below w.heap.size w w' := by
  have hlen := Lib.hid hR.len
  obtain ⟨i5, hi, hz0, hz1, hz2⟩ := info_parts Tryz.info5
  obtain ⟨z, hz⟩ : ∃ z, z = 63 - (n + 8) % 64 := ⟨_, rfl⟩
  have HZ := Lib.hid hz
  have hz64 : z < 64 := by omega
  clear hz
  go_enter Tryz.func97, Tryz.ntmps97
  go_wp2_with (at_builtin; refine wpList_append_rd (o := ⟨some 13, _, _, _, _, _⟩) rfl (.tmp 11) (.tmp 12) 128 rfl w.heap.size 5 i5 Tryz.underlying128 hi hz0 hz1 hz2 (.slice none 0 0) 0 [] rfl (World.ownsRow_nil _ _ _ _) a n cap ys rfl hR (by omega) (Nat.le_refl _) ?_)
  intro v1 w1 hown1 hgrow1
  have hB1 := (Below.refl w.heap.size w).grown hgrow1 (Nat.le_refl _) (fun k e => by cases e)
  clear hgrow1 hR
  go_wp2_with (at_builtin; refine wpList_append_rd (o := ⟨some 16, _, _, _, _, _⟩) rfl (.tmp 14) (.tmp 15) 128 rfl w.heap.size 5 i5 Tryz.underlying128 hi hz0 hz1 hz2 v1 n ys rfl (hown1.alloc _) (some ⟨w1.heap.size, 0, none⟩) 1 1 [128] rfl (one_rd w1 _ 128 rfl) (by omega) (by have := hB1.size; simp; omega) ?_)
  intro v2 w2 hown2 hgrow2
  have hB2 := (hB1.alloc (by have := hB1.size; omega) _).grown hgrow2 (by have := hB1.size; simp; omega) (fun j hj => (hown1.lt j hj).1)
  clear hown1 hB1 hgrow2
  go_wp2
  go_loopw [3] (fun v wr => ∃ j, j ≤ z ∧ wr.ownsRow w.heap.size 5 1 v (n + 1 + j) (bvs (ys ++ (128 :: List.replicate j 0))) ∧ Below w.heap.size w wr) (fun v _ => n + 1 + z - slLen v)
  case atStart => exact ⟨0, by omega, hown2, hB2⟩
  case round =>
    clear hown2 hB2
    obtain ⟨j, hj, hown, hB⟩ := hrel
    obtain ⟨a', c', rfl, hrd, hblk⟩ := owns_shape hown (by omega)
    by_cases hlt : j < z
    · have hz := HZ.out
      have hne : (((n + 1 + j : Nat) : Int) % 64 != 56) = true := by simp; omega
      clear hz hrd
      go_wp2_with (at_builtin; refine wpList_append_rd (o := ⟨some 23, _, _, _, _, _⟩) rfl (.tmp 21) (.tmp 22) 128 rfl w.heap.size 5 i5 Tryz.underlying128 hi hz0 hz1 hz2 (.slice a' (n + 1 + j) c') (n + 1 + j) (ys ++ (128 :: List.replicate j 0)) rfl (hown.alloc _) (some ⟨wr.heap.size, 0, none⟩) 1 1 [0] rfl (one_rd wr _ 0 rfl) (by omega) (by have := hB.size; simp; omega) ?_)
      intro v3 w3 hown3 hgrow3
      have hB3 := (hB.alloc (by have := hB.size; omega) _).grown hgrow3 (by have := hB.size; simp; omega) (fun j hj => (hown.lt j hj).1)
      obtain ⟨a3, c3, rfl, _, _⟩ := owns_shape hown3 (by omega)
      have hrep : List.replicate j (0 : UInt8) ++ [0] = List.replicate (j + 1) 0 := by rw [← List.replicate_succ']
      simp only [List.append_assoc, List.cons_append, hrep] at hown3
      clear hown hB hgrow3 hrep hblk
      go_wp2
      go_roundw
      case rel => exact ⟨j + 1, by omega, hown3, hB3⟩
      case measure => simp [slLen]; omega
    · have hjz : z = j := by omega
      have hz := HZ.out
      have hne : (((n + 1 + j : Nat) : Int) % 64 != 56) = false := by simp; omega
      clear hz hlt
      subst hjz
      go_wp2
      obtain ⟨X1, hX1⟩ : ∃ X1 : List UInt8, X1 = ys ++ (128 :: List.replicate z 0) := ⟨_, rfl⟩
      obtain ⟨N, hN⟩ : ∃ N, N = n * 8 % 18446744073709551616 := ⟨_, rfl⟩
      have hNi : (n : Int) * 8 = (N : Int) := by omega
      rw [hNi]
      have hne2 : (((n : Int) + 1 + (z : Int)) % 64 != 56) = false := by have := HZ.out; simp; omega
      try simp only [hne2]
      have hx0 : encTo N 8 0 = [] := rfl
      rw [← hX1] at hown
      have HX1 := Lib.hid hX1
      have HN := Lib.hid hN
      clear hX1 hN hNi hrd hblk hne hne2 hj
      go_loopw [3, 5] (fun v i wr => ∃ k : Nat, k ≤ 8 ∧ i = .int .i64 ((8 : Int) - 1 - k) ∧ wr.ownsRow w.heap.size 5 1 v (n + 1 + z + k) (bvs (X1 ++ encTo N 8 k)) ∧ Below w.heap.size w wr) (fun _ i _ => (intOf i + 1).toNat)
      case atStart => exact ⟨0, by omega, by go_num, by simpa [hx0] using hown, hB⟩
      case round =>
        clear hown hx0 hB
        obtain ⟨k, hk, rfl, hown, hB⟩ := hrel
        by_cases hlt : k < 8
        · have hge : (0 : Int) ≤ (8 : Int) - 1 - k := by omega
          go_wp2_with (at_builtin; refine wpList_append_rd (o := ⟨some 40, _, _, _, _, _⟩) rfl (.tmp 32) (.tmp 39) 128 rfl w.heap.size 5 i5 Tryz.underlying128 hi hz0 hz1 hz2 _ (n + 1 + z + k) (X1 ++ encTo N 8 k) rfl (hown.alloc _) (some ⟨wr.heap.size, 0, none⟩) 1 1 [byteAt N (8 - 1 - k)] rfl (one_rd wr _ _ (shr_byte _ _)) (by omega) (by have := hB.size; simp; omega) ?_)
          intro v5 w5 hown5 hgrow5
          have hB5 := (hB.alloc (by have := hB.size; omega) _).grown hgrow5 (by have := hB.size; simp; omega) (fun j hj => (hown.lt j hj).1)
          have hsn : encTo N 8 k ++ [byteAt N (7 - k)] = encTo N 8 (k + 1) := (encTo_snoc N 8 k hlt).symm
          simp only [List.append_assoc, hsn] at hown5
          clear hown hB hgrow5
          go_wp2
          go_roundw
          case rel => exact ⟨k + 1, by omega, by go_num, hown5, hB5⟩
          case measure => simp [intOf]; omega
        · obtain rfl : k = 8 := by omega
          obtain ⟨av, cv, rfl, hrd, hblk⟩ := owns_shape hown (by omega)
          have hneg : ¬ (0 : Int) ≤ (8 : Int) - 1 - (8 : Nat) := by omega
          have hall : X1 ++ encTo N 8 8 = ys ++ padN n := by
            rw [show encTo N 8 8 = out8 N from List.take_of_length_le (by rw [enc_length]; omega), HX1.out, HN.out, List.append_assoc]
            unfold padN
            rw [← HZ.out]
          obtain ⟨all, hallE⟩ : ∃ all, all = ys ++ padN n := ⟨_, rfl⟩
          rw [hall, ← hallE] at hrd
          obtain ⟨L, hL⟩ : ∃ L, L = n + 1 + z + 8 := ⟨_, rfl⟩
          rw [← hL] at hrd ⊢
          have hL64 : L % 64 = 0 := by have := HZ.out; omega
          have hL0 : 0 < L := by omega
          have hLb : L ≤ 140737488355328 := by omega
          obtain ⟨bA, oA, rfl, hbl, _⟩ := hrd.at0 hL0
          have hlow : w.heap.size ≤ bA := hblk bA oA none rfl
          obtain ⟨Z, hZ⟩ : ∃ Z : Array Value, Z = Array.replicate 8 (.int .u32 0) := ⟨_, rfl⟩
          have hzz := zero_state
          rw [← hZ] at hzz
          obtain ⟨R0, hR0⟩ : ∃ R0, R0 = stArr st0 := ⟨_, rfl⟩
          have hf := first_any
          rw [← hR0] at hf
          have hi36 : (Tryz.prog.info? 157).map (·.size) = some R0.size := by rw [hR0]; kernel_rfl
          have hZR : Z.size = R0.size := by rw [hZ, hR0]; simp [stArr]
          have hone : R0.all (·.oneCell') = true := by rw [hR0]; exact stArr_one st0
          obtain ⟨Ck, hCk, hck⟩ := rconst_any
          have HCk := Lib.hid hck
          have HF := Lib.hid hf
          have HRd := Lib.hid hrd
          have HB := Lib.hid hB
          have HAll := Lib.hid hallE
          have HR0 := Lib.hid hR0
          clear hck hf hown hrd hB hall hblk hZ hallE hR0
          go_wp2_with fail
          refine (HF.out _).mono ?_
          rintro e w6 ⟨rfl, hb6⟩
          have hnew := heap_alloc_new w6 (.cells Z 157)
          go_wp2_with (with_reducible refine wpList_store_row (o := ⟨none, _, _, _, _, _⟩) rfl 157 (.tmp 6) (.tmp 41) rfl w6.heap.size R0 rfl rfl 157 Z hnew hi36 hZR hone ?_)
          have hrow := setRow_heap (w6.alloc (.cells Z 157)) w6.heap.size Z R0 157 (0, 0) hnew
          have hB6 := HB.out.trans (hb6.mono HB.out.size)
          have hB7 : Below w.heap.size w ((w6.alloc (.cells Z 157)).setRow w6.heap.size R0) := below_setRow (hB6.alloc hB6.size _) hB6.size _
          have hb67 : Below w6.heap.size w6 ((w6.alloc (.cells Z 157)).setRow w6.heap.size R0) := below_setRow ((Below.refl _ _).alloc (Nat.le_refl _) _) (Nat.le_refl _) _
          have hR7 := (HRd.out.later hb6).later hb67
          have hbg : bA < w6.heap.size := Nat.lt_of_lt_of_le hbl hb6.size
          obtain ⟨g, hg⟩ : ∃ g, g = w6.heap.size := ⟨_, rfl⟩
          rw [← hg] at hrow hB7 hR7 hbg ⊢
          have hgl : w.heap.size ≤ g := by rw [hg]; exact hB6.size
          obtain ⟨w7, hw7⟩ : ∃ w7, w7 = (w6.alloc (.cells Z 157)).setRow g R0 := ⟨_, rfl⟩
          rw [← hw7] at hrow hB7 hR7 ⊢
          have hrow8 := (Below.heap_alloc w7 (.cells Ck 150) g (lt_of_block hrow)).trans hrow
          have hB8 := hB7.alloc hB7.size (.cells Ck 150)
          have hR8 := hR7.later ((Below.refl w7.heap.size w7).alloc (Nat.le_refl _) (.cells Ck 150))
          have hK8 : KonAt (w7.alloc (.cells Ck 150)) w7.heap.size := fun j hj => by rw [cell_of_blk (heap_alloc_new w7 (.cells Ck 150))]; exact hCk j hj
          have hgk : g < w7.heap.size := lt_of_block hrow
          have hkl : w7.heap.size < (w7.alloc (.cells Ck 150)).heap.size := by simp
          have HRow := Lib.hid hrow8
          have HB8 := Lib.hid hB8
          have HR8 := Lib.hid hR8
          have HK8 := Lib.hid hK8
          clear hrow hB6 hB7 hb67 hR7 hrow8 hB8 hR8 hK8 hw7 hg hnew hi36 hZR hone hzz hb6 hCk
          go_wp2_with fail
          refine (HCk.out _).mono ?_
          rintro e w8 ⟨rfl, rfl⟩
          obtain ⟨kb, hkb⟩ : ∃ kb, kb = w7.heap.size := ⟨_, rfl⟩
          rw [← hkb] at HK8 hgk hkl ⊢
          generalize w7.alloc (.cells Ck 150) = w8 at HRow HB8 HR8 HK8 hkl ⊢
          clear hkb
          go_wp2
          go_loopw [8] (fun i wr => ∃ k m : Nat, k ≤ L / 64 ∧ m = 64 * k ∧ i = .int .i64 (m : Int) ∧ wr.heap[g]? = some (.cells (stArr (runB k st0 all)) 157 (0, 0)) ∧ KonAt wr kb ∧ Rd wr (some ⟨bA, oA, none⟩) L cv all ∧ w8.heap.size ≤ wr.heap.size ∧ Below w.heap.size w wr) (fun i _ => L - (intOf i).toNat)
          case atStart => exact ⟨0, 0, by omega, rfl, rfl, by rw [HRow.out, HR0.out]; rfl, HK8.out, HR8.out, Nat.le_refl _, HB8.out⟩
          case round =>
            obtain ⟨k, m, hk, hm, rfl, hrw, hkon, hrd, hsz, hB⟩ := hrel
            have hcv := hrd.le
            by_cases hlt : k < L / 64
            · have hml : m + 64 ≤ L := by omega
              have hle : (m : Int) + 64 ≤ (L : Int) := by omega
              have hwrap := IntWalk.i64_in ((m : Int) + 64) (by omega)
              have hsl : ∀ w, (Instr.sliceAt 128 (.slice (some ⟨bA, oA, none⟩) L cv) (some (.int .i64 (m : Int))) (some (.int .i64 ((m : Int) + 64))) none).run Tryz.prog w = .ok (.slice (some ⟨bA, oA + m, none⟩) 64 (cv - m)) w := fun w => by
                have := slice_mid bA oA L cv m (m + 64) (by omega) (by omega) w
                rw [show ((m + 64 : Nat) : Int) = (m : Int) + 64 from by omega, show m + 64 - m = 64 from by omega] at this
                exact this
              have hpart := hrd.part rfl m 64 hml (by obtain ⟨b', o', e', hb, hc⟩ := hrd.at0 hL0; cases e'; exact hb) (by obtain ⟨b', o', e', hb, hc⟩ := hrd.at0 hL0; cases e'; exact hc)
              have hnx := runB_next k st0 all
              rw [← hm] at hnx
              obtain ⟨S, hS⟩ : ∃ S, S = runB k st0 all := ⟨_, rfl⟩
              have hSok : S.ok := by rw [hS]; exact runB_ok _ _ _ st0_ok
              rw [← hS] at hrw hnx
              obtain ⟨A, hA⟩ : ∃ A, A = stArr S := ⟨_, rfl⟩
              have hblk := fun w' (h1 : KonAt w' kb) (h2 : Rd w' (some ⟨bA, oA + m, none⟩) 64 (cv - m) ((all.drop m).take 64)) => rblock_any S ((all.drop m).take 64) kb 64 bA (oA + m) (cv - m) w' hSok h1 h2
              obtain ⟨R, hR⟩ : ∃ R, R = stArr (nxt S ((all.drop m).take 64)) := ⟨_, rfl⟩
              rw [← hA, ← hR] at hblk
              rw [← hA] at hrw
              have hr1 : wr.drew.rangeAt g 0 A.toList := range_row (w := wr.drew) hrw
              have hi8 : (Tryz.prog.info? 157).map (·.size) = some A.toList.length := by rw [hA]; kernel_rfl
              have n1 : (0 : Int) ≤ (m : Int) := by omega
              have n2 : ¬ cv = m := by omega
              have n3 : (m : Int) ≤ (m : Int) + 64 := by omega
              have n4 : (m : Int) + 64 ≤ (cv : Int) := by omega
              have HM := Lib.hid hm
              have HBk := Lib.hid hblk
              have HPt := Lib.hid hpart
              have HNx := Lib.hid hnx
              have HRw := Lib.hid hrw
              have HKn := Lib.hid hkon
              have HRd2 := Lib.hid hrd
              have HB2 := Lib.hid hB
              have HA := Lib.hid hA
              have HR := Lib.hid hR
              clear hblk hpart hnx hrw hkon hrd hB hA hR hS hSok hm
              go_wp2_with fail
              refine wp_region_still_tail 7 (by kernel_rfl) (by kernel_rfl) ?_
              simp only [List.take_succ_cons, List.take_zero, List.drop_succ_cons, List.drop_zero]
              change wpStill _ _ wr.drew _ _ _
              with_reducible refine still_load_mid (op := ⟨some 50, _, _, _, _, _⟩) rfl 157 (.tmp 6) rfl g 0 rfl A.toList _ hr1 Tryz.underlying157 rfl hi8 ?_
              still_step
              still_step
              still_step
              still_step
              still_step
              still_step
              refine wpStill_nil ?_
              change wpList _ _ _ _ _ wr.drew
              clear hr1 hi8
              go_wp2_with fail
              have hK2 : KonAt wr.drew kb := fun j hj => by rw [World.cell?_drew]; exact HKn.out j hj
              have hP2 := HPt.out.drew
              rw [show m + 64 - m = 64 from by omega]
              with_reducible refine (HBk.out wr.drew hK2 hP2).mono ?_
              rintro e w9 ⟨rfl, hb9⟩
              have hg9 : w9.heap[g]? = some (.cells A 157 (0, 0)) := (hb9.block g (lt_of_block HRw.out)).trans HRw.out
              have hi36 : (Tryz.prog.info? 157).map (·.size) = some R.size := by rw [HR.out]; kernel_rfl
              have hAR : A.size = R.size := by rw [HA.out, HR.out, stArr_size, stArr_size]
              have hR1 : R.all (·.oneCell') = true := by rw [HR.out]; exact stArr_one _
              have HB9 := Lib.hid hb9
              clear hb9
              go_wp2_with (with_reducible refine wpList_store_row (o := ⟨none, _, _, _, _, _⟩) rfl 157 (.tmp 6) (.tmp 57) rfl g R rfl rfl 157 A hg9 hi36 hAR hR1 ?_)
              have hrow9 := setRow_heap w9 g A R 157 (0, 0) hg9
              have hg9b : wr.grownBy (w9.setRow g R) (some g) := gb_trans (gb_drew (World.grownBy.refl _ _)) (gb_trans (gb_below HB9.out) ⟨rfl, rfl, rfl, by simp [World.setRow], fun k hk hne => setRow_other w9 g k _ (fun e => hne (by rw [e]))⟩)
              have hgr : g < wr.heap.size := lt_of_block HRw.out
              go_roundw
              case rel =>
                refine ⟨k + 1, m + 64, by omega, by have := HM.out; omega, by go_num, ?_, ?_, ?_, ?_, ?_⟩
                · rw [hrow9, HR.out, HNx.out]
                · exact fun j hj => by
                    have h1 := HKn.out j hj
                    rw [World.cell?_of_block (w := wr) (hg9b.block _ (World.block_lt_of_cell? wr _ h1) (by show some kb ≠ some g; intro e; cases e; omega))]; exact h1
                · exact HRd2.out.kept hg9b.size (fun b off e => hg9b.block b (by cases e; omega) (by cases e; intro e2; cases e2; omega))
                · exact Nat.le_trans hsz hg9b.size
                · exact HB2.out.grown hg9b HB2.out.size (fun j hj => by cases hj; exact hgl)
              case measure => simp [intOf]; omega
            · have hkL : k = L / 64 := by omega
              have hmL : m = L := by omega
              have hall : runB k st0 all = full all := by unfold full; rw [hrd.len, hkL]
              rw [hall] at hrw
              have hle : ¬ (m : Int) + 64 ≤ (L : Int) := by omega
              have hwrap := IntWalk.i64_in ((m : Int) + 64) (by omega)
              have hdig : dig ys = outTo (full all) 8 := by rw [outTo_all, HAll.out]; unfold dig; rw [hlen.out]
              have hSok := full_ok all
              generalize full all = S at hrw hdig hSok
              obtain ⟨A, hA⟩ : ∃ A, A = stArr S := ⟨_, rfl⟩
              rw [← hA] at hrw
              have hgr : g < wr.heap.size := lt_of_block hrw
              have HRw := Lib.hid hrw
              have HD := Lib.hid hdig
              have HOK := Lib.hid (stL_lt S hSok)
              have HAat := Lib.hid (fun k hk => by rw [hA]; exact stArr_at S k hk : ∀ k, k < 8 → A[k]? = some (.int .u32 (((stL S).getD k 0 : Nat) : Int)))
              clear hrw hdig hSok hA hall hkL hmL hm hkon hrd hcv
              go_wp2
              obtain ⟨Bs, hBs⟩ : ∃ Bs, Bs = wr.heap.size := ⟨_, rfl⟩
              have hBsw : w.heap.size ≤ Bs := by rw [hBs]; exact hB.size
              go_loopw [9, 10] (fun o i wx => ∃ k : Nat, k ≤ 8 ∧ i = .int .i64 k ∧ wx.ownsRow Bs 5 1 o (4 * k) (bvs (outTo S k)) ∧ Bs ≤ wx.heap.size ∧ wx.heap[g]? = some (.cells A 157 (0, 0)) ∧ Below w.heap.size w wx) (fun _ i _ => 8 - (intOf i).toNat)
              case atStart => exact ⟨0, by omega, rfl, World.ownsRow_nil _ _ _ _, by omega, HRw.out, hB⟩
              case round =>
                obtain ⟨k, hk, rfl, hown, hbs, hrw, hBx⟩ := hrel
                obtain ⟨ao, co, rfl, hrd, _⟩ := owns_shape hown (by omega)
                by_cases hlt8 : k < 8
                · have hnl := HOK.out k
                  have hst := outTo_step S k hlt8
                  have hc0 := (cell_of_blk hrw k).trans (HAat.out k hlt8)
                  generalize (stL S).getD k 0 = N at hc0 hnl hst
                  have hcl : (#[.int .u8 (IntKind.u8.wrap ((N : Int) / 16777216)), .int .u8 (IntKind.u8.wrap ((N : Int) / 65536)), .int .u8 (IntKind.u8.wrap ((N : Int) / 256)), .int .u8 (IntKind.u8.wrap (N : Int))] : Array Value) = (bvs (out4 N)).toArray := by
                    have b3 := byteAt3 N hnl
                    rw [out4_cells, ← byteAt2, ← byteAt1, ← byteAt0, ← b3, IntKind.wrap_u8, IntKind.wrap_u8, IntKind.wrap_u8, IntKind.wrap_u8, show (N : Int) / 16777216 % 256 = (N : Int) / 16777216 from by omega]
                  have hcell0 := row_cells wr (bvs (out4 N)) 5
                  rw [← hcl] at hcell0
                  have hcell : ∀ (j : Nat) (u : Value), (bvs (out4 N))[j]? = some u → (wr.alloc (.cells #[.int .u8 (IntKind.u8.wrap ((N : Int) / 16777216)), .int .u8 (IntKind.u8.wrap ((N : Int) / 65536)), .int .u8 (IntKind.u8.wrap ((N : Int) / 256)), .int .u8 (IntKind.u8.wrap (N : Int))] 5)).drew.cell? ((⟨wr.heap.size, 0, none⟩ : Addr).add j) = some u := fun j u hj => by rw [World.cell?_drew]; exact hcell0 j u hj
                  have hl4 : (out4 N).length = 4 := by simp [out4, enc_length]
                  have hkg : ∀ w' : World, w'.heap[g]? = wr.heap[g]? → w'.cell? ⟨g, k, none⟩ = some (.int .u32 (N : Int)) := fun w' e => by
                    rw [World.cell?_of_block (w := wr) e]; exact hc0
                  have hgx : g < wr.heap.size := lt_of_block hrw
                  have hal : (wr.alloc (.cells #[.int .u8 (IntKind.u8.wrap ((N : Int) / 16777216)), .int .u8 (IntKind.u8.wrap ((N : Int) / 65536)), .int .u8 (IntKind.u8.wrap ((N : Int) / 256)), .int .u8 (IntKind.u8.wrap (N : Int))] 5)).drew.heap[g]? = wr.heap[g]? := Below.heap_alloc wr _ _ hgx
                  have ho2 : (wr.alloc (.cells #[.int .u8 (IntKind.u8.wrap ((N : Int) / 16777216)), .int .u8 (IntKind.u8.wrap ((N : Int) / 65536)), .int .u8 (IntKind.u8.wrap ((N : Int) / 256)), .int .u8 (IntKind.u8.wrap (N : Int))] 5)).drew.ownsRow Bs 5 1 (.slice ao (4 * k) co) (4 * k) (bvs (outTo S k)) := hown.alloc _
                  have hbase : Bs ≤ (wr.alloc (.cells #[.int .u8 (IntKind.u8.wrap ((N : Int) / 16777216)), .int .u8 (IntKind.u8.wrap ((N : Int) / 65536)), .int .u8 (IntKind.u8.wrap ((N : Int) / 256)), .int .u8 (IntKind.u8.wrap (N : Int))] 5)).drew.heap.size := by show Bs ≤ (wr.alloc _).heap.size; simp; omega
                  have hne : ∀ j, (Value.slice ao (4 * k) co).ownBlock = some j → Bs ≤ j := fun j e => (hown.lt j e).1
                  have hap : ∀ w' : World, (wr.alloc (.cells #[.int .u8 (IntKind.u8.wrap ((N : Int) / 16777216)), .int .u8 (IntKind.u8.wrap ((N : Int) / 65536)), .int .u8 (IntKind.u8.wrap ((N : Int) / 256)), .int .u8 (IntKind.u8.wrap (N : Int))] 5)).drew.grownBy w' (Value.slice ao (4 * k) co).ownBlock → w'.heap[g]? = wr.heap[g]? := fun w' hg2 => by
                    rw [hg2.block g (by show g < (wr.alloc _).heap.size; simp; omega) (fun e => by have := hne g e.symm; omega)]; exact hal
                  have h1 : wr.drew.cell? ⟨g, k, none⟩ = some (.int .u32 (N : Int)) := hkg _ rfl
                  have h2 : (wr.alloc (.cells #[.int .u8 (IntKind.u8.wrap ((N : Int) / 16777216)), .int .u8 (IntKind.u8.wrap ((N : Int) / 65536)), .int .u8 (IntKind.u8.wrap ((N : Int) / 256)), .int .u8 (IntKind.u8.wrap (N : Int))] 5)).drew.cell? ⟨g, k, none⟩ = some (.int .u32 (N : Int)) := hkg _ hal
                  have i1 : (0 : Int) ≤ (k : Int) := by omega
                  have i2 : (k : Int) < 8 := by omega
                  have HKG := Lib.hid hkg
                  have HAP := Lib.hid hap
                  have HO2 := Lib.hid ho2
                  have HCE := Lib.hid hcell
                  have HBA := Lib.hid hbase
                  have HST5 := Lib.hid hst
                  have HL4 := Lib.hid hl4
                  have HH1 := Lib.hid h1
                  have HH2 := Lib.hid h2
                  have HOW := Lib.hid hown
                  clear hkg hap ho2 hcell hcell0 hbase hst hcl hl4 h1 h2 hal hne hown
                  go_wp2_with fail
                  go_region_held_law (fun w' => w'.cell? ⟨g, k, none⟩ = some (.int .u32 (N : Int))) (first | exact HH1.out | exact HH2.out | exact HKG.out _ (HAP.out _ (by assumption)))
                    (first | (refine step_append_bytes (o := ⟨some 83, _, _, _, _, _⟩) rfl (.tmp 62) (.tmp 82) 128 rfl Bs 5 i5 Tryz.underlying128 hi hz0 hz1 hz2 (.slice ao (4 * k) co) (4 * k) (outTo S k) (by rfl) HO2.out ⟨wr.heap.size, 0, none⟩ 4 4 (out4 N) (by rfl) HL4.out HCE.out (by omega) HBA.out ?_; intro v' w' hown' hgrow'))
                  have hgr2 : g < wr.heap.size := hgx
                  have hB9 := ((hBx.alloc hBx.size (.cells #[.int .u8 (IntKind.u8.wrap ((N : Int) / 16777216)), .int .u8 (IntKind.u8.wrap ((N : Int) / 65536)), .int .u8 (IntKind.u8.wrap ((N : Int) / 256)), .int .u8 (IntKind.u8.wrap (N : Int))] 5)).drew).grown hgrow' (by show w.heap.size ≤ (wr.alloc _).heap.size; have := hBx.size; simp; omega) (fun j hj => Nat.le_trans hBsw (HOW.out.lt j hj).1)
                  have hg9 := (HAP.out _ hgrow').trans hrw
                  have hs9 := Nat.le_trans HBA.out hgrow'.size
                  rw [← HST5.out] at hown'
                  clear hgrow'
                  go_wp2
                  go_roundw
                  case rel => exact ⟨k + 1, by omega, by go_num, hown', hs9, hg9, hB9⟩
                  case measure => simp [intOf]; omega
                · obtain rfl : k = 8 := by omega
                  have hcv := run_string_rd hrd
                  go_wp2
                  go_ret
                  exact ⟨by rw [HD.out]; rfl, hBx⟩
end Go.Proofs.YtpkeikbiblfidaaGreatDoor.Dg

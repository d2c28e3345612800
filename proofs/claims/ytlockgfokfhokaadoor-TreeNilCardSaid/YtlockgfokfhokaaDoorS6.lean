/-
  Contracts: the padding; the reference's constants; a copy into the middle of a block.
-/
import Derived.Test.YtlockgfokfhokaaDoorS5
import Derived.Laws.OwnMore
import Derived.WalkMore
namespace Go.Proofs.YtlockgfokfhokaaDoor
open Go.RowKit
set_option linter.unusedVariables false

/-- 'copy' into the middle of a block: the block alone has changed. -/
theorem wpList_copy_mid {P : Program} {w : World} {ops : Array Oper} {rest : List Oper} {o : Oper} {a : Act} {Q : Exit → Act → World → Prop} (hgd : o.guard = none) (d s : Operand) (dT sT : TypeId)
    (ho : o.op = .call { callee := .builtin .copy, args := #[d, s], argTypes := #[dT, sT] }) (elem : TypeId) (hu : P.underlying dT = some (.slice elem)) (hsz : (P.info? elem).map (·.size) = some 1)
    (g off dLen dCap : Nat) (ad : Addr) (sLen sCap : Nat) (hd : a.eval d = .slice (some ⟨g, off, none⟩) dLen dCap) (hs : a.eval s = .slice (some ad) sLen sCap)
    (cur : List Value) (t : TypeId) (hg : w.heap[g]? = some (.cells cur.toArray t (0, 0))) (cs : List Value) (hn : cs.length = Nat.min sLen dLen)
    (hsrc : ∀ j v, cs[j]? = some v → w.cell? (ad.add j) = some v) (hfit : off + cs.length ≤ cur.length) (h1 : ∀ v ∈ cs, v.oneCell' = true)
    (h : ∀ w', Hid (w'.heap[g]? = some (.cells (splice cur off cs).toArray t (0, 0))) → w.grownBy w' (some g) → wpList P ops Q rest (a.put o.dst (goInt cs.length)) w') :
    wpList P ops Q (o :: rest) a w := by
  refine wpList_copy_own hgd d s dT sT ho elem hu hsz g off dLen dCap ad sLen sCap hd hs cur.toArray t hg cs hn hsrc (by simpa using hfit) h1 ?_
  refine h _ (Lib.hid (by simpa [splice] using setRow_heap w g _ _ t _ hg)) ⟨rfl, rfl, rfl, by simp [World.setRow], fun k hk hne => setRow_other w g k _ (fun e => hne (by rw [e]))⟩

theorem owns_made_set {w : World} {B g n cap : Nat} {v : UInt8} (hB : B ≤ g) (hn : 0 < n) (hle : n ≤ cap) (hc : cap ≤ 140737488355328)
    (h : w.heap[g]? = some (.cells ((madeCells #[.int .u8 0] cap).setIfInBounds 0 (.int .u8 (v.toNat : Int))) 5 (0, 0))) :
    w.ownsRow B 5 1 (.slice (some ⟨g, 0, none⟩) n cap) n (bvs (v :: List.replicate (n - 1) 0)) := by
  refine ⟨by simp [bvs_length]; omega, .inr ⟨g, cap, _, rfl, hB, h, hle, by unfold maxLen; omega, by simp [size_madeCells], ?_⟩⟩
  rw [Array.toList_setIfInBounds, toList_madeCells_one]
  obtain ⟨k, rfl⟩ : ∃ k, n = k + 1 := ⟨n - 1, by omega⟩
  obtain ⟨m, rfl⟩ : ∃ m, cap = m + 1 := ⟨cap - 1, by omega⟩
  simp [List.replicate_succ, bvs, List.take_replicate, Nat.min_eq_left (show k ≤ m by omega)]

set_option maxRecDepth 20000 in
set_option maxHeartbeats 1000000 in
theorem padding_any (n : Nat) (w : World) (hn : n ≤ 1152921504606846976) :
    Calls Tryd.prog 80 #[.int .u64 n] w fun e w' => ∃ g c, e = .returned (.slice (some ⟨g, 0, none⟩) (72 - (n + 8) % 64) c) ∧ w.heap.size ≤ g ∧ Rd w' (some ⟨g, 0, none⟩) (72 - (n + 8) % 64) c (padN n) ∧ Below w.heap.size w w' := by
  obtain ⟨z, hz⟩ : ∃ z, z = 63 - (n + 8) % 64 := ⟨_, rfl⟩
  have hz1 : (63 : Int) - ((n : Int) + 8) % 64 = (z : Int) := by omega
  have hz2 : z < 64 := by omega
  have hm : 72 - (n + 8) % 64 = 1 + z + 8 := by omega
  have hp : padN n = (128 :: List.replicate (1 + z - 1) 0) ++ out8 (n * 8 % 18446744073709551616) := by unfold padN; rw [show 63 - (n + 8) % 64 = 1 + z - 1 from by omega]
  rw [hm, hp]
  have hmk : ∀ w, (Instr.makeSlice 44 (.int .i64 (1 + (z : Int))) (.int .i64 (1 + (z : Int) + 8))).run Tryd.prog w = .ok (.slice (some ⟨w.heap.size, 0, none⟩) (1 + z) (1 + z + 8)) (w.alloc (.cells (madeCells #[.int .u8 0] (1 + z + 8)) 5)) := fun w => by
    have := make_run (1 + z) (by omega) w
    simpa using this
  obtain ⟨i5, hi, hi0, hi1, hi2⟩ := info_parts Tryd.info5
  have hnew := heap_alloc_new w (.cells (madeCells #[.int .u8 0] (1 + z + 8)) 5)
  have hset := heap_alloc_new w (.cells ((madeCells #[.int .u8 0] (1 + z + 8)).setIfInBounds 0 (.int .u8 128)) 5)
  have hown := owns_made_set (v := 128) (n := 1 + z) (Nat.le_refl w.heap.size) (by omega) (by omega) (by omega) hset
  have hc0 : (w.alloc (.cells (madeCells #[.int .u8 0] (1 + z + 8)) 5)).cell? ⟨w.heap.size, 0, none⟩ = some (.int .u8 0) := by
    rw [cell_of_blk hnew, ← Array.getElem?_toList, toList_madeCells_one]; simp
  have hf0 : (w.alloc (.cells (madeCells #[.int .u8 0] (1 + z + 8)) 5)).frozen? ⟨w.heap.size, 0, none⟩ = false := free_of_blk hnew 0
  have hB : Below w.heap.size w (w.alloc (.cells ((madeCells #[.int .u8 0] (1 + z + 8)).setIfInBounds 0 (.int .u8 128)) 5)) := (Below.refl _ _).alloc (Nat.le_refl _) _
  have HZ := Lib.hid hz
  have HO := Lib.hid hown
  have HB := Lib.hid hB
  clear hz hnew hset hown hB hm hp
  go_enter Tryd.func80, Tryd.ntmps80
  go_wp2
  obtain ⟨xs, hxs⟩ : ∃ xs : List UInt8, xs = 128 :: List.replicate (1 + z - 1) 0 := ⟨_, rfl⟩
  obtain ⟨N, hN⟩ : ∃ N, N = n * 8 % 18446744073709551616 := ⟨_, rfl⟩
  have hNi : (n : Int) * 8 % 18446744073709551616 = (N : Int) := by omega
  have hown := HO.out
  have hB := HB.out
  rw [← hxs] at hown
  have hx0 : encTo N 8 0 = [] := rfl
  have HXS := Lib.hid hxs
  have HN := Lib.hid hN
  generalize w.alloc (.cells ((madeCells #[.int .u8 0] (1 + z + 8)).setIfInBounds 0 (.int .u8 128)) 5) = w1 at hown hB ⊢
  clear hN hxs HO HB hc0 hf0 hmk
  go_loopw [4, 19] (fun o i wr => ∃ k : Nat, k ≤ 8 ∧ i = .int .i64 k ∧ o = .slice (some ⟨w.heap.size, 0, none⟩) (1 + z + k) (1 + z + 8) ∧
      wr.ownsRow w.heap.size 5 1 (.slice (some ⟨w.heap.size, 0, none⟩) (1 + z + k) (1 + z + 8)) (1 + z + k) (bvs (xs ++ encTo N 8 k)) ∧ Below w.heap.size w wr) (fun _ i _ => 8 - (intOf i).toNat)
  case atStart => exact ⟨0, by omega, rfl, rfl, by simpa [hx0] using hown, hB⟩
  case round =>
    clear hown hx0 hB
    obtain ⟨k, hk, rfl, rfl, hown, hB⟩ := hrel
    by_cases hlt : k < 8
    · obtain ⟨j, hj⟩ : ∃ j, j = 8 - 1 - k := ⟨_, rfl⟩
      have hj1 : (7 : Int) - (k : Int) = (j : Int) := by omega
      have hj2 : (0 : Int) ≤ (j : Int) := by omega
      have hj3 : (j : Int) ≤ 7 := by omega
      go_wp2_with (first
        | (at_builtin; refine wpList_append_fits (o := ⟨some 31, _, _, _, _, _⟩) _ rfl (.tmp 22) (.tmp 30) 44 rfl w.heap.size 5 i5 1 Tryd.underlying44 hi hi1 w.heap.size (1 + z + k) (1 + z + 8) _ rfl (hown.alloc _) ⟨wr.heap.size, 0, none⟩ 1 1 (bvs [byteAt N (8 - 1 - k)]) rfl rfl ?d2 (bvs_one _) (by omega) ?d3))
      case d2 =>
        have hsb := shr_byte N j
        rw [← hj]
        have e8 : (n : Int) * 8 = (N : Int) := by have := HN.out; omega
        rw [e8, hsb]
        exact one_cell _ _
      intro w2 hown2 hgrow
      have hB2 := (hB.alloc (by have := hB.size; omega) _).grown hgrow (by have := hB.size; simp; omega) (fun j hj => by cases hj; exact Nat.le_refl _)
      rw [← bvs_append, List.append_assoc, ← encTo_snoc N 8 k hlt] at hown2
      clear hown hB hgrow
      go_wp2
      go_roundw
      case rel => exact ⟨k + 1, by omega, by go_num, rfl, hown2, hB2⟩
      case measure => simp [intOf]; omega
    · obtain rfl : k = 8 := by omega
      go_wp2
      go_ret
      have hrd := rd_of_owns hown (by omega)
      rw [show encTo N 8 8 = out8 N from List.take_of_length_le (by rw [enc_length]; omega), HXS.out, HN.out] at hrd
      exact ⟨_, _, rfl, Nat.le_refl _, hrd, hB⟩
end Go.Proofs.YtlockgfokfhokaaDoor


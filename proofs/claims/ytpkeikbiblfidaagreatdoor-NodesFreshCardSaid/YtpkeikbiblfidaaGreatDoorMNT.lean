/-
  Texts put together: NT.
-/
import Derived.Test.YtpkeikbiblfidaaGreatDoorMNP
/-
  Behind Full, writes and Rehash of what was written, the tree is that of the data sectors (P13.3).
-/
namespace Go.Proofs.YtpkeikbiblfidaaGreatDoor
open Go.RowKit
set_option linter.unusedVariables false
set_option linter.unusedSimpArgs false

theorem write_fail {S : DS} (h : S.off = false) (hl : S.left = -1) {a : Int} {d : ByteArray} (hz : (S.write a d).1 ≠ 0) : (S.write a d).2 = S := by
  by_cases ha : S.has a
  · by_cases hd : d.size = 64
    · exact absurd (write_done h hl ha hd) hz
    · have e : S.write a d = (4, S) := by unfold DS.write; rw [h, if_neg (by simp), if_pos ha, if_neg hd]
      rw [e]
  · have e : S.write a d = (3, S) := by unfold DS.write; rw [h, if_neg (by simp), if_neg ha]
    rw [e]
/-- Data sectors' places for the numbers of writes. -/
def placeX (N F C U : Int) (X : Nat → PK) : Nat → PK := fun k => ⟨dataAt N F C U (X k).at', (X k).data⟩
/-- The leaves whose sectors were written. -/
def lvs (N F C U : Int) (S : DS) (X : Nat → PK) : Nat → List Int
  | 0 => []
  | k + 1 => if 0 ≤ dataAt N F C U (X k).at' ∧ ((putsS S (placeX N F C U X) k).write (dataAt N F C U (X k).at') (X k).data).1 = 0 then lvs N F C U S X k ++ [(X k).at'] else lvs N F C U S X k
theorem dataAt_in {N F C U x : Int} (h : 0 ≤ dataAt N F C U x) : 0 ≤ x ∧ x < N ∧ dataAt N F C U x = 6 + x := by
  unfold dataAt at h ⊢
  split at h
  · rename_i hh; rw [if_pos hh]; exact ⟨hh.2.1, hh.2.2, rfl⟩
  · omega
theorem lvs_length (N F C U : Int) (S : DS) (X : Nat → PK) : ∀ k, (lvs N F C U S X k).length ≤ k
  | 0 => Nat.le_refl _
  | k + 1 => by
    have := lvs_length N F C U S X k
    unfold lvs
    split
    · rw [List.length_append]; simp; omega
    · omega
theorem lvs_in (N F C U : Int) (S : DS) (X : Nat → PK) : ∀ k, ∀ x ∈ lvs N F C U S X k, 0 ≤ x ∧ x < N
  | 0, x, h => by cases h
  | k + 1, x, h => by
    unfold lvs at h
    split at h
    · rename_i hh
      rcases List.mem_append.1 h with h1 | h1
      · exact lvs_in N F C U S X k x h1
      · rw [List.mem_singleton.1 h1]
        have := dataAt_in hh.1
        exact ⟨this.1, this.2.1⟩
    · exact lvs_in N F C U S X k x h
theorem lvs_out {N F C U : Int} {S : DS} (h : S.off = false) (hl : S.left = -1) (X : Nat → PK) : ∀ k (j : Nat), (j : Int) ∉ lvs N F C U S X k → (putsS S (placeX N F C U X) k).read (6 + (j : Int)) = S.read (6 + (j : Int))
  | 0, j, _ => rfl
  | k + 1, j, hj => by
    obtain ⟨p1, p2, -⟩ := puts_on h hl (placeX N F C U X) k
    show ((putsS S (placeX N F C U X) k).write (dataAt N F C U (X k).at') (X k).data).2.read _ = _
    unfold lvs at hj
    by_cases hz : ((putsS S (placeX N F C U X) k).write (dataAt N F C U (X k).at') (X k).data).1 = 0
    · by_cases h0 : 0 ≤ dataAt N F C U (X k).at'
      · rw [if_pos ⟨h0, hz⟩] at hj
        have hd := dataAt_in h0
        rw [read_write hz, if_neg (fun e => hj (List.mem_append.2 (.inr (by rw [hd.2.2] at e; rw [show (j : Int) = (X k).at' from by omega]; exact List.mem_singleton.2 rfl))))]
        exact lvs_out h hl X k j fun hm => hj (List.mem_append.2 (.inl hm))
      · rw [if_neg (fun hh => h0 hh.1)] at hj
        rw [read_write hz, if_neg (by omega)]
        exact lvs_out h hl X k j hj
    · rw [if_neg (fun hh => hz hh.2)] at hj
      rw [write_fail p1 p2 hz]
      exact lvs_out h hl X k j hj

/-- The data sectors of a disk. -/
def secsL (Z : DS) (k : Nat) : List ByteArray := (List.range k).map fun j : Nat => (Z.read (6 + (j : Int))).1
theorem secsL_length (Z : DS) (k : Nat) : (secsL Z k).length = k := by simp [secsL]
theorem secsL_at (Z : DS) {k j : Nat} (h : j < k) : lAt (secsL Z k) j = (Z.read (6 + (j : Int))).1 := by
  unfold lAt secsL
  rw [List.getElem?_map, List.getElem?_range h]
  rfl
theorem secsL_next (Z : DS) (k : Nat) : secsL Z (k + 1) = secsL Z k ++ [(Z.read (6 + (k : Int))).1] := by
  unfold secsL
  rw [List.range_succ, List.map_append]
  rfl

set_option maxHeartbeats 1000000 in
theorem fresh_tree {N F C U : Int} {n : Nat} (hok : okG N F C U) (hn : 6 + N + (nodes N F C U : Nat) ≤ (n : Int)) (h12 : n ≤ 1200) (X : Nat → PK) (l : Nat) (hl : l ≤ 100) {E : DS} {r : (List UInt8 × Int) × DS} (hE : E = putsS (fullP N F C U (ds0 n)).2 (placeX N F C U X) l) (hr : r = rehP N F C U E (lvs N F C U (fullP N F C U (ds0 n)).2 X l)) :
    r.1 = ((lAt (treeL N F C U (secsL r.2 N.toNat)) (nodes N F C U - 1)).data.toList, 0) ∧ allP N F C U r.2 = (treeL N F C U (secsL r.2 N.toNat), 0) ∧ (∀ j : Nat, (j : Int) < N → (r.2.read (6 + (j : Int))).2 = 0) ∧ (treeL N F C U (secsL r.2 N.toNat)).length = nodes N F C U := by
  have hN := hok.1
  have hl0 : (ds0 n).L.length = n := by simp [ds0]
  obtain ⟨f0, f1, f2, f3⟩ := full_done (D := ds0 n) hok rfl rfl (by rw [hl0]; exact hn)
  have hfall := rehP_all (ds0_ok n h12) (ds0_sz n) N F C U (everyL N)
  have hfok : (fullP N F C U (ds0 n)).2.ok (0 + 256) := hfall.1
  have hfsz : (fullP N F C U (ds0 n)).2.sz := hfall.2.1
  obtain ⟨L0, hF, -⟩ := full_fresh hok (ds0_ok n h12) f0
  obtain ⟨S0, hS0⟩ : ∃ S, S = (fullP N F C U (ds0 n)).2 := ⟨_, rfl⟩
  rw [← hS0] at hE hr hF f1 f2 f3 hfok hfsz
  obtain ⟨p1, p2, p3⟩ := puts_on f1 f2 (placeX N F C U X) l
  have hoth := fun x => puts_other (x := x) f1 f2 (placeX N F C U X) l
  have hout := lvs_out (N := N) (F := F) (C := C) (U := U) f1 f2 X l
  have hEok := (putsS_all hfok hfsz (placeX N F C U X) l).1
  rw [← hE] at p1 p2 p3 hoth hout hEok
  have hXat : ∀ k, (placeX N F C U X k).at' = -1 ∨ 6 ≤ (placeX N F C U X k).at' ∧ (placeX N F C U X k).at' < 6 + N := fun k => by
    show dataAt N F C U (X k).at' = -1 ∨ 6 ≤ dataAt N F C U (X k).at' ∧ dataAt N F C U (X k).at' < 6 + N
    unfold dataAt
    split
    · right; omega
    · left; rfl
  have hlen : E.L.length = n := by rw [p3, f3, hl0]
  have hk : Kept N F C U E L0 := ⟨fun x h0 h1 => by
    rw [hoth x (fun j _ e => by rcases hXat j with h | h <;> omega), hF.reads, if_pos ⟨h0, h1⟩], hF.small⟩
  obtain ⟨L, hR⟩ := reh_part (l := lvs N F C U S0 X l) hok hEok p1 p2 (by rw [hlen]; exact hn) hF.len hk (lvs_in N F C U S0 X l) (fun j hj hmj => by
    rw [(hF.right j hj).1]
    unfold hashR
    by_cases hjN : (j : Int) < N
    · rw [if_pos hjN, if_pos hjN]
      have hda : dataAt N F C U j = 6 + (j : Int) := by unfold dataAt; rw [if_pos ⟨hok, by omega, hjN⟩]
      have hnm : (j : Int) ∉ lvs N F C U S0 X l := fun hm => by
        have := mark_leaf (N := N) (F := F) (C := C) (U := U) hm
        rw [hmj] at this; cases this
      have e : E.read (6 + (j : Int)) = (ds0 n).read (6 + (j : Int)) := by rw [hout j hnm, hF.reads, if_neg (by omega)]
      rw [hda, e]
    · rw [if_neg hjN, if_neg hjN])
  rw [← hr] at hR
  have hle := nodes_le2 hok
  have hdat : ∀ j : Nat, (j : Int) < N → (r.2.read (6 + (j : Int))).2 = 0 := fun j hj => by
    rw [hR.data _ (by omega)]
    exact read_done p1 (by omega) (by rw [hlen]; omega)
  have htof : Tv.TOf N F C U (secsL r.2 N.toNat) L := ⟨hok, by rw [secsL_length]; omega, hR.len, fun j hj => by
    rw [secsL_length] at hj
    rw [secsL_at _ hj, hR.right j (by omega), hR.data _ (by omega)]
    unfold hashR
    have hda : dataAt N F C U j = 6 + (j : Int) := by unfold dataAt; rw [if_pos ⟨hok, by omega, by omega⟩]
    have h0 : (E.read (6 + (j : Int))).2 = 0 := read_done p1 (by omega) (by rw [hlen]; omega)
    rw [if_pos (by omega), hda, if_neg (by simpa using h0)], fun k h1 h2 => by
    rw [secsL_length] at h1
    rw [hR.right k h2]
    unfold hashR
    rw [if_neg (by omega)]⟩
  have hu := htof.uniq (Tv.tof_tree hok (by rw [secsL_length]; omega))
  rw [← hu]
  exact ⟨hR.root, all_kept hok hR.len hR.kept, hdat, hR.len⟩
end Go.Proofs.YtpkeikbiblfidaaGreatDoor

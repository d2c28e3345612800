/-
  Texts put together: OS.
-/
import Derived.Test.YtpkeikbiblfidaaGreatDoorME2
/-
  Every sector of a disk, and every one that waits, is of 64 bytes; lengths: what is general.
-/
namespace Go.Proofs.YtpkeikbiblfidaaGreatDoor
open Go.RowKit
set_option linter.unusedVariables false
set_option linter.unusedSimpArgs false

/-- All sectors are whole ones. -/
structure DS.sz (S : DS) : Prop where
  l : ∀ x ∈ S.L, x.size = 64
  w : ∀ x ∈ S.W, x.2.size = 64

theorem wsz {W : List (Int × ByteArray)} (h : ∀ x ∈ W, x.2.size = 64) (i : Nat) (hi : i < W.length) : (wAt W i).2.size = 64 := by
  unfold wAt; rw [List.getElem?_eq_getElem hi]; exact h _ (List.getElem_mem hi)
theorem set_sz {L : List ByteArray} {x : ByteArray} (h : ∀ y ∈ L, y.size = 64) (hx : x.size = 64) (i : Nat) : ∀ y ∈ L.set i x, y.size = 64 := fun y hy => by
  rcases List.mem_or_eq_of_mem_set hy with e | e
  · exact h y e
  · rw [e]; exact hx
theorem appK_sz {L : List ByteArray} {W : List (Int × ByteArray)} (K : List Bool) (h : ∀ x ∈ L, x.size = 64) (hw : ∀ x ∈ W, x.2.size = 64) : ∀ i, i ≤ W.length → ∀ x ∈ appK L W K i, x.size = 64
  | 0, _ => h
  | i + 1, hi => by
    have ih := appK_sz K h hw i (by omega)
    unfold appK
    split
    · exact set_sz ih (wsz hw i (by omega)) _
    · exact ih
theorem appW_sz {L : List ByteArray} {W : List (Int × ByteArray)} (h : ∀ x ∈ L, x.size = 64) (hw : ∀ x ∈ W, x.2.size = 64) : ∀ i, i ≤ W.length → ∀ x ∈ appW L W i, x.size = 64
  | 0, _ => h
  | i + 1, hi => set_sz (appW_sz h hw i (by omega)) (wsz hw i (by omega)) _
theorem look_sz {W : List (Int × ByteArray)} {d : ByteArray} (at' : Int) (hw : ∀ x ∈ W, x.2.size = 64) (hd : d.size = 64) : ∀ i, i ≤ W.length → (look W at' d i).size = 64
  | 0, _ => hd
  | i + 1, hi => by
    unfold look
    split
    · exact wsz hw i (by omega)
    · exact look_sz at' hw hd i (by omega)
theorem burnt_sz {S : DS} (h : S.sz) : S.burnt.sz := by
  unfold DS.burnt; split <;> exact ⟨h.l, h.w⟩
theorem burnt_Le (S : DS) : S.burnt.L = S.L := by unfold DS.burnt; split <;> rfl
theorem DS.sz.write {S : DS} (h : S.sz) (at' : Int) (d : ByteArray) : (S.write at' d).2.sz := by
  unfold DS.write
  split
  · exact h
  · split
    · split
      · rename_i h64
        split
        · exact burnt_sz h
        · exact ⟨(burnt_sz h).l, fun x hx => by
            rcases List.mem_append.1 hx with e | e
            · exact h.w x e
            · rw [List.mem_singleton.1 e]; exact h64⟩
      · exact h
    · exact h
theorem DS.sz.flush {S : DS} (h : S.sz) : S.flush.2.sz := by
  unfold DS.flush
  split
  · exact h
  · split
    · exact burnt_sz h
    · exact ⟨appW_sz h.l h.w _ (Nat.le_refl _), fun x hx => by cases hx⟩
theorem DS.sz.fuse {S : DS} (h : S.sz) (n : Int) : (S.fuse n).sz := ⟨h.l, h.w⟩
theorem DS.sz.crash {S : DS} (h : S.sz) (K : List Bool) : (S.crash K).sz := ⟨appK_sz K h.l h.w _ (Nat.le_refl _), fun x hx => by cases hx⟩
theorem DS.sz.up {S : DS} (h : S.sz) : S.up.2.sz := by
  unfold DS.up
  split
  · exact ⟨h.l, fun x hx => by cases hx⟩
  · exact h
theorem DS.sz.read {S : DS} (h : S.sz) (x : Int) : (S.read x).1.size ≤ 140737488355328 := by
  unfold DS.read
  split
  · exact Nat.zero_le _
  · split
    · rename_i hh
      have h64 : (lAt S.L x.toNat).size = 64 := by
        unfold lAt
        obtain ⟨h1, h2⟩ := hh
        rw [List.getElem?_eq_getElem (by omega)]
        exact h.l _ (List.getElem_mem _)
      have := look_sz x h.w h64 S.W.length (Nat.le_refl _)
      dsimp only
      omega
    · exact Nat.zero_le _
theorem ds0_sz (n : Nat) : (ds0 n).sz := ⟨fun x hx => by rw [List.eq_of_mem_replicate hx]; rfl, fun x hx => by cases hx⟩

theorem write_len' (S : DS) (at' : Int) (d : ByteArray) : (S.write at' d).2.L.length = S.L.length := by
  unfold DS.write
  split
  · rfl
  · split
    · split
      · split
        · show S.burnt.L.length = _; rw [burnt_Le]
        · show S.burnt.L.length = _; rw [burnt_Le]
      · rfl
    · rfl
theorem flush_len' (S : DS) : S.flush.2.L.length = S.L.length := by
  unfold DS.flush
  split
  · rfl
  · split
    · show S.burnt.L.length = _; rw [burnt_Le]
    · exact appW_length _ _ _
theorem up_len' (S : DS) : S.up.2.L.length = S.L.length := by
  unfold DS.up
  split <;> rfl
theorem DS.sz.read64 {S : DS} (h : S.sz) (x : Int) : (S.read x).1.size ≤ 64 := by
  unfold DS.read
  split
  · exact Nat.zero_le _
  · split
    · rename_i hh
      have h64 : (lAt S.L x.toNat).size = 64 := by
        unfold lAt
        obtain ⟨h1, h2⟩ := hh
        rw [List.getElem?_eq_getElem (by omega)]
        exact h.l _ (List.getElem_mem _)
      have := look_sz x h.w h64 S.W.length (Nat.le_refl _)
      dsimp only
      omega
    · exact Nat.zero_le _
end Go.Proofs.YtpkeikbiblfidaaGreatDoor

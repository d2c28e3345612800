/-
  What a save leaves on a disk, and what is loaded then.
-/
import Derived.Test.YtdefdmmlmgkpnaaGreatDoorT3
namespace Go.Proofs.YtdefdmmlmgkpnaaGreatDoor
open Go.RowKit
set_option linter.unusedVariables false
set_option linter.unusedSimpArgs false

/-- A slot's record as a sector. -/
def recB (k seq : Nat) (xs : List UInt8) : ByteArray := ⟨(recL k (enc seq 8 ++ xs)).toArray⟩
theorem recB_size (k seq : Nat) (xs : List UInt8) (h : xs.length ≤ 50) : (recB k seq xs).size = 64 := by
  show (List.toArray (recL k (enc seq 8 ++ xs))).size = 64
  rw [List.size_toArray, recL_length _ _ (by simp [enc_length]; omega)]

theorem slotP_rec (k seq : Nat) (xs : List UInt8) (h1 : 1 ≤ k) (h8 : k ≤ 8) (hs : seq < 18446744073709551616) (hx : xs.length ≤ 50) :
    slotP (k : Int) (recB k seq xs).data.toList = ⟨true, seq, xs⟩ := by
  have hm : makeP (k : Int) (enc seq 8 ++ xs) = (recL k (enc seq 8 ++ xs), 0) := by
    unfold makeP
    rw [if_neg (by omega), if_neg (by simp [enc_length]; omega)]
    rfl
  have ho : openP (k : Int) (recB k seq xs).data.toList = (enc seq 8 ++ xs, 0) := make_open hm
  unfold slotP
  rw [ho]
  rw [if_pos ⟨rfl, by simp [enc_length]⟩]
  have e1 : (enc seq 8 ++ xs).take 8 = enc seq 8 := by
    rw [List.take_append_of_le_length (by rw [enc_length]; omega), List.take_of_length_le (by rw [enc_length]; omega)]
  have e2 : (enc seq 8 ++ xs).drop 8 = xs := by
    rw [List.drop_append_of_le_length (by rw [enc_length]; omega), List.drop_of_length_le (by rw [enc_length]; omega)]; rfl
  have e3 : numN (enc seq 8) = seq := by rw [enc_num, Nat.mod_eq_of_lt (by omega)]
  simp only [e1, e2, e3]

theorem kindP_none (s : List UInt8) (h : nb s 0 = 0) : (kindP s).2 ≠ 0 := by
  unfold kindP
  split
  · simp
  · split
    · simp
    · rw [if_pos (by omega)]
      simp
theorem slotP_none (kind : Int) (s : List UInt8) (h : nb s 0 = 0) : slotP kind s = noCT := by
  have hk := kindP_none s h
  have h' : (openP kind s).2 ≠ 0 := by
    unfold openP
    rw [if_pos hk]
    exact hk
  unfold slotP
  rw [if_neg (by intro h2; exact h' h2.1)]
theorem slotP_zero (kind : Int) : slotP kind (secOf 0).data.toList = noCT := slotP_none kind _ rfl

theorem saveP_go {S : DS} {at' : Nat} {k seq : Nat} {xs : List UInt8} (ha : at' ≤ 1200) (h1 : 1 ≤ k) (h8 : k ≤ 8) (hx : xs.length ≤ 50) :
    saveP S (at' : Int) (k : Int) seq xs = if (S.write ((at' + seq % 2 : Nat) : Int) (recB k seq xs)).1 ≠ 0 then S.write ((at' + seq % 2 : Nat) : Int) (recB k seq xs) else (S.write ((at' + seq % 2 : Nat) : Int) (recB k seq xs)).2.flush := by
  have hm : makeP (k : Int) (enc seq 8 ++ xs) = (recL k (enc seq 8 ++ xs), 0) := by
    unfold makeP
    rw [if_neg (by omega), if_neg (by simp [enc_length]; omega)]
    rfl
  unfold saveP
  rw [if_neg (by omega), if_neg (by omega), hm]
  dsimp only
  rw [if_neg (by simp), show (at' : Int) + ((seq % 2 : Nat) : Int) = ((at' + seq % 2 : Nat) : Int) from by omega]
  rfl

theorem has_of (L : List ByteArray) (W left off did) (i : Nat) (h : i < L.length) : (DS.mk L W left off did).has (i : Int) := ⟨by omega, by dsimp only; omega⟩

theorem save_whole (L : List ByteArray) (left : Int) (did at' k seq : Nat) (xs : List UInt8) (hl : left = -1 ∨ left = 2) (hL : at' + 1 < L.length) (ha : at' ≤ 1200) (h1 : 1 ≤ k) (h8 : k ≤ 8) (hx : xs.length ≤ 50) :
    saveP ⟨L, [], left, false, did⟩ (at' : Int) (k : Int) seq xs = (0, ⟨L.set (at' + seq % 2) (recB k seq xs), [], if left = 2 then 0 else -1, false, did + 2⟩) := by
  rw [saveP_go ha h1 h8 hx]
  have hw : (DS.mk L [] left false did).write ((at' + seq % 2 : Nat) : Int) (recB k seq xs) = (0, ⟨L, [(((at' + seq % 2 : Nat) : Int), recB k seq xs)], if left = 2 then 1 else -1, false, did + 1⟩) := by
    unfold DS.write
    rw [if_neg (by simp), if_pos (has_of _ _ _ _ _ _ (by omega)), if_pos (recB_size _ _ _ hx)]
    rcases hl with rfl | rfl <;> simp [DS.burnt]
  rw [hw, if_neg (by simp)]
  unfold DS.flush
  have e : ((at' : Int) + (seq : Int) % 2).toNat = at' + seq % 2 := by omega
  rcases hl with rfl | rfl <;> simp [DS.burnt, appW, wAt, e]

theorem save_none (L : List ByteArray) (did at' k seq : Nat) (xs : List UInt8) (hL : at' + 1 < L.length) (ha : at' ≤ 1200) (h1 : 1 ≤ k) (h8 : k ≤ 8) (hx : xs.length ≤ 50) :
    saveP ⟨L, [], 0, false, did⟩ (at' : Int) (k : Int) seq xs = (5, ⟨L, [], -1, true, did⟩) := by
  rw [saveP_go ha h1 h8 hx]
  have hw : (DS.mk L [] 0 false did).write ((at' + seq % 2 : Nat) : Int) (recB k seq xs) = (5, ⟨L, [], -1, true, did⟩) := by
    unfold DS.write
    rw [if_neg (by simp), if_pos (has_of _ _ _ _ _ _ (by omega)), if_pos (recB_size _ _ _ hx)]
    simp [DS.burnt]
  rw [hw, if_pos (by simp)]

theorem save_half (L : List ByteArray) (did at' k seq : Nat) (xs : List UInt8) (hL : at' + 1 < L.length) (ha : at' ≤ 1200) (h1 : 1 ≤ k) (h8 : k ≤ 8) (hx : xs.length ≤ 50) :
    saveP ⟨L, [], 1, false, did⟩ (at' : Int) (k : Int) seq xs = (5, ⟨L, [(((at' + seq % 2 : Nat) : Int), recB k seq xs)], -1, true, did + 1⟩) := by
  rw [saveP_go ha h1 h8 hx]
  have hw : (DS.mk L [] 1 false did).write ((at' + seq % 2 : Nat) : Int) (recB k seq xs) = (0, ⟨L, [(((at' + seq % 2 : Nat) : Int), recB k seq xs)], 0, false, did + 1⟩) := by
    unfold DS.write
    rw [if_neg (by simp), if_pos (has_of _ _ _ _ _ _ (by omega)), if_pos (recB_size _ _ _ hx)]
    simp [DS.burnt]
  rw [hw, if_neg (by simp)]
  unfold DS.flush
  simp [DS.burnt]

theorem read_flat (L : List ByteArray) (left did) (i : Nat) (h : i < L.length) (kind : Int) : readP ⟨L, [], left, false, did⟩ (i : Int) kind = (slotP kind (lAt L i).data.toList, 0) := by
  have hr : (DS.mk L [] left false did).read (i : Int) = (lAt L i, 0) := by
    unfold DS.read
    rw [if_neg (by simp), if_pos (has_of _ _ _ _ _ _ h)]
    simp [look]
  unfold readP
  rw [hr]
  simp

theorem load_flat (L : List ByteArray) (left did) (i : Nat) (h : i + 1 < L.length) (kind : Int) :
    loadP ⟨L, [], left, false, did⟩ (i : Int) kind = if (laterP (slotP kind (lAt L i).data.toList) (slotP kind (lAt L (i + 1)).data.toList)).no then (noCT, 10) else (laterP (slotP kind (lAt L i).data.toList) (slotP kind (lAt L (i + 1)).data.toList), 0) := by
  unfold loadP
  rw [read_flat _ _ _ _ (by omega), show ((i : Int) + 1) = ((i + 1 : Nat) : Int) from by omega, read_flat _ _ _ _ h]
  simp only [ne_eq, not_true_eq_false, if_false]

/-- Four sectors, none of them with a record. -/
def z4 : List ByteArray := List.replicate 4 (secOf 0)
theorem load_z4 (left did) (kind : Int) : loadP ⟨z4, [], left, false, did⟩ 1 kind = (noCT, 10) := by
  refine (load_flat z4 left did 1 (by decide) kind).trans ?_
  have e1 : lAt z4 1 = secOf 0 := rfl
  have e2 : lAt z4 (1 + 1) = secOf 0 := rfl
  rw [e1, e2, slotP_zero]
  rfl

theorem load_one (left did k seq : Nat) (left' : Int) (xs : List UInt8) (h1 : 1 ≤ k) (h8 : k ≤ 8) (hs : seq < 18446744073709551616) (hx : xs.length ≤ 50) :
    loadP ⟨z4.set (1 + seq % 2) (recB k seq xs), [], left', false, did⟩ 1 (k : Int) = (⟨true, seq, xs⟩, 0) := by
  refine (load_flat _ left' did 1 (by simp [z4]) (k : Int)).trans ?_
  have hr := slotP_rec k seq xs h1 h8 hs hx
  rcases Nat.mod_two_eq_zero_or_one seq with h | h
  · have e1 : lAt (z4.set (1 + seq % 2) (recB k seq xs)) 1 = recB k seq xs := by rw [h]; simp [lAt, z4]
    have e2 : lAt (z4.set (1 + seq % 2) (recB k seq xs)) (1 + 1) = secOf 0 := by rw [h]; simp [lAt, z4]
    rw [e1, e2, hr, slotP_zero]
    have e : laterP ⟨true, seq, xs⟩ noCT = ⟨true, seq, xs⟩ := by
      unfold laterP CT.no noCT
      rw [if_neg (by simp)]
    rw [e, if_neg (by unfold CT.no; simp)]
  · have e1 : lAt (z4.set (1 + seq % 2) (recB k seq xs)) 1 = secOf 0 := by rw [h]; simp [lAt, z4]
    have e2 : lAt (z4.set (1 + seq % 2) (recB k seq xs)) (1 + 1) = recB k seq xs := by rw [h]; simp [lAt, z4]
    rw [e1, e2, hr, slotP_zero]
    have e : laterP noCT ⟨true, seq, xs⟩ = ⟨true, seq, xs⟩ := by
      unfold laterP
      rw [if_pos (.inl (by unfold CT.no noCT; simp))]
    rw [e, if_neg (by unfold CT.no; simp)]

theorem load_two (did k seq : Nat) (left' : Int) (xs ys : List UInt8) (h1 : 1 ≤ k) (h8 : k ≤ 8) (hs : seq + 1 < 18446744073709551616) (hx : xs.length ≤ 50) (hy : ys.length ≤ 50) :
    loadP ⟨(z4.set (1 + seq % 2) (recB k seq xs)).set (1 + (seq + 1) % 2) (recB k (seq + 1) ys), [], left', false, did⟩ 1 (k : Int) = (⟨true, seq + 1, ys⟩, 0) := by
  refine (load_flat _ left' did 1 (by simp [z4]) (k : Int)).trans ?_
  have hr := slotP_rec k seq xs h1 h8 (by omega) hx
  have hr2 := slotP_rec k (seq + 1) ys h1 h8 hs hy
  rcases Nat.mod_two_eq_zero_or_one seq with h | h
  · have h' : (seq + 1) % 2 = 1 := by omega
    have e1 : lAt ((z4.set (1 + seq % 2) (recB k seq xs)).set (1 + (seq + 1) % 2) (recB k (seq + 1) ys)) 1 = recB k seq xs := by rw [h, h']; simp [lAt, z4]
    have e2 : lAt ((z4.set (1 + seq % 2) (recB k seq xs)).set (1 + (seq + 1) % 2) (recB k (seq + 1) ys)) (1 + 1) = recB k (seq + 1) ys := by rw [h, h']; simp [lAt, z4]
    rw [e1, e2, hr, hr2]
    have e : laterP ⟨true, seq, xs⟩ ⟨true, seq + 1, ys⟩ = ⟨true, seq + 1, ys⟩ := by
      unfold laterP
      rw [if_pos (.inr (by simp))]
    rw [e, if_neg (by unfold CT.no; simp)]
  · have h' : (seq + 1) % 2 = 0 := by omega
    have e1 : lAt ((z4.set (1 + seq % 2) (recB k seq xs)).set (1 + (seq + 1) % 2) (recB k (seq + 1) ys)) 1 = recB k (seq + 1) ys := by rw [h, h']; simp [lAt, z4]
    have e2 : lAt ((z4.set (1 + seq % 2) (recB k seq xs)).set (1 + (seq + 1) % 2) (recB k (seq + 1) ys)) (1 + 1) = recB k seq xs := by rw [h, h']; simp [lAt, z4]
    rw [e1, e2, hr, hr2]
    have e : laterP ⟨true, seq + 1, ys⟩ ⟨true, seq, xs⟩ = ⟨true, seq + 1, ys⟩ := by
      unfold laterP CT.no
      rw [if_neg (by simp)]
    rw [e, if_neg (by unfold CT.no; simp)]
end Go.Proofs.YtdefdmmlmgkpnaaGreatDoor


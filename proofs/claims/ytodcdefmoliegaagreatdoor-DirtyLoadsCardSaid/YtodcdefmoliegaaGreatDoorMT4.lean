/-
  Texts put together: T4, T5.
-/
import Derived.Test.YtodcdefmoliegaaGreatDoorMT0
/-
  What a save leaves on a disk, and what is loaded then.
-/
namespace Go.Proofs.YtodcdefmoliegaaGreatDoor
open Go.RowKit
set_option linter.unusedVariables false
set_option linter.unusedSimpArgs false

/-- A slot's record as a sector. -/
def recB (k seq : Nat) (xs : List UInt8) : ByteArray := ⟨(recL k (enc seq 8 ++ xs)).toArray⟩
theorem recB_size (k seq : Nat) (xs : List UInt8) (h : xs.length ≤ 50) : (recB k seq xs).size = 64 := by
  show (List.toArray (recL k (enc seq 8 ++ xs))).size = 64
  rw [List.size_toArray, recL_length _ _ (by simp [enc_length]; omega)]

theorem slotP_rec (k seq : Nat) (xs : List UInt8) (h1 : 1 ≤ k) (h8 : k ≤ 8) (hs : seq < 18446744073709551616) (hx : xs.length ≤ 50) :
    slotP (k : Int) (recB k seq xs).data.toList = ⟨true, seq, xs⟩ := by
  have hm : makeP (k : Int) (enc seq 8 ++ xs) = (recL k (enc seq 8 ++ xs), 0) := by
    unfold makeP
    rw [if_neg (by omega), if_neg (by simp [enc_length]; omega)]
    rfl
  have ho : openP (k : Int) (recB k seq xs).data.toList = (enc seq 8 ++ xs, 0) := make_open hm
  unfold slotP
  rw [ho]
  rw [if_pos ⟨rfl, by simp [enc_length]⟩]
  have e1 : (enc seq 8 ++ xs).take 8 = enc seq 8 := by
    rw [List.take_append_of_le_length (by rw [enc_length]; omega), List.take_of_length_le (by rw [enc_length]; omega)]
  have e2 : (enc seq 8 ++ xs).drop 8 = xs := by
    rw [List.drop_append_of_le_length (by rw [enc_length]; omega), List.drop_of_length_le (by rw [enc_length]; omega)]; rfl
  have e3 : numN (enc seq 8) = seq := by rw [enc_num, Nat.mod_eq_of_lt (by omega)]
  simp only [e1, e2, e3]

theorem kindP_none (s : List UInt8) (h : nb s 0 = 0) : (kindP s).2 ≠ 0 := by
  unfold kindP
  split
  · simp
  · split
    · simp
    · rw [if_pos (by omega)]
      simp
theorem slotP_none (kind : Int) (s : List UInt8) (h : nb s 0 = 0) : slotP kind s = noCT := by
  have hk := kindP_none s h
  have h' : (openP kind s).2 ≠ 0 := by
    unfold openP
    rw [if_pos hk]
    exact hk
  unfold slotP
  rw [if_neg (by intro h2; exact h' h2.1)]
theorem slotP_zero (kind : Int) : slotP kind (secOf 0).data.toList = noCT := slotP_none kind _ rfl

theorem saveP_go {S : DS} {at' : Nat} {k seq : Nat} {xs : List UInt8} (ha : at' ≤ 1200) (h1 : 1 ≤ k) (h8 : k ≤ 8) (hx : xs.length ≤ 50) :
    saveP S (at' : Int) (k : Int) seq xs = if (S.write ((at' + seq % 2 : Nat) : Int) (recB k seq xs)).1 ≠ 0 then S.write ((at' + seq % 2 : Nat) : Int) (recB k seq xs) else (S.write ((at' + seq % 2 : Nat) : Int) (recB k seq xs)).2.flush := by
  have hm : makeP (k : Int) (enc seq 8 ++ xs) = (recL k (enc seq 8 ++ xs), 0) := by
    unfold makeP
    rw [if_neg (by omega), if_neg (by simp [enc_length]; omega)]
    rfl
  unfold saveP
  rw [if_neg (by omega), if_neg (by omega), hm]
  dsimp only
  rw [if_neg (by simp), show (at' : Int) + ((seq % 2 : Nat) : Int) = ((at' + seq % 2 : Nat) : Int) from by omega]
  rfl

theorem has_of (L : List ByteArray) (W left off did) (i : Nat) (h : i < L.length) : (DS.mk L W left off did).has (i : Int) := ⟨by omega, by dsimp only; omega⟩

theorem save_whole (L : List ByteArray) (left : Int) (did at' k seq : Nat) (xs : List UInt8) (hl : left = -1 ∨ left = 2) (hL : at' + 1 < L.length) (ha : at' ≤ 1200) (h1 : 1 ≤ k) (h8 : k ≤ 8) (hx : xs.length ≤ 50) :
    saveP ⟨L, [], left, false, did⟩ (at' : Int) (k : Int) seq xs = (0, ⟨L.set (at' + seq % 2) (recB k seq xs), [], if left = 2 then 0 else -1, false, did + 2⟩) := by
  rw [saveP_go ha h1 h8 hx]
  have hw : (DS.mk L [] left false did).write ((at' + seq % 2 : Nat) : Int) (recB k seq xs) = (0, ⟨L, [(((at' + seq % 2 : Nat) : Int), recB k seq xs)], if left = 2 then 1 else -1, false, did + 1⟩) := by
    unfold DS.write
    rw [if_neg (by simp), if_pos (has_of _ _ _ _ _ _ (by omega)), if_pos (recB_size _ _ _ hx)]
    rcases hl with rfl | rfl <;> simp [DS.burnt]
  rw [hw, if_neg (by simp)]
  unfold DS.flush
  have e : ((at' : Int) + (seq : Int) % 2).toNat = at' + seq % 2 := by omega
  rcases hl with rfl | rfl <;> simp [DS.burnt, appW, wAt, e]

theorem save_none (L : List ByteArray) (did at' k seq : Nat) (xs : List UInt8) (hL : at' + 1 < L.length) (ha : at' ≤ 1200) (h1 : 1 ≤ k) (h8 : k ≤ 8) (hx : xs.length ≤ 50) :
    saveP ⟨L, [], 0, false, did⟩ (at' : Int) (k : Int) seq xs = (5, ⟨L, [], -1, true, did⟩) := by
  rw [saveP_go ha h1 h8 hx]
  have hw : (DS.mk L [] 0 false did).write ((at' + seq % 2 : Nat) : Int) (recB k seq xs) = (5, ⟨L, [], -1, true, did⟩) := by
    unfold DS.write
    rw [if_neg (by simp), if_pos (has_of _ _ _ _ _ _ (by omega)), if_pos (recB_size _ _ _ hx)]
    simp [DS.burnt]
  rw [hw, if_pos (by simp)]

theorem save_half (L : List ByteArray) (did at' k seq : Nat) (xs : List UInt8) (hL : at' + 1 < L.length) (ha : at' ≤ 1200) (h1 : 1 ≤ k) (h8 : k ≤ 8) (hx : xs.length ≤ 50) :
    saveP ⟨L, [], 1, false, did⟩ (at' : Int) (k : Int) seq xs = (5, ⟨L, [(((at' + seq % 2 : Nat) : Int), recB k seq xs)], -1, true, did + 1⟩) := by
  rw [saveP_go ha h1 h8 hx]
  have hw : (DS.mk L [] 1 false did).write ((at' + seq % 2 : Nat) : Int) (recB k seq xs) = (0, ⟨L, [(((at' + seq % 2 : Nat) : Int), recB k seq xs)], 0, false, did + 1⟩) := by
    unfold DS.write
    rw [if_neg (by simp), if_pos (has_of _ _ _ _ _ _ (by omega)), if_pos (recB_size _ _ _ hx)]
    simp [DS.burnt]
  rw [hw, if_neg (by simp)]
  unfold DS.flush
  simp [DS.burnt]

theorem read_flat (L : List ByteArray) (left did) (i : Nat) (h : i < L.length) (kind : Int) : readP ⟨L, [], left, false, did⟩ (i : Int) kind = (slotP kind (lAt L i).data.toList, 0) := by
  have hr : (DS.mk L [] left false did).read (i : Int) = (lAt L i, 0) := by
    unfold DS.read
    rw [if_neg (by simp), if_pos (has_of _ _ _ _ _ _ h)]
    simp [look]
  unfold readP
  rw [hr]
  simp

theorem load_flat (L : List ByteArray) (left did) (i : Nat) (h : i + 1 < L.length) (kind : Int) :
    loadP ⟨L, [], left, false, did⟩ (i : Int) kind = if (laterP (slotP kind (lAt L i).data.toList) (slotP kind (lAt L (i + 1)).data.toList)).no then (noCT, 10) else (laterP (slotP kind (lAt L i).data.toList) (slotP kind (lAt L (i + 1)).data.toList), 0) := by
  unfold loadP
  rw [read_flat _ _ _ _ (by omega), show ((i : Int) + 1) = ((i + 1 : Nat) : Int) from by omega, read_flat _ _ _ _ h]
  simp only [ne_eq, not_true_eq_false, if_false]

/-- Four sectors, none of them with a record. -/
def z4 : List ByteArray := List.replicate 4 (secOf 0)
theorem load_z4 (left did) (kind : Int) : loadP ⟨z4, [], left, false, did⟩ 1 kind = (noCT, 10) := by
  refine (load_flat z4 left did 1 (by decide) kind).trans ?_
  have e1 : lAt z4 1 = secOf 0 := rfl
  have e2 : lAt z4 (1 + 1) = secOf 0 := rfl
  rw [e1, e2, slotP_zero]
  rfl

theorem load_one (left did k seq : Nat) (left' : Int) (xs : List UInt8) (h1 : 1 ≤ k) (h8 : k ≤ 8) (hs : seq < 18446744073709551616) (hx : xs.length ≤ 50) :
    loadP ⟨z4.set (1 + seq % 2) (recB k seq xs), [], left', false, did⟩ 1 (k : Int) = (⟨true, seq, xs⟩, 0) := by
  refine (load_flat _ left' did 1 (by simp [z4]) (k : Int)).trans ?_
  have hr := slotP_rec k seq xs h1 h8 hs hx
  rcases Nat.mod_two_eq_zero_or_one seq with h | h
  · have e1 : lAt (z4.set (1 + seq % 2) (recB k seq xs)) 1 = recB k seq xs := by rw [h]; simp [lAt, z4]
    have e2 : lAt (z4.set (1 + seq % 2) (recB k seq xs)) (1 + 1) = secOf 0 := by rw [h]; simp [lAt, z4]
    rw [e1, e2, hr, slotP_zero]
    have e : laterP ⟨true, seq, xs⟩ noCT = ⟨true, seq, xs⟩ := by
      unfold laterP CT.no noCT
      rw [if_neg (by simp)]
    rw [e, if_neg (by unfold CT.no; simp)]
  · have e1 : lAt (z4.set (1 + seq % 2) (recB k seq xs)) 1 = secOf 0 := by rw [h]; simp [lAt, z4]
    have e2 : lAt (z4.set (1 + seq % 2) (recB k seq xs)) (1 + 1) = recB k seq xs := by rw [h]; simp [lAt, z4]
    rw [e1, e2, hr, slotP_zero]
    have e : laterP noCT ⟨true, seq, xs⟩ = ⟨true, seq, xs⟩ := by
      unfold laterP
      rw [if_pos (.inl (by unfold CT.no noCT; simp))]
    rw [e, if_neg (by unfold CT.no; simp)]

theorem load_two (did k seq : Nat) (left' : Int) (xs ys : List UInt8) (h1 : 1 ≤ k) (h8 : k ≤ 8) (hs : seq + 1 < 18446744073709551616) (hx : xs.length ≤ 50) (hy : ys.length ≤ 50) :
    loadP ⟨(z4.set (1 + seq % 2) (recB k seq xs)).set (1 + (seq + 1) % 2) (recB k (seq + 1) ys), [], left', false, did⟩ 1 (k : Int) = (⟨true, seq + 1, ys⟩, 0) := by
  refine (load_flat _ left' did 1 (by simp [z4]) (k : Int)).trans ?_
  have hr := slotP_rec k seq xs h1 h8 (by omega) hx
  have hr2 := slotP_rec k (seq + 1) ys h1 h8 hs hy
  rcases Nat.mod_two_eq_zero_or_one seq with h | h
  · have h' : (seq + 1) % 2 = 1 := by omega
    have e1 : lAt ((z4.set (1 + seq % 2) (recB k seq xs)).set (1 + (seq + 1) % 2) (recB k (seq + 1) ys)) 1 = recB k seq xs := by rw [h, h']; simp [lAt, z4]
    have e2 : lAt ((z4.set (1 + seq % 2) (recB k seq xs)).set (1 + (seq + 1) % 2) (recB k (seq + 1) ys)) (1 + 1) = recB k (seq + 1) ys := by rw [h, h']; simp [lAt, z4]
    rw [e1, e2, hr, hr2]
    have e : laterP ⟨true, seq, xs⟩ ⟨true, seq + 1, ys⟩ = ⟨true, seq + 1, ys⟩ := by
      unfold laterP
      rw [if_pos (.inr (by simp))]
    rw [e, if_neg (by unfold CT.no; simp)]
  · have h' : (seq + 1) % 2 = 0 := by omega
    have e1 : lAt ((z4.set (1 + seq % 2) (recB k seq xs)).set (1 + (seq + 1) % 2) (recB k (seq + 1) ys)) 1 = recB k (seq + 1) ys := by rw [h, h']; simp [lAt, z4]
    have e2 : lAt ((z4.set (1 + seq % 2) (recB k seq xs)).set (1 + (seq + 1) % 2) (recB k (seq + 1) ys)) (1 + 1) = recB k seq xs := by rw [h, h']; simp [lAt, z4]
    rw [e1, e2, hr, hr2]
    have e : laterP ⟨true, seq + 1, ys⟩ ⟨true, seq, xs⟩ = ⟨true, seq + 1, ys⟩ := by
      unfold laterP CT.no
      rw [if_neg (by simp)]
    rw [e, if_neg (by unfold CT.no; simp)]
end Go.Proofs.YtodcdefmoliegaaGreatDoor
/-
  A disk that a call has made, act by act; the fixed calls.
-/
namespace Go.Proofs.YtodcdefmoliegaaGreatDoor
open Go.RowKit
set_option linter.unusedVariables false
set_option linter.unusedSimpArgs false

/-- A disk at p in the state S, made since w0. -/
def St (w0 w : World) (p : Nat) (S : DS) : Prop := ∃ v1 v2, PD w w0.heap.size p v1 v2 S ∧ Below w0.heap.size w0 w

theorem St.size {w0 w : World} {p : Nat} {S : DS} (h : St w0 w p S) : w0.heap.size ≤ w.heap.size := by obtain ⟨_, _, _, hb⟩ := h; exact hb.size
theorem St.fin {w0 w : World} {p : Nat} {S : DS} (h : St w0 w p S) : Below w0.heap.size w0 w := by obtain ⟨_, _, _, hb⟩ := h; exact hb
theorem St.low {w0 w : World} {p : Nat} {S : DS} (h : St w0 w p S) : w0.heap.size ≤ p := by obtain ⟨_, _, hp, hb⟩ := h; exact hp.low
theorem St.below {w0 w w' : World} {p : Nat} {S : DS} (h : St w0 w p S) (hb : Below w.heap.size w w') : St w0 w' p S := by
  obtain ⟨v1, v2, hp, h0⟩ := h
  exact ⟨v1, v2, hp.below hb, h0.trans (hb.mono h0.size)⟩
theorem St.pp {w0 w w' : World} {p : Nat} {v1 v2 : Value} {S S' : DS} (hp : PD w w0.heap.size p v1 v2 S) (h0 : Below w0.heap.size w0 w) (h : PP w w0.heap.size p v1 v2 S' w') : St w0 w' p S' := by
  obtain ⟨a, b, hp', hf, ht⟩ := h
  exact ⟨a, b, hp', h0.trans (hf.below (fun k hk => (hp.foot_low k hk).1) h0.size)⟩

theorem st_new (n : Nat) (w : World) (h0 : 1 ≤ n) (h1 : n ≤ 1200) :
    Calls Tryz.prog 5 #[.int .i64 n] w fun e w' => ∃ p, e = .returned (.tuple #[.pointer (some ⟨p, 0, none⟩), .int .i64 0]) ∧ St w w' p (ds0 n) := by
  refine (dnew_any n w h0 h1).mono ?_
  rintro e w' ⟨p, v1, rfl, hp, hb⟩
  exact ⟨p, rfl, v1, _, hp, hb⟩
theorem st_crash {w0 w : World} {p : Nat} {S : DS} (ak : Option Addr) (nk ck : Nat) (K : List Bool) (h : St w0 w p S) (hok : S.ok 1000) (hK : Bl w0 ak nk K) :
    Calls Tryz.prog 9 #[.pointer (some ⟨p, 0, none⟩), .slice ak nk ck] w fun e w' => e = .returned (.tuple #[]) ∧ St w0 w' p (S.crash K) := by
  obtain ⟨v1, v2, hp, hb⟩ := h
  refine (crash_any _ p v1 v2 S ak nk ck K w hp hb.size 1000 hok (by omega) (hK.below hb) (fun b off e h0 hf => by
    have h1 := hK.lt e h0
    have h2 := (hp.foot_low b hf).1
    omega)).mono ?_
  rintro e w' ⟨rfl, hpp⟩
  exact ⟨rfl, St.pp hp hb hpp⟩

/-- A disk on which nothing waits. -/
theorem flat_ok (L : List ByteArray) (left : Int) (off : Bool) (did : Nat) (h1 : -1 ≤ left) (h2 : left ≤ 9223372036854775807) (h3 : did ≤ 1000) (h4 : L.length ≤ 1200) : (DS.mk L [] left off did).ok 1000 :=
  ⟨fun i hi => by simp at hi, h1, h2, by simp, h3, h4⟩
theorem ds0_four : ds0 4 = ⟨z4, [], -1, false, 0⟩ := rfl
end Go.Proofs.YtodcdefmoliegaaGreatDoor

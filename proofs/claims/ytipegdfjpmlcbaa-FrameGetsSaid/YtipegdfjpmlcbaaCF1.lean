/-
  Frames: what is told is read back; over lists.
-/
import Derived.Test.YtipegdfjpmlcbaaCF0
namespace Go.Proofs.Ytipegdfjpmlcbaa
open Go.RowKit
set_option linter.unusedVariables false
set_option linter.unusedSimpArgs false

theorem enc_take (b : List UInt8) (w : Nat) (h : w ≤ b.length) : enc (numN (b.take w)) w = b.take w := by
  have := enc_numN (b.take w)
  rwa [List.length_take, Nat.min_eq_left h] at this
theorem num_take_lt (b : List UInt8) (w : Nat) : numN (b.take w) < 256 ^ w := by
  have h := numN_lt' (b.take w)
  refine Nat.lt_of_lt_of_le h (Nat.pow_le_pow_right (by omega) ?_)
  rw [List.length_take]; omega

/-- What a body tells has this body. -/
theorem open_good (h x : FR) (b : List UInt8) (hh : h = h.head) (ho : openP h b = some x) : good x ∧ bodyP x = b ∧ x.head = h := by
  obtain ⟨kind, sess, ep, seq, vol, n, ff, index, code, data, list⟩ := h
  unfold FR.head at hh
  simp only [FR.mk.injEq, true_and] at hh
  obtain ⟨rfl, rfl, rfl, rfl, rfl, rfl, rfl⟩ := hh
  unfold openP at ho
  simp only at ho
  split at ho
  · rename_i hk
    subst hk
    split at ho
    · rename_i hl
      simp only [Option.some.injEq] at ho
      subst ho
      have l0 := num_take_lt b 4
      have l1 := num_take_lt (b.drop 4) 2
      have l2 := num_take_lt (b.drop 6) 1
      refine ⟨.inl ⟨rfl, by simpa using l0, by simp only; omega, by simp only; omega, by simp only; omega, by simp only; omega, by simp [hl], rfl, rfl, rfl⟩, ?_, rfl⟩
      unfold bodyP
      simp only [if_true]
      rw [wv_nat (by omega), wv_nat (by omega), enc_take _ _ (by omega), enc_take _ _ (by rw [List.length_drop]; omega), enc_take _ _ (by rw [List.length_drop]; omega)]
      rw [← List.take_add, ← List.take_add, List.take_append_drop]
    · cases ho
  split at ho
  · rename_i _ hk
    subst hk
    split at ho
    · rename_i hl
      simp only [Option.some.injEq] at ho
      subst ho
      have l0 := num_take_lt b 1
      rw [List.take_of_length_le (by omega)] at l0
      refine ⟨.inr (.inl ⟨rfl, by simp only; omega, by simp only; omega, rfl, rfl, rfl, rfl, rfl, rfl⟩), ?_, rfl⟩
      unfold bodyP
      simp only [show ¬ ((2 : Int) = 1) from by decide, if_false, if_true]
      rw [wv_nat (by omega)]
      have := enc_numN b
      rwa [hl] at this
    · cases ho
  split at ho
  · rename_i _ _ hk
    split at ho
    · rename_i hl
      simp only [Option.some.injEq] at ho
      subst ho
      have l0 := num_take_lt b 2
      rw [List.take_of_length_le (by omega)] at l0
      have hb : enc (numN b) 2 = b := by have := enc_numN b; rwa [hl] at this
      refine ⟨.inr (.inr (.inl ⟨hk, by simp only; omega, by simp only; omega, rfl, rfl, rfl, rfl, rfl, rfl⟩)), ?_, rfl⟩
      unfold bodyP
      rcases hk with rfl | rfl
      · simp only [show ¬ ((3 : Int) = 1) from by decide, show ¬ ((3 : Int) = 2) from by decide, true_or, if_false, if_true]
        rw [wv_nat (by omega), hb]
      · simp only [show ¬ ((5 : Int) = 1) from by decide, show ¬ ((5 : Int) = 2) from by decide, or_true, if_false, if_true]
        rw [wv_nat (by omega), hb]
    · cases ho
  split at ho
  · rename_i _ _ _ hk
    subst hk
    split at ho
    · rename_i hl
      obtain ⟨h1, h2, h3⟩ := hl
      simp only [Option.some.injEq] at ho
      subst ho
      have l0 := num_take_lt b 2
      obtain ⟨hz, hr⟩ := chunk_len (b.drop 3) (numN ((b.drop 2).take 1)) (by rw [List.length_drop]; omega)
      obtain ⟨c1, c2, c3⟩ := chunk_back _ _ hz
      rw [hr, List.append_nil] at c1
      refine ⟨.inr (.inr (.inr (.inl ⟨rfl, by simp only; omega, by simp only; omega, by simp only; rw [c2]; exact h2, c3, rfl, rfl, rfl, rfl, rfl⟩))), ?_, rfl⟩
      unfold bodyP
      simp only [show ¬ ((4 : Int) = 1) from by decide, show ¬ ((4 : Int) = 2) from by decide, show ¬ ((4 : Int) = 3 ∨ (4 : Int) = 5) from by decide, if_false, if_true]
      rw [wv_nat (by omega), c1, c2, enc_take _ _ (by omega), enc_take _ _ (by rw [List.length_drop]; omega)]
      rw [← List.take_add, List.take_append_drop]
    · cases ho
  split at ho
  · rename_i _ _ _ _ hk
    subst hk
    split at ho
    · rename_i hl
      simp only [Option.some.injEq] at ho
      subst ho
      have l0 := num_take_lt b 2
      refine ⟨.inr (.inr (.inr (.inr (.inl ⟨rfl, by simp only; omega, by simp only; omega, by simp [hl], rfl, rfl, rfl, rfl, rfl⟩)))), ?_, rfl⟩
      unfold bodyP
      simp only [show ¬ ((6 : Int) = 1) from by decide, show ¬ ((6 : Int) = 2) from by decide, show ¬ ((6 : Int) = 3 ∨ (6 : Int) = 5) from by decide, show ¬ ((6 : Int) = 4) from by decide, if_false, if_true]
      rw [wv_nat (by omega), enc_take _ _ (by omega), List.take_append_drop]
    · cases ho
  split at ho
  · rename_i _ _ _ _ _ hk
    subst hk
    split at ho
    · rename_i hl
      simp only [Option.some.injEq] at ho
      subst ho
      refine ⟨.inr (.inr (.inr (.inr (.inr ⟨rfl, rfl, rfl, rfl, rfl, rfl, rfl, rfl⟩)))), ?_, rfl⟩
      rw [hl]
      rfl
    · cases ho
  · cases ho

/-! ### a frame's bytes -/
def headB (f : FR) : List UInt8 := enc (wv f.kind) 1 ++ (enc f.sess 8 ++ (enc f.ep 8 ++ (enc f.seq 4 ++ enc (bodyP f).length 2)))
def sumB (f : FR) : List UInt8 := headB f ++ bodyP f
def frameB (f : FR) : List UInt8 := sumB f ++ enc (addN 0 (sumB f)) 4
theorem headB_length (f : FR) : (headB f).length = 23 := by simp [headB, enc_length]

def headOf (s : List UInt8) : FR := ⟨(numN (s.take 1) : Int), numN ((s.drop 1).take 8), numN ((s.drop 9).take 8), numN ((s.drop 17).take 4), 0, 0, 0, 0, 0, [], []⟩
def lenOf (s : List UInt8) : Nat := numN ((s.drop 21).take 2)

/-- What bytes are read as, and why not. -/
def getP (s : List UInt8) : FR × Int :=
  if s.length < 27 then (fr0, 7) else if s.length < 27 + lenOf s then (fr0, 7) else if 27 + lenOf s < s.length then (fr0, 8)
  else if numN ((s.drop (23 + lenOf s)).take 4) ≠ addN 0 (s.take (23 + lenOf s)) then (fr0, 9)
  else match openP (headOf s) ((s.drop 23).take (lenOf s)) with
    | some x => (x, 0)
    | none => (fr0, 6)

/-- The numbers fit. -/
structure FR.fit (f : FR) : Prop where
  sess : f.sess < 18446744073709551616
  ep : f.ep < 18446744073709551616
  seq : f.seq < 4294967296

theorem get_back (s : List UInt8) (x : FR) (h : getP s = (x, 0)) : good x ∧ frameB x = s ∧ x.fit := by
  unfold getP at h
  split at h
  · simp at h
  split at h
  · simp at h
  split at h
  · simp at h
  split at h
  · simp at h
  rename_i h1 h2 h3 h4
  split at h
  · rename_i y hy
    simp only [Prod.mk.injEq, and_true] at h
    subst h
    obtain ⟨hg, hb, hh⟩ := open_good _ _ _ rfl hy
    have hlen : s.length = 27 + lenOf s := by omega
    have hbl : (bodyP y).length = lenOf s := by rw [hb, List.length_take, List.length_drop]; omega
    have e0 : y.kind = (numN (s.take 1) : Int) := congrArg FR.kind hh
    have e1 : y.sess = numN ((s.drop 1).take 8) := congrArg FR.sess hh
    have e2 : y.ep = numN ((s.drop 9).take 8) := congrArg FR.ep hh
    have e3 : y.seq = numN ((s.drop 17).take 4) := congrArg FR.seq hh
    have k0 := num_take_lt s 1
    have k1 := num_take_lt (s.drop 1) 8
    have k2 := num_take_lt (s.drop 9) 8
    have k3 := num_take_lt (s.drop 17) 4
    have hsum : sumB y = s.take (23 + lenOf s) := by
      unfold sumB headB
      rw [e0, e1, e2, e3, hbl, hb, wv_nat (by omega)]
      unfold lenOf
      rw [enc_take _ _ (by omega), enc_take _ _ (by rw [List.length_drop]; omega), enc_take _ _ (by rw [List.length_drop]; omega), enc_take _ _ (by rw [List.length_drop]; omega), enc_take _ _ (by rw [List.length_drop]; omega)]
      generalize numN ((s.drop 21).take 2) = m
      rw [← List.append_assoc, ← List.append_assoc, ← List.append_assoc, ← List.take_add, ← List.take_add, ← List.take_add, ← List.take_add, ← List.take_add]
    refine ⟨hg, ?_, ⟨by rw [e1]; exact k1, by rw [e2]; exact k2, by rw [e3]; exact k3⟩⟩
    unfold frameB
    rw [hsum, ← Classical.not_not.1 h4, enc_take _ _ (by rw [List.length_drop]; omega), ← List.take_add]
    exact List.take_of_length_le (by omega)
  · simp at h

theorem frameB_length (f : FR) : (frameB f).length = 27 + (bodyP f).length := by
  simp [frameB, sumB, headB_length, enc_length]; omega
theorem good_kind {x : FR} (h : good x) : 1 ≤ x.kind ∧ x.kind ≤ 7 := by
  rcases h with h | h | h | h | h | h
  · rw [h.1]; decide
  · rw [h.1]; decide
  · rcases h.1 with e | e <;> rw [e] <;> decide
  · rw [h.1]; decide
  · rw [h.1]; decide
  · rw [h.1]; decide
theorem flat_length {l : List (List UInt8)} (h : ∀ d ∈ l, d.length = 32) : l.flatten.length = 32 * l.length := by
  induction l with
  | nil => rfl
  | cons d l ih =>
    rw [List.flatten_cons, List.length_append, h d (by simp), ih (fun d hd => h d (by simp [hd])), List.length_cons]
    omega
theorem good_len {x : FR} (h : good x) : (bodyP x).length ≤ 131 := by
  unfold bodyP
  rcases h with ⟨hk, h1, h2, h3, h4, h5, h6, h7, h8, h9⟩ | ⟨hk, h1, h2, h3, h4, h5, h6, h7, h8⟩ | ⟨hk, h1, h2, h3, h4, h5, h6, h7, h8⟩ | ⟨hk, h1, h2, h3, h4, h5, h6, h7, h8, h9⟩ | ⟨hk, h1, h2, h3, h4, h5, h6, h7, h8⟩ | ⟨hk, h1, h2, h3, h4, h5, h6, h7⟩
  · rw [if_pos hk]; simp [enc_length, h6]
  · rw [if_neg (by omega), if_pos hk]; simp [enc_length]
  · rw [if_neg (by omega), if_neg (by omega), if_pos hk]; simp [enc_length]
  · rw [if_neg (by omega), if_neg (by omega), if_neg (by omega), if_pos hk]; simp only [List.length_append, enc_length, flat_length h4]; omega
  · rw [if_neg (by omega), if_neg (by omega), if_neg (by omega), if_neg (by omega), if_pos hk]; simp [enc_length, h3]
  · rw [if_neg (by omega), if_neg (by omega), if_neg (by omega), if_neg (by omega), if_neg (by omega)]; simp

theorem frame_parts (x : FR) (r : List UInt8) : headB x ++ r = enc (wv x.kind) 1 ++ (enc x.sess 8 ++ (enc x.ep 8 ++ (enc x.seq 4 ++ (enc (bodyP x).length 2 ++ r)))) := by
  simp [headB, List.append_assoc]

theorem head_frame (x : FR) (hg : good x) (hf : x.fit) (r : List UInt8) : headOf (headB x ++ r) = x.head ∧ lenOf (headB x ++ r) = (bodyP x).length := by
  obtain ⟨k1, k2⟩ := good_kind hg
  have kl := good_len hg
  have hs := hf.sess; have he := hf.ep; have hq := hf.seq
  have hw : (wv x.kind : Int) = x.kind ∧ wv x.kind < 256 := by unfold wv; omega
  rw [frame_parts]
  constructor
  · unfold headOf FR.head
    rw [show (9 : Nat) = 1 + 8 from rfl, show (17 : Nat) = 1 + (8 + 8) from rfl, take_enc, drop_enc, take_enc, ← List.drop_drop, drop_enc, drop_enc, take_enc, ← List.drop_drop, drop_enc, ← List.drop_drop, drop_enc, drop_enc, take_enc]
    rw [numN_enc (by simpa using hw.2), numN_enc (by omega), numN_enc (by omega), numN_enc (by omega), hw.1]
  · unfold lenOf
    rw [show (21 : Nat) = 1 + (8 + (8 + 4)) from rfl, ← List.drop_drop, drop_enc, ← List.drop_drop, drop_enc, ← List.drop_drop, drop_enc, drop_enc, take_enc, numN_enc (by omega)]

theorem get_frame (x : FR) (hg : good x) (hf : x.fit) : getP (frameB x) = (x, 0) := by
  have hl := frameB_length x
  have hfb : frameB x = headB x ++ (bodyP x ++ enc (addN 0 (sumB x)) 4) := by simp [frameB, sumB]
  obtain ⟨h1, h2⟩ := head_frame x hg hf (bodyP x ++ enc (addN 0 (sumB x)) 4)
  rw [← hfb] at h1 h2
  have hsl : (sumB x).length = 23 + (bodyP x).length := by simp [sumB, headB_length]
  have ht : (frameB x).take (23 + (bodyP x).length) = sumB x := by unfold frameB; rw [← hsl]; exact List.take_left
  have hd : (frameB x).drop (23 + (bodyP x).length) = enc (addN 0 (sumB x)) 4 := by unfold frameB; rw [← hsl]; exact List.drop_left
  have hb : ((frameB x).drop 23).take (bodyP x).length = bodyP x := by
    rw [hfb, ← headB_length x, List.drop_left]; exact List.take_left
  unfold getP
  rw [h1, h2, if_neg (by omega), if_neg (by omega), if_neg (by omega), ht, hd, hb, if_neg]
  · rw [open_body x hg]
  · rw [List.take_of_length_le (by rw [enc_length]; omega), numN_enc (addN_lt _ _)]
    exact fun h => h rfl

instance (f : FR) : Decidable (good f) := by unfold good; infer_instance

/-- What Put answers. -/
def putP (f : FR) : List UInt8 × Int := if good f then (frameB f, 0) else ([], 6)

/-- What stands behind the head, told as the kind wants it, however it goes on. -/
def rfr (h : FR) (r : List UInt8) : FR :=
  if h.kind = 1 then ⟨h.kind, h.sess, h.ep, h.seq, (rnum r 0 4).1, (rnum (rnum r 0 4).2.1 (rnum r 0 4).2.2 2).1, (rnum (rnum (rnum r 0 4).2.1 (rnum r 0 4).2.2 2).2.1 (rnum (rnum r 0 4).2.1 (rnum r 0 4).2.2 2).2.2 1).1, h.index, h.code,
      (rbytes (rnum (rnum (rnum r 0 4).2.1 (rnum r 0 4).2.2 2).2.1 (rnum (rnum r 0 4).2.1 (rnum r 0 4).2.2 2).2.2 1).2.1 (rnum (rnum (rnum r 0 4).2.1 (rnum r 0 4).2.2 2).2.1 (rnum (rnum r 0 4).2.1 (rnum r 0 4).2.2 2).2.2 1).2.2 32).1, h.list⟩
  else if h.kind = 2 then ⟨h.kind, h.sess, h.ep, h.seq, h.vol, h.n, h.f, h.index, (rnum r 0 1).1, h.data, h.list⟩
  else if h.kind = 4 then ⟨h.kind, h.sess, h.ep, h.seq, h.vol, h.n, h.f, (rnum r 0 2).1, h.code, h.data, (chunk (rnum (rnum r 0 2).2.1 (rnum r 0 2).2.2 1).2.1 (rnum (rnum r 0 2).2.1 (rnum r 0 2).2.2 1).2.2 (rnum (rnum r 0 2).2.1 (rnum r 0 2).2.2 1).1).1⟩
  else if h.kind = 6 then ⟨h.kind, h.sess, h.ep, h.seq, h.vol, h.n, h.f, (rnum r 0 2).1, h.code, (rbytes (rnum r 0 2).2.1 (rnum r 0 2).2.2 64).1, h.list⟩
  else if h.kind = 7 then h
  else ⟨h.kind, h.sess, h.ep, h.seq, h.vol, h.n, h.f, (rnum r 0 2).1, h.code, h.data, h.list⟩

theorem rnum_enc (v w : Nat) (r : List UInt8) (wi : Int) (hw : wi = (w : Int)) (h1 : 1 ≤ w) (h8 : w ≤ 8) (hv : v < 256 ^ w) : rnum (enc v w ++ r) 0 wi = (v, r, 0) := by
  subst hw
  unfold rnum
  rw [if_neg (by simp), if_neg (by omega), if_neg (by simp [enc_length]; omega)]
  rw [Int.toNat_natCast, take_enc, drop_enc, numN_enc hv]
theorem rbytes_app (d r : List UInt8) (m : Int) (hm : m = (d.length : Int)) : rbytes (d ++ r) 0 m = (d, r, 0) := by
  subst hm
  unfold rbytes
  rw [if_neg (by simp), if_neg (by omega), if_neg (by simp; omega), Int.toNat_natCast, List.take_left, List.drop_left]
theorem chunk_app (l : List (List UInt8)) (r : List UInt8) (hl : ∀ d ∈ l, d.length = 32) : ∀ k, k ≤ l.length → chunk (l.flatten ++ r) 0 k = (l.take k, (l.drop k).flatten ++ r, 0)
  | 0, _ => by simp [chunk]
  | k + 1, hk => by
    have h := chunk_app l r hl k (by omega)
    have hd : (l.drop k) = l[k] :: l.drop (k + 1) := List.drop_eq_getElem_cons (by omega)
    have h32 : (l[k]).length = 32 := hl _ (List.getElem_mem _)
    rw [chunk_succ, h]
    have hr : rbytes ((l.drop k).flatten ++ r) 0 32 = (l[k], (l.drop (k + 1)).flatten ++ r, 0) := by
      rw [hd, List.flatten_cons, List.append_assoc]
      exact rbytes_app _ _ _ (by omega)
    simp only [hr]
    rw [List.take_add_one, List.getElem?_eq_getElem (show k < l.length by omega)]
    rfl

/-- A frame's body is read as the frame, whatever stands behind it. -/
theorem rfr_body (x : FR) (hg : good x) (r : List UInt8) : rfr x.head (bodyP x ++ r) = x := by
  obtain ⟨kind, sess, ep, seq, vol, n, ff, index, code, data, list⟩ := x
  rcases hg with ⟨hk, h1, h2, h3, h4, h5, h6, h7, h8, h9⟩ | ⟨hk, h1, h2, h3, h4, h5, h6, h7, h8⟩ | ⟨hk, h1, h2, h3, h4, h5, h6, h7, h8⟩ | ⟨hk, h1, h2, h3, h4, h5, h6, h7, h8, h9⟩ | ⟨hk, h1, h2, h3, h4, h5, h6, h7, h8⟩ | ⟨hk, h1, h2, h3, h4, h5, h6, h7⟩
  · simp only at hk h1 h2 h3 h4 h5 h6 h7 h8 h9
    subst hk; subst h7; subst h8; subst h9
    obtain ⟨n, rfl⟩ : ∃ m : Nat, n = (m : Int) := ⟨n.toNat, by omega⟩
    obtain ⟨ff, rfl⟩ : ∃ m : Nat, ff = (m : Int) := ⟨ff.toNat, by omega⟩
    unfold rfr bodyP FR.head
    simp only [if_true, List.append_assoc]
    rw [wv_nat (by omega), wv_nat (by omega)]
    have e1 := rnum_enc vol 4 (enc n 2 ++ (enc ff 1 ++ (data ++ r))) 4 rfl (by omega) (by omega) (by omega)
    have e2 := rnum_enc n 2 (enc ff 1 ++ (data ++ r)) 2 rfl (by omega) (by omega) (by omega)
    have e3 := rnum_enc ff 1 (data ++ r) 1 rfl (by omega) (by omega) (by omega)
    have e4 := rbytes_app data r 32 (by omega)
    simp only [e1, e2, e3, e4]
  · simp only at hk h1 h2 h3 h4 h5 h6 h7 h8
    subst hk; subst h3; subst h4; subst h5; subst h6; subst h7; subst h8
    obtain ⟨code, rfl⟩ : ∃ m : Nat, code = (m : Int) := ⟨code.toNat, by omega⟩
    unfold rfr bodyP FR.head
    simp only [show ¬ ((2 : Int) = 1) from by decide, if_false, if_true]
    rw [wv_nat (by omega)]
    have e1 := rnum_enc code 1 r 1 rfl (by omega) (by omega) (by omega)
    simp only [e1]
  · simp only at hk h1 h2 h3 h4 h5 h6 h7 h8
    subst h3; subst h4; subst h5; subst h6; subst h7; subst h8
    obtain ⟨index, rfl⟩ : ∃ m : Nat, index = (m : Int) := ⟨index.toNat, by omega⟩
    have e1 := rnum_enc index 2 r 2 rfl (by omega) (by omega) (by omega)
    unfold rfr bodyP FR.head
    rcases hk with rfl | rfl
    · simp only [show ¬ ((3 : Int) = 1) from by decide, show ¬ ((3 : Int) = 2) from by decide, show ¬ ((3 : Int) = 4) from by decide, show ¬ ((3 : Int) = 6) from by decide, show ¬ ((3 : Int) = 7) from by decide, true_or, if_false, if_true]
      rw [wv_nat (by omega)]
      simp only [e1]
    · simp only [show ¬ ((5 : Int) = 1) from by decide, show ¬ ((5 : Int) = 2) from by decide, show ¬ ((5 : Int) = 4) from by decide, show ¬ ((5 : Int) = 6) from by decide, show ¬ ((5 : Int) = 7) from by decide, or_true, if_false, if_true]
      rw [wv_nat (by omega)]
      simp only [e1]
  · simp only at hk h1 h2 h3 h4 h5 h6 h7 h8 h9
    subst hk; subst h5; subst h6; subst h7; subst h8; subst h9
    obtain ⟨index, rfl⟩ : ∃ m : Nat, index = (m : Int) := ⟨index.toNat, by omega⟩
    unfold rfr bodyP FR.head
    simp only [show ¬ ((4 : Int) = 1) from by decide, show ¬ ((4 : Int) = 2) from by decide, show ¬ ((4 : Int) = 3 ∨ (4 : Int) = 5) from by decide, if_false, if_true, List.append_assoc]
    rw [wv_nat (by omega)]
    have e1 := rnum_enc index 2 (enc list.length 1 ++ (list.flatten ++ r)) 2 rfl (by omega) (by omega) (by omega)
    have e2 := rnum_enc list.length 1 (list.flatten ++ r) 1 rfl (by omega) (by omega) (by omega)
    have e3 := chunk_app list r h4 list.length (Nat.le_refl _)
    simp only [e1, e2, e3, List.take_length]
  · simp only at hk h1 h2 h3 h4 h5 h6 h7 h8
    subst hk; subst h4; subst h5; subst h6; subst h7; subst h8
    obtain ⟨index, rfl⟩ : ∃ m : Nat, index = (m : Int) := ⟨index.toNat, by omega⟩
    unfold rfr bodyP FR.head
    simp only [show ¬ ((6 : Int) = 1) from by decide, show ¬ ((6 : Int) = 2) from by decide, show ¬ ((6 : Int) = 3 ∨ (6 : Int) = 5) from by decide, show ¬ ((6 : Int) = 4) from by decide, if_false, if_true, List.append_assoc]
    rw [wv_nat (by omega)]
    have e1 := rnum_enc index 2 (data ++ r) 2 rfl (by omega) (by omega) (by omega)
    have e4 := rbytes_app data r 64 (by omega)
    simp only [e1, e4]
  · simp only at hk h1 h2 h3 h4 h5 h6 h7
    subst hk; subst h1; subst h2; subst h3; subst h4; subst h5; subst h6; subst h7
    rfl

/-- The document's way back: read, told again, and held against the bytes. -/
theorem getP_ref (s : List UInt8) (h1 : ¬ s.length < 27) (h2 : ¬ s.length < 27 + lenOf s) (h3 : ¬ 27 + lenOf s < s.length) (h4 : numN ((s.drop (23 + lenOf s)).take 4) = addN 0 (s.take (23 + lenOf s))) :
    getP s = if good (rfr (headOf s) (s.drop 23)) ∧ frameB (rfr (headOf s) (s.drop 23)) = s then (rfr (headOf s) (s.drop 23), 0) else (fr0, 6) := by
  by_cases hx : ∃ x, getP s = (x, 0)
  · obtain ⟨x, hx⟩ := hx
    obtain ⟨hg, hb, hf⟩ := get_back s x hx
    have hfb : s = headB x ++ (bodyP x ++ enc (addN 0 (sumB x)) 4) := by rw [← hb]; simp [frameB, sumB]
    obtain ⟨e1, e2⟩ := head_frame x hg hf (bodyP x ++ enc (addN 0 (sumB x)) 4)
    rw [← hfb] at e1
    have hd : s.drop 23 = bodyP x ++ enc (addN 0 (sumB x)) 4 := by rw [hfb, ← headB_length x, List.drop_left]
    have hr : rfr (headOf s) (s.drop 23) = x := by rw [e1, hd]; exact rfr_body x hg _
    rw [hr, hx, if_pos ⟨hg, hb⟩]
  · rw [if_neg]
    · unfold getP at hx ⊢
      rw [if_neg h1, if_neg h2, if_neg h3, if_neg (fun h => h h4)] at hx ⊢
      split
      · rename_i y hy
        rw [hy] at hx
        exact absurd ⟨y, rfl⟩ hx
      · rfl
    · rintro ⟨hg, hb⟩
      refine hx ⟨rfr (headOf s) (s.drop 23), ?_⟩
      · have hfit : (rfr (headOf s) (s.drop 23)).fit := by
          have k1 := num_take_lt (s.drop 1) 8
          have k2 := num_take_lt (s.drop 9) 8
          have k3 := num_take_lt (s.drop 17) 4
          have e : (rfr (headOf s) (s.drop 23)).sess = (headOf s).sess ∧ (rfr (headOf s) (s.drop 23)).ep = (headOf s).ep ∧ (rfr (headOf s) (s.drop 23)).seq = (headOf s).seq := by
            unfold rfr
            repeat' split
            all_goals exact ⟨rfl, rfl, rfl⟩
          exact ⟨by rw [e.1]; exact k1, by rw [e.2.1]; exact k2, by rw [e.2.2]; exact k3⟩
        have := get_frame _ hg hfit
        rw [hb] at this
        exact this
end Go.Proofs.Ytipegdfjpmlcbaa


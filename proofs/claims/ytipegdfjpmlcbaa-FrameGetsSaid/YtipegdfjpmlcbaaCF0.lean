/-
  Frames: what they are, their bytes, what bytes tell; over lists, no program in sight.
-/
import Derived.Test.YtipegdfjpmlcbaaA4
import Derived.Test.YtipegdfjpmlcbaaK0
namespace Go.Proofs.Ytipegdfjpmlcbaa
open Go.RowKit
set_option linter.unusedVariables false
set_option linter.unusedSimpArgs false

structure FR where
  kind : Int
  sess : Nat
  ep : Nat
  seq : Nat
  vol : Nat
  n : Int
  f : Int
  index : Int
  code : Int
  data : List UInt8
  list : List (List UInt8)

def wv (x : Int) : Nat := (x % 18446744073709551616).toNat
theorem wv_nat {n : Nat} (h : n < 18446744073709551616) : wv (n : Int) = n := by unfold wv; omega
def fr0 : FR := ⟨0, 0, 0, 0, 0, 0, 0, 0, 0, [], []⟩
def FR.head (f : FR) : FR := ⟨f.kind, f.sess, f.ep, f.seq, 0, 0, 0, 0, 0, [], []⟩

def bodyP (f : FR) : List UInt8 :=
  if f.kind = 1 then enc f.vol 4 ++ enc (wv f.n) 2 ++ enc (wv f.f) 1 ++ f.data
  else if f.kind = 2 then enc (wv f.code) 1
  else if f.kind = 3 ∨ f.kind = 5 then enc (wv f.index) 2
  else if f.kind = 4 then enc (wv f.index) 2 ++ enc f.list.length 1 ++ f.list.flatten
  else if f.kind = 6 then enc (wv f.index) 2 ++ f.data
  else []

/-- Bytes 32 by 32. -/
def chunk (ys : List UInt8) (e : Int) : Nat → List (List UInt8) × List UInt8 × Int
  | 0 => ([], ys, e)
  | k + 1 => ((chunk ys e k).1 ++ [(rbytes (chunk ys e k).2.1 (chunk ys e k).2.2 32).1], (rbytes (chunk ys e k).2.1 (chunk ys e k).2.2 32).2.1, (rbytes (chunk ys e k).2.1 (chunk ys e k).2.2 32).2.2)

/-- What a body tells, behind a head. -/
def openP (h : FR) (b : List UInt8) : Option FR :=
  if h.kind = 1 then (if b.length = 39 then some ⟨h.kind, h.sess, h.ep, h.seq, numN (b.take 4), numN ((b.drop 4).take 2), numN ((b.drop 6).take 1), h.index, h.code, b.drop 7, h.list⟩ else none)
  else if h.kind = 2 then (if b.length = 1 then some ⟨h.kind, h.sess, h.ep, h.seq, h.vol, h.n, h.f, h.index, numN b, h.data, h.list⟩ else none)
  else if h.kind = 3 ∨ h.kind = 5 then (if b.length = 2 then some ⟨h.kind, h.sess, h.ep, h.seq, h.vol, h.n, h.f, numN b, h.code, h.data, h.list⟩ else none)
  else if h.kind = 4 then (if 3 ≤ b.length ∧ numN ((b.drop 2).take 1) ≤ 4 ∧ b.length = 3 + 32 * numN ((b.drop 2).take 1) then some ⟨h.kind, h.sess, h.ep, h.seq, h.vol, h.n, h.f, numN (b.take 2), h.code, h.data, (chunk (b.drop 3) 0 (numN ((b.drop 2).take 1))).1⟩ else none)
  else if h.kind = 6 then (if b.length = 66 then some ⟨h.kind, h.sess, h.ep, h.seq, h.vol, h.n, h.f, numN (b.take 2), h.code, b.drop 2, h.list⟩ else none)
  else if h.kind = 7 then (if b = [] then some h else none)
  else none

def good (f : FR) : Prop :=
  (f.kind = 1 ∧ f.vol < 4294967296 ∧ 0 ≤ f.n ∧ f.n < 65536 ∧ 0 ≤ f.f ∧ f.f < 256 ∧ f.data.length = 32 ∧ f.index = 0 ∧ f.code = 0 ∧ f.list = [])
  ∨ (f.kind = 2 ∧ 0 ≤ f.code ∧ f.code < 256 ∧ f.vol = 0 ∧ f.n = 0 ∧ f.f = 0 ∧ f.index = 0 ∧ f.data = [] ∧ f.list = [])
  ∨ ((f.kind = 3 ∨ f.kind = 5) ∧ 0 ≤ f.index ∧ f.index < 65536 ∧ f.vol = 0 ∧ f.n = 0 ∧ f.f = 0 ∧ f.code = 0 ∧ f.data = [] ∧ f.list = [])
  ∨ (f.kind = 4 ∧ 0 ≤ f.index ∧ f.index < 65536 ∧ f.list.length ≤ 4 ∧ (∀ d ∈ f.list, d.length = 32) ∧ f.vol = 0 ∧ f.n = 0 ∧ f.f = 0 ∧ f.code = 0 ∧ f.data = [])
  ∨ (f.kind = 6 ∧ 0 ≤ f.index ∧ f.index < 65536 ∧ f.data.length = 64 ∧ f.vol = 0 ∧ f.n = 0 ∧ f.f = 0 ∧ f.code = 0 ∧ f.list = [])
  ∨ (f.kind = 7 ∧ f.vol = 0 ∧ f.n = 0 ∧ f.f = 0 ∧ f.index = 0 ∧ f.code = 0 ∧ f.data = [] ∧ f.list = [])

/-! ### numbers and bytes -/
theorem numN_cons (x : UInt8) (ys : List UInt8) : numN (x :: ys) = x.toNat * 256 ^ ys.length + numN ys := by
  have key : ∀ (ys : List UInt8) (a : Nat), ys.foldl (fun a x => a * 256 + x.toNat) a = a * 256 ^ ys.length + ys.foldl (fun a x => a * 256 + x.toNat) 0 := by
    intro ys
    induction ys with
    | nil => intro a; simp
    | cons y ys ih =>
      intro a
      simp only [List.foldl_cons, List.length_cons]
      rw [ih (a * 256 + y.toNat), ih (0 * 256 + y.toNat), Nat.pow_succ]
      rw [Nat.add_mul, Nat.zero_mul, Nat.zero_add, Nat.mul_assoc, Nat.mul_comm 256]
      omega
  unfold numN
  simp only [List.foldl_cons, Nat.zero_mul, Nat.zero_add]
  exact key ys x.toNat
theorem numN_lt' : ∀ ys : List UInt8, numN ys < 256 ^ ys.length
  | [] => by simp [numN]
  | x :: ys => by
    have h := numN_lt' ys
    have hx := x.toNat_lt
    rw [numN_cons, List.length_cons, Nat.pow_succ]
    have : x.toNat * 256 ^ ys.length + numN ys < (x.toNat + 1) * 256 ^ ys.length := by rw [Nat.add_mul]; omega
    have h2 : (x.toNat + 1) * 256 ^ ys.length ≤ 256 * 256 ^ ys.length := Nat.mul_le_mul_right _ (by omega)
    rw [Nat.mul_comm (256 ^ ys.length)]
    omega
theorem enc_mod (m a : Nat) : ∀ w, enc (a * 256 ^ w + m) w = enc m w := by
  have h : ∀ w k, k ≤ w → enc (a * 256 ^ w + m) k = enc m k := by
    intro w k
    induction k with
    | zero => intro _; rfl
    | succ k ih =>
      intro hk
      simp only [enc]
      rw [ih (by omega)]
      congr 1
      unfold byteAt
      apply UInt8.toNat_inj.1
      simp only [UInt8.toNat_ofNat']
      obtain ⟨d, rfl⟩ : ∃ d, w = k + 1 + d := ⟨w - (k + 1), by omega⟩
      rw [show a * 256 ^ (k + 1 + d) + m = m + 256 ^ k * (256 * (a * 256 ^ d)) from by rw [Nat.pow_add, Nat.pow_succ]; simp only [Nat.mul_comm, Nat.mul_left_comm, Nat.mul_assoc]; omega]
      rw [Nat.add_mul_div_left _ _ (Nat.pow_pos (by omega))]
      omega
  intro w
  exact h w w (Nat.le_refl _)
theorem enc_numN : ∀ ys : List UInt8, enc (numN ys) ys.length = ys
  | [] => rfl
  | x :: ys => by
    have h := numN_lt' ys
    simp only [List.length_cons, enc]
    rw [numN_cons, enc_mod, enc_numN ys]
    congr 1
    unfold byteAt
    apply UInt8.toNat_inj.1
    simp only [UInt8.toNat_ofNat']
    have hx := x.toNat_lt
    rw [Nat.add_comm, Nat.add_mul_div_right _ _ (Nat.pow_pos (by omega)), Nat.div_eq_of_lt h]
    omega
theorem numN_enc {v w : Nat} (h : v < 256 ^ w) : numN (enc v w) = v := by rw [enc_num, Nat.mod_eq_of_lt h]

/-! ### 32 by 32 -/
theorem chunk_succ (ys : List UInt8) (e : Int) (k : Nat) : chunk ys e (k + 1) = ((chunk ys e k).1 ++ [(rbytes (chunk ys e k).2.1 (chunk ys e k).2.2 32).1], (rbytes (chunk ys e k).2.1 (chunk ys e k).2.2 32).2.1, (rbytes (chunk ys e k).2.1 (chunk ys e k).2.2 32).2.2) := rfl
theorem chunk_flat (l : List (List UInt8)) (hl : ∀ d ∈ l, d.length = 32) : ∀ k, k ≤ l.length → chunk l.flatten 0 k = (l.take k, (l.drop k).flatten, 0)
  | 0, _ => by simp [chunk]
  | k + 1, hk => by
    have h := chunk_flat l hl k (by omega)
    have hd : (l.drop k) = l[k] :: l.drop (k + 1) := List.drop_eq_getElem_cons (by omega)
    have h32 : (l[k]).length = 32 := hl _ (List.getElem_mem _)
    rw [chunk_succ, h]
    have hr : rbytes (l.drop k).flatten 0 32 = (l[k], (l.drop (k + 1)).flatten, 0) := by
      unfold rbytes
      rw [hd, List.flatten_cons, if_neg (by simp), if_neg (by omega), if_neg (by simp; omega)]
      have e : (32 : Int).toNat = l[k].length := by omega
      rw [e, List.take_left, List.drop_left]
    simp only [hr]
    rw [List.take_add_one, List.getElem?_eq_getElem (show k < l.length by omega)]
    rfl
theorem rbytes_bad (ys : List UInt8) (e m : Int) (h : e ≠ 0) : (rbytes ys e m).2.2 ≠ 0 := by unfold rbytes; rw [if_pos h]; exact h
theorem chunk_back (ys : List UInt8) : ∀ k, (chunk ys 0 k).2.2 = 0 → (chunk ys 0 k).1.flatten ++ (chunk ys 0 k).2.1 = ys ∧ (chunk ys 0 k).1.length = k ∧ ∀ d ∈ (chunk ys 0 k).1, d.length = 32
  | 0, _ => by simp [chunk]
  | k + 1, h => by
    simp only [chunk] at h ⊢
    have h0 : (chunk ys 0 k).2.2 = 0 := Classical.byContradiction fun hn => rbytes_bad _ _ 32 hn h
    obtain ⟨h1, h2, h3⟩ := chunk_back ys k h0
    rw [h0] at h ⊢
    generalize hR : (chunk ys 0 k).2.1 = R at h1 h ⊢
    by_cases hlt : (R.length : Int) < 32
    · unfold rbytes at h
      rw [if_neg (by simp), if_neg (by omega), if_pos hlt] at h
      simp at h
    · have hr : rbytes R 0 32 = (R.take 32, R.drop 32, 0) := by
        unfold rbytes
        rw [if_neg (by simp), if_neg (by omega), if_neg hlt]
        rfl
      rw [hr]
      refine ⟨?_, by simp [h2], fun d hd => ?_⟩
      · simp only [List.flatten_append, List.flatten_cons, List.flatten_nil, List.append_nil, List.append_assoc, List.take_append_drop]
        exact h1
      · rcases List.mem_append.1 hd with hd | hd
        · exact h3 d hd
        · simp only [List.mem_singleton] at hd
          subst hd
          rw [List.length_take]; omega
theorem chunk_len (ys : List UInt8) : ∀ k, ys.length = 32 * k → (chunk ys 0 k).2.2 = 0 ∧ (chunk ys 0 k).2.1 = [] := by
  have key : ∀ k (ys : List UInt8), 32 * k ≤ ys.length → (chunk ys 0 k).2 = (ys.drop (32 * k), 0) := by
    intro k
    induction k with
    | zero => intro ys _; simp [chunk]
    | succ k ih =>
      intro ys h
      have h1 := ih ys (by omega)
      simp only [chunk, h1]
      unfold rbytes
      rw [if_neg (by simp), if_neg (by omega), if_neg (by simp; omega)]
      simp only [List.drop_drop]
      rw [show (32 : Int).toNat = 32 from rfl, show 32 * k + 32 = 32 * (k + 1) from by omega]
  intro k h
  have := key k ys (by omega)
  rw [this]
  exact ⟨rfl, List.drop_eq_nil_of_le (by omega)⟩

theorem FR.ext' {a b : FR} (h0 : a.kind = b.kind) (h1 : a.sess = b.sess) (h2 : a.ep = b.ep) (h3 : a.seq = b.seq) (h4 : a.vol = b.vol) (h5 : a.n = b.n) (h6 : a.f = b.f) (h7 : a.index = b.index) (h8 : a.code = b.code) (h9 : a.data = b.data) (h10 : a.list = b.list) : a = b := by
  obtain ⟨⟩ := a; obtain ⟨⟩ := b; simp only at *; subst_vars; rfl

theorem take_enc (v w : Nat) (r : List UInt8) : (enc v w ++ r).take w = enc v w := by
  conv => lhs; arg 1; rw [← enc_length v w]
  exact List.take_left
theorem drop_enc (v w : Nat) (r : List UInt8) : (enc v w ++ r).drop w = r := by
  conv => lhs; arg 1; rw [← enc_length v w]
  exact List.drop_left

/-- A frame that can be told is told by its head and its body. -/
theorem open_body (f : FR) (h : good f) : openP f.head (bodyP f) = some f := by
  obtain ⟨kind, sess, ep, seq, vol, n, ff, index, code, data, list⟩ := f
  rcases h with ⟨hk, h1, h2, h3, h4, h5, h6, h7, h8, h9⟩ | ⟨hk, h1, h2, h3, h4, h5, h6, h7, h8⟩ | ⟨hk, h1, h2, h3, h4, h5, h6, h7, h8⟩ | ⟨hk, h1, h2, h3, h4, h5, h6, h7, h8, h9⟩ | ⟨hk, h1, h2, h3, h4, h5, h6, h7, h8⟩ | ⟨hk, h1, h2, h3, h4, h5, h6, h7⟩
  · simp only at hk h1 h2 h3 h4 h5 h6 h7 h8 h9
    subst hk; subst h7; subst h8; subst h9
    obtain ⟨n, rfl⟩ : ∃ m : Nat, n = (m : Int) := ⟨n.toNat, by omega⟩
    obtain ⟨ff, rfl⟩ : ∃ m : Nat, ff = (m : Int) := ⟨ff.toNat, by omega⟩
    unfold openP bodyP FR.head
    simp only [if_true]
    rw [wv_nat (by omega), wv_nat (by omega)]
    rw [if_pos (by simp [enc_length, h6])]
    simp only [List.append_assoc]
    rw [take_enc, drop_enc, take_enc, show (6 : Nat) = 4 + 2 from rfl, ← List.drop_drop, drop_enc, drop_enc, take_enc, show (7 : Nat) = 4 + (2 + 1) from rfl, ← List.drop_drop, drop_enc, ← List.drop_drop, drop_enc, drop_enc]
    rw [numN_enc (by omega), numN_enc (by omega), numN_enc (by omega)]
  · simp only at hk h1 h2 h3 h4 h5 h6 h7 h8
    subst hk; subst h3; subst h4; subst h5; subst h6; subst h7; subst h8
    obtain ⟨code, rfl⟩ : ∃ m : Nat, code = (m : Int) := ⟨code.toNat, by omega⟩
    unfold openP bodyP FR.head
    simp only [show ¬ ((2 : Int) = 1) from by decide, if_false, if_true]
    rw [wv_nat (by omega), if_pos (by simp [enc_length]), numN_enc (by omega)]
  · simp only at hk h1 h2 h3 h4 h5 h6 h7 h8
    subst h3; subst h4; subst h5; subst h6; subst h7; subst h8
    obtain ⟨index, rfl⟩ : ∃ m : Nat, index = (m : Int) := ⟨index.toNat, by omega⟩
    unfold openP bodyP FR.head
    rcases hk with rfl | rfl
    · simp only [show ¬ ((3 : Int) = 1) from by decide, show ¬ ((3 : Int) = 2) from by decide, true_or, if_false, if_true]
      rw [wv_nat (by omega), if_pos (by simp [enc_length]), numN_enc (by omega)]
    · simp only [show ¬ ((5 : Int) = 1) from by decide, show ¬ ((5 : Int) = 2) from by decide, show ((5 : Int) = 3 ∨ (5 : Int) = 5) ↔ True from by decide, or_true, if_false, if_true]
      rw [wv_nat (by omega), if_pos (by simp [enc_length]), numN_enc (by omega)]
  · simp only at hk h1 h2 h3 h4 h5 h6 h7 h8 h9
    subst hk; subst h5; subst h6; subst h7; subst h8; subst h9
    obtain ⟨index, rfl⟩ : ∃ m : Nat, index = (m : Int) := ⟨index.toNat, by omega⟩
    have hfl : list.flatten.length = 32 * list.length := by
      clear h3
      induction list with
      | nil => rfl
      | cons d l ih =>
        rw [List.flatten_cons, List.length_append, h4 d (by simp), ih (fun d hd => h4 d (by simp [hd])), List.length_cons]
        omega
    unfold openP bodyP FR.head
    simp only [show ¬ ((4 : Int) = 1) from by decide, show ¬ ((4 : Int) = 2) from by decide, show ¬ ((4 : Int) = 3 ∨ (4 : Int) = 5) from by decide, if_false, if_true]
    rw [wv_nat (by omega)]
    simp only [List.append_assoc]
    rw [drop_enc, take_enc, numN_enc (by omega), take_enc, numN_enc (by omega), show (3 : Nat) = 2 + 1 from rfl, ← List.drop_drop, drop_enc, drop_enc]
    rw [if_pos ⟨by simp [enc_length]; omega, h3, by simp [enc_length, hfl]; omega⟩, chunk_flat list h4 _ (Nat.le_refl _)]
    simp
  · simp only at hk h1 h2 h3 h4 h5 h6 h7 h8
    subst hk; subst h4; subst h5; subst h6; subst h7; subst h8
    obtain ⟨index, rfl⟩ : ∃ m : Nat, index = (m : Int) := ⟨index.toNat, by omega⟩
    unfold openP bodyP FR.head
    simp only [show ¬ ((6 : Int) = 1) from by decide, show ¬ ((6 : Int) = 2) from by decide, show ¬ ((6 : Int) = 3 ∨ (6 : Int) = 5) from by decide, show ¬ ((6 : Int) = 4) from by decide, if_false, if_true]
    rw [wv_nat (by omega), if_pos (by simp [enc_length, h3]), take_enc, drop_enc, numN_enc (by omega)]
  · simp only at hk h1 h2 h3 h4 h5 h6 h7
    subst hk; subst h1; subst h2; subst h3; subst h4; subst h5; subst h6; subst h7
    rfl
end Go.Proofs.Ytipegdfjpmlcbaa


/-
  Shapes of trees, over Nat: levels, nodes, parents, children, paths.
-/
import Derived.Test.YtlockgfokfhokaaDoorG1
namespace Go.Proofs.YtlockgfokfhokaaDoor
open Go.RowKit
set_option linter.unusedVariables false
set_option linter.unusedSimpArgs false

/-- How many nodes level i has. -/
def q (n f : Nat) : Nat → Nat
  | 0 => n
  | i + 1 => (q n f i + f - 1) / f

/-- How many nodes the first k levels have. -/
def S (n f : Nat) : Nat → Nat
  | 0 => 0
  | k + 1 => S n f k + q n f k

/-- The first level with one node. -/
def hI (n f : Nat) : Nat → Nat → Nat
  | 0, i => i
  | k + 1, i => if q n f i ≤ 1 then i else hI n f k (i + 1)
def H (n f : Nat) : Nat := hI n f 7 0

theorem hI_spec (n f : Nat) : ∀ k i, (∀ j, j < i → 1 < q n f j) → q n f (i + k) ≤ 1 → (∀ j, j < hI n f k i → 1 < q n f j) ∧ q n f (hI n f k i) ≤ 1 ∧ hI n f k i ≤ i + k
  | 0, i, h, h1 => ⟨h, h1, Nat.le_refl _⟩
  | k + 1, i, h, h1 => by
    unfold hI
    split
    · rename_i h2; exact ⟨h, h2, by omega⟩
    · rename_i h2
      have := hI_spec n f k (i + 1) (fun j hj => by
        by_cases e : j = i
        · subst e; omega
        · exact h j (by omega)) (by rw [show i + 1 + k = i + (k + 1) from by omega]; exact h1)
      exact ⟨this.1, this.2.1, by omega⟩

structure Ok (n f : Nat) : Prop where
  n1 : 1 ≤ n
  n2 : n ≤ 128
  f1 : 2 ≤ f
  f2 : f ≤ 4

theorem ceil_step {m f : Nat} (hf1 : 2 ≤ f) (hf2 : f ≤ 4) (hm : 1 ≤ m) : 1 ≤ (m + f - 1) / f ∧ 2 * ((m + f - 1) / f) ≤ m + 1 ∧ m ≤ f * ((m + f - 1) / f) := by
  rcases (by omega : f = 2 ∨ f = 3 ∨ f = 4) with rfl | rfl | rfl <;> omega

theorem q_pos {n f : Nat} (h : Ok n f) : ∀ i, 1 ≤ q n f i
  | 0 => h.n1
  | i + 1 => (ceil_step h.f1 h.f2 (q_pos h i)).1
theorem q_half {n f : Nat} (h : Ok n f) (i : Nat) : 2 * q n f (i + 1) ≤ q n f i + 1 := (ceil_step h.f1 h.f2 (q_pos h i)).2.1
theorem q_up {n f : Nat} (h : Ok n f) (i : Nat) : q n f i ≤ f * q n f (i + 1) := (ceil_step h.f1 h.f2 (q_pos h i)).2.2

theorem H_spec {n f : Nat} (h : Ok n f) : (∀ j, j < H n f → 1 < q n f j) ∧ q n f (H n f) = 1 ∧ H n f ≤ 7 := by
  have h0 : q n f 0 ≤ 128 := h.n2
  have h1 : 2 * q n f 1 ≤ q n f 0 + 1 := q_half h 0
  have h2 : 2 * q n f 2 ≤ q n f 1 + 1 := q_half h 1
  have h3 : 2 * q n f 3 ≤ q n f 2 + 1 := q_half h 2
  have h4 : 2 * q n f 4 ≤ q n f 3 + 1 := q_half h 3
  have h5 : 2 * q n f 5 ≤ q n f 4 + 1 := q_half h 4
  have h6 : 2 * q n f 6 ≤ q n f 5 + 1 := q_half h 5
  have h7 : 2 * q n f 7 ≤ q n f 6 + 1 := q_half h 6
  have hs := hI_spec n f 7 0 (fun j hj => by omega) (by show q n f (0 + 7) ≤ 1; rw [Nat.zero_add]; omega)
  have hp := q_pos h (H n f)
  refine ⟨hs.1, ?_, by have := hs.2.2; unfold H; omega⟩
  have := hs.2.1
  unfold H at hp ⊢
  omega

theorem q_le {n f : Nat} (h : Ok n f) : ∀ i, q n f i ≤ 128
  | 0 => h.n2
  | i + 1 => by have := q_half h i; have := q_le h i; omega

theorem S_mono {n f : Nat} : ∀ {j k : Nat}, j ≤ k → S n f j ≤ S n f k := by
  intro j k hjk
  induction k with
  | zero => obtain rfl : j = 0 := by omega
            exact Nat.le_refl _
  | succ k ih =>
    by_cases e : j = k + 1
    · subst e; exact Nat.le_refl _
    · have := ih (by omega)
      show _ ≤ S n f k + q n f k
      omega

theorem S_le {n f : Nat} (h : Ok n f) : S n f (H n f + 1) ≤ 255 := by
  have hh := (H_spec h).2.2
  have h0 : q n f 0 ≤ 128 := h.n2
  have h1 : 2 * q n f 1 ≤ q n f 0 + 1 := q_half h 0
  have h2 : 2 * q n f 2 ≤ q n f 1 + 1 := q_half h 1
  have h3 : 2 * q n f 3 ≤ q n f 2 + 1 := q_half h 2
  have h4 : 2 * q n f 4 ≤ q n f 3 + 1 := q_half h 3
  have h5 : 2 * q n f 5 ≤ q n f 4 + 1 := q_half h 4
  have h6 : 2 * q n f 6 ≤ q n f 5 + 1 := q_half h 5
  have h7 : 2 * q n f 7 ≤ q n f 6 + 1 := q_half h 6
  have h8 : S n f 8 ≤ 255 := by
    have hp := q_pos h 7
    show 0 + q n f 0 + q n f 1 + q n f 2 + q n f 3 + q n f 4 + q n f 5 + q n f 6 + q n f 7 ≤ 255
    omega
  exact Nat.le_trans (S_mono (by omega)) h8

/-- The level of a node is one. -/
theorem lvl_one {n f x j k : Nat} (h1 : S n f j ≤ x) (h2 : x < S n f (j + 1)) (h3 : S n f k ≤ x) (h4 : x < S n f (k + 1)) : j = k := by
  rcases Nat.lt_trichotomy j k with h | h | h
  · have := @S_mono n f (j + 1) k h; omega
  · exact h
  · have := @S_mono n f (k + 1) j h; omega

def lvlI (n f x : Nat) : Nat → Nat
  | 0 => 0
  | k + 1 => if S n f (k + 1) ≤ x then k + 1 else lvlI n f x k

theorem lvlI_spec {n f x : Nat} : ∀ k, x < S n f (k + 1) → lvlI n f x k ≤ k ∧ S n f (lvlI n f x k) ≤ x ∧ x < S n f (lvlI n f x k + 1)
  | 0, h => ⟨Nat.le_refl _, Nat.zero_le _, h⟩
  | k + 1, h => by
    unfold lvlI
    split
    · rename_i h1; exact ⟨Nat.le_refl _, h1, h⟩
    · rename_i h1
      have := lvlI_spec (n := n) (f := f) (x := x) k (Nat.lt_of_not_le h1)
      exact ⟨by omega, this.2⟩

/-- A node's level. -/
def lvl (n f x : Nat) : Nat := lvlI n f x (H n f)
theorem lvl_spec {n f x : Nat} (h : x < S n f (H n f + 1)) : lvl n f x ≤ H n f ∧ S n f (lvl n f x) ≤ x ∧ x < S n f (lvl n f x + 1) := lvlI_spec _ h

/-- How many nodes there are, how high, which is the root. -/
def nodes (N F C U : Int) : Nat := if okG N F C U then S N.toNat F.toNat (H N.toNat F.toNat + 1) else 0
def height (N F C U : Int) : Nat := if okG N F C U then H N.toNat F.toNat else 0
def levels (N F C U : Int) : List Int := if okG N F C U then (List.range (H N.toNat F.toNat + 1)).map (fun i => (q N.toNat F.toNat i : Int)) else []

/-- The parent of node x. -/
def par (n f x : Nat) : Int := if lvl n f x = H n f then -1 else ((S n f (lvl n f x + 1) + (x - S n f (lvl n f x)) / f : Nat) : Int)
/-- The children of node x: the first, and how many. -/
def chA (n f x : Nat) : Nat := S n f (lvl n f x - 1) + (x - S n f (lvl n f x)) * f
def chNG (n f x : Nat) : Nat := if lvl n f x = 0 then 0 else min f (S n f (lvl n f x) - chA n f x)
def ch (n f x : Nat) : List Int := (List.range (chNG n f x)).map (fun j => ((chA n f x + j : Nat) : Int))

def parent (N F C U node : Int) : Int := if okG N F C U ∧ 0 ≤ node ∧ node < (S N.toNat F.toNat (H N.toNat F.toNat + 1) : Nat) then par N.toNat F.toNat node.toNat else -1
def children (N F C U node : Int) : List Int := if okG N F C U ∧ 0 ≤ node ∧ node < (S N.toNat F.toNat (H N.toNat F.toNat + 1) : Nat) then ch N.toNat F.toNat node.toNat else []

/-- The k-th node of a leaf's path. -/
def pth (n f x : Nat) : Nat → Nat
  | 0 => x
  | k + 1 => S n f (k + 1) + (pth n f x k - S n f k) / f
def path (N F C U leaf : Int) : List Int := if okG N F C U ∧ 0 ≤ leaf ∧ leaf < N then (List.range (H N.toNat F.toNat + 1)).map (fun k => (pth N.toNat F.toNat leaf.toNat k : Int)) else []

theorem par_lt {n f x k : Nat} (h : Ok n f) (h1 : S n f k ≤ x) (h2 : x < S n f (k + 1)) :
    S n f (k + 1) ≤ S n f (k + 1) + (x - S n f k) / f ∧ S n f (k + 1) + (x - S n f k) / f < S n f (k + 2) := by
  have h3 : S n f (k + 2) = S n f (k + 1) + q n f (k + 1) := rfl
  have h4 : S n f (k + 1) = S n f k + q n f k := rfl
  have h5 := q_up h k
  have : (x - S n f k) / f < q n f (k + 1) := Nat.div_lt_of_lt_mul (by omega)
  rw [h3]
  exact ⟨Nat.le_add_right _ _, Nat.add_lt_add_left this _⟩

theorem pth_lt {n f x : Nat} (h : Ok n f) (hx : x < n) : ∀ k, S n f k ≤ pth n f x k ∧ pth n f x k < S n f (k + 1)
  | 0 => ⟨Nat.zero_le _, by show x < 0 + n; omega⟩
  | k + 1 => par_lt h (pth_lt h hx k).1 (pth_lt h hx k).2

theorem lvl_at {n f x k : Nat} (hk : k ≤ H n f) (h1 : S n f k ≤ x) (h2 : x < S n f (k + 1)) : lvl n f x = k := by
  have := lvl_spec (n := n) (f := f) (x := x) (Nat.lt_of_lt_of_le h2 (S_mono (by omega)))
  exact lvl_one this.2.1 this.2.2 h1 h2

theorem par_at {n f x k : Nat} (hk : k < H n f) (h1 : S n f k ≤ x) (h2 : x < S n f (k + 1)) : par n f x = ((S n f (k + 1) + (x - S n f k) / f : Nat) : Int) := by
  unfold par
  rw [lvl_at (by omega) h1 h2, if_neg (by omega)]
theorem par_top {n f x : Nat} (h1 : S n f (H n f) ≤ x) (h2 : x < S n f (H n f + 1)) : par n f x = -1 := by
  unfold par
  rw [lvl_at (Nat.le_refl _) h1 h2, if_pos rfl]

theorem ch_leaf {n f x : Nat} (h2 : x < S n f 1) : ch n f x = [] := by
  unfold ch chNG
  rw [lvl_at (Nat.zero_le _) (Nat.zero_le _) h2]
  rfl

theorem ch_at {n f x k : Nat} (hk : k < H n f) (h1 : S n f (k + 1) ≤ x) (h2 : x < S n f (k + 2)) :
    chA n f x = S n f k + (x - S n f (k + 1)) * f ∧ chNG n f x = min f (S n f (k + 1) - (S n f k + (x - S n f (k + 1)) * f)) := by
  have hl := lvl_at (k := k + 1) hk h1 h2
  unfold chNG chA
  rw [hl, if_neg (by omega)]
  exact ⟨rfl, rfl⟩

/-- y is a child of x just where x is the parent of y. -/
theorem family {n f x y : Nat} (h : Ok n f) (hx : x < S n f (H n f + 1)) (hy : y < S n f (H n f + 1)) :
    (chA n f x ≤ y ∧ y < chA n f x + chNG n f x) ↔ par n f y = (x : Int) := by
  obtain ⟨a1, a2, a3⟩ := lvl_spec hx
  obtain ⟨b1, b2, b3⟩ := lvl_spec hy
  have hf : 0 < f := by have := h.f1; omega
  generalize lvl n f x = a at *
  generalize lvl n f y = b at *
  constructor
  · rintro ⟨c1, c2⟩
    cases a with
    | zero =>
      have : chNG n f x = 0 := by unfold chNG; rw [lvl_at (Nat.zero_le _) a2 a3, if_pos rfl]
      omega
    | succ k =>
      obtain ⟨e1, e2⟩ := ch_at (by omega) a2 a3
      rw [e1, e2] at c2
      rw [e1] at c1
      have h5 : S n f k ≤ y := by omega
      have h6 : y < S n f (k + 1) := by omega
      rw [par_at (by omega) h5 h6]
      have h7 : (y - S n f k) / f = x - S n f (k + 1) := by
        apply Nat.div_eq_of_lt_le
        · omega
        · rw [Nat.add_mul, Nat.one_mul]; omega
      rw [h7]
      omega
  · intro hp
    by_cases hb : b = H n f
    · subst hb; rw [par_top b2 b3] at hp; omega
    · rw [par_at (by omega) b2 b3] at hp
      have hp' : S n f (b + 1) + (y - S n f b) / f = x := by omega
      have hlt := par_lt h b2 b3
      rw [hp'] at hlt
      obtain ⟨e1, e2⟩ := ch_at (k := b) (by omega) hlt.1 hlt.2
      have h8 : x - S n f (b + 1) = (y - S n f b) / f := by omega
      rw [e1, e2, h8]
      have h9 := Nat.div_mul_le_self (y - S n f b) f
      have h10 := Nat.lt_div_mul_add hf (a := y - S n f b)
      have h11 : S n f (b + 1) = S n f b + q n f b := rfl
      omega

end Go.Proofs.YtlockgfokfhokaaDoor


/-
  A net: its packets; how a list of them lies in memory; frames.
-/
import Derived.Test.YthbfeflijlcboaaB0
import Derived.Deep.DrawnRows
namespace Go.Proofs.Ythbfeflijlcboaa
open Go.RowKit
set_option linter.unusedVariables false
set_option linter.unusedSimpArgs false

def noBytes : ByteArray := ⟨#[]⟩
def wAt (W : List (Int × ByteArray)) (i : Nat) : Int × ByteArray := W[i]?.getD (0, noBytes)
theorem wAt_append_lt {W : List (Int × ByteArray)} {x} {i : Nat} (h : i < W.length) : wAt (W ++ [x]) i = wAt W i := by
  unfold wAt; rw [List.getElem?_append_left h]
theorem wAt_append_eq {W : List (Int × ByteArray)} {x} : wAt (W ++ [x]) W.length = x := by
  unfold wAt; simp

def puts (W : List (Int × ByteArray)) : List Value := W.flatMap fun x => [.int .i64 x.1, .string x.2]
theorem puts_length : ∀ W, (puts W).length = W.length * 2
  | [] => rfl
  | x :: W => by
    have := puts_length W
    simp [puts] at this ⊢
    omega
theorem puts_append (W X) : puts (W ++ X) = puts W ++ puts X := by simp [puts]
theorem puts_at : ∀ (W : List (Int × ByteArray)) (i : Nat), i < W.length → (puts W)[i * 2]? = some (.int .i64 (wAt W i).1) ∧ (puts W)[i * 2 + 1]? = some (.string (wAt W i).2)
  | [], i, h => by simp at h
  | x :: W, 0, h => ⟨rfl, rfl⟩
  | x :: W, i + 1, h => by
    have := puts_at W i (by simpa using h)
    have e : puts (x :: W) = .int .i64 x.1 :: .string x.2 :: puts W := by simp [puts]
    rw [e, show (i + 1) * 2 = i * 2 + 2 from by omega, show i * 2 + 2 + 1 = i * 2 + 1 + 2 from by omega]
    exact this
theorem puts_one (W) : ∀ u ∈ puts W, u.oneCell' = true := by
  intro u hu
  simp only [puts, List.mem_flatMap] at hu
  obtain ⟨x, _, hu⟩ := hu
  simp at hu
  rcases hu with rfl | rfl <;> rfl

theorem Try.infoPk : (Try.prog.info? 41).map (fun i => (i.zero, i.size, i.bytes)) = some (some (.agg #[.int .i64 0, .string noBytes]), 2, 24) := by kernel_rfl

/-! ### frames -/
structure Fr (A : Nat → Prop) (w w' : World) : Prop where
  os : w'.os = w.os
  tape : w'.tape = w.tape
  output : w'.output = w.output
  size : w.heap.size ≤ w'.heap.size
  block : ∀ k, k < w.heap.size → ¬ A k → w'.heap[k]? = w.heap[k]?

theorem Fr.refl (A w) : Fr A w w := ⟨rfl, rfl, rfl, Nat.le_refl _, fun _ _ _ => rfl⟩
theorem Fr.trans {A A' : Nat → Prop} {a b c : World} (h : Fr A a b) (k : Fr A' b c) (hs : ∀ i, A' i → A i ∨ a.heap.size ≤ i) : Fr A a c :=
  ⟨k.os.trans h.os, k.tape.trans h.tape, k.output.trans h.output, Nat.le_trans h.size k.size, fun i hi hne =>
    (k.block i (Nat.lt_of_lt_of_le hi h.size) (fun e => by rcases hs i e with e | e; exact hne e; omega)).trans (h.block i hi hne)⟩
theorem Fr.mono {A A' : Nat → Prop} {w w' : World} (h : Fr A w w') (hs : ∀ i, A i → A' i) : Fr A' w w' := ⟨h.os, h.tape, h.output, h.size, fun i hi hn => h.block i hi fun e => hn (hs i e)⟩
theorem Fr.of_below {A : Nat → Prop} {w w' : World} (h : Below w.heap.size w w') : Fr A w w' := ⟨h.os, h.tape, h.output, h.size, fun k hk _ => h.block k hk⟩
theorem Fr.below {A : Nat → Prop} {B : Nat} {w w' : World} (h : Fr A w w') (hB : ∀ k, A k → B ≤ k) (hs : B ≤ w.heap.size) : Below B w w' :=
  ⟨h.os, h.tape, h.output, h.size, fun k hk => h.block k (by omega) fun e => by have := hB k e; omega⟩
theorem Fr.drew {A : Nat → Prop} {w w' : World} (h : Fr A w w') : Fr A w w'.drew := ⟨h.os, h.tape, h.output, h.size, h.block⟩
theorem Fr.drewN {A : Nat → Prop} {w w' : World} (h : Fr A w w') (n : Nat) : Fr A w (w'.drewN n) := ⟨h.os, h.tape, h.output, h.size, h.block⟩
theorem Fr.set {A : Nat → Prop} {w w' : World} (h : Fr A w w') {p i : Nat} {u : Value} (hp : A p ∨ w.heap.size ≤ p) : Fr A w (w'.setCell ⟨p, i, none⟩ u) :=
  ⟨h.os, h.tape, h.output, by simpa [World.setCell] using h.size, fun k hk hne => by
    rw [Below.heap_setCell _ _ _ _ (fun e => by simp at e; subst e; rcases hp with hp | hp; exact hne hp; omega)]; exact h.block k hk hne⟩
theorem Fr.alloc {A : Nat → Prop} {w w' : World} (h : Fr A w w') (o : Obj) : Fr A w (w'.alloc o) :=
  ⟨h.os, h.tape, h.output, by have := h.size; simp; omega, fun k hk hne => by rw [Below.heap_alloc _ _ _ (Nat.lt_of_lt_of_le hk h.size)]; exact h.block k hk hne⟩
theorem Fr.grown {A : Nat → Prop} {w w' w'' : World} {row : Option Nat} (h : Fr A w w') (g : w'.grownBy w'' row) (hr : ∀ k, row = some k → A k ∨ w.heap.size ≤ k) : Fr A w w'' :=
  ⟨g.os.trans h.os, g.tape.trans h.tape, g.output.trans h.output, Nat.le_trans h.size g.size, fun k hk hne =>
    (g.block k (Nat.lt_of_lt_of_le hk h.size) (fun e => by rcases hr k e.symm with e | e; exact hne e; omega)).trans (h.block k hk hne)⟩

theorem owns_kept {w w' : World} {B e size n : Nat} {v : Value} {xs : List Value} (h : w.ownsRow B e size v n xs) (hk : ∀ k, v.ownBlock = some k → w'.heap[k]? = w.heap[k]?) : w'.ownsRow B e size v n xs := by
  refine ⟨h.1, ?_⟩
  rcases h.2 with hn | ⟨g, cap, cur, rfl, hb, hgg, rest⟩
  · exact .inl hn
  · exact .inr ⟨g, cap, cur, rfl, hb, by rw [hk g rfl]; exact hgg, rest⟩

theorem owns_type {w : World} {B e size n : Nat} {v : Value} {xs : List Value} (h : w.ownsRow B e size v n xs) {k : Nat} (hk : v.ownBlock = some k) : ∃ cur, w.heap[k]? = some (.cells cur e (0, 0)) := by
  rcases h.2 with ⟨rfl, _⟩ | ⟨g, cap, cur, rfl, hb, hgg, _⟩
  · simp [Value.ownBlock] at hk
  · simp [Value.ownBlock] at hk
    subst hk
    exact ⟨cur, hgg⟩

theorem owns_shape1 {w : World} {B n : Nat} {v : Value} {e size : Nat} {xs : List Value} (h : w.ownsRow B e size v n xs) : ∃ a c, v = .slice a n c ∧ n ≤ c ∧ c ≤ maxLen ∧ (0 < n → ∃ g, a = some ⟨g, 0, none⟩ ∧ v.ownBlock = some g ∧ B ≤ g ∧ g < w.heap.size) := by
  have H := h
  obtain ⟨_, h2⟩ := h
  rcases h2 with ⟨rfl, rfl⟩ | ⟨g, cap, cur, rfl, hB, hh, hle, hm, _, _⟩
  · exact ⟨none, 0, rfl, Nat.le_refl _, by unfold maxLen; omega, fun h => by omega⟩
  · exact ⟨_, _, rfl, hle, hm, fun _ => ⟨g, rfl, rfl, hB, (H.lt g rfl).2⟩⟩

/-- One cell of a row is another one. -/
theorem owns_set {w : World} {B e size n : Nat} {v : Value} {xs : List Value} (h : w.ownsRow B e size v n xs) {g j : Nat} (hg : v.ownBlock = some g) (u : Value) (hj : j < xs.length) :
    (w.setCell ⟨g, j, none⟩ u).ownsRow B e size v n (xs.set j u) := by
  obtain ⟨h1, h2⟩ := h
  refine ⟨by simpa using h1, ?_⟩
  rcases h2 with ⟨rfl, _⟩ | ⟨g', cap, cur, rfl, hB, hh, hle, hm, hc, ht⟩
  · simp [Value.ownBlock] at hg
  · simp [Value.ownBlock] at hg
    subst hg
    refine .inr ⟨g', cap, cur.setIfInBounds j u, rfl, hB, blk_setCell hh, hle, hm, by simpa using hc, ?_⟩
    rw [← ht]
    simp only [Array.toList_setIfInBounds]
    rw [List.take_set]

theorem owns_set_other {w : World} {B e size n : Nat} {v : Value} {xs : List Value} (h : w.ownsRow B e size v n xs) {g j : Nat} (hg : v.ownBlock ≠ some g) (u : Value) :
    (w.setCell ⟨g, j, none⟩ u).ownsRow B e size v n xs :=
  h.kept (gb_setCell (World.grownBy.refl _ _)) (.inr hg)

theorem owns_drew {w : World} {B e size n : Nat} {v : Value} {xs : List Value} (h : w.ownsRow B e size v n xs) : w.drew.ownsRow B e size v n xs := owns_kept h fun _ _ => rfl

theorem owns_free {w : World} {B e size n : Nat} {v : Value} {xs : List Value} (h : w.ownsRow B e size v n xs) {g : Nat} (hg : v.ownBlock = some g) (j : Nat) : w.frozen? ⟨g, j, none⟩ = false := by
  obtain ⟨cur, hc⟩ := owns_type h hg
  exact free_of_blk hc j

theorem owns_cell {w : World} {B e size n : Nat} {v : Value} {xs : List Value} (h : w.ownsRow B e size v n xs) {g : Nat} (hg : v.ownBlock = some g) (j : Nat) (u : Value) (hu : xs[j]? = some u) : w.cell? ⟨g, j, none⟩ = some u := by
  have := h.cells hg j u hu
  rwa [Addr.add_none, Nat.zero_add] at this

end Go.Proofs.Ythbfeflijlcboaa


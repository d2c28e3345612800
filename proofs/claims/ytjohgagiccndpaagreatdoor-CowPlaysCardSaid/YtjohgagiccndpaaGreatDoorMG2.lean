/-
  Texts put together: G7, G8, G9, GA, GB, GC.
-/
import Derived.Test.YtjohgagiccndpaaGreatDoorMG
/-
  Contract of the program's Parent.
-/
namespace Go.Proofs.YtjohgagiccndpaaGreatDoor
open Go.RowKit
set_option linter.unusedVariables false
set_option linter.unusedSimpArgs false

theorem level_cases (N F C U node : Int) :
    (lvo (pre (levels N F C U)) node (levels N F C U).length 0 = -1 ∧ parent N F C U node = -1 ∧ children N F C U node = [] ∧ ¬ (okG N F C U ∧ 0 ≤ node ∧ node < (nodes N F C U : Int))) ∨
    ∃ n f j x : Nat, N = n ∧ F = f ∧ node = x ∧ Ok n f ∧ okG N F C U ∧ j ≤ H n f ∧ S n f j ≤ x ∧ x < S n f (j + 1) ∧ lvo (pre (levels N F C U)) node (levels N F C U).length 0 = (j : Int) ∧
      levels N F C U = lev n f (H n f) ∧ parent N F C U node = par n f x ∧ children N F C U node = ch n f x ∧ height N F C U = H n f ∧ nodes N F C U = S n f (H n f + 1) := by
  by_cases h : okG N F C U
  · obtain ⟨n, f, rfl, rfl, hh⟩ := ok_of h
    have e : levels n f C U = lev n f (H n f) := by unfold levels; rw [if_pos h]; rfl
    have e2 : nodes n f C U = S n f (H n f + 1) := by unfold nodes; rw [if_pos h]; rfl
    have e3 : height n f C U = H n f := by unfold height; rw [if_pos h]; rfl
    rw [e, lev_length, e2]
    rcases lvo_spec (pre (lev n f (H n f))) node (H n f + 1) 0 with ⟨h1, h2⟩ | ⟨j, h1, h2, h3, h4, h5⟩
    · left
      have hout : ¬ (0 ≤ node ∧ node < (S n f (H n f + 1) : Nat)) := by
        rintro ⟨g1, g2⟩
        have hx := lvl_spec (n := n) (f := f) (x := node.toNat) (by omega)
        refine h2 (lvl n f node.toNat) (Nat.zero_le _) (by omega) ?_
        rw [lev_pre _ _ _ _ (by omega), lev_pre _ _ _ _ (by omega)]
        omega
      refine ⟨h1, ?_, ?_, fun g => hout g.2⟩
      · unfold parent; rw [if_neg (fun g => hout g.2)]
      · unfold children; rw [if_neg (fun g => hout g.2)]
    · right
      rw [lev_pre _ _ _ _ (by omega)] at h4
      rw [lev_pre _ _ _ _ (by omega)] at h5
      have hS := @S_mono n f (j + 1) (H n f + 1) (by omega)
      have hin : okG (n : Int) (f : Int) C U ∧ 0 ≤ node ∧ node < (S n f (H n f + 1) : Nat) := ⟨h, by omega, by omega⟩
      refine ⟨n, f, j, node.toNat, rfl, rfl, by omega, hh, h, by omega, by omega, by omega, h3, rfl, ?_, ?_, e3, rfl⟩
      · exact if_pos hin
      · exact if_pos hin
  · left
    have e : levels N F C U = [] := by unfold levels; rw [if_neg h]
    rw [e]
    refine ⟨rfl, ?_, ?_, fun g => h g.1⟩
    · unfold parent; rw [if_neg (fun g => h g.1)]
    · unfold children; rw [if_neg (fun g => h g.1)]


end Go.Proofs.YtjohgagiccndpaaGreatDoor
/-
  Contract of the program's Children.
-/
namespace Go.Proofs.YtjohgagiccndpaaGreatDoor
open Go.RowKit
set_option linter.unusedVariables false
set_option linter.unusedSimpArgs false

/-- The numbers from A on, i of them. -/
def rng (A i : Nat) : List Int := (List.range i).map (fun j => ((A + j : Nat) : Int))
theorem rng_next (A i : Nat) : rng A (i + 1) = rng A i ++ [((A + i : Nat) : Int)] := by simp [rng, List.range_succ]
theorem rng_length (A i : Nat) : (rng A i).length = i := by simp [rng]


end Go.Proofs.YtjohgagiccndpaaGreatDoor
/-
  Contract of the program's Path.
-/
namespace Go.Proofs.YtjohgagiccndpaaGreatDoor
open Go.RowKit
set_option linter.unusedVariables false
set_option linter.unusedSimpArgs false

/-- The k-th node of a path, and -1 behind the root. -/
def pv (n f x k : Nat) : Int := if k ≤ H n f then (pth n f x k : Int) else -1
/-- The first i nodes of a path. -/
def pl (n f x i : Nat) : List Int := (List.range i).map (fun k => (pth n f x k : Int))
theorem pl_next (n f x i : Nat) : pl n f x (i + 1) = pl n f x i ++ [(pth n f x i : Int)] := by simp [pl, List.range_succ]
theorem pl_length (n f x i : Nat) : (pl n f x i).length = i := by simp [pl]
def pm (z : Int) : Nat := if z < 0 then 0 else 256 - z.toNat

theorem parent_pth {n f x k : Nat} {C U : Int} (h : Ok n f) (hok : okG n f C U) (hx : x < n) (hk : k ≤ H n f) :
    parent n f C U (pth n f x k) = pv n f x (k + 1) ∧ pth n f x k < 256 ∧ pm (pv n f x (k + 1)) < pm (pth n f x k) := by
  have hp := pth_lt h hx k
  have hs := @S_mono n f (k + 1) (H n f + 1) (by omega)
  have hs8 := S_le h
  have hin : okG (n : Int) (f : Int) C U ∧ 0 ≤ (pth n f x k : Int) ∧ (pth n f x k : Int) < (S n f (H n f + 1) : Nat) := ⟨hok, by omega, by omega⟩
  have e1 : parent n f C U (pth n f x k) = par n f (pth n f x k) := if_pos hin
  by_cases hk2 : k < H n f
  · have hq := pth_lt h hx (k + 1)
    have hs2 := @S_mono n f (k + 2) (H n f + 1) (by omega)
    have e3 : pv n f x (k + 1) = (pth n f x (k + 1) : Int) := if_pos hk2
    refine ⟨?_, by omega, ?_⟩
    · rw [e1, par_at hk2 hp.1 hp.2, e3]
      rfl
    · rw [e3]; unfold pm
      rw [if_neg (by omega), if_neg (by omega)]
      omega
  · obtain rfl : k = H n f := by omega
    have e3 : pv n f x (H n f + 1) = -1 := if_neg (by omega)
    refine ⟨?_, by omega, ?_⟩
    · rw [e1, par_top hp.1 hp.2, e3]
    · rw [e3]; unfold pm
      rw [if_pos (by omega), if_neg (by omega)]
      omega


end Go.Proofs.YtjohgagiccndpaaGreatDoor
/-
  Contract of the reference's Children.
-/
namespace Go.Proofs.YtjohgagiccndpaaGreatDoor
open Go.RowKit
set_option linter.unusedVariables false
set_option linter.unusedSimpArgs false

theorem children_in {n f : Nat} {C U node : Int} (h : Ok n f) (hok : okG n f C U) (i : Nat) (hi : i < H n f) (h1 : (S n f (i + 1) : Int) ≤ node) (h2 : node < (S n f (i + 2) : Int)) :
    ∃ x : Nat, node = x ∧ S n f (i + 1) ≤ x ∧ x ≤ 255 ∧ children n f C U node = rng (S n f i + (x - S n f (i + 1)) * f) (min f (q n f i - (x - S n f (i + 1)) * f)) := by
  have hm := @S_mono n f (i + 2) (H n f + 1) (by omega)
  have h8 := S_le h
  have hin : okG (n : Int) (f : Int) C U ∧ 0 ≤ node ∧ node < (S n f (H n f + 1) : Nat) := ⟨hok, by omega, by omega⟩
  have e : children n f C U node = ch n f node.toNat := if_pos hin
  obtain ⟨e1, e2⟩ := ch_at (n := n) (f := f) (x := node.toNat) (k := i) hi (by omega) (by omega)
  have e3 : S n f (i + 1) = S n f i + q n f i := rfl
  refine ⟨node.toNat, by omega, by omega, by omega, ?_⟩
  rw [e]
  unfold ch rng
  rw [e1, e2]
  congr 2
  omega

theorem children_out {n f : Nat} {C U node : Int} (h : Ok n f) (hno : ∀ i, i < H n f → ¬ ((S n f (i + 1) : Int) ≤ node ∧ node < (S n f (i + 2) : Int))) : children n f C U node = [] := by
  by_cases hin : okG (n : Int) (f : Int) C U ∧ 0 ≤ node ∧ node < (S n f (H n f + 1) : Nat)
  · have e : children n f C U node = ch n f node.toNat := if_pos hin
    have hl := lvl_spec (n := n) (f := f) (x := node.toNat) (by omega)
    rw [e]
    rcases Nat.eq_zero_or_pos (lvl n f node.toNat) with h0 | h0
    · refine ch_leaf ?_
      rw [h0] at hl
      exact hl.2.2
    · obtain ⟨k, hk⟩ : ∃ k, lvl n f node.toNat = k + 1 := ⟨lvl n f node.toNat - 1, by omega⟩
      rw [hk] at hl
      have l1 : S n f (k + 1) ≤ node.toNat := hl.2.1
      have l2 : node.toNat < S n f (k + 2) := hl.2.2
      exact absurd ⟨by omega, by omega⟩ (hno k (by omega))
  · exact if_neg hin


end Go.Proofs.YtjohgagiccndpaaGreatDoor
/-
  Contract of the reference's Parent.
-/
namespace Go.Proofs.YtjohgagiccndpaaGreatDoor
open Go.RowKit
set_option linter.unusedVariables false
set_option linter.unusedSimpArgs false

theorem ch_mem {n f k : Nat} (i : Nat) : i < (ch n f k).length → (ch n f k)[i]?.getD 0 = ((chA n f k + i : Nat) : Int) ∧ i < chNG n f k := by
  intro h
  have h' : i < chNG n f k := by simpa [ch] using h
  exact ⟨by simp [ch, List.getElem?_map, List.getElem?_range h'], h'⟩

theorem chA_top {n f k : Nat} (h : Ok n f) (hk : k < S n f (H n f + 1)) (j : Nat) (hj : j < chNG n f k) : chA n f k + j < S n f (H n f + 1) := by
  obtain ⟨a1, a2, a3⟩ := lvl_spec hk
  have hm := @S_mono n f (lvl n f k) (H n f + 1) (by omega)
  unfold chNG at hj
  split at hj <;> omega

theorem parent_child {N F C U : Int} {node : Int} {k i : Nat} (hk : k < nodes N F C U) (hi : i < (children N F C U k).length) (he : (children N F C U k)[i]?.getD 0 = node) : parent N F C U node = (k : Int) := by
  by_cases hok : okG N F C U
  · obtain ⟨n, f, rfl, rfl, ho⟩ := ok_of hok
    have e2 : nodes n f C U = S n f (H n f + 1) := if_pos hok
    rw [e2] at hk
    have hin : okG (n : Int) (f : Int) C U ∧ 0 ≤ (k : Int) ∧ (k : Int) < (S n f (H n f + 1) : Nat) := ⟨hok, by omega, by omega⟩
    have e : children n f C U k = ch n f k := if_pos hin
    rw [e] at hi he
    obtain ⟨h1, h2⟩ := ch_mem i hi
    rw [h1] at he
    subst he
    have h3 := chA_top ho hk i h2
    have hin2 : okG (n : Int) (f : Int) C U ∧ 0 ≤ ((chA n f k + i : Nat) : Int) ∧ ((chA n f k + i : Nat) : Int) < (S n f (H n f + 1) : Nat) := ⟨hok, by omega, by omega⟩
    have e3 : parent n f C U ((chA n f k + i : Nat) : Int) = par n f (chA n f k + i) := if_pos hin2
    rw [e3]
    exact (family ho hk h3).1 ⟨by omega, by omega⟩
  · have e2 : nodes N F C U = 0 := if_neg hok
    omega

theorem parent_none {N F C U : Int} {node : Int} (hno : ∀ k, k < nodes N F C U → ∀ i, i < (children N F C U k).length → (children N F C U k)[i]?.getD 0 ≠ node) : parent N F C U node = -1 := by
  rcases level_cases N F C U node with ⟨-, h2, -⟩ | ⟨n, f, j, x, rfl, rfl, rfl, ho, hok, hj, hx1, hx2, -, -, h2, -, -, h4⟩
  · exact h2
  · rw [h2]
    by_cases hjH : j = H n f
    · subst hjH; exact par_top hx1 hx2
    · exfalso
      have hp := par_at (by omega) hx1 hx2
      have hlt := par_lt ho hx1 hx2
      generalize S n f (j + 1) + (x - S n f j) / f = p at *
      have hm := @S_mono n f (j + 2) (H n f + 1) (by omega)
      have hm2 := @S_mono n f (j + 1) (H n f + 1) (by omega)
      have hpl : p < S n f (H n f + 1) := by omega
      obtain ⟨c1, c2⟩ := (family ho hpl (by omega)).2 hp
      have hin : okG (n : Int) (f : Int) C U ∧ 0 ≤ (p : Int) ∧ (p : Int) < (S n f (H n f + 1) : Nat) := ⟨hok, by omega, by omega⟩
      have e : children n f C U p = ch n f p := if_pos hin
      have hl : (ch n f p).length = chNG n f p := by simp [ch]
      have := hno p (by omega) (x - chA n f p) (by rw [e, hl]; omega)
      rw [e] at this
      have h1 := (ch_mem (n := n) (f := f) (k := p) (x - chA n f p) (by omega)).1
      rw [h1] at this
      exact this (by omega)

theorem children_len (N F C U node : Int) : (children N F C U node).length ≤ 4 := by
  unfold children
  split
  · rename_i h
    obtain ⟨n, f, rfl, rfl, ho⟩ := ok_of h.1
    have := ho.f2
    simp only [Int.toNat_natCast, ch, List.length_map, List.length_range]
    unfold chNG
    split <;> omega
  · simp

theorem nodes_le (N F C U : Int) : nodes N F C U ≤ 255 := by have := levels_pre N F C U; have := this.2.1 _ (Nat.le_refl _); omega


end Go.Proofs.YtjohgagiccndpaaGreatDoor
/-
  Contract of the reference's Path.
-/
namespace Go.Proofs.YtjohgagiccndpaaGreatDoor
open Go.RowKit
set_option linter.unusedVariables false
set_option linter.unusedSimpArgs false


end Go.Proofs.YtjohgagiccndpaaGreatDoor

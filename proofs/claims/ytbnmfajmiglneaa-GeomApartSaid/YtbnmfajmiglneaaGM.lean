/-
  Places that are unlike: which have been used.
-/
import Derived.Test.YtbnmfajmiglneaaGK
namespace Go.Proofs.Ytbnmfajmiglneaa
open Go.RowKit
set_option linter.unusedVariables false
set_option linter.unusedSimpArgs false

/-- The places that are looked at. -/
def TT : Nat := 2000
theorem TT_eq : TT = 2000 := rfl

/-- Where the three parts of a disk begin, and how long they are. -/
def bs (n m : Nat) : Nat → Nat
  | 0 => 6
  | 1 => 6 + n
  | _ => 6 + n + m
def ln (n m s : Nat) : Nat → Nat
  | 0 => n
  | 1 => m
  | _ => s
/-- How many of a part have been used in round i, when k parts are gone over. -/
def cc (n m s i k t : Nat) : Nat := min (if t < k then i + 1 else i) (ln n m s t)
def cnt (n m s i k : Nat) : Nat := cc n m s i k 0 + cc n m s i k 1 + cc n m s i k 2
def used (n m s i k : Nat) : List Bool := (List.range TT).map (fun j => decide ((6 ≤ j ∧ j < 6 + cc n m s i k 0) ∨ (6 + n ≤ j ∧ j < 6 + n + cc n m s i k 1) ∨ (6 + n + m ≤ j ∧ j < 6 + n + m + cc n m s i k 2)))
/-- The place that is asked for. -/
def plc (n m s i k : Nat) : Int := if i < ln n m s k then ((bs n m k + i : Nat) : Int) else -1

theorem used_length (n m s i k : Nat) : (used n m s i k).length = TT := by simp [used]
theorem used_at {n m s i k j : Nat} (h : j < TT) : (used n m s i k)[j]?.getD false = decide ((6 ≤ j ∧ j < 6 + cc n m s i k 0) ∨ (6 + n ≤ j ∧ j < 6 + n + cc n m s i k 1) ∨ (6 + n + m ≤ j ∧ j < 6 + n + m + cc n m s i k 2)) := by
  simp [used, List.getElem?_map, List.getElem?_range h]

theorem cc_vals (n m s i k : Nat) : cc n m s i k 0 = min (if 0 < k then i + 1 else i) n ∧ cc n m s i k 1 = min (if 1 < k then i + 1 else i) m ∧ cc n m s i k 2 = min (if 2 < k then i + 1 else i) s := ⟨rfl, rfl, rfl⟩

theorem used_ext {n m s i k i' k' : Nat} (h : ∀ j, j < TT → (((6 ≤ j ∧ j < 6 + cc n m s i k 0) ∨ (6 + n ≤ j ∧ j < 6 + n + cc n m s i k 1) ∨ (6 + n + m ≤ j ∧ j < 6 + n + m + cc n m s i k 2)) ↔
    ((6 ≤ j ∧ j < 6 + cc n m s i' k' 0) ∨ (6 + n ≤ j ∧ j < 6 + n + cc n m s i' k' 1) ∨ (6 + n + m ≤ j ∧ j < 6 + n + m + cc n m s i' k' 2)))) : used n m s i k = used n m s i' k' := by
  unfold used
  apply List.map_congr_left
  intro j hj
  rw [decide_eq_decide]
  exact h j (by simpa using hj)

theorem used_start (n m s : Nat) : used n m s 0 0 = List.replicate TT false := by
  apply List.ext_getElem?
  intro j
  by_cases hj : j < TT
  · obtain ⟨e0, e1, e2⟩ := cc_vals n m s 0 0
    rw [List.getElem?_replicate, if_pos hj]
    simp only [used, List.getElem?_map, List.getElem?_range hj, Option.map_some]
    congr 1
    rw [decide_eq_false_iff_not, e0, e1, e2]
    simp
  · rw [List.getElem?_eq_none (by rw [used_length]; omega), List.getElem?_eq_none (by simp; omega)]

theorem k_cases {k : Nat} (h : k < 3) : k = 0 ∨ k = 1 ∨ k = 2 := by omega

theorem used_new {n m s i k : Nat} (hk : k < 3) (hi : i < ln n m s k) (hs : 6 + n + m + s ≤ TT) : bs n m k + i < 6 + n + m + s ∧ 6 ≤ bs n m k + i ∧ (used n m s i k)[bs n m k + i]?.getD false = false := by
  obtain ⟨e0, e1, e2⟩ := cc_vals n m s i k
  have hb : bs n m k + i < 6 + n + m + s ∧ 6 ≤ bs n m k + i := by
    rcases k_cases hk with rfl | rfl | rfl <;> simp only [bs, ln] at * <;> omega
  refine ⟨hb.1, hb.2, ?_⟩
  rw [used_at (by omega), decide_eq_false_iff_not, e0, e1, e2]
  rcases k_cases hk with rfl | rfl | rfl <;> simp only [bs, ln] at * <;> simp <;> omega

theorem used_set {n m s i k : Nat} (hk : k < 3) (hi : i < ln n m s k) (hs : 6 + n + m + s ≤ TT) : (used n m s i k).set (bs n m k + i) true = used n m s i (k + 1) ∧ cnt n m s i (k + 1) = cnt n m s i k + 1 := by
  obtain ⟨e0, e1, e2⟩ := cc_vals n m s i k
  obtain ⟨f0, f1, f2⟩ := cc_vals n m s i (k + 1)
  refine ⟨?_, ?_⟩
  · apply List.ext_getElem?
    intro j
    obtain ⟨hb, _, _⟩ := used_new hk hi hs
    rw [List.getElem?_set]
    by_cases hj : bs n m k + i = j
    · subst hj
      rw [if_pos rfl, if_pos (by rw [used_length]; omega)]
      simp only [used, List.getElem?_map, List.getElem?_range (show bs n m k + i < TT by omega), Option.map_some]
      refine congrArg some ?_
      symm
      rw [decide_eq_true_iff, f0, f1, f2]
      rcases k_cases hk with rfl | rfl | rfl <;> simp only [bs, ln] at * <;> simp <;> omega
    · rw [if_neg hj]
      by_cases hj2 : j < TT
      · simp only [used, List.getElem?_map, List.getElem?_range hj2, Option.map_some]
        refine congrArg some ?_
        rw [decide_eq_decide, e0, e1, e2, f0, f1, f2]
        rcases k_cases hk with rfl | rfl | rfl <;> simp only [bs, ln] at * <;> simp <;> omega
      · rw [List.getElem?_eq_none (by rw [used_length]; omega), List.getElem?_eq_none (by rw [used_length]; omega)]
  · unfold cnt
    rw [e0, e1, e2, f0, f1, f2]
    rcases k_cases hk with rfl | rfl | rfl <;> simp only [bs, ln] at * <;> simp <;> omega

theorem used_skip {n m s i k : Nat} (hk : k < 3) (hi : ¬ i < ln n m s k) : used n m s i k = used n m s i (k + 1) ∧ cnt n m s i (k + 1) = cnt n m s i k := by
  obtain ⟨e0, e1, e2⟩ := cc_vals n m s i k
  obtain ⟨f0, f1, f2⟩ := cc_vals n m s i (k + 1)
  refine ⟨used_ext fun j hj => ?_, ?_⟩
  · rw [e0, e1, e2, f0, f1, f2]
    rcases k_cases hk with rfl | rfl | rfl <;> simp only [bs, ln] at * <;> simp <;> omega
  · unfold cnt
    rw [e0, e1, e2, f0, f1, f2]
    rcases k_cases hk with rfl | rfl | rfl <;> simp only [bs, ln] at * <;> simp <;> omega

theorem used_next (n m s i : Nat) : used n m s i 3 = used n m s (i + 1) 0 ∧ cnt n m s i 3 = cnt n m s (i + 1) 0 := ⟨rfl, rfl⟩

theorem cnt_end {n m s : Nat} (hs : 6 + n + m + s ≤ TT) : cnt n m s TT 0 = n + m + s := by
  obtain ⟨e0, e1, e2⟩ := cc_vals n m s TT 0
  unfold cnt
  rw [e0, e1, e2]
  simp
  omega

theorem cnt_le {n m s i k : Nat} : cnt n m s i k ≤ n + m + s := by
  obtain ⟨e0, e1, e2⟩ := cc_vals n m s i k
  unfold cnt
  rw [e0, e1, e2]
  omega

end Go.Proofs.Ytbnmfajmiglneaa

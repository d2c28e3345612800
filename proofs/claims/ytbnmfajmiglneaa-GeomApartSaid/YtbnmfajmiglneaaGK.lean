/-
  Families: which nodes have been seen as children; rows of truths.
-/
import Derived.Test.YtbnmfajmiglneaaGG
namespace Go.Proofs.Ytbnmfajmiglneaa
open Go.RowKit
set_option linter.unusedVariables false
set_option linter.unusedSimpArgs false

def blv (xs : List Bool) : List Value := xs.map Value.bool
theorem blv_at (xs : List Bool) (j : Nat) (h : j < xs.length) : (blv xs)[j]? = some (.bool (xs[j]?.getD false)) := by
  simp [blv, List.getElem?_eq_getElem h]
theorem blv_set (xs : List Bool) (j : Nat) (b : Bool) : (blv xs).set j (.bool b) = blv (xs.set j b) := by simp [blv, List.map_set]

theorem Try.info4 : (Try.prog.info? 4).map (fun i => (i.zero, i.size, i.bytes)) = some (some (.bool false), 1, 1) := by kernel_rfl

theorem bmake (n : Nat) (h : n ≤ 1000000) (w : World) :
    (Instr.makeSlice 35 (.int .i64 (n : Int)) (.int .i64 (n : Int))).run Try.prog w = .ok (.slice (some ⟨w.heap.size, 0, none⟩) n n) (w.alloc (.cells (madeCells #[.bool false] n) 4)) :=
  run_make_row' 35 4 (.bool false) 1 Try.underlying35 Try.info4 rfl .i64 .i64 n (by omega) (by omega) w

theorem bowns (w : World) (n : Nat) (h : n ≤ 1000000) : (w.alloc (.cells (madeCells #[.bool false] n) 4)).ownsRow w.heap.size 4 1 (.slice (some ⟨w.heap.size, 0, none⟩) n n) n (blv (List.replicate n false)) := by
  have hl : (madeCells #[Value.bool false] n).toList = List.replicate n (.bool false) := toList_madeCells_one _ _
  have hs : (madeCells #[Value.bool false] n).size = n := by
    have := congrArg List.length hl
    simpa using this
  refine ⟨by simp [blv], .inr ⟨w.heap.size, n, _, rfl, Nat.le_refl _, heap_alloc_new _ _, Nat.le_refl _, by unfold maxLen; omega, by rw [hs]; omega, ?_⟩⟩
  rw [hl]
  simp [blv]

theorem q_down {n f : Nat} (h : Ok n f) (i : Nat) : (q n f (i + 1) - 1) * f < q n f i := by
  have hp := q_pos h i
  have h1 := h.f1
  have h2 := h.f2
  show ((q n f i + f - 1) / f - 1) * f < q n f i
  generalize q n f i = m at *
  rcases (by omega : f = 2 ∨ f = 3 ∨ f = 4) with rfl | rfl | rfl <;> omega

theorem chN_le {n f : Nat} (h : Ok n f) (k : Nat) : chN n f k ≤ f := by unfold chN; split <;> omega

theorem chN_zero {n f k : Nat} (h : Ok n f) (hk : k < S n f (H n f + 1)) : chN n f k = 0 ↔ k < n := by
  obtain ⟨a1, a2, a3⟩ := lvl_spec hk
  have hS1 : S n f 1 = n := by show 0 + n = n; omega
  have hf1 := h.f1
  constructor
  · intro h0
    rcases Nat.lt_or_ge k n with g | g
    · exact g
    · exfalso
      rcases Nat.eq_zero_or_pos (lvl n f k) with e | e
      · rw [e] at a3
        have : k < S n f 1 := a3
        omega
      · obtain ⟨i, hi⟩ : ∃ i, lvl n f k = i + 1 := ⟨lvl n f k - 1, by omega⟩
        rw [hi] at a1 a2 a3
        obtain ⟨e1, e2⟩ := ch_at (k := i) (by omega) a2 a3
        rw [e2] at h0
        have hd := q_down h i
        have e3 : S n f (i + 1) = S n f i + q n f i := rfl
        have e4 : S n f (i + 1 + 1) = S n f (i + 1) + q n f (i + 1) := rfl
        have hdle : k - S n f (i + 1) ≤ q n f (i + 1) - 1 := by omega
        have hm := Nat.mul_le_mul_right f hdle
        omega
  · intro hkn
    have hl : lvl n f k = 0 := lvl_at (Nat.zero_le _) (Nat.zero_le _) (by show k < S n f 1; omega)
    unfold chN
    rw [if_pos hl]

/-- What a child of node k is. -/
theorem child {n f k i : Nat} (h : Ok n f) (hk : k < S n f (H n f + 1)) (hi : i < chN n f k) :
    chA n f k + i < k ∧ chA n f k + i < S n f (H n f + 1) ∧ par n f (chA n f k + i) = (k : Int) := by
  have h3 := chA_top h hk i hi
  refine ⟨?_, h3, (family h hk h3).1 ⟨by omega, by omega⟩⟩
  obtain ⟨a1, a2, a3⟩ := lvl_spec hk
  unfold chN at hi
  split at hi <;> omega

theorem par_some {n f k : Nat} (h : Ok n f) (hk : k + 1 < S n f (H n f + 1)) : ∃ p : Nat, par n f k = (p : Int) ∧ p < S n f (H n f + 1) := by
  obtain ⟨a1, a2, a3⟩ := lvl_spec (n := n) (f := f) (x := k) (by omega)
  have hq := (H_spec h).2.1
  have e1 : S n f (H n f + 1) = S n f (H n f) + q n f (H n f) := rfl
  by_cases hl : lvl n f k = H n f
  · rw [hl] at a2; omega
  · have hp := par_lt h a2 a3
    have hm := @S_mono n f (lvl n f k + 2) (H n f + 1) (by omega)
    exact ⟨_, par_at (by omega) a2 a3, by omega⟩

/-- Which nodes have been seen when k nodes, and of the next i children, are gone over. -/
def seen (n f k i : Nat) : List Bool := (List.range (S n f (H n f + 1))).map (fun j => decide (0 ≤ par n f j ∧ par n f j < (k : Int)) || decide (chA n f k ≤ j ∧ j < chA n f k + i))

theorem seen_length (n f k i : Nat) : (seen n f k i).length = S n f (H n f + 1) := by simp [seen]
theorem seen_at {n f k i j : Nat} (h : j < S n f (H n f + 1)) : (seen n f k i)[j]?.getD false = (decide (0 ≤ par n f j ∧ par n f j < (k : Int)) || decide (chA n f k ≤ j ∧ j < chA n f k + i)) := by
  simp [seen, List.getElem?_map, List.getElem?_range h]

theorem seen_start (n f : Nat) : seen n f 0 0 = List.replicate (S n f (H n f + 1)) false := by
  apply List.ext_getElem?
  intro j
  by_cases hj : j < S n f (H n f + 1)
  · rw [List.getElem?_replicate, if_pos hj]
    simp only [seen, List.getElem?_map, List.getElem?_range hj, Option.map_some]
    congr 1
    simp
  · rw [List.getElem?_eq_none (by rw [seen_length]; omega), List.getElem?_eq_none (by simp; omega)]

theorem seen_new {n f k i : Nat} (h : Ok n f) (hk : k < S n f (H n f + 1)) (hi : i < chN n f k) : (seen n f k i)[chA n f k + i]?.getD false = false := by
  obtain ⟨c1, c2, c3⟩ := child h hk hi
  rw [seen_at c2, c3]
  simp

theorem seen_set {n f k i : Nat} (h : Ok n f) (hk : k < S n f (H n f + 1)) (hi : i < chN n f k) : (seen n f k i).set (chA n f k + i) true = seen n f k (i + 1) := by
  obtain ⟨c1, c2, c3⟩ := child h hk hi
  apply List.ext_getElem?
  intro j
  rw [List.getElem?_set]
  by_cases hj : chA n f k + i = j
  · subst hj
    rw [if_pos rfl, if_pos (by rw [seen_length]; exact c2)]
    simp only [seen, List.getElem?_map, List.getElem?_range c2, Option.map_some]
    congr 1
    simp
  · rw [if_neg hj]
    by_cases hj2 : j < S n f (H n f + 1)
    · simp only [seen, List.getElem?_map, List.getElem?_range hj2, Option.map_some]
      congr 2
      rw [decide_eq_decide]
      omega
    · rw [List.getElem?_eq_none (by rw [seen_length]; omega), List.getElem?_eq_none (by rw [seen_length]; omega)]

theorem seen_next {n f k : Nat} (h : Ok n f) (hk : k < S n f (H n f + 1)) : seen n f k (chN n f k) = seen n f (k + 1) 0 := by
  apply List.ext_getElem?
  intro j
  by_cases hj : j < S n f (H n f + 1)
  · have hf := family h hk hj
    simp only [seen, List.getElem?_map, List.getElem?_range hj, Option.map_some]
    congr 1
    rw [Bool.eq_iff_iff]
    simp only [Bool.or_eq_true, decide_eq_true_eq]
    rw [hf]
    omega
  · rw [List.getElem?_eq_none (by rw [seen_length]; omega), List.getElem?_eq_none (by rw [seen_length]; omega)]

theorem seen_all {n f k : Nat} (h : Ok n f) (hk : k + 1 < S n f (H n f + 1)) : (seen n f (S n f (H n f + 1)) 0)[k]?.getD false = true := by
  obtain ⟨p, h1, h2⟩ := par_some h hk
  rw [seen_at (by omega), h1]
  simp
  omega

/-- A path's ends. -/
theorem path_ends {n f x : Nat} (h : Ok n f) (hx : x < n) : pth n f x (H n f) = S n f (H n f + 1) - 1 := by
  have hp := pth_lt h hx (H n f)
  have hq := (H_spec h).2.1
  have e1 : S n f (H n f + 1) = S n f (H n f) + q n f (H n f) := rfl
  omega

theorem top_node {n f : Nat} {C U : Int} (h : Ok n f) (hok : okG n f C U) : parent n f C U ((S n f (H n f + 1) - 1 : Nat) : Int) = -1 := by
  have hq := (H_spec h).2.1
  have e1 : S n f (H n f + 1) = S n f (H n f) + q n f (H n f) := rfl
  have hin : okG (n : Int) (f : Int) C U ∧ 0 ≤ ((S n f (H n f + 1) - 1 : Nat) : Int) ∧ ((S n f (H n f + 1) - 1 : Nat) : Int) < (S n f (H n f + 1) : Nat) := ⟨hok, by omega, by omega⟩
  have e : parent n f C U ((S n f (H n f + 1) - 1 : Nat) : Int) = par n f (S n f (H n f + 1) - 1) := if_pos hin
  rw [e]
  exact par_top (by omega) (by omega)

theorem S_pos {n f : Nat} (h : Ok n f) : n ≤ S n f (H n f + 1) := by
  have := @S_mono n f 1 (H n f + 1) (by omega)
  have e : S n f 1 = n := by show 0 + n = n; omega
  omega

end Go.Proofs.Ytbnmfajmiglneaa

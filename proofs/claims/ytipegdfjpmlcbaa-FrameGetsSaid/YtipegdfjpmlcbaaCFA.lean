/-
  A frame is opened: the kind with digests in it: what the reader's answers say; more digests than four.
-/
import Derived.Test.YtipegdfjpmlcbaaCF9
namespace Go.Proofs.Ytipegdfjpmlcbaa
open Go.RowKit
set_option linter.unusedVariables false
set_option linter.unusedSimpArgs false

theorem rb_stuck (ys : List UInt8) {e : Int} (m : Int) (he : e ≠ 0) : rbytes ys e m = ([], ys, e) := by simp [rbytes, he]
theorem chunk_stuck (ys : List UInt8) {e : Int} (he : e ≠ 0) : ∀ k, (chunk ys e k).2 = (ys, e)
  | 0 => rfl
  | k + 1 => by
    have h := chunk_stuck ys he k
    rw [chunk_succ]
    simp only [h, rb_stuck ys 32 he]
theorem nums4 {xs y1 y2 : List UInt8} {v1 v2 : Nat} {e1 e2 : Int} (h1 : rnum xs 0 2 = (v1, y1, e1)) (h2 : rnum y1 e1 1 = (v2, y2, e2)) : (e2 = 0 → 3 ≤ xs.length ∧ v1 = numN (xs.take 2) ∧ v2 = numN ((xs.drop 2).take 1) ∧ y2 = xs.drop 3) ∧ (e2 ≠ 0 → xs.length < 3) := by
  refine ⟨fun h0 => ?_, fun h0 => ?_⟩
  · obtain ⟨a1, l2, d2, m2⟩ := rn_ok 1 1 rfl (by omega) (by omega) h2 h0
    obtain ⟨_, l1, d1, m1⟩ := rn_ok 2 2 rfl (by omega) (by omega) h1 a1
    rw [m1] at l2 d2 m2
    simp at l2
    exact ⟨by omega, d1, d2, by rw [m2, List.drop_drop]⟩
  · rcases Decidable.em (e1 = 0) with a1 | a1
    · obtain ⟨_, l1, d1, m1⟩ := rn_ok 2 2 rfl (by omega) (by omega) h1 a1
      subst a1
      rcases rn_bad 1 1 rfl (by omega) (by omega) h2 h0 with h9 | h9
      · exact absurd rfl h9
      · rw [m1] at h9; simp at h9; omega
    · rcases rn_bad 2 2 rfl (by omega) (by omega) h1 a1 with h9 | h9
      · exact absurd rfl h9
      · omega
theorem open4_many {h : FR} (hk : h.kind = 4) {xs y1 y2 : List UInt8} {v1 v2 : Nat} {e1 e2 : Int} (h1 : rnum xs 0 2 = (v1, y1, e1)) (h2 : rnum y1 e1 1 = (v2, y2, e2)) (hv : 4 < v2) : openP h xs = none := by
  have hn : ¬ (3 ≤ xs.length ∧ numN ((xs.drop 2).take 1) ≤ 4 ∧ xs.length = 3 + 32 * numN ((xs.drop 2).take 1)) := by
    rintro ⟨a, b, _⟩
    rcases Decidable.em (e2 = 0) with h0 | h0
    · have := ((nums4 h1 h2).1 h0).2.2.1; omega
    · have := (nums4 h1 h2).2 h0; omega
  unfold openP
  simp only [hk]
  simp [hn]
theorem open4_bad {h : FR} (hk : h.kind = 4) {xs y1 y2 y3 : List UInt8} {L : List (List UInt8)} {v1 v2 : Nat} {e1 e2 e3 : Int} (h1 : rnum xs 0 2 = (v1, y1, e1)) (h2 : rnum y1 e1 1 = (v2, y2, e2)) (h3 : chunk y2 e2 v2 = (L, y3, e3)) (hb : e3 ≠ 0 ∨ y3 ≠ []) : openP h xs = none := by
  have hn : ¬ (3 ≤ xs.length ∧ numN ((xs.drop 2).take 1) ≤ 4 ∧ xs.length = 3 + 32 * numN ((xs.drop 2).take 1)) := by
    rintro ⟨a, b, c⟩
    rcases Decidable.em (e2 = 0) with h0 | h0
    · obtain ⟨_, _, d2, m2⟩ := (nums4 h1 h2).1 h0
      have := chunk_len y2 v2 (by rw [m2, d2]; simp; omega)
      rw [h0] at h3
      rw [h3] at this
      exact hb.elim (fun h9 => h9 this.1) (fun h9 => h9 this.2)
    · have := (nums4 h1 h2).2 h0; omega
  unfold openP
  simp only [hk]
  simp [hn]
theorem flat32 : ∀ (l : List (List UInt8)), (∀ d ∈ l, d.length = 32) → l.flatten.length = 32 * l.length
  | [], _ => rfl
  | d :: r, h => by
    have h1 := flat32 r fun d hd => h d (List.mem_cons_of_mem _ hd)
    have h2 := h d (List.mem_cons_self ..)
    simp only [List.flatten_cons, List.length_append, List.length_cons]
    omega
theorem open4_good {h : FR} (hk : h.kind = 4) {xs y1 y2 : List UInt8} {L : List (List UInt8)} {v1 v2 : Nat} {e1 e2 : Int} (h1 : rnum xs 0 2 = (v1, y1, e1)) (h2 : rnum y1 e1 1 = (v2, y2, e2)) (h3 : chunk y2 e2 v2 = (L, [], 0)) (hv : v2 ≤ 4) : openP h xs = some ⟨h.kind, h.sess, h.ep, h.seq, h.vol, h.n, h.f, (v1 : Int), h.code, h.data, L⟩ := by
  have h0 : e2 = 0 := Decidable.byContradiction fun h0 => by
    have := chunk_stuck y2 h0 v2
    rw [h3] at this
    simp at this
    exact h0 this.2.symm
  subst h0
  obtain ⟨l3, d1, d2, m2⟩ := (nums4 h1 h2).1 rfl
  obtain ⟨b1, b2, b3⟩ := chunk_back y2 v2 (by rw [h3])
  rw [h3] at b1 b2 b3
  simp only [List.append_nil] at b1 b2 b3
  have hl := flat32 L b3
  rw [b1, b2, m2] at hl
  simp at hl
  have hn : 3 ≤ xs.length ∧ numN ((xs.drop 2).take 1) ≤ 4 ∧ xs.length = 3 + 32 * numN ((xs.drop 2).take 1) := ⟨l3, by omega, by omega⟩
  have hL : L = (chunk (xs.drop 3) 0 (numN ((xs.drop 2).take 1))).1 := by rw [← m2, ← d2, h3]
  unfold openP
  simp only [hk]
  simp only [hn, and_self, if_true, ← hL, ← d1]
  simp

end Go.Proofs.Ytipegdfjpmlcbaa


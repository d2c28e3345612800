/-
  The document's frames: num, told; what a good frame is, in the document's words.
-/
import Derived.Test.YtipegdfjpmlcbaaCFL
import Derived.Test.YtipegdfjpmlcbaaCF5
namespace Go.Proofs.Ytipegdfjpmlcbaa
open Go.RowKit
set_option linter.unusedVariables false
set_option linter.unusedSimpArgs false

set_option maxRecDepth 20000 in
theorem rfnum1_any (n : Int) (w : World) : Calls Try.prog 37 #[.int .i64 n, .int .i64 1] w fun e w' => e = .returned (.bool (decide (0 ≤ n ∧ n < 256))) ∧ w' = w := by
  by_cases h0 : 0 ≤ n
  · by_cases h1 : n < 256
    · rw [decide_eq_true (⟨h0, h1⟩ : 0 ≤ n ∧ n < 256)]
      go_enter Try.func37, Try.ntmps37
      go_wp2
      go_ret
      exact ⟨rfl, rfl⟩
    · rw [decide_eq_false (fun h : 0 ≤ n ∧ n < 256 => h1 h.2)]
      go_enter Try.func37, Try.ntmps37
      go_wp2
      go_ret
      exact ⟨rfl, rfl⟩
  · rw [decide_eq_false (fun h : 0 ≤ n ∧ n < 256 => h0 h.1)]
    go_enter Try.func37, Try.ntmps37
    go_wp2
    go_ret
    exact ⟨rfl, rfl⟩
set_option maxRecDepth 20000 in
theorem rfnum2_any (n : Int) (w : World) : Calls Try.prog 37 #[.int .i64 n, .int .i64 2] w fun e w' => e = .returned (.bool (decide (0 ≤ n ∧ n < 65536))) ∧ w' = w := by
  by_cases h0 : 0 ≤ n
  · by_cases h1 : n < 65536
    · rw [decide_eq_true (⟨h0, h1⟩ : 0 ≤ n ∧ n < 65536)]
      go_enter Try.func37, Try.ntmps37
      go_wp2
      go_ret
      exact ⟨rfl, rfl⟩
    · rw [decide_eq_false (fun h : 0 ≤ n ∧ n < 65536 => h1 h.2)]
      go_enter Try.func37, Try.ntmps37
      go_wp2
      go_ret
      exact ⟨rfl, rfl⟩
  · rw [decide_eq_false (fun h : 0 ≤ n ∧ n < 65536 => h0 h.1)]
    go_enter Try.func37, Try.ntmps37
    go_wp2
    go_ret
    exact ⟨rfl, rfl⟩

/-- Whether a body can be told; a frame with just the fields that its kind tells. -/
def bodyOK (f : FR) : Bool :=
  if f.kind = 1 then decide (0 ≤ f.n ∧ f.n < 65536) && (decide (0 ≤ f.f ∧ f.f < 256) && decide (f.data.length = 32))
  else if f.kind = 2 then decide (0 ≤ f.code ∧ f.code < 256)
  else if f.kind = 3 ∨ f.kind = 5 then decide (0 ≤ f.index ∧ f.index < 65536)
  else if f.kind = 4 then decide (0 ≤ f.index ∧ f.index < 65536) && (decide (f.list.length ≤ 4) && f.list.all (fun d => decide (d.length = 32)))
  else if f.kind = 6 then decide (0 ≤ f.index ∧ f.index < 65536) && decide (f.data.length = 64)
  else decide (f.kind = 7)
def toldP (f : FR) : FR :=
  if f.kind = 1 then ⟨f.kind, f.sess, f.ep, f.seq, f.vol, f.n, f.f, 0, 0, f.data, []⟩
  else if f.kind = 2 then ⟨f.kind, f.sess, f.ep, f.seq, 0, 0, 0, 0, f.code, [], []⟩
  else if f.kind = 4 then ⟨f.kind, f.sess, f.ep, f.seq, 0, 0, 0, f.index, 0, [], f.list⟩
  else if f.kind = 6 then ⟨f.kind, f.sess, f.ep, f.seq, 0, 0, 0, f.index, 0, f.data, []⟩
  else if f.kind = 7 then ⟨f.kind, f.sess, f.ep, f.seq, 0, 0, 0, 0, 0, [], []⟩
  else ⟨f.kind, f.sess, f.ep, f.seq, 0, 0, 0, f.index, 0, [], []⟩
theorem good_told (f : FR) (hv : f.vol < 4294967296) : good f ↔ bodyOK f = true ∧ toldP f = f := by
  obtain ⟨kind, sess, ep, seq, vol, n, ff, index, code, data, list⟩ := f
  simp only at hv
  unfold good bodyOK toldP
  simp only [FR.mk.injEq]
  by_cases k1 : kind = 1
  · subst k1; simp [hv]; try grind
  by_cases k2 : kind = 2
  · subst k2; simp; try grind
  by_cases k3 : kind = 3
  · subst k3; simp; try grind
  by_cases k5 : kind = 5
  · subst k5; simp; try grind
  by_cases k4 : kind = 4
  · subst k4; simp; try grind
  by_cases k6 : kind = 6
  · subst k6; simp; try grind
  by_cases k7 : kind = 7
  · subst k7; simp; try grind
  simp [k1, k2, k3, k4, k5, k6, k7]
end Go.Proofs.Ytipegdfjpmlcbaa


/-
  The short form; the reference's Short.
-/
import Derived.Test.YtgblhcikffecfaaDoorF6
namespace Go.Proofs.YtgblhcikffecfaaDoor
open Go.RowKit
set_option linter.unusedVariables false
set_option linter.unusedSimpArgs false

/-- The text of runs. -/
def txt (l : List Run) : List UInt8 := Lib.join (l.map fun r => spellL r.1.val r.2.val) [32]
theorem join_snoc (xs : List (List UInt8)) (x sep : List UInt8) (h : xs ≠ []) : Lib.join (xs ++ [x]) sep = Lib.join xs sep ++ sep ++ x := by
  cases xs with
  | nil => exact absurd rfl h
  | cons y ys =>
    show Lib.join (y :: (ys ++ [x])) sep = _
    rw [Lib.join_cons, Lib.join_cons]
    simp [Lib.joinTail]
theorem txt_one (r : Run) : txt [r] = spellL r.1.val r.2.val := Lib.join_one _ _
theorem txt_snoc (l : List Run) (r : Run) (h : l ≠ []) : txt (l ++ [r]) = txt l ++ [32] ++ spellL r.1.val r.2.val := by
  unfold txt
  rw [List.map_append]
  exact join_snoc _ _ _ (by simpa using h)
theorem mkR_val (c n : Nat) (hc : c < 256) (hn : n < 100) : (mkR c n).1.val = c ∧ (mkR c n).2.val = n := ⟨Nat.mod_eq_of_lt hc, Nat.mod_eq_of_lt hn⟩

theorem rs_some {xs : List UInt8} {k : Nat} (h : (rs xs k).2 = k) (h0 : 0 < k) : (rs xs k).1 ≠ [] := by
  obtain ⟨j, rfl⟩ : ∃ j, k = j + 1 := ⟨k - 1, by omega⟩
  by_cases hs : j + 1 < xs.length ∧ bt xs (j + 1) = bt xs j
  · rw [rs_same hs] at h
    have := (rs_le xs j).2
    omega
  · rw [rs_ends hs]; simp

theorem spell_len (c n : Nat) (hn : n < 100) : (spellL c n).length ≤ 5 := by
  unfold spellL
  split
  · by_cases h : n < 10
    · rw [dec_one n h]; simp
    · rw [dec_two n h hn]; simp
  · simp
theorem tail_len (l : List Run) : (Lib.joinTail [32] (l.map fun r => spellL r.1.val r.2.val)).length ≤ 6 * l.length := by
  induction l with
  | nil => exact Nat.zero_le _
  | cons r l ih =>
    have hs := spell_len r.1.val r.2.val r.2.isLt
    have e : Lib.joinTail [32] ((r :: l).map fun r => spellL r.1.val r.2.val) = [32] ++ spellL r.1.val r.2.val ++ Lib.joinTail [32] (l.map fun r => spellL r.1.val r.2.val) := by simp [Lib.joinTail]
    rw [e]
    simp only [List.length_append, List.length_cons, List.length_nil]
    omega
theorem txt_len (l : List Run) : (txt l).length ≤ 6 * l.length := by
  cases l with
  | nil => exact Nat.zero_le _
  | cons r l =>
    have hs := spell_len r.1.val r.2.val r.2.isLt
    have ht := tail_len l
    have e : txt (r :: l) = spellL r.1.val r.2.val ++ Lib.joinTail [32] (l.map fun r => spellL r.1.val r.2.val) := Lib.join_cons _ _ _
    rw [e]
    simp only [List.length_append, List.length_cons]
    omega

theorem cut_one (s : ByteArray) (k : Nat) (h : k < s.size) (w : World) : (Instr.sliceAt 9 (.string s) (some (.int .i64 (k : Int))) (some (.int .i64 ((k : Int) + 1))) none).run Tryd.prog w = .ok (.string ⟨#[(s.data.toList)[k]?.getD 0]⟩) w := by
  rw [run_sliceAt_string _ _ _ _ _ _ Tryd.underlying9, run_slice_string _ 9 s .i64 .i64 (k : Int) ((k : Int) + 1) Tryd.underlying9 (by omega) (by omega) (by omega)]
  have e : s.extract (k : Int).toNat ((k : Int) + 1).toNat = ⟨#[(s.data.toList)[k]?.getD 0]⟩ := by
    apply ByteArray.ext
    rw [ByteArray.data_extract]
    apply Array.toList_inj.mp
    rw [show ((k : Int) + 1).toNat = k + 1 from by omega, show (k : Int).toNat = k from rfl, Array.toList_extract]
    have hl : k < s.data.toList.length := h
    show List.take (k + 1 - k) (List.drop k s.data.toList) = [(s.data.toList)[k]?.getD 0]
    rw [List.drop_eq_getElem_cons hl, List.getElem?_eq_getElem hl, show k + 1 - k = 1 from by omega]
    rfl
  rw [e]

end Go.Proofs.YtgblhcikffecfaaDoor

/-
  What the reference does with a run's text; how long a short form is.
-/
import Derived.Test.YtgblhcikffecfaaDoorFO
namespace Go.Proofs.YtgblhcikffecfaaDoor
open Go.RowKit Go.Shelf
set_option linter.unusedVariables false
set_option linter.unusedSimpArgs false

theorem spell_head (r : Run) : ∃ more, spellR r = hx (r.1.val / 16) :: hx (r.1.val % 16) :: more := ⟨_, rfl⟩
theorem und_two (c : Nat) (hc : c < 256) : undP [hx (c / 16), hx (c % 16)] = ([UInt8.ofNat c], true) := by
  have h : ∀ a b : Fin 16, undP [hx a.val, hx b.val] = ([UInt8.ofNat (16 * a.val + b.val)], true) := by decide +kernel
  have e := h ⟨c / 16, by omega⟩ ⟨c % 16, by omega⟩
  rw [e]
  show ([UInt8.ofNat (16 * (c / 16) + c % 16)], true) = _
  rw [show 16 * (c / 16) + c % 16 = c from by omega]
theorem und_spell (r : Run) : 2 ≤ (spellR r).length ∧ undP ((spellR r).take 2) = ([UInt8.ofNat r.1.val], true) := by
  obtain ⟨more, h⟩ := spell_head r
  rw [h]
  exact ⟨by simp, und_two _ r.1.isLt⟩
theorem run_three (a b d : UInt8) (n : Nat) (h : n < 10) (hd : d = UInt8.ofNat (48 + n)) : runN [a, b, 42, d] = n := by
  have e : bt [a, b, 42, d] 3 = 48 + n := by
    show d.toNat = _
    rw [hd]; simp; omega
  have e2 : bt [a, b, 42, d] 2 = 42 := rfl
  have er : runS [a, b, 42, d] 1 = some n := by
    show (match (some 0 : Option Nat) with | none => none | some n => if 48 ≤ bt [a, b, 42, d] (3 + 0) ∧ bt [a, b, 42, d] (3 + 0) ≤ 57 then some (10 * n + (bt [a, b, 42, d] (3 + 0) - 48)) else none) = _
    show (if 48 ≤ bt [a, b, 42, d] 3 ∧ bt [a, b, 42, d] 3 ≤ 57 then some (10 * 0 + (bt [a, b, 42, d] 3 - 48)) else none) = _
    rw [e, if_pos (by omega)]
    congr 1; omega
  unfold runN
  rw [if_neg (by simp), if_neg (by rw [e2]; simp)]
  show (runS [a, b, 42, d] 1).getD 0 = n
  rw [er]; rfl
theorem run_four (a b d f : UInt8) (n m : Nat) (h : n < 10) (hm : m < 10) (hd : d = UInt8.ofNat (48 + n)) (hf : f = UInt8.ofNat (48 + m)) : runN [a, b, 42, d, f] = 10 * n + m := by
  have e : bt [a, b, 42, d, f] 3 = 48 + n := by
    show d.toNat = _
    rw [hd]; simp; omega
  have e4 : bt [a, b, 42, d, f] 4 = 48 + m := by
    show f.toNat = _
    rw [hf]; simp; omega
  have e2 : bt [a, b, 42, d, f] 2 = 42 := rfl
  have er : runS [a, b, 42, d, f] 1 = some n := by
    show (if 48 ≤ bt [a, b, 42, d, f] 3 ∧ bt [a, b, 42, d, f] 3 ≤ 57 then some (10 * 0 + (bt [a, b, 42, d, f] 3 - 48)) else none) = _
    rw [e, if_pos (by omega)]
    congr 1; omega
  have er2 : runS [a, b, 42, d, f] 2 = some (10 * n + m) := by
    show (match runS [a, b, 42, d, f] 1 with | none => none | some n => if 48 ≤ bt [a, b, 42, d, f] 4 ∧ bt [a, b, 42, d, f] 4 ≤ 57 then some (10 * n + (bt [a, b, 42, d, f] 4 - 48)) else none) = _
    rw [er]
    show (if 48 ≤ bt [a, b, 42, d, f] 4 ∧ bt [a, b, 42, d, f] 4 ≤ 57 then some (10 * n + (bt [a, b, 42, d, f] 4 - 48)) else none) = _
    rw [e4, if_pos (by omega)]
    congr 1; omega
  unfold runN
  rw [if_neg (by simp), if_neg (by rw [e2]; simp)]
  show (runS [a, b, 42, d, f] 2).getD 0 = _
  rw [er2]; rfl
theorem run_spell (r : Run) (h : 1 ≤ r.2.val) : runN (spellR r) = r.2.val := by
  by_cases h1 : 1 < r.2.val
  · have e : spellR r = hx (r.1.val / 16) :: hx (r.1.val % 16) :: 42 :: Lib.decDigits r.2.val := by unfold spellR spellL; rw [if_pos h1]; rfl
    rw [e]
    by_cases h10 : r.2.val < 10
    · rw [dec_one _ h10]
      exact run_three _ _ _ _ h10 rfl
    · rw [dec_two _ h10 r.2.isLt]
      rw [run_four _ _ _ _ _ _ (by have := r.2.isLt; omega) (by omega) rfl rfl]
      omega
  · have e : spellR r = [hx (r.1.val / 16), hx (r.1.val % 16)] := by unfold spellR spellL; rw [if_neg h1, List.append_nil]
    rw [e]
    show 1 = _
    omega
theorem runN_le (xs : List UInt8) : runN xs ≤ 99 := by
  unfold runN
  split
  · omega
  · split
    · omega
    · rename_i h1 h2
      cases hr : runS xs (xs.length - 3) with
      | none => simp
      | some n =>
        have hl := runS_lt xs _ n hr
        have : 10 ^ (xs.length - 3) ≤ 10 ^ 2 := Nat.pow_le_pow_right (by omega) (by omega)
        show n ≤ 99
        omega
theorem und_len (xs : List UInt8) : (undP xs).1.length ≤ 1 := by
  unfold undP
  cases h : unP xs 1 with
  | none => simp
  | some o =>
    simp only [unP] at h
    split at h
    · cases h
    · simp only [Option.some.injEq] at h
      subst h
      simp

theorem spell_length (r : Run) (h : 1 ≤ r.2.val) : (spellR r).length + 1 ≤ 3 * r.2.val := by
  by_cases h1 : 1 < r.2.val
  · have e : spellR r = hx (r.1.val / 16) :: hx (r.1.val % 16) :: 42 :: Lib.decDigits r.2.val := by unfold spellR spellL; rw [if_pos h1]; rfl
    rw [e]
    by_cases h10 : r.2.val < 10
    · rw [dec_one _ h10]; simp; omega
    · rw [dec_two _ h10 r.2.isLt]; simp; omega
  · have e : spellR r = [hx (r.1.val / 16), hx (r.1.val % 16)] := by unfold spellR spellL; rw [if_neg h1, List.append_nil]
    rw [e]; simp; omega
theorem joinTail_length : ∀ l : List Run, (∀ r ∈ l, 1 ≤ r.2.val) → (Lib.joinTail [32] (l.map spellR)).length ≤ 3 * (l.map (fun r => r.2.val)).sum
  | [], _ => by simp [Lib.joinTail]
  | r :: l, h => by
    have ih := joinTail_length l (fun q hq => h q (List.mem_cons_of_mem _ hq))
    have hs := spell_length r (h r List.mem_cons_self)
    have e : Lib.joinTail [32] ((r :: l).map spellR) = 32 :: (spellR r ++ Lib.joinTail [32] (l.map spellR)) := by simp [Lib.joinTail]
    rw [e]
    simp only [List.length_cons, List.length_append, List.map_cons, List.sum_cons]
    omega
theorem txt_short (l : List Run) (h : ∀ r ∈ l, 1 ≤ r.2.val) : (txt l).length ≤ 3 * (l.map (fun r => r.2.val)).sum := by
  cases l with
  | nil => simp [txt, Lib.join]
  | cons r l =>
    have ht := joinTail_length l (fun q hq => h q (List.mem_cons_of_mem _ hq))
    have hs := spell_length r (h r List.mem_cons_self)
    have e : txt (r :: l) = spellR r ++ Lib.joinTail [32] (l.map spellR) := Lib.join_cons _ _ _
    rw [e]
    simp only [List.length_append, List.map_cons, List.sum_cons]
    omega
theorem form_short {t x : List UInt8} (h : IsForm t x) : t.length ≤ 192 ∧ 2 ≤ t.length := by
  have h1 := txt_short (rs x 64).1 (form_pos h)
  rw [← flat_len, form_flat h, h.1, h.2] at h1
  refine ⟨h1, ?_⟩
  have hp := form_parts h
  have hne := rs_ne x (by have := h.1; omega)
  rw [h.1] at hne
  cases hr : (rs x 64).1 with
  | nil => exact absurd hr hne
  | cons r l =>
    have e : txt (r :: l) = spellR r ++ Lib.joinTail [32] (l.map spellR) := Lib.join_cons _ _ _
    rw [← h.2, hr, e]
    have := (und_spell r).1
    simp only [List.length_append]
    omega
theorem part_len (l : List UInt8) : ∀ x ∈ parts l, x.length ≤ l.length := by
  intro x hx
  have e := wordsK_parts l l.length (Nat.le_refl _)
  rw [List.take_length] at e
  rw [← e] at hx
  exact (wordsK_len l l.length).2.2 x hx

/-- The program's Long, any text. -/
theorem long_any (s : ByteArray) (m : Int) (w : World) (hs : s.size ≤ 1000) (hk : Kon m w) :
    Calls Tryd.prog 20 #[.string s] w fun e w' => ∃ v why, e = .returned (.tuple #[.string v, .int .i64 why]) ∧ LongR s.data.toList v why ∧ Below w.heap.size w w' :=
  (callsIn_wide (n := 12)).1 (long_in s hs m w hk.zero hk.lt.1 (fun x hx W hB => by
    have hl := part_len _ x hx
    have e : s.data.toList.length = s.size := rfl
    exact read_any ⟨x.toArray⟩ m W (by show (List.toArray x).size ≤ _; rw [List.size_toArray]; omega) (hk.below hB hk.lt)))
end Go.Proofs.YtgblhcikffecfaaDoor

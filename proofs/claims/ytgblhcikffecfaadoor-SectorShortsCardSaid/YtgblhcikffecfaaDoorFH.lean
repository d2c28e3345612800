/-
  Lists: the parts of a text between blanks; runs laid out again; the short form's parts.
-/
import Derived.Test.YtgblhcikffecfaaDoorFG
import Derived.Lib.IndexMore
namespace Go.Proofs.YtgblhcikffecfaaDoor
open Go.RowKit Go.Shelf
set_option linter.unusedVariables false
set_option linter.unusedSimpArgs false

/-- The parts of a text, with a blank between. -/
def parts : List UInt8 → List (List UInt8)
  | [] => [[]]
  | b :: l => if b = 32 then [] :: parts l else ((b :: (parts l).headD []) :: (parts l).tail)
theorem parts_some (l : List UInt8) : parts l ≠ [] := by
  cases l with
  | nil => simp [parts]
  | cons b l => unfold parts; split <;> simp
theorem parts_head (l : List UInt8) : parts l = (parts l).headD [] :: (parts l).tail := by
  have := parts_some l
  cases h : parts l with
  | nil => exact absurd h this
  | cons x xs => rfl

theorem index_blank : ∀ l : List UInt8, (Lib.index l [32] = -1 ∧ parts l = [l]) ∨ (0 ≤ Lib.index l [32] ∧ (Lib.index l [32]).toNat < l.length ∧ parts l = l.take (Lib.index l [32]).toNat :: parts (l.drop ((Lib.index l [32]).toNat + 1)))
  | [] => .inl ⟨rfl, rfl⟩
  | b :: l => by
    have ih := index_blank l
    have hp : ([32] : List UInt8).isPrefixOf (b :: l) = (32 == b) := by simp [List.isPrefixOf]
    by_cases hb : b = 32
    · subst hb
      have e : Lib.index (32 :: l) [32] = 0 := by unfold Lib.index; rw [hp]; simp
      refine .inr ⟨by rw [e]; omega, by rw [e]; simp, ?_⟩
      rw [e]
      show parts (32 :: l) = _
      simp [parts]
    · have hq : ((32 : UInt8) == b) = false := by simpa using fun e => hb e.symm
      have e : Lib.index (b :: l) [32] = if Lib.index l [32] == -1 then -1 else Lib.index l [32] + 1 := by
        show (if ([32] : List UInt8).isPrefixOf (b :: l) then (0 : Int) else _) = _
        rw [hp, hq]; rfl
      have hparts : parts (b :: l) = (b :: (parts l).headD []) :: (parts l).tail := by
        show (if b = 32 then _ else _) = _
        rw [if_neg hb]
      rcases ih with ⟨h1, h2⟩ | ⟨h1, h2, h3⟩
      · refine .inl ⟨by rw [e, h1]; rfl, ?_⟩
        rw [hparts, h2]; rfl
      · have e2 : Lib.index (b :: l) [32] = Lib.index l [32] + 1 := by
          rw [e, if_neg]
          simp
          omega
        obtain ⟨k, hk⟩ : ∃ k : Nat, Lib.index l [32] = (k : Int) := ⟨_, (Int.toNat_of_nonneg h1).symm⟩
        rw [hk] at h2 h3 e2
        refine .inr ⟨by rw [e2]; omega, by rw [e2]; simp; simpa using h2, ?_⟩
        rw [e2, show ((k : Int) + 1).toNat = k + 1 from by omega, hparts]
        have hc := congrArg (fun x => x.headD []) h3
        have ht := congrArg (fun x => x.tail) h3
        simp only [List.headD_cons, List.tail_cons, show ((k : Nat) : Int).toNat = k from rfl] at hc ht
        rw [hc, ht]
        simp

theorem parts_snoc : ∀ (l : List UInt8) (b : UInt8), parts (l ++ [b]) = if b = 32 then parts l ++ [[]] else (parts l).set ((parts l).length - 1) (lastW (parts l) ++ [b])
  | [], b => by
    by_cases hb : b = 32
    · simp [parts, hb]
    · simp [parts, hb, lastW]
  | a :: l, b => by
    have ih := parts_snoc l b
    have hh := parts_head l
    by_cases ha : a = 32
    · have e1 : parts (a :: l ++ [b]) = [] :: parts (l ++ [b]) := by show (if a = 32 then _ else _) = _; rw [if_pos ha]; rfl
      have e2 : parts (a :: l) = [] :: parts l := by show (if a = 32 then _ else _) = _; rw [if_pos ha]
      rw [e1, e2, ih]
      by_cases hb : b = 32
      · rw [if_pos hb, if_pos hb]; rfl
      · rw [if_neg hb, if_neg hb]
        obtain ⟨x, xs, hx⟩ : ∃ x xs, parts l = x :: xs := ⟨_, _, hh⟩
        rw [hx]
        simp [lastW]
    · have e1 : parts (a :: l ++ [b]) = (a :: (parts (l ++ [b])).headD []) :: (parts (l ++ [b])).tail := by show (if a = 32 then _ else _) = _; rw [if_neg ha]; rfl
      have e2 : parts (a :: l) = (a :: (parts l).headD []) :: (parts l).tail := by show (if a = 32 then _ else _) = _; rw [if_neg ha]
      rw [e1, e2, ih]
      obtain ⟨x, xs, hx⟩ : ∃ x xs, parts l = x :: xs := ⟨_, _, hh⟩
      rw [hx]
      by_cases hb : b = 32
      · rw [if_pos hb, if_pos hb]; rfl
      · rw [if_neg hb, if_neg hb]
        cases xs with
        | nil => simp [lastW]
        | cons y ys => simp [lastW]

theorem wordsK_parts (xs : List UInt8) : ∀ k, k ≤ xs.length → wordsK xs k = parts (xs.take k)
  | 0, _ => rfl
  | k + 1, h => by
    have ih := wordsK_parts xs k (by omega)
    rw [take_next xs k (by omega), parts_snoc]
    show (if _ then _ else _) = _
    rw [ih]
    have e : bt xs k = (xs[k]?.getD 0).toNat := rfl
    have : (bt xs k = 32) ↔ (xs[k]?.getD 0 = 32) := by
      rw [e]
      constructor
      · intro h; exact UInt8.toNat_inj.mp (by rw [h]; rfl)
      · intro h; rw [h]; rfl
    by_cases hb : bt xs k = 32
    · rw [if_pos hb, if_pos (this.1 hb)]
    · rw [if_neg hb, if_neg (fun h => hb (this.2 h))]

/-- Texts without a blank, joined: their parts. -/
theorem parts_plain : ∀ (x : List UInt8), 32 ∉ x → ∀ l, parts (x ++ 32 :: l) = x :: parts l
  | [], _, l => by show (if (32 : UInt8) = 32 then _ else _) = _; rw [if_pos rfl]
  | b :: x, h, l => by
    have hb : ¬ b = 32 := fun e => h (by rw [e]; exact List.mem_cons_self)
    have ih := parts_plain x (fun e => h (List.mem_cons_of_mem _ e)) l
    show (if b = 32 then _ else _) = _
    rw [if_neg hb]
    show (b :: (parts (x ++ 32 :: l)).headD []) :: (parts (x ++ 32 :: l)).tail = _
    rw [ih]; rfl
theorem parts_alone : ∀ (x : List UInt8), 32 ∉ x → parts x = [x]
  | [], _ => rfl
  | b :: x, h => by
    have hb : ¬ b = 32 := fun e => h (by rw [e]; exact List.mem_cons_self)
    have ih := parts_alone x (fun e => h (List.mem_cons_of_mem _ e))
    show (if b = 32 then _ else _) = _
    rw [if_neg hb, ih]; rfl
theorem parts_tail : ∀ (ys : List (List UInt8)) (x : List UInt8), 32 ∉ x → (∀ y ∈ ys, 32 ∉ y) → parts (x ++ Lib.joinTail [32] ys) = x :: ys
  | [], x, hx, _ => by simp [Lib.joinTail, parts_alone x hx]
  | y :: ys, x, hx, hy => by
    have ih := parts_tail ys y (hy y (by simp)) (fun z hz => hy z (by simp [hz]))
    have e : Lib.joinTail [32] (y :: ys) = 32 :: (y ++ Lib.joinTail [32] ys) := by simp [Lib.joinTail]
    rw [e, parts_plain x hx, ih]
theorem parts_join (ys : List (List UInt8)) (h : ys ≠ []) (hy : ∀ y ∈ ys, 32 ∉ y) : parts (Lib.join ys [32]) = ys := by
  cases ys with
  | nil => exact absurd rfl h
  | cons x ys =>
    rw [Lib.join_cons]
    exact parts_tail ys x (hy x (by simp)) (fun z hz => hy z (by simp [hz]))

/-- A run as its text. -/
def spellR (r : Run) : List UInt8 := spellL r.1.val r.2.val
theorem hx_mem (n : Nat) (h : n < 16) : hx n ≠ 32 ∧ hx n ≠ 42 := by
  have : ∀ m : Fin 16, hx m.val ≠ 32 ∧ hx m.val ≠ 42 := by decide +kernel
  exact this ⟨n, h⟩
theorem dec_mem (n : Nat) (h : n < 100) : ∀ b ∈ Lib.decDigits n, 48 ≤ b.toNat ∧ b.toNat ≤ 57 := by
  intro b hb
  by_cases h10 : n < 10
  · rw [dec_one n h10] at hb
    rw [List.mem_singleton] at hb
    rw [hb]
    have : ∀ m : Fin 10, 48 ≤ (UInt8.ofNat (48 + m.val)).toNat ∧ (UInt8.ofNat (48 + m.val)).toNat ≤ 57 := by decide +kernel
    exact this ⟨n, h10⟩
  · rw [dec_two n h10 h] at hb
    have : ∀ m : Fin 10, 48 ≤ (UInt8.ofNat (48 + m.val)).toNat ∧ (UInt8.ofNat (48 + m.val)).toNat ≤ 57 := by decide +kernel
    rw [List.mem_cons, List.mem_singleton] at hb
    rcases hb with rfl | rfl
    · exact this ⟨n / 10, by omega⟩
    · exact this ⟨n % 10, by omega⟩
theorem spell_plain (c n : Nat) (hc : c < 256) (hn : n < 100) : 32 ∉ spellL c n := by
  have h1 := hx_mem (c / 16) (by omega)
  have h2 := hx_mem (c % 16) (by omega)
  intro h
  unfold spellL at h
  rcases List.mem_append.1 h with h | h
  · simp at h
    rcases h with h | h
    · exact h1.1 h.symm
    · exact h2.1 h.symm
  · split at h
    · rcases List.mem_cons.1 h with h | h
      · exact absurd h (by decide)
      · have := dec_mem n hn 32 h
        exact absurd this.1 (by decide)
    · simp at h
theorem parts_txt (rl : List Run) (h : rl ≠ []) : parts (txt rl) = rl.map spellR := by
  unfold txt
  exact parts_join _ (by simpa using h) (fun y hy => by
    obtain ⟨r, _, rfl⟩ := List.mem_map.1 hy
    exact spell_plain _ _ r.1.isLt r.2.isLt)

/-- Runs, laid out. -/
def flat : List Run → List UInt8
  | [] => []
  | r :: rs => List.replicate r.2.val (UInt8.ofNat r.1.val) ++ flat rs
theorem flat_snoc (l : List Run) (r : Run) : flat (l ++ [r]) = flat l ++ List.replicate r.2.val (UInt8.ofNat r.1.val) := by
  induction l with
  | nil => simp [flat]
  | cons x l ih => simp [flat, ih]

theorem ofNat_bt (xs : List UInt8) (k : Nat) : UInt8.ofNat (bt xs k) = xs[k]?.getD 0 := by
  show UInt8.ofNat (xs[k]?.getD 0).toNat = _
  simp
theorem same_run {xs : List UInt8} {a : Nat} : ∀ {b : Nat}, (∀ j, a ≤ j → j < b → bt xs (j + 1) = bt xs j) → a ≤ b → b < xs.length → (xs.take (b + 1)) = xs.take a ++ List.replicate (b + 1 - a) (UInt8.ofNat (bt xs b))
  | 0, h, hab, hb => by
    obtain rfl : a = 0 := by omega
    rw [take_next xs 0 hb, ofNat_bt]; rfl
  | b + 1, h, hab, hb => by
    by_cases he : a = b + 1
    · subst he
      rw [take_next xs _ hb, ofNat_bt]
      simp
    · have ih := same_run (fun j h1 h2 => h j h1 (by omega)) (by omega : a ≤ b) (by omega)
      have hs := h b (by omega) (by omega)
      rw [take_next xs _ hb, ih, hs, ← ofNat_bt xs (b + 1), hs, List.append_assoc]
      congr 1
      rw [show b + 1 + 1 - a = (b + 1 - a) + 1 from by omega, List.replicate_succ']

theorem rs_flat (xs : List UInt8) (hx : xs.length < 100) : ∀ k, k ≤ xs.length → flat (rs xs k).1 = xs.take (rs xs k).2 ∧ (∀ j, (rs xs k).2 ≤ j → j < k → j + 1 < xs.length ∧ bt xs (j + 1) = bt xs j) ∧ (∀ r ∈ (rs xs k).1, 1 ≤ r.2.val)
  | 0, _ => ⟨rfl, fun j _ h => by omega, fun r h => by cases h⟩
  | k + 1, hk => by
    obtain ⟨h1, h2, h3⟩ := rs_flat xs hx k (by omega)
    have hle := (rs_le xs k).2
    by_cases hs : k + 1 < xs.length ∧ bt xs (k + 1) = bt xs k
    · rw [rs_same hs]
      refine ⟨h1, fun j ha hb => ?_, h3⟩
      by_cases hj : j = k
      · subst hj; exact hs
      · exact h2 j ha (by omega)
    · rw [rs_ends hs]
      obtain ⟨v1, v2⟩ := mkR_val (bt xs k) (k + 1 - (rs xs k).2) (bt_lt _ _) (by omega)
      refine ⟨?_, fun j ha hb => by simp at ha; omega, fun r hr => ?_⟩
      · rw [flat_snoc, v1, v2, h1]
        exact (same_run (fun j ha hb => (h2 j ha hb).2) hle (by omega)).symm
      · rcases List.mem_append.1 hr with h | h
        · exact h3 r h
        · simp at h
          rw [h, v2]; omega
theorem rs_end (xs : List UInt8) : (rs xs xs.length).2 = xs.length := by
  cases h : xs.length with
  | zero => rfl
  | succ n => rw [rs_ends (by omega)]
theorem rs_whole (xs : List UInt8) (hx : xs.length < 100) : flat (rs xs xs.length).1 = xs := by
  rw [(rs_flat xs hx _ (Nat.le_refl _)).1, rs_end, List.take_length]
theorem rs_ne (xs : List UInt8) (h : 0 < xs.length) : (rs xs xs.length).1 ≠ [] := rs_some (rs_end xs) h

theorem flat_len (l : List Run) : (flat l).length = (l.map (fun r => r.2.val)).sum := by
  induction l with
  | nil => rfl
  | cons r l ih => simp [flat, ih]

/-- The runs of a sector whose short form is t. -/
def IsForm (t : List UInt8) (x : List UInt8) : Prop := x.length = 64 ∧ txt (rs x 64).1 = t
theorem form_parts {t x : List UInt8} (h : IsForm t x) : parts t = (rs x 64).1.map spellR := by
  obtain ⟨h1, h2⟩ := h
  rw [← h2]
  refine parts_txt _ ?_
  have := rs_ne x (by omega)
  rwa [h1] at this
theorem form_flat {t x : List UInt8} (h : IsForm t x) : flat (rs x 64).1 = x := by
  have := rs_whole x (by have := h.1; omega)
  rwa [h.1] at this
theorem form_pos {t x : List UInt8} (h : IsForm t x) : ∀ r ∈ (rs x 64).1, 1 ≤ r.2.val := (rs_flat x (by have := h.1; omega) 64 (by have := h.1; omega)).2.2
theorem shortV_form {x t : ByteArray} (hx : x.size = 64) : shortV x = .string t ↔ IsForm t.data.toList x.data.toList := by
  unfold shortV
  rw [if_pos hx]
  constructor
  · intro h
    refine ⟨hx, ?_⟩
    have : (⟨(txt (rs x.data.toList 64).1).toArray⟩ : ByteArray) = t := by
      unfold strV at h
      exact Value.string.inj h
    rw [← this]
  · rintro ⟨_, h⟩
    rw [h]; rfl
theorem spellR_inj_aux : True := trivial
end Go.Proofs.YtgblhcikffecfaaDoor

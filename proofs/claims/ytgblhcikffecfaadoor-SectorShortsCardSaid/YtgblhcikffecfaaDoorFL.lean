/-
  What read does with a run's text; the fixed calls' Long.
-/
import Derived.Test.YtgblhcikffecfaaDoorFK
import Derived.Lib.Atoi
namespace Go.Proofs.YtgblhcikffecfaaDoor
open Go.RowKit Go.Shelf
set_option linter.unusedVariables false
set_option linter.unusedSimpArgs false

theorem index_star (b : UInt8) (l : List UInt8) (h : b ≠ 42) : Lib.index (b :: l) [42] = if Lib.index l [42] == -1 then -1 else Lib.index l [42] + 1 := by
  have hp : ([42] : List UInt8).isPrefixOf (b :: l) = false := by simp [List.isPrefixOf]; exact fun e => h e.symm
  show (if ([42] : List UInt8).isPrefixOf (b :: l) then (0 : Int) else _) = _
  rw [hp]; rfl
theorem index_at (l : List UInt8) : Lib.index (42 :: l) [42] = 0 := by
  have hp : ([42] : List UInt8).isPrefixOf (42 :: l) = true := by simp [List.isPrefixOf]
  show (if ([42] : List UInt8).isPrefixOf (42 :: l) then (0 : Int) else _) = _
  rw [hp]; rfl
theorem cut_two (a b : UInt8) (ha : a ≠ 42) (hb : b ≠ 42) : Lib.cut [a, b] [42] = ([a, b], [], false) := by
  unfold Lib.cut
  rw [index_star a [b] ha, index_star b [] hb]
  rfl
theorem cut_star (a b : UInt8) (l : List UInt8) (ha : a ≠ 42) (hb : b ≠ 42) : Lib.cut (a :: b :: 42 :: l) [42] = ([a, b], l, true) := by
  unfold Lib.cut
  rw [index_star a _ ha, index_star b _ hb, index_at]
  rfl
theorem pu_two (c : Nat) (hc : c < 256) : puP ⟨([hx (c / 16), hx (c % 16)] : List UInt8).toArray⟩ = (0, c) := by
  have h : ∀ a b : Fin 16, puP ⟨([hx a.val, hx b.val] : List UInt8).toArray⟩ = (0, 16 * a.val + b.val) := by decide +kernel
  have := h ⟨c / 16, by omega⟩ ⟨c % 16, by omega⟩
  rw [this]
  show (0, 16 * (c / 16) + c % 16) = _
  rw [show 16 * (c / 16) + c % 16 = c from by omega]
theorem atoi_dec (n : Nat) (h : n < 100) : Lib.atoi (Lib.decDigits n) = some (n : Int) := by
  by_cases h10 : n < 10
  · rw [dec_one n h10]
    have : ∀ m : Fin 10, Lib.atoi [UInt8.ofNat (48 + m.val)] = some (m.val : Int) := by decide +kernel
    exact this ⟨n, h10⟩
  · rw [dec_two n h10 h]
    have : ∀ a b : Fin 10, Lib.atoi [UInt8.ofNat (48 + a.val), UInt8.ofNat (48 + b.val)] = some ((10 * a.val + b.val : Nat) : Int) := by decide +kernel
    have e := this ⟨n / 10, by omega⟩ ⟨n % 10, by omega⟩
    rw [e]
    show some ((10 * (n / 10) + n % 10 : Nat) : Int) = _
    rw [show 10 * (n / 10) + n % 10 = n from by omega]

/-- A run's text: how it is cut, and what its parts are. -/
theorem spell_shape (r : Run) (h : 1 ≤ r.2.val) : (r.2.val = 1 ∧ Lib.cut (spellR r) [42] = (spellR r, [], false) ∧ puP ⟨(spellR r).toArray⟩ = (0, r.1.val)) ∨
    (∃ a b, Lib.cut (spellR r) [42] = (a, b, true) ∧ puP ⟨a.toArray⟩ = (0, r.1.val) ∧ Lib.atoi b = some (r.2.val : Int)) := by
  have h1 := (hx_mem (r.1.val / 16) (by have := r.1.isLt; omega)).2
  have h2 := (hx_mem (r.1.val % 16) (by omega)).2
  by_cases h1n : 1 < r.2.val
  · have e : spellR r = hx (r.1.val / 16) :: hx (r.1.val % 16) :: 42 :: Lib.decDigits r.2.val := by unfold spellR spellL; rw [if_pos h1n]; rfl
    exact .inr ⟨_, _, by rw [e, cut_star _ _ _ h1 h2], pu_two _ r.1.isLt, atoi_dec _ r.2.isLt⟩
  · have e : spellR r = [hx (r.1.val / 16), hx (r.1.val % 16)] := by unfold spellR spellL; rw [if_neg h1n, List.append_nil]
    exact .inl ⟨by omega, by rw [e, cut_two _ _ h1 h2], by rw [e]; exact pu_two _ r.1.isLt⟩

theorem readR_one {x a b : List UInt8} {c : Nat} (hc : c < 256) (hcut : Lib.cut x [42] = (a, b, false)) (hp : puP ⟨a.toArray⟩ = (0, c)) : ReadR x c 1 := by
  refine ⟨hc, fun r hr hx => ?_⟩
  subst hx
  rcases spell_shape r hr with ⟨h1, h2, h3⟩ | ⟨a', b', h1, h2, h3⟩
  · rw [h2] at hcut
    injection hcut with e1 e2
    rw [← e1, h3] at hp
    injection hp with _ e3
    exact ⟨e3.symm, by rw [h1]; rfl⟩
  · rw [h1] at hcut
    injection hcut with e1 e2
    injection e2 with e3 e4
    cases e4
theorem readR_star {x a b : List UInt8} {c : Nat} {l : Int} (hc : c < 256) (hcut : Lib.cut x [42] = (a, b, true)) (hp : puP ⟨a.toArray⟩ = (0, c)) (hl : Lib.atoi b = some l) : ReadR x c l := by
  refine ⟨hc, fun r hr hx => ?_⟩
  subst hx
  rcases spell_shape r hr with ⟨h1, h2, h3⟩ | ⟨a', b', h1, h2, h3⟩
  · rw [h2] at hcut
    injection hcut with e1 e2
    injection e2 with e3 e4
    cases e4
  · rw [h1] at hcut
    injection hcut with e1 e2
    injection e2 with e3 e4
    rw [← e1, h2] at hp
    injection hp with _ e5
    rw [← e3, h3] at hl
    injection hl with e6
    exact ⟨e5.symm, e6.symm⟩
theorem readR_bad {x a b : List UInt8} {f : Bool} (hcut : Lib.cut x [42] = (a, b, f)) (hp : (puP ⟨a.toArray⟩).1 ≠ 0) (n : Int) : ReadR x 0 n := by
  refine ⟨by omega, fun r hr hx => ?_⟩
  subst hx
  exfalso
  rcases spell_shape r hr with ⟨h1, h2, h3⟩ | ⟨a', b', h1, h2, h3⟩
  · rw [h2] at hcut
    injection hcut with e1 e2
    rw [← e1, h3] at hp
    exact hp rfl
  · rw [h1] at hcut
    injection hcut with e1 e2
    rw [← e1, h2] at hp
    exact hp rfl
theorem readR_bad2 {x a b : List UInt8} (hcut : Lib.cut x [42] = (a, b, true)) (hl : Lib.atoi b = none) (n : Int) : ReadR x 0 n := by
  refine ⟨by omega, fun r hr hx => ?_⟩
  subst hx
  exfalso
  rcases spell_shape r hr with ⟨h1, h2, h3⟩ | ⟨a', b', h1, h2, h3⟩
  · rw [h2] at hcut
    injection hcut with e1 e2
    injection e2 with e3 e4
    cases e4
  · rw [h1] at hcut
    injection hcut with e1 e2
    injection e2 with e3 e4
    rw [← e3, h3] at hl
    cases hl

def fixT : ByteArray := ⟨#[54, 49, 32, 48, 48, 42, 54, 51]⟩
def fixS : List UInt8 := 97 :: List.replicate 63 0
theorem fix_parts : parts fixT.data.toList = [[54, 49], [48, 48, 42, 54, 51]] := by decide +kernel
theorem fix_txt : txt (rs fixS 64).1 = [54, 49, 32, 48, 48, 42, 54, 51] := by
  have e : (rs fixS 64).1 = [mkR 97 1, mkR 0 63] := by decide +kernel
  rw [e]
  unfold txt
  simp only [List.map_cons, List.map_nil]
  have e1 : spellL (mkR 97 1).1.val (mkR 97 1).2.val = [54, 49] := by decide +kernel
  have e2 : spellL (mkR 0 63).1.val (mkR 0 63).2.val = [48, 48, 42, 54, 51] := by
    rw [(mkR_val 0 63 (by omega) (by omega)).1, (mkR_val 0 63 (by omega) (by omega)).2]
    unfold spellL
    rw [if_pos (by omega), dec_two 63 (by omega) (by omega)]
    decide +kernel
  rw [e1, e2]
  decide +kernel
theorem fix_form : IsForm fixT.data.toList fixS := ⟨by decide +kernel, fix_txt⟩

theorem fix_read (m : Int) (w : World) (hm : w.cell? ⟨0, 0, none⟩ = some (.int .i64 m)) : ∀ x ∈ parts fixT.data.toList, Calls Tryd.prog 31 #[strV x] w fun e W' => ∃ (c : Nat) (n : Int), e = .returned (.tuple #[.int .u8 c, .int .i64 n]) ∧ ReadR x c n ∧ Below w.heap.size w W' := by
  intro x hx
  rw [fix_parts] at hx
  have c1 : Lib.cut [54, 49] [42] = ([54, 49], [], false) := cut_two _ _ (by decide) (by decide)
  have c2 : Lib.cut [48, 48, 42, 54, 51] [42] = ([48, 48], [54, 51], true) := cut_star _ _ _ (by decide) (by decide)
  have p1 : puP ⟨([54, 49] : List UInt8).toArray⟩ = (0, 97) := by decide +kernel
  have p2 : puP ⟨([48, 48] : List UInt8).toArray⟩ = (0, 0) := by decide +kernel
  have l2 : Lib.atoi [54, 51] = some 63 := by decide +kernel
  rcases List.mem_cons.1 hx with rfl | hx
  · refine (read_one ⟨#[54, 49]⟩ 97 m w (by decide) hm c1 p1).mono ?_
    rintro e W' ⟨rfl, hb⟩
    exact ⟨97, 1, rfl, readR_one (by omega) c1 p1, hb⟩
  · obtain rfl := List.mem_singleton.1 hx
    refine (read_star ⟨#[48, 48, 42, 54, 51]⟩ [48, 48] [54, 51] 0 63 m w (by decide) hm c2 (by decide) p2 (by decide) l2).mono ?_
    rintro e W' ⟨rfl, hb⟩
    exact ⟨0, 63, rfl, readR_star (by omega) c2 p2 l2, hb⟩

/-- Which sector it is, there is but one. -/
theorem form_one {t x y : List UInt8} (h : IsForm t x) (k : IsForm t y) : x = y := by
  have e1 := form_len h
  have e2 := form_len k
  have f1 := form_parts h
  have f2 := form_parts k
  rw [f1] at f2
  have : (rs x 64).1 = (rs y 64).1 := by
    have px := form_pos h
    have py := form_pos k
    generalize (rs x 64).1 = a at *
    generalize (rs y 64).1 = b at *
    clear e1 e2 f1 h k
    induction a generalizing b with
    | nil => cases b with
      | nil => rfl
      | cons r b => simp at f2
    | cons q a ih => cases b with
      | nil => simp at f2
      | cons r b =>
        simp at f2
        have hq := px q (by simp)
        have hr := py r (by simp)
        have hR : ReadR (spellR q) q.1.val (q.2.val : Int) := by
          rcases spell_shape q hq with ⟨h1, h2, h3⟩ | ⟨a', b', h1, h2, h3⟩
          · rw [h1]; exact readR_one q.1.isLt h2 h3
          · exact readR_star q.1.isLt h1 h2 h3
        obtain ⟨e1, e2⟩ := hR.2 r hr f2.1
        have : q = r := Prod.ext (Fin.ext e1) (Fin.ext (by omega))
        rw [this, ih (fun r h => px r (List.mem_cons_of_mem _ h)) b (fun r h => py r (List.mem_cons_of_mem _ h)) f2.2]
  rw [← form_flat h, ← form_flat k, this]

theorem fix_long (m : Int) (w : World) (hm : w.cell? ⟨0, 0, none⟩ = some (.int .i64 m)) (h0 : 0 < w.heap.size) :
    Calls Tryd.prog 20 #[.string fixT] w fun e w' => e = .returned (.tuple #[strV fixS, .int .i64 0]) ∧ Below w.heap.size w w' := by
  refine ((callsIn_wide (n := 12)).1 (long_in fixT (by decide) m w hm h0 (fun x hx W hB => by
    have h := fix_read m W ((hB.cell (p := ⟨0, 0, none⟩) h0).trans hm) x hx
    exact h))).mono ?_
  rintro e w' ⟨v, why, rfl, (⟨h1, rfl⟩ | ⟨h1, _⟩), hb⟩
  · refine ⟨?_, hb⟩
    have : v.data.toList = fixS := form_one h1 fix_form
    have e : v = ⟨fixS.toArray⟩ := by
      cases v with
      | mk d => rw [← this]
    rw [e]; rfl
  · exact absurd fix_form (h1 _)
end Go.Proofs.YtgblhcikffecfaaDoor

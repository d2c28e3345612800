/-
  The reference's run: how many bytes a word tells.
-/
import Derived.Test.YtgblhcikffecfaaDoorFA
namespace Go.Proofs.YtgblhcikffecfaaDoor
open Go.RowKit Go.Shelf
set_option linter.unusedVariables false
set_option linter.unusedSimpArgs false

/-- The number in j digits from the fourth byte on. -/
def runS (xs : List UInt8) : Nat → Option Nat
  | 0 => some 0
  | j + 1 => match runS xs j with
    | none => none
    | some n => if 48 ≤ bt xs (3 + j) ∧ bt xs (3 + j) ≤ 57 then some (10 * n + (bt xs (3 + j) - 48)) else none
theorem runS_lt (xs : List UInt8) : ∀ j n, runS xs j = some n → n < 10 ^ j
  | 0, n, h => by simp [runS] at h; omega
  | j + 1, n, h => by
    unfold runS at h
    split at h
    · cases h
    · rename_i m hm
      have := runS_lt xs j m hm
      split at h
      · cases h; rw [Nat.pow_succ]; omega
      · cases h
theorem runS_none {xs : List UInt8} {k : Nat} (h : runS xs k = none) : ∀ j, k ≤ j → runS xs j = none
  | 0, hj => by obtain rfl : k = 0 := by omega
                exact h
  | j + 1, hj => by
    by_cases he : k = j + 1
    · rw [← he]; exact h
    · show (match runS xs j with | none => none | some n => _) = none
      rw [runS_none h j (by omega)]
/-- How many bytes a word tells; 0: none. -/
def runN (xs : List UInt8) : Nat := if xs.length = 2 then 1 else if xs.length < 4 ∨ 5 < xs.length ∨ bt xs 2 ≠ 42 then 0 else (runS xs (xs.length - 3)).getD 0

set_option maxRecDepth 20000 in
set_option maxHeartbeats 4000000 in
theorem run_any (s : ByteArray) (w : World) (hs : s.size ≤ 9223372036854775807) :
    Calls Tryd.prog 34 #[.string s] w fun e w' => e = .returned (.int .i64 (runN s.data.toList : Int)) ∧ w' = w := by
  have hl : s.data.toList.length = s.size := rfl
  by_cases h2 : s.size = 2
  · have hv : runN s.data.toList = 1 := if_pos h2
    rw [hv]
    have i1 : (s.size : Int) = 2 := by omega
    clear hv h2 hs hl
    go_enter Tryd.func34, Tryd.ntmps34
    go_wp2
    go_ret
    exact ⟨rfl, rfl⟩
  · by_cases h45 : s.size < 4 ∨ 5 < s.size
    · have hv : runN s.data.toList = 0 := by unfold runN; rw [hl, if_neg h2, if_pos (by omega)]
      rw [hv]
      have i1 : ¬ (s.size : Int) = 2 := by omega
      have HN := Lib.hid h45
      clear hv hs hl h45
      go_enter Tryd.func34, Tryd.ntmps34
      go_wp2
      all_goals (try (exfalso; have := HN.out; omega))
      all_goals go_ret
      all_goals exact ⟨rfl, rfl⟩
    · have hix := fun i h w => index_text s i h w
      have hix2 : ∀ w, (Instr.index 9 (.string s) (.int .i64 2)).run Tryd.prog w = .ok (.int .u8 (bt s.data.toList 2 : Int)) w := hix 2 (by omega)
      by_cases h42 : bt s.data.toList 2 = 42
      · have hv : runN s.data.toList = (runS s.data.toList (s.size - 3)).getD 0 := by unfold runN; rw [hl, if_neg h2, if_neg (by omega)]
        have HV := Lib.hid hv
        have HIX := Lib.hid hix
        rw [h42] at hix2
        have hix2' : ∀ w, (Instr.index 9 (.string s) (.int .i64 2)).run Tryd.prog w = .ok (.int .u8 42) w := hix2
        have i1 : (4 : Int) ≤ (s.size : Int) := by omega
        have i2 : (s.size : Int) ≤ 5 := by omega
        clear hv hix hs h42 hix2
        go_enter Tryd.func34, Tryd.ntmps34
        go_wp2
        go_loopw [3, 4] (fun n i wr => ∃ j m : Nat, 3 + j ≤ s.size ∧ i = .int .i64 ((3 + j : Nat) : Int) ∧ n = .int .i64 (m : Int) ∧ runS s.data.toList j = some m ∧ wr = w) (fun _ i _ => s.size - (intOf i).toNat)
        case atStart => exact ⟨0, 0, by omega, rfl, rfl, rfl, rfl⟩
        case round =>
          obtain ⟨j, m, hj, rfl, rfl, hr, rfl⟩ := hrel
          have hm : m < 100 := Nat.lt_of_lt_of_le (runS_lt _ _ _ hr) (Nat.le_trans (Nat.pow_le_pow_right (by omega) (show j ≤ 2 by omega)) (by decide))
          obtain ⟨p, hp⟩ : ∃ p, p = 3 + j := ⟨_, rfl⟩
          rw [← hp]
          by_cases hlt : 3 + j < s.size
          · have hx := HIX.out p (by omega)
            change ∀ w, _ = Result.ok (Value.int .u8 (bt s.data.toList p : Int)) w at hx
            have hstep : runS s.data.toList (j + 1) = if 48 ≤ bt s.data.toList p ∧ bt s.data.toList p ≤ 57 then some (10 * m + (bt s.data.toList p - 48)) else none := by
              show (match runS s.data.toList j with | none => none | some n => _) = _
              rw [hr, hp]
            have hb := bt_lt s.data.toList p
            generalize bt s.data.toList p = c at *
            have HS := Lib.hid hstep
            have HJ := Lib.hid hj
            have HLT := Lib.hid hlt
            have HP := Lib.hid hp
            have i3 : (p : Int) < (s.size : Int) := by omega
            have i4 : (0 : Int) ≤ (p : Int) := by omega
            have hm2 : (m : Int) < 100 := by omega
            clear hstep hj hlt hr hp
            go_wp2
            · have hn : runS s.data.toList (j + 1) = none := by rw [HS.out, if_neg (by omega)]
              have hz : runN s.data.toList = 0 := by rw [HV.out, runS_none hn _ (by have := HLT.out; omega)]; rfl
              go_ret
              exact ⟨by rw [hz]; rfl, rfl⟩
            · have hn : runS s.data.toList (j + 1) = some (10 * m + (c - 48)) := by rw [HS.out, if_pos (by omega)]
              refine ⟨⟨j + 1, 10 * m + (c - 48), by have := HLT.out; omega, ?_, ?_, hn, trivial⟩, ?_⟩
              · have := HP.out; go_num
              · go_num
              · have := HP.out; have := HLT.out; simp [intOf]; omega
            · have hn : runS s.data.toList (j + 1) = none := by rw [HS.out, if_neg (by omega)]
              have hz : runN s.data.toList = 0 := by rw [HV.out, runS_none hn _ (by have := HLT.out; omega)]; rfl
              go_ret
              exact ⟨by rw [hz]; rfl, rfl⟩
          · have hz : runN s.data.toList = m := by rw [HV.out, show s.size - 3 = j from by omega, hr]; rfl
            have i3 : ¬ (p : Int) < (s.size : Int) := by omega
            have HZ := Lib.hid hz
            clear hz hj hr hlt hp
            go_wp2
            go_ret
            exact ⟨by rw [HZ.out]; rfl, rfl⟩
      · have hv : runN s.data.toList = 0 := by unfold runN; rw [hl, if_neg h2, if_pos (by omega)]
        rw [hv]
        generalize bt s.data.toList 2 = c at *
        have i1 : (4 : Int) ≤ (s.size : Int) := by omega
        have i2 : (s.size : Int) ≤ 5 := by omega
        have i3 : ((c : Int) == 42) = false := by simpa using (by omega : ¬ (c : Int) = 42)
        have i4 : ((c : Int) != 42) = true := by simpa using (by omega : ¬ (c : Int) = 42)
        clear hv hix hs h42
        go_enter Tryd.func34, Tryd.ntmps34
        go_wp2
        go_ret
        exact ⟨rfl, rfl⟩

end Go.Proofs.YtgblhcikffecfaaDoor

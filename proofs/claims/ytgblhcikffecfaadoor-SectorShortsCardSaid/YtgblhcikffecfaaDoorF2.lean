/-
  Contract of the reference's Differ.
-/
import Derived.Test.YtgblhcikffecfaaDoorF1
namespace Go.Proofs.YtgblhcikffecfaaDoor
open Go.RowKit
set_option linter.unusedVariables false
set_option linter.unusedSimpArgs false

set_option maxRecDepth 20000 in
set_option maxHeartbeats 1000000 in
theorem rdiffer_any (a b : ByteArray) (w : World) (ha : a.size ≤ 9223372036854775807) (hb : b.size ≤ 9223372036854775807) :
    Calls Tryd.prog 18 #[.string a, .string b] w fun e w' => e = .returned (differ a b) ∧ Below w.heap.size w w' := by
  have la : a.data.toList.length = a.size := rfl
  have lb : b.data.toList.length = b.size := rfl
  unfold differ
  go_enter Tryd.func18, Tryd.ntmps18
  go_wp2
  go_loopw [8, 6, 7] (fun i n f wr => ∃ k : Nat, k ≤ max a.size b.size ∧ i = .int .i64 k ∧ n = .int .i64 ((cnt a.data.toList b.data.toList k).1 : Int) ∧ f = .int .i64 ((cnt a.data.toList b.data.toList k).2 : Int) ∧ Below w.heap.size w wr) (fun i _ _ _ => max a.size b.size - (intOf i).toNat)
  case atStart => exact ⟨0, by omega, rfl, rfl, rfl, Below.refl _ _⟩
  case round =>
    obtain ⟨k, hk, rfl, rfl, rfl, hB⟩ := hrel
    by_cases hlt : k < max a.size b.size
    · have i0 : (k : Int) < max (a.size : Int) (b.size : Int) := by omega
      have i00 : (0 : Int) ≤ (k : Int) := by omega
      have hle := cnt_le a.data.toList b.data.toList k
      have hs1 := @cnt_same a.data.toList b.data.toList k
      have hs2 := @cnt_first a.data.toList b.data.toList k
      have hs3 := @cnt_more a.data.toList b.data.toList k
      rw [la, lb] at hs1 hs2 hs3
      obtain ⟨c1, c2, hC⟩ : ∃ c1 c2, cnt a.data.toList b.data.toList k = (c1, c2) := ⟨_, _, rfl⟩
      rw [hC] at hle hs1 hs2 hs3 ⊢
      clear hC
      dsimp only at hle hs1 hs2 hs3 ⊢
      have b0 : (0 : Int) ≤ (c1 : Int) := by omega
      have b1 : (c1 : Int) + 1 ≤ 9223372036854775807 := by omega
      have b2 : (k : Int) + 1 ≤ 9223372036854775807 := by omega
      have HB := Lib.hid hB
      by_cases h1 : k < a.size
      · have i1 : (k : Int) < (a.size : Int) := by omega
        have HG1 := Lib.hid (show decide (a.size ≤ k) = false by simp; omega)
        by_cases h2 : k < b.size
        · have i2 : (k : Int) < (b.size : Int) := by omega
          have HG2 := Lib.hid (show decide (b.size ≤ k) = false by simp; omega)
          have hx1 : ∀ w, (Instr.index 9 (.string a) (.int .i64 (k : Int))).run Tryd.prog w = .ok (.int .u8 (bt a.data.toList k : Int)) w := index_text a k h1
          have hx2 : ∀ w, (Instr.index 9 (.string b) (.int .i64 (k : Int))).run Tryd.prog w = .ok (.int .u8 (bt b.data.toList k : Int)) w := index_text b k h2
          by_cases he : bt a.data.toList k = bt b.data.toList k
          · have hs1 := hs1 ⟨h1, h2, he⟩
            rw [he] at hx1
            generalize bt b.data.toList k = y at hx1 hx2
            clear he
            have HC := Lib.hid (hs1)
            clear hs1 hs2 hs3 hB
            go_wp2_with fail
            have e1 := HG1.out
            have e2 := HG2.out
            go_quiet (fail)
            try simp only [HG1.out, HG2.out, Bool.or_false, Bool.false_or, Bool.or_true, Bool.true_or, Bool.or_self]
            go_wp2
            go_roundw
            case rel => exact ⟨k + 1, by omega, by go_num, by rw [HC.out]; try rfl, by rw [HC.out]; try rfl, HB.out.grown (gb_drewN _ _ none) HB.out.size (fun j h => by cases h)⟩
            case measure => simp [intOf]; omega
          · have hn : ¬ (k < a.size ∧ k < b.size ∧ bt a.data.toList k = bt b.data.toList k) := fun h => he h.2.2
            have HN := Lib.hid hn
            have he' : ¬ ((bt a.data.toList k : Int) = (bt b.data.toList k : Int)) := by omega
            have hs2 := hs2 hn
            have hs3 := hs3 hn
            clear hn he hs1 HN
            generalize (bt a.data.toList k : Int) = x at hx1 he'
            generalize (bt b.data.toList k : Int) = y at hx2 he'
            have hs1 := trivial
            have HX1 := Lib.hid (show (x == y) = false by simpa using he')
            have HX2 := Lib.hid (show (x != y) = true by simpa using he')
            have HX3 := Lib.hid (show decide (x = y) = false by simpa using he')
            clear he'
            by_cases h0 : c1 = 0
            · subst h0
              have HC := Lib.hid (hs2  rfl)
              clear hs1 hs2 hs3 hB
              go_wp2_with fail
              have e1 := HG1.out
              have e2 := HG2.out
              go_quiet (fail)
              try simp only [HG1.out, HG2.out, HX1.out, HX2.out, HX3.out, Bool.not_false, Bool.not_true, Bool.or_false, Bool.false_or, Bool.or_true, Bool.true_or, Bool.or_self]
              go_wp2
              go_roundw
              case rel => exact ⟨k + 1, by omega, by go_num, by rw [HC.out]; try rfl, by rw [HC.out]; try rfl, HB.out.grown (gb_drewN _ _ none) HB.out.size (fun j h => by cases h)⟩
              case measure => simp [intOf]; omega
            · have h0' : ¬ ((c1 : Int) = 0) := by omega
              have h0'' : ((c1 : Int) == 0) = false := by simpa using h0
              have HC := Lib.hid (hs3  h0)
              clear hs1 hs2 hs3 hB
              go_wp2_with fail
              have e1 := HG1.out
              have e2 := HG2.out
              go_quiet (fail)
              try simp only [HG1.out, HG2.out, HX1.out, HX2.out, HX3.out, Bool.not_false, Bool.not_true, Bool.or_false, Bool.false_or, Bool.or_true, Bool.true_or, Bool.or_self]
              go_wp2
              go_roundw
              case rel => exact ⟨k + 1, by omega, by go_num, by rw [HC.out]; try rfl, by rw [HC.out]; try rfl, HB.out.grown (gb_drewN _ _ none) HB.out.size (fun j h => by cases h)⟩
              case measure => simp [intOf]; omega
        · have i2 : ¬ (k : Int) < (b.size : Int) := by omega
          have HG2 := Lib.hid (show decide (b.size ≤ k) = true by simp; omega)
          have hs2 := hs2 (fun h => h2 h.2.1)
          have hs3 := hs3 (fun h => h2 h.2.1)
          by_cases h0 : c1 = 0
          · subst h0
            have HC := Lib.hid (hs2  rfl)
            clear hs1 hs2 hs3 hB
            go_wp2_with fail
            have e1 := HG1.out
            have e2 := HG2.out
            go_quiet (fail)
            try simp only [HG1.out, HG2.out, Bool.or_false, Bool.false_or, Bool.or_true, Bool.true_or, Bool.or_self]
            go_wp2
            go_roundw
            case rel => exact ⟨k + 1, by omega, by go_num, by rw [HC.out]; try rfl, by rw [HC.out]; try rfl, HB.out.grown (gb_drewN _ _ none) HB.out.size (fun j h => by cases h)⟩
            case measure => simp [intOf]; omega
          · have h0' : ¬ ((c1 : Int) = 0) := by omega
            have h0'' : ((c1 : Int) == 0) = false := by simpa using h0
            have HC := Lib.hid (hs3  h0)
            clear hs1 hs2 hs3 hB
            go_wp2_with fail
            have e1 := HG1.out
            have e2 := HG2.out
            go_quiet (fail)
            try simp only [HG1.out, HG2.out, Bool.or_false, Bool.false_or, Bool.or_true, Bool.true_or, Bool.or_self]
            go_wp2
            go_roundw
            case rel => exact ⟨k + 1, by omega, by go_num, by rw [HC.out]; try rfl, by rw [HC.out]; try rfl, HB.out.grown (gb_drewN _ _ none) HB.out.size (fun j h => by cases h)⟩
            case measure => simp [intOf]; omega
      · have i1 : ¬ (k : Int) < (a.size : Int) := by omega
        have HG1 := Lib.hid (show decide (a.size ≤ k) = true by simp; omega)
        have hs2 := hs2 (fun h => h1 h.1)
        have hs3 := hs3 (fun h => h1 h.1)
        by_cases h2 : k < b.size
        · have i2 : (k : Int) < (b.size : Int) := by omega
          have HG2 := Lib.hid (show decide (b.size ≤ k) = false by simp; omega)
          by_cases h0 : c1 = 0
          · subst h0
            have HC := Lib.hid (hs2  rfl)
            clear hs1 hs2 hs3 hB
            go_wp2_with fail
            have e1 := HG1.out
            have e2 := HG2.out
            go_quiet (fail)
            try simp only [HG1.out, HG2.out, Bool.or_false, Bool.false_or, Bool.or_true, Bool.true_or, Bool.or_self]
            go_wp2
            go_roundw
            case rel => exact ⟨k + 1, by omega, by go_num, by rw [HC.out]; try rfl, by rw [HC.out]; try rfl, HB.out.grown (gb_drewN _ _ none) HB.out.size (fun j h => by cases h)⟩
            case measure => simp [intOf]; omega
          · have h0' : ¬ ((c1 : Int) = 0) := by omega
            have h0'' : ((c1 : Int) == 0) = false := by simpa using h0
            have HC := Lib.hid (hs3  h0)
            clear hs1 hs2 hs3 hB
            go_wp2_with fail
            have e1 := HG1.out
            have e2 := HG2.out
            go_quiet (fail)
            try simp only [HG1.out, HG2.out, Bool.or_false, Bool.false_or, Bool.or_true, Bool.true_or, Bool.or_self]
            go_wp2
            go_roundw
            case rel => exact ⟨k + 1, by omega, by go_num, by rw [HC.out]; try rfl, by rw [HC.out]; try rfl, HB.out.grown (gb_drewN _ _ none) HB.out.size (fun j h => by cases h)⟩
            case measure => simp [intOf]; omega
        · exact absurd hlt (by omega)
    · obtain rfl : k = max a.size b.size := by omega
      have i1 : ¬ ((max a.size b.size : Nat) : Int) < (a.size : Int) := by omega
      have i2 : ¬ ((max a.size b.size : Nat) : Int) < (b.size : Int) := by omega
      generalize hM : max a.size b.size = M at *
      have HM := Lib.hid hM
      clear hM
      go_wp2
      refine bodyPost_ret (results_tmp2 rfl _ _ _) rfl ?_
      exact ⟨by rw [HM.out]; rfl, hB⟩

end Go.Proofs.YtgblhcikffecfaaDoor

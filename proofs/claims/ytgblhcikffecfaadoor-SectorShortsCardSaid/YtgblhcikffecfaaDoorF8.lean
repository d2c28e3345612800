/-
  Contract of the reference's Short.
-/
import Derived.Test.YtgblhcikffecfaaDoorF7
namespace Go.Proofs.YtgblhcikffecfaaDoor
open Go.RowKit
set_option linter.unusedVariables false
set_option linter.unusedSimpArgs false

/-- What Short answers. -/
def shortV (s : ByteArray) : Value := if s.size = 64 then strV (txt (rs s.data.toList 64).1) else strV []

set_option maxRecDepth 20000 in
set_option maxHeartbeats 4000000 in
theorem rshort_any (s : ByteArray) (w : World) :
    Calls Tryd.prog 22 #[.string s] w fun e w' => e = .returned (shortV s) ∧ Below w.heap.size w w' := by
  have hr := rright_any s w
  by_cases h64 : s.size = 64
  · rw [decide_eq_true h64] at hr
    have hv : shortV s = strV (txt (rs s.data.toList 64).1) := if_pos h64
    rw [hv]
    have h64' : (s.size : Int) = 64 := by omega
    have hll : s.data.toList.length = 64 := h64
    have HR := Lib.hid hr
    have H64 := Lib.hid h64
    have H64' := Lib.hid h64'
    have HLL := Lib.hid hll
    clear hr hv h64 h64' hll
    go_enter Tryd.func22, Tryd.ntmps22
    go_wp2_with fail
    refine HR.out.mono ?_
    rintro e w1 ⟨rfl, hw1⟩; obtain rfl := hw1.symm; clear hw1
    go_wp2
    go_loopw [4, 3] (fun i o wr => ∃ k : Nat, k ≤ 64 ∧ i = .int .i64 (k : Int) ∧ (rs s.data.toList k).2 = k ∧ o = strV (txt (rs s.data.toList k).1) ∧ Below w.heap.size w wr) (fun i _ _ => 64 - (intOf i).toNat)
    case atStart => exact ⟨0, by omega, rfl, rfl, rfl, Below.refl _ _⟩
    case round =>
      obtain ⟨k, hk, rfl, hkk, rfl, hB⟩ := hrel
      have HB := Lib.hid hB
      have HKK := Lib.hid hkk
      clear hB hkk
      by_cases hlt : k < 64
      · have i1 : (k : Int) < (s.size : Int) := by have := H64'.out; omega
        have i0 : (0 : Int) ≤ (k : Int) := by omega
        have i64 : (k : Int) < 64 := by omega
        obtain ⟨T, hT⟩ : ∃ T, T = txt (rs s.data.toList k).1 := ⟨_, rfl⟩
        rw [← hT]
        have HT := Lib.hid hT
        clear hT
        go_wp2
        go_loopw [5] (fun n wr => ∃ j : Nat, 1 ≤ j ∧ k + j ≤ 64 ∧ n = .int .i64 (j : Int) ∧ rs s.data.toList (k + j - 1) = rs s.data.toList k ∧ bt s.data.toList (k + j - 1) = bt s.data.toList k ∧ Below w.heap.size w wr) (fun n _ => 64 - (intOf n).toNat)
        case atStart => exact ⟨1, by omega, by omega, by go_num, rfl, rfl, HB.out⟩
        case round =>
          obtain ⟨j, hj1, hj2, rfl, hrs, hbt, hB2⟩ := hrel
          have HRS := Lib.hid hrs
          have HBT := Lib.hid hbt
          have HB2 := Lib.hid hB2
          have hx1 : ∀ w, (Instr.index 9 (.string s) (.int .i64 (k : Int))).run Tryd.prog w = .ok (.int .u8 (bt s.data.toList k : Int)) w := index_text s k (by rw [H64.out]; exact hlt)
          have j0 : (1 : Int) ≤ (j : Int) := by omega
          have j1 : (k : Int) + (j : Int) ≤ 64 := by omega
          clear hrs hbt hB2
          by_cases h1 : k + j < 64
          · have i4 : (k : Int) + (j : Int) < (s.size : Int) := by have := H64'.out; omega
            have hx2 : ∀ w, (Instr.index 9 (.string s) (.int .i64 ((k : Int) + (j : Int)))).run Tryd.prog w = .ok (.int .u8 (bt s.data.toList (k + j) : Int)) w := by
              have := index_text s (k + j) (by rw [H64.out]; exact h1)
              rw [show ((k + j : Nat) : Int) = (k : Int) + (j : Int) from by omega] at this
              exact this
            by_cases he : bt s.data.toList (k + j) = bt s.data.toList k
            · have hn1 : rs s.data.toList (k + j) = rs s.data.toList k := by
                have e : k + j = (k + j - 1) + 1 := by omega
                have hs : (k + j - 1) + 1 < s.data.toList.length ∧ bt s.data.toList ((k + j - 1) + 1) = bt s.data.toList (k + j - 1) := ⟨by rw [HLL.out]; omega, by rw [← e, he, HBT.out]⟩
                rw [e, rs_same hs]; exact HRS.out
              have HN1 := Lib.hid hn1
              have HE := Lib.hid he
              rw [he] at hx2
              obtain ⟨y, hy⟩ : ∃ y, y = bt s.data.toList k := ⟨_, rfl⟩
              rw [← hy] at hx1 hx2
              have HY := Lib.hid hy
              clear hn1 he hy
              go_wp2_with fail
              go_quiet (fail)
              go_wp2
              go_roundw
              case rel => exact ⟨j + 1, by omega, by omega, by go_num, HN1.out, HE.out, HB2.out.grown (gb_drewN _ _ none) HB2.out.size (fun j h => by cases h)⟩
              case measure => simp [intOf]; omega
            · have hend : rs s.data.toList (k + j) = ((rs s.data.toList k).1 ++ [mkR (bt s.data.toList k) j], k + j) := by
                have e : k + j = (k + j - 1) + 1 := by omega
                have hs : ¬ ((k + j - 1) + 1 < s.data.toList.length ∧ bt s.data.toList ((k + j - 1) + 1) = bt s.data.toList (k + j - 1)) := by
                  rw [← e, HLL.out, HBT.out]
                  exact (fun h => he h.2)
                conv => lhs; rw [e]
                rw [rs_ends hs, HRS.out, HBT.out, HKK.out, ← e, show k + j - k = j from by omega]
              have hTl : T.length ≤ 400 := by
                have := txt_len (rs s.data.toList k).1
                have := (rs_le s.data.toList k).1
                rw [HT.out]; omega
              have hend1 : (rs s.data.toList (k + j)).1 = (rs s.data.toList k).1 ++ [mkR (bt s.data.toList k) j] := by rw [hend]
              have hend2 : (rs s.data.toList (k + j)).2 = k + j := by rw [hend]
              have hv1 := mkR_val (bt s.data.toList k) j (bt_lt _ _) (by omega)
              have HE1 := Lib.hid hend1
              have HE2 := Lib.hid hend2
              have hc := cut_one s k (by rw [H64.out]; exact hlt)
              have hD := fun w => rdigits_any ⟨#[(s.data.toList)[k]?.getD 0]⟩ w (by show (1 : Nat) ≤ _; omega)
              have hE := fun w => rdec_any j (by omega) w
              have hxl : hexL (⟨#[(s.data.toList)[k]?.getD 0]⟩ : ByteArray).data.toList = [hx (bt s.data.toList k / 16), hx (bt s.data.toList k % 16)] := rfl
              rw [hxl] at hD
              have hdl : (Lib.decDigits j).length ≤ 2 := by
                by_cases h : j < 10
                · rw [dec_one j h]; simp
                · rw [dec_two j h (by omega)]; simp
              obtain ⟨DB, hDB⟩ : ∃ l, l = [hx (bt s.data.toList k / 16), hx (bt s.data.toList k % 16)] := ⟨_, rfl⟩
              rw [← hDB] at hD
              have hdb2 : DB.length = 2 := by rw [hDB]; rfl
              obtain ⟨DJ, hDJ⟩ : ∃ l, l = Lib.decDigits j := ⟨_, rfl⟩
              rw [← hDJ] at hE hdl
              have hw1 : (rs s.data.toList k).1 = [] → j = 1 → txt (rs s.data.toList (k + j)).1 = DB := fun h0 h1 => by
                rw [hend1, h0, List.nil_append, txt_one, hv1.1, hv1.2, hDB]; unfold spellL; rw [if_neg (by omega)]; rfl
              have hw2 : (rs s.data.toList k).1 = [] → 1 < j → txt (rs s.data.toList (k + j)).1 = DB ++ [42] ++ DJ := fun h0 h1 => by
                rw [hend1, h0, List.nil_append, txt_one, hv1.1, hv1.2, hDB, hDJ]; unfold spellL; rw [if_pos h1]; rfl
              have hw3 : (rs s.data.toList k).1 ≠ [] → j = 1 → txt (rs s.data.toList (k + j)).1 = T ++ [32] ++ DB := fun h0 h1 => by
                rw [hend1, txt_snoc _ _ h0, hv1.1, hv1.2, hDB, HT.out]; unfold spellL; rw [if_neg (by omega)]; rfl
              have hw4 : (rs s.data.toList k).1 ≠ [] → 1 < j → txt (rs s.data.toList (k + j)).1 = T ++ [32] ++ DB ++ [42] ++ DJ := fun h0 h1 => by
                rw [hend1, txt_snoc _ _ h0, hv1.1, hv1.2, hDB, hDJ, HT.out]; unfold spellL; rw [if_pos h1]; simp
              have HD := Lib.hid hD
              have HE := Lib.hid hE
              have HW1 := Lib.hid hw1
              have HW2 := Lib.hid hw2
              have HW3 := Lib.hid hw3
              have HW4 := Lib.hid hw4
              have hk0 := (rs_le s.data.toList k).1
              have HK0 := Lib.hid hk0
              clear hend hend1 hend2 hv1 hxl hDB hDJ hD hE hw1 hw2 hw3 hw4 hk0
              obtain ⟨SB, hSB⟩ : ∃ v, v = Value.string ⟨#[(s.data.toList)[k]?.getD 0]⟩ := ⟨_, rfl⟩
              rw [← hSB] at hc HD
              clear hSB
              have he' : ¬ ((bt s.data.toList (k + j) : Int) = (bt s.data.toList k : Int)) := by omega
              obtain ⟨y1, hy1⟩ : ∃ y, y = (bt s.data.toList k : Int) := ⟨_, rfl⟩
              obtain ⟨y2, hy2⟩ : ∃ y, y = (bt s.data.toList (k + j) : Int) := ⟨_, rfl⟩
              rw [← hy1] at hx1 he'
              rw [← hy2] at hx2 he'
              have he2 : (y2 == y1) = false := by simpa using he'
              clear he' he hy1 hy2
              by_cases hk0 : k = 0
              · have hnil : (rs s.data.toList k).1 = [] := List.eq_nil_of_length_eq_zero (by have := HK0.out; omega)
                have hT0 : T = [] := by rw [HT.out, hnil]; rfl
                have HK00 := Lib.hid hk0
                have a2 := add_texts T DB (by omega)
                clear hk0
                by_cases hj : j = 1
                · have hfin := HW1.out hnil hj
                  have i6 : ¬ (1 : Int) < (j : Int) := by omega
                  rw [hT0, List.nil_append] at a2
                  have HF := Lib.hid (show strV (txt (rs s.data.toList (k + j)).1) = strV (txt (rs s.data.toList (k + j)).1) from rfl)
                  obtain ⟨VF, hVF⟩ : ∃ v, v = strV (txt (rs s.data.toList (k + j)).1) := ⟨_, rfl⟩
                  rw [hfin] at hVF
                  have HVF := Lib.hid hVF
                  have HFI := Lib.hid hfin
                  clear hVF hfin HF hj
                  rw [hT0]
                  have HD' := HD.out
                  generalize hVD : strV DB = VD at a2 HD'
                  have HVD := Lib.hid hVD
                  clear hVD
                  show Code.wp _ _ _ _ _
                  have HDD := Lib.hid HD'
                  clear HD'
                  go_wp2_with fail
                  go_quiet (fail)
                  have i5 : ¬ (0 : Int) < (k : Int) := by have := HK00.out; omega
                  go_wp2_with fail
                  refine (HDD.out _).mono ?_
                  rintro e w5 ⟨rfl, hb5⟩
                  have hB5 := (HB2.out.grown (gb_drewN _ nq none) HB2.out.size (fun j h => by cases h)).trans (hb5.mono (HB2.out.grown (gb_drewN _ nq none) HB2.out.size (fun j h => by cases h)).size)
                  have HB5 := Lib.hid hB5
                  clear hb5 hB5
                  go_wp2
                  go_roundw
                  case rel => exact ⟨k + j, by omega, by have := HK00.out; go_num, HE2.out, by rw [HFI.out]; exact HVD.out.symm, HB5.out⟩
                  case measure => simp [intOf]; omega
                · have hfin := HW2.out hnil (by omega)
                  have i6 : (1 : Int) < (j : Int) := by omega
                  rw [hT0, List.nil_append] at a2
                  have a3 := add_texts DB [42] (by simp; omega)
                  have a4 := add_texts (DB ++ [42]) DJ (by simp; omega)
                  rw [← hfin] at a4
                  have HF := Lib.hid (show strV (txt (rs s.data.toList (k + j)).1) = strV (txt (rs s.data.toList (k + j)).1) from rfl)
                  obtain ⟨VF, hVF⟩ : ∃ v, v = strV (txt (rs s.data.toList (k + j)).1) := ⟨_, rfl⟩
                  rw [← hVF] at a4
                  have HVF := Lib.hid hVF
                  clear hVF hfin HF hj
                  rw [hT0]
                  change ∀ w, (binOp .add 9 _ (.string ⟨#[42]⟩)).run _ w = _ at a3
                  generalize strV (DB ++ [42]) = V3 at a3 a4
                  have HE' := HE.out
                  generalize strV DJ = VJ at a4 HE'
                  have HEJ := Lib.hid HE'
                  clear HE'
                  have HD' := HD.out
                  generalize hVD : strV DB = VD at a2 a3 HD'
                  show Code.wp _ _ _ _ _
                  have HDD := Lib.hid HD'
                  clear HD'
                  go_wp2_with fail
                  go_quiet (fail)
                  have i5 : ¬ (0 : Int) < (k : Int) := by have := HK00.out; omega
                  go_wp2_with fail
                  refine (HDD.out _).mono ?_
                  rintro e w5 ⟨rfl, hb5⟩
                  have hB5 := (HB2.out.grown (gb_drewN _ nq none) HB2.out.size (fun j h => by cases h)).trans (hb5.mono (HB2.out.grown (gb_drewN _ nq none) HB2.out.size (fun j h => by cases h)).size)
                  have HB5 := Lib.hid hB5
                  clear hb5 hB5
                  go_wp2_with fail
                  refine (HEJ.out _).mono ?_
                  rintro e w6 ⟨rfl, hb6⟩
                  have HB6 := Lib.hid (HB5.out.trans (hb6.mono HB5.out.size))
                  clear hb6
                  go_wp2
                  go_roundw
                  case rel => exact ⟨k + j, by omega, by have := HK00.out; go_num, HE2.out, HVF.out, HB6.out⟩
                  case measure => simp [intOf]; omega
              · have hne := rs_some HKK.out (by omega)
                have i5 : (0 : Int) < (k : Int) := by omega
                have a1 := add_texts T [32] (by simp; omega)
                have a2 := add_texts (T ++ [32]) DB (by simp; omega)
                by_cases hj : j = 1
                · have hfin := HW3.out hne hj
                  have i6 : ¬ (1 : Int) < (j : Int) := by omega
                  rw [← hfin] at a2
                  have HF := Lib.hid (show strV (txt (rs s.data.toList (k + j)).1) = strV (txt (rs s.data.toList (k + j)).1) from rfl)
                  obtain ⟨VF, hVF⟩ : ∃ v, v = strV (txt (rs s.data.toList (k + j)).1) := ⟨_, rfl⟩
                  rw [← hVF] at a2
                  have HVF := Lib.hid hVF
                  clear hVF hfin HF hj
                  change ∀ w, (binOp .add 9 _ (.string ⟨#[32]⟩)).run _ w = _ at a1
                  generalize strV (T ++ [32]) = V1 at a1 a2
                  have HD' := HD.out
                  generalize strV DB = VD at a2 HD'
                  have HDD := Lib.hid HD'
                  clear HD'
                  generalize strV T = V0 at a1 ⊢
                  go_wp2_with fail
                  go_quiet (fail)
                  go_wp2_with fail
                  refine (HDD.out _).mono ?_
                  rintro e w5 ⟨rfl, hb5⟩
                  have hB5 := (HB2.out.grown (gb_drewN _ nq none) HB2.out.size (fun j h => by cases h)).trans (hb5.mono (HB2.out.grown (gb_drewN _ nq none) HB2.out.size (fun j h => by cases h)).size)
                  have HB5 := Lib.hid hB5
                  clear hb5 hB5
                  go_wp2
                  go_roundw
                  case rel => exact ⟨k + j, by omega, by go_num, HE2.out, HVF.out, HB5.out⟩
                  case measure => simp [intOf]; omega
                · have hfin := HW4.out hne (by omega)
                  have i6 : (1 : Int) < (j : Int) := by omega
                  have a3 := add_texts (T ++ [32] ++ DB) [42] (by simp; omega)
                  have a4 := add_texts (T ++ [32] ++ DB ++ [42]) DJ (by simp; omega)
                  rw [← hfin] at a4
                  have HF := Lib.hid (show strV (txt (rs s.data.toList (k + j)).1) = strV (txt (rs s.data.toList (k + j)).1) from rfl)
                  obtain ⟨VF, hVF⟩ : ∃ v, v = strV (txt (rs s.data.toList (k + j)).1) := ⟨_, rfl⟩
                  rw [← hVF] at a4
                  have HVF := Lib.hid hVF
                  clear hVF hfin HF hj
                  change ∀ w, (binOp .add 9 _ (.string ⟨#[32]⟩)).run _ w = _ at a1
                  change ∀ w, (binOp .add 9 _ (.string ⟨#[42]⟩)).run _ w = _ at a3
                  generalize strV (T ++ [32] ++ DB ++ [42]) = V3 at a3 a4
                  generalize strV (T ++ [32] ++ DB) = V2 at a2 a3
                  have HE' := HE.out
                  generalize strV DJ = VJ at a4 HE'
                  have HEJ := Lib.hid HE'
                  clear HE'
                  generalize strV (T ++ [32]) = V1 at a1 a2
                  have HD' := HD.out
                  generalize strV DB = VD at a2 HD'
                  have HDD := Lib.hid HD'
                  clear HD'
                  generalize strV T = V0 at a1 ⊢
                  go_wp2_with fail
                  go_quiet (fail)
                  go_wp2_with fail
                  refine (HDD.out _).mono ?_
                  rintro e w5 ⟨rfl, hb5⟩
                  have hB5 := (HB2.out.grown (gb_drewN _ nq none) HB2.out.size (fun j h => by cases h)).trans (hb5.mono (HB2.out.grown (gb_drewN _ nq none) HB2.out.size (fun j h => by cases h)).size)
                  have HB5 := Lib.hid hB5
                  clear hb5 hB5
                  go_wp2_with fail
                  refine (HEJ.out _).mono ?_
                  rintro e w6 ⟨rfl, hb6⟩
                  have HB6 := Lib.hid (HB5.out.trans (hb6.mono HB5.out.size))
                  clear hb6
                  go_wp2
                  go_roundw
                  case rel => exact ⟨k + j, by omega, by go_num, HE2.out, HVF.out, HB6.out⟩
                  case measure => simp [intOf]; omega
          · have hend : rs s.data.toList (k + j) = ((rs s.data.toList k).1 ++ [mkR (bt s.data.toList k) j], k + j) := by
              have e : k + j = (k + j - 1) + 1 := by omega
              have hs : ¬ ((k + j - 1) + 1 < s.data.toList.length ∧ bt s.data.toList ((k + j - 1) + 1) = bt s.data.toList (k + j - 1)) := by
                rw [← e, HLL.out, HBT.out]
                exact (fun h => h1 h.1)
              conv => lhs; rw [e]
              rw [rs_ends hs, HRS.out, HBT.out, HKK.out, ← e, show k + j - k = j from by omega]
            have hTl : T.length ≤ 400 := by
              have := txt_len (rs s.data.toList k).1
              have := (rs_le s.data.toList k).1
              rw [HT.out]; omega
            have hend1 : (rs s.data.toList (k + j)).1 = (rs s.data.toList k).1 ++ [mkR (bt s.data.toList k) j] := by rw [hend]
            have hend2 : (rs s.data.toList (k + j)).2 = k + j := by rw [hend]
            have hv1 := mkR_val (bt s.data.toList k) j (bt_lt _ _) (by omega)
            have HE1 := Lib.hid hend1
            have HE2 := Lib.hid hend2
            have hc := cut_one s k (by rw [H64.out]; exact hlt)
            have hD := fun w => rdigits_any ⟨#[(s.data.toList)[k]?.getD 0]⟩ w (by show (1 : Nat) ≤ _; omega)
            have hE := fun w => rdec_any j (by omega) w
            have hxl : hexL (⟨#[(s.data.toList)[k]?.getD 0]⟩ : ByteArray).data.toList = [hx (bt s.data.toList k / 16), hx (bt s.data.toList k % 16)] := rfl
            rw [hxl] at hD
            have hdl : (Lib.decDigits j).length ≤ 2 := by
              by_cases h : j < 10
              · rw [dec_one j h]; simp
              · rw [dec_two j h (by omega)]; simp
            obtain ⟨DB, hDB⟩ : ∃ l, l = [hx (bt s.data.toList k / 16), hx (bt s.data.toList k % 16)] := ⟨_, rfl⟩
            rw [← hDB] at hD
            have hdb2 : DB.length = 2 := by rw [hDB]; rfl
            obtain ⟨DJ, hDJ⟩ : ∃ l, l = Lib.decDigits j := ⟨_, rfl⟩
            rw [← hDJ] at hE hdl
            have hw1 : (rs s.data.toList k).1 = [] → j = 1 → txt (rs s.data.toList (k + j)).1 = DB := fun h0 h1 => by
              rw [hend1, h0, List.nil_append, txt_one, hv1.1, hv1.2, hDB]; unfold spellL; rw [if_neg (by omega)]; rfl
            have hw2 : (rs s.data.toList k).1 = [] → 1 < j → txt (rs s.data.toList (k + j)).1 = DB ++ [42] ++ DJ := fun h0 h1 => by
              rw [hend1, h0, List.nil_append, txt_one, hv1.1, hv1.2, hDB, hDJ]; unfold spellL; rw [if_pos h1]; rfl
            have hw3 : (rs s.data.toList k).1 ≠ [] → j = 1 → txt (rs s.data.toList (k + j)).1 = T ++ [32] ++ DB := fun h0 h1 => by
              rw [hend1, txt_snoc _ _ h0, hv1.1, hv1.2, hDB, HT.out]; unfold spellL; rw [if_neg (by omega)]; rfl
            have hw4 : (rs s.data.toList k).1 ≠ [] → 1 < j → txt (rs s.data.toList (k + j)).1 = T ++ [32] ++ DB ++ [42] ++ DJ := fun h0 h1 => by
              rw [hend1, txt_snoc _ _ h0, hv1.1, hv1.2, hDB, hDJ, HT.out]; unfold spellL; rw [if_pos h1]; simp
            have HD := Lib.hid hD
            have HE := Lib.hid hE
            have HW1 := Lib.hid hw1
            have HW2 := Lib.hid hw2
            have HW3 := Lib.hid hw3
            have HW4 := Lib.hid hw4
            have hk0 := (rs_le s.data.toList k).1
            have HK0 := Lib.hid hk0
            clear hend hend1 hend2 hv1 hxl hDB hDJ hD hE hw1 hw2 hw3 hw4 hk0
            obtain ⟨SB, hSB⟩ : ∃ v, v = Value.string ⟨#[(s.data.toList)[k]?.getD 0]⟩ := ⟨_, rfl⟩
            rw [← hSB] at hc HD
            clear hSB
            obtain ⟨y1, hy1⟩ : ∃ y, y = (bt s.data.toList k : Int) := ⟨_, rfl⟩
            rw [← hy1] at hx1
            have i4 : ¬ (k : Int) + (j : Int) < (s.size : Int) := by have := H64'.out; omega
            clear hy1
            by_cases hk0 : k = 0
            · have hnil : (rs s.data.toList k).1 = [] := List.eq_nil_of_length_eq_zero (by have := HK0.out; omega)
              have hT0 : T = [] := by rw [HT.out, hnil]; rfl
              have HK00 := Lib.hid hk0
              have a2 := add_texts T DB (by omega)
              clear hk0
              by_cases hj : j = 1
              · exact absurd (show k + j < 64 by have := HK00.out; omega) h1
              · have hfin := HW2.out hnil (by omega)
                have i6 : (1 : Int) < (j : Int) := by omega
                rw [hT0, List.nil_append] at a2
                have a3 := add_texts DB [42] (by simp; omega)
                have a4 := add_texts (DB ++ [42]) DJ (by simp; omega)
                rw [← hfin] at a4
                have HF := Lib.hid (show strV (txt (rs s.data.toList (k + j)).1) = strV (txt (rs s.data.toList (k + j)).1) from rfl)
                obtain ⟨VF, hVF⟩ : ∃ v, v = strV (txt (rs s.data.toList (k + j)).1) := ⟨_, rfl⟩
                rw [← hVF] at a4
                have HVF := Lib.hid hVF
                clear hVF hfin HF hj
                rw [hT0]
                change ∀ w, (binOp .add 9 _ (.string ⟨#[42]⟩)).run _ w = _ at a3
                generalize strV (DB ++ [42]) = V3 at a3 a4
                have HE' := HE.out
                generalize strV DJ = VJ at a4 HE'
                have HEJ := Lib.hid HE'
                clear HE'
                have HD' := HD.out
                generalize hVD : strV DB = VD at a2 a3 HD'
                show Code.wp _ _ _ _ _
                have HDD := Lib.hid HD'
                clear HD'
                go_wp2_with fail
                have e1 : decide ((k : Int) + (j : Int) < (s.size : Int)) = false := by have := H64'.out; simp; omega
                have e2 : decide (k + j < s.size) = false := by have := H64.out; simp; omega
                go_quiet (fail)
                clear e1 e2
                have i5 : ¬ (0 : Int) < (k : Int) := by have := HK00.out; omega
                go_wp2_with fail
                refine (HDD.out _).mono ?_
                rintro e w5 ⟨rfl, hb5⟩
                have hB5 := (HB2.out.grown (gb_drewN _ nq none) HB2.out.size (fun j h => by cases h)).trans (hb5.mono (HB2.out.grown (gb_drewN _ nq none) HB2.out.size (fun j h => by cases h)).size)
                have HB5 := Lib.hid hB5
                clear hb5 hB5
                go_wp2_with fail
                refine (HEJ.out _).mono ?_
                rintro e w6 ⟨rfl, hb6⟩
                have HB6 := Lib.hid (HB5.out.trans (hb6.mono HB5.out.size))
                clear hb6
                go_wp2
                go_roundw
                case rel => exact ⟨k + j, by omega, by have := HK00.out; go_num, HE2.out, HVF.out, HB6.out⟩
                case measure => simp [intOf]; omega
            · have hne := rs_some HKK.out (by omega)
              have i5 : (0 : Int) < (k : Int) := by omega
              have a1 := add_texts T [32] (by simp; omega)
              have a2 := add_texts (T ++ [32]) DB (by simp; omega)
              by_cases hj : j = 1
              · have hfin := HW3.out hne hj
                have i6 : ¬ (1 : Int) < (j : Int) := by omega
                rw [← hfin] at a2
                have HF := Lib.hid (show strV (txt (rs s.data.toList (k + j)).1) = strV (txt (rs s.data.toList (k + j)).1) from rfl)
                obtain ⟨VF, hVF⟩ : ∃ v, v = strV (txt (rs s.data.toList (k + j)).1) := ⟨_, rfl⟩
                rw [← hVF] at a2
                have HVF := Lib.hid hVF
                clear hVF hfin HF hj
                change ∀ w, (binOp .add 9 _ (.string ⟨#[32]⟩)).run _ w = _ at a1
                generalize strV (T ++ [32]) = V1 at a1 a2
                have HD' := HD.out
                generalize strV DB = VD at a2 HD'
                have HDD := Lib.hid HD'
                clear HD'
                generalize strV T = V0 at a1 ⊢
                go_wp2_with fail
                have e1 : decide ((k : Int) + (j : Int) < (s.size : Int)) = false := by have := H64'.out; simp; omega
                have e2 : decide (k + j < s.size) = false := by have := H64.out; simp; omega
                go_quiet (fail)
                clear e1 e2
                go_wp2_with fail
                refine (HDD.out _).mono ?_
                rintro e w5 ⟨rfl, hb5⟩
                have hB5 := (HB2.out.grown (gb_drewN _ nq none) HB2.out.size (fun j h => by cases h)).trans (hb5.mono (HB2.out.grown (gb_drewN _ nq none) HB2.out.size (fun j h => by cases h)).size)
                have HB5 := Lib.hid hB5
                clear hb5 hB5
                go_wp2
                go_roundw
                case rel => exact ⟨k + j, by omega, by go_num, HE2.out, HVF.out, HB5.out⟩
                case measure => simp [intOf]; omega
              · have hfin := HW4.out hne (by omega)
                have i6 : (1 : Int) < (j : Int) := by omega
                have a3 := add_texts (T ++ [32] ++ DB) [42] (by simp; omega)
                have a4 := add_texts (T ++ [32] ++ DB ++ [42]) DJ (by simp; omega)
                rw [← hfin] at a4
                have HF := Lib.hid (show strV (txt (rs s.data.toList (k + j)).1) = strV (txt (rs s.data.toList (k + j)).1) from rfl)
                obtain ⟨VF, hVF⟩ : ∃ v, v = strV (txt (rs s.data.toList (k + j)).1) := ⟨_, rfl⟩
                rw [← hVF] at a4
                have HVF := Lib.hid hVF
                clear hVF hfin HF hj
                change ∀ w, (binOp .add 9 _ (.string ⟨#[32]⟩)).run _ w = _ at a1
                change ∀ w, (binOp .add 9 _ (.string ⟨#[42]⟩)).run _ w = _ at a3
                generalize strV (T ++ [32] ++ DB ++ [42]) = V3 at a3 a4
                generalize strV (T ++ [32] ++ DB) = V2 at a2 a3
                have HE' := HE.out
                generalize strV DJ = VJ at a4 HE'
                have HEJ := Lib.hid HE'
                clear HE'
                generalize strV (T ++ [32]) = V1 at a1 a2
                have HD' := HD.out
                generalize strV DB = VD at a2 HD'
                have HDD := Lib.hid HD'
                clear HD'
                generalize strV T = V0 at a1 ⊢
                go_wp2_with fail
                have e1 : decide ((k : Int) + (j : Int) < (s.size : Int)) = false := by have := H64'.out; simp; omega
                have e2 : decide (k + j < s.size) = false := by have := H64.out; simp; omega
                go_quiet (fail)
                clear e1 e2
                go_wp2_with fail
                refine (HDD.out _).mono ?_
                rintro e w5 ⟨rfl, hb5⟩
                have hB5 := (HB2.out.grown (gb_drewN _ nq none) HB2.out.size (fun j h => by cases h)).trans (hb5.mono (HB2.out.grown (gb_drewN _ nq none) HB2.out.size (fun j h => by cases h)).size)
                have HB5 := Lib.hid hB5
                clear hb5 hB5
                go_wp2_with fail
                refine (HEJ.out _).mono ?_
                rintro e w6 ⟨rfl, hb6⟩
                have HB6 := Lib.hid (HB5.out.trans (hb6.mono HB5.out.size))
                clear hb6
                go_wp2
                go_roundw
                case rel => exact ⟨k + j, by omega, by go_num, HE2.out, HVF.out, HB6.out⟩
                case measure => simp [intOf]; omega
      · obtain rfl : k = 64 := by omega
        have i1 : ¬ (((64 : Nat) : Int) < (s.size : Int)) := by have := H64'.out; omega
        generalize hV : strV (txt (rs s.data.toList 64).1) = V
        have HV := Lib.hid hV
        clear hV
        go_wp2
        go_ret
        exact ⟨by rw [HV.out]; rfl, HB.out⟩
  · rw [decide_eq_false h64] at hr
    have hv : shortV s = strV [] := if_neg h64
    rw [hv]
    have HR := Lib.hid hr
    clear hr hv h64
    go_enter Tryd.func22, Tryd.ntmps22
    go_wp2_with fail
    refine HR.out.mono ?_
    rintro e w1 ⟨rfl, hw1⟩; obtain rfl := hw1.symm; clear hw1
    go_wp2
    go_ret
    exact ⟨rfl, Below.refl _ _⟩

end Go.Proofs.YtgblhcikffecfaaDoor

/-
  Texts put together: R4, R5, R6, R7.
-/
import Derived.Test.YtpkeikbiblfidaaGreatDoorMR
import Derived.Deep.RegionWith
import Derived.Deep.RegionHeld3
import Derived.Deep.DrawnRows
import Derived.BigRegion
/-
  Contracts of both Kind.
-/
namespace Go.Proofs.YtpkeikbiblfidaaGreatDoor
open Go.RowKit
set_option linter.unusedVariables false
set_option linter.unusedSimpArgs false

def kindV (p : Nat × Nat) : Value := .tuple #[.int .i64 (p.1 : Int), .int .i64 (p.2 : Int)]

theorem neq_str (xs ys : List UInt8) (w : World) : (binOp .neq 9 (strV xs) (strV ys)).run Tryz.prog w = .ok (.bool (!decide (xs = ys))) w := by
  unfold strV
  go_simp
  by_cases h : xs = ys <;> simp [h]

theorem eql_str (xs ys : List UInt8) (w : World) : (binOp .eql 9 (strV xs) (strV ys)).run Tryz.prog w = .ok (.bool (decide (xs = ys))) w := by
  unfold strV
  go_simp
  by_cases h : xs = ys <;> simp [h]

theorem nguard_str (xs ys : List UInt8) (x y : Operand) (w : World) : (eqGuard .neq 9 x y (strV xs) (strV ys)).run Tryz.prog w = .ok () w := by
  unfold strV
  go_simp
theorem eguard_str (xs ys : List UInt8) (x y : Operand) (w : World) : (eqGuard .eql 9 x y (strV xs) (strV ys)).run Tryz.prog w = .ok () w := by
  unfold strV
  go_simp

theorem keeps (p : UInt8 → Bool) (x : UInt8) (hx : p x = false) : ∀ l : List UInt8, x ∈ l → x ∈ l.dropWhile p
  | [], h => by cases h
  | y :: r, h => by
    rw [List.dropWhile_cons]
    split
    · rename_i hy
      rcases List.mem_cons.1 h with e | e
      · subst e; rw [hx] at hy; cases hy
      · exact keeps p x hx r e
    · exact h

theorem drop_all (p : UInt8 → Bool) : ∀ l : List UInt8, (∀ x ∈ l, p x = true) → l.dropWhile p = []
  | [], _ => rfl
  | y :: r, h => by
    rw [List.dropWhile_cons, if_pos (h y (.head _))]
    exact drop_all p r fun x hx => h x (.tail _ hx)

theorem trim_zero (l : List UInt8) : Lib.trimB l 0 = [] ↔ l.all (· == 0) = true := by
  unfold Lib.trimB Lib.trimLeftB Lib.trimRightB
  constructor
  · intro h
    rw [List.all_eq_true]
    intro x hx
    cases hp : (x == (0 : UInt8)) with
    | true => rfl
    | false =>
      have h1 := keeps (· == 0) x hp l.reverse (by simpa using hx)
      have h2 := keeps (· == 0) x hp (l.reverse.dropWhile (· == 0)).reverse (by simpa using h1)
      rw [h] at h2
      cases h2
  · intro h
    have h1 : l.reverse.dropWhile (· == (0 : UInt8)) = [] := by
      exact drop_all (· == 0) l.reverse fun x hx => List.all_eq_true.1 h x (by simpa using hx)
    rw [h1]; rfl

theorem idx_str (xs : List UInt8) (i : Nat) (h : i < xs.length) (w : World) : (Instr.index 9 (strV xs) (.int .i64 (i : Int))).run Tryz.prog w = .ok (.int .u8 (nb xs i : Int)) w := by
  have hs : (⟨xs.toArray⟩ : ByteArray).size = xs.length := by show (List.toArray xs).size = _; simp
  exact index_text ⟨xs.toArray⟩ i (by rw [hs]; exact h) w

set_option maxRecDepth 20000 in
set_option maxHeartbeats 400000 in
theorem bodyEnd_any (xs : List UInt8) (h : xs.length = 64) (w : World) :
    Calls Tryz.prog 130 #[strV xs] w fun e w' => e = .returned (.int .i64 ((2 + nb xs 1 : Nat) : Int)) ∧ w' = w := by
  have hx := idx_str xs 1 (by omega)
  have hb := nb_lt xs 1
  have hx' : ∀ w, (Instr.index 9 (strV xs) (.int .i64 1)).run Tryz.prog w = .ok (.int .u8 (nb xs 1 : Int)) w := hx
  generalize nb xs 1 = n at *
  generalize strV xs = V at *
  clear hx
  go_enter Tryz.func130, Tryz.ntmps130
  go_wp2
  go_ret
  exact ⟨by first | rfl | (refine congrArg (fun x => Ending.returned (Value.int .i64 x)) ?_; omega), rfl⟩

end Go.Proofs.YtpkeikbiblfidaaGreatDoor
/-
  Contract of the program's Kind.
-/
namespace Go.Proofs.YtpkeikbiblfidaaGreatDoor
open Go.RowKit
set_option linter.unusedVariables false
set_option linter.unusedSimpArgs false

theorem size_str (xs : List UInt8) : (⟨xs.toArray⟩ : ByteArray).size = xs.length := by show (List.toArray xs).size = _; simp

theorem right_str (xs : List UInt8) (w : World) : Calls Tryz.prog 68 #[strV xs] w fun e w' => e = .returned (.bool (decide (xs.length = 64))) ∧ w' = w := by
  have := right_any ⟨xs.toArray⟩ w
  rwa [size_str] at this

theorem trim_str (xs : List UInt8) (hx : xs.length ≤ 1000) (w : World) : Calls Tryz.prog 129 #[strV xs, .string ⟨#[0]⟩] w fun e w' => e = .returned (strV (Lib.trimB xs 0)) ∧ (w' = w ∨ w' = w.drew) :=
  Tryz.strings_Trim_one ⟨xs.toArray⟩ 0 (by decide) w (by rw [size_str]; omega)

set_option maxRecDepth 20000 in
set_option maxHeartbeats 2000000 in
theorem kind_any (xs : List UInt8) (w : World) :
    Calls Tryz.prog 86 #[strV xs] w fun e w' => e = .returned (kindV (kindP xs)) ∧ Below w.heap.size w w' := by
  have hr := right_str xs
  by_cases hl : xs.length = 64
  · rw [show decide (xs.length = 64) = true from by simpa using hl] at hr
    have hc := fun w => cut_to xs 60 (by omega) w
    have hse := fun w => seal_any (xs.take 60) w (by simp; omega)
    have hne := neq_str xs (sealL (xs.take 60))
    have hgd := nguard_str xs (sealL (xs.take 60))
    obtain ⟨V1, hV1⟩ : ∃ V, V = strV (xs.take 60) := ⟨_, rfl⟩
    obtain ⟨V2, hV2⟩ : ∃ V, V = strV (sealL (xs.take 60)) := ⟨_, rfl⟩
    simp only [← hV1] at hc hse
    simp only [← hV2] at hse hne hgd
    by_cases hs : xs = sealL (xs.take 60)
    · rw [show decide (xs = sealL (xs.take 60)) = true from by simpa using hs] at hne
      have hx0 := fun w => idx_str xs 0 (by omega) w
      have hx1 := fun w => idx_str xs 1 (by omega) w
      have hb0 := nb_lt xs 0
      have hb1 := nb_lt xs 1
      have hik := isKind_any (nb xs 0 : Int)
      have hbe := bodyEnd_any xs hl
      by_cases hk : 1 ≤ nb xs 0 ∧ nb xs 0 ≤ 8
      · rw [show decide (1 ≤ (nb xs 0 : Int) ∧ (nb xs 0 : Int) ≤ 8) = true from by rw [decide_eq_true_iff]; omega] at hik
        by_cases h1 : nb xs 1 ≤ 58
        · have hcb := fun w => cut_both xs (2 + nb xs 1) 60 (by omega) (by omega) w
          have htr := fun w => trim_str ((xs.take 60).drop (2 + nb xs 1)) (by simp; omega) w
          have htz := trim_zero ((xs.take 60).drop (2 + nb xs 1))
          have hne2 := neq_str (Lib.trimB ((xs.take 60).drop (2 + nb xs 1)) 0) []
          have hgd2 := nguard_str (Lib.trimB ((xs.take 60).drop (2 + nb xs 1)) 0) []
          obtain ⟨VS, hVS⟩ : ∃ V, V = strV xs := ⟨_, rfl⟩
          obtain ⟨V3, hV3⟩ : ∃ V, V = strV ((xs.take 60).drop (2 + nb xs 1)) := ⟨_, rfl⟩
          obtain ⟨V4, hV4⟩ : ∃ V, V = strV (Lib.trimB ((xs.take 60).drop (2 + nb xs 1)) 0) := ⟨_, rfl⟩
          simp only [← hV3] at hcb htr
          simp only [← hV4] at htr hne2 hgd2
          have hne2' : ∀ w, (binOp .neq 9 V4 (.string ⟨#[]⟩)).run Tryz.prog w = .ok (.bool (!decide (Lib.trimB ((xs.take 60).drop (2 + nb xs 1)) 0 = []))) w := hne2
          have hgd2' : ∀ (x y : Operand) w, (eqGuard .neq 9 x y V4 (.string ⟨#[]⟩)).run Tryz.prog w = .ok () w := hgd2
          have hkp : kindP xs = if allz xs = true then (nb xs 0, 0) else (0, 6) := by
            unfold kindP
            rw [if_neg (by omega), if_neg (fun g => g hs)]
            by_cases hz : allz xs = true
            · rw [if_neg (by simp; exact ⟨hk.1, hk.2, h1, hz⟩), if_pos hz]
            · rw [if_pos (fun g => hz g.2.2.2), if_neg hz]
          have hzz : decide (Lib.trimB ((xs.take 60).drop (2 + nb xs 1)) 0 = []) = allz xs := by
            rw [Bool.eq_iff_iff, decide_eq_true_iff, htz]
            rfl
          rw [hzz] at hne2'
          rw [hkp]
          generalize hB : allz xs = B at *
          simp only [← hVS] at hr hc hne hgd hx0 hx1 hbe hcb ⊢
          have hcb' : ∀ w, (Instr.sliceAt 9 VS (some (.int .i64 (2 + (nb xs 1 : Int)))) (some (.int .i64 60)) none).run Tryz.prog w = .ok V3 w := fun w => hcb w
          have hc' : ∀ w, (Instr.sliceAt 9 VS none (some (.int .i64 60)) none).run Tryz.prog w = .ok V1 w := hc
          have hx0' : ∀ w, (Instr.index 9 VS (.int .i64 0)).run Tryz.prog w = .ok (.int .u8 (nb xs 0 : Int)) w := hx0
          have hx1' : ∀ w, (Instr.index 9 VS (.int .i64 1)).run Tryz.prog w = .ok (.int .u8 (nb xs 1 : Int)) w := hx1
          generalize nb xs 0 = n0 at *
          generalize nb xs 1 = n1 at *
          have HR := Lib.hid hr
          have HSE := Lib.hid hse
          have HIK := Lib.hid hik
          have HBE := Lib.hid hbe
          have HTR := Lib.hid htr
          clear hV1 hV2 hV3 hV4 hVS hr hse hik hbe htr htz hzz hne2 hgd2 hkp hs hl hB hc hx0 hx1 hcb
          unfold kindV
          go_enter Tryz.func86, Tryz.ntmps86
          go_wp2_with fail
          refine (HR.out _).mono ?_
          rintro e w1 ⟨rfl, hw⟩
          obtain rfl := hw.symm
          clear hw
          go_wp2_with fail
          refine (HSE.out _).mono ?_
          rintro e w2 ⟨rfl, hb⟩
          have HB2 := Lib.hid hb
          clear hb
          go_wp2_with fail
          refine (HIK.out _).mono ?_
          rintro e w3 ⟨rfl, hw⟩
          obtain rfl := hw.symm
          clear hw
          go_wp2_with fail
          refine (HBE.out _).mono ?_
          rintro e w4 ⟨rfl, hw⟩
          obtain rfl := hw.symm
          clear hw
          go_wp2_with fail
          refine (HTR.out _).mono ?_
          rintro e w5 ⟨rfl, hw⟩
          have hb5 : Below w.heap.size w w5 := by
            rcases hw with rfl | rfl
            · exact HB2.out
            · exact HB2.out.drew
          clear hw HB2
          cases B
          · go_wp2
            refine bodyPost_ret (results_tmp2 rfl _ _ _) rfl ?_
            exact ⟨rfl, hb5⟩
          · go_wp2
            refine bodyPost_ret (results_tmp2 rfl _ _ _) rfl ?_
            exact ⟨rfl, hb5⟩
        · have hkp : kindP xs = (0, 6) := by
            unfold kindP
            rw [if_neg (by omega), if_neg (fun g => g hs), if_pos (fun g => h1 g.2.2.1)]
          rw [hkp]
          have h1' : 58 < nb xs 1 := by omega
          obtain ⟨VS, hVS⟩ : ∃ V, V = strV xs := ⟨_, rfl⟩
          simp only [← hVS] at hr hc hne hgd hx0 hx1 ⊢
          have hc' : ∀ w, (Instr.sliceAt 9 VS none (some (.int .i64 60)) none).run Tryz.prog w = .ok V1 w := hc
          have hx0' : ∀ w, (Instr.index 9 VS (.int .i64 0)).run Tryz.prog w = .ok (.int .u8 (nb xs 0 : Int)) w := hx0
          have hx1' : ∀ w, (Instr.index 9 VS (.int .i64 1)).run Tryz.prog w = .ok (.int .u8 (nb xs 1 : Int)) w := hx1
          generalize nb xs 0 = n0 at *
          generalize nb xs 1 = n1 at *
          have HR := Lib.hid hr
          have HSE := Lib.hid hse
          have HIK := Lib.hid hik
          clear hV1 hV2 hVS hr hse hik hbe hkp hs hl hc hx0 hx1
          clear h1
          unfold kindV
          go_enter Tryz.func86, Tryz.ntmps86
          go_wp2_with fail
          refine (HR.out _).mono ?_
          rintro e w1 ⟨rfl, hw⟩
          obtain rfl := hw.symm
          clear hw
          go_wp2_with fail
          refine (HSE.out _).mono ?_
          rintro e w2 ⟨rfl, hb⟩
          have HB2 := Lib.hid hb
          clear hb
          go_wp2_with fail
          refine (HIK.out _).mono ?_
          rintro e w3 ⟨rfl, hw⟩
          obtain rfl := hw.symm
          clear hw
          go_wp2
          refine bodyPost_ret (results_tmp2 rfl _ _ _) rfl ?_
          exact ⟨rfl, HB2.out⟩
      · rw [show decide (1 ≤ (nb xs 0 : Int) ∧ (nb xs 0 : Int) ≤ 8) = false from by rw [decide_eq_false_iff_not]; omega] at hik
        have hkp : kindP xs = (0, 6) := by
          unfold kindP
          rw [if_neg (by omega), if_neg (fun g => g hs), if_pos (fun g => hk ⟨g.1, g.2.1⟩)]
        rw [hkp]
        obtain ⟨VS, hVS⟩ : ∃ V, V = strV xs := ⟨_, rfl⟩
        simp only [← hVS] at hr hc hne hgd hx0 hx1 ⊢
        have hc' : ∀ w, (Instr.sliceAt 9 VS none (some (.int .i64 60)) none).run Tryz.prog w = .ok V1 w := hc
        have hx0' : ∀ w, (Instr.index 9 VS (.int .i64 0)).run Tryz.prog w = .ok (.int .u8 (nb xs 0 : Int)) w := hx0
        have hx1' : ∀ w, (Instr.index 9 VS (.int .i64 1)).run Tryz.prog w = .ok (.int .u8 (nb xs 1 : Int)) w := hx1
        generalize nb xs 0 = n0 at *
        generalize nb xs 1 = n1 at *
        have HR := Lib.hid hr
        have HSE := Lib.hid hse
        have HIK := Lib.hid hik
        clear hV1 hV2 hVS hr hse hik hbe hkp hs hl hc hx0 hx1
        clear hk
        unfold kindV
        go_enter Tryz.func86, Tryz.ntmps86
        go_wp2_with fail
        refine (HR.out _).mono ?_
        rintro e w1 ⟨rfl, hw⟩
        obtain rfl := hw.symm
        clear hw
        go_wp2_with fail
        refine (HSE.out _).mono ?_
        rintro e w2 ⟨rfl, hb⟩
        have HB2 := Lib.hid hb
        clear hb
        go_wp2_with fail
        refine (HIK.out _).mono ?_
        rintro e w3 ⟨rfl, hw⟩
        obtain rfl := hw.symm
        clear hw
        go_wp2
        refine bodyPost_ret (results_tmp2 rfl _ _ _) rfl ?_
        exact ⟨rfl, HB2.out⟩
    · rw [show decide (xs = sealL (xs.take 60)) = false from by simpa using hs] at hne
      have hkp : kindP xs = (0, 9) := by
        unfold kindP
        rw [if_neg (by omega), if_pos hs]
      rw [hkp]
      obtain ⟨VS, hVS⟩ : ∃ V, V = strV xs := ⟨_, rfl⟩
      simp only [← hVS] at hr hc hne hgd ⊢
      have hc' : ∀ w, (Instr.sliceAt 9 VS none (some (.int .i64 60)) none).run Tryz.prog w = .ok V1 w := hc
      have HR := Lib.hid hr
      have HSE := Lib.hid hse
      clear hV1 hV2 hVS hr hse hkp hs hl hc
      unfold kindV
      go_enter Tryz.func86, Tryz.ntmps86
      go_wp2_with fail
      refine (HR.out _).mono ?_
      rintro e w1 ⟨rfl, hw⟩
      obtain rfl := hw.symm
      clear hw
      go_wp2_with fail
      refine (HSE.out _).mono ?_
      rintro e w2 ⟨rfl, hb⟩
      have HB2 := Lib.hid hb
      clear hb
      go_wp2
      refine bodyPost_ret (results_tmp2 rfl _ _ _) rfl ?_
      exact ⟨rfl, HB2.out⟩
  · rw [show decide (xs.length = 64) = false from by simpa using hl] at hr
    have hkp : kindP xs = (0, 4) := by
      unfold kindP
      rw [if_pos hl]
    rw [hkp]
    generalize strV xs = VS at *
    have HR := Lib.hid hr
    clear hr hkp hl
    unfold kindV
    go_enter Tryz.func86, Tryz.ntmps86
    go_wp2_with fail
    refine (HR.out _).mono ?_
    rintro e w1 ⟨rfl, hw⟩
    obtain rfl := hw.symm
    clear hw
    go_wp2
    refine bodyPost_ret (results_tmp2 rfl _ _ _) rfl ?_
    exact ⟨rfl, Below.refl _ _⟩

end Go.Proofs.YtpkeikbiblfidaaGreatDoor
/-
  Contract of the reference's Kind.
-/
namespace Go.Proofs.YtpkeikbiblfidaaGreatDoor
open Go.RowKit
set_option linter.unusedVariables false
set_option linter.unusedSimpArgs false

theorem rright_str (xs : List UInt8) (w : World) : Calls Tryz.prog 76 #[strV xs] w fun e w' => e = .returned (.bool (decide (xs.length = 64))) ∧ w' = w := by
  have := rright_any ⟨xs.toArray⟩ w
  rwa [size_str] at this

theorem allz_iff (xs : List UInt8) (hl : xs.length = 64) : allz xs = true ↔ ∀ j, 2 + nb xs 1 ≤ j → j < 60 → nb xs j = 0 := by
  unfold allz
  rw [List.all_eq_true]
  constructor
  · intro h j h1 h2
    have hj : xs[j]? = some (xs[j]'(by omega)) := List.getElem?_eq_getElem (by omega)
    have hm : xs[j]'(by omega) ∈ (xs.take 60).drop (2 + nb xs 1) := by
      rw [List.mem_iff_getElem?]
      refine ⟨j - (2 + nb xs 1), ?_⟩
      rw [List.getElem?_drop, List.getElem?_take_of_lt (by omega), show 2 + nb xs 1 + (j - (2 + nb xs 1)) = j from by omega]
      exact hj
    have := h _ hm
    unfold nb
    rw [hj]
    simp only [Option.getD_some]
    have e : xs[j]'(by omega) = 0 := by simpa using this
    rw [e]; rfl
  · intro h x hx
    rw [List.mem_iff_getElem?] at hx
    obtain ⟨i, hi⟩ := hx
    rw [List.getElem?_drop] at hi
    have hlt : 2 + nb xs 1 + i < 60 := by
      rcases Nat.lt_or_ge (2 + nb xs 1 + i) 60 with g | g
      · exact g
      · rw [List.getElem?_eq_none (by simp; omega)] at hi
        cases hi
    rw [List.getElem?_take_of_lt hlt] at hi
    have := h (2 + nb xs 1 + i) (by omega) hlt
    change (xs[2 + nb xs 1 + i]?.getD 0).toNat = 0 at this
    rw [hi] at this
    simp only [Option.getD_some] at this
    have e : x = 0 := by
      apply UInt8.toNat_inj.1
      rw [this]; rfl
    rw [e]; rfl

theorem seal_iff (xs : List UInt8) (hl : xs.length = 64) : enc (addN 0 (xs.take 60)) 4 = xs.drop 60 ↔ xs = sealL (xs.take 60) := by
  have e : xs = xs.take 60 ++ xs.drop 60 := (List.take_append_drop 60 xs).symm
  constructor
  · intro h
    unfold sealL
    rw [h]
    exact e
  · intro h
    have h2 := e.symm.trans h
    unfold sealL at h2
    exact (List.append_cancel_left h2).symm

set_option maxRecDepth 20000 in
set_option maxHeartbeats 2000000 in
theorem rkind_any (xs : List UInt8) (w : World) :
    Calls Tryz.prog 87 #[strV xs] w fun e w' => e = .returned (kindV (kindP xs)) ∧ Below w.heap.size w w' := by
  have hr := rright_str xs
  by_cases hl : xs.length = 64
  · rw [show decide (xs.length = 64) = true from by simpa using hl] at hr
    have hc := fun w => cut_to xs 60 (by omega) w
    have hcf := fun w => cut_from xs 60 (by omega) w
    have hlt : (xs.take 60).length = 60 := by simp; omega
    obtain ⟨c, w1, hcv, hrd, hb1⟩ := cv_str (xs.take 60) (by rw [hlt]; omega) w.drew
    rw [hlt] at hcv hrd
    have hsm := rsum_any _ _ _ _ w1 hrd
    have hnl := addN_lt 0 (xs.take 60)
    have hne := neq_str (enc (addN 0 (xs.take 60)) 4) (xs.drop 60)
    have hgd := nguard_str (enc (addN 0 (xs.take 60)) 4) (xs.drop 60)
    have hsi := seal_iff xs hl
    generalize addN 0 (xs.take 60) = n at *
    have ht := fun w => text_any 4 n w (by omega) (by omega) (by omega)
    obtain ⟨V1, hV1⟩ : ∃ V, V = strV (xs.take 60) := ⟨_, rfl⟩
    obtain ⟨V2, hV2⟩ : ∃ V, V = strV (enc n 4) := ⟨_, rfl⟩
    obtain ⟨V3, hV3⟩ : ∃ V, V = strV (xs.drop 60) := ⟨_, rfl⟩
    obtain ⟨VS, hVS⟩ : ∃ V, V = strV xs := ⟨_, rfl⟩
    have hx := fun (i : Nat) (h : i < 64) (w : World) => idx_str xs i (by omega) w
    simp only [← hV1] at hc hcv
    simp only [← hV2] at ht hne hgd
    simp only [← hV3] at hcf hne hgd
    simp only [← hVS] at hr hc hcf hx ⊢
    have hc' : ∀ w, (Instr.sliceAt 9 VS none (some (.int .i64 60)) none).run Tryz.prog w = .ok V1 w := hc
    have hcf' : ∀ w, (Instr.sliceAt 9 VS (some (.int .i64 60)) none none).run Tryz.prog w = .ok V3 w := hcf
    have n1 : (0 : Int) ≤ (n : Int) := by omega
    have n2 : (n : Int) < 4294967296 := by omega
    have hwr : IntKind.u64.wrap (n : Int) = (n : Int) := by simp [IntKind.wrap_u64]; omega
    have HR := Lib.hid hr
    have HSM := Lib.hid hsm
    have HT := Lib.hid ht
    have HX := Lib.hid hx
    have HB1 := Lib.hid hb1
    have HSI := Lib.hid hsi
    have hx0' : ∀ w, (Instr.index 9 VS (.int .i64 0)).run Tryz.prog w = .ok (.int .u8 (nb xs 0 : Int)) w := hx 0 (by omega)
    have hx1' : ∀ w, (Instr.index 9 VS (.int .i64 1)).run Tryz.prog w = .ok (.int .u8 (nb xs 1 : Int)) w := hx 1 (by omega)
    clear hV1 hV2 hV3 hVS hr hsm ht hx hrd hb1 hc hcf hsi hlt
    obtain ⟨B, hB⟩ : ∃ B, decide (enc n 4 = xs.drop 60) = B := ⟨_, rfl⟩
    rw [hB] at hne
    have HBB := Lib.hid hB
    clear hB
    obtain ⟨KP, hKP⟩ : ∃ K, K = kindP xs := ⟨_, rfl⟩
    rw [← hKP]
    have HKP := Lib.hid hKP
    clear hKP
    unfold kindV
    go_enter Tryz.func87, Tryz.ntmps87
    go_wp2_with fail
    refine (HR.out _).mono ?_
    rintro e w2 ⟨rfl, hw⟩
    obtain rfl := hw.symm
    clear hw
    go_wp2_with fail
    go_region_with (first
      | (go_at_call 131; refine HSM.out.mono ?_; rintro r w' ⟨rfl, hw⟩; obtain rfl := hw)
      | (go_at_call 102; refine (HT.out _).mono ?_; rintro r w3 ⟨rfl, hb3⟩))
    have hB3 : Below w.heap.size w w3 := ((Below.refl w.heap.size w).drew.trans HB1.out).trans (hb3.mono (by have := HB1.out.size; exact this))
    have HB3 := Lib.hid hB3
    clear hB3 hb3 hcv HSM HT HR hne hgd
    cases B with
    | false =>
      have hns : ¬ xs = sealL (xs.take 60) := fun g => by
        have h1 := HSI.out.2 g
        have h2 : ¬ (enc n 4 = xs.drop 60) := by simpa using HBB.out
        exact h2 h1
      have hkp : KP = (0, 9) := by
        rw [HKP.out]; unfold kindP
        rw [if_neg (by omega), if_pos hns]
      have HK2 := Lib.hid hkp
      clear hns hkp HX hx0' hx1' hnl n1 n2 hwr hl HSI HBB HKP hc' hcf' HB1
      go_wp2
      refine bodyPost_ret (results_tmp2 rfl _ _ _) rfl ?_
      exact ⟨by rw [HK2.out]; rfl, HB3.out⟩
    | true =>
      have hs : xs = sealL (xs.take 60) := HSI.out.1 (by simpa using HBB.out)
      have hb0 := nb_lt xs 0
      have hb1 := nb_lt xs 1
      have haz := allz_iff xs hl
      have hkp : KP = if ¬ (1 ≤ nb xs 0 ∧ nb xs 0 ≤ 8 ∧ nb xs 1 ≤ 58 ∧ allz xs = true) then (0, 6) else (nb xs 0, 0) := by
        rw [HKP.out]
        show kindP xs = _
        unfold kindP
        rw [if_neg (by omega), if_neg (fun g => g hs)]
      have HK2 := Lib.hid hkp
      have HAZ := Lib.hid haz
      have HX' := HX
      have HL := Lib.hid hl
      clear hs hkp haz HSI HBB HKP hc' hcf' hwr n1 n2 hnl hl
      by_cases k0 : nb xs 0 < 1
      · have HK3 := Lib.hid (HK2.out.trans (if_pos (fun g => by omega)))
        generalize nb xs 0 = m0 at *
        clear HK2 HAZ HX HX'
        go_wp2
        refine bodyPost_ret (results_tmp2 rfl _ _ _) rfl ?_
        exact ⟨by rw [HK3.out]; rfl, HB3.out⟩
      · by_cases k8 : 8 < nb xs 0
        · have HK3 := Lib.hid (HK2.out.trans (if_pos (fun g => by omega)))
          generalize nb xs 0 = m0 at *
          clear HK2 HAZ HX HX'
          go_wp2
          refine bodyPost_ret (results_tmp2 rfl _ _ _) rfl ?_
          exact ⟨by rw [HK3.out]; rfl, HB3.out⟩
        · by_cases k58 : 58 < nb xs 1
          · have HK3 := Lib.hid (HK2.out.trans (if_pos (fun g => by omega)))
            generalize nb xs 0 = m0 at *
            generalize nb xs 1 = m1 at *
            clear HK2 HAZ HX HX'
            go_wp2
            refine bodyPost_ret (results_tmp2 rfl _ _ _) rfl ?_
            exact ⟨by rw [HK3.out]; rfl, HB3.out⟩
          · have HX0 := Lib.hid (show ∀ w, (Instr.index 9 VS (.int .i64 0)).run Tryz.prog w = .ok (.int .u8 (nb xs 0 : Int)) w from hx0')
            obtain ⟨m0, hm0⟩ : ∃ m, m = nb xs 0 := ⟨_, rfl⟩
            obtain ⟨m1, hm1⟩ : ∃ m, m = nb xs 1 := ⟨_, rfl⟩
            rw [← hm0] at hx0' k0 k8 hb0
            rw [← hm1] at hx1' k58 hb1
            have HM0 := Lib.hid hm0
            have HM1 := Lib.hid hm1
            clear hm0 hm1 HX0
            go_wp2
            simp only [show decide ((m0 : Int) < 1) = false from decide_eq_false (by omega), show decide (8 < (m0 : Int)) = false from decide_eq_false (by omega), show decide (58 < (m1 : Int)) = false from decide_eq_false (by omega), Bool.or_self]
            go_loopw [4] (fun y wr => ∃ j : Nat, 2 + m1 ≤ j ∧ j ≤ 60 ∧ y = .int .i64 (j : Int) ∧ (∀ t, 2 + m1 ≤ t → t < j → nb xs t = 0) ∧ wr = w3) (fun y _ => 60 - (intOf y).toNat)
            case atStart => exact ⟨2 + m1, by omega, by omega, by go_num, fun t h1 h2 => by omega, rfl⟩
            case round =>
              obtain ⟨j, hj1, hj2, rfl, hz, hw⟩ := hrel
              obtain rfl := hw.symm
              clear hw
              have hz2 : nb xs j = 0 → ∀ t, 2 + m1 ≤ t → t < j + 1 → nb xs t = 0 := fun h t h1 h2 => by
                by_cases e : t = j
                · subst e; exact h
                · exact hz t h1 (by omega)
              by_cases hlt : j < 60
              · have hxj := HX'.out j (by omega)
                have hbj := nb_lt xs j
                have y1 : (0 : Int) ≤ (j : Int) := by omega
                by_cases hn : nb xs j = 0
                · have HZ := Lib.hid (hz2 hn)
                  rw [hn] at hxj
                  have hxj' : ∀ w, (Instr.index 9 VS (.int .i64 (j : Int))).run Tryz.prog w = .ok (.int .u8 0) w := hxj
                  clear hz hz2 hxj hn hbj HX HX'
                  go_wp2
                  go_roundw
                  case rel => exact ⟨j + 1, by omega, by omega, by go_num, HZ.out, by first | rfl | trivial⟩
                  case measure => simp [intOf]; omega
                · have haz : ¬ allz xs = true := fun g => hn (HAZ.out.1 g j (by rw [← HM1.out]; omega) hlt)
                  have HK3 := Lib.hid (HK2.out.trans (if_pos (fun g => haz g.2.2.2)))
                  generalize nb xs j = bj at *
                  have hne0 : ((bj : Int) == 0) = false := by simpa using hn
                  clear hz hz2 haz HAZ HX HX' HK2 hn
                  go_wp2
                  refine bodyPost_ret (results_tmp2 rfl _ _ _) rfl ?_
                  exact ⟨by rw [HK3.out]; rfl, HB3.out⟩
              · obtain rfl : j = 60 := by omega
                have haz : allz xs = true := HAZ.out.2 fun t h1 h2 => hz t (by rw [HM1.out]; omega) h2
                have HK3 := Lib.hid (HK2.out.trans (if_neg (fun g => g ⟨by rw [← HM0.out]; omega, by rw [← HM0.out]; omega, by rw [← HM1.out]; omega, haz⟩)))
                clear hz hz2 haz HAZ HX HX' HK2
                go_wp2
                refine bodyPost_ret (results_tmp2 rfl _ _ _) rfl ?_
                exact ⟨by rw [HK3.out, ← HM0.out]; rfl, HB3.out⟩
  · rw [show decide (xs.length = 64) = false from by simpa using hl] at hr
    have hkp : kindP xs = (0, 4) := by
      unfold kindP
      rw [if_pos hl]
    rw [hkp]
    generalize strV xs = VS at *
    have HR := Lib.hid hr
    clear hr hkp hl
    unfold kindV
    go_enter Tryz.func87, Tryz.ntmps87
    go_wp2_with fail
    refine (HR.out _).mono ?_
    rintro e w1 ⟨rfl, hw⟩
    obtain rfl := hw.symm
    clear hw
    go_wp2
    refine bodyPost_ret (results_tmp2 rfl _ _ _) rfl ?_
    exact ⟨rfl, Below.refl _ _⟩

end Go.Proofs.YtpkeikbiblfidaaGreatDoor
/-
  Contracts of both Open; known.
-/
namespace Go.Proofs.YtpkeikbiblfidaaGreatDoor
open Go.RowKit
set_option linter.unusedVariables false
set_option linter.unusedSimpArgs false

theorem kindP_ok {xs : List UInt8} (h : (kindP xs).2 = 0) : xs.length = 64 ∧ nb xs 1 ≤ 58 := by
  unfold kindP at h
  split at h
  · simp at h
  · rename_i k1
    split at h
    · simp at h
    · split at h
      · simp at h
      · rename_i k3
        have k4 := Classical.not_not.1 k3
        exact ⟨by simpa using k1, k4.2.2.1⟩

set_option maxRecDepth 20000 in
set_option maxHeartbeats 1000000 in
theorem open_any (kind : Int) (xs : List UInt8) (w : World) :
    Calls Tryz.prog 91 #[.int .i64 kind, strV xs] w fun e w' => e = .returned (tupV (openP kind xs)) ∧ Below w.heap.size w w' := by
  have hkd := kind_any xs w
  unfold kindV at hkd
  unfold tupV
  by_cases h0 : (kindP xs).2 = 0
  · obtain ⟨hl, h58⟩ := kindP_ok h0
    by_cases hk : ((kindP xs).1 : Int) = kind
    · have hop : openP kind xs = ((xs.take (2 + nb xs 1)).drop 2, 0) := by
        unfold openP
        rw [if_neg (by omega), if_neg (by omega)]
      rw [hop]
      dsimp only
      rw [h0, hk] at hkd
      have hcb := fun w => cut_both xs 2 (2 + nb xs 1) (by omega) (by omega) w
      have hbe := bodyEnd_any xs hl
      obtain ⟨VS, hVS⟩ : ∃ V, V = strV xs := ⟨_, rfl⟩
      obtain ⟨VB, hVB⟩ : ∃ V, V = strV ((xs.take (2 + nb xs 1)).drop 2) := ⟨_, rfl⟩
      simp only [← hVB] at hcb ⊢
      simp only [← hVS] at hkd hcb hbe ⊢
      have hcb' : ∀ w, (Instr.sliceAt 9 VS (some (.int .i64 2)) (some (.int .i64 (2 + (nb xs 1 : Int)))) none).run Tryz.prog w = .ok VB w := fun w => hcb w
      generalize nb xs 1 = m1 at *
      have HK := Lib.hid hkd
      have HBE := Lib.hid hbe
      clear hkd hVS hVB hcb hop h0 hk hl hbe
      go_enter Tryz.func91, Tryz.ntmps91
      go_wp2_with fail
      refine HK.out.mono ?_
      rintro e w1 ⟨rfl, hb⟩
      go_wp2_with fail
      refine (HBE.out _).mono ?_
      rintro e w2 ⟨rfl, hw⟩
      obtain rfl := hw.symm
      clear hw
      go_wp2
      refine bodyPost_ret (results_tmp2 rfl _ _ _) rfl ?_
      exact ⟨rfl, hb⟩
    · have hop : openP kind xs = ([], 22) := by
        unfold openP
        rw [if_neg (by omega), if_pos hk]
      rw [hop]
      rw [h0] at hkd
      generalize ((kindP xs).1 : Int) = kk at *
      have hkk : (kk == kind) = false := by simpa using hk
      generalize strV xs = VS at *
      have HK := Lib.hid hkd
      clear hkd hop h0 hk hl h58
      go_enter Tryz.func91, Tryz.ntmps91
      go_wp2_with fail
      refine HK.out.mono ?_
      rintro e w1 ⟨rfl, hb⟩
      go_wp2
      refine bodyPost_ret (results_tmp2 rfl _ _ _) rfl ?_
      exact ⟨rfl, hb⟩
  · have hop : openP kind xs = ([], (kindP xs).2) := by
      unfold openP
      rw [if_pos h0]
    rw [hop]
    dsimp only
    generalize (kindP xs).2 = ke at *
    have hke : ((ke : Int) == 0) = false := by simpa using h0
    generalize strV xs = VS at *
    have HK := Lib.hid hkd
    clear hkd hop h0
    go_enter Tryz.func91, Tryz.ntmps91
    go_wp2_with fail
    refine HK.out.mono ?_
    rintro e w1 ⟨rfl, hb⟩
    go_wp2
    refine bodyPost_ret (results_tmp2 rfl _ _ _) rfl ?_
    exact ⟨rfl, hb⟩

set_option maxRecDepth 20000 in
set_option maxHeartbeats 1000000 in
theorem ropen_any (kind : Int) (xs : List UInt8) (w : World) :
    Calls Tryz.prog 101 #[.int .i64 kind, strV xs] w fun e w' => e = .returned (tupV (openP kind xs)) ∧ Below w.heap.size w w' := by
  have hkd := rkind_any xs w
  unfold kindV at hkd
  unfold tupV
  by_cases h0 : (kindP xs).2 = 0
  · obtain ⟨hl, h58⟩ := kindP_ok h0
    by_cases hk : ((kindP xs).1 : Int) = kind
    · have hop : openP kind xs = ((xs.take (2 + nb xs 1)).drop 2, 0) := by
        unfold openP
        rw [if_neg (by omega), if_neg (by omega)]
      rw [hop]
      dsimp only
      rw [h0, hk] at hkd
      have hcb := fun w => cut_both xs 2 (2 + nb xs 1) (by omega) (by omega) w
      have hx1 := fun w => idx_str xs 1 (by omega) w
      obtain ⟨VS, hVS⟩ : ∃ V, V = strV xs := ⟨_, rfl⟩
      obtain ⟨VB, hVB⟩ : ∃ V, V = strV ((xs.take (2 + nb xs 1)).drop 2) := ⟨_, rfl⟩
      simp only [← hVB] at hcb ⊢
      simp only [← hVS] at hkd hcb hx1 ⊢
      have hcb' : ∀ w, (Instr.sliceAt 9 VS (some (.int .i64 2)) (some (.int .i64 (2 + (nb xs 1 : Int)))) none).run Tryz.prog w = .ok VB w := fun w => hcb w
      have hx1' : ∀ w, (Instr.index 9 VS (.int .i64 1)).run Tryz.prog w = .ok (.int .u8 (nb xs 1 : Int)) w := hx1
      have hb1 := nb_lt xs 1
      generalize nb xs 1 = m1 at *
      have HK := Lib.hid hkd
      clear hkd hVS hVB hcb hop h0 hk hl hx1
      go_enter Tryz.func101, Tryz.ntmps101
      go_wp2_with fail
      refine HK.out.mono ?_
      rintro e w1 ⟨rfl, hb⟩
      go_wp2
      refine bodyPost_ret (results_tmp2 rfl _ _ _) rfl ?_
      exact ⟨rfl, hb⟩
    · have hop : openP kind xs = ([], 22) := by
        unfold openP
        rw [if_neg (by omega), if_pos hk]
      rw [hop]
      rw [h0] at hkd
      generalize ((kindP xs).1 : Int) = kk at *
      have hkk : (kk == kind) = false := by simpa using hk
      generalize strV xs = VS at *
      have HK := Lib.hid hkd
      clear hkd hop h0 hk hl h58
      go_enter Tryz.func101, Tryz.ntmps101
      go_wp2_with fail
      refine HK.out.mono ?_
      rintro e w1 ⟨rfl, hb⟩
      go_wp2
      refine bodyPost_ret (results_tmp2 rfl _ _ _) rfl ?_
      exact ⟨rfl, hb⟩
  · have hop : openP kind xs = ([], (kindP xs).2) := by
      unfold openP
      rw [if_pos h0]
    rw [hop]
    dsimp only
    generalize (kindP xs).2 = ke at *
    have hke : ((ke : Int) == 0) = false := by simpa using h0
    generalize strV xs = VS at *
    have HK := Lib.hid hkd
    clear hkd hop h0
    go_enter Tryz.func101, Tryz.ntmps101
    go_wp2_with fail
    refine HK.out.mono ?_
    rintro e w1 ⟨rfl, hb⟩
    go_wp2
    refine bodyPost_ret (results_tmp2 rfl _ _ _) rfl ?_
    exact ⟨rfl, hb⟩


theorem known_make : makeP 2 [97, 98] = (recL 2 [97, 98], 0) := rfl


end Go.Proofs.YtpkeikbiblfidaaGreatDoor

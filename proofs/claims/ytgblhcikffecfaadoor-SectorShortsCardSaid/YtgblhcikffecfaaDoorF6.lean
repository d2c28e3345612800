/-
  Contracts: runs; the reference's Digits of numbers below 100.
-/
import Derived.Test.YtgblhcikffecfaaDoorF5
namespace Go.Proofs.YtgblhcikffecfaaDoor
open Go.RowKit Go.Shelf
set_option linter.unusedVariables false
set_option linter.unusedSimpArgs false
attribute [local go_sem] Oper.semAt_some

set_option maxHeartbeats 1000000 in
theorem runs_in (n : Nat) (s : ByteArray) (w : World) :
    CallsIn Fence.wide n Tryd.prog 27 #[.string s] w fun e w' => e = .returned (.func (.func 45) #[] #[.pointer (some ⟨w.heap.size, 0, none⟩)]) ∧ w' = w.alloc (.cells #[.string s] 9) := by
  refine callsIn_of_wp Tryd.func27 rfl trivial ?_ rfl
  simp only [Tryd.ntmps27, List.size_toArray, List.length_cons, List.length_nil, Nat.reduceAdd, Nat.reduceSub, Array.replicate_succ, Array.replicate_zero, List.push_toArray, List.append_toArray, List.nil_append, List.cons_append]
  gi_wp2
  go_ret
  exact ⟨rfl, rfl⟩

theorem runs_stops (n : Nat) (hn : 1 ≤ n) (Bn : Nat) (s : ByteArray) (hN : s.size < 100) (w : World) (hBn : Bn < w.heap.size) (hP : w.cell? ⟨Bn, 0, none⟩ = some (.string s)) :
    SeqStopsK Fence.wide n Tryd.prog 45 #[.pointer (some ⟨Bn, 0, none⟩)] encR (SameAt Bn) (fun ys => ys = (rs s.data.toList s.size).1) (fun pre => ∃ k, k ≤ s.size ∧ pre = (rs s.data.toList k).1) s.size w := fun l J Jx W hW hJ _ hY h0 =>
  runs1_in n hn l Bn s hN J Jx hY (fun pre W1 h => hJ pre W1 _ none h (show W1.grownBy W1.drew none from gb_drewN _ 1 none) (fun r e => by cases e)) (fun pre W1 m h => hJ pre W1 _ none h (gb_drewN _ _ none) (fun r e => by cases e)) W ((hW.cell (p := ⟨Bn, 0, none⟩) (by show Bn < w.heap.size; exact hBn)).trans hP) h0

/-- A decimal digit. -/
theorem dec_cut (n : Nat) (h : n < 10) (w : World) : (Instr.sliceAt 9 (.string ⟨#[48, 49, 50, 51, 52, 53, 54, 55, 56, 57]⟩) (some (.int .i64 (n : Int))) (some (.int .i64 ((n : Int) + 1))) none).run Tryd.prog w = .ok (.string ⟨#[UInt8.ofNat (48 + n)]⟩) w := by
  match n, h with
  | 0, _ => (change _ = _; kernel_rfl)
  | 1, _ => (change _ = _; kernel_rfl)
  | 2, _ => (change _ = _; kernel_rfl)
  | 3, _ => (change _ = _; kernel_rfl)
  | 4, _ => (change _ = _; kernel_rfl)
  | 5, _ => (change _ = _; kernel_rfl)
  | 6, _ => (change _ = _; kernel_rfl)
  | 7, _ => (change _ = _; kernel_rfl)
  | 8, _ => (change _ = _; kernel_rfl)
  | 9, _ => (change _ = _; kernel_rfl)
  | n + 10, h => exact absurd h (by omega)

theorem dec_one (n : Nat) (h : n < 10) : Lib.decDigits n = [UInt8.ofNat (48 + n)] := by
  unfold Lib.decDigits; rw [dif_pos h]
theorem dec_two (n : Nat) (h : ¬ n < 10) (h2 : n < 100) : Lib.decDigits n = [UInt8.ofNat (48 + n / 10), UInt8.ofNat (48 + n % 10)] := by
  unfold Lib.decDigits; rw [dif_neg h, dec_one _ (by omega)]; rfl

/-- What the reference's Digits holds behind i rounds. -/
def dg (n : Nat) : Nat → List UInt8 × Nat
  | 0 => ([], n)
  | i + 1 => (UInt8.ofNat (48 + (dg n i).2 % 10) :: (dg n i).1, (dg n i).2 / 10)

set_option maxRecDepth 20000 in
set_option maxHeartbeats 1000000 in
theorem rdec_any (n : Nat) (h : n < 100) (w : World) :
    Calls Tryd.prog 36 #[.int .i64 (n : Int)] w fun e w' => e = .returned (strV (Lib.decDigits n)) ∧ Below w.heap.size w w' := by
  go_enter Tryd.func36, Tryd.ntmps36
  go_wp2
  go_loopw [4, 3, 0] (fun i v x wr => ∃ k : Nat, k ≤ 2 ∧ (k = 2 → 10 ≤ n) ∧ i = .int .i64 (k : Int) ∧ v = strV (dg n k).1 ∧ x = .int .i64 ((dg n k).2 : Int) ∧ Below w.heap.size w wr) (fun i _ _ _ => 2 - (intOf i).toNat)
  case atStart => exact ⟨0, by omega, by omega, rfl, rfl, rfl, Below.refl _ _⟩
  case round =>
    obtain ⟨k, hk, hk2, rfl, rfl, rfl, hB⟩ := hrel
    have hv := dec_cut
    by_cases h0 : k = 0
    · subst h0
      obtain ⟨d, hd⟩ : ∃ d, d = n % 10 := ⟨_, rfl⟩
      have hc := dec_cut d (by omega)
      have ha := add_texts [UInt8.ofNat (48 + d)] [] (by simp)
      have hD1 : (dg n 1).1 = [UInt8.ofNat (48 + d)] := by rw [hd]; rfl
      have hD2 : (dg n 1).2 = n / 10 := rfl
      rw [List.append_nil] at ha
      change ∀ w, (binOp .add 9 (strV [UInt8.ofNat (48 + d)]) (.string ⟨#[]⟩)).run _ w = _ at ha
      change ∀ w, _ = Result.ok (strV [UInt8.ofNat (48 + d)]) w at hc
      rw [← hD1] at ha hc
      generalize hV : strV (dg n 1).1 = V at ha hc
      have e1 : (n : Int) % 10 = (d : Int) := by omega
      have HV := Lib.hid hV
      have HD := Lib.hid hd
      clear hv hV hD1 hd
      show Code.wp _ _ _ { tmps := #[.int .i64 (n : Int), _, _, .string ⟨#[]⟩, .int .i64 0, _, _, _, _, _, _, _, _, _, _, _, _, _, _, _, _, _, _, _, _, _, _, _, _], defers := _ } _
      go_wp2
      go_roundw
      case rel => exact ⟨1, by omega, by omega, by go_num, HV.out.symm, by rw [hD2]; go_num, hB⟩
      case measure => simp [intOf]
    · by_cases h1 : k = 1
      · subst h1
        by_cases h10 : n < 10
        · have hD1 : (dg n 1).1 = Lib.decDigits n := by rw [dec_one n h10]; show [UInt8.ofNat (48 + n % 10)] = _; rw [Nat.mod_eq_of_lt h10]
          have hD2 : (dg n 1).2 = 0 := by show n / 10 = 0; omega
          rw [hD1, hD2]
          generalize hV : strV (Lib.decDigits n) = V
          have HV := Lib.hid hV
          clear hv hV
          go_wp2
          go_ret
          exact ⟨by rw [HV.out]; rfl, hB⟩
        · obtain ⟨d, hd⟩ : ∃ d, d = n / 10 := ⟨_, rfl⟩
          have hc := dec_cut d (by omega)
          have hD1 : (dg n 1).1 = [UInt8.ofNat (48 + n % 10)] := rfl
          have hD2 : (dg n 1).2 = d := by rw [hd]; rfl
          have hE1 : (dg n 2).1 = UInt8.ofNat (48 + d) :: (dg n 1).1 := by
            show UInt8.ofNat (48 + n / 10 % 10) :: _ = _
            rw [Nat.mod_eq_of_lt (by omega), hd]
          have hE2 : (dg n 2).2 = 0 := by show n / 10 / 10 = 0; omega
          have ha := add_texts [UInt8.ofNat (48 + d)] (dg n 1).1 (by rw [hD1]; simp)
          change ∀ w, _ = Result.ok (strV (UInt8.ofNat (48 + d) :: (dg n 1).1)) w at ha
          rw [← hE1] at ha
          change ∀ w, _ = Result.ok (strV [UInt8.ofNat (48 + d)]) w at hc
          rw [hD2]
          generalize hV : strV (dg n 2).1 = V at ha
          generalize strV [UInt8.ofNat (48 + d)] = V1 at ha hc
          generalize strV (dg n 1).1 = V2 at ha ⊢
          have i1 : (0 : Int) < (d : Int) := by omega
          have e1 : (d : Int) % 10 = (d : Int) := by omega
          have e2 : (d : Int) / 10 = 0 := by omega
          have HV := Lib.hid hV
          have HE2 := Lib.hid hE2
          clear hv hV hD1 hD2 hE1 hE2 hd
          go_wp2
          go_roundw
          case rel => exact ⟨2, by omega, by omega, by go_num, HV.out.symm, by rw [HE2.out]; try go_num, hB⟩
          case measure => simp [intOf]
      · obtain rfl : k = 2 := by omega
        have h10 : ¬ n < 10 := by have := hk2 rfl; omega
        have hE1 : (dg n 2).1 = Lib.decDigits n := by
          rw [dec_two n h10 h]
          show [UInt8.ofNat (48 + n / 10 % 10), UInt8.ofNat (48 + n % 10)] = _
          rw [Nat.mod_eq_of_lt (by omega : n / 10 < 10)]
        have hE2 : (dg n 2).2 = 0 := by show n / 10 / 10 = 0; omega
        rw [hE1, hE2]
        generalize hV : strV (Lib.decDigits n) = V
        have HV := Lib.hid hV
        clear hv hV
        go_wp2
        go_ret
        exact ⟨by rw [HV.out]; rfl, hB⟩

end Go.Proofs.YtgblhcikffecfaaDoor

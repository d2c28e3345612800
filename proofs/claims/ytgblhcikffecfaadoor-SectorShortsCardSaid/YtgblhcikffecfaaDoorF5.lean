/-
  Contracts: the iterator runs.
-/
import Derived.Test.YtgblhcikffecfaaDoorF4
import Derived.RangeFuncNested
import Derived.RangeFuncBound
import Derived.RangeFuncCalls
import Derived.RangeFuncLeaves
import Derived.Shelf.Abstract
import Derived.Shelf.RegionOpen
import Derived.WalkKit
import Derived.OwnWalkIn
import Derived.TacticsInMore
import Derived.LoopNIn
import Derived.LoopIn
import Derived.BigRegionIn
import Derived.RegionIn
namespace Go.Proofs.YtgblhcikffecfaaDoor
open Go.RowKit Go.Shelf
set_option linter.unusedVariables false
set_option linter.unusedSimpArgs false
attribute [local go_sem] Oper.semAt_some

/-- A run: its byte, its length. -/
abbrev Run := Fin 256 × Fin 100
def mkR (c n : Nat) : Run := (⟨c % 256, Nat.mod_lt _ (by decide)⟩, ⟨n % 100, Nat.mod_lt _ (by decide)⟩)
/-- The runs that end in the first k bytes, and where the next begins. -/
def rs (xs : List UInt8) : Nat → List Run × Nat
  | 0 => ([], 0)
  | k + 1 => if k + 1 < xs.length ∧ bt xs (k + 1) = bt xs k then rs xs k else ((rs xs k).1 ++ [mkR (bt xs k) (k + 1 - (rs xs k).2)], k + 1)
theorem rs_le (xs) : ∀ k, (rs xs k).1.length ≤ k ∧ (rs xs k).2 ≤ k
  | 0 => ⟨Nat.le_refl _, Nat.le_refl _⟩
  | k + 1 => by
    have := rs_le xs k
    unfold rs
    split
    · omega
    · simp; omega
theorem rs_same {xs k} (h : k + 1 < xs.length ∧ bt xs (k + 1) = bt xs k) : rs xs (k + 1) = rs xs k := by
  show (if _ then _ else _) = _; rw [if_pos h]
theorem rs_ends {xs k} (h : ¬ (k + 1 < xs.length ∧ bt xs (k + 1) = bt xs k)) : rs xs (k + 1) = ((rs xs k).1 ++ [mkR (bt xs k) (k + 1 - (rs xs k).2)], k + 1) := by
  show (if _ then _ else _) = _; rw [if_neg h]

def encR (x : Run) : Array Value := #[.int .u8 (x.1.val : Int), .int .i64 (x.2.val : Int)]
theorem encR_mk (c n : Nat) (hc : c < 256) (hn : n < 100) : encR (mkR c n) = #[.int .u8 (c : Int), .int .i64 (n : Int)] := by
  show #[Value.int .u8 ((c % 256 : Nat) : Int), Value.int .i64 ((n % 100 : Nat) : Int)] = _
  rw [Nat.mod_eq_of_lt hc, Nat.mod_eq_of_lt hn]

/-- The cell stands as it stood: all that the iterator asks of a round. -/
def SameAt (b : Nat) (W W' : World) : Prop := W'.cell? ⟨b, 0, none⟩ = W.cell? ⟨b, 0, none⟩
theorem SameAt.trans {b : Nat} {A B C : World} (h : SameAt b A B) (k : SameAt b B C) : SameAt b A C := Eq.trans k h

set_option maxRecDepth 100000 in
set_option maxHeartbeats 2000000 in
theorem runs1_in (n : Nat) (hn : 1 ≤ n) (l Bn : Nat) (s : ByteArray) (hN : s.size < 100) (J Jx : List Run → World → Prop)
    (hY : ∀ pre x W, J pre W → pre.length < s.size → YieldAt Fence.wide (n - 1) Tryd.prog l (encR x) W fun e W' =>
      (e = .returned (.bool true) ∧ J (pre ++ [x]) W' ∧ SameAt Bn W W') ∨ (e = .returned (.bool false) ∧ Jx (pre ++ [x]) W'))
    (hJd : ∀ pre W, J pre W → J pre W.drew) (hJn : ∀ pre W m, J pre W → J pre (W.drewN m))
    (W : World) (hP : W.cell? ⟨Bn, 0, none⟩ = some (.string s)) (h0 : J [] W) :
    CallsIn Fence.wide n Tryd.prog 45 #[.func (.yield l) #[] #[], .pointer (some ⟨Bn, 0, none⟩)] W fun e W' => (∃ v, e = .returned v) ∧
      ((∃ ys, ys = (rs s.data.toList s.size).1 ∧ J ys W') ∨ (∃ pre, (∃ k, k ≤ s.size ∧ pre = (rs s.data.toList k).1) ∧ Jx pre W')) := by
  refine callsIn_of_wp Tryd.func45 rfl trivial ?_ rfl
  simp only [Tryd.ntmps45, List.size_toArray, List.length_cons, List.length_nil, Nat.reduceAdd, Nat.reduceSub, Array.replicate_succ, Array.replicate_zero, List.push_toArray, List.append_toArray, List.nil_append, List.cons_append]
  have HP := Lib.hid hP
  have hJ0 : J (rs s.data.toList 0).1 W := h0
  have HJ0 := Lib.hid hJ0
  clear hJ0 h0
  gi_wp2
  clear hP
  gi_loopw [7, 3] (fun i f wr => ∃ k : Nat, k ≤ s.size ∧ i = .int .i64 (k : Int) ∧ f = .int .i64 ((rs s.data.toList k).2 : Int) ∧ J (rs s.data.toList k).1 wr ∧ wr.cell? ⟨Bn, 0, none⟩ = some (.string s)) (fun i _ _ => s.size - (intOf i).toNat)
  case atStart => exact ⟨0, by omega, rfl, rfl, HJ0.out, HP.out⟩
  case round =>
    obtain ⟨k, hk, rfl, rfl, hJ, hb⟩ := hrel
    by_cases hlt : k < s.size
    · have i1 : (0 : Int) ≤ (k : Int) := by omega
      have i2 : (k : Int) < (s.size : Int) := by omega
      have i3 : (s.size : Int) < 100 := by omega
      have hle := rs_le s.data.toList k
      have hll : s.data.toList.length = s.size := rfl
      have hs1 := @rs_same s.data.toList k
      have hs2 := @rs_ends s.data.toList k
      rw [hll] at hs1 hs2
      have hx1 : ∀ w, (Instr.index 9 (.string s) (.int .i64 (k : Int))).run Tryd.prog w = .ok (.int .u8 (bt s.data.toList k : Int)) w := index_text s k hlt
      have hb1 := bt_lt s.data.toList k
      by_cases h1 : k + 1 < s.size
      · have i4 : (k : Int) + 1 < (s.size : Int) := by omega
        have hx2 : ∀ w, (Instr.index 9 (.string s) (.int .i64 ((k : Int) + 1))).run Tryd.prog w = .ok (.int .u8 (bt s.data.toList (k + 1) : Int)) w := by
          have := index_text s (k + 1) h1
          rw [show ((k + 1 : Nat) : Int) = (k : Int) + 1 from by omega] at this
          exact this
        by_cases he : bt s.data.toList (k + 1) = bt s.data.toList k
        · have hs := hs1 ⟨h1, he⟩
          rw [he] at hx2
          rw [← hs] at hJ
          have HJ := Lib.hid hJ
          have HS := Lib.hid hs
          have HBC := Lib.hid hb
          clear hs1 hs2 hJ hs he hle
          generalize bt s.data.toList k = y at hx1 hx2
          gi_wp2
          gi_region
          gi_wp2
          go_roundw
          case rel => exact ⟨k + 1, by omega, by go_num, by rw [HS.out], hJd _ _ HJ.out, HBC.out⟩
          case measure => simp [intOf]; omega
        · have hs := hs2 (fun h => he h.2)
          obtain ⟨fn, tmps, assign, body, hy, hR⟩ := hY (rs s.data.toList k).1 (mkR (bt s.data.toList k) (k + 1 - (rs s.data.toList k).2)) wr.drew (hJd _ _ hJ) (by omega)
          have hup : (rs s.data.toList k).1 ++ [mkR (bt s.data.toList k) (k + 1 - (rs s.data.toList k).2)] = (rs s.data.toList (k + 1)).1 := by rw [hs]
          rw [hup] at hR
          rw [encR_mk _ _ hb1 (by omega)] at hy
          have hs' : (rs s.data.toList (k + 1)).2 = k + 1 := by rw [hs]
          have HS := Lib.hid hs'
          have HR := Lib.hid hR
          have hbd : wr.drew.cell? ⟨Bn, 0, none⟩ = some (.string s) := hb
          have HBC := Lib.hid hb
          have hfk := hle.2
          clear hR hup hs hs' hs1 hs2 hJ hle
          generalize (rs s.data.toList k).2 = f at *
          rw [show ((k + 1 - f : Nat) : Int) = (k : Int) + 1 - (f : Int) from by omega] at hy
          have i5 : (0 : Int) ≤ (f : Int) := by omega
          have i6 : (f : Int) ≤ (k : Int) := by omega
          have he' : ¬ ((bt s.data.toList (k + 1) : Int) = (bt s.data.toList k : Int)) := by omega
          generalize (bt s.data.toList (k + 1) : Int) = y2 at hx2 he'
          generalize (bt s.data.toList k : Int) = y1 at hx1 he' hy
          have he2 : (y2 == y1) = false := by simpa using he'
          clear he' he
          gi_wp2
          gi_region
          gi_wp2
          refine HR.out.mono ?_
          rintro e W3 (⟨rfl, hJ3, hk3⟩ | ⟨rfl, hJx3⟩)
          · have hb3 : W3.cell? ⟨Bn, 0, none⟩ = some (.string s) := (show W3.cell? ⟨Bn, 0, none⟩ = wr.cell? ⟨Bn, 0, none⟩ from hk3).trans HBC.out
            clear hy hbd
            gi_wp2
            go_roundw
            case rel => exact ⟨k + 1, by omega, by go_num, by rw [HS.out]; go_num, hJ3, hb3⟩
            case measure => simp [intOf]; omega
          · gi_wp2
            refine bodyPost_ret (results_none rfl _ _ _) rfl ?_
            exact ⟨⟨_, rfl⟩, .inr ⟨_, ⟨k + 1, by omega, rfl⟩, hJx3⟩⟩
      · have hs := hs2 (fun h => h1 h.1)
        have hs' : (rs s.data.toList (k + 1)).2 = k + 1 := by rw [hs]
        have HS := Lib.hid hs'
        have HJ := Lib.hid hJ
        have HS2 := Lib.hid hs
        have HLE := Lib.hid hle
        have HBC := Lib.hid hb
        have HB1 := Lib.hid hb1
        have hfk := hle.2
        obtain ⟨y1, hy1⟩ : ∃ y, y = bt s.data.toList k := ⟨_, rfl⟩
        rw [← hy1] at hx1
        have HY1 := Lib.hid hy1
        obtain ⟨f, hf⟩ : ∃ f, f = (rs s.data.toList k).2 := ⟨_, rfl⟩
        rw [← hf] at hfk ⊢
        have HF := Lib.hid hf
        have i5 : (0 : Int) ≤ (f : Int) := by omega
        have i6 : (f : Int) ≤ (k : Int) := by omega
        have i4 : ¬ (k : Int) + 1 < (s.size : Int) := by omega
        clear hs hs' hs1 hs2 hJ hle hf hy1 hb1
        gi_wp2
        have e1 : decide ((k : Int) + 1 < (s.size : Int)) = false := by simp; omega
        have e2 : decide (k + 1 < s.size) = false := by simp; omega
        gi_quiet (fail)
        obtain ⟨fn, tmps, assign, body, hy, hR⟩ := hY (rs s.data.toList k).1 (mkR (bt s.data.toList k) (k + 1 - (rs s.data.toList k).2)) (wr.drewN nq) (hJn _ _ _ HJ.out) (by have := HLE.out.1; omega)
        have hup : (rs s.data.toList k).1 ++ [mkR (bt s.data.toList k) (k + 1 - (rs s.data.toList k).2)] = (rs s.data.toList (k + 1)).1 := by rw [HS2.out]
        rw [hup] at hR
        rw [encR_mk _ _ HB1.out (by omega), ← HF.out, ← HY1.out, show ((k + 1 - f : Nat) : Int) = (k : Int) + 1 - (f : Int) from by omega] at hy
        have hbd : (wr.drewN nq).cell? ⟨Bn, 0, none⟩ = some (.string s) := HBC.out
        have HR := Lib.hid hR
        clear hR hup e1 e2
        gi_wp2
        refine HR.out.mono ?_
        rintro e W3 (⟨rfl, hJ3, hk3⟩ | ⟨rfl, hJx3⟩)
        · have hb3 : W3.cell? ⟨Bn, 0, none⟩ = some (.string s) := (show W3.cell? ⟨Bn, 0, none⟩ = wr.cell? ⟨Bn, 0, none⟩ from hk3).trans HBC.out
          clear hy hbd
          gi_wp2
          go_roundw
          case rel => exact ⟨k + 1, by omega, by go_num, by rw [HS.out]; go_num, hJ3, hb3⟩
          case measure => simp [intOf]; omega
        · gi_wp2
          refine bodyPost_ret (results_none rfl _ _ _) rfl ?_
          exact ⟨⟨_, rfl⟩, .inr ⟨_, ⟨k + 1, by omega, rfl⟩, hJx3⟩⟩
    · obtain rfl : k = s.size := by omega
      gi_wp2
      go_end0
      exact ⟨⟨_, rfl⟩, .inl ⟨_, rfl, hJ⟩⟩

end Go.Proofs.YtgblhcikffecfaaDoor

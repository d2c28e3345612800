/-
  Contracts: the program's Read (a range over newest).
-/
import Derived.Test.YtodcdefmoliegaaGreatDoorE4
import Derived.RangeFuncNested
import Derived.RangeFuncBound
import Derived.RangeFuncCalls
import Derived.RangeFuncLeaves
import Derived.Shelf.Abstract
import Derived.Shelf.RegionOpen
import Derived.WalkKit
import Derived.OwnWalkIn
import Derived.TacticsInMore
import Derived.LoopNIn
import Derived.LoopIn
import Derived.BigRegionIn
import Derived.RegionIn
namespace Go.Proofs.YtodcdefmoliegaaGreatDoor
open Go.RowKit Go.Shelf
set_option linter.unusedVariables false
set_option linter.unusedSimpArgs false
attribute [local go_sem] Oper.semAt_some

/-- What waits, as it is read through the iterator's box. -/
structure Pend (W : World) (n₀ Bn p : Nat) (a2 : Option Addr) (c : Nat) (WL : List (Int × ByteArray)) : Prop where
  lb : Bn < n₀
  lp : p < n₀
  box : W.cell? ⟨Bn, 0, none⟩ = some (.pointer (some ⟨p, 0, none⟩))
  sl : W.cell? ⟨p, 1, none⟩ = some (.slice a2 WL.length c)
  big : WL.length ≤ c
  cm : c ≤ maxLen
  few : WL.length ≤ 1000000
  at0 : 0 < WL.length → ∃ g, a2 = some ⟨g, 0, none⟩ ∧ g < n₀ ∧ ∀ i, i < WL.length → W.cell? ⟨g, i * 2, none⟩ = some (.int .i64 (wAt WL i).1) ∧ W.cell? ⟨g, i * 2 + 1, none⟩ = some (.string (wAt WL i).2)

theorem Pend.below {W W' : World} {n₀ Bn p a2 c WL} (h : Pend W n₀ Bn p a2 c WL) (hb : Below n₀ W W') : Pend W' n₀ Bn p a2 c WL :=
  ⟨h.lb, h.lp, (hb.cell (p := ⟨Bn, 0, none⟩) h.lb).trans h.box, (hb.cell (p := ⟨p, 1, none⟩) h.lp).trans h.sl, h.big, h.cm, h.few, fun h0 => by
    obtain ⟨g, e, hg, hc⟩ := h.at0 h0
    exact ⟨g, e, hg, fun i hi => ⟨(hb.cell (p := ⟨g, i * 2, none⟩) hg).trans (hc i hi).1, (hb.cell (p := ⟨g, i * 2 + 1, none⟩) hg).trans (hc i hi).2⟩⟩⟩

/-- What has come when k rounds are over: the newest first. -/
def upk (WL : List (Int × ByteArray)) (k : Nat) : List (Int × ByteArray) := (List.range k).map fun j => wAt WL (WL.length - 1 - j)
theorem upk_succ (WL k) : upk WL (k + 1) = upk WL k ++ [wAt WL (WL.length - 1 - k)] := by simp [upk, List.range_succ]
theorem upk_length (WL k) : (upk WL k).length = k := by simp [upk]

def encP (x : Int × ByteArray) : Array Value := #[.agg #[.int .i64 x.1, .string x.2]]

set_option maxRecDepth 100000 in
set_option maxHeartbeats 1000000 in
theorem newest1_in (F : Fence) (n : Nat) (h6 : F.fn 69) (hro : F.round = none) (hn : 1 ≤ n) (l Bn n₀ p : Nat) (a2 : Option Addr) (c : Nat) (WL : List (Int × ByteArray)) (J Jx : List (Int × ByteArray) → World → Prop)
    (hY : ∀ pre x W, J pre W → pre.length < WL.length → YieldAt F (n - 1) Tryz.prog l (encP x) W fun e W' =>
      (e = .returned (.bool true) ∧ J (pre ++ [x]) W' ∧ Below n₀ W W') ∨ (e = .returned (.bool false) ∧ Jx (pre ++ [x]) W'))
    (W : World) (hP : Pend W n₀ Bn p a2 c WL) (h0 : J [] W) :
    CallsIn F n Tryz.prog 69 #[.func (.yield l) #[] #[], .pointer (some ⟨Bn, 0, none⟩)] W fun e W' => (∃ v, e = .returned v) ∧
      ((∃ ys, ys = upk WL WL.length ∧ J ys W') ∨ (∃ pre, (∃ k, k ≤ WL.length ∧ pre = upk WL k) ∧ Jx pre W')) := by
  refine callsIn_of_wp Tryz.func69 rfl h6 ?_ hro
  simp only [Tryz.ntmps69, List.size_toArray, List.length_cons, List.length_nil, Nat.reduceAdd, Nat.reduceSub, Array.replicate_succ, Array.replicate_zero, List.push_toArray, List.append_toArray, List.nil_append, List.cons_append]
  have hb := hP.box
  have hs := hP.sl
  have hfw := hP.few
  have HP := Lib.hid hP
  clear hP
  gi_wp2
  clear hb hs
  gi_loopw [3] (fun i wr => ∃ k : Nat, k ≤ WL.length ∧ i = .int .i64 ((WL.length : Int) - 1 - (k : Int)) ∧ J (upk WL k) wr ∧ Pend wr n₀ Bn p a2 c WL) (fun i _ => (intOf i + 1).toNat)
  case atStart => exact ⟨0, by omega, by simp, h0, HP.out⟩
  case round =>
    obtain ⟨k, hk, rfl, hJ, hP⟩ := hrel
    by_cases hlt : k < WL.length
    · obtain ⟨m, hm⟩ : ∃ m : Nat, m = WL.length - 1 - k := ⟨_, rfl⟩
      have hml : m < WL.length := by omega
      have e0 : (WL.length : Int) - 1 - (k : Int) = (m : Int) := by omega
      rw [e0]
      have i1 : (0 : Int) ≤ (m : Int) := by omega
      have i2 : (m : Int) < (WL.length : Int) := by omega
      obtain ⟨g, rfl, hg, hc⟩ := hP.at0 (by omega)
      obtain ⟨c0, c1⟩ := hc m hml
      have hb := hP.box
      have hs := hP.sl
      have hcm : (c : Int) ≤ 9223372036854775807 := by have := hP.cm; unfold maxLen at this; omega
      have hbig := hP.big
      obtain ⟨fn, tmps, assign, body, hy, hR⟩ := hY (upk WL k) (wAt WL m) wr hJ (by rw [upk_length]; exact hlt)
      have hup : upk WL k ++ [wAt WL m] = upk WL (k + 1) := by rw [upk_succ, hm]
      rw [hup] at hR
      have HR := Lib.hid hR
      have HP := Lib.hid hP
      have HM := Lib.hid hm
      unfold encP at hy
      clear hR hJ hc hP hm hup e0
      generalize (wAt WL m).1 = x1 at *
      generalize (wAt WL m).2 = x2 at *
      gi_wp2
      refine HR.out.mono ?_
      rintro e W3 (⟨rfl, hJ3, hk3⟩ | ⟨rfl, hJx3⟩)
      · have hP3 := HP.out.below hk3
        have HP3 := Lib.hid hP3
        clear hP3 hk3 hy
        gi_wp2
        go_roundw
        case rel => exact ⟨k + 1, by omega, by have := HM.out; go_num, hJ3, HP3.out⟩
        case measure => simp [intOf]
      · gi_wp2
        refine bodyPost_ret (results_none rfl _ _ _) rfl ?_
        exact ⟨⟨_, rfl⟩, .inr ⟨_, ⟨k + 1, by omega, rfl⟩, hJx3⟩⟩
    · obtain rfl : k = WL.length := by omega
      have e0 : (WL.length : Int) - 1 - (WL.length : Int) = -1 := by omega
      rw [e0]
      gi_wp2
      go_end0
      exact ⟨⟨_, rfl⟩, .inl ⟨_, rfl, hJ⟩⟩

set_option maxHeartbeats 1000000 in
theorem newest_in (F : Fence) (n : Nat) (h5 : F.fn 51) (hro : F.round = none) (p0 : Option Addr) (w : World) :
    CallsIn F n Tryz.prog 51 #[.pointer p0] w fun e w' => e = .returned (.func (.func 69) #[] #[.pointer (some ⟨w.heap.size, 0, none⟩)]) ∧ w' = w.alloc (.cells #[.pointer p0] 28) := by
  refine callsIn_of_wp Tryz.func51 rfl h5 ?_ hro
  simp only [Tryz.ntmps51, List.size_toArray, List.length_cons, List.length_nil, Nat.reduceAdd, Nat.reduceSub, Array.replicate_succ, Array.replicate_zero, List.push_toArray, List.append_toArray, List.nil_append, List.cons_append]
  gi_wp2
  go_ret
  exact ⟨rfl, rfl⟩

theorem newest_stops (F : Fence) (n : Nat) (h6 : F.fn 69) (hro : F.round = none) (hn : 1 ≤ n) (Bn n₀ p : Nat) (a2 : Option Addr) (c : Nat) (WL : List (Int × ByteArray)) (w : World) (hn₀ : n₀ ≤ w.heap.size) (hP : Pend w n₀ Bn p a2 c WL) :
    SeqStopsK F n Tryz.prog 69 #[.pointer (some ⟨Bn, 0, none⟩)] encP (Below n₀) (fun ys => ys = upk WL WL.length) (fun pre => ∃ k, k ≤ WL.length ∧ pre = upk WL k) WL.length w := fun l J Jx W hW _ _ hY h0 =>
  newest1_in F n h6 hro hn l Bn n₀ p a2 c WL J Jx hY W (hP.below (hW.mono hn₀)) h0

theorem look_skip (W : List (Int × ByteArray)) (x : Int) (d : ByteArray) : ∀ (j n : Nat), j ≤ n → (∀ i, i < j → (wAt W (n - 1 - i)).1 ≠ x) → look W x d n = look W x d (n - j)
  | 0, n, _, _ => rfl
  | j + 1, 0, h, _ => by omega
  | j + 1, n + 1, h, hm => by
    have h0 := hm 0 (by omega)
    simp only [Nat.add_sub_cancel, Nat.sub_zero] at h0
    have e : look W x d (n + 1) = look W x d n := by show (if _ then _ else _) = _; rw [if_neg h0]
    rw [e, show n + 1 - (j + 1) = n - j from by omega]
    refine look_skip W x d j n (by omega) fun i hi => ?_
    have := hm (i + 1) (by omega)
    rwa [show n + 1 - 1 - (i + 1) = n - 1 - i from by omega] at this

theorem look_none (W : List (Int × ByteArray)) (x : Int) (d : ByteArray) (h : ∀ y ∈ upk W W.length, y.1 ≠ x) : look W x d W.length = d := by
  rw [look_skip W x d W.length W.length (Nat.le_refl _) (fun i hi => h _ (by simp only [upk, List.mem_map, List.mem_range]; exact ⟨i, hi, rfl⟩)), Nat.sub_self]
  rfl

theorem look_some (W : List (Int × ByteArray)) (x : Int) (d : ByteArray) (k : Nat) (hk : k ≤ W.length) (pre : List (Int × ByteArray)) (y : Int × ByteArray) (he : upk W k = pre ++ [y]) (h : ∀ z ∈ pre, z.1 ≠ x) (hy : y.1 = x) : look W x d W.length = y.2 := by
  have hl := congrArg List.length he
  rw [upk_length] at hl
  simp at hl
  obtain ⟨m, rfl⟩ : ∃ m, k = m + 1 := ⟨k - 1, by omega⟩
  rw [upk_succ] at he
  have hp := List.append_inj_left' he rfl
  have hz := List.append_inj_right' he rfl
  simp at hz
  rw [look_skip W x d m W.length (by omega) (fun i hi => h _ (by rw [← hp]; simp only [upk, List.mem_map, List.mem_range]; exact ⟨i, hi, rfl⟩))]
  obtain ⟨q, hq⟩ : ∃ q, W.length - m = q + 1 := ⟨W.length - m - 1, by omega⟩
  rw [hq]
  have e1 : wAt W q = y := by rw [← hz]; congr 1; omega
  show (if (wAt W q).1 = x then _ else _) = _
  rw [e1, if_pos hy]

theorem pend_of {w : World} {B p : Nat} {v1 : Value} {a2 : Option Addr} {c : Nat} {S : DS} {W : World} {n₀ Bn : Nat} (h : PD w B p v1 (.slice a2 S.W.length c) S) (hb : Below w.heap.size w W) (hn : w.heap.size ≤ n₀) (hB : Bn < n₀) (hbox : W.cell? ⟨Bn, 0, none⟩ = some (.pointer (some ⟨p, 0, none⟩))) (hf : S.W.length ≤ 1000000) :
    Pend W n₀ Bn p a2 c S.W := by
  obtain ⟨fu, e, c0, c1, c2, c3, c4, c5, hf2⟩ := h.cells
  obtain ⟨a2', cc2, e2, hle2, hcm2, hg2⟩ := owns_shape1 h.own2
  cases e2
  have hpl := h.lt
  refine ⟨hB, by omega, hbox, (hb.cell (p := ⟨p, 1, none⟩) hpl).trans c1, hle2, hcm2, hf, fun h0 => ?_⟩
  obtain ⟨g, rfl, hgo, hBg, hgl⟩ := hg2 h0
  exact ⟨g, rfl, by omega, fun i hi => ⟨(hb.cell (p := ⟨g, i * 2, none⟩) hgl).trans (owns_cell h.own2 hgo _ _ (puts_at S.W i hi).1), (hb.cell (p := ⟨g, i * 2 + 1, none⟩) hgl).trans (owns_cell h.own2 hgo _ _ (puts_at S.W i hi).2)⟩⟩

theorem boxes3 (w : World) (u v x : Value) (t1 t2 t3 : TypeId) : ∃ w3, w3 = ((w.alloc (.cells #[u] t1)).alloc (.cells #[v] t2)).alloc (.cells #[x] t3) ∧ Boxed w3 w.heap.size t1 u ∧ Boxed w3 (w.heap.size + 1) t2 v ∧ Boxed w3 (w.heap.size + 1 + 1) t3 x ∧ w3.heap.size = w.heap.size + 3 ∧ Below w.heap.size w w3 := by
  refine ⟨_, rfl, ((Boxed.new w t1 u).alloc _).alloc _, ?_, ?_, by simp, (((Below.refl _ w).alloc (Nat.le_refl _) _).alloc (by simp) _).alloc (by simp; omega) _⟩
  · have := (Boxed.new (w.alloc (.cells #[u] t1)) t2 v).alloc (.cells #[x] t3)
    simpa only [World.size_alloc] using this
  · have := Boxed.new ((w.alloc (.cells #[u] t1)).alloc (.cells #[v] t2)) t3 x
    simpa only [World.size_alloc] using this

theorem boxed_from {W W' : World} {row : Option Nat} {b : Nat} {t : TypeId} {v : Value} (h : Boxed W b t v) (hg : W.grownBy W' row) (hr : ∀ r, row = some r → ∃ o : Obj, W.heap[r]? = some o ∧ o.isCells = false) : Boxed W' b t v :=
  boxed_own b t (fun (_ : Unit) => v) () W W' row h hg hr

theorem put_own {W W' : World} {row : Option Nat} {b : Nat} {cs : Array Value} {t : TypeId} (h : W.heap[b]? = some (.cells cs t (0, 0))) (hg : W.grownBy W' row) (hr : ∀ r, row = some r → ∃ o : Obj, W.heap[r]? = some o ∧ o.isCells = false) : W'.heap[b]? = some (.cells cs t (0, 0)) := by
  rw [hg.block b (lt_of_block h) (fun e => by
    obtain ⟨o, ho, hc⟩ := hr b e.symm
    rw [h] at ho; cases ho; cases hc)]
  exact h

set_option maxRecDepth 100000 in
set_option maxHeartbeats 4000000 in
theorem read_in (B p : Nat) (v1 v2 : Value) (S : DS) (at' : Int) (w : World) (h : PD w B p v1 v2 S) (hf : S.W.length ≤ 1000000) (hl : S.L.length ≤ 1000000) :
    CallsIn Fence.wide 10 Tryz.prog 32 #[.pointer (some ⟨p, 0, none⟩), .int .i64 at'] w fun e w' => e = .returned (two (S.read at')) ∧ Below w.heap.size w w' := by
  obtain ⟨fu, e, c0, c1, c2, c3, c4, c5, hfz⟩ := h.cells
  obtain ⟨a, c, rfl, hle, hcm, hg⟩ := owns_shape1 h.own1
  obtain ⟨a2, cc2, rfl, hle2, hcm2, hg2⟩ := owns_shape1 h.own2
  have hs1 := fun w' (hb : Below w.heap.size w w') => (callsIn_wide (n := 9)).2 (state_any p S.off w' ((hb.cell (p := ⟨p, 2, none⟩) h.lt).trans c2))
  have hh := fun w' (hb : Below w.heap.size w w') => (callsIn_wide (n := 9)).2 (has_any p at' a S.L.length c w' ((hb.cell (p := ⟨p, 0, none⟩) h.lt).trans c0))
  have hpl := h.lt
  have H := Lib.hid h
  have HS := Lib.hid hs1
  have HH := Lib.hid hh
  have C0 := Lib.hid c0
  clear hs1 hh h c0 c1 c2 c3 c4 c5 hfz e hg2
  obtain ⟨R, hR⟩ : ∃ R, R = S.read at' := ⟨_, rfl⟩
  rw [← hR]
  have HR := Lib.hid hR
  clear hR
  refine callsIn_of_wp_marks Tryz.func32 rfl trivial ?_ rfl
  simp only [Tryz.ntmps32, List.size_toArray, List.length_cons, List.length_nil, Nat.reduceAdd, Nat.reduceSub, Array.replicate_succ, Array.replicate_zero, List.push_toArray, List.append_toArray, List.nil_append, List.cons_append]
  gi_wp2_with fail
  obtain ⟨w3, hw3, bX, bR, bE, hsz, hb3⟩ := boxes3 w (.int .i64 at') (.string ⟨#[]⟩) (.int .i64 0) 3 9 29
  rw [← hw3]
  clear hw3
  refine ⟨trivial, (HS.out _ hb3).mono ?_⟩
  rintro e w1 ⟨rfl, hw1⟩; obtain rfl := hw1.symm; clear hw1
  have cX := bX.cell
  have cR := bR.cell
  have fR := bR.frozen
  have cE := bE.cell
  have fE := bE.frozen
  cases ho : S.off with
  | true =>
    have hu : R = (noBytes, 5) := HR.out.trans (by unfold DS.read; rw [if_pos ho])
    have HU := Lib.hid hu
    clear hu
    gi_wp2
    have bR1 := (bR.set (.string ⟨#[]⟩)).other (B' := w.heap.size + 1 + 1) (by omega) (.int .i64 5)
    have bE1 := (bE.other (B' := w.heap.size + 1) (by omega) (.string ⟨#[]⟩)).set (.int .i64 5)
    refine ⟨two R, ?_, rfl, (hb3.setCell (p := ⟨w.heap.size + 1, 0, none⟩) (by simp) _).setCell (p := ⟨w.heap.size + 1 + 1, 0, none⟩) (by simp; omega) _⟩
    rw [HU.out]
    simp [results, Tryz.f32, go_sem, bR1.cell, bE1.cell, two, noBytes]
  | false =>
    by_cases hs : S.has at'
    · obtain ⟨k, rfl, hkl⟩ := has_nat hs
      have hu : R = (look S.W k (lAt S.L k) S.W.length, 0) := HR.out.trans (by unfold DS.read; rw [if_neg (by simp [ho]), if_pos hs]; rfl)
      have HU := Lib.hid hu
      have hd : decide (0 ≤ (k : Int) ∧ (k : Int) < (S.L.length : Int)) = true := by simpa [DS.has] using hs
      have hh3 := HH.out w3 hb3
      rw [hd] at hh3
      have HH3 := Lib.hid hh3
      have HB3 := Lib.hid hb3
      clear hu hh3 hd hs hb3
      gi_wp2_with fail
      refine ⟨trivial, HH3.out.mono ?_⟩
      rintro e w1 ⟨rfl, hw1⟩; obtain rfl := hw1.symm; clear hw1
      gi_wp2_with fail
      refine ⟨trivial, (newest_in Fence.wide 9 trivial rfl _ _).mono ?_⟩
      rintro e w1 ⟨rfl, rfl⟩
      gi_wp2_with fail
      have hP := pend_of (n₀ := w.heap.size + 4) (Bn := w.heap.size + 3) H.out (HB3.out.alloc HB3.out.size (.cells #[.pointer (some ⟨p, 0, none⟩)] 28)) (by omega) (by omega) (by rw [← hsz]; exact (Boxed.new w3 28 _).cell) hf
      have hs0 : (w3.alloc (.cells #[.pointer (some ⟨p, 0, none⟩)] 28)).heap.size = w.heap.size + 4 := by simp [hsz]
      have hB0 : Below w.heap.size w (w3.alloc (.cells #[.pointer (some ⟨p, 0, none⟩)] 28)) := HB3.out.alloc HB3.out.size _
      have bX0 := bX.alloc (.cells #[.pointer (some ⟨p, 0, none⟩)] 28)
      have bR0 := bR.alloc (.cells #[.pointer (some ⟨p, 0, none⟩)] 28)
      have bE0 := bE.alloc (.cells #[.pointer (some ⟨p, 0, none⟩)] 28)
      obtain ⟨W0, hW0⟩ : ∃ W0, w3.alloc (.cells #[.pointer (some ⟨p, 0, none⟩)] 28) = W0 := ⟨_, rfl⟩
      rw [hW0] at hP hs0 hB0 bX0 bR0 bE0 ⊢
      clear hW0 cX cR fR cE fE bX bR bE
      refine wpIn_rangeFunc_ownH rfl (by omega) (gf := 69) (lb := #[.pointer (some ⟨w.heap.size + 3, 0, none⟩)]) rfl trivial (enters_of Tryz.func69 (by kernel_rfl) rfl)
        (newest_stops Fence.wide 9 trivial rfl (by omega) (w.heap.size + 3) (w.heap.size + 4) p a2 cc2 S.W W0 (by omega) hP) belowK_t (belowK_b (by omega)) (Below.refl _ _) (fun _ => rfl)
        (fun pre W => ((∀ y ∈ pre, y.1 ≠ (k : Int)) ∧ Boxed W w.heap.size 3 (.int .i64 (k : Int)) ∧ Boxed W (w.heap.size + 1) 9 (.string ⟨#[]⟩) ∧ Boxed W (w.heap.size + 1 + 1) 29 (.int .i64 0) ∧ w.heap.size + 4 ≤ W.heap.size) ∧ Below w.heap.size w W)
        (fun c pre W => (c = .ret ∧ ∃ pre' y, pre = pre' ++ [y] ∧ (∀ z ∈ pre', z.1 ≠ (k : Int)) ∧ y.1 = (k : Int) ∧ Boxed W (w.heap.size + 1) 9 (.string y.2) ∧ Boxed W (w.heap.size + 1 + 1) 29 (.int .i64 0)) ∧ Below w.heap.size w W)
        (OwnFrom.and (fun s X Y row hs hg hr => ⟨hs.1, boxed_from hs.2.1 hg (fun r e => (hr r e).2), boxed_from hs.2.2.1 hg (fun r e => (hr r e).2), boxed_from hs.2.2.2.1 hg (fun r e => (hr r e).2), Nat.le_trans hs.2.2.2.2 hg.size⟩) (ownFrom_below (Nat.le_refl _) (by omega)))
        (fun c => OwnFrom.and (fun s X Y row hs hg hr => by
          obtain ⟨h1, pre', y, h2, h3, h4, h5, h6⟩ := hs
          exact ⟨h1, pre', y, h2, h3, h4, boxed_from h5 hg (fun r e => (hr r e).2), boxed_from h6 hg (fun r e => (hr r e).2)⟩) (ownFrom_below (Nat.le_refl _) (by omega)))
        ⟨⟨by simp, bX0, bR0, bE0, by omega⟩, hB0⟩
        (fun x a' W => ∃ Bx, w.heap.size + 1 + 1 < Bx ∧ W.heap[Bx]? = some (.cells #[.int .i64 x.1, .string x.2] 68 (0, 0)) ∧ a' = { tmps := #[.pointer (some ⟨p, 0, none⟩), .int .i64 (k : Int), undef, .pointer (some ⟨w.heap.size, 0, none⟩), .pointer (some ⟨w.heap.size + 1, 0, none⟩), .pointer (some ⟨w.heap.size + 1 + 1, 0, none⟩), .int .i64 0, .pointer (some ⟨Bx, 0, none⟩), .pointer (some ⟨p, 0, none⟩), .int .i64 0, .int .i64 0, .bool false, undef, .pointer (some ⟨p, 0, none⟩), .int .i64 (k : Int), .bool true, .bool false, .pointer (some ⟨p, 0, none⟩), .func (.func 69) #[] #[.pointer (some ⟨w.heap.size + 3, 0, none⟩)], .agg #[.int .i64 x.1, .string x.2], undef, undef, undef, undef, undef, undef, undef, undef, undef, undef, undef, undef, undef], defers := [] })
        (fun x a' _ X Y row hs hg hr => by
          obtain ⟨Bx, h1, h2, h3⟩ := hs
          exact ⟨Bx, h1, put_own h2 hg (fun r e => (hr r e).2), h3⟩)
        ?assign ?body ?done ?stop
      case assign =>
        rintro l pre x W K ⟨⟨hne, bX1, bR1, bE1, hs1⟩, hB1⟩ hK
        obtain ⟨x1, x2⟩ := x
        unfold encP
        gi_wp2
        exact hK _ _ ((KeepsOthers.alloc _ _).from _) ((Below.refl _ W).alloc hs1 _) ⟨⟨hne, bX1.alloc _, bR1.alloc _, bE1.alloc _, by simp; omega⟩, hB1.alloc hB1.size _⟩ ⟨W.heap.size, bE1.lt, heap_alloc_new _ _, rfl⟩
      case body =>
        rintro l pre x a' W hl' ⟨r, hr⟩ ⟨⟨hne, bX1, bR1, bE1, hs1⟩, hB1⟩ ⟨Bx, hBx, bP, rfl⟩ hlt
        obtain ⟨x1, x2⟩ := x
        have cX := bX1.cell
        have cR := bR1.cell
        have fR := bR1.frozen
        have cE := bE1.cell
        have fE := bE1.frozen
        have p0 : W.cell? ⟨Bx, 0, none⟩ = some (.int .i64 x1) := by rw [cell_of_blk bP]; rfl
        have p1 : W.cell? ⟨Bx, 1, none⟩ = some (.string x2) := by rw [cell_of_blk bP]; rfl
        gi_wp2
        · rename_i hx
          have hx' : x1 = (k : Int) := by simpa using hx
          exact ⟨((KeepsOthers.setCell _ _ _).trans (KeepsOthers.setCell _ _ _)).from _, ⟨rfl, pre, x1, x2, rfl, fun a b h => hne (a, b) h, hx', (bR1.set _).other (by omega) _, (bE1.other (by omega) _).set _⟩, (hB1.setCell (p := ⟨w.heap.size + 1, 0, none⟩) (by simp) _).setCell (p := ⟨w.heap.size + 1 + 1, 0, none⟩) (by simp; omega) _⟩
        · rename_i hx
          have hx' : ¬ x1 = (k : Int) := by simpa using hx
          refine ⟨KeepsFrom.refl _ _, Below.refl _ _, ⟨fun a b h => ?_, bX1, bR1, bE1, hs1⟩, hB1⟩
          rcases List.mem_append.1 h with h | h
          · exact hne (a, b) h
          · simp at h; rw [h.1]; exact hx'
      case done =>
        rintro D ys W hD rfl ⟨⟨hne, bX1, bR1, bE1, hs1⟩, hB1⟩ hK
        obtain ⟨g, rfl, hgo, hBg, hgl⟩ := hg (by omega)
        have cX := bX1.cell
        have cR := bR1.cell
        have fR := bR1.frozen
        have cE := bE1.cell
        have fE := bE1.frozen
        have c0 : W.cell? ⟨p, 0, none⟩ = some (.slice (some ⟨g, 0, none⟩) S.L.length c) := (hB1.cell (p := ⟨p, 0, none⟩) hpl).trans C0.out
        have cg : W.cell? ⟨g, k, none⟩ = some (.string (lAt S.L k)) := (hB1.cell (p := ⟨g, k, none⟩) hgl).trans (owns_cell H.out.own1 hgo _ _ (strs_at hkl))
        have hlk := look_none S.W k (lAt S.L k) hne
        have HL := Lib.hid hlk
        generalize lAt S.L k = s0 at *
        have i1 : (0 : Int) ≤ (k : Int) := by omega
        have i2 : (k : Int) < (S.L.length : Int) := by omega
        clear hne hlk
        gi_wp2
        gi_region
        gi_wp2
        have hK1 := ((KeepsOthers.setCell W ⟨w.heap.size + 1, 0, none⟩ (.string s0)).trans (KeepsOthers.setCell _ ⟨w.heap.size + 1 + 1, 0, none⟩ (.int .i64 0))).same D _ hK rfl
        have bR2 := (bR1.set (.string s0)).other (B' := w.heap.size + 1 + 1) (by omega) (.int .i64 0)
        have bE2 := (bE1.other (B' := w.heap.size + 1) (by omega) (.string s0)).set (.int .i64 0)
        have hB2 := (hB1.setCell (p := ⟨w.heap.size + 1, 0, none⟩) (by simp) (.string s0)).setCell (p := ⟨w.heap.size + 1 + 1, 0, none⟩) (by simp; omega) (.int .i64 0)
        generalize ((W.setCell ⟨w.heap.size + 1, 0, none⟩ (.string s0)).setCell ⟨w.heap.size + 1 + 1, 0, none⟩ (.int .i64 0)) = W2 at *
        have hK2 : W2.drew.heap[D]? = some (.deferred (some [])) := hK1
        have bR3 : Boxed W2.drew (w.heap.size + 1) 9 (.string s0) := bR2
        have bE3 : Boxed W2.drew (w.heap.size + 1 + 1) 29 (.int .i64 0) := bE2
        have hB3' : Below w.heap.size w W2.drew := ⟨hB2.os, hB2.tape, hB2.output, hB2.size, hB2.block⟩
        refine ⟨by simp, .inl ⟨_, _, rfl, run_takeDeferred hK2, ?_⟩⟩
        have hR5 := boxed_from bR3 (grownBy_putObj' _ D (.deferred none)) (fun r e => by cases e; exact ⟨_, hK2, rfl⟩)
        have hE5 := boxed_from bE3 (grownBy_putObj' _ D (.deferred none)) (fun r e => by cases e; exact ⟨_, hK2, rfl⟩)
        refine ⟨two R, ?_, rfl, hB3'.trans (belowK_b (w := w) (Nat.le_refl _) W2.drew D _ _ (by omega) hK2 rfl rfl)⟩
        rw [HU.out, HL.out]
        simp [results, Tryz.f32, go_sem, hR5.cell, hE5.cell, two]
      case stop =>
        rintro D c pre W hD hpre ⟨⟨rfl, pre', y, rfl, hne, hy, bR1, bE1⟩, hB1⟩ hK
        obtain ⟨j, hj, he⟩ := hpre
        have hlk := look_some S.W k (lAt S.L k) j hj pre' y he.symm hne hy
        have HL := Lib.hid hlk
        clear hlk hne he
        gi_wp2
        refine ⟨by simp, .inl ⟨_, _, rfl, run_takeDeferred hK, ?_⟩⟩
        have hR5 := boxed_from bR1 (grownBy_putObj' W D (.deferred none)) (fun r e => by cases e; exact ⟨_, hK, rfl⟩)
        have hE5 := boxed_from bE1 (grownBy_putObj' W D (.deferred none)) (fun r e => by cases e; exact ⟨_, hK, rfl⟩)
        refine ⟨two R, ?_, rfl, hB1.trans (belowK_b (w := w) (Nat.le_refl _) W D _ _ (by omega) hK rfl rfl)⟩
        rw [HU.out, HL.out]
        simp [results, Tryz.f32, go_sem, hR5.cell, hE5.cell, two]
    · have hu : R = (noBytes, 3) := HR.out.trans (by unfold DS.read; rw [if_neg (by simp [ho]), if_neg hs])
      have HU := Lib.hid hu
      have hd : decide (0 ≤ at' ∧ at' < (S.L.length : Int)) = false := by simpa [DS.has] using hs
      have hh3 := HH.out w3 hb3
      rw [hd] at hh3
      have HH3 := Lib.hid hh3
      clear hu hh3 hd
      gi_wp2_with fail
      refine ⟨trivial, HH3.out.mono ?_⟩
      rintro e w1 ⟨rfl, hw1⟩; obtain rfl := hw1.symm; clear hw1
      gi_wp2
      have bR1 := (bR.set (.string ⟨#[]⟩)).other (B' := w.heap.size + 1 + 1) (by omega) (.int .i64 3)
      have bE1 := (bE.other (B' := w.heap.size + 1) (by omega) (.string ⟨#[]⟩)).set (.int .i64 3)
      refine ⟨two R, ?_, rfl, (hb3.setCell (p := ⟨w.heap.size + 1, 0, none⟩) (by simp) _).setCell (p := ⟨w.heap.size + 1 + 1, 0, none⟩) (by simp; omega) _⟩
      rw [HU.out]
      simp [results, Tryz.f32, go_sem, bR1.cell, bE1.cell, two, noBytes]

theorem read_any (B p : Nat) (v1 v2 : Value) (S : DS) (at' : Int) (w : World) (h : PD w B p v1 v2 S) (hf : S.W.length ≤ 1000000) (hl : S.L.length ≤ 1000000) :
    Calls Tryz.prog 32 #[.pointer (some ⟨p, 0, none⟩), .int .i64 at'] w fun e w' => e = .returned (two (S.read at')) ∧ Below w.heap.size w w' :=
  callsIn_wide.1 (read_in B p v1 v2 S at' w h hf hl)

set_option maxRecDepth 100000 in
set_option maxHeartbeats 4000000 in
theorem read_nil_in (at' : Int) (w : World) :
    CallsIn Fence.wide 10 Tryz.prog 32 #[.pointer none, .int .i64 at'] w fun e w' => e = .returned (two (noBytes, 1)) ∧ Below w.heap.size w w' := by
  have hs1 := fun w' => (callsIn_wide (n := 9)).2 (state_nil w')
  have HS := Lib.hid hs1
  clear hs1
  refine callsIn_of_wp_marks Tryz.func32 rfl trivial ?_ rfl
  simp only [Tryz.ntmps32, List.size_toArray, List.length_cons, List.length_nil, Nat.reduceAdd, Nat.reduceSub, Array.replicate_succ, Array.replicate_zero, List.push_toArray, List.append_toArray, List.nil_append, List.cons_append]
  gi_wp2_with fail
  obtain ⟨w3, hw3, bX, bR, bE, hsz, hb3⟩ := boxes3 w (.int .i64 at') (.string ⟨#[]⟩) (.int .i64 0) 3 9 29
  rw [← hw3]
  clear hw3
  refine ⟨trivial, (HS.out _).mono ?_⟩
  rintro e w1 ⟨rfl, hw1⟩; obtain rfl := hw1.symm; clear hw1
  have cR := bR.cell
  have fR := bR.frozen
  have cE := bE.cell
  have fE := bE.frozen
  gi_wp2
  have bR1 := (bR.set (.string ⟨#[]⟩)).other (B' := w.heap.size + 1 + 1) (by omega) (.int .i64 1)
  have bE1 := (bE.other (B' := w.heap.size + 1) (by omega) (.string ⟨#[]⟩)).set (.int .i64 1)
  refine ⟨two (noBytes, 1), ?_, rfl, (hb3.setCell (p := ⟨w.heap.size + 1, 0, none⟩) (by simp) _).setCell (p := ⟨w.heap.size + 1 + 1, 0, none⟩) (by simp; omega) _⟩
  simp [results, Tryz.f32, go_sem, bR1.cell, bE1.cell, two, noBytes]

theorem read_nil (at' : Int) (w : World) :
    Calls Tryz.prog 32 #[.pointer none, .int .i64 at'] w fun e w' => e = .returned (two (noBytes, 1)) ∧ Below w.heap.size w w' :=
  callsIn_wide.1 (read_nil_in at' w)

end Go.Proofs.YtodcdefmoliegaaGreatDoor


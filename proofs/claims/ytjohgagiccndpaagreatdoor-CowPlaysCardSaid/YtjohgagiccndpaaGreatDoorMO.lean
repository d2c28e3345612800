/-
  Texts put together: O1, O2.
-/
import Derived.Test.YtjohgagiccndpaaGreatDoorMP5
import Derived.Test.YtjohgagiccndpaaGreatDoorME2
import Derived.Deep.RegionHeld3
import Derived.Test.YtjohgagiccndpaaGreatDoorMPC
import Derived.Test.YtjohgagiccndpaaGreatDoorMA5
import Derived.Test.YtjohgagiccndpaaGreatDoorMR4
/-
  The document's Lay: an entry's two sectors laid into the area of a side; its May.
-/
namespace Go.Proofs.YtjohgagiccndpaaGreatDoor
open Go.RowKit
set_option linter.unusedVariables false
set_option linter.unusedSimpArgs false

theorem RP.stepc {w w1 : World} {B p : Nat} {v1 v2 : Value} {S1 S2 : DS} {f : FuncId} {args : Array Value} {R : Ending} (h : RP w B p v1 v2 S1 w1) (hB : B ≤ w.heap.size) (hc : ∀ a b, RD w1 B p a b S1 → B ≤ w1.heap.size → Calls Tryz.prog f args w1 fun e w2 => e = R ∧ RP w1 B p a b S2 w2) :
    Calls Tryz.prog f args w1 fun e w2 => e = R ∧ RP w B p v1 v2 S2 w2 := by
  obtain ⟨a, b, hp, hf, ht⟩ := h
  refine (hc a b hp (Nat.le_trans hB hf.size)).mono ?_
  rintro e w2 ⟨he, a2, b2, hp2, hf2, ht2⟩
  exact ⟨he, a2, b2, hp2, hf.trans hf2 (fun i hi => ht i hi), fun i hi => (ht2 i hi).elim (ht i) (fun h => .inr (Nat.le_trans hf.size h))⟩
theorem RP.readc {w w1 : World} {B p : Nat} {v1 v2 : Value} {S1 : DS} {f : FuncId} {args : Array Value} {R : Ending} (h : RP w B p v1 v2 S1 w1) (hc : ∀ a b, RD w1 B p a b S1 → Calls Tryz.prog f args w1 fun e w2 => e = R ∧ w2 = w1) :
    Calls Tryz.prog f args w1 fun e w2 => e = R ∧ w2 = w1 := by
  obtain ⟨a, b, hp, hf, ht⟩ := h
  exact hc a b hp

/-- The old sector, and then the head. -/
def layP (N F C U side : Int) (S : DS) (k : Int) (head old : ByteArray) : Int × DS :=
  if (storeP S (areaAt N F C U side (2 * k + 1)) old).1 ≠ 0 then storeP S (areaAt N F C U side (2 * k + 1)) old
  else storeP (storeP S (areaAt N F C U side (2 * k + 1)) old).2 (areaAt N F C U side (2 * k)) head

set_option maxRecDepth 20000 in
set_option maxHeartbeats 2000000 in
theorem rlay_any (B p : Nat) (v1 v2 : Value) (S : DS) (N F C U side : Int) (k : Nat) (head old : ByteArray) (w : World) (h : RD w B p v1 v2 S) (hB : B ≤ w.heap.size) (M : Nat) (hok : S.ok M) (hM : M + 4 ≤ 1000000) (hk : k ≤ 1000) :
    Calls Tryz.prog 89 #[.pointer (some ⟨p, 0, none⟩), geo N F C U, .int .i64 side, .int .i64 (k : Int), .string head, .string old] w fun e w' => e = .returned (.int .i64 (layP N F C U side S (k : Int) head old).1) ∧ RP w B p v1 v2 (layP N F C U side S (k : Int) head old).2 w' := by
  have ha1 := fun w => rarea2_any N F C U side (2 * (k : Int)) w
  have ha2 := fun w => rarea2_any N F C U side (2 * (k : Int) + 1) w
  unfold layP
  obtain ⟨A1, hA1⟩ : ∃ A, A = areaAt N F C U side (2 * (k : Int)) := ⟨_, rfl⟩
  obtain ⟨A2, hA2⟩ : ∃ A, A = areaAt N F C U side (2 * (k : Int) + 1) := ⟨_, rfl⟩
  rw [← hA1, ← hA2]
  rw [← hA1] at ha1
  rw [← hA2] at ha2
  obtain ⟨x1, hx1⟩ : ∃ x : Int, x = 2 * (k : Int) := ⟨_, rfl⟩
  obtain ⟨x2, hx2⟩ : ∃ x : Int, x = 2 * (k : Int) + 1 := ⟨_, rfl⟩
  have m1 : IntKind.i64.wrap (2 * (k : Int)) = x1 := (IntWalk.i64_in _ (by omega)).trans hx1.symm
  have m2 : IntKind.i64.wrap (x1 + 1) = x2 := (IntWalk.i64_in _ (by omega)).trans (by omega)
  rw [← hx1] at ha1
  rw [← hx2] at ha2
  unfold geo at ha1 ha2 ⊢
  have HA1 := Lib.hid ha1
  have HA2 := Lib.hid ha2
  clear ha1 ha2 hA1 hA2 hx1 hx2
  obtain ⟨W, hW⟩ : ∃ W, W = w.alloc (.cells #[.int .i64 N, .int .i64 F, .int .i64 C, .int .i64 U] 23) := ⟨_, rfl⟩
  have hs0 : W.heap.size = w.heap.size + 1 := by rw [hW]; exact World.size_alloc _ _
  have hb0 : Below w.heap.size w W := by rw [hW]; exact (Below.refl _ w).alloc (Nat.le_refl _) _
  have hg0 : W.heap[w.heap.size]? = some (.cells #[.int .i64 N, .int .i64 F, .int .i64 C, .int .i64 U] 23 (0, 0)) := by rw [hW]; exact heap_alloc_new w _
  have hv : ∀ k, foot p v1 v2 k → k < w.heap.size := fun k hk => (h.foot_low k hk).2
  have hpd := h.below hb0
  have HG0 := Lib.hid (And.intro hg0 hs0)
  have HB0 := Lib.hid hb0
  have HPD := Lib.hid hpd
  have HW := Lib.hid hW
  have HV := Lib.hid hv
  -- the geometry's cells behind any part of it
  have hgc : ∀ w', Below W.heap.size W w' → w'.cell? ⟨w.heap.size, 0, none⟩ = some (.int .i64 N) ∧ w'.cell? ⟨w.heap.size, 1, none⟩ = some (.int .i64 F) ∧ w'.cell? ⟨w.heap.size, 2, none⟩ = some (.int .i64 C) ∧ w'.cell? ⟨w.heap.size, 3, none⟩ = some (.int .i64 U) := fun w' hb => by
    have e := (hb.block _ (by omega)).trans hg0
    refine ⟨?_, ?_, ?_, ?_⟩ <;> (rw [cell_of_blk e]; rfl)
  have hgp : ∀ T w', RP W B p v1 v2 T w' → w'.cell? ⟨w.heap.size, 0, none⟩ = some (.int .i64 N) ∧ w'.cell? ⟨w.heap.size, 1, none⟩ = some (.int .i64 F) ∧ w'.cell? ⟨w.heap.size, 2, none⟩ = some (.int .i64 C) ∧ w'.cell? ⟨w.heap.size, 3, none⟩ = some (.int .i64 U) := fun T w' hr => by
    have e := (hr.old w.heap.size (by omega) (fun hf => by have := hv _ hf; omega)).trans hg0
    refine ⟨?_, ?_, ?_, ?_⟩ <;> (rw [cell_of_blk e]; rfl)
  have HGC := Lib.hid hgc
  have HGP := Lib.hid hgp
  have HBW := Lib.hid (show B ≤ W.heap.size from by omega)
  -- the four acts
  obtain ⟨r1, T1, h1⟩ : ∃ r T, S.write A2 old = (r, T) := ⟨_, _, rfl⟩
  obtain ⟨r2, T2, h2⟩ : ∃ r T, T1.flush = (r, T) := ⟨_, _, rfl⟩
  obtain ⟨r3, T3, h3⟩ : ∃ r T, T2.write A1 head = (r, T) := ⟨_, _, rfl⟩
  obtain ⟨r4, T4, h4⟩ : ∃ r T, T3.flush = (r, T) := ⟨_, _, rfl⟩
  have o1 : T1.ok (M + 1) := by have := hok.write A2 old; rw [h1] at this; exact this
  have o2 : T2.ok (M + 2) := by have := o1.flush; rw [h2] at this; exact this
  have o3 : T3.ok (M + 3) := by have := o2.write A1 head; rw [h3] at this; exact this
  have c1 := fun w' a b (hp : RD w' B p a b S) (hb : B ≤ w'.heap.size) => rwrite_any B p a b S A2 old w' hp hb M hok (by omega)
  have c2 := fun w' a b (hp : RD w' B p a b T1) (hb : B ≤ w'.heap.size) => rflush_any B p a b T1 w' hp hb (M + 1) o1 (by omega)
  have c3 := fun w' a b (hp : RD w' B p a b T2) (hb : B ≤ w'.heap.size) => rwrite_any B p a b T2 A1 head w' hp hb (M + 2) o2 (by omega)
  have c4 := fun w' a b (hp : RD w' B p a b T3) (hb : B ≤ w'.heap.size) => rflush_any B p a b T3 w' hp hb (M + 3) o3 (by omega)
  simp only [h1] at c1
  simp only [h2] at c2
  simp only [h3] at c3
  simp only [h4] at c4
  have hR : (if (storeP S A2 old).1 ≠ 0 then storeP S A2 old else storeP (storeP S A2 old).2 A1 head) = (if r1 ≠ 0 then (r1, T1) else if r2 ≠ 0 then (r2, T2) else if r3 ≠ 0 then (r3, T3) else (r4, T4)) := by
    unfold storeP
    rw [h1]
    dsimp only
    by_cases e1 : r1 = 0
    · simp only [e1, ne_eq, not_true_eq_false, if_false, h2]
      by_cases e2 : r2 = 0
      · simp only [e2, not_true_eq_false, if_false, h3]
        by_cases e3 : r3 = 0
        · simp only [e3, not_true_eq_false, if_false, h4]
        · simp only [e3, not_false_eq_true, if_true]
      · simp only [e2, not_false_eq_true, if_true]
    · simp only [e1, ne_eq, not_false_eq_true, if_true]
  obtain ⟨R, hRR⟩ : ∃ R, R = (if r1 ≠ 0 then (r1, T1) else if r2 ≠ 0 then (r2, T2) else if r3 ≠ 0 then (r3, T3) else (r4, T4)) := ⟨_, rfl⟩
  rw [hR, ← hRR]
  have HR := Lib.hid hRR
  have K1 := Lib.hid c1
  have K2 := Lib.hid c2
  have K3 := Lib.hid c3
  have K4 := Lib.hid c4
  clear hs0 hb0 hg0 hpd hW hgc hgp h1 h2 h3 h4 o1 o2 o3 c1 c2 c3 c4 hR hRR h hok
  have HP0 := Lib.hid (show RP W B p v1 v2 S W from RP.same HPD.out)
  have HBT := Lib.hid (show ∀ T w', RP W B p v1 v2 T w' → RP w B p v1 v2 T w' from fun T w' h => rp_below HB0.out h)
  clear HPD
  go_enter Tryz.func89, Tryz.ntmps89
  go_wp2_with fail
  rw [← HW.out]
  refine (HA2.out _).mono ?_
  rintro e w1 ⟨rfl, hb⟩
  have HP1 := Lib.hid (rp_then HP0.out hb)
  have HC1 := Lib.hid (HP1.out.stepc HBW.out (K1.out w1))
  clear hb K1 HA2 HP0
  go_wp2_with fail
  refine HC1.out.mono ?_
  rintro e w2 ⟨rfl, hx⟩
  have HP2 := Lib.hid hx
  clear hx HC1 HP1
  by_cases e1 : r1 = 0
  · subst e1
    have HC2 := Lib.hid (HP2.out.stepc HBW.out (K2.out w2))
    clear K2
    go_wp2_with fail
    refine HC2.out.mono ?_
    rintro e w3 ⟨rfl, hx⟩
    have HP3 := Lib.hid hx
    clear hx HC2 HP2
    by_cases e2 : r2 = 0
    · subst e2
      obtain ⟨g0, g1, g2, g3⟩ := HGP.out _ _ HP3.out
      go_wp2_with fail
      refine (HA1.out _).mono ?_
      rintro e w4 ⟨rfl, hb⟩
      have HP4 := Lib.hid (rp_then HP3.out hb)
      have HC3 := Lib.hid (HP4.out.stepc HBW.out (K3.out w4))
      clear hb K3 HP3 HA1 g0 g1 g2 g3
      go_wp2_with fail
      refine HC3.out.mono ?_
      rintro e w5 ⟨rfl, hx⟩
      have HP5 := Lib.hid hx
      clear hx HC3 HP4
      by_cases e3 : r3 = 0
      · subst e3
        have HC4 := Lib.hid (HP5.out.stepc HBW.out (K4.out w5))
        clear K4
        go_wp2_with fail
        refine HC4.out.mono ?_
        rintro e w6 ⟨rfl, hx⟩
        have hrr : R = (r4, T4) := HR.out.trans (by simp)
        have HF := Lib.hid (HBT.out _ _ hx)
        clear hx HC4 HP5
        go_wp2
        go_ret
        rw [hrr]
        exact ⟨rfl, HF.out⟩
      · have hrr : R = (r3, T3) := HR.out.trans (by simp [e3])
        have q1 : (r3 == 0) = false := by simpa using e3
        have q2 : (r3 != 0) = true := by simp [e3]
        have HF := Lib.hid (HBT.out _ _ HP5.out)
        clear e3
        go_wp2
        go_ret
        rw [hrr]
        exact ⟨rfl, HF.out⟩
    · have hrr : R = (r2, T2) := HR.out.trans (by simp [e2])
      have q1 : (r2 == 0) = false := by simpa using e2
      have q2 : (r2 != 0) = true := by simp [e2]
      have HF := Lib.hid (HBT.out _ _ HP3.out)
      clear e2
      go_wp2
      go_ret
      rw [hrr]
      exact ⟨rfl, HF.out⟩
  · have hrr : R = (r1, T1) := HR.out.trans (by simp [e1])
    have q1 : (r1 == 0) = false := by simpa using e1
    have q2 : (r1 != 0) = true := by simp [e1]
    have HF := Lib.hid (HBT.out _ _ HP2.out)
    clear e1
    go_wp2
    go_ret
    rw [hrr]
    exact ⟨rfl, HF.out⟩
theorem layP_ok {N F C U side : Int} {S : DS} {M : Nat} (h : S.ok M) (k : Int) (head old : ByteArray) : (layP N F C U side S k head old).2.ok (M + 4) := by
  unfold layP
  split
  · exact (storeP_ok h _ _).mono (by omega)
  · exact storeP_ok (storeP_ok h _ _) _ _

set_option maxRecDepth 20000 in
set_option maxHeartbeats 2000000 in
theorem rmay_any (N F C U place : Int) (w : World) (ho : okG N F C U) :
    Calls Tryz.prog 87 #[geo N F C U, .int .i64 place] w fun e w' => e = .returned (.bool (decide (mayP N F C U place))) ∧ Below w.heap.size w w' := by
  have hn1 := nodes_one ho
  have hnf := nodes_few N F C U
  have h2 := fun w => rnodes_any N F C U w
  obtain ⟨t, ht⟩ : ∃ t : Int, t = 6 + N + (nodes N F C U : Int) := ⟨_, rfl⟩
  rw [show decide (mayP N F C U place) = decide (6 ≤ place ∧ place < t) from decide_eq_decide.2 (by unfold mayP; rw [ht])]
  obtain ⟨nd, hnd⟩ : ∃ nd, nd = nodes N F C U := ⟨_, rfl⟩
  rw [← hnd] at h2
  have hN := ho.1
  have hN2 := ho.2.1
  rw [← hnd] at hnf ht
  obtain ⟨s, hs⟩ : ∃ s : Int, s = 6 + N := ⟨_, rfl⟩
  have m1 : IntKind.i64.wrap (6 + N) = s := (IntWalk.i64_in _ (by omega)).trans hs.symm
  have m2 : IntKind.i64.wrap (s + (nd : Int)) = t := (IntWalk.i64_in _ (by omega)).trans (by omega)
  unfold geo at h2 ⊢
  have H2 := Lib.hid h2
  have HC := Lib.hid (gb_cells w N F C U)
  unfold gbox at HC
  have HSZ := Lib.hid (World.size_alloc w (.cells #[.int .i64 N, .int .i64 F, .int .i64 C, .int .i64 U] 23))
  clear h2 ht hn1 hnf ho hnd hs hN hN2
  by_cases hp : 6 ≤ place
  · have hpt : place ≥ 6 := hp
    rw [show decide (6 ≤ place ∧ place < t) = decide (place < t) from by simp [hp]]
    go_enter Tryz.func87, Tryz.ntmps87
    go_upto_region 1 with fail
    have hG : Below (w.heap.size + 1) (w.alloc (.cells #[.int .i64 N, .int .i64 F, .int .i64 C, .int .i64 U] 23)) ((w.alloc (.cells #[.int .i64 N, .int .i64 F, .int .i64 C, .int .i64 U] 23)).drew) := (Below.refl _ _).drew
    go_region_held3 (fun w' => w'.cell? ⟨w.heap.size, 0, none⟩ = some (.int .i64 N) ∧ w'.cell? ⟨w.heap.size, 1, none⟩ = some (.int .i64 F) ∧ w'.cell? ⟨w.heap.size, 2, none⟩ = some (.int .i64 C) ∧ w'.cell? ⟨w.heap.size, 3, none⟩ = some (.int .i64 U))
      (exact HC.out _ hG)
      (first
      | (go_at_call 34; with_reducible refine (H2.out _).mono ?_; rintro r wk ⟨rfl, hb⟩; replace hG := hG.trans (hb.mono (by have := hG.size; have := HSZ.out; omega)); clear hb))
    all_goals (
      rename_i hHeld
      clear hHeld
      have HB := Lib.hid (((Below.refl _ w).alloc (Nat.le_refl _) (.cells #[.int .i64 N, .int .i64 F, .int .i64 C, .int .i64 U] 23)).trans (hG.mono (by omega)))
      clear hG
      go_wp2
      go_ret
      exact ⟨rfl, HB.out⟩)
  · have hge : ∀ w, (binOp .geq 3 (.int .i64 place) (.int .i64 6)).run Tryz.prog w = .ok (.bool false) w := fun w => by
      have e : decide (6 ≤ place) = false := decide_eq_false hp
      go_simp
      try simp [e]
    rw [decide_eq_false (show ¬ (6 ≤ place ∧ place < t) from fun h => hp h.1)]
    go_enter Tryz.func87, Tryz.ntmps87
    go_upto_region 1 with fail
    have hG : Below (w.heap.size + 1) (w.alloc (.cells #[.int .i64 N, .int .i64 F, .int .i64 C, .int .i64 U] 23)) ((w.alloc (.cells #[.int .i64 N, .int .i64 F, .int .i64 C, .int .i64 U] 23)).drew) := (Below.refl _ _).drew
    refine wp_region_held_drew (S := fun _ => True) (by kernel_rfl) (trivial) (fun hHeld => ?_)
    refine wpAnyH_take (i := 0) (oi := { dst := some 5, op := Op.move (Operand.tmp 1), type := 3, pos := "ref.go:16", after := #[], guard := none }) (v := ?_) rfl (by kernel_rfl) (by kernel_rfl) (by kernel_rfl) (fun _ _ _ h => h) (Or.inl ⟨by rfl, ?_⟩) (by assumption) ?_
    rotate_left
    · (intro w hSw; (try dsimp only at hSw); go_simp <;> with_reducible rfl)
    try simp only [Act.put, List.setIfInBounds_toArray, List.set_cons_zero, List.set_cons_succ]
    refine wpAnyH_take (i := 1) (oi := { dst := some 6, op := Op.binOp BinOp.geq 3 (Operand.tmp 5) (Operand.const (Value.int IntKind.i64 6)) 3, type := 4, pos := "ref.go:16", after := #[{ on := 0, ground := Ground.data }], guard := none }) (v := ?_) rfl (by kernel_rfl) (by kernel_rfl) (by kernel_rfl) (fun _ _ _ h => h) (Or.inl ⟨by rfl, ?_⟩) (by assumption) ?_
    rotate_left
    · (intro w hSw; (try dsimp only at hSw); go_simp <;> with_reducible rfl)
    try simp only [Act.put, List.setIfInBounds_toArray, List.set_cons_zero, List.set_cons_succ]
    refine wpAnyH_take (i := 2) (oi := { dst := some 7, op := Op.move (Operand.tmp 6), type := 4, pos := "ref.go:16", after := #[{ on := 1, ground := Ground.data }], guard := none }) (v := ?_) rfl (by kernel_rfl) (by kernel_rfl) (by kernel_rfl) (fun _ _ _ h => h) (Or.inl ⟨by rfl, ?_⟩) (by assumption) ?_
    rotate_left
    · (intro w hSw; (try dsimp only at hSw); go_simp <;> with_reducible rfl)
    try simp only [Act.put, List.setIfInBounds_toArray, List.set_cons_zero, List.set_cons_succ]
    refine wpAnyH_take (i := 3) (oi := { dst := some 8, op := Op.move (Operand.tmp 1), type := 3, pos := "ref.go:16", after := #[{ on := 2, ground := Ground.guard }], guard := some (2, true) }) (v := undef) rfl (by kernel_rfl) (by kernel_rfl) (by kernel_rfl) (fun _ _ _ h => h) (Or.inr ⟨by rfl, rfl⟩) (by assumption) ?_
    try simp only [Act.put, List.setIfInBounds_toArray, List.set_cons_zero, List.set_cons_succ]
    refine wpAnyH_take (i := 4) (oi := { dst := some 9, op := Op.fieldAddr 23 (Operand.tmp 2) 0, type := 0, pos := "ref.go:16", after := #[{ on := 2, ground := Ground.guard }], guard := some (2, true) }) (v := undef) rfl (by kernel_rfl) (by kernel_rfl) (by kernel_rfl) (fun _ _ _ h => h) (Or.inr ⟨by rfl, rfl⟩) (by assumption) ?_
    try simp only [Act.put, List.setIfInBounds_toArray, List.set_cons_zero, List.set_cons_succ]
    refine wpAnyH_take (i := 5) (oi := { dst := some 10, op := Op.load 3 (Operand.tmp 9), type := 3, pos := "ref.go:16", after := #[{ on := 4, ground := Ground.data }, { on := 2, ground := Ground.guard }], guard := some (2, true) }) (v := undef) rfl (by kernel_rfl) (by kernel_rfl) (by kernel_rfl) (fun _ _ _ h => h) (Or.inr ⟨by rfl, rfl⟩) (by assumption) ?_
    try simp only [Act.put, List.setIfInBounds_toArray, List.set_cons_zero, List.set_cons_succ]
    refine wpAnyH_take (i := 6) (oi := { dst := some 11, op := Op.binOp BinOp.add 3 (Operand.const (Value.int IntKind.i64 6)) (Operand.tmp 10) 3, type := 3, pos := "ref.go:16", after := #[{ on := 5, ground := Ground.data }, { on := 2, ground := Ground.guard }], guard := some (2, true) }) (v := undef) rfl (by kernel_rfl) (by kernel_rfl) (by kernel_rfl) (fun _ _ _ h => h) (Or.inr ⟨by rfl, rfl⟩) (by assumption) ?_
    try simp only [Act.put, List.setIfInBounds_toArray, List.set_cons_zero, List.set_cons_succ]
    refine wpAnyH_take (i := 7) (oi := { dst := some 12, op := Op.load 23 (Operand.tmp 2), type := 23, pos := "ref.go:16", after := #[{ on := 2, ground := Ground.guard }], guard := some (2, true) }) (v := undef) rfl (by kernel_rfl) (by kernel_rfl) (by kernel_rfl) (fun _ _ _ h => h) (Or.inr ⟨by rfl, rfl⟩) (by assumption) ?_
    try simp only [Act.put, List.setIfInBounds_toArray, List.set_cons_zero, List.set_cons_succ]
    refine wpAnyH_take (i := 8) (oi := { dst := some 13, op := Op.call { callee := Callee.value (Operand.func 34), args := #[Operand.tmp 12], argTypes := #[23] }, type := 3, pos := "ref.go:16", after := #[{ on := 7, ground := Ground.data }, { on := 2, ground := Ground.chain }, { on := 2, ground := Ground.guard }], guard := some (2, true) }) (v := undef) rfl (by kernel_rfl) (by kernel_rfl) (by kernel_rfl) (fun _ _ _ h => h) (Or.inr ⟨by rfl, rfl⟩) (by assumption) ?_
    try simp only [Act.put, List.setIfInBounds_toArray, List.set_cons_zero, List.set_cons_succ]
    refine wpAnyH_take (i := 9) (oi := { dst := some 14, op := Op.binOp BinOp.add 3 (Operand.tmp 11) (Operand.tmp 13) 3, type := 3, pos := "ref.go:16", after := #[{ on := 6, ground := Ground.data }, { on := 8, ground := Ground.data }, { on := 2, ground := Ground.guard }], guard := some (2, true) }) (v := undef) rfl (by kernel_rfl) (by kernel_rfl) (by kernel_rfl) (fun _ _ _ h => h) (Or.inr ⟨by rfl, rfl⟩) (by assumption) ?_
    try simp only [Act.put, List.setIfInBounds_toArray, List.set_cons_zero, List.set_cons_succ]
    refine wpAnyH_take (i := 10) (oi := { dst := some 15, op := Op.binOp BinOp.lss 3 (Operand.tmp 8) (Operand.tmp 14) 3, type := 4, pos := "ref.go:16", after := #[{ on := 3, ground := Ground.data }, { on := 9, ground := Ground.data }, { on := 2, ground := Ground.guard }], guard := some (2, true) }) (v := undef) rfl (by kernel_rfl) (by kernel_rfl) (by kernel_rfl) (fun _ _ _ h => h) (Or.inr ⟨by rfl, rfl⟩) (by assumption) ?_
    try simp only [Act.put, List.setIfInBounds_toArray, List.set_cons_zero, List.set_cons_succ]
    refine wpAnyH_take (i := 11) (oi := { dst := some 16, op := Op.pick (Operand.tmp 7) (Operand.tmp 15) (Operand.const (Value.bool false)), type := 4, pos := "ref.go:16", after := #[{ on := 2, ground := Ground.data }, { on := 10, ground := Ground.data }], guard := none }) (v := ?_) rfl (by kernel_rfl) (by kernel_rfl) (by kernel_rfl) (fun _ _ _ h => h) (Or.inl ⟨by rfl, ?_⟩) (by assumption) ?_
    rotate_left
    · (intro w hSw; (try dsimp only at hSw); go_simp <;> with_reducible rfl)
    try simp only [Act.put, List.setIfInBounds_toArray, List.set_cons_zero, List.set_cons_succ]
    refine wpAnyH_take (i := 12) (oi := { dst := some 4, op := Op.assign (Operand.tmp 16), type := 4, pos := "ref.go:16", after := #[{ on := 11, ground := Ground.data }, { on := 8, ground := Ground.chain }, { on := 0, ground := Ground.phase }, { on := 1, ground := Ground.phase }, { on := 2, ground := Ground.phase }, { on := 3, ground := Ground.phase }, { on := 4, ground := Ground.phase }, { on := 5, ground := Ground.phase }, { on := 6, ground := Ground.phase }, { on := 7, ground := Ground.phase }, { on := 8, ground := Ground.phase }, { on := 9, ground := Ground.phase }, { on := 10, ground := Ground.phase }, { on := 11, ground := Ground.phase }], guard := none }) (v := ?_) rfl (by kernel_rfl) (by kernel_rfl) (by kernel_rfl) (fun _ _ _ h => h) (Or.inl ⟨by rfl, ?_⟩) (by assumption) ?_
    rotate_left
    · (intro w hSw; (try dsimp only at hSw); go_simp <;> with_reducible rfl)
    try simp only [Act.put, List.setIfInBounds_toArray, List.set_cons_zero, List.set_cons_succ]
    refine wpAnyH_done (by kernel_rfl) ?_ _
    have HB := Lib.hid (((Below.refl _ w).alloc (Nat.le_refl _) (.cells #[.int .i64 N, .int .i64 F, .int .i64 C, .int .i64 U] 23)).trans (hG.mono (by omega)))
    clear hG
    go_wp2
    go_ret
    exact ⟨rfl, HB.out⟩
end Go.Proofs.YtjohgagiccndpaaGreatDoor
/-
  The document's Part: what a head tells.
-/
namespace Go.Proofs.YtjohgagiccndpaaGreatDoor
open Go.RowKit
set_option linter.unusedVariables false
set_option linter.unusedSimpArgs false

/-! ### the document's reader -/
def RY (w : World) (p : Nat) (ys : List UInt8) : Prop := ∃ xs i, RS w p p xs i 0 ∧ xs.drop i = ys
theorem RY.lt {w : World} {p : Nat} {ys : List UInt8} (h : RY w p ys) : p < w.heap.size := by
  obtain ⟨xs, i, hr, hd⟩ := h
  exact hr.lt
theorem RY.same {w w' : World} {p : Nat} {ys : List UInt8} (h : RY w p ys) (hs : w'.heap = w.heap) : RY w' p ys := by
  obtain ⟨xs, i, hr, hd⟩ := h
  exact ⟨xs, i, hr.same hs, hd⟩
theorem RY.new {w : World} {a : Option Addr} {n c : Nat} {b : List UInt8} (h : Rd w a n c b) : RY (w.alloc (.cells #[.slice a n c, .int .i64 0, .int .i64 0] 160)) w.heap.size b := by
  refine ⟨b, 0, ⟨a, n, c, heap_alloc_new w _, h.later ((Below.refl _ _).alloc (Nat.le_refl _) _), Nat.zero_le _, fun x e h0 => ?_, Nat.le_refl _⟩, rfl⟩
  obtain ⟨bb, off, ha, hlt, -⟩ := h.at0 h0
  rw [ha] at e
  cases e
  exact hlt
theorem ry_num (p : Nat) (ys : List UInt8) (wd : Nat) (w : World) (h : RY w p ys) (h1 : 1 ≤ wd) (h8 : wd ≤ 8) (hl : wd ≤ ys.length) :
    Calls Tryz.prog 118 #[.pointer (some ⟨p, 0, none⟩), .int .i64 wd] w fun r w' => r = .returned (.int .u64 (numN (ys.take wd) : Int)) ∧ RY w' p (ys.drop wd) ∧ w.grownBy w' (some p) := by
  obtain ⟨xs, i, hr, hd⟩ := h
  have hrest : restOf xs i 0 = ys := hd
  have hrn : rnum ys 0 wd = (numN (ys.take wd), ys.drop wd, 0) := by
    unfold rnum; rw [if_neg (by simp), if_neg (by omega), if_neg (by omega)]; simp
  have := rnum_any p p xs i 0 wd w hr
  rw [hrest, hrn] at this
  refine this.mono ?_
  rintro r w' ⟨he, hg, i', hr', hd'⟩
  exact ⟨he, ⟨xs, i', hr', hd'⟩, hg⟩

/-- What a head tells: the numbers ahead of its own, what it is of, a sum, and whether it is one. -/
structure PtR where
  front : List UInt8
  num : Nat
  sum : Nat
  is : Bool
def PtR.val (r : PtR) : Value := .tuple #[strV r.front, .int .i64 (r.num : Int), .int .u32 (r.sum : Int), .bool r.is]
def noPt : PtR := ⟨[], 0, 0, false⟩
def partP (kind : Int) (front k : Nat) (xs : List UInt8) : PtR :=
  if (openP kind xs).2 ≠ 0 then noPt else if (openP kind xs).1.length ≠ front + 12 then noPt else if ((openP kind xs).1.take (front + 4)).drop front ≠ enc k 4 then noPt
  else ⟨(openP kind xs).1.take front, numN (((openP kind xs).1.drop (front + 4)).take 4), numN (((openP kind xs).1.drop (front + 8)).take 4), true⟩
theorem openP_len (kind : Int) (xs : List UInt8) : (openP kind xs).2 = 0 → (openP kind xs).1.length ≤ 58 := fun e => by
  obtain ⟨ys, q, h⟩ : ∃ ys q, openP kind xs = (ys, q) := ⟨_, _, rfl⟩
  rw [h] at e ⊢
  dsimp only at e ⊢
  subst e
  exact (make_kind (open_make h)).2.2.2
theorem pbytes_eq (s x : ByteArray) : (s.toList == x.toList) = true ↔ s = x := by
  rw [beq_iff_eq, ByteArray.toList_eq, ByteArray.toList_eq]
  constructor
  · intro h; exact ByteArray.ext (Array.toList_inj.mp h)
  · intro h; rw [h]
theorem pneq_txt (u s : ByteArray) (w : World) : (binOp .neq 9 (.string u) (.string s)).run Tryz.prog w = .ok (.bool (!decide (u = s))) w := by
  obtain ⟨xs, rfl⟩ : ∃ xs : List UInt8, u = ⟨xs.toArray⟩ := ⟨u.data.toList, by cases u; simp⟩
  obtain ⟨ys, rfl⟩ : ∃ xs : List UInt8, s = ⟨xs.toArray⟩ := ⟨s.data.toList, by cases s; simp⟩
  go_simp
  by_cases h : xs = ys <;> simp [h]
theorem pguard_txt (op : BinOp) (x y : Operand) (u s : ByteArray) (w : World) : Sem.run Tryz.prog (eqGuard op 9 x y (.string u) (.string s)) w = .ok () w := by
  unfold eqGuard
  cases op <;> rfl

set_option maxRecDepth 20000 in
set_option maxHeartbeats 2000000 in
theorem rpart_any (kind : Int) (front k : Nat) (xs : List UInt8) (w : World) (hf : front ≤ 16) (hk : k < 4294967296) :
    Calls Tryz.prog 91 #[strV xs, .int .i64 kind, .int .i64 (front : Int), .int .i64 (k : Int)] w fun e w' => e = .returned (partP kind front k xs).val ∧ Below w.heap.size w w' := by
  have hlen := openP_len kind xs
  have ho := fun w => ropen_any kind xs w
  unfold partP
  obtain ⟨ys, q, hoq⟩ : ∃ ys q, openP kind xs = (ys, q) := ⟨_, _, rfl⟩
  rw [hoq] at ho hlen ⊢
  unfold tupV at ho
  dsimp only at ho hlen ⊢
  obtain ⟨V, hV⟩ : ∃ V : ByteArray, V = ⟨ys.toArray⟩ := ⟨_, rfl⟩
  have hVs : V.size = ys.length := by rw [hV]; exact List.size_toArray
  have hVV : strV ys = .string V := by rw [hV]; rfl
  rw [hVV] at ho
  have HO := Lib.hid ho
  have HVV := Lib.hid hVV
  have wA : IntKind.i64.wrap ((front : Int) + 12) = (front : Int) + 12 := IntWalk.i64_in _ (by omega)
  have wB : IntKind.i64.wrap ((front : Int) + 4) = (front : Int) + 4 := IntWalk.i64_in _ (by omega)
  clear ho hoq hV hVV
  by_cases hq : q = 0
  · subst hq
    rw [if_neg (by simp)]
    have hlen := hlen rfl
    by_cases hl : ys.length = front + 12
    · rw [if_neg (by simpa using hl)]
      have q1 : ((V.size : Int) != (front : Int) + 12) = false := by simp; omega
      have q0 : ((0 : Int) != 0) = false := by simp
      have wk : IntKind.u64.wrap (k : Int) = (k : Int) := IntWalk.u64_in _ (by omega)
      have ht := fun w => text_any 4 k w (by omega) (by omega) (by omega)
      rw [show ((4 : Nat) : Int) = 4 from rfl] at ht
      have hcb := fun w => cut_both ys front (front + 4) (by omega) (by omega) w
      have hcf := fun w => cut_from ys (front + 4) (by omega) w
      have hct := fun w => cut_to ys front (by omega) w
      rw [HVV.out] at hcb hcf hct
      rw [show ((front + 4 : Nat) : Int) = (front : Int) + 4 from rfl] at hcb hcf
      obtain ⟨A, hA⟩ : ∃ A : ByteArray, A = ⟨((ys.take (front + 4)).drop front).toArray⟩ := ⟨_, rfl⟩
      obtain ⟨B, hB⟩ : ∃ B : ByteArray, B = ⟨(enc k 4).toArray⟩ := ⟨_, rfl⟩
      rw [show strV ((ys.take (front + 4)).drop front) = Value.string A from by rw [hA]; rfl] at hcb
      rw [show strV (enc k 4) = Value.string B from by rw [hB]; rfl] at ht
      obtain ⟨R, hR⟩ : ∃ R, R = (if (ys.take (front + 4)).drop front ≠ enc k 4 then noPt else ⟨ys.take front, numN ((ys.drop (front + 4)).take 4), numN ((ys.drop (front + 8)).take 4), true⟩) := ⟨_, rfl⟩
      rw [← hR]
      have HRR := Lib.hid hR
      clear hR
      obtain ⟨r, hr⟩ : ∃ r, (A.toList == B.toList) = r := ⟨_, rfl⟩
      have hiff : r = true ↔ ((ys.take (front + 4)).drop front) = enc k 4 := by
        rw [← hr, pbytes_eq, hA, hB]
        constructor
        · intro h
          have := congrArg (fun b : ByteArray => b.data.toList) h
          exact this
        · intro h; rw [h]
      have HIF := Lib.hid hiff
      have HT := Lib.hid ht
      obtain ⟨VC, hVC⟩ : ∃ C, C = strV (ys.drop (front + 4)) := ⟨_, rfl⟩
      obtain ⟨VF, hVF⟩ : ∃ C, C = strV (ys.take front) := ⟨_, rfl⟩
      rw [← hVC] at hcf
      rw [← hVF] at hct
      have HVC := Lib.hid hVC
      have HVF := Lib.hid hVF
      have HL := Lib.hid hl
      clear ht hA hB hiff hVC hVF hl
      cases r with
      | false =>
        have HVS := Lib.hid hVs
        clear hVs
        go_enter Tryz.func91, Tryz.ntmps91
        go_wp2_with fail
        refine (HO.out _).mono ?_
        rintro e w1 ⟨rfl, hb1⟩
        have HB1 := Lib.hid hb1
        clear hb1 HO
        go_wp2_with fail
        have hG : Below w1.heap.size w1 w1.drew := (Below.refl _ _).drew
        go_region_held3 (fun _ => True) (trivial)
          (first | (go_at_call 72; refine (HT.out _).mono ?_; rintro e w2 ⟨rfl, hb⟩; replace hG := hG.trans (hb.mono hG.size); clear hb))
        all_goals (
          rename_i hHeld
          clear hHeld
          have HB2 := Lib.hid (HB1.out.trans (hG.mono HB1.out.size))
          clear hG HT
          have hne : ((ys.take (front + 4)).drop front) ≠ enc k 4 := fun h => by have := HIF.out.2 h; cases this
          have hRR : R = noPt := HRR.out.trans (if_pos hne)
          clear hne
          go_wp2
          refine bodyPost_ret (by simp [results, Tryz.f91, go_sem]; try rfl) rfl ?_
          rw [hRR]
          exact ⟨rfl, HB2.out⟩)
      | true =>
        have HVS := Lib.hid hVs
        clear hVs
        go_enter Tryz.func91, Tryz.ntmps91
        go_wp2_with fail
        refine (HO.out _).mono ?_
        rintro e w1 ⟨rfl, hb1⟩
        have HB1 := Lib.hid hb1
        clear hb1 HO
        go_wp2_with fail
        have hG : Below w1.heap.size w1 w1.drew := (Below.refl _ _).drew
        go_region_held3 (fun _ => True) (trivial)
          (first | (go_at_call 72; refine (HT.out _).mono ?_; rintro e w2 ⟨rfl, hb⟩; replace hG := hG.trans (hb.mono hG.size); clear hb))
        all_goals (
          rename_i hHeld
          clear hHeld
          have HB2 := Lib.hid (HB1.out.trans (hG.mono HB1.out.size))
          clear hG HT
          have heq := HIF.out.1 (by trivial)
          have hRR : R = ⟨ys.take front, numN ((ys.drop (front + 4)).take 4), numN ((ys.drop (front + 8)).take 4), true⟩ := HRR.out.trans (if_neg (fun h => h heq))
          obtain ⟨c3, w3, hcv, hrd3, hb3⟩ := cv_str (ys.drop (front + 4)) (by simp; omega) w2
          rw [← HVC.out] at hcv
          have hry := RY.new hrd3
          have HB3 := Lib.hid (HB2.out.trans (hb3.mono HB2.out.size))
          obtain ⟨X, hX⟩ : ∃ X, X = w3.alloc (.cells #[.slice (some ⟨w2.heap.size, 0, none⟩) (ys.drop (front + 4)).length c3, .int .i64 0, .int .i64 0] 160) := ⟨_, rfl⟩
          have HBX := Lib.hid (show Below w.heap.size w X from by rw [hX]; exact HB3.out.alloc HB3.out.size _)
          obtain ⟨p, hp⟩ : ∃ p, p = w3.heap.size := ⟨_, rfl⟩
          have hwp : w.heap.size ≤ p := by rw [hp]; exact HB3.out.size
          rw [← hX, ← hp] at hry
          have HX := Lib.hid hX
          have HP := Lib.hid hp
          have HWP := Lib.hid hwp
          have hd8 : ((ys.drop (front + 4)).drop 4).length = 4 := by simp; have := HL.out; omega
          have hd4 : (ys.drop (front + 4)).length = 8 := by simp; have := HL.out; omega
          obtain ⟨m, hm⟩ : ∃ m, m = (ys.drop (front + 4)).length := ⟨_, rfl⟩
          rw [← hm] at hcv hX
          have hn1 := ry_num p (ys.drop (front + 4)) 4 X hry (by omega) (by omega) (by omega)
          rw [show ((4 : Nat) : Int) = 4 from rfl] at hn1
          obtain ⟨g1, hg1⟩ : ∃ g, g = numN ((ys.drop (front + 4)).take 4) := ⟨_, rfl⟩
          have hl1 : g1 < 4294967296 := by rw [hg1]; exact numN_lt _ 4 (by omega)
          rw [← hg1] at hn1
          have hn2 := fun w' (h : RY w' p ((ys.drop (front + 4)).drop 4)) => ry_num p ((ys.drop (front + 4)).drop 4) 4 w' h (by omega) (by omega) (by omega)
          rw [show ((4 : Nat) : Int) = 4 from rfl] at hn2
          obtain ⟨g2, hg2⟩ : ∃ g, g = numN (((ys.drop (front + 4)).drop 4).take 4) := ⟨_, rfl⟩
          have hl2 : g2 < 4294967296 := by rw [hg2]; exact numN_lt _ 4 (by omega)
          have hg2' : g2 = numN ((ys.drop (front + 8)).take 4) := by rw [hg2, List.drop_drop]
          simp only [← hg2] at hn2
          rw [← hg1, ← hg2'] at hRR
          have HRV := Lib.hid hRR
          have w5 : IntKind.i64.wrap (g1 : Int) = (g1 : Int) := IntWalk.i64_in _ (by omega)
          have w6 : IntKind.u32.wrap (g2 : Int) = (g2 : Int) := IntWalk.u32_in _ (by omega)
          have HN1 := Lib.hid hn1
          have HN2 := Lib.hid hn2
          clear hn1 hn2 hg1 hg2 hg2' hl1 hl2 hd8 hd4 hm hry hrd3 hb3 hwp heq hRR
          go_upto_region 5 with fail
          rw [← hX, ← hp]
          clear hX hp
          go_wp2_with fail
          refine HN1.out.mono ?_
          rintro e w4 ⟨rfl, hry4, hg4⟩
          have HB4 := Lib.hid (HBX.out.grown hg4 HBX.out.size (fun k e => by cases e; exact HWP.out))
          have HC2 := Lib.hid (HN2.out w4.drew (hry4.same rfl))
          have hG : Below w4.heap.size w4 w4.drew := (Below.refl _ _).drew
          clear hg4 hry4 HN1 HN2 hcv
          go_wp2_with fail
          go_region_held3 (fun _ => True) (trivial)
            (first | (go_at_call 118; refine HC2.out.mono ?_; rintro e w5' ⟨rfl, hry5, hg5⟩))
          all_goals (
            rename_i hHeld
            clear hHeld
            have HB5 := Lib.hid ((HB4.out.trans (hG.mono HB4.out.size)).grown hg5 (Nat.le_trans HB4.out.size hG.size) (fun k e => by cases e; exact HWP.out))
            clear hry5 hg5 hG
            go_wp2
            refine bodyPost_ret (by simp [results, Tryz.f91, go_sem]; try rfl) rfl ?_
            rw [HRV.out]
            unfold PtR.val
            rw [← HVF.out]
            exact ⟨rfl, HB5.out⟩))
    · rw [if_pos (by simpa using hl)]
      have q1 : ((V.size : Int) != (front : Int) + 12) = true := by simp; omega
      have q0 : ((0 : Int) != 0) = false := by simp
      clear hl
      have HVS := Lib.hid hVs
      clear hVs
      go_enter Tryz.func91, Tryz.ntmps91
      go_wp2_with fail
      refine (HO.out _).mono ?_
      rintro e w1 ⟨rfl, hb1⟩
      have HB1 := Lib.hid hb1
      clear hb1 HO
      go_wp2_with fail
      refine wp_region_held_drew (S := fun _ => True) (by kernel_rfl) (trivial) (fun hHeld => ?_)
      refine wpAnyH_take (i := 0) (oi := { dst := some 22, op := Op.move (Operand.tmp 13), type := 27, pos := "ref.go:67", after := #[], guard := none }) (v := ?_) rfl (by kernel_rfl) (by kernel_rfl) (by kernel_rfl) (fun _ _ _ h => h) (Or.inl ⟨by rfl, ?_⟩) (by assumption) ?_
      rotate_left
      · (intro w hSw; (try dsimp only at hSw); go_simp <;> with_reducible rfl)
      try simp only [Act.put, List.setIfInBounds_toArray, List.set_cons_zero, List.set_cons_succ]
      refine wpAnyH_take (i := 1) (oi := { dst := some 23, op := Op.binOp BinOp.neq 27 (Operand.tmp 22) (Operand.const (Value.int IntKind.i64 0)) 27, type := 4, pos := "ref.go:67", after := #[{ on := 0, ground := Ground.data }], guard := none }) (v := ?_) rfl (by kernel_rfl) (by kernel_rfl) (by kernel_rfl) (fun _ _ _ h => h) (Or.inl ⟨by rfl, ?_⟩) (by assumption) ?_
      rotate_left
      · (intro w hSw; (try dsimp only at hSw); go_simp <;> with_reducible rfl)
      try simp only [Act.put, List.setIfInBounds_toArray, List.set_cons_zero, List.set_cons_succ]
      refine wpAnyH_take (i := 2) (oi := { dst := some 24, op := Op.move (Operand.tmp 23), type := 4, pos := "ref.go:67", after := #[{ on := 1, ground := Ground.data }], guard := none }) (v := ?_) rfl (by kernel_rfl) (by kernel_rfl) (by kernel_rfl) (fun _ _ _ h => h) (Or.inl ⟨by rfl, ?_⟩) (by assumption) ?_
      rotate_left
      · (intro w hSw; (try dsimp only at hSw); go_simp <;> with_reducible rfl)
      try simp only [Act.put, List.setIfInBounds_toArray, List.set_cons_zero, List.set_cons_succ]
      refine wpAnyH_take (i := 3) (oi := { dst := some 25, op := Op.move (Operand.tmp 12), type := 9, pos := "ref.go:67", after := #[{ on := 2, ground := Ground.guard }], guard := some (2, false) }) (v := ?_) rfl (by kernel_rfl) (by kernel_rfl) (by kernel_rfl) (fun _ _ _ h => h) (Or.inl ⟨by rfl, ?_⟩) (by assumption) ?_
      rotate_left
      · (intro w hSw; (try dsimp only at hSw); go_simp <;> with_reducible rfl)
      try simp only [Act.put, List.setIfInBounds_toArray, List.set_cons_zero, List.set_cons_succ]
      refine wpAnyH_take (i := 4) (oi := { dst := some 26, op := Op.call { callee := Callee.builtin Builtin.len, args := #[Operand.tmp 25], argTypes := #[9] }, type := 3, pos := "ref.go:67", after := #[{ on := 3, ground := Ground.data }, { on := 2, ground := Ground.guard }], guard := some (2, false) }) (v := ?_) rfl (by kernel_rfl) (by kernel_rfl) (by kernel_rfl) (fun _ _ _ h => h) (Or.inl ⟨by rfl, ?_⟩) (by assumption) ?_
      rotate_left
      · (intro w hSw; (try dsimp only at hSw); go_simp <;> with_reducible rfl)
      try simp only [Act.put, List.setIfInBounds_toArray, List.set_cons_zero, List.set_cons_succ]
      refine wpAnyH_take (i := 5) (oi := { dst := some 27, op := Op.move (Operand.tmp 2), type := 3, pos := "ref.go:67", after := #[{ on := 2, ground := Ground.guard }], guard := some (2, false) }) (v := ?_) rfl (by kernel_rfl) (by kernel_rfl) (by kernel_rfl) (fun _ _ _ h => h) (Or.inl ⟨by rfl, ?_⟩) (by assumption) ?_
      rotate_left
      · (intro w hSw; (try dsimp only at hSw); go_simp <;> with_reducible rfl)
      try simp only [Act.put, List.setIfInBounds_toArray, List.set_cons_zero, List.set_cons_succ]
      refine wpAnyH_take (i := 6) (oi := { dst := some 28, op := Op.binOp BinOp.add 3 (Operand.tmp 27) (Operand.const (Value.int IntKind.i64 12)) 3, type := 3, pos := "ref.go:67", after := #[{ on := 5, ground := Ground.data }, { on := 2, ground := Ground.guard }], guard := some (2, false) }) (v := ?_) rfl (by kernel_rfl) (by kernel_rfl) (by kernel_rfl) (fun _ _ _ h => h) (Or.inl ⟨by rfl, ?_⟩) (by assumption) ?_
      rotate_left
      · (intro w hSw; (try dsimp only at hSw); go_simp <;> with_reducible rfl)
      try simp only [Act.put, List.setIfInBounds_toArray, List.set_cons_zero, List.set_cons_succ]
      refine wpAnyH_take (i := 7) (oi := { dst := some 29, op := Op.binOp BinOp.neq 3 (Operand.tmp 26) (Operand.tmp 28) 3, type := 4, pos := "ref.go:67", after := #[{ on := 4, ground := Ground.data }, { on := 6, ground := Ground.data }, { on := 2, ground := Ground.guard }], guard := some (2, false) }) (v := ?_) rfl (by kernel_rfl) (by kernel_rfl) (by kernel_rfl) (fun _ _ _ h => h) (Or.inl ⟨by rfl, ?_⟩) (by assumption) ?_
      rotate_left
      · (intro w hSw; (try dsimp only at hSw); go_simp <;> with_reducible rfl)
      try simp only [Act.put, List.setIfInBounds_toArray, List.set_cons_zero, List.set_cons_succ]
      refine wpAnyH_take (i := 8) (oi := { dst := some 30, op := Op.pick (Operand.tmp 24) (Operand.const (Value.bool true)) (Operand.tmp 29), type := 4, pos := "ref.go:67", after := #[{ on := 2, ground := Ground.data }, { on := 7, ground := Ground.data }], guard := none }) (v := ?_) rfl (by kernel_rfl) (by kernel_rfl) (by kernel_rfl) (fun _ _ _ h => h) (Or.inl ⟨by rfl, ?_⟩) (by assumption) ?_
      rotate_left
      · (intro w hSw; (try dsimp only at hSw); go_simp <;> with_reducible rfl)
      try simp only [Act.put, List.setIfInBounds_toArray, List.set_cons_zero, List.set_cons_succ]
      refine wpAnyH_take (i := 9) (oi := { dst := some 31, op := Op.move (Operand.tmp 30), type := 4, pos := "ref.go:67", after := #[{ on := 8, ground := Ground.data }, { on := 2, ground := Ground.chain }], guard := none }) (v := ?_) rfl (by kernel_rfl) (by kernel_rfl) (by kernel_rfl) (fun _ _ _ h => h) (Or.inl ⟨by rfl, ?_⟩) (by assumption) ?_
      rotate_left
      · (intro w hSw; (try dsimp only at hSw); go_simp <;> with_reducible rfl)
      try simp only [Act.put, List.setIfInBounds_toArray, List.set_cons_zero, List.set_cons_succ]
      refine wpAnyH_take (i := 10) (oi := { dst := some 32, op := Op.move (Operand.tmp 12), type := 9, pos := "ref.go:67", after := #[{ on := 9, ground := Ground.guard }], guard := some (9, false) }) (v := undef) rfl (by kernel_rfl) (by kernel_rfl) (by kernel_rfl) (fun _ _ _ h => h) (Or.inr ⟨by rfl, rfl⟩) (by assumption) ?_
      try simp only [Act.put, List.setIfInBounds_toArray, List.set_cons_zero, List.set_cons_succ]
      refine wpAnyH_take (i := 11) (oi := { dst := some 33, op := Op.move (Operand.tmp 2), type := 3, pos := "ref.go:67", after := #[{ on := 9, ground := Ground.guard }], guard := some (9, false) }) (v := undef) rfl (by kernel_rfl) (by kernel_rfl) (by kernel_rfl) (fun _ _ _ h => h) (Or.inr ⟨by rfl, rfl⟩) (by assumption) ?_
      try simp only [Act.put, List.setIfInBounds_toArray, List.set_cons_zero, List.set_cons_succ]
      refine wpAnyH_take (i := 12) (oi := { dst := some 34, op := Op.move (Operand.tmp 2), type := 3, pos := "ref.go:67", after := #[{ on := 9, ground := Ground.guard }], guard := some (9, false) }) (v := undef) rfl (by kernel_rfl) (by kernel_rfl) (by kernel_rfl) (fun _ _ _ h => h) (Or.inr ⟨by rfl, rfl⟩) (by assumption) ?_
      try simp only [Act.put, List.setIfInBounds_toArray, List.set_cons_zero, List.set_cons_succ]
      refine wpAnyH_take (i := 13) (oi := { dst := some 35, op := Op.binOp BinOp.add 3 (Operand.tmp 34) (Operand.const (Value.int IntKind.i64 4)) 3, type := 3, pos := "ref.go:67", after := #[{ on := 12, ground := Ground.data }, { on := 9, ground := Ground.guard }], guard := some (9, false) }) (v := undef) rfl (by kernel_rfl) (by kernel_rfl) (by kernel_rfl) (fun _ _ _ h => h) (Or.inr ⟨by rfl, rfl⟩) (by assumption) ?_
      try simp only [Act.put, List.setIfInBounds_toArray, List.set_cons_zero, List.set_cons_succ]
      refine wpAnyH_take (i := 14) (oi := { dst := some 36, op := Op.slice 9 (Operand.tmp 32) (some (Operand.tmp 33)) (some (Operand.tmp 35)) none, type := 9, pos := "ref.go:67", after := #[{ on := 10, ground := Ground.data }, { on := 11, ground := Ground.data }, { on := 13, ground := Ground.data }, { on := 9, ground := Ground.guard }], guard := some (9, false) }) (v := undef) rfl (by kernel_rfl) (by kernel_rfl) (by kernel_rfl) (fun _ _ _ h => h) (Or.inr ⟨by rfl, rfl⟩) (by assumption) ?_
      try simp only [Act.put, List.setIfInBounds_toArray, List.set_cons_zero, List.set_cons_succ]
      refine wpAnyH_take (i := 15) (oi := { dst := some 37, op := Op.move (Operand.tmp 3), type := 3, pos := "ref.go:67", after := #[{ on := 9, ground := Ground.guard }], guard := some (9, false) }) (v := undef) rfl (by kernel_rfl) (by kernel_rfl) (by kernel_rfl) (fun _ _ _ h => h) (Or.inr ⟨by rfl, rfl⟩) (by assumption) ?_
      try simp only [Act.put, List.setIfInBounds_toArray, List.set_cons_zero, List.set_cons_succ]
      refine wpAnyH_take (i := 16) (oi := { dst := some 38, op := Op.convert 3 33 (Operand.tmp 37), type := 33, pos := "ref.go:67", after := #[{ on := 15, ground := Ground.data }, { on := 9, ground := Ground.guard }], guard := some (9, false) }) (v := undef) rfl (by kernel_rfl) (by kernel_rfl) (by kernel_rfl) (fun _ _ _ h => h) (Or.inr ⟨by rfl, rfl⟩) (by assumption) ?_
      try simp only [Act.put, List.setIfInBounds_toArray, List.set_cons_zero, List.set_cons_succ]
      refine wpAnyH_take (i := 17) (oi := { dst := some 39, op := Op.call { callee := Callee.value (Operand.func 72), args := #[Operand.const (Value.int IntKind.i64 4), Operand.tmp 38], argTypes := #[3, 33] }, type := 9, pos := "ref.go:67", after := #[{ on := 16, ground := Ground.data }, { on := 9, ground := Ground.chain }, { on := 9, ground := Ground.guard }], guard := some (9, false) }) (v := undef) rfl (by kernel_rfl) (by kernel_rfl) (by kernel_rfl) (fun _ _ _ h => h) (Or.inr ⟨by rfl, rfl⟩) (by assumption) ?_
      try simp only [Act.put, List.setIfInBounds_toArray, List.set_cons_zero, List.set_cons_succ]
      refine wpAnyH_take (i := 18) (oi := { dst := some 40, op := Op.binOp BinOp.neq 9 (Operand.tmp 36) (Operand.tmp 39) 9, type := 4, pos := "ref.go:67", after := #[{ on := 14, ground := Ground.data }, { on := 17, ground := Ground.data }, { on := 9, ground := Ground.guard }], guard := some (9, false) }) (v := undef) rfl (by kernel_rfl) (by kernel_rfl) (by kernel_rfl) (fun _ _ _ h => h) (Or.inr ⟨by rfl, rfl⟩) (by assumption) ?_
      try simp only [Act.put, List.setIfInBounds_toArray, List.set_cons_zero, List.set_cons_succ]
      refine wpAnyH_take (i := 19) (oi := { dst := some 41, op := Op.pick (Operand.tmp 31) (Operand.const (Value.bool true)) (Operand.tmp 40), type := 4, pos := "ref.go:67", after := #[{ on := 9, ground := Ground.data }, { on := 18, ground := Ground.data }], guard := none }) (v := ?_) rfl (by kernel_rfl) (by kernel_rfl) (by kernel_rfl) (fun _ _ _ h => h) (Or.inl ⟨by rfl, ?_⟩) (by assumption) ?_
      rotate_left
      · (intro w hSw; (try dsimp only at hSw); go_simp <;> with_reducible rfl)
      try simp only [Act.put, List.setIfInBounds_toArray, List.set_cons_zero, List.set_cons_succ]
      refine wpAnyH_done (by kernel_rfl) ?_ _
      have HF := Lib.hid HB1.out
      go_wp2
      refine bodyPost_ret (by simp [results, Tryz.f91, go_sem]; try rfl) rfl ?_
      exact ⟨rfl, ⟨HF.out.os, HF.out.tape, HF.out.output, HF.out.size, HF.out.block⟩⟩
  · rw [if_pos (by simpa using hq)]
    have q0 : ((q : Int) != 0) = true := by simp [hq]
    have q1 : ((q : Int) == 0) = false := by simpa using hq
    clear hq hlen
    have HVS := Lib.hid hVs
    clear hVs
    go_enter Tryz.func91, Tryz.ntmps91
    go_wp2_with fail
    refine (HO.out _).mono ?_
    rintro e w1 ⟨rfl, hb1⟩
    have HB1 := Lib.hid hb1
    clear hb1 HO
    go_wp2_with fail
    refine wp_region_held_drew (S := fun _ => True) (by kernel_rfl) (trivial) (fun hHeld => ?_)
    refine wpAnyH_take (i := 0) (oi := { dst := some 22, op := Op.move (Operand.tmp 13), type := 27, pos := "ref.go:67", after := #[], guard := none }) (v := ?_) rfl (by kernel_rfl) (by kernel_rfl) (by kernel_rfl) (fun _ _ _ h => h) (Or.inl ⟨by rfl, ?_⟩) (by assumption) ?_
    rotate_left
    · (intro w hSw; (try dsimp only at hSw); go_simp <;> with_reducible rfl)
    try simp only [Act.put, List.setIfInBounds_toArray, List.set_cons_zero, List.set_cons_succ]
    refine wpAnyH_take (i := 1) (oi := { dst := some 23, op := Op.binOp BinOp.neq 27 (Operand.tmp 22) (Operand.const (Value.int IntKind.i64 0)) 27, type := 4, pos := "ref.go:67", after := #[{ on := 0, ground := Ground.data }], guard := none }) (v := ?_) rfl (by kernel_rfl) (by kernel_rfl) (by kernel_rfl) (fun _ _ _ h => h) (Or.inl ⟨by rfl, ?_⟩) (by assumption) ?_
    rotate_left
    · (intro w hSw; (try dsimp only at hSw); go_simp <;> with_reducible rfl)
    try simp only [Act.put, List.setIfInBounds_toArray, List.set_cons_zero, List.set_cons_succ]
    refine wpAnyH_take (i := 2) (oi := { dst := some 24, op := Op.move (Operand.tmp 23), type := 4, pos := "ref.go:67", after := #[{ on := 1, ground := Ground.data }], guard := none }) (v := ?_) rfl (by kernel_rfl) (by kernel_rfl) (by kernel_rfl) (fun _ _ _ h => h) (Or.inl ⟨by rfl, ?_⟩) (by assumption) ?_
    rotate_left
    · (intro w hSw; (try dsimp only at hSw); go_simp <;> with_reducible rfl)
    try simp only [Act.put, List.setIfInBounds_toArray, List.set_cons_zero, List.set_cons_succ]
    refine wpAnyH_take (i := 3) (oi := { dst := some 25, op := Op.move (Operand.tmp 12), type := 9, pos := "ref.go:67", after := #[{ on := 2, ground := Ground.guard }], guard := some (2, false) }) (v := undef) rfl (by kernel_rfl) (by kernel_rfl) (by kernel_rfl) (fun _ _ _ h => h) (Or.inr ⟨by rfl, rfl⟩) (by assumption) ?_
    try simp only [Act.put, List.setIfInBounds_toArray, List.set_cons_zero, List.set_cons_succ]
    refine wpAnyH_take (i := 4) (oi := { dst := some 26, op := Op.call { callee := Callee.builtin Builtin.len, args := #[Operand.tmp 25], argTypes := #[9] }, type := 3, pos := "ref.go:67", after := #[{ on := 3, ground := Ground.data }, { on := 2, ground := Ground.guard }], guard := some (2, false) }) (v := undef) rfl (by kernel_rfl) (by kernel_rfl) (by kernel_rfl) (fun _ _ _ h => h) (Or.inr ⟨by rfl, rfl⟩) (by assumption) ?_
    try simp only [Act.put, List.setIfInBounds_toArray, List.set_cons_zero, List.set_cons_succ]
    refine wpAnyH_take (i := 5) (oi := { dst := some 27, op := Op.move (Operand.tmp 2), type := 3, pos := "ref.go:67", after := #[{ on := 2, ground := Ground.guard }], guard := some (2, false) }) (v := undef) rfl (by kernel_rfl) (by kernel_rfl) (by kernel_rfl) (fun _ _ _ h => h) (Or.inr ⟨by rfl, rfl⟩) (by assumption) ?_
    try simp only [Act.put, List.setIfInBounds_toArray, List.set_cons_zero, List.set_cons_succ]
    refine wpAnyH_take (i := 6) (oi := { dst := some 28, op := Op.binOp BinOp.add 3 (Operand.tmp 27) (Operand.const (Value.int IntKind.i64 12)) 3, type := 3, pos := "ref.go:67", after := #[{ on := 5, ground := Ground.data }, { on := 2, ground := Ground.guard }], guard := some (2, false) }) (v := undef) rfl (by kernel_rfl) (by kernel_rfl) (by kernel_rfl) (fun _ _ _ h => h) (Or.inr ⟨by rfl, rfl⟩) (by assumption) ?_
    try simp only [Act.put, List.setIfInBounds_toArray, List.set_cons_zero, List.set_cons_succ]
    refine wpAnyH_take (i := 7) (oi := { dst := some 29, op := Op.binOp BinOp.neq 3 (Operand.tmp 26) (Operand.tmp 28) 3, type := 4, pos := "ref.go:67", after := #[{ on := 4, ground := Ground.data }, { on := 6, ground := Ground.data }, { on := 2, ground := Ground.guard }], guard := some (2, false) }) (v := undef) rfl (by kernel_rfl) (by kernel_rfl) (by kernel_rfl) (fun _ _ _ h => h) (Or.inr ⟨by rfl, rfl⟩) (by assumption) ?_
    try simp only [Act.put, List.setIfInBounds_toArray, List.set_cons_zero, List.set_cons_succ]
    refine wpAnyH_take (i := 8) (oi := { dst := some 30, op := Op.pick (Operand.tmp 24) (Operand.const (Value.bool true)) (Operand.tmp 29), type := 4, pos := "ref.go:67", after := #[{ on := 2, ground := Ground.data }, { on := 7, ground := Ground.data }], guard := none }) (v := ?_) rfl (by kernel_rfl) (by kernel_rfl) (by kernel_rfl) (fun _ _ _ h => h) (Or.inl ⟨by rfl, ?_⟩) (by assumption) ?_
    rotate_left
    · (intro w hSw; (try dsimp only at hSw); go_simp <;> with_reducible rfl)
    try simp only [Act.put, List.setIfInBounds_toArray, List.set_cons_zero, List.set_cons_succ]
    refine wpAnyH_take (i := 9) (oi := { dst := some 31, op := Op.move (Operand.tmp 30), type := 4, pos := "ref.go:67", after := #[{ on := 8, ground := Ground.data }, { on := 2, ground := Ground.chain }], guard := none }) (v := ?_) rfl (by kernel_rfl) (by kernel_rfl) (by kernel_rfl) (fun _ _ _ h => h) (Or.inl ⟨by rfl, ?_⟩) (by assumption) ?_
    rotate_left
    · (intro w hSw; (try dsimp only at hSw); go_simp <;> with_reducible rfl)
    try simp only [Act.put, List.setIfInBounds_toArray, List.set_cons_zero, List.set_cons_succ]
    refine wpAnyH_take (i := 10) (oi := { dst := some 32, op := Op.move (Operand.tmp 12), type := 9, pos := "ref.go:67", after := #[{ on := 9, ground := Ground.guard }], guard := some (9, false) }) (v := undef) rfl (by kernel_rfl) (by kernel_rfl) (by kernel_rfl) (fun _ _ _ h => h) (Or.inr ⟨by rfl, rfl⟩) (by assumption) ?_
    try simp only [Act.put, List.setIfInBounds_toArray, List.set_cons_zero, List.set_cons_succ]
    refine wpAnyH_take (i := 11) (oi := { dst := some 33, op := Op.move (Operand.tmp 2), type := 3, pos := "ref.go:67", after := #[{ on := 9, ground := Ground.guard }], guard := some (9, false) }) (v := undef) rfl (by kernel_rfl) (by kernel_rfl) (by kernel_rfl) (fun _ _ _ h => h) (Or.inr ⟨by rfl, rfl⟩) (by assumption) ?_
    try simp only [Act.put, List.setIfInBounds_toArray, List.set_cons_zero, List.set_cons_succ]
    refine wpAnyH_take (i := 12) (oi := { dst := some 34, op := Op.move (Operand.tmp 2), type := 3, pos := "ref.go:67", after := #[{ on := 9, ground := Ground.guard }], guard := some (9, false) }) (v := undef) rfl (by kernel_rfl) (by kernel_rfl) (by kernel_rfl) (fun _ _ _ h => h) (Or.inr ⟨by rfl, rfl⟩) (by assumption) ?_
    try simp only [Act.put, List.setIfInBounds_toArray, List.set_cons_zero, List.set_cons_succ]
    refine wpAnyH_take (i := 13) (oi := { dst := some 35, op := Op.binOp BinOp.add 3 (Operand.tmp 34) (Operand.const (Value.int IntKind.i64 4)) 3, type := 3, pos := "ref.go:67", after := #[{ on := 12, ground := Ground.data }, { on := 9, ground := Ground.guard }], guard := some (9, false) }) (v := undef) rfl (by kernel_rfl) (by kernel_rfl) (by kernel_rfl) (fun _ _ _ h => h) (Or.inr ⟨by rfl, rfl⟩) (by assumption) ?_
    try simp only [Act.put, List.setIfInBounds_toArray, List.set_cons_zero, List.set_cons_succ]
    refine wpAnyH_take (i := 14) (oi := { dst := some 36, op := Op.slice 9 (Operand.tmp 32) (some (Operand.tmp 33)) (some (Operand.tmp 35)) none, type := 9, pos := "ref.go:67", after := #[{ on := 10, ground := Ground.data }, { on := 11, ground := Ground.data }, { on := 13, ground := Ground.data }, { on := 9, ground := Ground.guard }], guard := some (9, false) }) (v := undef) rfl (by kernel_rfl) (by kernel_rfl) (by kernel_rfl) (fun _ _ _ h => h) (Or.inr ⟨by rfl, rfl⟩) (by assumption) ?_
    try simp only [Act.put, List.setIfInBounds_toArray, List.set_cons_zero, List.set_cons_succ]
    refine wpAnyH_take (i := 15) (oi := { dst := some 37, op := Op.move (Operand.tmp 3), type := 3, pos := "ref.go:67", after := #[{ on := 9, ground := Ground.guard }], guard := some (9, false) }) (v := undef) rfl (by kernel_rfl) (by kernel_rfl) (by kernel_rfl) (fun _ _ _ h => h) (Or.inr ⟨by rfl, rfl⟩) (by assumption) ?_
    try simp only [Act.put, List.setIfInBounds_toArray, List.set_cons_zero, List.set_cons_succ]
    refine wpAnyH_take (i := 16) (oi := { dst := some 38, op := Op.convert 3 33 (Operand.tmp 37), type := 33, pos := "ref.go:67", after := #[{ on := 15, ground := Ground.data }, { on := 9, ground := Ground.guard }], guard := some (9, false) }) (v := undef) rfl (by kernel_rfl) (by kernel_rfl) (by kernel_rfl) (fun _ _ _ h => h) (Or.inr ⟨by rfl, rfl⟩) (by assumption) ?_
    try simp only [Act.put, List.setIfInBounds_toArray, List.set_cons_zero, List.set_cons_succ]
    refine wpAnyH_take (i := 17) (oi := { dst := some 39, op := Op.call { callee := Callee.value (Operand.func 72), args := #[Operand.const (Value.int IntKind.i64 4), Operand.tmp 38], argTypes := #[3, 33] }, type := 9, pos := "ref.go:67", after := #[{ on := 16, ground := Ground.data }, { on := 9, ground := Ground.chain }, { on := 9, ground := Ground.guard }], guard := some (9, false) }) (v := undef) rfl (by kernel_rfl) (by kernel_rfl) (by kernel_rfl) (fun _ _ _ h => h) (Or.inr ⟨by rfl, rfl⟩) (by assumption) ?_
    try simp only [Act.put, List.setIfInBounds_toArray, List.set_cons_zero, List.set_cons_succ]
    refine wpAnyH_take (i := 18) (oi := { dst := some 40, op := Op.binOp BinOp.neq 9 (Operand.tmp 36) (Operand.tmp 39) 9, type := 4, pos := "ref.go:67", after := #[{ on := 14, ground := Ground.data }, { on := 17, ground := Ground.data }, { on := 9, ground := Ground.guard }], guard := some (9, false) }) (v := undef) rfl (by kernel_rfl) (by kernel_rfl) (by kernel_rfl) (fun _ _ _ h => h) (Or.inr ⟨by rfl, rfl⟩) (by assumption) ?_
    try simp only [Act.put, List.setIfInBounds_toArray, List.set_cons_zero, List.set_cons_succ]
    refine wpAnyH_take (i := 19) (oi := { dst := some 41, op := Op.pick (Operand.tmp 31) (Operand.const (Value.bool true)) (Operand.tmp 40), type := 4, pos := "ref.go:67", after := #[{ on := 9, ground := Ground.data }, { on := 18, ground := Ground.data }], guard := none }) (v := ?_) rfl (by kernel_rfl) (by kernel_rfl) (by kernel_rfl) (fun _ _ _ h => h) (Or.inl ⟨by rfl, ?_⟩) (by assumption) ?_
    rotate_left
    · (intro w hSw; (try dsimp only at hSw); go_simp <;> with_reducible rfl)
    try simp only [Act.put, List.setIfInBounds_toArray, List.set_cons_zero, List.set_cons_succ]
    refine wpAnyH_done (by kernel_rfl) ?_ _
    have HF := Lib.hid HB1.out
    go_wp2
    refine bodyPost_ret (by simp [results, Tryz.f91, go_sem]; try rfl) rfl ?_
    exact ⟨rfl, ⟨HF.out.os, HF.out.tape, HF.out.output, HF.out.size, HF.out.block⟩⟩
end Go.Proofs.YtjohgagiccndpaaGreatDoor

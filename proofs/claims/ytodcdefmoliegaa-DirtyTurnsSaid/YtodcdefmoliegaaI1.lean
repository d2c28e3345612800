/-
  Contracts: the program's single, Or, Minus, Without, Has, With.
-/
import Derived.Test.YtodcdefmoliegaaI0
import Derived.OneCell
import Derived.BigRegion
import Derived.Laws.IdiomStrings
import Derived.Deep.RegionWith
namespace Go.Proofs.Ytodcdefmoliegaa
open Go.RowKit
set_option linter.unusedVariables false
set_option linter.unusedSimpArgs false

theorem wrap_u64 (n : Int) : IntKind.u64.wrap n = n % 18446744073709551616 := by simp [IntKind.wrap, IntKind.bits, IntKind.signed]
theorem wrap_pow (k : Nat) (h : k < 64) : IntKind.u64.wrap ((2 : Int) ^ k) = ((2 ^ k : Nat) : Int) := by
  have := pow_lt64 k h
  rw [show (2 : Int) ^ k = ((2 ^ k : Nat) : Int) from by simp, wrap_u64]
  generalize 2 ^ k = q at *
  omega
theorem set_cells (a b : Nat) : (setV a b).cells = #[.int .u64 (a : Int), .int .u64 (b : Int)] := by rfl
theorem below2 (w : World) (o p : Obj) : Below w.heap.size w ((w.alloc o).alloc p) := ((Below.refl _ w).alloc (Nat.le_refl _) _).alloc (by simp) _

set_option maxRecDepth 20000 in
set_option maxHeartbeats 1000000 in
theorem single_any (i : Int) (w : World) :
    Calls Try.prog 20 #[.int .i64 i] w fun e w' => e = .returned (setV (oneA i) (oneB i)) ∧ Below w.heap.size w w' := by
  by_cases h0 : 0 ≤ i
  · by_cases h1 : i < 128
    · by_cases h2 : i < 64
      · have e1 : oneA i = 2 ^ i.toNat := if_pos ⟨h0, h2⟩
        have e0 : oneB i = 0 := if_neg (by omega)
        have hp := wrap_pow i.toNat (by omega)
        rw [← e1] at hp
        have e3 : i % 64 = i := by omega
        have e4 : i / 64 = 0 := by omega
        rw [e0]
        clear e1 e0
        go_enter Try.func20, Try.ntmps20
        go_wp2
        refine bodyPost_ret (by simp [results, Try.f20, go_sem]; try rfl) rfl ?_
        exact ⟨rfl, below2 _ _ _⟩
      · have e1 : oneB i = 2 ^ (i.toNat - 64) := if_pos ⟨by omega, h1⟩
        have e0 : oneA i = 0 := if_neg (by omega)
        have hp := wrap_pow (i.toNat - 64) (by omega)
        rw [← e1] at hp
        have e3 : (i % 64).toNat = i.toNat - 64 := by omega
        have e4 : i / 64 = 1 := by omega
        rw [e0]
        clear e1 e0
        go_enter Try.func20, Try.ntmps20
        go_wp2
        refine bodyPost_ret (by simp [results, Try.f20, go_sem]; try rfl) rfl ?_
        exact ⟨rfl, below2 _ _ _⟩
    · have e1 : oneB i = 0 := if_neg (by omega)
      have e0 : oneA i = 0 := if_neg (by omega)
      rw [e0, e1]
      clear e0 e1
      go_enter Try.func20, Try.ntmps20
      go_wp2
      refine bodyPost_ret (by simp [results, Try.f20, go_sem]; try rfl) rfl ?_
      exact ⟨rfl, below2 _ _ _⟩
  · have e1 : oneB i = 0 := if_neg (by omega)
    have e0 : oneA i = 0 := if_neg (by omega)
    rw [e0, e1]
    clear e0 e1
    go_enter Try.func20, Try.ntmps20
    go_wp2
    refine bodyPost_ret (by simp [results, Try.f20, go_sem]; try rfl) rfl ?_
    exact ⟨rfl, below2 _ _ _⟩

/-- A box of two cells. -/
def Box2 (W : World) (b : Nat) (t : TypeId) (x y : Value) : Prop := W.heap[b]? = some (.cells #[x, y] t (0, 0))
theorem Box2.c0 {W b t x y} (h : Box2 W b t x y) : W.cell? ⟨b, 0, none⟩ = some x := by rw [cell_of_blk h]; rfl
theorem Box2.c1 {W b t x y} (h : Box2 W b t x y) : W.cell? ⟨b, 1, none⟩ = some y := by rw [cell_of_blk h]; rfl
theorem Box2.f0 {W b t x y} (h : Box2 W b t x y) : W.frozen? ⟨b, 0, none⟩ = false := free_of_blk h 0
theorem Box2.f1 {W b t x y} (h : Box2 W b t x y) : W.frozen? ⟨b, 1, none⟩ = false := free_of_blk h 1
theorem Box2.lt {W b t x y} (h : Box2 W b t x y) : b < W.heap.size := lt_of_block h
theorem Box2.new (W : World) (t : TypeId) (x y : Value) : Box2 (W.alloc (.cells #[x, y] t)) W.heap.size t x y := heap_alloc_new W _
theorem Box2.alloc {W b t x y} (h : Box2 W b t x y) (o : Obj) : Box2 (W.alloc o) b t x y := (Below.heap_alloc _ _ _ h.lt).trans h
theorem Box2.set0 {W b t x y} (h : Box2 W b t x y) (v : Value) : Box2 (W.setCell ⟨b, 0, none⟩ v) b t v y := blk_setCell h
theorem Box2.set1 {W b t x y} (h : Box2 W b t x y) (v : Value) : Box2 (W.setCell ⟨b, 1, none⟩ v) b t x v := blk_setCell h
theorem Box2.other {W b t x y} (h : Box2 W b t x y) {b' : Nat} (i : Nat) (hne : b ≠ b') (v : Value) : Box2 (W.setCell ⟨b', i, none⟩ v) b t x y :=
  (show (W.setCell ⟨b', i, none⟩ v).heap[b]? = W.heap[b]? by simp [World.setCell, Array.getElem?_modify]; intro e; exact absurd e.symm hne).trans h
theorem below_set {W W' : World} {n b i : Nat} {v : Value} (h : Below n W W') (hl : n ≤ b) : Below n W (W'.setCell ⟨b, i, none⟩ v) := h.setCell (p := ⟨b, i, none⟩) hl v
theorem below_drew {W W' : World} {n : Nat} (h : Below n W W') : Below n W W'.drew := ⟨h.os, h.tape, h.output, h.size, h.block⟩
theorem Box2.below {W W' b t x y n} (h : Box2 W b t x y) (hb : Below n W W') (hl : b < n) : Box2 W' b t x y := (hb.block b hl).trans h

set_option maxRecDepth 20000 in
set_option maxHeartbeats 2000000 in
theorem or_any (a b c d : Nat) (w : World) (ha : a < 18446744073709551616) (hb : b < 18446744073709551616) (hc : c < 18446744073709551616) (hd : d < 18446744073709551616) :
    Calls Try.prog 17 #[setV a b, setV c d] w fun e w' => e = .returned (setV (a ||| c) (b ||| d)) ∧ Below w.heap.size w w' := by
  have o1 := u64_or_nat a c ha hc
  have o2 := u64_or_nat b d hb hd
  unfold setV
  generalize (a ||| c) = ac at *
  generalize (b ||| d) = bd at *
  have bA := ((Box2.new w 27 (.int .u64 (a : Int)) (.int .u64 (b : Int))).alloc (.cells #[.int .u64 (c : Int), .int .u64 (d : Int)] 27)).alloc (.cells #[.int .u64 0, .int .u64 0] 27)
  have bB := (Box2.new (w.alloc (.cells #[.int .u64 (a : Int), .int .u64 (b : Int)] 27)) 27 (.int .u64 (c : Int)) (.int .u64 (d : Int))).alloc (.cells #[.int .u64 0, .int .u64 0] 27)
  have bR := Box2.new ((w.alloc (.cells #[.int .u64 (a : Int), .int .u64 (b : Int)] 27)).alloc (.cells #[.int .u64 (c : Int), .int .u64 (d : Int)] 27)) 27 (.int .u64 0) (.int .u64 0)
  have hB0 : Below w.heap.size w (((w.alloc (.cells #[.int .u64 (a : Int), .int .u64 (b : Int)] 27)).alloc (.cells #[.int .u64 (c : Int), .int .u64 (d : Int)] 27)).alloc (.cells #[.int .u64 0, .int .u64 0] 27)) := (below2 w _ _).alloc (by simp; omega) _
  simp only [World.size_alloc] at bB bR
  have HA := Lib.hid bA
  have HBB := Lib.hid bB
  have HR := Lib.hid bR
  have HB0 := Lib.hid hB0
  clear bA bB bR hB0 ha hb hc hd
  go_enter Try.func17, Try.ntmps17
  go_wp2
  go_loopw [6] (fun i wr => ∃ (k : Nat) (x y : Nat), i = .int .i64 (k : Int) ∧ (k = 0 ∧ x = a ∧ y = b ∨ k = 1 ∧ x = ac ∧ y = b ∨ k = 2 ∧ x = ac ∧ y = bd) ∧ Box2 wr w.heap.size 27 (.int .u64 (x : Int)) (.int .u64 (y : Int)) ∧ Box2 wr (w.heap.size + 1) 27 (.int .u64 (c : Int)) (.int .u64 (d : Int)) ∧ Box2 wr (w.heap.size + 1 + 1) 27 (.int .u64 0) (.int .u64 0) ∧ Below w.heap.size w wr) (fun i _ => 2 - (intOf i).toNat)
  case atStart => exact ⟨0, a, b, rfl, .inl ⟨rfl, rfl, rfl⟩, HA.out, HBB.out, HR.out, HB0.out⟩
  case round =>
    clear HA HBB HR HB0
    obtain ⟨k, x, y, rfl, hk, hA, hB, hR, hBl⟩ := hrel
    have a0 := hA.c0
    have a1 := hA.c1
    have b0 := hB.c0
    have b1 := hB.c1
    have fa0 := hA.f0
    have fa1 := hA.f1
    have fr0 := hR.f0
    have fr1 := hR.f1
    have r0 := hR.c0
    have r1 := hR.c1
    have HA := Lib.hid hA
    have HBB := Lib.hid hB
    have HR := Lib.hid hR
    have HBl := Lib.hid hBl
    clear hA hB hR hBl
    rcases hk with ⟨rfl, rfl, rfl⟩ | ⟨rfl, rfl, rfl⟩ | ⟨rfl, rfl, rfl⟩
    · go_wp2
      go_region
      go_wp2
      exact ⟨⟨1, ac, _, rfl, .inr (.inl ⟨rfl, rfl, rfl⟩), HA.out.set0 _, HBB.out.other 0 (by omega) _, HR.out.other 0 (by omega) _, below_drew (below_set HBl.out (Nat.le_refl _))⟩, by simp [intOf]⟩
    · go_wp2
      go_region
      go_wp2
      exact ⟨⟨2, _, bd, rfl, .inr (.inr ⟨rfl, rfl, rfl⟩), HA.out.set1 _, HBB.out.other 1 (by omega) _, HR.out.other 1 (by omega) _, below_drew (below_set HBl.out (Nat.le_refl _))⟩, by simp [intOf]⟩
    · go_wp2
      have hR2 := (HR.out.set0 (.int .u64 (x : Int))).set1 (.int .u64 (y : Int))
      have hB2 := below_set (i := 1) (v := .int .u64 (y : Int)) (below_set (i := 0) (v := .int .u64 (x : Int)) HBl.out (show w.heap.size ≤ w.heap.size + 1 + 1 by omega)) (show w.heap.size ≤ w.heap.size + 1 + 1 by omega)
      refine bodyPost_ret (by simp [results, Try.f17, go_sem, hR2.c0, hR2.c1]; try rfl) rfl ?_
      exact ⟨rfl, hB2⟩


end Go.Proofs.Ytodcdefmoliegaa


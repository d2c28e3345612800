/-
  Texts put together: I0, I1, I2, I3, I4, I5, I6, I7, I8, I9, IA, IB.
-/
import Derived.Test.YtodcdefmoliegaaGreatDoorB0
import Derived.Laws.BitsAllLaws
import Derived.OneCell
import Derived.BigRegion
import Derived.Laws.IdiomStrings
import Derived.Deep.RegionWith
import Derived.Maps.AppendAt
import Derived.Laws.BitsLemmas
import Derived.WalkKit
import Derived.WalkSpells
import Derived.WalkLawsBesides
import Derived.Lib.Hide
import Derived.Lib.MinMax
import Derived.Laws.CopyOwn
import Derived.Laws.AppendOwnNone
import Derived.Deep.QuietTactic
import Derived.BigQuiet
import Derived.Deep.OwnRows
import Derived.WalkMore
import Derived.ScopeJumps
import Derived.IntWalk
/-
  Sets of the numbers from 0 to 127 as two words: bits, over Nat.
-/
namespace Go.Proofs.YtodcdefmoliegaaGreatDoor
open Go.RowKit
set_option linter.unusedVariables false
set_option linter.unusedSimpArgs false

/-- Whether i is there. -/
def bitp (a b : Nat) (i : Nat) : Bool := if i < 64 then a.testBit i else b.testBit (i - 64)
/-- The word of the first n truths. -/
def wordB (f : Nat → Bool) : Nat → Nat
  | 0 => 0
  | n + 1 => if f n then wordB f n + 2 ^ n else wordB f n
theorem wordB_lt (f : Nat → Bool) : ∀ n, wordB f n < 2 ^ n
  | 0 => by show 0 < 1; omega
  | n + 1 => by
    have := wordB_lt f n
    unfold wordB
    rw [Nat.pow_succ]
    split <;> omega
theorem wordB_bit (f : Nat → Bool) : ∀ n i, (wordB f n).testBit i = (decide (i < n) && f i)
  | 0, i => by simp [wordB]
  | n + 1, i => by
    have ih := wordB_bit f n i
    have hl := wordB_lt f n
    by_cases hf : f n = true
    · have e : wordB f (n + 1) = 2 ^ n * 1 + wordB f n := by show (if f n then _ else _) = _; rw [if_pos hf]; omega
      rw [e, Nat.testBit_two_pow_mul_add _ hl]
      by_cases hi : i < n
      · rw [if_pos hi, ih]
        simp [hi, Nat.lt_succ_of_lt hi]
      · rw [if_neg hi]
        by_cases he : i = n
        · subst he; simp [hf]
        · have h1 : ¬ i < n + 1 := by omega
          obtain ⟨d, hd⟩ : ∃ d, i - n = d + 1 := ⟨i - n - 1, by omega⟩
          rw [hd]
          simp [h1, Nat.testBit_succ]
    · have e : wordB f (n + 1) = wordB f n := by show (if f n then _ else _) = _; rw [if_neg hf]
      rw [e, ih]
      by_cases hi : i = n
      · subst hi; simp at hf; simp [hf]
      · have : decide (i < n + 1) = decide (i < n) := by rw [decide_eq_decide]; omega
        rw [this]
theorem word_eq {x : Nat} {f : Nat → Bool} (hx : x < 2 ^ 64) (h : ∀ i, i < 64 → x.testBit i = f i) : x = wordB f 64 := by
  apply Nat.eq_of_testBit_eq
  intro i
  rw [wordB_bit]
  by_cases hi : i < 64
  · rw [h i hi]; simp [hi]
  · have : x < 2 ^ i := Nat.lt_of_lt_of_le hx (Nat.pow_le_pow_right (by omega) (by omega))
    rw [Nat.testBit_lt_two_pow this]
    simp [hi]

def mkA (f : Nat → Bool) : Nat := wordB f 64
def mkB (f : Nat → Bool) : Nat := wordB (fun i => f (i + 64)) 64
theorem mkA_lt (f) : mkA f < 18446744073709551616 := wordB_lt f 64
theorem mkB_lt (f) : mkB f < 18446744073709551616 := wordB_lt _ 64
theorem bitp_mk (f : Nat → Bool) (i : Nat) (h : i < 128) : bitp (mkA f) (mkB f) i = f i := by
  unfold bitp mkA mkB
  by_cases hi : i < 64
  · rw [if_pos hi, wordB_bit]; simp [hi]
  · rw [if_neg hi, wordB_bit]
    have : i - 64 < 64 := by omega
    have e : i - 64 + 64 = i := by omega
    simp [this, e]
/-- A set as the program's value. -/
def setV (a b : Nat) : Value := .agg #[.int .u64 (a : Int), .int .u64 (b : Int)]
/-- The set of what f says. -/
def setF (f : Nat → Bool) : Value := setV (mkA f) (mkB f)
theorem set_of {a b : Nat} {f : Nat → Bool} (ha : a < 18446744073709551616) (hb : b < 18446744073709551616) (h : ∀ i, i < 128 → bitp a b i = f i) : mkA f = a ∧ mkB f = b := by
  refine ⟨(word_eq (by exact ha) fun i hi => ?_).symm, (word_eq (by exact hb) fun i hi => ?_).symm⟩
  · have := h i (by omega)
    unfold bitp at this
    rwa [if_pos hi] at this
  · have := h (i + 64) (by omega)
    unfold bitp at this
    rwa [if_neg (by omega), Nat.add_sub_cancel] at this
theorem setV_of {a b : Nat} {f : Nat → Bool} (ha : a < 18446744073709551616) (hb : b < 18446744073709551616) (h : ∀ i, i < 128 → bitp a b i = f i) : setV a b = setF f := by
  obtain ⟨h1, h2⟩ := set_of ha hb h
  unfold setF
  rw [h1, h2]
theorem setF_of {f g : Nat → Bool} (h : ∀ i, i < 128 → f i = g i) : setF f = setF g :=
  setV_of (mkA_lt f) (mkB_lt f) (fun i hi => by rw [bitp_mk f i hi]; exact h i hi)
theorem setV_self {a b : Nat} (ha : a < 18446744073709551616) (hb : b < 18446744073709551616) : setV a b = setF (bitp a b) := setV_of ha hb fun _ _ => rfl

theorem or_bit (a b c d i : Nat) : bitp (a ||| c) (b ||| d) i = (bitp a b i || bitp c d i) := by
  unfold bitp
  split <;> simp
theorem minus_bit (a b c d i : Nat) (hi : i < 128) (hc : c < 18446744073709551616) (hd : d < 18446744073709551616) : bitp (a &&& (18446744073709551615 - c)) (b &&& (18446744073709551615 - d)) i = (bitp a b i && !bitp c d i) := by
  have e : ∀ x k, x < 18446744073709551616 → k < 64 → (18446744073709551615 - x).testBit k = !x.testBit k := fun x k hx hk => by
    have h1 : 18446744073709551615 - x = 2 ^ 64 - (x + 1) := by rw [show (2 : Nat) ^ 64 = 18446744073709551616 from by decide]; omega
    rw [h1, Nat.testBit_two_pow_sub_succ (by exact hx)]
    simp [hk]
  unfold bitp
  by_cases h : i < 64
  · rw [if_pos h, if_pos h, if_pos h, Nat.testBit_and, e c i hc h]
  · rw [if_neg h, if_neg h, if_neg h, Nat.testBit_and, e d (i - 64) hd (by omega)]
theorem or_lt {a c : Nat} (ha : a < 18446744073709551616) (hc : c < 18446744073709551616) : a ||| c < 18446744073709551616 := Nat.or_lt_two_pow (n := 64) ha hc
theorem and_lt {a : Nat} (c : Nat) (ha : a < 18446744073709551616) : a &&& c < 18446744073709551616 := Nat.lt_of_le_of_lt Nat.and_le_left ha

/-- The set of i alone, or none. -/
def oneA (i : Int) : Nat := if 0 ≤ i ∧ i < 64 then 2 ^ i.toNat else 0
def oneB (i : Int) : Nat := if 64 ≤ i ∧ i < 128 then 2 ^ (i.toNat - 64) else 0
theorem pow_lt64 (k : Nat) (h : k < 64) : 2 ^ k < 18446744073709551616 := Nat.pow_lt_pow_right (by omega) h
theorem oneA_lt (i) : oneA i < 18446744073709551616 := by
  unfold oneA
  split
  · exact pow_lt64 _ (by omega)
  · omega
theorem oneB_lt (i) : oneB i < 18446744073709551616 := by
  unfold oneB
  split
  · exact pow_lt64 _ (by omega)
  · omega
theorem one_bit (i : Int) (k : Nat) (hk : k < 128) : bitp (oneA i) (oneB i) k = decide ((k : Int) = i) := by
  unfold bitp oneA oneB
  by_cases h : k < 64
  · rw [if_pos h]
    by_cases hi : 0 ≤ i ∧ i < 64
    · rw [if_pos hi, Nat.testBit_two_pow, decide_eq_decide]; omega
    · rw [if_neg hi, Nat.zero_testBit]
      symm; rw [decide_eq_false_iff_not]; omega
  · rw [if_neg h]
    by_cases hi : 64 ≤ i ∧ i < 128
    · rw [if_pos hi, Nat.testBit_two_pow, decide_eq_decide]; omega
    · rw [if_neg hi, Nat.zero_testBit]
      symm; rw [decide_eq_false_iff_not]; omega
theorem one_none (i : Int) : (oneA i = 0 ∧ oneB i = 0) ↔ ¬ (0 ≤ i ∧ i < 128) := by
  have p : ∀ k, 0 < 2 ^ k := fun k => Nat.two_pow_pos k
  unfold oneA oneB
  constructor
  · intro ⟨h1, h2⟩ h
    by_cases hi : i < 64
    · rw [if_pos ⟨h.1, hi⟩] at h1
      have := p i.toNat; omega
    · rw [if_pos ⟨by omega, h.2⟩] at h2
      have := p (i.toNat - 64); omega
  · intro h
    rw [if_neg (by omega), if_neg (by omega)]
    exact ⟨rfl, rfl⟩
end Go.Proofs.YtodcdefmoliegaaGreatDoor
/-
  Contracts: the program's single, Or, Minus, Without, Has, With.
-/
namespace Go.Proofs.YtodcdefmoliegaaGreatDoor
open Go.RowKit
set_option linter.unusedVariables false
set_option linter.unusedSimpArgs false

theorem wrap_u64 (n : Int) : IntKind.u64.wrap n = n % 18446744073709551616 := by simp [IntKind.wrap, IntKind.bits, IntKind.signed]
theorem wrap_pow (k : Nat) (h : k < 64) : IntKind.u64.wrap ((2 : Int) ^ k) = ((2 ^ k : Nat) : Int) := by
  have := pow_lt64 k h
  rw [show (2 : Int) ^ k = ((2 ^ k : Nat) : Int) from by simp, wrap_u64]
  generalize 2 ^ k = q at *
  omega
theorem set_cells (a b : Nat) : (setV a b).cells = #[.int .u64 (a : Int), .int .u64 (b : Int)] := by rfl
theorem below2 (w : World) (o p : Obj) : Below w.heap.size w ((w.alloc o).alloc p) := ((Below.refl _ w).alloc (Nat.le_refl _) _).alloc (by simp) _

set_option maxRecDepth 20000 in
set_option maxHeartbeats 1000000 in
theorem single_any (i : Int) (w : World) :
    Calls Tryz.prog 65 #[.int .i64 i] w fun e w' => e = .returned (setV (oneA i) (oneB i)) ∧ Below w.heap.size w w' := by
  by_cases h0 : 0 ≤ i
  · by_cases h1 : i < 128
    · by_cases h2 : i < 64
      · have e1 : oneA i = 2 ^ i.toNat := if_pos ⟨h0, h2⟩
        have e0 : oneB i = 0 := if_neg (by omega)
        have hp := wrap_pow i.toNat (by omega)
        rw [← e1] at hp
        have e3 : i % 64 = i := by omega
        have e4 : i / 64 = 0 := by omega
        rw [e0]
        clear e1 e0
        go_enter Tryz.func65, Tryz.ntmps65
        go_wp2
        refine bodyPost_ret (by simp [results, Tryz.f65, go_sem]; try rfl) rfl ?_
        exact ⟨rfl, below2 _ _ _⟩
      · have e1 : oneB i = 2 ^ (i.toNat - 64) := if_pos ⟨by omega, h1⟩
        have e0 : oneA i = 0 := if_neg (by omega)
        have hp := wrap_pow (i.toNat - 64) (by omega)
        rw [← e1] at hp
        have e3 : (i % 64).toNat = i.toNat - 64 := by omega
        have e4 : i / 64 = 1 := by omega
        rw [e0]
        clear e1 e0
        go_enter Tryz.func65, Tryz.ntmps65
        go_wp2
        refine bodyPost_ret (by simp [results, Tryz.f65, go_sem]; try rfl) rfl ?_
        exact ⟨rfl, below2 _ _ _⟩
    · have e1 : oneB i = 0 := if_neg (by omega)
      have e0 : oneA i = 0 := if_neg (by omega)
      rw [e0, e1]
      clear e0 e1
      go_enter Tryz.func65, Tryz.ntmps65
      go_wp2
      refine bodyPost_ret (by simp [results, Tryz.f65, go_sem]; try rfl) rfl ?_
      exact ⟨rfl, below2 _ _ _⟩
  · have e1 : oneB i = 0 := if_neg (by omega)
    have e0 : oneA i = 0 := if_neg (by omega)
    rw [e0, e1]
    clear e0 e1
    go_enter Tryz.func65, Tryz.ntmps65
    go_wp2
    refine bodyPost_ret (by simp [results, Tryz.f65, go_sem]; try rfl) rfl ?_
    exact ⟨rfl, below2 _ _ _⟩

/-- A box of two cells. -/
def Box2 (W : World) (b : Nat) (t : TypeId) (x y : Value) : Prop := W.heap[b]? = some (.cells #[x, y] t (0, 0))
theorem Box2.c0 {W b t x y} (h : Box2 W b t x y) : W.cell? ⟨b, 0, none⟩ = some x := by rw [cell_of_blk h]; rfl
theorem Box2.c1 {W b t x y} (h : Box2 W b t x y) : W.cell? ⟨b, 1, none⟩ = some y := by rw [cell_of_blk h]; rfl
theorem Box2.f0 {W b t x y} (h : Box2 W b t x y) : W.frozen? ⟨b, 0, none⟩ = false := free_of_blk h 0
theorem Box2.f1 {W b t x y} (h : Box2 W b t x y) : W.frozen? ⟨b, 1, none⟩ = false := free_of_blk h 1
theorem Box2.lt {W b t x y} (h : Box2 W b t x y) : b < W.heap.size := lt_of_block h
theorem Box2.new (W : World) (t : TypeId) (x y : Value) : Box2 (W.alloc (.cells #[x, y] t)) W.heap.size t x y := heap_alloc_new W _
theorem Box2.alloc {W b t x y} (h : Box2 W b t x y) (o : Obj) : Box2 (W.alloc o) b t x y := (Below.heap_alloc _ _ _ h.lt).trans h
theorem Box2.set0 {W b t x y} (h : Box2 W b t x y) (v : Value) : Box2 (W.setCell ⟨b, 0, none⟩ v) b t v y := blk_setCell h
theorem Box2.set1 {W b t x y} (h : Box2 W b t x y) (v : Value) : Box2 (W.setCell ⟨b, 1, none⟩ v) b t x v := blk_setCell h
theorem Box2.other {W b t x y} (h : Box2 W b t x y) {b' : Nat} (i : Nat) (hne : b ≠ b') (v : Value) : Box2 (W.setCell ⟨b', i, none⟩ v) b t x y :=
  (show (W.setCell ⟨b', i, none⟩ v).heap[b]? = W.heap[b]? by simp [World.setCell, Array.getElem?_modify]; intro e; exact absurd e.symm hne).trans h
theorem below_set {W W' : World} {n b i : Nat} {v : Value} (h : Below n W W') (hl : n ≤ b) : Below n W (W'.setCell ⟨b, i, none⟩ v) := h.setCell (p := ⟨b, i, none⟩) hl v
theorem below_drew {W W' : World} {n : Nat} (h : Below n W W') : Below n W W'.drew := ⟨h.os, h.tape, h.output, h.size, h.block⟩
theorem Box2.below {W W' b t x y n} (h : Box2 W b t x y) (hb : Below n W W') (hl : b < n) : Box2 W' b t x y := (hb.block b hl).trans h

set_option maxRecDepth 20000 in
set_option maxHeartbeats 2000000 in
theorem or_any (a b c d : Nat) (w : World) (ha : a < 18446744073709551616) (hb : b < 18446744073709551616) (hc : c < 18446744073709551616) (hd : d < 18446744073709551616) :
    Calls Tryz.prog 47 #[setV a b, setV c d] w fun e w' => e = .returned (setV (a ||| c) (b ||| d)) ∧ Below w.heap.size w w' := by
  have o1 := u64_or_nat a c ha hc
  have o2 := u64_or_nat b d hb hd
  unfold setV
  generalize (a ||| c) = ac at *
  generalize (b ||| d) = bd at *
  have bA := ((Box2.new w 39 (.int .u64 (a : Int)) (.int .u64 (b : Int))).alloc (.cells #[.int .u64 (c : Int), .int .u64 (d : Int)] 39)).alloc (.cells #[.int .u64 0, .int .u64 0] 39)
  have bB := (Box2.new (w.alloc (.cells #[.int .u64 (a : Int), .int .u64 (b : Int)] 39)) 39 (.int .u64 (c : Int)) (.int .u64 (d : Int))).alloc (.cells #[.int .u64 0, .int .u64 0] 39)
  have bR := Box2.new ((w.alloc (.cells #[.int .u64 (a : Int), .int .u64 (b : Int)] 39)).alloc (.cells #[.int .u64 (c : Int), .int .u64 (d : Int)] 39)) 39 (.int .u64 0) (.int .u64 0)
  have hB0 : Below w.heap.size w (((w.alloc (.cells #[.int .u64 (a : Int), .int .u64 (b : Int)] 39)).alloc (.cells #[.int .u64 (c : Int), .int .u64 (d : Int)] 39)).alloc (.cells #[.int .u64 0, .int .u64 0] 39)) := (below2 w _ _).alloc (by simp; omega) _
  simp only [World.size_alloc] at bB bR
  have HA := Lib.hid bA
  have HBB := Lib.hid bB
  have HR := Lib.hid bR
  have HB0 := Lib.hid hB0
  clear bA bB bR hB0 ha hb hc hd
  go_enter Tryz.func47, Tryz.ntmps47
  go_wp2
  go_loopw [6] (fun i wr => ∃ (k : Nat) (x y : Nat), i = .int .i64 (k : Int) ∧ (k = 0 ∧ x = a ∧ y = b ∨ k = 1 ∧ x = ac ∧ y = b ∨ k = 2 ∧ x = ac ∧ y = bd) ∧ Box2 wr w.heap.size 39 (.int .u64 (x : Int)) (.int .u64 (y : Int)) ∧ Box2 wr (w.heap.size + 1) 39 (.int .u64 (c : Int)) (.int .u64 (d : Int)) ∧ Box2 wr (w.heap.size + 1 + 1) 39 (.int .u64 0) (.int .u64 0) ∧ Below w.heap.size w wr) (fun i _ => 2 - (intOf i).toNat)
  case atStart => exact ⟨0, a, b, rfl, .inl ⟨rfl, rfl, rfl⟩, HA.out, HBB.out, HR.out, HB0.out⟩
  case round =>
    clear HA HBB HR HB0
    obtain ⟨k, x, y, rfl, hk, hA, hB, hR, hBl⟩ := hrel
    have a0 := hA.c0
    have a1 := hA.c1
    have b0 := hB.c0
    have b1 := hB.c1
    have fa0 := hA.f0
    have fa1 := hA.f1
    have fr0 := hR.f0
    have fr1 := hR.f1
    have r0 := hR.c0
    have r1 := hR.c1
    have HA := Lib.hid hA
    have HBB := Lib.hid hB
    have HR := Lib.hid hR
    have HBl := Lib.hid hBl
    clear hA hB hR hBl
    rcases hk with ⟨rfl, rfl, rfl⟩ | ⟨rfl, rfl, rfl⟩ | ⟨rfl, rfl, rfl⟩
    · go_wp2
      go_region
      go_wp2
      exact ⟨⟨1, ac, _, rfl, .inr (.inl ⟨rfl, rfl, rfl⟩), HA.out.set0 _, HBB.out.other 0 (by omega) _, HR.out.other 0 (by omega) _, below_drew (below_set HBl.out (Nat.le_refl _))⟩, by simp [intOf]⟩
    · go_wp2
      go_region
      go_wp2
      exact ⟨⟨2, _, bd, rfl, .inr (.inr ⟨rfl, rfl, rfl⟩), HA.out.set1 _, HBB.out.other 1 (by omega) _, HR.out.other 1 (by omega) _, below_drew (below_set HBl.out (Nat.le_refl _))⟩, by simp [intOf]⟩
    · go_wp2
      have hR2 := (HR.out.set0 (.int .u64 (x : Int))).set1 (.int .u64 (y : Int))
      have hB2 := below_set (i := 1) (v := .int .u64 (y : Int)) (below_set (i := 0) (v := .int .u64 (x : Int)) HBl.out (show w.heap.size ≤ w.heap.size + 1 + 1 by omega)) (show w.heap.size ≤ w.heap.size + 1 + 1 by omega)
      refine bodyPost_ret (by simp [results, Tryz.f47, go_sem, hR2.c0, hR2.c1]; try rfl) rfl ?_
      exact ⟨rfl, hB2⟩


end Go.Proofs.YtodcdefmoliegaaGreatDoor
/-
  Contracts: the program's Without, Has, With; sets compared.
-/
namespace Go.Proofs.YtodcdefmoliegaaGreatDoor
open Go.RowKit
set_option linter.unusedVariables false
set_option linter.unusedSimpArgs false

theorem eqin_set (a b c d : Int) (w : World) : (Op.equalIn 10000 39 (.agg #[.int .u64 a, .int .u64 b]) (.agg #[.int .u64 c, .int .u64 d])).run Tryz.prog w = .ok (a == c && b == d) w := by
  have u3 := Tryz.underlying22
  have a3 := Tryz.isAgg22
  have z3 := Tryz.sizeOf22
  rw [show (10000 : Nat) = 9999 + 1 from rfl, Op.equalIn]
  simp only [Sem.run_bind, run_underlying Tryz.underlying39, Result.andThen_ok]
  simp only [Std.Legacy.Range.forIn_eq_forIn_range', Std.Legacy.Range.size, Nat.sub_zero, Nat.add_sub_cancel, Nat.div_one, List.range'_succ, List.range'_zero, List.forIn_cons, List.forIn_nil]
  go_simp
  by_cases h1 : a = c <;> by_cases h2 : b = d <;> simp [h1, h2]
theorem eql_set (a b c d : Nat) (w : World) : (binOp .eql 39 (setV a b) (setV c d)).run Tryz.prog w = .ok (.bool (decide (a = c ∧ b = d))) w := by
  unfold setV
  rw [run_eql_struct, eqin_set]
  by_cases h1 : a = c <;> by_cases h2 : b = d <;> simp [h1, h2, Result.andThen]
  all_goals first | omega | (intro h; exact absurd (by omega) h1) | (intro h; exact absurd (by omega) h2) | skip
theorem neq_set (a b c d : Nat) (w : World) : (binOp .neq 39 (setV a b) (setV c d)).run Tryz.prog w = .ok (.bool (!decide (a = c ∧ b = d))) w := by
  unfold setV
  rw [run_neq_struct, eqin_set]
  by_cases h1 : a = c <;> by_cases h2 : b = d <;> simp [h1, h2, Result.andThen]
  all_goals first | omega | (intro h; exact absurd (by omega) h1) | (intro h; exact absurd (by omega) h2) | skip
theorem guard_set (op : BinOp) (x y : Operand) (a b c d : Nat) (w : World) : Sem.run Tryz.prog (eqGuard op 39 x y (setV a b) (setV c d)) w = .ok () w := by
  unfold eqGuard setV
  cases op <;> simp [go_sem]
theorem eqin_rset (a b c d : Int) (w : World) : (Op.equalIn 10000 24 (.agg #[.int .u64 a, .int .u64 b]) (.agg #[.int .u64 c, .int .u64 d])).run Tryz.prog w = .ok (a == c && b == d) w := by
  have u3 := Tryz.underlying22
  have a3 := Tryz.isAgg22
  have z3 := Tryz.sizeOf22
  rw [show (10000 : Nat) = 9999 + 1 from rfl, Op.equalIn]
  simp only [Sem.run_bind, run_underlying Tryz.underlying24, Result.andThen_ok]
  simp only [Std.Legacy.Range.forIn_eq_forIn_range', Std.Legacy.Range.size, Nat.sub_zero, Nat.add_sub_cancel, Nat.div_one, List.range'_succ, List.range'_zero, List.forIn_cons, List.forIn_nil]
  go_simp
  by_cases h1 : a = c <;> by_cases h2 : b = d <;> simp [h1, h2]
theorem eql_rset (a b c d : Nat) (w : World) : (binOp .eql 24 (setV a b) (setV c d)).run Tryz.prog w = .ok (.bool (decide (a = c ∧ b = d))) w := by
  unfold setV
  rw [run_eql_struct, eqin_rset]
  by_cases h1 : a = c <;> by_cases h2 : b = d <;> simp [h1, h2, Result.andThen]
  all_goals first | omega | (intro h; exact absurd (by omega) h1) | (intro h; exact absurd (by omega) h2) | skip
theorem neq_rset (a b c d : Nat) (w : World) : (binOp .neq 24 (setV a b) (setV c d)).run Tryz.prog w = .ok (.bool (!decide (a = c ∧ b = d))) w := by
  unfold setV
  rw [run_neq_struct, eqin_rset]
  by_cases h1 : a = c <;> by_cases h2 : b = d <;> simp [h1, h2, Result.andThen]
  all_goals first | omega | (intro h; exact absurd (by omega) h1) | (intro h; exact absurd (by omega) h2) | skip
theorem guard_rset (op : BinOp) (x y : Operand) (a b c d : Nat) (w : World) : Sem.run Tryz.prog (eqGuard op 24 x y (setV a b) (setV c d)) w = .ok () w := by
  unfold eqGuard setV
  cases op <;> simp [go_sem]


theorem minus_same (a b : Nat) (i : Int) (ha : a < 18446744073709551616) (hb : b < 18446744073709551616) : ((a &&& (18446744073709551615 - oneA i)) = a ∧ (b &&& (18446744073709551615 - oneB i)) = b) ↔ ¬ (0 ≤ i ∧ i < 128 ∧ bitp a b i.toNat = true) := by
  have hm := fun k hk => minus_bit a b (oneA i) (oneB i) k hk (oneA_lt i) (oneB_lt i)
  constructor
  · rintro ⟨h1, h2⟩ ⟨h3, h4, h5⟩
    have := hm i.toNat (by omega)
    rw [h1, h2, h5, one_bit i _ (by omega)] at this
    have e : ((i.toNat : Nat) : Int) = i := by omega
    rw [e] at this
    simp at this
  · intro h
    have e : ∀ k, k < 128 → bitp (a &&& (18446744073709551615 - oneA i)) (b &&& (18446744073709551615 - oneB i)) k = bitp a b k := fun k hk => by
      rw [hm k hk, one_bit i k hk]
      by_cases he : (k : Int) = i
      · have hb0 : bitp a b k = false := by
          by_cases hf : bitp a b k = true
          · exact absurd ⟨by omega, by omega, by rw [← he]; exact hf⟩ h
          · simpa using hf
        rw [hb0]; rfl
      · simp [he]
    have h1 := set_of (and_lt _ ha) (and_lt _ hb) e
    have h2 := set_of ha hb (fun k _ => (rfl : bitp a b k = bitp a b k))
    exact ⟨h1.1.symm.trans h2.1, h1.2.symm.trans h2.2⟩

/-- Whether i is there, for any i. -/
def hasI (a b : Nat) (i : Int) : Bool := decide (0 ≤ i ∧ i < 128) && bitp a b i.toNat


def withP (a b : Nat) (i : Int) : (Nat × Nat) × Nat := if 0 ≤ i ∧ i < 128 then ((a ||| oneA i, b ||| oneB i), 0) else ((0, 0), 3)
def withV (a b : Nat) (i : Int) : Value := .tuple #[setV (withP a b i).1.1 (withP a b i).1.2, .int .i64 ((withP a b i).2 : Int)]

set_option maxRecDepth 20000 in
set_option maxHeartbeats 2000000 in
theorem with_any (a b : Nat) (i : Int) (w : World) (ha : a < 18446744073709551616) (hb : b < 18446744073709551616) :
    Calls Tryz.prog 46 #[setV a b, .int .i64 i] w fun e w' => e = .returned (withV a b i) ∧ Below w.heap.size w w' := by
  have h1 := fun w => single_any i w
  have h2 := fun w => or_any a b (oneA i) (oneB i) w ha hb (oneA_lt i) (oneB_lt i)
  have hq := eql_set (oneA i) (oneB i) 0 0
  have hg := fun op x y => guard_set op x y (oneA i) (oneB i) 0 0
  have bS := (Box2.new w 39 (.int .u64 (a : Int)) (.int .u64 (b : Int))).alloc (.cells #[.int .u64 0, .int .u64 0] 39)
  have bR := Box2.new (w.alloc (.cells #[.int .u64 (a : Int), .int .u64 (b : Int)] 39)) 39 (.int .u64 0) (.int .u64 0)
  have hB0 := below2 w (.cells #[.int .u64 (a : Int), .int .u64 (b : Int)] 39) (.cells #[.int .u64 0, .int .u64 0] 39)
  simp only [World.size_alloc] at bR
  by_cases hi : 0 ≤ i ∧ i < 128
  · have hv : withV a b i = .tuple #[setV (a ||| oneA i) (b ||| oneB i), .int .i64 0] := by unfold withV withP; rw [if_pos hi]; rfl
    have hd : decide (oneA i = 0 ∧ oneB i = 0) = false := decide_eq_false fun h => (one_none i).1 h hi
    rw [hd] at hq
    rw [hv]
    generalize (a ||| oneA i) = x at *
    generalize (b ||| oneB i) = y at *
    clear hv hd
    generalize oneA i = oa at *
    generalize oneB i = ob at *
    unfold setV at *
    have hq2 : ∀ w, (binOp .eql 39 (.agg #[.int .u64 (oa : Int), .int .u64 (ob : Int)]) (.agg #[.int .u64 0, .int .u64 0])).run Tryz.prog w = .ok (.bool false) w := hq
    have hg2 : ∀ op x y w, Sem.run Tryz.prog (eqGuard op 39 x y (.agg #[.int .u64 (oa : Int), .int .u64 (ob : Int)]) (.agg #[.int .u64 0, .int .u64 0])) w = .ok () w := hg
    have H1 := Lib.hid h1
    have H2 := Lib.hid h2
    clear h1 h2 ha hb hi hq hg
    go_enter Tryz.func46, Tryz.ntmps46
    go_wp2_with fail
    generalize (w.alloc (.cells #[.int .u64 (a : Int), .int .u64 (b : Int)] 39)).alloc (.cells #[.int .u64 0, .int .u64 0] 39) = W0 at *
    refine (H1.out _).mono ?_
    rintro r w5 ⟨rfl, hb5⟩
    have cS := bS.below hb5 bS.lt
    have cR := bR.below hb5 bR.lt
    have hB5 := hB0.trans (hb5.mono hB0.size)
    clear hb5 bS bR hB0
    have dS := cS.alloc (.cells #[.int .u64 (oa : Int), .int .u64 (ob : Int)] 39)
    have dR := cR.alloc (.cells #[.int .u64 (oa : Int), .int .u64 (ob : Int)] 39)
    have dO := Box2.new w5 39 (.int .u64 (oa : Int)) (.int .u64 (ob : Int))
    have hB6 : Below w.heap.size w (w5.alloc (.cells #[.int .u64 (oa : Int), .int .u64 (ob : Int)] 39)) := hB5.alloc hB5.size _
    have hz : w.heap.size + 2 ≤ w5.heap.size := cR.lt
    have s0 := dS.c0
    have s1 := dS.c1
    clear cS cR hB5
    go_wp2_with fail
    generalize w5.alloc (.cells #[.int .u64 (oa : Int), .int .u64 (ob : Int)] 39) = W6 at *
    refine (H2.out _).mono ?_
    rintro r w7 ⟨rfl, hb7⟩
    have eR := dR.below hb7 dR.lt
    have hB7 := hB6.trans (hb7.mono hB6.size)
    have f0 := eR.f0
    have f1 := eR.f1
    have c0 := eR.c0
    have c1 := eR.c1
    clear hb7
    have hR2 := (eR.set0 (.int .u64 (x : Int))).set1 (.int .u64 (y : Int))
    have hB8 := below_set (b := w.heap.size + 1) (i := 1) (v := .int .u64 (y : Int)) (below_set (b := w.heap.size + 1) (i := 0) (v := .int .u64 (x : Int)) hB7 (by omega)) (by omega)
    go_wp2
    refine bodyPost_ret (by simp [results, Tryz.f46, go_sem, hR2.c0, hR2.c1]; try rfl) rfl ?_
    exact ⟨rfl, hB8⟩
  · have hv : withV a b i = .tuple #[setV 0 0, .int .i64 3] := by unfold withV withP; rw [if_neg hi]; rfl
    have hd : decide (oneA i = 0 ∧ oneB i = 0) = true := decide_eq_true ((one_none i).2 hi)
    rw [hd] at hq
    rw [hv]
    clear hv hd h2
    generalize oneA i = oa at *
    generalize oneB i = ob at *
    unfold setV at *
    have hq2 : ∀ w, (binOp .eql 39 (.agg #[.int .u64 (oa : Int), .int .u64 (ob : Int)]) (.agg #[.int .u64 0, .int .u64 0])).run Tryz.prog w = .ok (.bool true) w := hq
    have hg2 : ∀ op x y w, Sem.run Tryz.prog (eqGuard op 39 x y (.agg #[.int .u64 (oa : Int), .int .u64 (ob : Int)]) (.agg #[.int .u64 0, .int .u64 0])) w = .ok () w := hg
    have H1 := Lib.hid h1
    clear h1 ha hb hi hq hg
    go_enter Tryz.func46, Tryz.ntmps46
    go_wp2_with fail
    generalize (w.alloc (.cells #[.int .u64 (a : Int), .int .u64 (b : Int)] 39)).alloc (.cells #[.int .u64 0, .int .u64 0] 39) = W0 at *
    refine (H1.out _).mono ?_
    rintro r w5 ⟨rfl, hb5⟩
    have cR := bR.below hb5 bR.lt
    have hB5 := hB0.trans (hb5.mono hB0.size)
    clear hb5 bS bR hB0
    have dR := cR.alloc (.cells #[.int .u64 (oa : Int), .int .u64 (ob : Int)] 39)
    have dO := Box2.new w5 39 (.int .u64 (oa : Int)) (.int .u64 (ob : Int))
    have hB6 : Below w.heap.size w (w5.alloc (.cells #[.int .u64 (oa : Int), .int .u64 (ob : Int)] 39)) := hB5.alloc hB5.size _
    have hz : w.heap.size + 2 ≤ w5.heap.size := cR.lt
    clear cR hB5
    have f0 := dR.f0
    have f1 := dR.f1
    have c0 := dR.c0
    have c1 := dR.c1
    have hR2 := (dR.set0 (.int .u64 0)).set1 (.int .u64 0)
    have hB8 := below_set (b := w.heap.size + 1) (i := 1) (v := .int .u64 0) (below_set (b := w.heap.size + 1) (i := 0) (v := .int .u64 0) hB6 (by omega)) (by omega)
    go_wp2
    refine bodyPost_ret (by simp [results, Tryz.f46, go_sem, hR2.c0, hR2.c1]; try rfl) rfl ?_
    exact ⟨rfl, hB8⟩
end Go.Proofs.YtodcdefmoliegaaGreatDoor
/-
  Contracts: the reference's Has, told, made.
-/
namespace Go.Proofs.YtodcdefmoliegaaGreatDoor
open Go.RowKit
set_option linter.unusedVariables false
set_option linter.unusedSimpArgs false

theorem shr_bit (a k : Nat) (ha : a < 18446744073709551616) : (bits .and .u64 ((a : Int) / 2 ^ k) 1 == 1) = a.testBit k := by
  have e : (a : Int) / 2 ^ k = ((a / 2 ^ k : Nat) : Int) := by simp
  have hl : a / 2 ^ k < 18446744073709551616 := Nat.lt_of_le_of_lt (Nat.div_le_self _ _) ha
  have h := u64_and_nat (a / 2 ^ k) 1 hl (by omega)
  rw [nat_mask1] at h
  have h' : bits .and .u64 ((a / 2 ^ k : Nat) : Int) 1 = ((a / 2 ^ k % 2 : Nat) : Int) := h
  rw [e, h', Nat.testBit_eq_decide_div_mod_eq]
  by_cases h2 : a / 2 ^ k % 2 = 1
  · rw [h2]; rfl
  · have : a / 2 ^ k % 2 = 0 := by omega
    rw [this]; rfl


theorem owns_keptB {w w' : World} {B e size n : Nat} {v : Value} {xs : List Value} (h : w.ownsRow B e size v n xs) (hk : ∀ k, v.ownBlock = some k → w'.heap[k]? = w.heap[k]?) : w'.ownsRow B e size v n xs := by
  refine ⟨h.1, ?_⟩
  rcases h.2 with hn | ⟨g, cap, cur, rfl, hb, hgg, rest⟩
  · exact .inl hn
  · exact .inr ⟨g, cap, cur, rfl, hb, by rw [hk g rfl]; exact hgg, rest⟩

/-- A row of 128 truths. -/
def BR (W : World) (g : Nat) (f : Nat → Bool) : Prop := ∀ i, i < 128 → W.cell? ⟨g, i, none⟩ = some (.bool (f i))
theorem BR.below {W W' g f n} (h : BR W g f) (hb : Below n W W') (hg : g < n) : BR W' g f := fun i hi => (hb.cell (p := ⟨g, i, none⟩) hg).trans (h i hi)
theorem BR.set {W g f} (h : BR W g f) (k : Nat) (hk : k < 128) (v : Bool) : BR (W.setCell ⟨g, k, none⟩ (.bool v)) g (fun i => if i = k then v else f i) := fun i hi => by
  by_cases he : i = k
  · subst he
    show _ = some (Value.bool (if i = i then v else f i))
    rw [if_pos rfl, World.cell?_setCell_same _ _ _ (h i hi)]
  · show _ = some (Value.bool (if i = k then v else f i))
    rw [if_neg he, World.cell?_setCell_other _ _ _ _ (fun e => he (congrArg Addr.off e).symm)]
    exact h i hi
theorem Tryz.info4b : (Tryz.prog.info? 4).map (fun i => (i.zero, i.size, i.bytes)) = some (some (.bool false), 1, 1) := by kernel_rfl
theorem cells_one4 (w : World) (V : Value) : ∀ (j : Nat) (u : Value), [V][j]? = some u → (w.alloc (.cells #[V] 4)).cell? ((⟨w.heap.size, 0, none⟩ : Addr).add j) = some u := by
  intro j u hj
  rw [Addr.add_none, cell_of_blk (heap_alloc_new w _), Nat.zero_add]
  simpa using hj
theorem shapeB {w : World} {B e size n : Nat} {v : Value} {xs : List Value} (h : w.ownsRow B e size v n xs) : ∃ a c, v = .slice a n c := by
  rcases h.2 with ⟨rfl, h0⟩ | ⟨g, cap, cur, rfl, _⟩
  · exact ⟨none, 0, by rw [h0]⟩
  · exact ⟨_, _, rfl⟩
def boolsL (f : Nat → Bool) (k : Nat) : List Value := (List.range k).map fun i => .bool (f i)
theorem boolsL_succ (f k) : boolsL f (k + 1) = boolsL f k ++ [.bool (f k)] := by simp [boolsL, List.range_succ]
theorem boolsL_at (f : Nat → Bool) (k i : Nat) (h : i < k) : (boolsL f k)[i]? = some (.bool (f i)) := by simp [boolsL, h]
end Go.Proofs.YtodcdefmoliegaaGreatDoor
/-
  Contracts: the reference's made.
-/
namespace Go.Proofs.YtodcdefmoliegaaGreatDoor
open Go.RowKit
set_option linter.unusedVariables false
set_option linter.unusedSimpArgs false

theorem word_or (f : Nat → Bool) (k : Nat) (h : f k = true) : wordB f k ||| 2 ^ k = wordB f (k + 1) := by
  have e : wordB f (k + 1) = 2 ^ k * 1 + wordB f k := by show (if f k then _ else _) = _; rw [if_pos h]; omega
  rw [e, Nat.two_pow_add_eq_or_of_lt (wordB_lt f k), Nat.mul_one, Nat.or_comm]
theorem word_skip (f : Nat → Bool) (k : Nat) (h : f k = false) : wordB f (k + 1) = wordB f k := by
  show (if f k then _ else _) = _
  rw [h]; rfl
def hi64 (f : Nat → Bool) : Nat → Bool := fun i => f (i + 64)
theorem word_lt64 (f : Nat → Bool) (k : Nat) (h : k ≤ 64) : wordB f k < 18446744073709551616 := Nat.lt_of_lt_of_le (wordB_lt f k) (Nat.pow_le_pow_right (by omega) h)
end Go.Proofs.YtodcdefmoliegaaGreatDoor
/-
  Contracts: the reference's With, Without, Or, Minus.
-/
namespace Go.Proofs.YtodcdefmoliegaaGreatDoor
open Go.RowKit
set_option linter.unusedVariables false
set_option linter.unusedSimpArgs false

theorem with_set (a b : Nat) (i : Int) (n : Nat) (hn : i = (n : Int)) (h : n < 128) (ha : a < 18446744073709551616) (hb : b < 18446744073709551616) : setF (fun k => if k = n then true else bitp a b k) = setV (a ||| oneA i) (b ||| oneB i) := by
  symm
  refine setV_of (or_lt ha (oneA_lt i)) (or_lt hb (oneB_lt i)) fun k hk => ?_
  rw [or_bit, one_bit i k hk, hn]
  by_cases he : k = n
  · simp [he]
  · have : ¬ ((k : Int) = (n : Int)) := by omega
    simp [he, this]
theorem without_set (a b : Nat) (i : Int) (n : Nat) (hn : i = (n : Int)) (h : n < 128) (ha : a < 18446744073709551616) (hb : b < 18446744073709551616) : setF (fun k => if k = n then false else bitp a b k) = setV (a &&& (18446744073709551615 - oneA i)) (b &&& (18446744073709551615 - oneB i)) := by
  symm
  refine setV_of (and_lt _ ha) (and_lt _ hb) fun k hk => ?_
  rw [minus_bit _ _ _ _ k hk (oneA_lt i) (oneB_lt i), one_bit i k hk, hn]
  by_cases he : k = n
  · simp [he]
  · have : ¬ ((k : Int) = (n : Int)) := by omega
    simp [he, this]
theorem cell_lt {W : World} {a : Addr} {v : Value} (h : W.cell? a = some v) : a.block < W.heap.size := by
  unfold World.cell? at h
  split at h
  · rename_i hb; exact (Array.getElem?_eq_some_iff.1 hb).1
  · cases h
theorem free_some {W : World} {g k : Nat} {cur : Array Value} {t : TypeId} (h : W.heap[g]? = some (.cells cur t (0, 0))) : W.frozen? ⟨g, k, none⟩ = false := free_of_blk h k
end Go.Proofs.YtodcdefmoliegaaGreatDoor
/-
  Contracts: the reference's Without, Or, Minus.
-/
namespace Go.Proofs.YtodcdefmoliegaaGreatDoor
open Go.RowKit
set_option linter.unusedVariables false
set_option linter.unusedSimpArgs false


theorem ror_set (a b c d : Nat) (ha : a < 18446744073709551616) (hb : b < 18446744073709551616) (hc : c < 18446744073709551616) (hd : d < 18446744073709551616) : setF (fun k => (bitp a b k || bitp c d k)) = setV (a ||| c) (b ||| d) := by
  symm
  refine setV_of (or_lt ha hc) (or_lt hb hd) fun k hk => ?_
  rw [or_bit]


theorem rminus_set (a b c d : Nat) (ha : a < 18446744073709551616) (hb : b < 18446744073709551616) (hc : c < 18446744073709551616) (hd : d < 18446744073709551616) : setF (fun k => (bitp a b k && !bitp c d k)) = setV (a &&& (18446744073709551615 - c)) (b &&& (18446744073709551615 - d)) := by
  symm
  refine setV_of (and_lt _ ha) (and_lt _ hb) fun k hk => ?_
  rw [minus_bit _ _ _ _ k hk hc hd]
end Go.Proofs.YtodcdefmoliegaaGreatDoor
/-
  Contracts: math/bits.OnesCount64; Count.
-/
namespace Go.Proofs.YtodcdefmoliegaaGreatDoor
open Go.RowKit
set_option linter.unusedVariables false
set_option linter.unusedSimpArgs false

/-- How many of the first n are there. -/
def bcnt (f : Nat → Bool) : Nat → Nat
  | 0 => 0
  | n + 1 => bcnt f n + (if f n then 1 else 0)
theorem bcnt_le (f) : ∀ n, bcnt f n ≤ n
  | 0 => Nat.le_refl _
  | n + 1 => by
    have := bcnt_le f n
    show bcnt f n + (if f n then 1 else 0) ≤ n + 1
    split <;> omega
theorem cnt_add (f : Nat → Bool) (m : Nat) : ∀ n, bcnt f (m + n) = bcnt f m + bcnt (fun i => f (m + i)) n
  | 0 => rfl
  | n + 1 => by
    have ih := cnt_add f m n
    show bcnt f (m + n) + (if f (m + n) then 1 else 0) = bcnt f m + (bcnt (fun i => f (m + i)) n + (if f (m + n) then 1 else 0))
    omega
theorem cnt_congr {f g : Nat → Bool} : ∀ n, (∀ i, i < n → f i = g i) → bcnt f n = bcnt g n
  | 0, _ => rfl
  | n + 1, h => by
    have ih := cnt_congr n (fun i hi => h i (by omega))
    show bcnt f n + (if f n then 1 else 0) = bcnt g n + (if g n then 1 else 0)
    rw [ih, h n (by omega)]

/-- Byte by byte. -/
def ev (f : Nat → Nat) : Nat → Nat → Nat
  | 0, _ => 0
  | n + 1, x => ev f n (x / 256) * 256 + f (x % 256)
def maskN (c : Nat) : Nat → Nat
  | 0 => 0
  | n + 1 => maskN c n * 256 + c
theorem and_split (hi lo M m : Nat) (hl : lo < 256) (hm : m < 256) : (hi * 256 + lo) &&& (M * 256 + m) = (hi &&& M) * 256 + (lo &&& m) := by
  apply Nat.eq_of_testBit_eq
  intro i
  have e : ∀ a b, b < 256 → (a * 256 + b).testBit i = if i < 8 then b.testBit i else a.testBit (i - 8) := fun a b hb => by
    have := Nat.testBit_two_pow_mul_add (i := 8) a (b := b) hb i
    rw [show a * 256 + b = 2 ^ 8 * a + b from by rw [show (2 : Nat) ^ 8 = 256 from rfl]; omega, this]
  rw [Nat.testBit_and, e hi lo hl, e M m hm, e _ _ (Nat.lt_of_le_of_lt Nat.and_le_left hl)]
  split
  · rw [Nat.testBit_and]
  · rw [Nat.testBit_and]
def s1 (y : Nat) : Nat := (y / 2 &&& 85) + (y &&& 85)
def s2 (y : Nat) : Nat := (y / 4 &&& 51) + (y &&& 51)
def s3 (y : Nat) : Nat := (y / 16 + y) &&& 15
theorem s1_carry : ∀ (q : Fin 2) (y : Fin 256), (q.val * 128 + y.val / 2) &&& 85 = y.val / 2 &&& 85 := by decide +kernel
theorem s2_carry : ∀ (q : Fin 4) (y : Fin 256), (q.val * 64 + y.val / 4) &&& 51 = y.val / 4 &&& 51 := by decide +kernel
theorem step1 : ∀ (n x : Nat), ((x / 2) &&& maskN 85 n) + (x &&& maskN 85 n) = ev s1 n x
  | 0, x => by simp [maskN, ev]
  | n + 1, x => by
    have ih := step1 n (x / 256)
    have hc := s1_carry ⟨x / 256 % 2, by omega⟩ ⟨x % 256, by omega⟩
    have h1 := and_split (x / 256 / 2) (x / 256 % 2 * 128 + x % 256 / 2) (maskN 85 n) 85 (by omega) (by omega)
    have h2 := and_split (x / 256) (x % 256) (maskN 85 n) 85 (by omega) (by omega)
    rw [show x / 256 / 2 * 256 + (x / 256 % 2 * 128 + x % 256 / 2) = x / 2 from by omega] at h1
    rw [show x / 256 * 256 + x % 256 = x from by omega] at h2
    show ((x / 2) &&& (maskN 85 n * 256 + 85)) + (x &&& (maskN 85 n * 256 + 85)) = ev s1 n (x / 256) * 256 + ((x % 256 / 2 &&& 85) + (x % 256 &&& 85))
    dsimp only at hc
    rw [h1, h2, hc, ← ih]
    omega
theorem step2 (f : Nat → Nat) (hf : ∀ y, y < 256 → f y < 256) : ∀ (n x : Nat), ((ev f n x / 4) &&& maskN 51 n) + (ev f n x &&& maskN 51 n) = ev (fun y => s2 (f y)) n x
  | 0, x => by simp [maskN, ev]
  | n + 1, x => by
    have ih := step2 f hf n (x / 256)
    have hl := hf (x % 256) (by omega)
    obtain ⟨H, hH⟩ : ∃ H, H = ev f n (x / 256) := ⟨_, rfl⟩
    rw [← hH] at ih
    obtain ⟨l, hll⟩ : ∃ l, l = f (x % 256) := ⟨_, rfl⟩
    rw [← hll] at hl
    have hc := s2_carry ⟨H % 4, by omega⟩ ⟨l, hl⟩
    have h1 := and_split (H / 4) (H % 4 * 64 + l / 4) (maskN 51 n) 51 (by omega) (by omega)
    have h2 := and_split H l (maskN 51 n) 51 hl (by omega)
    rw [show H / 4 * 256 + (H % 4 * 64 + l / 4) = (H * 256 + l) / 4 from by omega] at h1
    show (((ev f n (x / 256) * 256 + f (x % 256)) / 4) &&& (maskN 51 n * 256 + 51)) + ((ev f n (x / 256) * 256 + f (x % 256)) &&& (maskN 51 n * 256 + 51)) = ev (fun y => s2 (f y)) n (x / 256) * 256 + s2 (f (x % 256))
    rw [← hH, ← hll]
    dsimp only at hc
    rw [h1, h2, hc, ← ih]
    unfold s2
    omega
theorem s3_carry : ∀ (q : Fin 5) (y : Fin 69), y.val % 16 ≤ 4 → (q.val * 16 + y.val / 16 + y.val) &&& 15 = s3 y.val := by decide +kernel
theorem ev_low (f : Nat → Nat) (hf : ∀ y, y < 256 → f y % 16 ≤ 4) : ∀ n x, ev f n x % 16 ≤ 4
  | 0, x => by simp [ev]
  | n + 1, x => by
    have := hf (x % 256) (by omega)
    show (ev f n (x / 256) * 256 + f (x % 256)) % 16 ≤ 4
    omega
theorem step3 (f : Nat → Nat) (hf : ∀ y, y < 256 → f y < 69 ∧ f y % 16 ≤ 4) : ∀ (n x : Nat), ((ev f n x / 16 + ev f n x) &&& maskN 15 n) = ev (fun y => s3 (f y)) n x
  | 0, x => by simp [maskN, ev]
  | n + 1, x => by
    have ih := step3 f hf n (x / 256)
    have hl := hf (x % 256) (by omega)
    have hq := ev_low f (fun y hy => (hf y hy).2) n (x / 256)
    obtain ⟨H, hH⟩ : ∃ H, H = ev f n (x / 256) := ⟨_, rfl⟩
    rw [← hH] at ih hq
    obtain ⟨l, hll⟩ : ∃ l, l = f (x % 256) := ⟨_, rfl⟩
    rw [← hll] at hl
    have hc := s3_carry ⟨H % 16, by omega⟩ ⟨l, hl.1⟩ hl.2
    dsimp only at hc
    have h1 := and_split (H / 16 + H) (H % 16 * 16 + l / 16 + l) (maskN 15 n) 15 (by omega) (by omega)
    rw [show (H / 16 + H) * 256 + (H % 16 * 16 + l / 16 + l) = (H * 256 + l) / 16 + (H * 256 + l) from by omega] at h1
    show (((ev f n (x / 256) * 256 + f (x % 256)) / 16 + (ev f n (x / 256) * 256 + f (x % 256))) &&& (maskN 15 n * 256 + 15)) = ev (fun y => s3 (f y)) n (x / 256) * 256 + s3 (f (x % 256))
    rw [← hH, ← hll, h1, hc, ih]
def pop8 (y : Nat) : Nat := s3 (s2 (s1 y))
theorem pop8_cnt : ∀ y : Fin 256, pop8 y.val = bcnt y.val.testBit 8 := by decide +kernel
theorem s1_lt : ∀ y : Fin 256, s1 y.val < 256 := by decide +kernel
theorem s2_lt : ∀ y : Fin 256, s2 (s1 y.val) < 69 ∧ s2 (s1 y.val) % 16 ≤ 4 := by decide +kernel
theorem pop8_le (y : Nat) (h : y < 256) : pop8 y ≤ 8 := by
  rw [pop8_cnt ⟨y, h⟩]; exact bcnt_le _ _
def sumP : Nat → Nat → Nat
  | 0, _ => 0
  | n + 1, x => pop8 (x % 256) + sumP n (x / 256)
theorem cnt_sum : ∀ n x, bcnt x.testBit (8 * n) = sumP n x
  | 0, _ => rfl
  | n + 1, x => by
    have ih := cnt_sum n (x / 256)
    rw [show 8 * (n + 1) = 8 + 8 * n from by omega, cnt_add]
    show _ = pop8 (x % 256) + sumP n (x / 256)
    rw [pop8_cnt ⟨x % 256, by omega⟩, ← ih]
    congr 1
    · apply cnt_congr
      intro i hi
      have := Nat.testBit_mod_two_pow x 8 i
      rw [show (2 : Nat) ^ 8 = 256 from rfl] at this
      rw [this]; simp [hi]
    · apply cnt_congr
      intro i hi
      have := Nat.testBit_div_two_pow (n := 8) x i
      rw [show (2 : Nat) ^ 8 = 256 from rfl] at this
      rw [this, Nat.add_comm]

theorem wrap_u (n : Int) (h0 : 0 ≤ n) (h1 : n < 18446744073709551616) : IntKind.u64.wrap n = n := by rw [wrap_u64]; omega
theorem and127 (n : Nat) (h : n < 9223372036854775808) : bits .and .i64 (n : Int) 127 = ((n % 128 : Nat) : Int) := by
  have p63 : (2 : Int) ^ 63 = 9223372036854775808 := by decide
  have hw : ∀ m : Int, 0 ≤ m → m < 2 ^ 63 → IntKind.i64.wrap m = m := fun m h0 h1 => by rw [IntKind.wrap_i64]; omega
  have e : bits .and .i64 (n : Int) 127 = (n : Int) % 128 := bits_mask .i64 63 (by decide) hw 7 (by omega) (n : Int) (by omega) (by omega)
  rw [e]; omega

theorem fold8 {x3 x4 x5 x6 p0 p1 p2 p3 p4 p5 p6 p7 : Nat} (h4 : x4 = x3 + x3 / 256) (h5 : x5 = x4 + x4 / 65536) (h6 : x6 = x5 + x5 / 4294967296)
    (l0 : p0 ≤ 8) (l1 : p1 ≤ 8) (l2 : p2 ≤ 8) (l3 : p3 ≤ 8) (l4 : p4 ≤ 8) (l5 : p5 ≤ 8) (l6 : p6 ≤ 8) (l7 : p7 ≤ 8)
    (e3 : x3 = (((((((0 * 256 + p7) * 256 + p6) * 256 + p5) * 256 + p4) * 256 + p3) * 256 + p2) * 256 + p1) * 256 + p0) :
    x6 % 128 = p0 + (p1 + (p2 + (p3 + (p4 + (p5 + (p6 + (p7 + 0))))))) := by
  have a : x3 / 256 = ((((((p7) * 256 + p6) * 256 + p5) * 256 + p4) * 256 + p3) * 256 + p2) * 256 + p1 := by omega
  have b : x4 = (((((((p7) * 256 + (p6 + p7)) * 256 + (p5 + p6)) * 256 + (p4 + p5)) * 256 + (p3 + p4)) * 256 + (p2 + p3)) * 256 + (p1 + p2)) * 256 + (p0 + p1) := by omega
  clear h4 a e3
  have c : x4 / 65536 = (((((p7) * 256 + (p6 + p7)) * 256 + (p5 + p6)) * 256 + (p4 + p5)) * 256 + (p3 + p4)) * 256 + (p2 + p3) := by omega
  have d : x5 = (((((((p7) * 256 + (p6 + p7)) * 256 + (p5 + p6 + p7)) * 256 + (p4 + p5 + p6 + p7)) * 256 + (p3 + p4 + p5 + p6)) * 256 + (p2 + p3 + p4 + p5)) * 256 + (p1 + p2 + p3 + p4)) * 256 + (p0 + p1 + p2 + p3) := by omega
  clear h5 b c
  have f : x5 / 4294967296 = (((p7) * 256 + (p6 + p7)) * 256 + (p5 + p6 + p7)) * 256 + (p4 + p5 + p6 + p7) := by omega
  omega
end Go.Proofs.YtodcdefmoliegaaGreatDoor
/-
  Contract: Count.
-/
namespace Go.Proofs.YtodcdefmoliegaaGreatDoor
open Go.RowKit
set_option linter.unusedVariables false
set_option linter.unusedSimpArgs false

theorem cnt_bitp (a b : Nat) : bcnt (bitp a b) 128 = bcnt a.testBit 64 + bcnt b.testBit 64 := by
  rw [show (128 : Nat) = 64 + 64 from rfl, cnt_add]
  have h1 : bcnt (bitp a b) 64 = bcnt a.testBit 64 := cnt_congr _ fun i hi => by unfold bitp; rw [if_pos hi]
  have h2 : bcnt (fun i => bitp a b (64 + i)) 64 = bcnt b.testBit 64 := cnt_congr _ fun i hi => by unfold bitp; rw [if_neg (by omega), Nat.add_sub_cancel_left]
  rw [h1, h2]

theorem index_set (x y : Value) (w : World) : (Instr.index 39 (.agg #[x, y]) (.int .i64 0)).run Tryz.prog w = .ok x w ∧ (Instr.index 39 (.agg #[x, y]) (.int .i64 1)).run Tryz.prog w = .ok y w := by
  have u3 := Tryz.underlying22
  have a3 := Tryz.isAgg22
  have z3 := Tryz.sizeOf22
  constructor
  · simp [Instr.index, run_underlying Tryz.underlying39, asIntOf, go_sem, part, a3, z3]
  · simp [Instr.index, run_underlying Tryz.underlying39, asIntOf, go_sem, part, a3, z3]
end Go.Proofs.YtodcdefmoliegaaGreatDoor
/-
  Slices of ints that are read, rows of the call's own (as in geom's texts); the contract of Ints.
-/
namespace Go.Proofs.YtodcdefmoliegaaGreatDoor
open Go.RowKit
set_option linter.unusedVariables false
set_option linter.unusedSimpArgs false

def ivs (xs : List Int) : List Value := xs.map fun x => Value.int .i64 x
theorem ivs_length (xs : List Int) : (ivs xs).length = xs.length := by simp [ivs]
theorem ivs_append (xs ys : List Int) : ivs (xs ++ ys) = ivs xs ++ ivs ys := by simp [ivs]
theorem ivs_at (xs : List Int) (i : Nat) (h : i < xs.length) : (ivs xs)[i]? = some (.int .i64 (xs[i]?.getD 0)) := by
  simp [ivs, List.getElem?_eq_getElem h]
theorem Tryz.info3 : (Tryz.prog.info? 3).map (fun i => (i.zero, i.size, i.bytes)) = some (some (.int .i64 0), 1, 8) := by kernel_rfl
/-- The slice value '.slice a n cap' reads in w as the ints xs. -/
structure Ri (w : World) (a : Option Addr) (n cap : Nat) (xs : List Int) : Prop where
  len : xs.length = n
  le : n ≤ cap
  big : n ≤ 140737488355328
  cm : cap ≤ maxLen
  at0 : 0 < n → ∃ b off, a = some ⟨b, off, none⟩ ∧ b < w.heap.size ∧ ∀ i, i < n → w.cell? ⟨b, off + i, none⟩ = some (.int .i64 (xs[i]?.getD 0))
  nil : a = none → cap = 0
theorem ri_of_owns {w : World} {B g n cap : Nat} {xs : List Int} (h : w.ownsRow B 3 1 (.slice (some ⟨g, 0, none⟩) n cap) n (ivs xs)) (hb : n ≤ 140737488355328) :
    Ri w (some ⟨g, 0, none⟩) n cap xs := by
  have hl : xs.length = n := by have := h.1; simpa [ivs_length] using this
  have hlt := (h.lt g rfl).2
  have H := h
  obtain ⟨_, h2⟩ := h
  rcases h2 with ⟨h2, _⟩ | ⟨g', cap', cur, hv, _, hh, hle, hm, _, _⟩
  · cases h2
  · simp only [Value.slice.injEq, Option.some.injEq, Addr.mk.injEq] at hv
    obtain ⟨⟨rfl, -, -⟩, -, rfl⟩ := hv
    refine ⟨hl, hle, hb, hm, fun _ => ⟨g, 0, rfl, hlt, fun i hi => ?_⟩, fun e => by cases e⟩
    rw [Nat.zero_add]
    have := World.ownsRow.cellAt H i (by omega)
    rw [this, ivs_at xs i (by omega)]
/-- The shape of a value that owns a row. -/
theorem iowns_shape {w : World} {B n : Nat} {v : Value} {xs : List Int} (h : w.ownsRow B 3 1 v n (ivs xs)) (hb : n ≤ 140737488355328) :
    ∃ a c, v = .slice a n c ∧ Ri w a n c xs ∧ ∀ b off sp, a = some ⟨b, off, sp⟩ → B ≤ b := by
  have H := h
  have hl : xs.length = n := by have := h.1; simpa [ivs_length] using this
  obtain ⟨_, h2⟩ := h
  rcases h2 with ⟨rfl, rfl⟩ | ⟨g, cap, cur, rfl, hB, hh, hle, hm, _, _⟩
  · exact ⟨none, 0, rfl, ⟨hl, Nat.le_refl _, by omega, by unfold maxLen; omega, fun h => by omega, fun _ => rfl⟩, fun _ _ _ e => by cases e⟩
  · exact ⟨_, _, rfl, ri_of_owns H hb, fun b off sp e => by cases e; exact hB⟩
theorem one_icell (w : World) (x : Int) : ∀ (j : Nat) (u : Value), (ivs [x])[j]? = some u →
    (w.alloc (.cells #[.int .i64 x] 3)).cell? ((⟨w.heap.size, 0, none⟩ : Addr).add j) = some u := by
  intro j u hj
  match j, hj with
  | 0, hj =>
    simp only [ivs, List.map_cons, List.map_nil, List.getElem?_cons_zero, Option.some.injEq] at hj
    subst hj
    rw [Addr.add_none]
    exact World.cell?_alloc_at _ _ _ _ rfl
theorem ivs_one (xs : List Int) : ∀ u ∈ ivs xs, u.oneCell' = true := by
  intro u hu; simp only [ivs, List.mem_map] at hu; obtain ⟨x, _, rfl⟩ := hu; rfl
/-- A new block of one int is a row of the call's own. -/
theorem one_owns (w : World) (B : Nat) (x : Int) (hB : B ≤ w.heap.size) : (w.alloc (.cells #[.int .i64 x] 3)).ownsRow B 3 1 (.slice (some ⟨w.heap.size, 0, none⟩) 1 1) 1 (ivs [x]) := by
  refine ⟨rfl, .inr ⟨w.heap.size, 1, #[.int .i64 x], rfl, hB, ?_, Nat.le_refl _, by unfold maxLen; omega, rfl, rfl⟩⟩
  exact heap_alloc_new _ _
theorem Ri.later {w w' : World} {a : Option Addr} {n cap : Nat} {xs : List Int} (h : Ri w a n cap xs) (hb : Below w.heap.size w w') : Ri w' a n cap xs where
  len := h.len
  le := h.le
  big := h.big
  cm := h.cm
  at0 := fun h0 => by
    obtain ⟨b, off, ha, hlt, hc⟩ := h.at0 h0
    exact ⟨b, off, ha, Nat.lt_of_lt_of_le hlt hb.size, fun i hi => by rw [hb.cell (by exact hlt)]; exact hc i hi⟩
  nil := h.nil
theorem ri_nil (w : World) : Ri w none 0 0 [] := ⟨rfl, Nat.le_refl _, by omega, by unfold maxLen; omega, fun h => by omega, fun _ => rfl⟩
/-- A value that is a list of ints. -/
def Li (w : World) (v : Value) (xs : List Int) : Prop := ∃ a n cap, v = .slice a n cap ∧ Ri w a n cap xs
theorem Li.later {w w' : World} {v : Value} {xs : List Int} (h : Li w v xs) (hb : Below w.heap.size w w') : Li w' v xs := by
  obtain ⟨a, n, c, rfl, h⟩ := h; exact ⟨a, n, c, rfl, h.later hb⟩
theorem li_owns {w : World} {B n : Nat} {v : Value} {xs : List Int} (h : w.ownsRow B 3 1 v n (ivs xs)) (hb : n ≤ 140737488355328) : Li w v xs := by
  obtain ⟨a, c, rfl, h, _⟩ := iowns_shape h hb; exact ⟨a, n, c, rfl, h⟩
theorem li_nil (w : World) : Li w (.slice none 0 0) [] := ⟨_, _, _, rfl, ri_nil w⟩
/-- 'append(out, x)': out the call's own (or nil), x in a new block. -/
theorem wpList_append_i {P : Program} {w w0 : World} {ops : Array Oper} {rest : List Oper} {o : Oper} {a : Act} {Q : Exit → Act → World → Prop} (hgd : o.guard = none) (s x : Operand) (t : TypeId)
    (ho : o.op = .call { callee := .builtin .append, args := #[s, x], argTypes := #[t, t] })
    (base : Nat) (i : TypeInfo) (ht : P.underlying t = some (.slice 3)) (hi : P.info? 3 = some i) (hz : i.zero = some (.int .i64 0))
    (hsize : i.size = 1) (hby : i.bytes = 8)
    (v : Value) (n : Nat) (xs : List Int) (hs : a.eval s = v) (hown : w.ownsRow base 3 1 v n (ivs xs))
    (y : Int) (hx : a.eval x = .slice (some ⟨w0.heap.size, 0, none⟩) 1 1) (hw : w = w0.alloc (.cells #[.int .i64 y] 3))
    (hbytes : n < 1000000) (hbase : base ≤ w.heap.size)
    (h : ∀ v' w', w'.ownsRow base 3 1 v' (n + 1) (ivs (xs ++ [y])) → w.grownBy w' v.ownBlock → wpList P ops Q rest (a.put o.dst v') w') : wpList P ops Q (o :: rest) a w := by
  subst hw
  refine wpList_append_own _ hgd s x t ho base 3 i (.int .i64 0) 1 8 ht hi hz hsize hby rfl (by omega) v n (ivs xs) hs hown ⟨w0.heap.size, 0, none⟩ 1 1 (ivs [y]) hx rfl ?_ (ivs_one _) (by unfold maxLen; omega) (by omega) hbase (fun v' w' h1 h2 _ => h v' w' (by rw [ivs_append]; exact h1) h2)
  exact one_icell w0 y
/-- The same, and where the new row lies. -/
theorem wpList_append_ia {P : Program} {w w0 : World} {ops : Array Oper} {rest : List Oper} {o : Oper} {a : Act} {Q : Exit → Act → World → Prop} (hgd : o.guard = none) (s x : Operand) (t : TypeId)
    (ho : o.op = .call { callee := .builtin .append, args := #[s, x], argTypes := #[t, t] })
    (base : Nat) (i : TypeInfo) (ht : P.underlying t = some (.slice 3)) (hi : P.info? 3 = some i) (hz : i.zero = some (.int .i64 0))
    (hsize : i.size = 1) (hby : i.bytes = 8)
    (v : Value) (n : Nat) (xs : List Int) (hs : a.eval s = v) (hown : w.ownsRow base 3 1 v n (ivs xs))
    (y : Int) (hx : a.eval x = .slice (some ⟨w0.heap.size, 0, none⟩) 1 1) (hw : w = w0.alloc (.cells #[.int .i64 y] 3))
    (hbytes : n < 1000000) (hbase : base ≤ w.heap.size)
    (h : ∀ v' w', w'.ownsRow base 3 1 v' (n + 1) (ivs (xs ++ [y])) → w.grownBy w' v.ownBlock → (v'.ownBlock = v.ownBlock ∨ v'.ownBlock = some w.heap.size) → wpList P ops Q rest (a.put o.dst v') w') : wpList P ops Q (o :: rest) a w := by
  subst hw
  refine wpList_append_own_at (w := w0.alloc (.cells #[.int .i64 y] 3)) hgd s x t ho base 3 i (.int .i64 0) 1 8 ht hi hz hsize hby rfl (by omega) v n (ivs xs) hs hown ⟨w0.heap.size, 0, none⟩ 1 1 (ivs [y]) hx rfl ?_ (ivs_one _) (by unfold maxLen; omega) (by omega) hbase (fun v' w' h1 h2 _ h4 => h v' w' (by rw [ivs_append]; exact h1) h2 h4)
  exact one_icell w0 y
/-- A fresh list of ints: its row lies from block B on. -/
def Lf (w : World) (B : Nat) (v : Value) (xs : List Int) : Prop := ∃ a n cap, v = .slice a n cap ∧ Ri w a n cap xs ∧ ∀ b off, a = some ⟨b, off, none⟩ → B ≤ b
theorem Lf.li {w : World} {B : Nat} {v : Value} {xs : List Int} (h : Lf w B v xs) : Li w v xs := by
  obtain ⟨a, n, c, h1, h2, _⟩ := h; exact ⟨a, n, c, h1, h2⟩
theorem Lf.mono {w : World} {B B' : Nat} {v : Value} {xs : List Int} (h : Lf w B v xs) (hB : B' ≤ B) : Lf w B' v xs := by
  obtain ⟨a, n, c, h1, h2, h3⟩ := h; exact ⟨a, n, c, h1, h2, fun b off e => Nat.le_trans hB (h3 b off e)⟩
theorem lf_owns {w : World} {B n : Nat} {v : Value} {xs : List Int} (h : w.ownsRow B 3 1 v n (ivs xs)) (hb : n ≤ 140737488355328) : Lf w B v xs := by
  obtain ⟨a, c, rfl, h, h3⟩ := iowns_shape h hb; exact ⟨a, n, c, rfl, h, fun b off e => h3 b off _ e⟩
theorem lf_nil (w : World) (B : Nat) : Lf w B (.slice none 0 0) [] := ⟨_, _, _, rfl, ri_nil w, fun _ _ e => by cases e⟩
theorem Ri.kept {w w' : World} {a : Option Addr} {n cap : Nat} {xs : List Int} (h : Ri w a n cap xs) (hs : w.heap.size ≤ w'.heap.size)
    (hb : ∀ b off, a = some ⟨b, off, none⟩ → b < w.heap.size → w'.heap[b]? = w.heap[b]?) : Ri w' a n cap xs where
  len := h.len
  le := h.le
  big := h.big
  cm := h.cm
  at0 := fun h0 => by
    obtain ⟨b, off, ha, hlt, hc⟩ := h.at0 h0
    exact ⟨b, off, ha, by omega, fun i hi => by rw [World.cell?_of_block (w := w) (hb b off ha hlt)]; exact hc i hi⟩
  nil := h.nil
/-- A list that is read stays as it is where another row grows. -/
theorem Ri.gb {w w' : World} {row : Option Nat} {a : Option Addr} {n cap : Nat} {xs : List Int} (h : Ri w a n cap xs) (hg : w.grownBy w' row)
    (hb : ∀ b off, a = some ⟨b, off, none⟩ → row ≠ some b) : Ri w' a n cap xs :=
  h.kept hg.size fun b off e hlt => hg.block b hlt (hb b off e).symm


def Dr (w w' : World) : Prop := ∃ k, w' = w.drewN k
theorem Dr.refl (w : World) : Dr w w := ⟨0, rfl⟩
theorem Dr.next {w w' : World} (h : Dr w w') (n : Nat) : Dr w (w'.drewN n) := by
  obtain ⟨k, rfl⟩ := h; exact ⟨_, World.drewN_drewN _ _ _⟩
theorem Dr.below {w w' : World} (h : Dr w w') : Below w.heap.size w w' := by
  obtain ⟨k, rfl⟩ := h; exact (Below.refl _ _).grown (gb_drewN w k none) (Nat.le_refl _) (fun j h => by cases h)


/-- A new block of ints is a list. -/
theorem li_new (w : World) (xs : List Int) (h : xs.length ≤ 1000) : Li (w.alloc (.cells (ivs xs).toArray 3)) (.slice (some ⟨w.heap.size, 0, none⟩) xs.length xs.length) xs := by
  refine ⟨_, _, _, rfl, rfl, Nat.le_refl _, by omega, by unfold maxLen; omega, fun _ => ⟨_, _, rfl, by simp, fun i hi => ?_⟩, fun e => by cases e⟩
  rw [World.cell?_alloc_at _ _ _ _ rfl]
  rw [Nat.zero_add]
  simp [ivs, List.getElem?_eq_getElem hi]


end Go.Proofs.YtodcdefmoliegaaGreatDoor
/-
  Contracts: both List.
-/
namespace Go.Proofs.YtodcdefmoliegaaGreatDoor
open Go.RowKit
set_option linter.unusedVariables false
set_option linter.unusedSimpArgs false

/-- The numbers below k that are there, rising. -/
def listL (f : Nat → Bool) (k : Nat) : List Int := ((List.range k).filter f).map fun (i : Nat) => (i : Int)
theorem listL_succ (f : Nat → Bool) (k : Nat) : listL f (k + 1) = if f k then listL f k ++ [(k : Int)] else listL f k := by
  unfold listL
  rw [List.range_succ, List.filter_append]
  by_cases h : f k = true
  · rw [if_pos h, List.filter_cons_of_pos h]; simp
  · rw [if_neg h, List.filter_cons_of_neg h]; simp
theorem listL_le (f : Nat → Bool) (k : Nat) : (listL f k).length ≤ k := by
  unfold listL
  rw [List.length_map]
  have := List.length_filter_le f (List.range k)
  simpa using this
theorem listL_cnt (f : Nat → Bool) : ∀ k, (listL f k).length = bcnt f k
  | 0 => rfl
  | k + 1 => by
    have ih := listL_cnt f k
    rw [listL_succ]
    show _ = bcnt f k + (if f k then 1 else 0)
    by_cases h : f k = true
    · rw [if_pos h, if_pos h, List.length_append, ih]; rfl
    · rw [if_neg h, if_neg h, ih]; rfl
theorem listL_mem (f : Nat → Bool) (k : Nat) (x : Int) : x ∈ listL f k ↔ ∃ i : Nat, i < k ∧ f i = true ∧ x = (i : Int) := by
  unfold listL
  simp only [List.mem_map, List.mem_filter, List.mem_range]
  constructor
  · rintro ⟨i, ⟨h1, h2⟩, rfl⟩; exact ⟨i, h1, h2, rfl⟩
  · rintro ⟨i, h1, h2, rfl⟩; exact ⟨i, ⟨h1, h2⟩, rfl⟩



end Go.Proofs.YtodcdefmoliegaaGreatDoor
/-
  Contracts: both Of.
-/
namespace Go.Proofs.YtodcdefmoliegaaGreatDoor
open Go.RowKit
set_option linter.unusedVariables false
set_option linter.unusedSimpArgs false

/-- The set of the first k numbers. -/
def stA (xs : List Int) : Nat → Nat
  | 0 => 0
  | k + 1 => stA xs k ||| oneA (xs[k]?.getD 0)
def stB (xs : List Int) : Nat → Nat
  | 0 => 0
  | k + 1 => stB xs k ||| oneB (xs[k]?.getD 0)
theorem stA_lt (xs) : ∀ k, stA xs k < 18446744073709551616
  | 0 => by show 0 < _; omega
  | k + 1 => or_lt (stA_lt xs k) (oneA_lt _)
theorem stB_lt (xs) : ∀ k, stB xs k < 18446744073709551616
  | 0 => by show 0 < _; omega
  | k + 1 => or_lt (stB_lt xs k) (oneB_lt _)
def okK (xs : List Int) (k : Nat) : Prop := ∀ i, i < k → 0 ≤ xs[i]?.getD 0 ∧ xs[i]?.getD 0 < 128
instance (xs : List Int) (k : Nat) : Decidable (okK xs k) := by unfold okK; exact Nat.decidableBallLT k _
def ofP (xs : List Int) : (Nat × Nat) × Nat := if okK xs xs.length then ((stA xs xs.length, stB xs xs.length), 0) else ((0, 0), 3)
def ofV (xs : List Int) : Value := .tuple #[setV (ofP xs).1.1 (ofP xs).1.2, .int .i64 ((ofP xs).2 : Int)]

set_option maxRecDepth 20000 in
set_option maxHeartbeats 4000000 in
theorem of_any (v : Value) (xs : List Int) (w : World) (hl : Li w v xs) :
    Calls Tryz.prog 19 #[v] w fun e w' => e = .returned (ofV xs) ∧ Below w.heap.size w w' := by
  obtain ⟨a, n, cap, rfl, hr⟩ := hl
  have hn := hr.len
  have hbig := hr.big
  have hle := hr.le
  have hcm := hr.cm
  have hcc : (cap : Int) ≤ 9223372036854775807 := by unfold maxLen at hcm; omega
  have hlc : (n : Int) ≤ (cap : Int) := by omega
  have bR := (Box2.new w 39 (.int .u64 0) (.int .u64 0)).alloc (.cells #[.int .u64 0, .int .u64 0] 39)
  have bS := Box2.new (w.alloc (.cells #[.int .u64 0, .int .u64 0] 39)) 39 (.int .u64 0) (.int .u64 0)
  have hB0 := below2 w (.cells #[.int .u64 0, .int .u64 0] 39) (.cells #[.int .u64 0, .int .u64 0] 39)
  simp only [World.size_alloc] at bS
  have h1 := fun a b i w ha hb => with_any a b i w ha hb
  have HR := Lib.hid bR
  have HS := Lib.hid bS
  have HB0 := Lib.hid hB0
  have HRI := Lib.hid hr
  have HN := Lib.hid hn
  have H1 := Lib.hid h1
  clear bR bS hB0 hr hn h1 hcm
  go_enter Tryz.func19, Tryz.ntmps19
  go_wp2
  go_loopw [10] (fun i wr => ∃ k : Nat, k ≤ n ∧ okK xs k ∧ i = .int .i64 (k : Int) ∧ Box2 wr w.heap.size 39 (.int .u64 0) (.int .u64 0) ∧ Box2 wr (w.heap.size + 1) 39 (.int .u64 (stA xs k : Int)) (.int .u64 (stB xs k : Int)) ∧ Below w.heap.size w wr) (fun i _ => n - (intOf i).toNat)
  case atStart => exact ⟨0, by omega, fun i hi => by omega, rfl, HR.out, HS.out, HB0.out⟩
  case round =>
    clear HR HS HB0
    obtain ⟨k, hk, hok, rfl, hR, hS, hB⟩ := hrel
    have i2 : (0 : Int) ≤ (k : Int) := by omega
    by_cases hlt : k < n
    · have i1 : (k : Int) < (n : Int) := by omega
      obtain ⟨b, off, rfl, hbl, hc⟩ := HRI.out.at0 (by omega)
      have cx := (hB.cell (p := ⟨b, off + k, none⟩) hbl).trans (hc k hlt)
      have s0 := hS.c0
      have s1 := hS.c1
      obtain ⟨x, hx⟩ : ∃ x, x = xs[k]?.getD 0 := ⟨_, rfl⟩
      rw [← hx] at cx
      have hw := fun w => H1.out (stA xs k) (stB xs k) x w (stA_lt xs k) (stB_lt xs k)
      by_cases hxi : 0 ≤ x ∧ x < 128
      · have hv : withV (stA xs k) (stB xs k) x = .tuple #[setV (stA xs (k + 1)) (stB xs (k + 1)), .int .i64 0] := by
          unfold withV withP
          rw [if_pos hxi]
          show _ = Value.tuple #[setV (stA xs k ||| oneA (xs[k]?.getD 0)) (stB xs k ||| oneB (xs[k]?.getD 0)), .int .i64 0]
          rw [← hx]; rfl
        rw [hv] at hw
        have hok2 : okK xs (k + 1) := fun i hi => by
          by_cases he : i = k
          · subst he; rw [← hx]; exact hxi
          · exact hok i (by omega)
        unfold setV at hw
        have HW := Lib.hid hw
        have HOK := Lib.hid hok2
        have HR := Lib.hid hR
        have HS := Lib.hid hS
        have HB := Lib.hid hB
        clear hw hv hok hok2 hR hS hB hx hxi hc
        generalize stA xs k = p at *
        generalize stB xs k = q at *
        go_wp2_with fail
        refine (HW.out _).mono ?_
        rintro r w5 ⟨rfl, hb5⟩
        have hR5 := HR.out.below hb5 HR.out.lt
        have hS5 := HS.out.below hb5 HS.out.lt
        have hB5 := HB.out.trans (hb5.mono HB.out.size)
        have c0 := hS5.c0
        have c1 := hS5.c1
        have f0 := hS5.f0
        have f1 := hS5.f1
        have HR5 := Lib.hid hR5
        have HS5 := Lib.hid hS5
        have HB5 := Lib.hid hB5
        clear hR5 hS5 hB5 hb5
        go_wp2
        refine ⟨⟨k + 1, by omega, HOK.out, by go_num, (HR5.out.other 0 (by omega) _).other 1 (by omega) _, (HS5.out.set0 _).set1 _, below_set (below_set HB5.out (by omega)) (by omega)⟩, ?_⟩
        simp [intOf]; omega
      · have hv : withV (stA xs k) (stB xs k) x = .tuple #[setV 0 0, .int .i64 3] := by
          unfold withV withP
          rw [if_neg hxi]; rfl
        rw [hv] at hw
        have hres : ofV xs = .tuple #[setV 0 0, .int .i64 3] := by
          unfold ofV ofP
          rw [if_neg (fun h => hxi (by rw [hx]; exact h k (by rw [HN.out]; exact hlt)))]; rfl
        unfold setV at hw hres
        have HW := Lib.hid hw
        have HRES := Lib.hid hres
        have HR := Lib.hid hR
        have HB := Lib.hid hB
        have hSl := hS.lt
        have HS := Lib.hid hS
        clear hw hv hok hR hS hB hx hxi hc hres
        generalize stA xs k = p at *
        generalize stB xs k = q at *
        go_wp2_with fail
        refine (HW.out _).mono ?_
        rintro r w5 ⟨rfl, hb5⟩
        have hR5 := HR.out.below hb5 HR.out.lt
        have hS5 := HS.out.below hb5 HS.out.lt
        have hB5 := HB.out.trans (hb5.mono HB.out.size)
        have c0 := hS5.c0
        have c1 := hS5.c1
        have f0 := hS5.f0
        have f1 := hS5.f1
        have hR6 := (hR5.other (b' := w.heap.size + 1) 0 (by omega) (.int .u64 0)).other (b' := w.heap.size + 1) 1 (by omega) (.int .u64 0)
        have r0 := hR5.c0
        have r1 := hR5.c1
        have g0 := hR5.f0
        have g1 := hR5.f1
        have hR7 := (hR6.set0 (.int .u64 0)).set1 (.int .u64 0)
        have hB6 := below_set (b := w.heap.size + 1) (i := 1) (v := .int .u64 0) (below_set (b := w.heap.size + 1) (i := 0) (v := .int .u64 0) hB5 (by omega)) (by omega)
        have hB7 := below_set (b := w.heap.size) (i := 1) (v := .int .u64 0) (below_set (b := w.heap.size) (i := 0) (v := .int .u64 0) hB6 (by omega)) (by omega)
        have HB7 := Lib.hid hB7
        have HR7 := Lib.hid hR7
        clear hB5 hB6 hB7 hb5 hR5 hS5 hR6 hR7
        go_wp2
        refine bodyPost_ret (by simp [results, Tryz.f19, go_sem, HR7.out.c0, HR7.out.c1]; try rfl) rfl ?_
        exact ⟨by rw [HRES.out]; rfl, HB7.out⟩
    · obtain rfl : k = n := by omega
      have hres : ofV xs = .tuple #[setV (stA xs k) (stB xs k), .int .i64 0] := by
        unfold ofV ofP
        rw [HN.out, if_pos hok]; rfl
      unfold setV at hres
      generalize stA xs k = p at *
      generalize stB xs k = q at *
      have s0 := hS.c0
      have s1 := hS.c1
      have r0 := hR.c0
      have r1 := hR.c1
      have g0 := hR.f0
      have g1 := hR.f1
      have hR7 := (hR.set0 (.int .u64 (p : Int))).set1 (.int .u64 (q : Int))
      have hB7 := below_set (b := w.heap.size) (i := 1) (v := .int .u64 (q : Int)) (below_set (b := w.heap.size) (i := 0) (v := .int .u64 (p : Int)) hB (by omega)) (by omega)
      have HRES := Lib.hid hres
      have HB7 := Lib.hid hB7
      have HR7 := Lib.hid hR7
      clear hres hB hB7 hR hR7 hS hok
      go_wp2
      refine bodyPost_ret (by simp [results, Tryz.f19, go_sem, HR7.out.c0, HR7.out.c1]; try rfl) rfl ?_
      exact ⟨by rw [HRES.out], HB7.out⟩
end Go.Proofs.YtodcdefmoliegaaGreatDoor

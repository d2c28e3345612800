/-
  Contracts: the program's Without, Has, With; sets compared.
-/
import Derived.Test.YtodcdefmoliegaaI1
namespace Go.Proofs.Ytodcdefmoliegaa
open Go.RowKit
set_option linter.unusedVariables false
set_option linter.unusedSimpArgs false

theorem eqin_set (a b c d : Int) (w : World) : (Op.equalIn 10000 27 (.agg #[.int .u64 a, .int .u64 b]) (.agg #[.int .u64 c, .int .u64 d])).run Try.prog w = .ok (a == c && b == d) w := by
  have u3 := Try.underlying22
  have a3 := Try.isAgg22
  have z3 := Try.sizeOf22
  rw [show (10000 : Nat) = 9999 + 1 from rfl, Op.equalIn]
  simp only [Sem.run_bind, run_underlying Try.underlying27, Result.andThen_ok]
  simp only [Std.Legacy.Range.forIn_eq_forIn_range', Std.Legacy.Range.size, Nat.sub_zero, Nat.add_sub_cancel, Nat.div_one, List.range'_succ, List.range'_zero, List.forIn_cons, List.forIn_nil]
  go_simp
  by_cases h1 : a = c <;> by_cases h2 : b = d <;> simp [h1, h2]
theorem eql_set (a b c d : Nat) (w : World) : (binOp .eql 27 (setV a b) (setV c d)).run Try.prog w = .ok (.bool (decide (a = c ∧ b = d))) w := by
  unfold setV
  rw [run_eql_struct, eqin_set]
  by_cases h1 : a = c <;> by_cases h2 : b = d <;> simp [h1, h2, Result.andThen]
  all_goals first | omega | (intro h; exact absurd (by omega) h1) | (intro h; exact absurd (by omega) h2) | skip
theorem neq_set (a b c d : Nat) (w : World) : (binOp .neq 27 (setV a b) (setV c d)).run Try.prog w = .ok (.bool (!decide (a = c ∧ b = d))) w := by
  unfold setV
  rw [run_neq_struct, eqin_set]
  by_cases h1 : a = c <;> by_cases h2 : b = d <;> simp [h1, h2, Result.andThen]
  all_goals first | omega | (intro h; exact absurd (by omega) h1) | (intro h; exact absurd (by omega) h2) | skip
theorem guard_set (op : BinOp) (x y : Operand) (a b c d : Nat) (w : World) : Sem.run Try.prog (eqGuard op 27 x y (setV a b) (setV c d)) w = .ok () w := by
  unfold eqGuard setV
  cases op <;> simp [go_sem]
theorem eqin_rset (a b c d : Int) (w : World) : (Op.equalIn 10000 24 (.agg #[.int .u64 a, .int .u64 b]) (.agg #[.int .u64 c, .int .u64 d])).run Try.prog w = .ok (a == c && b == d) w := by
  have u3 := Try.underlying22
  have a3 := Try.isAgg22
  have z3 := Try.sizeOf22
  rw [show (10000 : Nat) = 9999 + 1 from rfl, Op.equalIn]
  simp only [Sem.run_bind, run_underlying Try.underlying24, Result.andThen_ok]
  simp only [Std.Legacy.Range.forIn_eq_forIn_range', Std.Legacy.Range.size, Nat.sub_zero, Nat.add_sub_cancel, Nat.div_one, List.range'_succ, List.range'_zero, List.forIn_cons, List.forIn_nil]
  go_simp
  by_cases h1 : a = c <;> by_cases h2 : b = d <;> simp [h1, h2]
theorem eql_rset (a b c d : Nat) (w : World) : (binOp .eql 24 (setV a b) (setV c d)).run Try.prog w = .ok (.bool (decide (a = c ∧ b = d))) w := by
  unfold setV
  rw [run_eql_struct, eqin_rset]
  by_cases h1 : a = c <;> by_cases h2 : b = d <;> simp [h1, h2, Result.andThen]
  all_goals first | omega | (intro h; exact absurd (by omega) h1) | (intro h; exact absurd (by omega) h2) | skip
theorem neq_rset (a b c d : Nat) (w : World) : (binOp .neq 24 (setV a b) (setV c d)).run Try.prog w = .ok (.bool (!decide (a = c ∧ b = d))) w := by
  unfold setV
  rw [run_neq_struct, eqin_rset]
  by_cases h1 : a = c <;> by_cases h2 : b = d <;> simp [h1, h2, Result.andThen]
  all_goals first | omega | (intro h; exact absurd (by omega) h1) | (intro h; exact absurd (by omega) h2) | skip
theorem guard_rset (op : BinOp) (x y : Operand) (a b c d : Nat) (w : World) : Sem.run Try.prog (eqGuard op 24 x y (setV a b) (setV c d)) w = .ok () w := by
  unfold eqGuard setV
  cases op <;> simp [go_sem]


theorem minus_same (a b : Nat) (i : Int) (ha : a < 18446744073709551616) (hb : b < 18446744073709551616) : ((a &&& (18446744073709551615 - oneA i)) = a ∧ (b &&& (18446744073709551615 - oneB i)) = b) ↔ ¬ (0 ≤ i ∧ i < 128 ∧ bitp a b i.toNat = true) := by
  have hm := fun k hk => minus_bit a b (oneA i) (oneB i) k hk (oneA_lt i) (oneB_lt i)
  constructor
  · rintro ⟨h1, h2⟩ ⟨h3, h4, h5⟩
    have := hm i.toNat (by omega)
    rw [h1, h2, h5, one_bit i _ (by omega)] at this
    have e : ((i.toNat : Nat) : Int) = i := by omega
    rw [e] at this
    simp at this
  · intro h
    have e : ∀ k, k < 128 → bitp (a &&& (18446744073709551615 - oneA i)) (b &&& (18446744073709551615 - oneB i)) k = bitp a b k := fun k hk => by
      rw [hm k hk, one_bit i k hk]
      by_cases he : (k : Int) = i
      · have hb0 : bitp a b k = false := by
          by_cases hf : bitp a b k = true
          · exact absurd ⟨by omega, by omega, by rw [← he]; exact hf⟩ h
          · simpa using hf
        rw [hb0]; rfl
      · simp [he]
    have h1 := set_of (and_lt _ ha) (and_lt _ hb) e
    have h2 := set_of ha hb (fun k _ => (rfl : bitp a b k = bitp a b k))
    exact ⟨h1.1.symm.trans h2.1, h1.2.symm.trans h2.2⟩

/-- Whether i is there, for any i. -/
def hasI (a b : Nat) (i : Int) : Bool := decide (0 ≤ i ∧ i < 128) && bitp a b i.toNat


def withP (a b : Nat) (i : Int) : (Nat × Nat) × Nat := if 0 ≤ i ∧ i < 128 then ((a ||| oneA i, b ||| oneB i), 0) else ((0, 0), 3)
def withV (a b : Nat) (i : Int) : Value := .tuple #[setV (withP a b i).1.1 (withP a b i).1.2, .int .i64 ((withP a b i).2 : Int)]

set_option maxRecDepth 20000 in
set_option maxHeartbeats 2000000 in
theorem with_any (a b : Nat) (i : Int) (w : World) (ha : a < 18446744073709551616) (hb : b < 18446744073709551616) :
    Calls Try.prog 15 #[setV a b, .int .i64 i] w fun e w' => e = .returned (withV a b i) ∧ Below w.heap.size w w' := by
  have h1 := fun w => single_any i w
  have h2 := fun w => or_any a b (oneA i) (oneB i) w ha hb (oneA_lt i) (oneB_lt i)
  have hq := eql_set (oneA i) (oneB i) 0 0
  have hg := fun op x y => guard_set op x y (oneA i) (oneB i) 0 0
  have bS := (Box2.new w 27 (.int .u64 (a : Int)) (.int .u64 (b : Int))).alloc (.cells #[.int .u64 0, .int .u64 0] 27)
  have bR := Box2.new (w.alloc (.cells #[.int .u64 (a : Int), .int .u64 (b : Int)] 27)) 27 (.int .u64 0) (.int .u64 0)
  have hB0 := below2 w (.cells #[.int .u64 (a : Int), .int .u64 (b : Int)] 27) (.cells #[.int .u64 0, .int .u64 0] 27)
  simp only [World.size_alloc] at bR
  by_cases hi : 0 ≤ i ∧ i < 128
  · have hv : withV a b i = .tuple #[setV (a ||| oneA i) (b ||| oneB i), .int .i64 0] := by unfold withV withP; rw [if_pos hi]; rfl
    have hd : decide (oneA i = 0 ∧ oneB i = 0) = false := decide_eq_false fun h => (one_none i).1 h hi
    rw [hd] at hq
    rw [hv]
    generalize (a ||| oneA i) = x at *
    generalize (b ||| oneB i) = y at *
    clear hv hd
    generalize oneA i = oa at *
    generalize oneB i = ob at *
    unfold setV at *
    have hq2 : ∀ w, (binOp .eql 27 (.agg #[.int .u64 (oa : Int), .int .u64 (ob : Int)]) (.agg #[.int .u64 0, .int .u64 0])).run Try.prog w = .ok (.bool false) w := hq
    have hg2 : ∀ op x y w, Sem.run Try.prog (eqGuard op 27 x y (.agg #[.int .u64 (oa : Int), .int .u64 (ob : Int)]) (.agg #[.int .u64 0, .int .u64 0])) w = .ok () w := hg
    have H1 := Lib.hid h1
    have H2 := Lib.hid h2
    clear h1 h2 ha hb hi hq hg
    go_enter Try.func15, Try.ntmps15
    go_wp2_with fail
    generalize (w.alloc (.cells #[.int .u64 (a : Int), .int .u64 (b : Int)] 27)).alloc (.cells #[.int .u64 0, .int .u64 0] 27) = W0 at *
    refine (H1.out _).mono ?_
    rintro r w5 ⟨rfl, hb5⟩
    have cS := bS.below hb5 bS.lt
    have cR := bR.below hb5 bR.lt
    have hB5 := hB0.trans (hb5.mono hB0.size)
    clear hb5 bS bR hB0
    have dS := cS.alloc (.cells #[.int .u64 (oa : Int), .int .u64 (ob : Int)] 27)
    have dR := cR.alloc (.cells #[.int .u64 (oa : Int), .int .u64 (ob : Int)] 27)
    have dO := Box2.new w5 27 (.int .u64 (oa : Int)) (.int .u64 (ob : Int))
    have hB6 : Below w.heap.size w (w5.alloc (.cells #[.int .u64 (oa : Int), .int .u64 (ob : Int)] 27)) := hB5.alloc hB5.size _
    have hz : w.heap.size + 2 ≤ w5.heap.size := cR.lt
    have s0 := dS.c0
    have s1 := dS.c1
    clear cS cR hB5
    go_wp2_with fail
    generalize w5.alloc (.cells #[.int .u64 (oa : Int), .int .u64 (ob : Int)] 27) = W6 at *
    refine (H2.out _).mono ?_
    rintro r w7 ⟨rfl, hb7⟩
    have eR := dR.below hb7 dR.lt
    have hB7 := hB6.trans (hb7.mono hB6.size)
    have f0 := eR.f0
    have f1 := eR.f1
    have c0 := eR.c0
    have c1 := eR.c1
    clear hb7
    have hR2 := (eR.set0 (.int .u64 (x : Int))).set1 (.int .u64 (y : Int))
    have hB8 := below_set (b := w.heap.size + 1) (i := 1) (v := .int .u64 (y : Int)) (below_set (b := w.heap.size + 1) (i := 0) (v := .int .u64 (x : Int)) hB7 (by omega)) (by omega)
    go_wp2
    refine bodyPost_ret (by simp [results, Try.f15, go_sem, hR2.c0, hR2.c1]; try rfl) rfl ?_
    exact ⟨rfl, hB8⟩
  · have hv : withV a b i = .tuple #[setV 0 0, .int .i64 3] := by unfold withV withP; rw [if_neg hi]; rfl
    have hd : decide (oneA i = 0 ∧ oneB i = 0) = true := decide_eq_true ((one_none i).2 hi)
    rw [hd] at hq
    rw [hv]
    clear hv hd h2
    generalize oneA i = oa at *
    generalize oneB i = ob at *
    unfold setV at *
    have hq2 : ∀ w, (binOp .eql 27 (.agg #[.int .u64 (oa : Int), .int .u64 (ob : Int)]) (.agg #[.int .u64 0, .int .u64 0])).run Try.prog w = .ok (.bool true) w := hq
    have hg2 : ∀ op x y w, Sem.run Try.prog (eqGuard op 27 x y (.agg #[.int .u64 (oa : Int), .int .u64 (ob : Int)]) (.agg #[.int .u64 0, .int .u64 0])) w = .ok () w := hg
    have H1 := Lib.hid h1
    clear h1 ha hb hi hq hg
    go_enter Try.func15, Try.ntmps15
    go_wp2_with fail
    generalize (w.alloc (.cells #[.int .u64 (a : Int), .int .u64 (b : Int)] 27)).alloc (.cells #[.int .u64 0, .int .u64 0] 27) = W0 at *
    refine (H1.out _).mono ?_
    rintro r w5 ⟨rfl, hb5⟩
    have cR := bR.below hb5 bR.lt
    have hB5 := hB0.trans (hb5.mono hB0.size)
    clear hb5 bS bR hB0
    have dR := cR.alloc (.cells #[.int .u64 (oa : Int), .int .u64 (ob : Int)] 27)
    have dO := Box2.new w5 27 (.int .u64 (oa : Int)) (.int .u64 (ob : Int))
    have hB6 : Below w.heap.size w (w5.alloc (.cells #[.int .u64 (oa : Int), .int .u64 (ob : Int)] 27)) := hB5.alloc hB5.size _
    have hz : w.heap.size + 2 ≤ w5.heap.size := cR.lt
    clear cR hB5
    have f0 := dR.f0
    have f1 := dR.f1
    have c0 := dR.c0
    have c1 := dR.c1
    have hR2 := (dR.set0 (.int .u64 0)).set1 (.int .u64 0)
    have hB8 := below_set (b := w.heap.size + 1) (i := 1) (v := .int .u64 0) (below_set (b := w.heap.size + 1) (i := 0) (v := .int .u64 0) hB6 (by omega)) (by omega)
    go_wp2
    refine bodyPost_ret (by simp [results, Try.f15, go_sem, hR2.c0, hR2.c1]; try rfl) rfl ?_
    exact ⟨rfl, hB8⟩
end Go.Proofs.Ytodcdefmoliegaa


/-
  Texts put together: J0, J1.
-/
import Derived.Test.YtodcdefmoliegaaGreatDoorMI0
import Derived.Laws.StructEq
/-
  Maps as values; contracts: given, taken, Freeze, Close.
-/
namespace Go.Proofs.YtodcdefmoliegaaGreatDoor
open Go.RowKit
set_option linter.unusedVariables false
set_option linter.unusedSimpArgs false

/-- A map: its two sets and its epoch. -/
def mapV (a b c d e : Nat) : Value := .agg #[.int .u64 (a : Int), .int .u64 (b : Int), .int .u64 (c : Int), .int .u64 (d : Int), .int .u64 (e : Int)]

/-- A box of five cells. -/
def Box5 (W : World) (p : Nat) (t : TypeId) (a b c d e : Value) : Prop := W.heap[p]? = some (.cells #[a, b, c, d, e] t (0, 0))
theorem Box5.c0 {W p t a b c d e} (h : Box5 W p t a b c d e) : W.cell? ⟨p, 0, none⟩ = some a := by rw [cell_of_blk h]; rfl
theorem Box5.c1 {W p t a b c d e} (h : Box5 W p t a b c d e) : W.cell? ⟨p, 1, none⟩ = some b := by rw [cell_of_blk h]; rfl
theorem Box5.c2 {W p t a b c d e} (h : Box5 W p t a b c d e) : W.cell? ⟨p, 2, none⟩ = some c := by rw [cell_of_blk h]; rfl
theorem Box5.c3 {W p t a b c d e} (h : Box5 W p t a b c d e) : W.cell? ⟨p, 3, none⟩ = some d := by rw [cell_of_blk h]; rfl
theorem Box5.c4 {W p t a b c d e} (h : Box5 W p t a b c d e) : W.cell? ⟨p, 4, none⟩ = some e := by rw [cell_of_blk h]; rfl
theorem Box5.fr {W p t a b c d e} (h : Box5 W p t a b c d e) (i : Nat) : W.frozen? ⟨p, i, none⟩ = false := free_of_blk h i
theorem Box5.lt {W p t a b c d e} (h : Box5 W p t a b c d e) : p < W.heap.size := lt_of_block h
theorem Box5.new (W : World) (t : TypeId) (a b c d e : Value) : Box5 (W.alloc (.cells #[a, b, c, d, e] t)) W.heap.size t a b c d e := heap_alloc_new W _
theorem Box5.alloc {W p t a b c d e} (h : Box5 W p t a b c d e) (o : Obj) : Box5 (W.alloc o) p t a b c d e := (Below.heap_alloc _ _ _ h.lt).trans h
theorem Box5.below {W W' p t a b c d e n} (h : Box5 W p t a b c d e) (hb : Below n W W') (hl : p < n) : Box5 W' p t a b c d e := (hb.block p hl).trans h
theorem Box5.set {W p t a b c d e} (h : Box5 W p t a b c d e) (a' b' c' d' e' : Value) :
    Box5 (((((W.setCell ⟨p, 0, none⟩ a').setCell ⟨p, 1, none⟩ b').setCell ⟨p, 2, none⟩ c').setCell ⟨p, 3, none⟩ d').setCell ⟨p, 4, none⟩ e') p t a' b' c' d' e' :=
  blk_setCell (i := 4) (blk_setCell (i := 3) (blk_setCell (i := 2) (blk_setCell (i := 1) (blk_setCell (i := 0) h))))
theorem Box5.set01 {W p t a b c d e} (h : Box5 W p t a b c d e) (a' b' : Value) :
    Box5 ((W.setCell ⟨p, 0, none⟩ a').setCell ⟨p, 1, none⟩ b') p t a' b' c d e :=
  blk_setCell (i := 1) (blk_setCell (i := 0) h)
theorem below5 {W W' : World} {n p : Nat} {a b c d e : Value} (h : Below n W W') (hl : n ≤ p) :
    Below n W (((((W'.setCell ⟨p, 0, none⟩ a).setCell ⟨p, 1, none⟩ b).setCell ⟨p, 2, none⟩ c).setCell ⟨p, 3, none⟩ d).setCell ⟨p, 4, none⟩ e) :=
  below_set (below_set (below_set (below_set (below_set h hl) hl) hl) hl) hl

set_option maxRecDepth 20000 in
set_option maxHeartbeats 1000000 in
theorem given_any (a b c d e : Nat) (w : World) :
    Calls Tryz.prog 14 #[mapV a b c d e] w fun x w' => x = .returned (mapV a b c d e) ∧ Below w.heap.size w w' := by
  unfold mapV
  go_enter Tryz.func14, Tryz.ntmps14
  go_wp2
  refine bodyPost_ret (by simp [results, Tryz.f14, go_sem]; try rfl) rfl ?_
  exact ⟨rfl, below2 _ _ _⟩

set_option maxRecDepth 20000 in
set_option maxHeartbeats 1000000 in
theorem taken_any (a b c d e : Nat) (w : World) :
    Calls Tryz.prog 16 #[mapV a b c d e] w fun x w' => x = .returned (mapV a b c d e) ∧ Below w.heap.size w w' := by
  unfold mapV
  go_enter Tryz.func16, Tryz.ntmps16
  go_wp2
  refine bodyPost_ret (by simp [results, Tryz.f16, go_sem]; try rfl) rfl ?_
  exact ⟨rfl, below2 _ _ _⟩

set_option maxRecDepth 20000 in
set_option maxHeartbeats 1000000 in
theorem freeze_any (a b c d e i : Nat) (w : World) :
    Calls Tryz.prog 18 #[mapV a b c d e, .int .u64 (i : Int)] w fun x w' => x = .returned (mapV 0 0 a b i) ∧ Below w.heap.size w w' := by
  unfold mapV
  go_enter Tryz.func18, Tryz.ntmps18
  go_wp2
  refine bodyPost_ret (by simp [results, Tryz.f18, go_sem]; try rfl) rfl ?_
  exact ⟨rfl, below2 _ _ _⟩

set_option maxRecDepth 20000 in
set_option maxHeartbeats 1000000 in
theorem close_any (a b c d e : Nat) (w : World) :
    Calls Tryz.prog 21 #[mapV a b c d e] w fun x w' => x = .returned (mapV a b 0 0 0) ∧ Below w.heap.size w w' := by
  unfold mapV
  go_enter Tryz.func21, Tryz.ntmps21
  go_wp2
  refine bodyPost_ret (by simp [results, Tryz.f21, go_sem]; try rfl) rfl ?_
  exact ⟨rfl, below2 _ _ _⟩



set_option maxRecDepth 20000 in
set_option maxHeartbeats 1000000 in
theorem merge_any (a b c d e : Nat) (w : World) (ha : a < 18446744073709551616) (hb : b < 18446744073709551616) (hc : c < 18446744073709551616) (hd : d < 18446744073709551616) :
    Calls Tryz.prog 20 #[mapV a b c d e] w fun x w' => x = .returned (mapV (a ||| c) (b ||| d) 0 0 0) ∧ Below w.heap.size w w' := by
  have h1 := fun w => or_any a b c d w ha hb hc hd
  generalize (a ||| c) = x at *
  generalize (b ||| d) = y at *
  unfold mapV setV at *
  have hB0 := below2 w (.cells #[.int .u64 (a : Int), .int .u64 (b : Int), .int .u64 (c : Int), .int .u64 (d : Int), .int .u64 (e : Int)] 41) (.cells #[.int .u64 0, .int .u64 0, .int .u64 0, .int .u64 0, .int .u64 0] 41)
  have bR := Box5.new (w.alloc (.cells #[.int .u64 (a : Int), .int .u64 (b : Int), .int .u64 (c : Int), .int .u64 (d : Int), .int .u64 (e : Int)] 41)) 41 (.int .u64 0) (.int .u64 0) (.int .u64 0) (.int .u64 0) (.int .u64 0)
  simp only [World.size_alloc] at bR
  have H1 := Lib.hid h1
  have HB0 := Lib.hid hB0
  have HR := Lib.hid bR
  clear h1 ha hb hc hd hB0 bR
  go_enter Tryz.func20, Tryz.ntmps20
  go_wp2_with fail
  refine (H1.out _).mono ?_
  rintro r w5 ⟨rfl, hb5⟩
  have b5 := HR.out.below hb5 HR.out.lt
  have hB5 := HB0.out.trans (hb5.mono HB0.out.size)
  have c0 := b5.c0
  have c1 := b5.c1
  have c2 := b5.c2
  have c3 := b5.c3
  have c4 := b5.c4
  have f0 := b5.fr 0
  have f1 := b5.fr 1
  have f2 := b5.fr 2
  have f3 := b5.fr 3
  have f4 := b5.fr 4
  have HB5 := Lib.hid hB5
  have HX5 := Lib.hid b5
  clear hb5 b5 hB5
  go_wp2
  have b6 := HX5.out.set (.int .u64 (x : Int)) (.int .u64 (y : Int)) (.int .u64 0) (.int .u64 0) (.int .u64 0)
  refine bodyPost_ret (by simp [results, Tryz.f20, go_sem, b6.c0, b6.c1, b6.c2, b6.c3, b6.c4]; try rfl) rfl ?_
  exact ⟨rfl, below5 HB5.out (by omega)⟩


end Go.Proofs.YtodcdefmoliegaaGreatDoor
/-
  Contracts: Mark; maps compared.
-/
namespace Go.Proofs.YtodcdefmoliegaaGreatDoor
open Go.RowKit
set_option linter.unusedVariables false
set_option linter.unusedSimpArgs false

def markP (a b c d e : Nat) (i : Int) : Value × Nat := if 0 ≤ i ∧ i < 128 then (mapV (a ||| oneA i) (b ||| oneB i) c d e, 0) else (mapV 0 0 0 0 0, 3)
def markV (a b c d e : Nat) (i : Int) : Value := .tuple #[(markP a b c d e i).1, .int .i64 ((markP a b c d e i).2 : Int)]

set_option maxRecDepth 20000 in
set_option maxHeartbeats 1000000 in
theorem mark_any (a b c d e : Nat) (i : Int) (w : World) (ha : a < 18446744073709551616) (hb : b < 18446744073709551616) :
    Calls Tryz.prog 17 #[mapV a b c d e, .int .i64 i] w fun x w' => x = .returned (markV a b c d e i) ∧ Below w.heap.size w w' := by
  have h1 := fun w => with_any a b i w ha hb
  have bM := (Box5.new w 41 (.int .u64 (a : Int)) (.int .u64 (b : Int)) (.int .u64 (c : Int)) (.int .u64 (d : Int)) (.int .u64 (e : Int))).alloc (.cells #[.int .u64 0, .int .u64 0, .int .u64 0, .int .u64 0, .int .u64 0] 41)
  have bR := Box5.new (w.alloc (.cells #[.int .u64 (a : Int), .int .u64 (b : Int), .int .u64 (c : Int), .int .u64 (d : Int), .int .u64 (e : Int)] 41)) 41 (.int .u64 0) (.int .u64 0) (.int .u64 0) (.int .u64 0) (.int .u64 0)
  have hB0 := below2 w (.cells #[.int .u64 (a : Int), .int .u64 (b : Int), .int .u64 (c : Int), .int .u64 (d : Int), .int .u64 (e : Int)] 41) (.cells #[.int .u64 0, .int .u64 0, .int .u64 0, .int .u64 0, .int .u64 0] 41)
  simp only [World.size_alloc] at bR
  by_cases hi : 0 ≤ i ∧ i < 128
  · have hv : withV a b i = .tuple #[setV (a ||| oneA i) (b ||| oneB i), .int .i64 0] := by unfold withV withP; rw [if_pos hi]; rfl
    have hm : markV a b c d e i = .tuple #[mapV (a ||| oneA i) (b ||| oneB i) c d e, .int .i64 0] := by unfold markV markP; rw [if_pos hi]; rfl
    rw [hm]
    simp only [hv] at h1
    generalize (a ||| oneA i) = x at *
    generalize (b ||| oneB i) = y at *
    clear hv hm hi ha hb
    unfold mapV setV at *
    have H1 := Lib.hid h1
    have HM := Lib.hid bM
    have HR := Lib.hid bR
    have HB0 := Lib.hid hB0
    clear h1 bM bR hB0
    go_enter Tryz.func17, Tryz.ntmps17
    go_wp2_with fail
    refine (H1.out _).mono ?_
    rintro r w5 ⟨rfl, hb5⟩
    have m5 := (HM.out.below hb5 HM.out.lt).alloc (.cells #[.int .u64 (x : Int), .int .u64 (y : Int)] 39)
    have r5 := (HR.out.below hb5 HR.out.lt).alloc (.cells #[.int .u64 (x : Int), .int .u64 (y : Int)] 39)
    have s5 := Box2.new w5 39 (.int .u64 (x : Int)) (.int .u64 (y : Int))
    have hB5 : Below w.heap.size w (w5.alloc (.cells #[.int .u64 (x : Int), .int .u64 (y : Int)] 39)) := (HB0.out.trans (hb5.mono HB0.out.size)).alloc (HB0.out.trans (hb5.mono HB0.out.size)).size _
    have hz1 : w.heap.size + 1 < w5.heap.size := (HR.out.below hb5 HR.out.lt).lt
    clear hb5
    obtain ⟨q, hq⟩ : ∃ q, q = w5.heap.size := ⟨_, rfl⟩
    rw [← hq] at s5 hz1
    have m0 := m5.c0
    have m1 := m5.c1
    have m2 := m5.c2
    have m3 := m5.c3
    have m4 := m5.c4
    have mf0 := m5.fr 0
    have mf1 := m5.fr 1
    have r0 := r5.c0
    have r1 := r5.c1
    have r2 := r5.c2
    have r3 := r5.c3
    have r4 := r5.c4
    have f0 := r5.fr 0
    have f1 := r5.fr 1
    have f2 := r5.fr 2
    have f3 := r5.fr 3
    have f4 := r5.fr 4
    have s0 := s5.c0
    have s1 := s5.c1
    have HB5 := Lib.hid hB5
    have MX := Lib.hid m5
    have RX := Lib.hid r5
    clear m5 r5 s5 hB5
    go_wp2_with fail
    rw [← hq]
    clear hq
    generalize w5.alloc (.cells #[.int .u64 (x : Int), .int .u64 (y : Int)] 39) = W5 at *
    have hq1 : q ≠ w.heap.size := by omega
    have hq2 : q ≠ w.heap.size + 1 := by omega
    go_wp2
    have m6 := MX.out.set01 (.int .u64 (x : Int)) (.int .u64 (y : Int))
    have r6 : Box5 ((W5.setCell ⟨w.heap.size, 0, none⟩ (.int .u64 (x : Int))).setCell ⟨w.heap.size, 1, none⟩ (.int .u64 (y : Int))) (w.heap.size + 1) 41 (.int .u64 0) (.int .u64 0) (.int .u64 0) (.int .u64 0) (.int .u64 0) := by
      refine Eq.trans ?_ (show W5.heap[w.heap.size + 1]? = _ from RX.out)
      simp [World.setCell, Array.getElem?_modify]
    have b6 := r6.set (.int .u64 (x : Int)) (.int .u64 (y : Int)) (.int .u64 (c : Int)) (.int .u64 (d : Int)) (.int .u64 (e : Int))
    have hfin := below5 (p := w.heap.size + 1) (a := .int .u64 (x : Int)) (b := .int .u64 (y : Int)) (c := .int .u64 (c : Int)) (d := .int .u64 (d : Int)) (e := .int .u64 (e : Int)) (below_set (b := w.heap.size) (i := 1) (v := .int .u64 (y : Int)) (below_set (b := w.heap.size) (i := 0) (v := .int .u64 (x : Int)) HB5.out (Nat.le_refl _)) (Nat.le_refl _)) (by omega : w.heap.size ≤ w.heap.size + 1)
    refine bodyPost_ret (by simp [results, Tryz.f17, go_sem, b6.c0, b6.c1, b6.c2, b6.c3, b6.c4]; try rfl) rfl ?_
    exact ⟨rfl, hfin⟩
  · have hv : withV a b i = .tuple #[setV 0 0, .int .i64 3] := by unfold withV withP; rw [if_neg hi]; rfl
    have hm : markV a b c d e i = .tuple #[mapV 0 0 0 0 0, .int .i64 3] := by unfold markV markP; rw [if_neg hi]; rfl
    rw [hm]
    simp only [hv] at h1
    clear hv hm hi ha hb
    unfold mapV setV at *
    have H1 := Lib.hid h1
    have HM := Lib.hid bM
    have HR := Lib.hid bR
    have HB0 := Lib.hid hB0
    clear h1 bM bR hB0
    go_enter Tryz.func17, Tryz.ntmps17
    go_wp2_with fail
    refine (H1.out _).mono ?_
    rintro r w5 ⟨rfl, hb5⟩
    have r5 := (HR.out.below hb5 HR.out.lt).alloc (.cells #[.int .u64 0, .int .u64 0] 39)
    have hB5 : Below w.heap.size w (w5.alloc (.cells #[.int .u64 0, .int .u64 0] 39)) := (HB0.out.trans (hb5.mono HB0.out.size)).alloc (HB0.out.trans (hb5.mono HB0.out.size)).size _
    clear hb5
    have r0 := r5.c0
    have r1 := r5.c1
    have r2 := r5.c2
    have r3 := r5.c3
    have r4 := r5.c4
    have f0 := r5.fr 0
    have f1 := r5.fr 1
    have f2 := r5.fr 2
    have f3 := r5.fr 3
    have f4 := r5.fr 4
    have HB5 := Lib.hid hB5
    have RX := Lib.hid r5
    clear r5 hB5
    go_wp2
    have b6 := RX.out.set (.int .u64 0) (.int .u64 0) (.int .u64 0) (.int .u64 0) (.int .u64 0)
    have hfin := below5 (p := w.heap.size + 1) (a := .int .u64 0) (b := .int .u64 0) (c := .int .u64 0) (d := .int .u64 0) (e := .int .u64 0) HB5.out (by omega : w.heap.size ≤ w.heap.size + 1)
    refine bodyPost_ret (by simp [results, Tryz.f17, go_sem, b6.c0, b6.c1, b6.c2, b6.c3, b6.c4]; try rfl) rfl ?_
    exact ⟨rfl, hfin⟩


theorem eqat_set (n : Nat) (a b c d : Int) (w : World) : (Op.equalIn (n + 1 + 1) 39 (.agg #[.int .u64 a, .int .u64 b]) (.agg #[.int .u64 c, .int .u64 d])).run Tryz.prog w = .ok (a == c && b == d) w := by
  have u3 := Tryz.underlying22
  have a3 := Tryz.isAgg22
  have z3 := Tryz.sizeOf22
  rw [Op.equalIn]
  simp only [Sem.run_bind, run_underlying Tryz.underlying39, Result.andThen_ok]
  simp only [Std.Legacy.Range.forIn_eq_forIn_range', Std.Legacy.Range.size, Nat.sub_zero, Nat.add_sub_cancel, Nat.div_one, List.range'_succ, List.range'_zero, List.forIn_cons, List.forIn_nil]
  go_simp
  by_cases h1 : a = c <;> by_cases h2 : b = d <;> simp [h1, h2]
theorem eqin_map (a b c d e a' b' c' d' e' : Int) (w : World) : (Op.equalIn 10000 41 (.agg #[.int .u64 a, .int .u64 b, .int .u64 c, .int .u64 d, .int .u64 e]) (.agg #[.int .u64 a', .int .u64 b', .int .u64 c', .int .u64 d', .int .u64 e'])).run Tryz.prog w = .ok ((a == a' && b == b') && ((c == c' && d == d') && e == e')) w := by
  have u3 := Tryz.underlying22
  have a3 := Tryz.isAgg22
  have z3 := Tryz.sizeOf22
  have a4 := Tryz.isAgg39
  have z4 := Tryz.sizeOf39
  have q := fun (a b c d : Int) (w : World) => eqat_set 9997 a b c d w
  simp only [show 9997 + 1 + 1 = 9999 from rfl] at q
  have hS : Tryz.prog.underlying 41 = some (.struct (Tryz.prog.fieldsOf 41)) := by kernel_rfl
  have hp : Tryz.prog.stoodInHeld 41 = false := by kernel_rfl
  rw [show (10000 : Nat) = 9999 + 1 from rfl, run_equalIn_agg w 9999 41 _ _ hS hp]
  simp only [Program.fieldsOf, Tryz.underlying41]
  go_simp
  by_cases h1 : a = a' <;> by_cases h2 : b = b' <;> by_cases h3 : c = c' <;> by_cases h4 : d = d' <;> by_cases h5 : e = e' <;> simp [h1, h2, h3, h4, h5]
theorem eql_map (a b c d e a' b' c' d' e' : Nat) (w : World) : (binOp .eql 41 (mapV a b c d e) (mapV a' b' c' d' e')).run Tryz.prog w = .ok (.bool (decide ((a = a' ∧ b = b') ∧ (c = c' ∧ d = d') ∧ e = e'))) w := by
  unfold mapV
  rw [run_eql_struct, eqin_map]
  by_cases h1 : a = a' <;> by_cases h2 : b = b' <;> by_cases h3 : c = c' <;> by_cases h4 : d = d' <;> by_cases h5 : e = e' <;> simp [h1, h2, h3, h4, h5, Result.andThen]
  all_goals omega
theorem guard_map (op : BinOp) (x y : Operand) (a b c d e a' b' c' d' e' : Nat) (w : World) : Sem.run Tryz.prog (eqGuard op 41 x y (mapV a b c d e) (mapV a' b' c' d' e')) w = .ok () w := by
  unfold eqGuard mapV
  cases op <;> simp [go_sem]

theorem eqat_rset (n : Nat) (a b c d : Int) (w : World) : (Op.equalIn (n + 1 + 1) 24 (.agg #[.int .u64 a, .int .u64 b]) (.agg #[.int .u64 c, .int .u64 d])).run Tryz.prog w = .ok (a == c && b == d) w := by
  have u3 := Tryz.underlying22
  have a3 := Tryz.isAgg22
  have z3 := Tryz.sizeOf22
  rw [Op.equalIn]
  simp only [Sem.run_bind, run_underlying Tryz.underlying24, Result.andThen_ok]
  simp only [Std.Legacy.Range.forIn_eq_forIn_range', Std.Legacy.Range.size, Nat.sub_zero, Nat.add_sub_cancel, Nat.div_one, List.range'_succ, List.range'_zero, List.forIn_cons, List.forIn_nil]
  go_simp
  by_cases h1 : a = c <;> by_cases h2 : b = d <;> simp [h1, h2]
theorem eqin_rmap (a b c d e a' b' c' d' e' : Int) (w : World) : (Op.equalIn 10000 26 (.agg #[.int .u64 a, .int .u64 b, .int .u64 c, .int .u64 d, .int .u64 e]) (.agg #[.int .u64 a', .int .u64 b', .int .u64 c', .int .u64 d', .int .u64 e'])).run Tryz.prog w = .ok ((a == a' && b == b') && ((c == c' && d == d') && e == e')) w := by
  have u3 := Tryz.underlying22
  have a3 := Tryz.isAgg22
  have z3 := Tryz.sizeOf22
  have a4 := Tryz.isAgg24
  have z4 := Tryz.sizeOf24
  have q := fun (a b c d : Int) (w : World) => eqat_rset 9997 a b c d w
  simp only [show 9997 + 1 + 1 = 9999 from rfl] at q
  have hS : Tryz.prog.underlying 26 = some (.struct (Tryz.prog.fieldsOf 26)) := by kernel_rfl
  have hp : Tryz.prog.stoodInHeld 26 = false := by kernel_rfl
  rw [show (10000 : Nat) = 9999 + 1 from rfl, run_equalIn_agg w 9999 26 _ _ hS hp]
  simp only [Program.fieldsOf, Tryz.underlying26]
  go_simp
  by_cases h1 : a = a' <;> by_cases h2 : b = b' <;> by_cases h3 : c = c' <;> by_cases h4 : d = d' <;> by_cases h5 : e = e' <;> simp [h1, h2, h3, h4, h5]
theorem eql_rmap (a b c d e a' b' c' d' e' : Nat) (w : World) : (binOp .eql 26 (mapV a b c d e) (mapV a' b' c' d' e')).run Tryz.prog w = .ok (.bool (decide ((a = a' ∧ b = b') ∧ (c = c' ∧ d = d') ∧ e = e'))) w := by
  unfold mapV
  rw [run_eql_struct, eqin_rmap]
  by_cases h1 : a = a' <;> by_cases h2 : b = b' <;> by_cases h3 : c = c' <;> by_cases h4 : d = d' <;> by_cases h5 : e = e' <;> simp [h1, h2, h3, h4, h5, Result.andThen]
  all_goals omega
theorem guard_rmap (op : BinOp) (x y : Operand) (a b c d e a' b' c' d' e' : Nat) (w : World) : Sem.run Tryz.prog (eqGuard op 26 x y (mapV a b c d e) (mapV a' b' c' d' e')) w = .ok () w := by
  unfold eqGuard mapV
  cases op <;> simp [go_sem]

end Go.Proofs.YtodcdefmoliegaaGreatDoor

/-
  Maps as values; contracts: given, taken, Freeze, Close.
-/
import Derived.Test.YtodcdefmoliegaaIB
namespace Go.Proofs.Ytodcdefmoliegaa
open Go.RowKit
set_option linter.unusedVariables false
set_option linter.unusedSimpArgs false

/-- A map: its two sets and its epoch. -/
def mapV (a b c d e : Nat) : Value := .agg #[.int .u64 (a : Int), .int .u64 (b : Int), .int .u64 (c : Int), .int .u64 (d : Int), .int .u64 (e : Int)]

/-- A box of five cells. -/
def Box5 (W : World) (p : Nat) (t : TypeId) (a b c d e : Value) : Prop := W.heap[p]? = some (.cells #[a, b, c, d, e] t (0, 0))
theorem Box5.c0 {W p t a b c d e} (h : Box5 W p t a b c d e) : W.cell? ⟨p, 0, none⟩ = some a := by rw [cell_of_blk h]; rfl
theorem Box5.c1 {W p t a b c d e} (h : Box5 W p t a b c d e) : W.cell? ⟨p, 1, none⟩ = some b := by rw [cell_of_blk h]; rfl
theorem Box5.c2 {W p t a b c d e} (h : Box5 W p t a b c d e) : W.cell? ⟨p, 2, none⟩ = some c := by rw [cell_of_blk h]; rfl
theorem Box5.c3 {W p t a b c d e} (h : Box5 W p t a b c d e) : W.cell? ⟨p, 3, none⟩ = some d := by rw [cell_of_blk h]; rfl
theorem Box5.c4 {W p t a b c d e} (h : Box5 W p t a b c d e) : W.cell? ⟨p, 4, none⟩ = some e := by rw [cell_of_blk h]; rfl
theorem Box5.fr {W p t a b c d e} (h : Box5 W p t a b c d e) (i : Nat) : W.frozen? ⟨p, i, none⟩ = false := free_of_blk h i
theorem Box5.lt {W p t a b c d e} (h : Box5 W p t a b c d e) : p < W.heap.size := lt_of_block h
theorem Box5.new (W : World) (t : TypeId) (a b c d e : Value) : Box5 (W.alloc (.cells #[a, b, c, d, e] t)) W.heap.size t a b c d e := heap_alloc_new W _
theorem Box5.alloc {W p t a b c d e} (h : Box5 W p t a b c d e) (o : Obj) : Box5 (W.alloc o) p t a b c d e := (Below.heap_alloc _ _ _ h.lt).trans h
theorem Box5.below {W W' p t a b c d e n} (h : Box5 W p t a b c d e) (hb : Below n W W') (hl : p < n) : Box5 W' p t a b c d e := (hb.block p hl).trans h
theorem Box5.set {W p t a b c d e} (h : Box5 W p t a b c d e) (a' b' c' d' e' : Value) :
    Box5 (((((W.setCell ⟨p, 0, none⟩ a').setCell ⟨p, 1, none⟩ b').setCell ⟨p, 2, none⟩ c').setCell ⟨p, 3, none⟩ d').setCell ⟨p, 4, none⟩ e') p t a' b' c' d' e' :=
  blk_setCell (i := 4) (blk_setCell (i := 3) (blk_setCell (i := 2) (blk_setCell (i := 1) (blk_setCell (i := 0) h))))
theorem Box5.set01 {W p t a b c d e} (h : Box5 W p t a b c d e) (a' b' : Value) :
    Box5 ((W.setCell ⟨p, 0, none⟩ a').setCell ⟨p, 1, none⟩ b') p t a' b' c d e :=
  blk_setCell (i := 1) (blk_setCell (i := 0) h)
theorem below5 {W W' : World} {n p : Nat} {a b c d e : Value} (h : Below n W W') (hl : n ≤ p) :
    Below n W (((((W'.setCell ⟨p, 0, none⟩ a).setCell ⟨p, 1, none⟩ b).setCell ⟨p, 2, none⟩ c).setCell ⟨p, 3, none⟩ d).setCell ⟨p, 4, none⟩ e) :=
  below_set (below_set (below_set (below_set (below_set h hl) hl) hl) hl) hl

set_option maxRecDepth 20000 in
set_option maxHeartbeats 1000000 in
theorem given_any (a b c d e : Nat) (w : World) :
    Calls Try.prog 4 #[mapV a b c d e] w fun x w' => x = .returned (mapV a b c d e) ∧ Below w.heap.size w w' := by
  unfold mapV
  go_enter Try.func4, Try.ntmps4
  go_wp2
  refine bodyPost_ret (by simp [results, Try.f4, go_sem]; try rfl) rfl ?_
  exact ⟨rfl, below2 _ _ _⟩

set_option maxRecDepth 20000 in
set_option maxHeartbeats 1000000 in
theorem taken_any (a b c d e : Nat) (w : World) :
    Calls Try.prog 7 #[mapV a b c d e] w fun x w' => x = .returned (mapV a b c d e) ∧ Below w.heap.size w w' := by
  unfold mapV
  go_enter Try.func7, Try.ntmps7
  go_wp2
  refine bodyPost_ret (by simp [results, Try.f7, go_sem]; try rfl) rfl ?_
  exact ⟨rfl, below2 _ _ _⟩

set_option maxRecDepth 20000 in
set_option maxHeartbeats 1000000 in
theorem freeze_any (a b c d e i : Nat) (w : World) :
    Calls Try.prog 8 #[mapV a b c d e, .int .u64 (i : Int)] w fun x w' => x = .returned (mapV 0 0 a b i) ∧ Below w.heap.size w w' := by
  unfold mapV
  go_enter Try.func8, Try.ntmps8
  go_wp2
  refine bodyPost_ret (by simp [results, Try.f8, go_sem]; try rfl) rfl ?_
  exact ⟨rfl, below2 _ _ _⟩

set_option maxRecDepth 20000 in
set_option maxHeartbeats 1000000 in
theorem close_any (a b c d e : Nat) (w : World) :
    Calls Try.prog 12 #[mapV a b c d e] w fun x w' => x = .returned (mapV a b 0 0 0) ∧ Below w.heap.size w w' := by
  unfold mapV
  go_enter Try.func12, Try.ntmps12
  go_wp2
  refine bodyPost_ret (by simp [results, Try.f12, go_sem]; try rfl) rfl ?_
  exact ⟨rfl, below2 _ _ _⟩

set_option maxRecDepth 20000 in
set_option maxHeartbeats 1000000 in
theorem rfreeze_any (a b c d e i : Nat) (w : World) :
    Calls Try.prog 9 #[mapV a b c d e, .int .u64 (i : Int)] w fun x w' => x = .returned (mapV 0 0 a b i) ∧ Below w.heap.size w w' := by
  unfold mapV
  go_enter Try.func9, Try.ntmps9
  go_wp2
  refine bodyPost_ret (by simp [results, Try.f9, go_sem]; try rfl) rfl ?_
  exact ⟨rfl, below2 _ _ _⟩

set_option maxRecDepth 20000 in
set_option maxHeartbeats 1000000 in
theorem rclose_any (a b c d e : Nat) (w : World) :
    Calls Try.prog 13 #[mapV a b c d e] w fun x w' => x = .returned (mapV a b 0 0 0) ∧ Below w.heap.size w w' := by
  unfold mapV
  go_enter Try.func13, Try.ntmps13
  go_wp2
  refine bodyPost_ret (by simp [results, Try.f13, go_sem]; try rfl) rfl ?_
  exact ⟨rfl, below2 _ _ _⟩

set_option maxRecDepth 20000 in
set_option maxHeartbeats 1000000 in
theorem merge_any (a b c d e : Nat) (w : World) (ha : a < 18446744073709551616) (hb : b < 18446744073709551616) (hc : c < 18446744073709551616) (hd : d < 18446744073709551616) :
    Calls Try.prog 10 #[mapV a b c d e] w fun x w' => x = .returned (mapV (a ||| c) (b ||| d) 0 0 0) ∧ Below w.heap.size w w' := by
  have h1 := fun w => or_any a b c d w ha hb hc hd
  generalize (a ||| c) = x at *
  generalize (b ||| d) = y at *
  unfold mapV setV at *
  have hB0 := below2 w (.cells #[.int .u64 (a : Int), .int .u64 (b : Int), .int .u64 (c : Int), .int .u64 (d : Int), .int .u64 (e : Int)] 29) (.cells #[.int .u64 0, .int .u64 0, .int .u64 0, .int .u64 0, .int .u64 0] 29)
  have bR := Box5.new (w.alloc (.cells #[.int .u64 (a : Int), .int .u64 (b : Int), .int .u64 (c : Int), .int .u64 (d : Int), .int .u64 (e : Int)] 29)) 29 (.int .u64 0) (.int .u64 0) (.int .u64 0) (.int .u64 0) (.int .u64 0)
  simp only [World.size_alloc] at bR
  have H1 := Lib.hid h1
  have HB0 := Lib.hid hB0
  have HR := Lib.hid bR
  clear h1 ha hb hc hd hB0 bR
  go_enter Try.func10, Try.ntmps10
  go_wp2_with fail
  refine (H1.out _).mono ?_
  rintro r w5 ⟨rfl, hb5⟩
  have b5 := HR.out.below hb5 HR.out.lt
  have hB5 := HB0.out.trans (hb5.mono HB0.out.size)
  have c0 := b5.c0
  have c1 := b5.c1
  have c2 := b5.c2
  have c3 := b5.c3
  have c4 := b5.c4
  have f0 := b5.fr 0
  have f1 := b5.fr 1
  have f2 := b5.fr 2
  have f3 := b5.fr 3
  have f4 := b5.fr 4
  have HB5 := Lib.hid hB5
  have HX5 := Lib.hid b5
  clear hb5 b5 hB5
  go_wp2
  have b6 := HX5.out.set (.int .u64 (x : Int)) (.int .u64 (y : Int)) (.int .u64 0) (.int .u64 0) (.int .u64 0)
  refine bodyPost_ret (by simp [results, Try.f10, go_sem, b6.c0, b6.c1, b6.c2, b6.c3, b6.c4]; try rfl) rfl ?_
  exact ⟨rfl, below5 HB5.out (by omega)⟩

set_option maxRecDepth 20000 in
set_option maxHeartbeats 1000000 in
theorem rmerge_any (a b c d e : Nat) (w : World) (ha : a < 18446744073709551616) (hb : b < 18446744073709551616) (hc : c < 18446744073709551616) (hd : d < 18446744073709551616) :
    Calls Try.prog 11 #[mapV a b c d e] w fun x w' => x = .returned (mapV (a ||| c) (b ||| d) 0 0 0) ∧ Below w.heap.size w w' := by
  have h1 := fun w => ror_any a b c d w ha hb hc hd
  generalize (a ||| c) = x at *
  generalize (b ||| d) = y at *
  unfold mapV setV at *
  have hB0 := below2 w (.cells #[.int .u64 (a : Int), .int .u64 (b : Int), .int .u64 (c : Int), .int .u64 (d : Int), .int .u64 (e : Int)] 26) (.cells #[.int .u64 0, .int .u64 0, .int .u64 0, .int .u64 0, .int .u64 0] 26)
  have bR := Box5.new (w.alloc (.cells #[.int .u64 (a : Int), .int .u64 (b : Int), .int .u64 (c : Int), .int .u64 (d : Int), .int .u64 (e : Int)] 26)) 26 (.int .u64 0) (.int .u64 0) (.int .u64 0) (.int .u64 0) (.int .u64 0)
  simp only [World.size_alloc] at bR
  have H1 := Lib.hid h1
  have HB0 := Lib.hid hB0
  have HR := Lib.hid bR
  clear h1 ha hb hc hd hB0 bR
  go_enter Try.func11, Try.ntmps11
  go_wp2_with fail
  refine (H1.out _).mono ?_
  rintro r w5 ⟨rfl, hb5⟩
  have b5 := HR.out.below hb5 HR.out.lt
  have hB5 := HB0.out.trans (hb5.mono HB0.out.size)
  have c0 := b5.c0
  have c1 := b5.c1
  have c2 := b5.c2
  have c3 := b5.c3
  have c4 := b5.c4
  have f0 := b5.fr 0
  have f1 := b5.fr 1
  have f2 := b5.fr 2
  have f3 := b5.fr 3
  have f4 := b5.fr 4
  have HB5 := Lib.hid hB5
  have HX5 := Lib.hid b5
  clear hb5 b5 hB5
  go_wp2
  have b6 := HX5.out.set (.int .u64 (x : Int)) (.int .u64 (y : Int)) (.int .u64 0) (.int .u64 0) (.int .u64 0)
  refine bodyPost_ret (by simp [results, Try.f11, go_sem, b6.c0, b6.c1, b6.c2, b6.c3, b6.c4]; try rfl) rfl ?_
  exact ⟨rfl, below5 HB5.out (by omega)⟩

end Go.Proofs.Ytodcdefmoliegaa

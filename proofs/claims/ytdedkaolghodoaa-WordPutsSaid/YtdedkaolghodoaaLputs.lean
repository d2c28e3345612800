/-
  'WordPuts' holds: what Put lays behind any bytes, and what Get reads from any place on, or why it does not, is what the document says; the fixed calls come out as they must. No condition: every list of bytes, every width, number and place.
-/
import Derived.Test.YtdedkaolghodoaaA6
import Derived.Test.YtdedkaolghodoaaB1
import Derived.ProofKit
import Derived.OpenShut
import Derived.ChangeOld
import Derived.Below
import Derived.SizedLaws
import Derived.Deep.RegionWith
import Derived.Deep.DrawnRows
namespace Go.Proofs.Ytdedkaolghodoaa.wordPuts
open Go.ChangeShapes Go.WideShapes Go.ChangeAt Go.RowKit
set_option linter.unusedVariables false
attribute [local go_sem ↓] Go.wp_at_zero Go.wp_at_succ

theorem eql_string (s : ByteArray) (w : World) : (binOp .eql 9 (.string s) (.string s)).run Try.prog w = .ok (.bool true) w := by
  go_simp
theorem eql_u64 (x : Int) (w : World) : (binOp .eql 23 (.int .u64 x) (.int .u64 x)).run Try.prog w = .ok (.bool true) w := by
  go_simp
theorem eql_err (x : Int) (w : World) : (binOp .eql 24 (.int .i64 x) (.int .i64 x)).run Try.prog w = .ok (.bool true) w := by
  go_simp

/-- The three comparisons of the law, at one world, each as one fact: their operands are names. -/
theorem run_string_rd3 {w : World} {a : Option Addr} {n cap : Nat} {xs : List UInt8} {V : Value} (hs : Hid (V = .string ⟨xs.toArray⟩)) (h : Rd w a n cap xs) :
    (convert 22 9 (.slice a n cap)).run Try.prog w = .ok V w := by rw [hs.out]; exact run_string_rd h
theorem eql_V {V : Value} {s : ByteArray} (hs : Hid (V = .string s)) (w : World) : (binOp .eql 9 V V).run Try.prog w = .ok (.bool true) w := by rw [hs.out]; exact eql_string _ _
theorem eql_X {V : Value} {s : Int} (hs : Hid (V = .int .u64 s)) (w : World) : (binOp .eql 23 V V).run Try.prog w = .ok (.bool true) w := by rw [hs.out]; exact eql_u64 _ _
theorem eql_Y {V : Value} {s : Int} (hs : Hid (V = .int .i64 s)) (w : World) : (binOp .eql 24 V V).run Try.prog w = .ok (.bool true) w := by rw [hs.out]; exact eql_err _ _

theorem guard_V {V : Value} {s : ByteArray} (hs : Hid (V = .string s)) (x y : Operand) (w : World) : (eqGuard .eql 9 x y V V).run Try.prog w = .ok () w := by rw [hs.out]; go_simp
theorem guard_X {V : Value} {s : Int} (hs : Hid (V = .int .u64 s)) (x y : Operand) (w : World) : (eqGuard .eql 23 x y V V).run Try.prog w = .ok () w := by rw [hs.out]; go_simp
theorem guard_Y {V : Value} {s : Int} (hs : Hid (V = .int .i64 s)) (x y : Operand) (w : World) : (eqGuard .eql 24 x y V V).run Try.prog w = .ok () w := by rw [hs.out]; go_simp

set_option maxHeartbeats 2000000 in
theorem walkIn (a : Option Addr) (n cap : Nat) (xs : List UInt8) (wd : Int) (v : Nat) (at_ : Int) (w : World) (h : Rd w a n cap xs) (hn : n ≤ 140737488351232) (hv : v < 18446744073709551616) (hm : at_ ≤ 9223372036854775807) :
    Calls Try.prog 3 #[.slice a n cap, .int .i64 wd, .int .u64 v, .int .i64 at_] w fun e w' => e = .returned (.bool true) ∧ Below w.heap.size w w' := by
  have g1 := get_any a n cap xs at_ wd w h hm
  have g2 := rget_any a n cap xs at_ wd w h hm
  obtain ⟨X, hX⟩ : ∃ X : Value, X = .int .u64 ((getR xs at_ wd).1 : Int) := ⟨_, rfl⟩
  obtain ⟨Y, hY⟩ : ∃ Y : Value, Y = .int .i64 (getR xs at_ wd).2 := ⟨_, rfl⟩
  rw [← hX, ← hY] at g1 g2
  have p1 := fun (w : World) (h : Rd w a n cap xs) => put_any a n cap xs wd v w h hn hv
  have p2 := fun (w : World) (h : Rd w a n cap xs) => rput_any a n cap xs wd v w h hn hv
  generalize putR xs wd v = ys at p1 p2
  obtain ⟨V, hV⟩ : ∃ V : Value, V = .string ⟨ys.toArray⟩ := ⟨_, rfl⟩
  have HX := Lib.hid hX
  have HY := Lib.hid hY
  have HV := Lib.hid hV
  have G1 := Lib.hid g1
  have G2 := Lib.hid g2
  have P1 := Lib.hid p1
  have P2 := Lib.hid p2
  clear g1 g2 p1 p2 hX hY hV
  go_enter Try.func3, Try.ntmps3
  go_wp2_with (first | (go_at_call 7; refine (G1.out).mono ?_; rintro e w' ⟨rfl, rfl⟩) | (go_at_call 8; refine (G2.out).mono ?_; rintro e w' ⟨rfl, rfl⟩))
  go_region_with (first
    | (go_at_call 9; refine (P1.out _ h.drew).mono ?_; rintro e w1 ⟨a1, m1, c1, rfl, hr1, hb1⟩; have hs1 := run_string_rd3 HV hr1)
    | (go_at_call 10; refine (P2.out _ (h.drew.later hb1)).mono ?_; rintro e w2 ⟨a2, m2, c2, rfl, hr2, hb2⟩; have hs2 := run_string_rd3 HV hr2; have hs3 := run_string_rd3 HV (hr1.later hb2); have hq1 := eql_V HV w2; have hq2 := eql_X HX w2; have hq3 := eql_Y HY w2; have hg1 := guard_V HV (.tmp 31) (.tmp 36) w2; have hg2 := guard_X HX (.tmp 39) (.tmp 40) w2; have hg3 := guard_Y HY (.tmp 44) (.tmp 45) w2)
    | (go_at_call 11; refine (known_true _).mono ?_; rintro e w3 ⟨rfl, hb3⟩))
  all_goals go_wp2
  all_goals go_ret
  all_goals exact ⟨rfl, (((Below.refl w.heap.size w).drew.trans hb1).trans (hb2.mono hb1.size)).trans (hb3.mono (Nat.le_trans hb1.size hb2.size))⟩
theorem u64_of_wf {n : Int} (h : (Lit.int .u64 n).wf = true) : ∃ m : Nat, n = m ∧ m < 18446744073709551616 := by
  have h1 : IntKind.u64.min = 0 := rfl
  have h2 : IntKind.u64.max = 18446744073709551615 := rfl
  simp only [Lit.wf, Bool.and_eq_true, decide_eq_true_eq] at h
  obtain ⟨m, rfl⟩ := Int.eq_ofNat_of_zero_le (a := n) (by omega)
  exact ⟨m, rfl, by omega⟩

theorem i64_le {n : Int} (h : (Lit.int .i64 n).wf = true) : n ≤ 9223372036854775807 := by
  have h2 : IntKind.i64.max = 9223372036854775807 := rfl
  simp only [Lit.wf, Bool.and_eq_true, decide_eq_true_eq] at h
  omega

theorem walk (a0 : Option Addr) (len0 cap0 : Nat) (xs : List UInt8) (a1 : Int) (a2 : Int) (a3 : Int) (w : World) (w0 : Rd w a0 len0 cap0 xs) (hn : len0 ≤ 140737488351232) (w1 : (Lit.int .i64 a1).wf = true) (w2 : (Lit.int .u64 a2).wf = true) (w3 : (Lit.int .i64 a3).wf = true) :
    Calls Try.prog 3 #[.slice a0 len0 cap0, .int .i64 a1, .int .u64 a2, .int .i64 a3] w fun e w' => e = .returned (.bool true) ∧ Below w.heap.size w w' := by
  obtain ⟨v, rfl, hv⟩ := u64_of_wf w2
  exact walkIn a0 len0 cap0 xs a1 v a3 w w0 hn hv (i64_le w3)

theorem own : ownKnob Try.prog.godebug = none := by kernel_rfl
theorem laidOut : laidOutB Try.prog = true := by kernel_rfl

/-! ### THE ROW's STEP: WRITTEN OUT: LEAVE IT -/
set_option maxRecDepth 100000 in
theorem lifted (os : Os) (started : os.Started) (H : Type) (enc : TypeId × Value → H) :
    ReturnsInHanded {} Try.checked os 3 .any (Rows.wordPutsSpec.pre6 enc Try.prog Try.f3 Rows.wordPutsRow.domain false) (Rows.wordPutsSpec.post enc Try.prog Try.f3 false true false false) := by
  refine returnsInHanded_of_change_sized (C := Try.checked) own started (by kernel_rfl) Try.func3
    (ChangeSpec.witness6 (enc := enc) (C := Try.checked) false ⟨#[], #[.slice none 0 0, .int .i64 0, .int .u64 0, .int .i64 0], []⟩ 8 (by kernel_rfl) (by kernel_rfl) (by kernel_rfl) (by kernel_rfl)) ?_
  intro W base args ds gs before hval0 hW hcnd hsz0 _
  have hsz : (DataW.weightsEach Try.prog (Try.f3.params.toList ++ Rows.wordPutsSpec.plain.varTypes Try.prog) (ds ++ gs)).all (· ≤ reachBytes) = true := hsz0
  clear hsz0
  have hval : ∀ (j : Nat) t v, Try.f3.params[j]? = some t → args[j]? = some v → Value.okWide Try.prog W .any base t v := hval0
  have hW' := hW
  obtain ⟨p, q, hA0, hV, rfl, hfz, hnd⟩ := hW
  have hA : DataW.TrodAll enc Try.prog W 0 (fun _ => true) true Try.f3.params.toList args.toList ds p := hA0
  rw [Try.params3] at hA hval hsz
  obtain ⟨v0, vs0, d0, ds0, p0, q0, hargs, rfl, rfl, h0, r0⟩ := trodAll_cons hA
  obtain ⟨v1, vs1, d1, ds1, p1, q1, rfl, rfl, rfl, h1, r1⟩ := trodAll_cons r0
  obtain ⟨v2, vs2, d2, ds2, p2, q2, rfl, rfl, rfl, h2, r2⟩ := trodAll_cons r1
  obtain ⟨v3, vs3, d3, ds3, p3, q3, rfl, rfl, rfl, h3, r3⟩ := trodAll_cons r2
  obtain ⟨rfl, rfl, rfl⟩ := trodAll_nil r3
  obtain rfl : args = #[v0, v1, v2, v3] := by cases args; simp_all
  obtain ⟨rfl, rfl⟩ := trodVars_none hV
  obtain ⟨a0, len0, cap0, rfl⟩ := okWide_slice Try.underlying22 (hval 0 22 v0 rfl rfl)
  have k0 := h0
  have lt0 : ∀ x ∈ p0, x.block < W.heap.size := by obtain ⟨m, hm⟩ := k0; exact DataW.trod_lt m _ _ _ hm
  obtain ⟨xs, w0, hn⟩ : ∃ xs, Rd W a0 len0 cap0 xs ∧ len0 ≤ 140737488351232 := by
    obtain ⟨fuel, hf⟩ := h0
    rcases open_ints Try.underlying22 Try.underlying5 (by kernel_rfl) hf with ⟨hcs, _⟩ | ⟨x, l, c, zs, hcs, _, hl, hm, hz, hx, hcell, hwz⟩
    · simp [Value.cells] at hcs
      obtain ⟨rfl, rfl, rfl⟩ := hcs
      exact ⟨[], rd_nil W, by omega⟩
    · simp [Value.cells] at hcs
      obtain ⟨rfl, rfl, rfl⟩ := hcs
      simp only [Prod.mk.injEq] at hx
      obtain ⟨rfl, _⟩ := hx
      simp only [if_true] at hz
      have hr : cap0 ≤ 140737488351232 := by
        have := sized_slice hsz (j := 0) (t := 22) (e := 5) rfl rfl Try.underlying22
        rw [show Try.prog.bytesOf 5 = 1 from by kernel_rfl] at this
        simp only [lits, List.length_map, List.length_take, List.length_drop, reachBytes] at this
        omega
      exact ⟨_, rd_of_ints hl hm hr hz hcell hwz, by omega⟩
  obtain ⟨a1, rfl, rfl, rfl, w1⟩ := open_int Try.underlying3 (hval 1 3 v1 rfl rfl) h1
  obtain ⟨a2, rfl, rfl, rfl, w2⟩ := open_int Try.underlying23 (hval 2 23 v2 rfl rfl) h2
  obtain ⟨a3, rfl, rfl, rfl, w3⟩ := open_int Try.underlying3 (hval 3 3 v3 rfl rfl) h3
  clear hA0 hval0
  refine (walk a0 len0 cap0 xs a1 a2 a3 W w0 hn w1 w2 w3).mono fun e W' ⟨he, bel⟩ => ?_
  subst he
  exact ⟨_, rfl, _, _, _, [], _, [], hW', trodAll_mk1 (shut_bool Try.underlying4 _), (trodAll_cons_mk (Below.trod laidOut (by kernel_rfl) (of_decide_eq_true (by kernel_rfl)) k0 bel lt0) (trodAll_cons_mk (shut_int Try.underlying3 w1) (trodAll_cons_mk (shut_int Try.underlying23 w2) (trodAll_cons_mk (shut_int Try.underlying3 w3) trodAll_mk0)))), rfl, bel.frame _, fun h => by cases h⟩

theorem over : Rows.wordPutsRow.holds Try.pinned (OpenSpec.ofChange Rows.wordPutsSpec) :=
  OpenClaim.holds_of_wide 3 Try.f3 rfl rfl rfl rfl rfl rfl rfl ⟨rfl, rfl, rfl, rfl, rfl⟩ rfl rfl rfl rfl rfl (by kernel_rfl) Try.func3 (by kernel_rfl)
    (of_decide_eq_true (by kernel_rfl)) (by unfold Func.isWrapper; first | (rw [if_pos (by decide +kernel)]; kernel_rfl) | (rw [if_neg (by decide +kernel)]; exact ⟨rfl, rfl⟩))
    (fun os started H enc _ => lifted os started H enc)

/-- ████ THE STATEMENT ████ -/
theorem proved : Rows.WordPutsSaid := over
#print axioms proved
end Go.Proofs.Ytdedkaolghodoaa.wordPuts

/-
  'WordBack' holds: a number that Put laid behind any bytes is got back by Get, as far as its width goes; where there is no such width, the fixed calls come out as they must. No condition: every list of bytes, every int, every uint64.
-/
import Derived.Test.YtdedkaolghodoaaA5
import Derived.Test.YtdedkaolghodoaaB1
import Derived.ProofKit
import Derived.OpenShut
import Derived.ChangeOld
import Derived.Below
import Derived.SizedLaws
namespace Go.Proofs.Ytdedkaolghodoaa.wordBack
open Go.ChangeShapes Go.WideShapes Go.ChangeAt Go.RowKit
set_option linter.unusedVariables false

theorem enc_back (xs : List UInt8) (v wd n : Nat) (h : xs.length = n) : numN (((xs ++ enc v wd).drop n).take wd) = v % 256 ^ wd := by
  subst h
  rw [List.drop_left, List.take_of_length_le (by rw [enc_length]; omega), enc_num]

theorem wrap_pow (wd : Nat) (h : wd ≤ 7) : IntKind.u64.wrap (2 ^ (8 * wd)) = 256 ^ wd := by
  have h1 := pow256_le wd h
  have e : (2 : Int) ^ (8 * wd) = ((256 ^ wd : Nat) : Int) := by rw [← pow8]; simp
  rw [e, IntKind.wrap_u64]
  clear e
  rw [show (256 : Int) ^ wd = ((256 ^ wd : Nat) : Int) from by simp]
  generalize 256 ^ wd = q at *
  omega

theorem pow_ne (wd : Nat) : ((256 : Int) ^ wd == 0) = false := by
  have : (256 : Int) ^ wd = ((256 ^ wd : Nat) : Int) := by simp
  rw [this]
  have := Nat.pow_pos (n := wd) (show 0 < 256 by omega)
  rw [beq_eq_false_iff_ne]
  omega

set_option maxHeartbeats 1000000 in
theorem walkIn (a : Option Addr) (n cap : Nat) (xs : List UInt8) (wd v : Nat) (w : World) (h : Rd w a n cap xs) (hn : n ≤ 140737488351232) (h1 : 1 ≤ wd) (h2 : wd ≤ 7) (hv : v < 18446744073709551616) :
    Calls Try.prog 4 #[.slice a n cap, .int .i64 wd, .int .u64 v] w fun e w' => e = .returned (.bool true) ∧ Below w.heap.size w w' := by
  have e1 := wrap_pow wd h2
  have e2 := pow_ne wd
  have e3 : ¬ (256 : Int) ^ wd = 0 := by simpa using e2
  go_enter Try.func4, Try.ntmps4
  go_wp2_with fail
  refine (put_ok a n cap xs wd v w h h1 (by omega) hv (by omega)).mono ?_
  rintro e w1 ⟨g, c, rfl, hg, hrd, hb1⟩
  go_wp2_with fail
  refine (get_ok _ _ _ _ n wd _ hrd h1 (by omega) (Nat.le_refl _)).mono ?_
  rintro e w2 ⟨rfl, rfl⟩
  rw [enc_back xs v wd n h.len]
  go_wp2_with fail
  refine (known_true _).mono ?_
  rintro e w2 ⟨rfl, hb2⟩
  go_wp2
  go_ret
  exact ⟨rfl, hb1.trans (hb2.mono hb1.size)⟩

set_option maxHeartbeats 1000000 in
theorem walk_eight (a : Option Addr) (n cap : Nat) (xs : List UInt8) (v : Nat) (w : World) (h : Rd w a n cap xs) (hn : n ≤ 140737488351232) (wd : Nat) (h8 : 8 ≤ wd) (h9 : wd ≤ 8) (hv : v < 18446744073709551616) :
    Calls Try.prog 4 #[.slice a n cap, .int .i64 wd, .int .u64 v] w fun e w' => e = .returned (.bool true) ∧ Below w.heap.size w w' := by
  have e1 : numN (((xs ++ enc v wd).drop n).take wd) = v := by
    rw [enc_back xs v wd n h.len]
    obtain rfl : wd = 8 := by omega
    exact Nat.mod_eq_of_lt hv
  have E1 := Lib.hid e1
  clear e1
  go_enter Try.func4, Try.ntmps4
  go_wp2_with fail
  refine (put_ok a n cap xs wd v w h (by omega) (by omega) hv (by omega)).mono ?_
  rintro e w1 ⟨g, c, rfl, hg, hrd, hb1⟩
  go_wp2_with fail
  refine (get_ok _ _ _ _ n wd _ hrd (by omega) (by omega) (Nat.le_refl _)).mono ?_
  rintro e w2 ⟨rfl, rfl⟩
  rw [E1.out]
  go_wp2_with fail
  refine (known_true _).mono ?_
  rintro e w2 ⟨rfl, hb2⟩
  go_wp2
  go_ret
  exact ⟨rfl, hb1.trans (hb2.mono hb1.size)⟩

set_option maxHeartbeats 1000000 in
theorem walk_out (v0 : Value) (wd : Int) (v : Value) (w : World) (h : wd < 1 ∨ 8 < wd) :
    Calls Try.prog 4 #[v0, .int .i64 wd, v] w fun e w' => e = .returned (.bool true) ∧ Below w.heap.size w w' := by
  by_cases h1 : wd < 1
  · go_enter Try.func4, Try.ntmps4
    go_wp2_with fail
    refine (known_true _).mono ?_
    rintro e w2 ⟨rfl, hb2⟩
    go_wp2
    go_ret
    exact ⟨rfl, hb2⟩
  · have h2 : 8 < wd := by omega
    go_enter Try.func4, Try.ntmps4
    go_wp2_with fail
    refine (known_true _).mono ?_
    rintro e w2 ⟨rfl, hb2⟩
    go_wp2
    go_ret
    exact ⟨rfl, hb2⟩

theorem u64_of_wf {n : Int} (h : (Lit.int .u64 n).wf = true) : ∃ m : Nat, n = m ∧ m < 18446744073709551616 := by
  have h1 : IntKind.u64.min = 0 := rfl
  have h2 : IntKind.u64.max = 18446744073709551615 := rfl
  simp only [Lit.wf, Bool.and_eq_true, decide_eq_true_eq] at h
  obtain ⟨m, rfl⟩ := Int.eq_ofNat_of_zero_le (a := n) (by omega)
  exact ⟨m, rfl, by omega⟩

theorem walk (a0 : Option Addr) (len0 cap0 : Nat) (xs : List UInt8) (a1 : Int) (a2 : Int) (w : World) (w0 : Rd w a0 len0 cap0 xs) (hn : len0 ≤ 140737488351232) (w1 : (Lit.int .i64 a1).wf = true) (w2 : (Lit.int .u64 a2).wf = true) :
    Calls Try.prog 4 #[.slice a0 len0 cap0, .int .i64 a1, .int .u64 a2] w fun e w' => e = .returned (.bool true) ∧ Below w.heap.size w w' := by
  obtain ⟨v, rfl, hv⟩ := u64_of_wf w2
  by_cases h : a1 < 1 ∨ 8 < a1
  · exact walk_out _ _ _ _ h
  · obtain ⟨wd, rfl⟩ := Int.eq_ofNat_of_zero_le (a := a1) (by omega)
    by_cases h7 : wd ≤ 7
    · exact walkIn _ _ _ xs wd v w w0 hn (by omega) h7 hv
    · exact walk_eight _ _ _ xs v w w0 hn wd (by omega) (by omega) hv

theorem own : ownKnob Try.prog.godebug = none := by kernel_rfl
theorem laidOut : laidOutB Try.prog = true := by kernel_rfl

/-! ### THE ROW's STEP: WRITTEN OUT: LEAVE IT -/
set_option maxRecDepth 100000 in
theorem lifted (os : Os) (started : os.Started) (H : Type) (enc : TypeId × Value → H) :
    ReturnsInHanded {} Try.checked os 4 .any (Rows.wordBackSpec.pre6 enc Try.prog Try.f4 Rows.wordBackRow.domain false) (Rows.wordBackSpec.post enc Try.prog Try.f4 false true false false) := by
  refine returnsInHanded_of_change_sized (C := Try.checked) own started (by kernel_rfl) Try.func4
    (ChangeSpec.witness6 (enc := enc) (C := Try.checked) false ⟨#[], #[.slice none 0 0, .int .i64 0, .int .u64 0], []⟩ 8 (by kernel_rfl) (by kernel_rfl) (by kernel_rfl) (by kernel_rfl)) ?_
  intro W base args ds gs before hval0 hW hcnd hsz0 _
  have hsz : (DataW.weightsEach Try.prog (Try.f4.params.toList ++ Rows.wordBackSpec.plain.varTypes Try.prog) (ds ++ gs)).all (· ≤ reachBytes) = true := hsz0
  clear hsz0
  have hval : ∀ (j : Nat) t v, Try.f4.params[j]? = some t → args[j]? = some v → Value.okWide Try.prog W .any base t v := hval0
  have hW' := hW
  obtain ⟨p, q, hA0, hV, rfl, hfz, hnd⟩ := hW
  have hA : DataW.TrodAll enc Try.prog W 0 (fun _ => true) true Try.f4.params.toList args.toList ds p := hA0
  rw [Try.params4] at hA hval hsz
  obtain ⟨v0, vs0, d0, ds0, p0, q0, hargs, rfl, rfl, h0, r0⟩ := trodAll_cons hA
  obtain ⟨v1, vs1, d1, ds1, p1, q1, rfl, rfl, rfl, h1, r1⟩ := trodAll_cons r0
  obtain ⟨v2, vs2, d2, ds2, p2, q2, rfl, rfl, rfl, h2, r2⟩ := trodAll_cons r1
  obtain ⟨rfl, rfl, rfl⟩ := trodAll_nil r2
  obtain rfl : args = #[v0, v1, v2] := by cases args; simp_all
  obtain ⟨rfl, rfl⟩ := trodVars_none hV
  obtain ⟨a0, len0, cap0, rfl⟩ := okWide_slice Try.underlying22 (hval 0 22 v0 rfl rfl)
  have k0 := h0
  have lt0 : ∀ x ∈ p0, x.block < W.heap.size := by obtain ⟨m, hm⟩ := k0; exact DataW.trod_lt m _ _ _ hm
  obtain ⟨xs, w0, hn⟩ : ∃ xs, Rd W a0 len0 cap0 xs ∧ len0 ≤ 140737488351232 := by
    obtain ⟨fuel, hf⟩ := h0
    rcases open_ints Try.underlying22 Try.underlying5 (by kernel_rfl) hf with ⟨hcs, _⟩ | ⟨x, l, c, zs, hcs, _, hl, hm, hz, hx, hcell, hwz⟩
    · simp [Value.cells] at hcs
      obtain ⟨rfl, rfl, rfl⟩ := hcs
      exact ⟨[], rd_nil W, by omega⟩
    · simp [Value.cells] at hcs
      obtain ⟨rfl, rfl, rfl⟩ := hcs
      simp only [Prod.mk.injEq] at hx
      obtain ⟨rfl, _⟩ := hx
      simp only [if_true] at hz
      have hr : cap0 ≤ 140737488351232 := by
        have := sized_slice hsz (j := 0) (t := 22) (e := 5) rfl rfl Try.underlying22
        rw [show Try.prog.bytesOf 5 = 1 from by kernel_rfl] at this
        simp only [lits, List.length_map, List.length_take, List.length_drop, reachBytes] at this
        omega
      exact ⟨_, rd_of_ints hl hm hr hz hcell hwz, by omega⟩
  obtain ⟨a1, rfl, rfl, rfl, w1⟩ := open_int Try.underlying3 (hval 1 3 v1 rfl rfl) h1
  obtain ⟨a2, rfl, rfl, rfl, w2⟩ := open_int Try.underlying23 (hval 2 23 v2 rfl rfl) h2
  clear hA0 hval0
  refine (walk a0 len0 cap0 xs a1 a2 W w0 hn w1 w2).mono fun e W' ⟨he, bel⟩ => ?_
  subst he
  exact ⟨_, rfl, _, _, _, [], _, [], hW', trodAll_mk1 (shut_bool Try.underlying4 _), (trodAll_cons_mk (Below.trod laidOut (by kernel_rfl) (of_decide_eq_true (by kernel_rfl)) k0 bel lt0) (trodAll_cons_mk (shut_int Try.underlying3 w1) (trodAll_cons_mk (shut_int Try.underlying23 w2) trodAll_mk0))), rfl, bel.frame _, fun h => by cases h⟩

theorem over : Rows.wordBackRow.holds Try.pinned (OpenSpec.ofChange Rows.wordBackSpec) :=
  OpenClaim.holds_of_wide 4 Try.f4 rfl rfl rfl rfl rfl rfl rfl ⟨rfl, rfl, rfl, rfl, rfl⟩ rfl rfl rfl rfl rfl (by kernel_rfl) Try.func4 (by kernel_rfl)
    (of_decide_eq_true (by kernel_rfl)) (by unfold Func.isWrapper; first | (rw [if_pos (by decide +kernel)]; kernel_rfl) | (rw [if_neg (by decide +kernel)]; exact ⟨rfl, rfl⟩))
    (fun os started H enc _ => lifted os started H enc)

/-- ████ THE STATEMENT ████ -/
theorem proved : Rows.WordBackSaid := over
#print axioms proved
end Go.Proofs.Ytdedkaolghodoaa.wordBack

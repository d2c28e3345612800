/-
  'CrcByte' holds: one byte that is another one is another sum; the fixed calls come out as they must. No condition.
-/
import Derived.Test.YtomgfjbcnlkfpaaK4
import Derived.Test.YtomgfjbcnlkfpaaB1
import Derived.ProofKit
import Derived.OpenShut
import Derived.ChangeOld
import Derived.Below
import Derived.SizedLaws
namespace Go.Proofs.Ytomgfjbcnlkfpaa.crcByte
open Go.ChangeShapes Go.WideShapes Go.ChangeAt Go.RowKit
set_option linter.unusedVariables false

theorem byte_of_wf {n : Int} (h : (Lit.int .u8 n).wf = true) : ∃ x : UInt8, n = (x.toNat : Int) := ⟨UInt8.ofNat n.toNat, (u8_of_wf h).symm⟩

theorem bvs_set (xs : List UInt8) (j : Nat) (x : UInt8) : bvs (xs.set j x) = (bvs xs).set j (.int .u8 (x.toNat : Int)) := by simp [bvs, List.map_set]

theorem owns_some {w : World} {B n : Nat} {v : Value} {xs : List UInt8} (h : w.ownsRow B 5 1 v n (bvs xs)) (h0 : 0 < n) :
    ∃ g c, v = .slice (some ⟨g, 0, none⟩) n c ∧ B ≤ g ∧ n ≤ c := by
  obtain ⟨_, h2⟩ := h
  rcases h2 with ⟨_, h⟩ | ⟨g, cap, cur, rfl, hB, hh, hle, hm, _, _⟩
  · omega
  · exact ⟨g, cap, rfl, hB, hle⟩

set_option maxHeartbeats 400000 in
theorem walk_big (a0 : Option Addr) (len0 cap0 : Nat) (v1 v2 : Value) (w : World) (hn : len0 ≤ 140737488351232) (hbig : (10000 : Int) < len0) :
    Calls Try.prog 5 #[.slice a0 len0 cap0, v1, v2] w fun e w' => e = .returned (.bool true) ∧ Below w.heap.size w w' := by
  go_enter Try.func5, Try.ntmps5
  go_wp2_with fail
  refine (known_true _).mono ?_
  rintro e wk ⟨rfl, hbk⟩
  go_wp2
  go_ret
  exact ⟨rfl, hbk⟩

set_option maxHeartbeats 400000 in
theorem walk_neg (a0 : Option Addr) (len0 cap0 : Nat) (a1 : Int) (v2 : Value) (w : World) (hbig : ¬ (10000 : Int) < len0) (h1 : a1 < 0) :
    Calls Try.prog 5 #[.slice a0 len0 cap0, .int .i64 a1, v2] w fun e w' => e = .returned (.bool true) ∧ Below w.heap.size w w' := by
  go_enter Try.func5, Try.ntmps5
  go_wp2_with fail
  refine (known_true _).mono ?_
  rintro e wk ⟨rfl, hbk⟩
  go_wp2
  go_ret
  exact ⟨rfl, hbk⟩

set_option maxHeartbeats 400000 in
theorem walk_past (a0 : Option Addr) (len0 cap0 : Nat) (a1 : Int) (v2 : Value) (w : World) (hbig : ¬ (10000 : Int) < len0) (h1 : ¬ a1 < 0) (h2 : (len0 : Int) ≤ a1) :
    Calls Try.prog 5 #[.slice a0 len0 cap0, .int .i64 a1, v2] w fun e w' => e = .returned (.bool true) ∧ Below w.heap.size w w' := by
  go_enter Try.func5, Try.ntmps5
  go_wp2_with fail
  refine (known_true _).mono ?_
  rintro e wk ⟨rfl, hbk⟩
  go_wp2
  go_ret
  exact ⟨rfl, hbk⟩

set_option maxHeartbeats 1000000 in
theorem walk_at (a0 : Option Addr) (len0 cap0 : Nat) (x0 : List UInt8) (i : Nat) (x : UInt8) (w : World) (w0 : Rd w a0 len0 cap0 x0) (hbig : len0 ≤ 10000) (h2 : i < len0) :
    Calls Try.prog 5 #[.slice a0 len0 cap0, .int .i64 i, .int .u8 (x.toNat : Int)] w fun e w' => e = .returned (.bool true) ∧ Below w.heap.size w w' := by
  obtain ⟨b, off, rfl, hb, hc⟩ := w0.at0 (by omega)
  have hcell := hc i h2
  clear hc
  have i1 : ¬ (10000 : Int) < (len0 : Int) := by omega
  have i2 : ¬ (i : Int) < 0 := by omega
  have i3 : ¬ (len0 : Int) ≤ (i : Int) := by omega
  have hil : i < x0.length := by rw [w0.len]; exact h2
  have hlen := Lib.hid w0.len
  by_cases hx : x0[i] = x
  · have hq : ((((x0[i]?.getD 0).toNat : Nat) : Int) == ((x.toNat : Nat) : Int)) = true := by
      rw [List.getElem?_eq_getElem hil]; simp [hx]
    generalize (((x0[i]?.getD 0).toNat : Nat) : Int) = u at hcell hq
    go_enter Try.func5, Try.ntmps5
    go_wp2_with fail
    refine (known_true _).mono ?_
    rintro e wk ⟨rfl, hbk⟩
    go_wp2
    go_ret
    exact ⟨rfl, hbk⟩
  · have hq : ((((x0[i]?.getD 0).toNat : Nat) : Int) == ((x.toNat : Nat) : Int)) = false := by
      rw [List.getElem?_eq_getElem hil, beq_eq_false_iff_ne]
      intro h
      exact hx (UInt8.toNat_inj.1 (Int.ofNat_inj.1 (by simpa using h)))
    have hne := addN_set 0 x0 i hil x hx
    generalize (((x0[i]?.getD 0).toNat : Nat) : Int) = u at hcell hq
    obtain ⟨i5, hi, hz0, hz1, hz2⟩ := info_parts Try.info5
    go_enter Try.func5, Try.ntmps5
    go_wp2_with (at_builtin; refine wpList_append_rd (o := ⟨some 32, _, _, _, _, _⟩) rfl (.tmp 30) (.tmp 31) 22 rfl w.heap.size 5 i5 Try.underlying22 hi hz0 hz1 hz2 (.slice none 0 0) 0 [] rfl (World.ownsRow_nil _ _ _ _) (some ⟨b, off, none⟩) len0 cap0 x0 rfl w0 (by omega) (Nat.le_refl _) ?_)
    intro v' wa hown hgrow
    have hB := (Below.refl w.heap.size w).grown hgrow (Nat.le_refl _) (fun k e => by cases e)
    obtain ⟨g, c, rfl, hg, hci⟩ := owns_some hown (by omega)
    have hfr := hown.frozenAt i
    have hcl : wa.cell? ⟨g, i, none⟩ = (bvs x0)[i]? := hown.cellAt i (by omega)
    rw [bvs_at x0 i hil] at hcl
    have hst := hown.stored i (.int .u8 (x.toNat : Int))
    rw [← bvs_set] at hst
    have HS := Lib.hid hst
    have HR := Lib.hid w0
    clear hgrow hcell hst
    have i4 : (0 : Int) ≤ (i : Int) := by omega
    have i5 : (i : Int) < (len0 : Int) := by omega
    go_wp2_with fail
    have hrd := rd_of_owns HS.out.1 (by omega)
    have hB2 := hB.setCell (p := ⟨g, i, none⟩) hg (.int .u8 (x.toNat : Int))
    have r0 := HR.out.later hB2
    refine (sum_any _ _ _ _ _ hrd).mono ?_
    rintro e wc ⟨rfl, hbc⟩
    have hBc := hB2.trans (hbc.mono hB2.size)
    go_wp2_with fail
    refine (sum_any _ _ _ _ _ (r0.later hbc)).mono ?_
    rintro e wd ⟨rfl, hbd⟩
    have hBd := hBc.trans (hbd.mono hBc.size)
    have hq2 : (((addN 0 (x0.set i x) : Nat) : Int) == ((addN 0 x0 : Nat) : Int)) = false := by
      rw [beq_eq_false_iff_ne]; omega
    have hq3 : (((addN 0 (x0.set i x) : Nat) : Int) != ((addN 0 x0 : Nat) : Int)) = true := by
      rw [bne, hq2]; rfl
    generalize ((addN 0 (x0.set i x) : Nat) : Int) = p1 at hq2 hq3 ⊢
    generalize ((addN 0 x0 : Nat) : Int) = p2 at hq2 hq3 ⊢
    clear hne
    go_wp2_with fail
    refine (known_true _).mono ?_
    rintro e wk ⟨rfl, hbk⟩
    go_wp2
    go_ret
    exact ⟨rfl, hBd.trans (hbk.mono hBd.size)⟩

theorem walk (a0 : Option Addr) (len0 cap0 : Nat) (x0 : List UInt8) (n0 : len0 ≤ 140737488351232) (a1 : Int) (a2 : Int) (w : World) (w0 : Rd w a0 len0 cap0 x0) (w1 : (Lit.int .i64 a1).wf = true) (w2 : (Lit.int .u8 a2).wf = true) :
    Calls Try.prog 5 #[.slice a0 len0 cap0, .int .i64 a1, .int .u8 a2] w fun e w' => e = .returned (.bool true) ∧ Below w.heap.size w w' := by
  obtain ⟨x, rfl⟩ := byte_of_wf w2
  by_cases h1 : (10000 : Int) < len0
  · exact walk_big _ _ _ _ _ w n0 h1
  · by_cases h2 : a1 < 0
    · exact walk_neg _ _ _ _ _ w h1 h2
    · by_cases h3 : (len0 : Int) ≤ a1
      · exact walk_past _ _ _ _ _ w h1 h2 h3
      · obtain ⟨i, rfl⟩ := Int.eq_ofNat_of_zero_le (a := a1) (by omega)
        exact walk_at _ _ _ x0 i x w w0 (by omega) (by omega)

theorem own : ownKnob Try.prog.godebug = none := by kernel_rfl
theorem laidOut : laidOutB Try.prog = true := by kernel_rfl

/-! ### THE ROW's STEP: WRITTEN OUT: LEAVE IT -/
set_option maxRecDepth 100000 in
theorem lifted (os : Os) (started : os.Started) (H : Type) (enc : TypeId × Value → H) :
    ReturnsInHanded {} Try.checked os 5 .any (Rows.crcByteSpec.pre6 enc Try.prog Try.f5 Rows.crcByteRow.domain false) (Rows.crcByteSpec.post enc Try.prog Try.f5 false true false false) := by
  refine returnsInHanded_of_change_sized (C := Try.checked) own started (by kernel_rfl) Try.func5
    (ChangeSpec.witness6 (enc := enc) (C := Try.checked) false ⟨#[], #[.slice none 0 0, .int .i64 0, .int .u8 0], []⟩ 8 (by kernel_rfl) (by kernel_rfl) (by kernel_rfl) (by kernel_rfl)) ?_
  intro W base args ds gs before hval0 hW hcnd hsz0 _
  have hsz : (DataW.weightsEach Try.prog (Try.f5.params.toList ++ Rows.crcByteSpec.plain.varTypes Try.prog) (ds ++ gs)).all (· ≤ reachBytes) = true := hsz0
  clear hsz0
  have hval : ∀ (j : Nat) t v, Try.f5.params[j]? = some t → args[j]? = some v → Value.okWide Try.prog W .any base t v := hval0
  have hW' := hW
  obtain ⟨p, q, hA0, hV, rfl, hfz, hnd⟩ := hW
  have hA : DataW.TrodAll enc Try.prog W 0 (fun _ => true) true Try.f5.params.toList args.toList ds p := hA0
  rw [Try.params5] at hA hval hsz
  obtain ⟨v0, vs0, d0, ds0, p0, q0, hargs, rfl, rfl, h0, r0⟩ := trodAll_cons hA
  obtain ⟨v1, vs1, d1, ds1, p1, q1, rfl, rfl, rfl, h1, r1⟩ := trodAll_cons r0
  obtain ⟨v2, vs2, d2, ds2, p2, q2, rfl, rfl, rfl, h2, r2⟩ := trodAll_cons r1
  obtain ⟨rfl, rfl, rfl⟩ := trodAll_nil r2
  obtain rfl : args = #[v0, v1, v2] := by cases args; simp_all
  obtain ⟨rfl, rfl⟩ := trodVars_none hV
  obtain ⟨a0, len0, cap0, rfl⟩ := okWide_slice Try.underlying22 (hval 0 22 v0 rfl rfl)
  have k0 := h0
  have lt0 : ∀ x ∈ p0, x.block < W.heap.size := by obtain ⟨m, hm⟩ := k0; exact DataW.trod_lt m _ _ _ hm
  obtain ⟨x0, w0, n0⟩ : ∃ xs, Rd W a0 len0 cap0 xs ∧ len0 ≤ 140737488351232 := by
    obtain ⟨fuel, hf⟩ := h0
    rcases open_ints Try.underlying22 Try.underlying5 (by kernel_rfl) hf with ⟨hcs, _⟩ | ⟨x, l, c, zs, hcs, _, hl, hm, hz, hx, hcell, hwz⟩
    · simp [Value.cells] at hcs
      obtain ⟨rfl, rfl, rfl⟩ := hcs
      exact ⟨[], rd_nil W, by omega⟩
    · simp [Value.cells] at hcs
      obtain ⟨rfl, rfl, rfl⟩ := hcs
      simp only [Prod.mk.injEq] at hx
      obtain ⟨rfl, _⟩ := hx
      simp only [if_true] at hz
      have hr : cap0 ≤ 140737488351232 := by
        have := sized_slice hsz (j := 0) (t := 22) (e := 5) rfl rfl Try.underlying22
        rw [show Try.prog.bytesOf 5 = 1 from by kernel_rfl] at this
        simp only [lits, List.length_map, List.length_take, List.length_drop, reachBytes] at this
        omega
      exact ⟨_, rd_of_ints hl hm hr hz hcell hwz, by omega⟩
  obtain ⟨a1, rfl, rfl, rfl, w1⟩ := open_int Try.underlying3 (hval 1 3 v1 rfl rfl) h1
  obtain ⟨a2, rfl, rfl, rfl, w2⟩ := open_int Try.underlying5 (hval 2 5 v2 rfl rfl) h2
  clear hA0 hval0
  refine (walk a0 len0 cap0 x0 n0 a1 a2 W w0 w1 w2).mono fun e W' ⟨he, bel⟩ => ?_
  subst he
  exact ⟨_, rfl, _, _, _, [], _, [], hW', trodAll_mk1 (shut_bool Try.underlying4 _), (trodAll_cons_mk (Below.trod laidOut (by kernel_rfl) (of_decide_eq_true (by kernel_rfl)) k0 bel lt0) (trodAll_cons_mk (shut_int Try.underlying3 w1) (trodAll_cons_mk (shut_int Try.underlying5 w2) trodAll_mk0))), rfl, bel.frame _, fun h => by cases h⟩

theorem over : Rows.crcByteRow.holds Try.pinned (OpenSpec.ofChange Rows.crcByteSpec) :=
  OpenClaim.holds_of_wide 5 Try.f5 rfl rfl rfl rfl rfl rfl rfl ⟨rfl, rfl, rfl, rfl, rfl⟩ rfl rfl rfl rfl rfl (by kernel_rfl) Try.func5 (by kernel_rfl)
    (of_decide_eq_true (by kernel_rfl)) (by unfold Func.isWrapper; first | (rw [if_pos (by decide +kernel)]; kernel_rfl) | (rw [if_neg (by decide +kernel)]; exact ⟨rfl, rfl⟩))
    (fun os started H enc _ => lifted os started H enc)

/-- ████ THE STATEMENT ████ -/
theorem proved : Rows.CrcByteSaid := over
#print axioms proved
end Go.Proofs.Ytomgfjbcnlkfpaa.crcByte

/-
  'WordReads' holds: whatever is read from any bytes, one after another: each answer, how many are left, and why no more can be read, are what the document says; the fixed calls come out as they must. No condition: every list of bytes, every list of things asked (the law looks at the first hundred).
-/
import Derived.Test.YtdedkaolghodoaaA9
import Derived.Test.YtdedkaolghodoaaB1
import Derived.ProofKit
import Derived.OpenShut
import Derived.ChangeOld
import Derived.Below
import Derived.SizedLaws
import Derived.Deep.SlicePairs
namespace Go.Proofs.Ytdedkaolghodoaa.wordReads
open Go.ChangeShapes Go.WideShapes Go.ChangeAt Go.RowKit
set_option linter.unusedVariables false

def boolOf : Value → Bool | .bool b => b | _ => false

theorem asks_of_pairs {w : World} {H : Type} {x : Addr} {l c m : Nat} {V0 V1 : Nat → Value} {Y0 Y1 : Nat → DataW H × List MemPlace} (hbig : l ≤ 140737488351232) (hm : m = c) (hl : l ≤ c)
    (hi : ∀ i, i < m → w.cell? (x.add (i * 2)) = some (V0 i) ∧ w.cell? (x.add (i * 2 + 1)) = some (V1 i) ∧
      (∃ b, [V0 i] = [Value.bool b] ∧ Y0 i = (.lit (.bool b), [])) ∧ (∃ n, [V1 i] = [Value.int .i64 n] ∧ Y1 i = (.lit (.int .i64 n), []) ∧ (Lit.int .i64 n).wf = true)) :
    Asks w (some x) l w.heap.size ((List.range l).map fun i => (boolOf (V0 i), intOf (V1 i))) := by
  refine ⟨by simp, by omega, fun h0 => ?_⟩
  obtain ⟨b, off, spot⟩ := x
  have hc := (hi 0 (by omega)).2.1
  have hb := World.block_lt_of_cell? w _ hc
  have hspot : spot = none := by
    have := (hi 0 (by omega)).1
    simpa [Addr.add] using World.cell?_spot this
  subst hspot
  rw [Addr.add_none] at hb
  refine ⟨b, off, rfl, hb, fun i hi' => ?_⟩
  obtain ⟨h1, h2, ⟨bb, e1, _⟩, ⟨n, e2, _, _⟩⟩ := hi i (by omega)
  rw [Addr.add_none] at h1 h2
  simp only [List.cons.injEq, and_true] at e1 e2
  have e3 : ((List.range l).map fun i => (boolOf (V0 i), intOf (V1 i)))[i]?.getD (false, 0) = (bb, n) := by
    simp [hi', e1, e2, boolOf, intOf]
  rw [e3]
  rw [e1] at h1
  rw [e2, ← Nat.add_assoc] at h2
  exact ⟨h1, h2⟩

theorem walk (a0 : Option Addr) (len0 cap0 : Nat) (x0 : List UInt8) (n0 : len0 ≤ 140737488351232) (a1 : Option Addr) (len1 cap1 : Nat) (x1 : List (Bool × Int)) (w : World) (w0 : Rd w a0 len0 cap0 x0) (w1 : Asks w a1 len1 w.heap.size x1) :
    Calls Try.prog 5 #[.slice a0 len0 cap0, .slice a1 len1 cap1] w fun e w' => e = .returned (.bool true) ∧ Below w.heap.size w w' :=
  reads_walk a0 len0 cap0 x0 a1 len1 cap1 x1 w w0 w1

theorem own : ownKnob Try.prog.godebug = none := by kernel_rfl
theorem laidOut : laidOutB Try.prog = true := by kernel_rfl

/-! ### THE ROW's STEP: WRITTEN OUT: LEAVE IT -/
set_option maxRecDepth 100000 in
theorem lifted (os : Os) (started : os.Started) (H : Type) (enc : TypeId × Value → H) :
    ReturnsInHanded {} Try.checked os 5 .any (Rows.wordReadsSpec.pre6 enc Try.prog Try.f5 Rows.wordReadsRow.domain false) (Rows.wordReadsSpec.post enc Try.prog Try.f5 false true false false) := by
  refine returnsInHanded_of_change_sized (C := Try.checked) own started (by kernel_rfl) Try.func5
    (ChangeSpec.witness6 (enc := enc) (C := Try.checked) false ⟨#[], #[.slice none 0 0, .slice none 0 0], []⟩ 8 (by kernel_rfl) (by kernel_rfl) (by kernel_rfl) (by kernel_rfl)) ?_
  intro W base args ds gs before hval0 hW hcnd hsz0 _
  have hsz : (DataW.weightsEach Try.prog (Try.f5.params.toList ++ Rows.wordReadsSpec.plain.varTypes Try.prog) (ds ++ gs)).all (· ≤ reachBytes) = true := hsz0
  clear hsz0
  have hval : ∀ (j : Nat) t v, Try.f5.params[j]? = some t → args[j]? = some v → Value.okWide Try.prog W .any base t v := hval0
  have hW' := hW
  obtain ⟨p, q, hA0, hV, rfl, hfz, hnd⟩ := hW
  have hA : DataW.TrodAll enc Try.prog W 0 (fun _ => true) true Try.f5.params.toList args.toList ds p := hA0
  rw [Try.params5] at hA hval hsz
  obtain ⟨v0, vs0, d0, ds0, p0, q0, hargs, rfl, rfl, h0, r0⟩ := trodAll_cons hA
  obtain ⟨v1, vs1, d1, ds1, p1, q1, rfl, rfl, rfl, h1, r1⟩ := trodAll_cons r0
  obtain ⟨rfl, rfl, rfl⟩ := trodAll_nil r1
  obtain rfl : args = #[v0, v1] := by cases args; simp_all
  obtain ⟨rfl, rfl⟩ := trodVars_none hV
  obtain ⟨a0, len0, cap0, rfl⟩ := okWide_slice Try.underlying22 (hval 0 22 v0 rfl rfl)
  have k0 := h0
  have lt0 : ∀ x ∈ p0, x.block < W.heap.size := by obtain ⟨m, hm⟩ := k0; exact DataW.trod_lt m _ _ _ hm
  obtain ⟨x0, w0, n0⟩ : ∃ xs, Rd W a0 len0 cap0 xs ∧ len0 ≤ 140737488351232 := by
    obtain ⟨fuel, hf⟩ := h0
    rcases open_ints Try.underlying22 Try.underlying5 (by kernel_rfl) hf with ⟨hcs, _⟩ | ⟨x, l, c, zs, hcs, _, hl, hm, hz, hx, hcell, hwz⟩
    · simp [Value.cells] at hcs
      obtain ⟨rfl, rfl, rfl⟩ := hcs
      exact ⟨[], rd_nil W, by omega⟩
    · simp [Value.cells] at hcs
      obtain ⟨rfl, rfl, rfl⟩ := hcs
      simp only [Prod.mk.injEq] at hx
      obtain ⟨rfl, _⟩ := hx
      simp only [if_true] at hz
      have hr : cap0 ≤ 140737488351232 := by
        have := sized_slice hsz (j := 0) (t := 22) (e := 5) rfl rfl Try.underlying22
        rw [show Try.prog.bytesOf 5 = 1 from by kernel_rfl] at this
        simp only [lits, List.length_map, List.length_take, List.length_drop, reachBytes] at this
        omega
      exact ⟨_, rd_of_ints hl hm hr hz hcell hwz, by omega⟩
  obtain ⟨a1, len1, cap1, rfl⟩ := okWide_slice Try.underlying32 (hval 1 32 v1 rfl rfl)
  have k1 := h1
  have lt1 : ∀ x ∈ p1, x.block < W.heap.size := by obtain ⟨m, hm⟩ := k1; exact DataW.trod_lt m _ _ _ hm
  obtain ⟨x1, w1⟩ : ∃ L, Asks W a1 len1 W.heap.size L := by
    obtain ⟨fuel, hf⟩ := h1
    rcases Go.Deep.open_slice_pairs Try.underlying32 Try.underlying39 (by kernel_rfl) rfl rfl (by kernel_rfl) (by kernel_rfl) hf with ⟨hcs, _⟩ | ⟨x, l, c, m, n, V0, V1, D0, D1, P0, P1, hcs, _, hl, hm, hmm, hx, hi⟩
    · simp [Value.cells] at hcs
      obtain ⟨rfl, rfl, rfl⟩ := hcs
      exact ⟨[], rfl, by omega, fun h => by omega⟩
    · simp [Value.cells] at hcs
      obtain ⟨rfl, rfl, rfl⟩ := hcs
      simp only [Prod.mk.injEq] at hx
      obtain ⟨rfl, _⟩ := hx
      simp only [if_true] at hmm
      have hr : len1 ≤ 140737488351232 := by
        have := sized_slice hsz (j := 1) (t := 32) (e := 39) rfl rfl Try.underlying32
        rw [show Try.prog.bytesOf 39 = 16 from by kernel_rfl] at this
        simp only [List.length_map, List.length_range, reachBytes] at this
        omega
      exact ⟨_, asks_of_pairs (by omega) hmm hl (fun i hi' => ⟨(hi i hi').1, (hi i hi').2.1, DataW.trod_bool Try.underlying4 (hi i hi').2.2.1, DataW.trod_int Try.underlying3 (hi i hi').2.2.2⟩)⟩
  clear hA0 hval0
  refine (walk a0 len0 cap0 x0 n0 a1 len1 cap1 x1 W w0 w1).mono fun e W' ⟨he, bel⟩ => ?_
  subst he
  exact ⟨_, rfl, _, _, _, [], _, [], hW', trodAll_mk1 (shut_bool Try.underlying4 _), (trodAll_cons_mk (Below.trod laidOut (by kernel_rfl) (of_decide_eq_true (by kernel_rfl)) k0 bel lt0) (trodAll_cons_mk (Below.trod laidOut (by kernel_rfl) (of_decide_eq_true (by kernel_rfl)) k1 bel lt1) trodAll_mk0)), rfl, bel.frame _, fun h => by cases h⟩

theorem over : Rows.wordReadsRow.holds Try.pinned (OpenSpec.ofChange Rows.wordReadsSpec) :=
  OpenClaim.holds_of_wide 5 Try.f5 rfl rfl rfl rfl rfl rfl rfl ⟨rfl, rfl, rfl, rfl, rfl⟩ rfl rfl rfl rfl rfl (by kernel_rfl) Try.func5 (by kernel_rfl)
    (of_decide_eq_true (by kernel_rfl)) (by unfold Func.isWrapper; first | (rw [if_pos (by decide +kernel)]; kernel_rfl) | (rw [if_neg (by decide +kernel)]; exact ⟨rfl, rfl⟩))
    (fun os started H enc _ => lifted os started H enc)

/-- ████ THE STATEMENT ████ -/
theorem proved : Rows.WordReadsSaid := over
#print axioms proved
end Go.Proofs.Ytdedkaolghodoaa.wordReads

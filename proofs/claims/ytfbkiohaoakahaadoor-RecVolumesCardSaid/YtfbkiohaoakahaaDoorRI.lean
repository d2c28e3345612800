/-
  A configuration as an argument: opened and shut.
-/
import Derived.Test.YtfbkiohaoakahaaDoorRH
import Derived.ProofKit
import Derived.OpenShut
import Derived.ChangeOld
import Derived.Below
namespace Go.Proofs.YtfbkiohaoakahaaDoor
open Go.ChangeShapes Go.WideShapes Go.ChangeAt Go.RowKit
set_option linter.unusedVariables false
set_option linter.unusedSimpArgs false

def geoD {H : Type} (N F C U : Int) : DataW H := .agg [.lit (.int .i64 N), .lit (.int .i64 F), .lit (.int .i64 C), .lit (.int .i64 U)]
def confD {H : Type} (V N F C U L : Int) : DataW H := .agg [.lit (.int .u32 V), geoD N F C U, .lit (.int .u64 L)]

section
variable {H : Type} {enc : TypeId × Value → H} {w : World} {base : Nat} {spare : Nat → Bool} {held : Bool}

set_option maxRecDepth 100000 in
theorem open_conf {r : Reach} {b0 : Nat} {v : Value} {d : DataW H} {ps : List MemPlace} (hval : Value.okWide Tryd.prog w r b0 36 v) (hd : DataW.Trod enc Tryd.prog w base spare held 36 v d ps) :
    ∃ V N F C U L, v = conf V N F C U L ∧ d = confD V N F C U L ∧ ps = [] ∧ (Lit.int .u32 V).wf = true ∧ (Lit.int .i64 N).wf = true ∧ (Lit.int .i64 F).wf = true ∧ (Lit.int .i64 C).wf = true ∧ (Lit.int .i64 U).wf = true ∧ (Lit.int .u64 L).wf = true := by
  obtain ⟨cs, rfl, hsz⟩ := okWide_struct Tryd.underlying36 hval
  rw [show Tryd.prog.cellsOf 36 = 6 from by kernel_rfl] at hsz
  obtain ⟨l⟩ := cs
  match l, hsz with
  | [c0, c1, c2, c3, c4, c5], _ =>
  obtain ⟨fuel, hf⟩ := hd
  obtain ⟨xs, n, _, hx, _, hlen, hfs⟩ := DataW.trod_struct Tryd.underlying36 hf
  match xs, hlen with
  | [y0, y1, y2], _ =>
  have h0 := hfs 0 _ rfl
  have h1 := hfs 1 _ rfl
  have h2 := hfs 2 _ rfl
  simp only [List.getElem?_cons_zero, List.getElem?_cons_succ] at h0 h1 h2
  have k3 : Tryd.prog.cellsOf 3 = 1 := by kernel_rfl
  have k31 : Tryd.prog.cellsOf 31 = 1 := by kernel_rfl
  have k34 : Tryd.prog.cellsOf 34 = 1 := by kernel_rfl
  have k33 : Tryd.prog.cellsOf 33 = 4 := by kernel_rfl
  obtain ⟨V, e0, rfl, w0⟩ := DataW.trod_int Tryd.underlying31 h0
  obtain ⟨L, e2, rfl, w2⟩ := DataW.trod_int Tryd.underlying34 h2
  have h1' : DataW.trod enc Tryd.prog w base spare held n 33 [c1, c2, c3, c4] = some y1 := by
    have := h1
    simpa [Value.cells, k33] using this
  obtain ⟨zs, m, rfl, hz, _, hzl, hzs⟩ := DataW.trod_struct Tryd.underlying33 h1'
  match zs, hzl with
  | [z0, z1, z2, z3], _ =>
  have g0 := hzs 0 _ rfl
  have g1 := hzs 1 _ rfl
  have g2 := hzs 2 _ rfl
  have g3 := hzs 3 _ rfl
  simp only [List.getElem?_cons_zero, List.getElem?_cons_succ] at g0 g1 g2 g3
  obtain ⟨N, f0, rfl, x0⟩ := DataW.trod_int Tryd.underlying3 g0
  obtain ⟨F, f1, rfl, x1⟩ := DataW.trod_int Tryd.underlying3 g1
  obtain ⟨C, f2, rfl, x2⟩ := DataW.trod_int Tryd.underlying3 g2
  obtain ⟨U, f3, rfl, x3⟩ := DataW.trod_int Tryd.underlying3 g3
  simp [Value.cells, k31, k34] at e0 e2
  simp [k3] at f0 f1 f2 f3
  subst e0 e2 f0 f1 f2 f3 hz
  simp only [Prod.mk.injEq] at hx
  obtain ⟨rfl, rfl⟩ := hx
  exact ⟨V, N, F, C, U, L, rfl, rfl, rfl, w0, x0, x1, x2, x3, w2⟩

set_option maxRecDepth 100000 in
theorem shut_conf {V N F C U L : Int} (w0 : (Lit.int .u32 V).wf = true) (x0 : (Lit.int .i64 N).wf = true) (x1 : (Lit.int .i64 F).wf = true) (x2 : (Lit.int .i64 C).wf = true) (x3 : (Lit.int .i64 U).wf = true) (w2 : (Lit.int .u64 L).wf = true) :
    DataW.Trod enc Tryd.prog w base spare held 36 (conf V N F C U L) (confD V N F C U L) [] := by
  refine ⟨3, ?_⟩
  have k3 : Tryd.prog.cellsOf 3 = 1 := by kernel_rfl
  have k31 : Tryd.prog.cellsOf 31 = 1 := by kernel_rfl
  have k34 : Tryd.prog.cellsOf 34 = 1 := by kernel_rfl
  have k33 : Tryd.prog.cellsOf 33 = 4 := by kernel_rfl
  have hg := trod_struct_mk (enc := enc) (P := Tryd.prog) (w := w) (base := base) (spare := spare) (held := held) (n := 1) (cs := [.int .i64 N, .int .i64 F, .int .i64 C, .int .i64 U])
    (xs := [(.lit (.int .i64 N), []), (.lit (.int .i64 F), []), (.lit (.int .i64 C), []), (.lit (.int .i64 U), [])]) Tryd.underlying33 (by kernel_rfl) (by
      simp [k3, trod_int_mk 0 Tryd.underlying3 x0, trod_int_mk 0 Tryd.underlying3 x1, trod_int_mk 0 Tryd.underlying3 x2, trod_int_mk 0 Tryd.underlying3 x3])
  have := trod_struct_mk (enc := enc) (P := Tryd.prog) (w := w) (base := base) (spare := spare) (held := held) (n := 2) (cs := [.int .u32 V, .int .i64 N, .int .i64 F, .int .i64 C, .int .i64 U, .int .u64 L])
    (xs := [(.lit (.int .u32 V), []), (geoD N F C U, []), (.lit (.int .u64 L), [])]) Tryd.underlying36 (by kernel_rfl) (by
      simp [k31, k33, k34, trod_int_mk 1 Tryd.underlying31 w0, trod_int_mk 1 Tryd.underlying34 w2]
      simp [Value.cells, geoD] at hg ⊢
      rw [hg]
      rfl)
  simpa [Value.cells, conf, confD] using this
end
end Go.Proofs.YtfbkiohaoakahaaDoor


/-
  A geometry as an argument: opened and shut.
-/
import Derived.Test.YtlockgfokfhokaaDoorGG
import Derived.ProofKit
import Derived.OpenShut
import Derived.ChangeOld
import Derived.Below
namespace Go.Proofs.YtlockgfokfhokaaDoor
open Go.ChangeShapes Go.WideShapes Go.ChangeAt Go.RowKit
set_option linter.unusedVariables false
set_option linter.unusedSimpArgs false

def geoD {H : Type} (N F C U : Int) : DataW H := .agg [.lit (.int .i64 N), .lit (.int .i64 F), .lit (.int .i64 C), .lit (.int .i64 U)]

section
variable {H : Type} {enc : TypeId × Value → H} {w : World} {base : Nat} {spare : Nat → Bool} {held : Bool}

set_option maxRecDepth 20000 in
theorem open_geo {r : Reach} {b0 : Nat} {v : Value} {d : DataW H} {ps : List MemPlace} (hval : Value.okWide Tryd.prog w r b0 23 v) (hd : DataW.Trod enc Tryd.prog w base spare held 23 v d ps) :
    ∃ N F C U, v = geo N F C U ∧ d = geoD N F C U ∧ ps = [] ∧ (Lit.int .i64 N).wf = true ∧ (Lit.int .i64 F).wf = true ∧ (Lit.int .i64 C).wf = true ∧ (Lit.int .i64 U).wf = true := by
  obtain ⟨cs, rfl, hsz⟩ := okWide_struct Tryd.underlying23 hval
  rw [show Tryd.prog.cellsOf 23 = 4 from by kernel_rfl] at hsz
  obtain ⟨l⟩ := cs
  match l, hsz with
  | [c0, c1, c2, c3], _ =>
  obtain ⟨fuel, hf⟩ := hd
  obtain ⟨xs, n, _, hx, _, hlen, hfs⟩ := DataW.trod_struct Tryd.underlying23 hf
  match xs, hlen with
  | [y0, y1, y2, y3], _ =>
  have h0 := hfs 0 _ rfl
  have h1 := hfs 1 _ rfl
  have h2 := hfs 2 _ rfl
  have h3 := hfs 3 _ rfl
  simp only [List.getElem?_cons_zero, List.getElem?_cons_succ] at h0 h1 h2 h3
  obtain ⟨N, e0, rfl, w0⟩ := DataW.trod_int Tryd.underlying3 h0
  obtain ⟨F, e1, rfl, w1⟩ := DataW.trod_int Tryd.underlying3 h1
  obtain ⟨C, e2, rfl, w2⟩ := DataW.trod_int Tryd.underlying3 h2
  obtain ⟨U, e3, rfl, w3⟩ := DataW.trod_int Tryd.underlying3 h3
  have k3 : Tryd.prog.cellsOf 3 = 1 := by kernel_rfl
  simp [Value.cells, k3] at e0 e1 e2 e3
  subst e0 e1 e2 e3
  simp only [Prod.mk.injEq] at hx
  obtain ⟨rfl, rfl⟩ := hx
  exact ⟨N, F, C, U, rfl, rfl, rfl, w0, w1, w2, w3⟩

set_option maxRecDepth 20000 in
theorem shut_geo {N F C U : Int} (w0 : (Lit.int .i64 N).wf = true) (w1 : (Lit.int .i64 F).wf = true) (w2 : (Lit.int .i64 C).wf = true) (w3 : (Lit.int .i64 U).wf = true) :
    DataW.Trod enc Tryd.prog w base spare held 23 (geo N F C U) (geoD N F C U) [] := by
  refine ⟨2, ?_⟩
  have := trod_struct_mk (enc := enc) (P := Tryd.prog) (w := w) (base := base) (spare := spare) (held := held) (n := 1) (cs := [.int .i64 N, .int .i64 F, .int .i64 C, .int .i64 U])
    (xs := [(.lit (.int .i64 N), []), (.lit (.int .i64 F), []), (.lit (.int .i64 C), []), (.lit (.int .i64 U), [])]) Tryd.underlying23 (by kernel_rfl) (by
      have k3 : Tryd.prog.cellsOf 3 = 1 := by kernel_rfl
      simp [k3, trod_int_mk 0 Tryd.underlying3 w0, trod_int_mk 0 Tryd.underlying3 w1, trod_int_mk 0 Tryd.underlying3 w2, trod_int_mk 0 Tryd.underlying3 w3])
  simpa [Value.cells, geo, geoD] using this

end
end Go.Proofs.YtlockgfokfhokaaDoor


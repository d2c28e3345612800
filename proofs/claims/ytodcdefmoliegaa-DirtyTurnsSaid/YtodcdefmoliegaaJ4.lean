/-
  A map as an argument: opened and shut.
-/
import Derived.Test.YtodcdefmoliegaaJ1
import Derived.ProofKit
import Derived.OpenShut
import Derived.ChangeOld
import Derived.Below
namespace Go.Proofs.Ytodcdefmoliegaa
open Go.ChangeShapes Go.WideShapes Go.ChangeAt Go.RowKit
set_option linter.unusedVariables false
set_option linter.unusedSimpArgs false

def msetD {H : Type} (a b : Nat) : DataW H := .agg [.lit (.int .u64 (a : Int)), .lit (.int .u64 (b : Int))]
def mapD {H : Type} (a b c d e : Nat) : DataW H := .agg [msetD a b, msetD c d, .lit (.int .u64 (e : Int))]
theorem mu64_nat {x : Int} (h : (Lit.int .u64 x).wf = true) : ∃ n : Nat, x = (n : Int) ∧ n < 18446744073709551616 := by
  have := h
  have m0 : IntKind.u64.min = 0 := rfl
  have m1 : IntKind.u64.max = 18446744073709551615 := rfl
  simp [Lit.wf] at this
  exact ⟨x.toNat, by omega, by omega⟩
def W64 (n : Nat) : Prop := n < 18446744073709551616 ∧ (Lit.int .u64 (n : Int)).wf = true

section
variable {H : Type} {enc : TypeId × Value → H} {w : World} {base : Nat} {spare : Nat → Bool} {held : Bool}

theorem trod_mset {n : Nat} {c0 c1 : Value} {y : DataW H × List MemPlace} (h : DataW.trod enc Try.prog w base spare held n 24 [c0, c1] = some y) :
    ∃ a b : Nat, c0 = .int .u64 (a : Int) ∧ c1 = .int .u64 (b : Int) ∧ y = (msetD a b, []) ∧ W64 a ∧ W64 b := by
  obtain ⟨xs, m, _, hx, _, hlen, hfs⟩ := DataW.trod_array Try.underlying24 h
  match xs, hlen with
  | [y0, y1], _ =>
  have h0 := hfs 0 (by omega)
  have h1 := hfs 1 (by omega)
  simp only [List.getElem?_cons_zero, List.getElem?_cons_succ] at h0 h1
  obtain ⟨N, e0, rfl, w0⟩ := DataW.trod_int Try.underlying22 h0
  obtain ⟨F, e1, rfl, w1⟩ := DataW.trod_int Try.underlying22 h1
  have k3 : Try.prog.cellsOf 22 = 1 := by kernel_rfl
  simp [Value.cells, k3] at e0 e1
  subst e0 e1 hx
  obtain ⟨a, rfl, ha⟩ := mu64_nat w0
  obtain ⟨b, rfl, hb⟩ := mu64_nat w1
  exact ⟨a, b, rfl, rfl, rfl, ⟨ha, w0⟩, ⟨hb, w1⟩⟩

set_option maxRecDepth 100000 in
theorem open_map {r : Reach} {b0 : Nat} {v : Value} {d : DataW H} {ps : List MemPlace} (hval : Value.okWide Try.prog w r b0 26 v) (hd : DataW.Trod enc Try.prog w base spare held 26 v d ps) :
    ∃ a b c g e : Nat, v = mapV a b c g e ∧ d = mapD a b c g e ∧ ps = [] ∧ W64 a ∧ W64 b ∧ W64 c ∧ W64 g ∧ W64 e := by
  obtain ⟨cs, rfl, hsz⟩ := okWide_struct Try.underlying26 hval
  rw [show Try.prog.cellsOf 26 = 5 from by kernel_rfl] at hsz
  obtain ⟨l⟩ := cs
  match l, hsz with
  | [c0, c1, c2, c3, c4], _ =>
  obtain ⟨fuel, hf⟩ := hd
  obtain ⟨xs, n, _, hx, _, hlen, hfs⟩ := DataW.trod_struct Try.underlying26 hf
  match xs, hlen with
  | [y0, y1, y2], _ =>
  have h0 := hfs 0 _ rfl
  have h1 := hfs 1 _ rfl
  have h2 := hfs 2 _ rfl
  simp only [List.getElem?_cons_zero, List.getElem?_cons_succ] at h0 h1 h2
  have k34 : Try.prog.cellsOf 22 = 1 := by kernel_rfl
  have k33 : Try.prog.cellsOf 24 = 2 := by kernel_rfl
  obtain ⟨E, e2, rfl, w2⟩ := DataW.trod_int Try.underlying22 h2
  have h0' : DataW.trod enc Try.prog w base spare held n 24 [c0, c1] = some y0 := by
    have := h0
    simpa [Value.cells, k33] using this
  have h1' : DataW.trod enc Try.prog w base spare held n 24 [c2, c3] = some y1 := by
    have := h1
    simpa [Value.cells, k33] using this
  obtain ⟨a, b, rfl, rfl, rfl, wa, wb⟩ := trod_mset h0'
  obtain ⟨c, g, rfl, rfl, rfl, wc, wg⟩ := trod_mset h1'
  simp [Value.cells, k34] at e2
  subst e2
  obtain ⟨e, rfl, he⟩ := mu64_nat w2
  simp only [Prod.mk.injEq] at hx
  obtain ⟨rfl, rfl⟩ := hx
  exact ⟨a, b, c, g, e, rfl, rfl, rfl, wa, wb, wc, wg, ⟨he, w2⟩⟩

set_option maxRecDepth 100000 in
theorem shut_map {a b c g e : Nat} (wa : W64 a) (wb : W64 b) (wc : W64 c) (wg : W64 g) (we : W64 e) :
    DataW.Trod enc Try.prog w base spare held 26 (mapV a b c g e) (mapD a b c g e) [] := by
  refine ⟨3, ?_⟩
  have k34 : Try.prog.cellsOf 22 = 1 := by kernel_rfl
  have k33 : Try.prog.cellsOf 24 = 2 := by kernel_rfl
  have hset : ∀ {x y : Nat}, W64 x → W64 y → DataW.trod enc Try.prog w base spare held 2 24 [.int .u64 (x : Int), .int .u64 (y : Int)] = some (msetD x y, []) := fun {x y} hx hy => by
    simp [DataW.trod, msetD, Try.underlying24, Try.underlying22, k34, k33, hx.2, hy.2, show List.range 2 = [0, 1] from rfl]
  have := trod_struct_mk (enc := enc) (P := Try.prog) (w := w) (base := base) (spare := spare) (held := held) (n := 2) (cs := [.int .u64 (a : Int), .int .u64 (b : Int), .int .u64 (c : Int), .int .u64 (g : Int), .int .u64 (e : Int)])
    (xs := [(msetD a b, []), (msetD c g, []), (.lit (.int .u64 (e : Int)), [])]) Try.underlying26 (by kernel_rfl) (by
      have h1 := hset wa wb
      have h2 := hset wc wg
      simp [k33, k34, trod_int_mk 1 Try.underlying22 we.2]
      rw [h1, h2]
      rfl)
  simpa [Value.cells, mapV, mapD] using this
end
end Go.Proofs.Ytodcdefmoliegaa


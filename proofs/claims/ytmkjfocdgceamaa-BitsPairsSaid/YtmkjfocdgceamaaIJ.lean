/-
  A set's array as an argument: opened and shut; a number.
-/
import Derived.Test.YtmkjfocdgceamaaIG
import Derived.ProofKit
import Derived.OpenShut
import Derived.ChangeOld
import Derived.Below
namespace Go.Proofs.Ytmkjfocdgceamaa
open Go.ChangeShapes Go.WideShapes Go.ChangeAt Go.RowKit
set_option linter.unusedVariables false
set_option linter.unusedSimpArgs false

def setD {H : Type} (a b : Nat) : DataW H := .agg [.lit (.int .u64 (a : Int)), .lit (.int .u64 (b : Int))]

theorem u64_nat {x : Int} (h : (Lit.int .u64 x).wf = true) : ∃ n : Nat, x = (n : Int) ∧ n < 18446744073709551616 := by
  have := h
  have m0 : IntKind.u64.min = 0 := rfl
  have m1 : IntKind.u64.max = 18446744073709551615 := rfl
  simp [Lit.wf] at this
  exact ⟨x.toNat, by omega, by omega⟩

theorem ri_of_ints {w : World} {x : Addr} {l c : Nat} {zs : List Int} (hl : l ≤ c) (hm : c ≤ maxLen) (hr : c ≤ 140737488351232) (hz : zs.length = c)
    (hcell : ∀ i, i < zs.length → w.cell? (x.add i) = some (.int .i64 (zs.getD i 0))) : Ri w (some x) l c (zs.take l) := by
  refine ⟨by simp; omega, hl, by omega, hm, fun h0 => ?_, fun e => by cases e⟩
  obtain ⟨b, off, spot⟩ := x
  have hc := hcell 0 (by omega)
  have hspot : spot = none := by simpa [Addr.add] using World.cell?_spot hc
  subst hspot
  have hb := World.block_lt_of_cell? w _ hc
  rw [Addr.add_none] at hb
  refine ⟨b, off, rfl, hb, fun i hi => ?_⟩
  have h1 := hcell i (by omega)
  rw [Addr.add_none] at h1
  rw [h1]
  have hi2 : i < zs.length := by omega
  have e1 : zs.getD i 0 = zs[i] := by simp [List.getD, List.getElem?_eq_getElem hi2]
  have e2 : (zs.take l)[i]?.getD 0 = zs[i] := by
    rw [List.getElem?_take_of_lt hi, List.getElem?_eq_getElem hi2]
    rfl
  rw [e1, e2]

section
variable {H : Type} {enc : TypeId × Value → H} {w : World} {base : Nat} {spare : Nat → Bool} {held : Bool}

theorem open_set {r : Reach} {b0 : Nat} {v : Value} {d : DataW H} {ps : List MemPlace} (hval : Value.okWide Try.prog w r b0 24 v) (hd : DataW.Trod enc Try.prog w base spare held 24 v d ps) :
    ∃ a b : Nat, v = setV a b ∧ d = setD a b ∧ ps = [] ∧ (Lit.int .u64 (a : Int)).wf = true ∧ (Lit.int .u64 (b : Int)).wf = true ∧ a < 18446744073709551616 ∧ b < 18446744073709551616 := by
  obtain ⟨cs, rfl, hsz⟩ : ∃ cs, v = .agg cs ∧ cs.size = Try.prog.cellsOf 24 := by
    have h1 := hval
    simp only [Value.okWide, Try.underlying24] at h1
    obtain ⟨cs, h1, h2, _⟩ := h1
    exact ⟨cs, h1, h2⟩
  rw [show Try.prog.cellsOf 24 = 2 from by kernel_rfl] at hsz
  obtain ⟨l⟩ := cs
  match l, hsz with
  | [c0, c1], _ =>
  obtain ⟨fuel, hf⟩ := hd
  obtain ⟨xs, n, _, hx, _, hlen, hfs⟩ := DataW.trod_array Try.underlying24 hf
  match xs, hlen with
  | [y0, y1], _ =>
  have h0 := hfs 0 (by omega)
  have h1 := hfs 1 (by omega)
  simp only [List.getElem?_cons_zero, List.getElem?_cons_succ] at h0 h1
  obtain ⟨N, e0, rfl, w0⟩ := DataW.trod_int Try.underlying23 h0
  obtain ⟨F, e1, rfl, w1⟩ := DataW.trod_int Try.underlying23 h1
  have k3 : Try.prog.cellsOf 23 = 1 := by kernel_rfl
  simp [Value.cells, k3] at e0 e1
  subst e0 e1
  simp only [Prod.mk.injEq] at hx
  obtain ⟨rfl, rfl⟩ := hx
  obtain ⟨a, rfl, ha⟩ := u64_nat w0
  obtain ⟨b, rfl, hb⟩ := u64_nat w1
  exact ⟨a, b, rfl, rfl, rfl, w0, w1, ha, hb⟩

theorem shut_set {a b : Nat} (w0 : (Lit.int .u64 (a : Int)).wf = true) (w1 : (Lit.int .u64 (b : Int)).wf = true) :
    DataW.Trod enc Try.prog w base spare held 24 (setV a b) (setD a b) [] := by
  have k3 : Try.prog.cellsOf 23 = 1 := by kernel_rfl
  have k2 : Try.prog.cellsOf 24 = 2 := by kernel_rfl
  exact ⟨2, by simp [DataW.trod, Value.cells, setV, setD, Try.underlying24, Try.underlying23, k2, k3, w0, w1, show List.range 2 = [0, 1] from rfl]⟩

end
end Go.Proofs.Ytmkjfocdgceamaa

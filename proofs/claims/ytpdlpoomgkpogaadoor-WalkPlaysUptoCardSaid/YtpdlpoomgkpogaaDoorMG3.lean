/-
  Texts put together: GD, GE, GF, GG, GI.
-/
import Derived.Test.YtpdlpoomgkpogaaDoorMG2
import Derived.Deep.RegionWith
import Derived.Deep.RegionHeld3
import Derived.Deep.DrawnRows
import Derived.BigRegion
import Derived.ProofKit
import Derived.OpenShut
import Derived.ChangeOld
import Derived.Below
/-
  Contracts of places: isSide, location, areaSectors, area, areaStart, Data, Size, Node, Area.
-/
namespace Go.Proofs.YtpdlpoomgkpogaaDoor
open Go.RowKit
set_option linter.unusedVariables false
set_option linter.unusedSimpArgs false

/-- How many sectors a side's area has. -/
def sec (C U side : Int) : Int := if side = 0 then 2 * C else 2 * U
def isS (side : Int) : Prop := side = 0 ∨ side = 1
instance (side : Int) : Decidable (isS side) := by unfold isS; infer_instance
def sizeOf' (N F C U side : Int) : Int := if okG N F C U ∧ isS side then 6 + N + nodes N F C U + sec C U side else 0
def dataAt (N F C U i : Int) : Int := if okG N F C U ∧ 0 ≤ i ∧ i < N then 6 + i else -1
def nodeAt (N F C U i : Int) : Int := if okG N F C U ∧ 0 ≤ i ∧ i < nodes N F C U then 6 + N + i else -1
def areaAt (N F C U side i : Int) : Int := if okG N F C U ∧ isS side ∧ 0 ≤ i ∧ i < sec C U side then 6 + N + nodes N F C U + i else -1




/-- The reference's area, whatever the numbers. -/
def rsec (C U side : Int) : Int := if side = 0 then wrap64 (2 * C) else if side = 1 then wrap64 (2 * U) else -1


theorem held_cells {w w1 : World} {N F C U : Int} (h : Below (w.heap.size + 1) (w.alloc (gbox N F C U)) w1) :
    (w1.drew.cell? ⟨w.heap.size, 0, none⟩ = some (.int .i64 N) ∧ w1.drew.cell? ⟨w.heap.size, 1, none⟩ = some (.int .i64 F) ∧ w1.drew.cell? ⟨w.heap.size, 2, none⟩ = some (.int .i64 C) ∧ w1.drew.cell? ⟨w.heap.size, 3, none⟩ = some (.int .i64 U)) ∧
    (∀ w', Below w1.drew.heap.size w1.drew w' → w'.cell? ⟨w.heap.size, 0, none⟩ = some (.int .i64 N) ∧ w'.cell? ⟨w.heap.size, 1, none⟩ = some (.int .i64 F) ∧ w'.cell? ⟨w.heap.size, 2, none⟩ = some (.int .i64 C) ∧ w'.cell? ⟨w.heap.size, 3, none⟩ = some (.int .i64 U)) ∧
    (∀ w', Below w1.drew.heap.size w1.drew w' → Below w.heap.size w w') := by
  have hsz : w.heap.size + 1 ≤ w1.heap.size := by have := h.size; simpa using this
  have hd := h.drew
  refine ⟨gbox_cells hd, fun w' hb => gbox_cells (hd.trans (hb.mono hsz)), fun w' hb => ?_⟩
  exact ((Below.refl w.heap.size w).alloc (Nat.le_refl _) (gbox N F C U)).trans ((hd.trans (hb.mono hsz)).mono (by omega))




end Go.Proofs.YtpdlpoomgkpogaaDoor
/-
  Contracts of Size and Area; the reference's Size, Data, Node, Area.
-/
namespace Go.Proofs.YtpdlpoomgkpogaaDoor
open Go.RowKit
set_option linter.unusedVariables false
set_option linter.unusedSimpArgs false

theorem sec_ok {N F C U side : Int} (hok : okG N F C U) : 0 ≤ sec C U side ∧ sec C U side ≤ 640 := by
  obtain ⟨_, _, _, _, h1, h2, h3, h4⟩ := hok
  unfold sec; split <;> omega
theorem rsec_ok {N F C U side : Int} (hok : okG N F C U) (hs : isS side) : rsec C U side = sec C U side := by
  obtain ⟨_, _, _, _, h1, h2, h3, h4⟩ := hok
  unfold rsec sec
  rcases hs with rfl | rfl
  · rw [if_pos rfl, if_pos rfl, IntWalk.wrap64_in _ (by omega)]
  · rw [if_neg (show ¬ (1 : Int) = 0 by omega), if_pos rfl, if_neg (show ¬ (1 : Int) = 0 by omega), IntWalk.wrap64_in _ (by omega)]
theorem rsec_no {C U side : Int} (hs : ¬ isS side) : rsec C U side = -1 := by
  unfold rsec
  rw [if_neg (fun h => hs (.inl h)), if_neg (fun h => hs (.inr h))]



end Go.Proofs.YtpdlpoomgkpogaaDoor
/-
  Contracts of the reference's Data, Node, Size, Area.
-/
namespace Go.Proofs.YtpdlpoomgkpogaaDoor
open Go.RowKit
set_option linter.unusedVariables false
set_option linter.unusedSimpArgs false





end Go.Proofs.YtpdlpoomgkpogaaDoor
/-
  Contract of Ints; known.
-/
namespace Go.Proofs.YtpdlpoomgkpogaaDoor
open Go.RowKit
set_option linter.unusedVariables false
set_option linter.unusedSimpArgs false


/-- A new block of ints is a list. -/
theorem li_new (w : World) (xs : List Int) (h : xs.length ≤ 1000) : Li (w.alloc (.cells (ivs xs).toArray 3)) (.slice (some ⟨w.heap.size, 0, none⟩) xs.length xs.length) xs := by
  refine ⟨_, _, _, rfl, rfl, Nat.le_refl _, by omega, by unfold maxLen; omega, fun _ => ⟨_, _, rfl, by simp, fun i hi => ?_⟩, fun e => by cases e⟩
  rw [World.cell?_alloc_at _ _ _ _ rfl]
  rw [Nat.zero_add]
  simp [ivs, List.getElem?_eq_getElem hi]


end Go.Proofs.YtpdlpoomgkpogaaDoor
/-
  A geometry as an argument: opened and shut.
-/
namespace Go.Proofs.YtpdlpoomgkpogaaDoor
open Go.ChangeShapes Go.WideShapes Go.ChangeAt Go.RowKit
set_option linter.unusedVariables false
set_option linter.unusedSimpArgs false

def geoD {H : Type} (N F C U : Int) : DataW H := .agg [.lit (.int .i64 N), .lit (.int .i64 F), .lit (.int .i64 C), .lit (.int .i64 U)]

section
variable {H : Type} {enc : TypeId × Value → H} {w : World} {base : Nat} {spare : Nat → Bool} {held : Bool}

set_option maxRecDepth 20000 in
theorem open_geo {r : Reach} {b0 : Nat} {v : Value} {d : DataW H} {ps : List MemPlace} (hval : Value.okWide Tryd.prog w r b0 23 v) (hd : DataW.Trod enc Tryd.prog w base spare held 23 v d ps) :
    ∃ N F C U, v = geo N F C U ∧ d = geoD N F C U ∧ ps = [] ∧ (Lit.int .i64 N).wf = true ∧ (Lit.int .i64 F).wf = true ∧ (Lit.int .i64 C).wf = true ∧ (Lit.int .i64 U).wf = true := by
  obtain ⟨cs, rfl, hsz⟩ := okWide_struct Tryd.underlying23 hval
  rw [show Tryd.prog.cellsOf 23 = 4 from by kernel_rfl] at hsz
  obtain ⟨l⟩ := cs
  match l, hsz with
  | [c0, c1, c2, c3], _ =>
  obtain ⟨fuel, hf⟩ := hd
  obtain ⟨xs, n, _, hx, _, hlen, hfs⟩ := DataW.trod_struct Tryd.underlying23 hf
  match xs, hlen with
  | [y0, y1, y2, y3], _ =>
  have h0 := hfs 0 _ rfl
  have h1 := hfs 1 _ rfl
  have h2 := hfs 2 _ rfl
  have h3 := hfs 3 _ rfl
  simp only [List.getElem?_cons_zero, List.getElem?_cons_succ] at h0 h1 h2 h3
  obtain ⟨N, e0, rfl, w0⟩ := DataW.trod_int Tryd.underlying3 h0
  obtain ⟨F, e1, rfl, w1⟩ := DataW.trod_int Tryd.underlying3 h1
  obtain ⟨C, e2, rfl, w2⟩ := DataW.trod_int Tryd.underlying3 h2
  obtain ⟨U, e3, rfl, w3⟩ := DataW.trod_int Tryd.underlying3 h3
  have k3 : Tryd.prog.cellsOf 3 = 1 := by kernel_rfl
  simp [Value.cells, k3] at e0 e1 e2 e3
  subst e0 e1 e2 e3
  simp only [Prod.mk.injEq] at hx
  obtain ⟨rfl, rfl⟩ := hx
  exact ⟨N, F, C, U, rfl, rfl, rfl, w0, w1, w2, w3⟩

set_option maxRecDepth 20000 in
theorem shut_geo {N F C U : Int} (w0 : (Lit.int .i64 N).wf = true) (w1 : (Lit.int .i64 F).wf = true) (w2 : (Lit.int .i64 C).wf = true) (w3 : (Lit.int .i64 U).wf = true) :
    DataW.Trod enc Tryd.prog w base spare held 23 (geo N F C U) (geoD N F C U) [] := by
  refine ⟨2, ?_⟩
  have := trod_struct_mk (enc := enc) (P := Tryd.prog) (w := w) (base := base) (spare := spare) (held := held) (n := 1) (cs := [.int .i64 N, .int .i64 F, .int .i64 C, .int .i64 U])
    (xs := [(.lit (.int .i64 N), []), (.lit (.int .i64 F), []), (.lit (.int .i64 C), []), (.lit (.int .i64 U), [])]) Tryd.underlying23 (by kernel_rfl) (by
      have k3 : Tryd.prog.cellsOf 3 = 1 := by kernel_rfl
      simp [k3, trod_int_mk 0 Tryd.underlying3 w0, trod_int_mk 0 Tryd.underlying3 w1, trod_int_mk 0 Tryd.underlying3 w2, trod_int_mk 0 Tryd.underlying3 w3])
  simpa [Value.cells, geo, geoD] using this

end
end Go.Proofs.YtpdlpoomgkpogaaDoor

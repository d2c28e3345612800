/-
  Texts put together: GD, GE, GF, GG, GI.
-/
import Derived.Test.YtojanhpilhledaaDoorMG2
import Derived.Deep.RegionWith
import Derived.Deep.RegionHeld3
import Derived.Deep.DrawnRows
import Derived.BigRegion
import Derived.ProofKit
import Derived.OpenShut
import Derived.ChangeOld
import Derived.Below
/-
  Contracts of places: isSide, location, areaSectors, area, areaStart, Data, Size, Node, Area.
-/
namespace Go.Proofs.YtojanhpilhledaaDoor
open Go.RowKit
set_option linter.unusedVariables false
set_option linter.unusedSimpArgs false

/-- How many sectors a side's area has. -/
def sec (C U side : Int) : Int := if side = 0 then 2 * C else 2 * U
def isS (side : Int) : Prop := side = 0 ∨ side = 1
instance (side : Int) : Decidable (isS side) := by unfold isS; infer_instance
def sizeOf' (N F C U side : Int) : Int := if okG N F C U ∧ isS side then 6 + N + nodes N F C U + sec C U side else 0
def dataAt (N F C U i : Int) : Int := if okG N F C U ∧ 0 ≤ i ∧ i < N then 6 + i else -1
def nodeAt (N F C U i : Int) : Int := if okG N F C U ∧ 0 ≤ i ∧ i < nodes N F C U then 6 + N + i else -1
def areaAt (N F C U side i : Int) : Int := if okG N F C U ∧ isS side ∧ 0 ≤ i ∧ i < sec C U side then 6 + N + nodes N F C U + i else -1




/-- The reference's area, whatever the numbers. -/
def rsec (C U side : Int) : Int := if side = 0 then wrap64 (2 * C) else if side = 1 then wrap64 (2 * U) else -1


theorem held_cells {w w1 : World} {N F C U : Int} (h : Below (w.heap.size + 1) (w.alloc (gbox N F C U)) w1) :
    (w1.drew.cell? ⟨w.heap.size, 0, none⟩ = some (.int .i64 N) ∧ w1.drew.cell? ⟨w.heap.size, 1, none⟩ = some (.int .i64 F) ∧ w1.drew.cell? ⟨w.heap.size, 2, none⟩ = some (.int .i64 C) ∧ w1.drew.cell? ⟨w.heap.size, 3, none⟩ = some (.int .i64 U)) ∧
    (∀ w', Below w1.drew.heap.size w1.drew w' → w'.cell? ⟨w.heap.size, 0, none⟩ = some (.int .i64 N) ∧ w'.cell? ⟨w.heap.size, 1, none⟩ = some (.int .i64 F) ∧ w'.cell? ⟨w.heap.size, 2, none⟩ = some (.int .i64 C) ∧ w'.cell? ⟨w.heap.size, 3, none⟩ = some (.int .i64 U)) ∧
    (∀ w', Below w1.drew.heap.size w1.drew w' → Below w.heap.size w w') := by
  have hsz : w.heap.size + 1 ≤ w1.heap.size := by have := h.size; simpa using this
  have hd := h.drew
  refine ⟨gbox_cells hd, fun w' hb => gbox_cells (hd.trans (hb.mono hsz)), fun w' hb => ?_⟩
  exact ((Below.refl w.heap.size w).alloc (Nat.le_refl _) (gbox N F C U)).trans ((hd.trans (hb.mono hsz)).mono (by omega))




end Go.Proofs.YtojanhpilhledaaDoor
/-
  Contracts of Size and Area; the reference's Size, Data, Node, Area.
-/
namespace Go.Proofs.YtojanhpilhledaaDoor
open Go.RowKit
set_option linter.unusedVariables false
set_option linter.unusedSimpArgs false

theorem sec_ok {N F C U side : Int} (hok : okG N F C U) : 0 ≤ sec C U side ∧ sec C U side ≤ 640 := by
  obtain ⟨_, _, _, _, h1, h2, h3, h4⟩ := hok
  unfold sec; split <;> omega
theorem rsec_ok {N F C U side : Int} (hok : okG N F C U) (hs : isS side) : rsec C U side = sec C U side := by
  obtain ⟨_, _, _, _, h1, h2, h3, h4⟩ := hok
  unfold rsec sec
  rcases hs with rfl | rfl
  · rw [if_pos rfl, if_pos rfl, IntWalk.wrap64_in _ (by omega)]
  · rw [if_neg (show ¬ (1 : Int) = 0 by omega), if_pos rfl, if_neg (show ¬ (1 : Int) = 0 by omega), IntWalk.wrap64_in _ (by omega)]
theorem rsec_no {C U side : Int} (hs : ¬ isS side) : rsec C U side = -1 := by
  unfold rsec
  rw [if_neg (fun h => hs (.inl h)), if_neg (fun h => hs (.inr h))]



end Go.Proofs.YtojanhpilhledaaDoor
/-
  Contracts of the reference's Data, Node, Size, Area.
-/
namespace Go.Proofs.YtojanhpilhledaaDoor
open Go.RowKit
set_option linter.unusedVariables false
set_option linter.unusedSimpArgs false





end Go.Proofs.YtojanhpilhledaaDoor
/-
  Contract of Ints; known.
-/
namespace Go.Proofs.YtojanhpilhledaaDoor
open Go.RowKit
set_option linter.unusedVariables false
set_option linter.unusedSimpArgs false

set_option maxRecDepth 20000 in
set_option maxHeartbeats 1000000 in
theorem ints_any (va vb : Value) (xs ys : List Int) (w : World) (ha : Li w va xs) (hb : Li w vb ys) :
    Calls Tryd.prog 28 #[va, vb] w fun e w' => e = .returned (.bool (decide (xs = ys))) ∧ Dr w w' := by
  obtain ⟨a, n, c, rfl, ha⟩ := ha
  obtain ⟨b, m, d, rfl, hb⟩ := hb
  have hn := ha.len
  have hm := hb.len
  have hnb := ha.big
  have hmb := hb.big
  go_enter Tryd.func28, Tryd.ntmps28
  by_cases hnm : n = m
  · subst hnm
    have HD := Lib.hid (show (∀ j : Nat, j < n → xs[j]?.getD 0 = ys[j]?.getD 0) → decide (xs = ys) = true from fun h => by
      rw [decide_eq_true_iff]
      apply List.ext_getElem?
      intro j
      by_cases hj : j < n
      · have := h j hj
        rw [List.getElem?_eq_getElem (by omega), List.getElem?_eq_getElem (by omega)] at this ⊢
        simpa using this
      · rw [List.getElem?_eq_none (by omega), List.getElem?_eq_none (by omega)])
    have HN := Lib.hid (show ∀ j : Nat, xs[j]?.getD 0 ≠ ys[j]?.getD 0 → decide (xs = ys) = false from fun j h => by
      rw [decide_eq_false_iff_not]
      intro e; exact h (by rw [e]))
    generalize decide (xs = ys) = B at *
    clear hn hm
    go_wp2
    go_loopw [5] (fun y wr => ∃ i : Nat, i ≤ n ∧ y = .int .i64 (i : Int) ∧ (∀ j, j < i → xs[j]?.getD 0 = ys[j]?.getD 0) ∧ Dr w wr) (fun y _ => n - (intOf y).toNat)
    case atStart => exact ⟨0, by omega, rfl, fun j hj => by omega, Dr.refl _⟩
    case round =>
      obtain ⟨i, hi, rfl, hall, hD⟩ := hrel
      by_cases hlt : i < n
      · obtain ⟨ba, oa, rfl, -, hca⟩ := (ha.later hD.below).at0 (by omega)
        obtain ⟨bb, ob, rfl, -, hcb⟩ := (hb.later hD.below).at0 (by omega)
        have k1 := hca i hlt
        have k2 := hcb i hlt
        have HDD := Lib.hid hD
        have hnx : xs[i]?.getD 0 = ys[i]?.getD 0 → ∀ j, j < i + 1 → xs[j]?.getD 0 = ys[j]?.getD 0 := fun h j hj => by
          by_cases e : j = i
          · subst e; exact h
          · exact hall j (by omega)
        have HX := Lib.hid hnx
        have HNI := Lib.hid (HN.out i)
        have i1 : (0 : Int) ≤ (i : Int) := by omega
        have i2 : (i : Int) < (n : Int) := by omega
        clear hca hcb hall hnx hD ha hb
        generalize hx : xs[i]?.getD 0 = x at *
        generalize hy : ys[i]?.getD 0 = y at *
        have HXX := Lib.hid hx
        have HYY := Lib.hid hy
        clear hx hy
        by_cases hxy : x = y
        · have hxy2 : (x == y) = true := by simpa using hxy
          have HXY := Lib.hid (HX.out hxy)
          subst hxy
          go_wp2
          go_quiet (fail)
          go_wp2
          go_roundw
          case rel => exact ⟨i + 1, by omega, by go_num, HXY.out, HDD.out.next _⟩
          case measure => simp [intOf]; omega
        · have hxy2 : (x == y) = false := by simpa using hxy
          have HB := Lib.hid (HNI.out hxy)
          clear hxy
          go_wp2
          go_quiet (fail)
          go_wp2
          go_ret
          exact ⟨by rw [HB.out]; rfl, HDD.out.next _⟩
      · obtain rfl : i = n := by omega
        have HB := Lib.hid (HD.out hall)
        clear hall ha hb
        go_wp2
        go_ret
        exact ⟨by rw [HB.out]; rfl, hD⟩
  · have HB := Lib.hid (show decide (xs = ys) = false by rw [decide_eq_false_iff_not]; intro e; subst e; omega)
    have h1 : ((n : Int) == (m : Int)) = false := by simpa using (show ¬ ((n : Int) = (m : Int)) by omega)
    clear hnm hn hm
    go_wp2
    go_ret
    exact ⟨by rw [HB.out]; rfl, Dr.refl _⟩

/-- A new block of ints is a list. -/
theorem li_new (w : World) (xs : List Int) (h : xs.length ≤ 1000) : Li (w.alloc (.cells (ivs xs).toArray 3)) (.slice (some ⟨w.heap.size, 0, none⟩) xs.length xs.length) xs := by
  refine ⟨_, _, _, rfl, rfl, Nat.le_refl _, by omega, by unfold maxLen; omega, fun _ => ⟨_, _, rfl, by simp, fun i hi => ?_⟩, fun e => by cases e⟩
  rw [World.cell?_alloc_at _ _ _ _ rfl]
  rw [Nat.zero_add]
  simp [ivs, List.getElem?_eq_getElem hi]


end Go.Proofs.YtojanhpilhledaaDoor
/-
  A geometry as an argument: opened and shut.
-/
namespace Go.Proofs.YtojanhpilhledaaDoor
open Go.ChangeShapes Go.WideShapes Go.ChangeAt Go.RowKit
set_option linter.unusedVariables false
set_option linter.unusedSimpArgs false

def geoD {H : Type} (N F C U : Int) : DataW H := .agg [.lit (.int .i64 N), .lit (.int .i64 F), .lit (.int .i64 C), .lit (.int .i64 U)]

section
variable {H : Type} {enc : TypeId × Value → H} {w : World} {base : Nat} {spare : Nat → Bool} {held : Bool}

set_option maxRecDepth 20000 in
theorem open_geo {r : Reach} {b0 : Nat} {v : Value} {d : DataW H} {ps : List MemPlace} (hval : Value.okWide Tryd.prog w r b0 23 v) (hd : DataW.Trod enc Tryd.prog w base spare held 23 v d ps) :
    ∃ N F C U, v = geo N F C U ∧ d = geoD N F C U ∧ ps = [] ∧ (Lit.int .i64 N).wf = true ∧ (Lit.int .i64 F).wf = true ∧ (Lit.int .i64 C).wf = true ∧ (Lit.int .i64 U).wf = true := by
  obtain ⟨cs, rfl, hsz⟩ := okWide_struct Tryd.underlying23 hval
  rw [show Tryd.prog.cellsOf 23 = 4 from by kernel_rfl] at hsz
  obtain ⟨l⟩ := cs
  match l, hsz with
  | [c0, c1, c2, c3], _ =>
  obtain ⟨fuel, hf⟩ := hd
  obtain ⟨xs, n, _, hx, _, hlen, hfs⟩ := DataW.trod_struct Tryd.underlying23 hf
  match xs, hlen with
  | [y0, y1, y2, y3], _ =>
  have h0 := hfs 0 _ rfl
  have h1 := hfs 1 _ rfl
  have h2 := hfs 2 _ rfl
  have h3 := hfs 3 _ rfl
  simp only [List.getElem?_cons_zero, List.getElem?_cons_succ] at h0 h1 h2 h3
  obtain ⟨N, e0, rfl, w0⟩ := DataW.trod_int Tryd.underlying3 h0
  obtain ⟨F, e1, rfl, w1⟩ := DataW.trod_int Tryd.underlying3 h1
  obtain ⟨C, e2, rfl, w2⟩ := DataW.trod_int Tryd.underlying3 h2
  obtain ⟨U, e3, rfl, w3⟩ := DataW.trod_int Tryd.underlying3 h3
  have k3 : Tryd.prog.cellsOf 3 = 1 := by kernel_rfl
  simp [Value.cells, k3] at e0 e1 e2 e3
  subst e0 e1 e2 e3
  simp only [Prod.mk.injEq] at hx
  obtain ⟨rfl, rfl⟩ := hx
  exact ⟨N, F, C, U, rfl, rfl, rfl, w0, w1, w2, w3⟩

set_option maxRecDepth 20000 in
theorem shut_geo {N F C U : Int} (w0 : (Lit.int .i64 N).wf = true) (w1 : (Lit.int .i64 F).wf = true) (w2 : (Lit.int .i64 C).wf = true) (w3 : (Lit.int .i64 U).wf = true) :
    DataW.Trod enc Tryd.prog w base spare held 23 (geo N F C U) (geoD N F C U) [] := by
  refine ⟨2, ?_⟩
  have := trod_struct_mk (enc := enc) (P := Tryd.prog) (w := w) (base := base) (spare := spare) (held := held) (n := 1) (cs := [.int .i64 N, .int .i64 F, .int .i64 C, .int .i64 U])
    (xs := [(.lit (.int .i64 N), []), (.lit (.int .i64 F), []), (.lit (.int .i64 C), []), (.lit (.int .i64 U), [])]) Tryd.underlying23 (by kernel_rfl) (by
      have k3 : Tryd.prog.cellsOf 3 = 1 := by kernel_rfl
      simp [k3, trod_int_mk 0 Tryd.underlying3 w0, trod_int_mk 0 Tryd.underlying3 w1, trod_int_mk 0 Tryd.underlying3 w2, trod_int_mk 0 Tryd.underlying3 w3])
  simpa [Value.cells, geo, geoD] using this

end
end Go.Proofs.YtojanhpilhledaaDoor

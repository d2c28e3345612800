/-
  Texts put together: GG, GI.
-/
import Derived.Test.YtpkeikbiblfidaaGreatDoorMG3
import Derived.ProofKit
import Derived.OpenShut
import Derived.ChangeOld
import Derived.Below
/-
  Contract of Ints; known.
-/
namespace Go.Proofs.YtpkeikbiblfidaaGreatDoor
open Go.RowKit
set_option linter.unusedVariables false
set_option linter.unusedSimpArgs false

set_option maxRecDepth 20000 in
set_option maxHeartbeats 1000000 in
theorem ints_any (va vb : Value) (xs ys : List Int) (w : World) (ha : Li w va xs) (hb : Li w vb ys) :
    Calls Tryz.prog 33 #[va, vb] w fun e w' => e = .returned (.bool (decide (xs = ys))) ∧ Dr w w' := by
  obtain ⟨a, n, c, rfl, ha⟩ := ha
  obtain ⟨b, m, d, rfl, hb⟩ := hb
  have hn := ha.len
  have hm := hb.len
  have hnb := ha.big
  have hmb := hb.big
  go_enter Tryz.func33, Tryz.ntmps33
  by_cases hnm : n = m
  · subst hnm
    have HD := Lib.hid (show (∀ j : Nat, j < n → xs[j]?.getD 0 = ys[j]?.getD 0) → decide (xs = ys) = true from fun h => by
      rw [decide_eq_true_iff]
      apply List.ext_getElem?
      intro j
      by_cases hj : j < n
      · have := h j hj
        rw [List.getElem?_eq_getElem (by omega), List.getElem?_eq_getElem (by omega)] at this ⊢
        simpa using this
      · rw [List.getElem?_eq_none (by omega), List.getElem?_eq_none (by omega)])
    have HN := Lib.hid (show ∀ j : Nat, xs[j]?.getD 0 ≠ ys[j]?.getD 0 → decide (xs = ys) = false from fun j h => by
      rw [decide_eq_false_iff_not]
      intro e; exact h (by rw [e]))
    generalize decide (xs = ys) = B at *
    clear hn hm
    go_wp2
    go_loopw [5] (fun y wr => ∃ i : Nat, i ≤ n ∧ y = .int .i64 (i : Int) ∧ (∀ j, j < i → xs[j]?.getD 0 = ys[j]?.getD 0) ∧ Dr w wr) (fun y _ => n - (intOf y).toNat)
    case atStart => exact ⟨0, by omega, rfl, fun j hj => by omega, Dr.refl _⟩
    case round =>
      obtain ⟨i, hi, rfl, hall, hD⟩ := hrel
      by_cases hlt : i < n
      · obtain ⟨ba, oa, rfl, -, hca⟩ := (ha.later hD.below).at0 (by omega)
        obtain ⟨bb, ob, rfl, -, hcb⟩ := (hb.later hD.below).at0 (by omega)
        have k1 := hca i hlt
        have k2 := hcb i hlt
        have HDD := Lib.hid hD
        have hnx : xs[i]?.getD 0 = ys[i]?.getD 0 → ∀ j, j < i + 1 → xs[j]?.getD 0 = ys[j]?.getD 0 := fun h j hj => by
          by_cases e : j = i
          · subst e; exact h
          · exact hall j (by omega)
        have HX := Lib.hid hnx
        have HNI := Lib.hid (HN.out i)
        have i1 : (0 : Int) ≤ (i : Int) := by omega
        have i2 : (i : Int) < (n : Int) := by omega
        clear hca hcb hall hnx hD ha hb
        generalize hx : xs[i]?.getD 0 = x at *
        generalize hy : ys[i]?.getD 0 = y at *
        have HXX := Lib.hid hx
        have HYY := Lib.hid hy
        clear hx hy
        by_cases hxy : x = y
        · have hxy2 : (x == y) = true := by simpa using hxy
          have HXY := Lib.hid (HX.out hxy)
          subst hxy
          go_wp2
          go_quiet (fail)
          go_wp2
          go_roundw
          case rel => exact ⟨i + 1, by omega, by go_num, HXY.out, HDD.out.next _⟩
          case measure => simp [intOf]; omega
        · have hxy2 : (x == y) = false := by simpa using hxy
          have HB := Lib.hid (HNI.out hxy)
          clear hxy
          go_wp2
          go_quiet (fail)
          go_wp2
          go_ret
          exact ⟨by rw [HB.out]; rfl, HDD.out.next _⟩
      · obtain rfl : i = n := by omega
        have HB := Lib.hid (HD.out hall)
        clear hall ha hb
        go_wp2
        go_ret
        exact ⟨by rw [HB.out]; rfl, hD⟩
  · have HB := Lib.hid (show decide (xs = ys) = false by rw [decide_eq_false_iff_not]; intro e; subst e; omega)
    have h1 : ((n : Int) == (m : Int)) = false := by simpa using (show ¬ ((n : Int) = (m : Int)) by omega)
    clear hnm hn hm
    go_wp2
    go_ret
    exact ⟨by rw [HB.out]; rfl, Dr.refl _⟩

/-- A new block of ints is a list. -/
theorem li_new (w : World) (xs : List Int) (h : xs.length ≤ 1000) : Li (w.alloc (.cells (ivs xs).toArray 3)) (.slice (some ⟨w.heap.size, 0, none⟩) xs.length xs.length) xs := by
  refine ⟨_, _, _, rfl, rfl, Nat.le_refl _, by omega, by unfold maxLen; omega, fun _ => ⟨_, _, rfl, by simp, fun i hi => ?_⟩, fun e => by cases e⟩
  rw [World.cell?_alloc_at _ _ _ _ rfl]
  rw [Nat.zero_add]
  simp [ivs, List.getElem?_eq_getElem hi]


end Go.Proofs.YtpkeikbiblfidaaGreatDoor
/-
  A geometry as an argument: opened and shut.
-/
namespace Go.Proofs.YtpkeikbiblfidaaGreatDoor
open Go.ChangeShapes Go.WideShapes Go.ChangeAt Go.RowKit
set_option linter.unusedVariables false
set_option linter.unusedSimpArgs false

def geoD {H : Type} (N F C U : Int) : DataW H := .agg [.lit (.int .i64 N), .lit (.int .i64 F), .lit (.int .i64 C), .lit (.int .i64 U)]

section
variable {H : Type} {enc : TypeId × Value → H} {w : World} {base : Nat} {spare : Nat → Bool} {held : Bool}

set_option maxRecDepth 20000 in
theorem open_geo {r : Reach} {b0 : Nat} {v : Value} {d : DataW H} {ps : List MemPlace} (hval : Value.okWide Tryz.prog w r b0 23 v) (hd : DataW.Trod enc Tryz.prog w base spare held 23 v d ps) :
    ∃ N F C U, v = geo N F C U ∧ d = geoD N F C U ∧ ps = [] ∧ (Lit.int .i64 N).wf = true ∧ (Lit.int .i64 F).wf = true ∧ (Lit.int .i64 C).wf = true ∧ (Lit.int .i64 U).wf = true := by
  obtain ⟨cs, rfl, hsz⟩ := okWide_struct Tryz.underlying23 hval
  rw [show Tryz.prog.cellsOf 23 = 4 from by kernel_rfl] at hsz
  obtain ⟨l⟩ := cs
  match l, hsz with
  | [c0, c1, c2, c3], _ =>
  obtain ⟨fuel, hf⟩ := hd
  obtain ⟨xs, n, _, hx, _, hlen, hfs⟩ := DataW.trod_struct Tryz.underlying23 hf
  match xs, hlen with
  | [y0, y1, y2, y3], _ =>
  have h0 := hfs 0 _ rfl
  have h1 := hfs 1 _ rfl
  have h2 := hfs 2 _ rfl
  have h3 := hfs 3 _ rfl
  simp only [List.getElem?_cons_zero, List.getElem?_cons_succ] at h0 h1 h2 h3
  obtain ⟨N, e0, rfl, w0⟩ := DataW.trod_int Tryz.underlying3 h0
  obtain ⟨F, e1, rfl, w1⟩ := DataW.trod_int Tryz.underlying3 h1
  obtain ⟨C, e2, rfl, w2⟩ := DataW.trod_int Tryz.underlying3 h2
  obtain ⟨U, e3, rfl, w3⟩ := DataW.trod_int Tryz.underlying3 h3
  have k3 : Tryz.prog.cellsOf 3 = 1 := by kernel_rfl
  simp [Value.cells, k3] at e0 e1 e2 e3
  subst e0 e1 e2 e3
  simp only [Prod.mk.injEq] at hx
  obtain ⟨rfl, rfl⟩ := hx
  exact ⟨N, F, C, U, rfl, rfl, rfl, w0, w1, w2, w3⟩

set_option maxRecDepth 20000 in
theorem shut_geo {N F C U : Int} (w0 : (Lit.int .i64 N).wf = true) (w1 : (Lit.int .i64 F).wf = true) (w2 : (Lit.int .i64 C).wf = true) (w3 : (Lit.int .i64 U).wf = true) :
    DataW.Trod enc Tryz.prog w base spare held 23 (geo N F C U) (geoD N F C U) [] := by
  refine ⟨2, ?_⟩
  have := trod_struct_mk (enc := enc) (P := Tryz.prog) (w := w) (base := base) (spare := spare) (held := held) (n := 1) (cs := [.int .i64 N, .int .i64 F, .int .i64 C, .int .i64 U])
    (xs := [(.lit (.int .i64 N), []), (.lit (.int .i64 F), []), (.lit (.int .i64 C), []), (.lit (.int .i64 U), [])]) Tryz.underlying23 (by kernel_rfl) (by
      have k3 : Tryz.prog.cellsOf 3 = 1 := by kernel_rfl
      simp [k3, trod_int_mk 0 Tryz.underlying3 w0, trod_int_mk 0 Tryz.underlying3 w1, trod_int_mk 0 Tryz.underlying3 w2, trod_int_mk 0 Tryz.underlying3 w3])
  simpa [Value.cells, geo, geoD] using this

end
end Go.Proofs.YtpkeikbiblfidaaGreatDoor

/-
  Texts put together: X4.
-/
import Derived.Test.YtojanhpilhledaaDoorMX3
/-
  A tree of the program and one of the document are told alike.
-/
namespace Go.Proofs.YtojanhpilhledaaDoor
open Go.RowKit
set_option linter.unusedVariables false
set_option linter.unusedSimpArgs false

theorem badL_len (N F C U : Int) (L : List ByteArray) : (badL N F C U L).length ≤ L.length := by
  have := badUp_len N F C U L N.toNat (L.length - N.toNat)
  unfold badL
  omega

set_option maxRecDepth 20000 in
set_option maxHeartbeats 2000000 in
theorem same_any (B p : Nat) (v : Value) (B' q : Nat) (v' : Value) (n : Nat) (F C U : Int) (L : List ByteArray) (node : Int) (w : World) (hP : PT w B p v n F C U L) (hR : RT w B' q v' n F C U L) (hK : Kon w)
    (hL : L.length = nodes n F C U) (h0 : 0 < L.length) (hn : n ≤ L.length) (h1 : L.length ≤ 1000) (h32 : ∀ i, i < L.length → (lAt L i).size ≤ 1000) :
    Calls Tryd.prog 17 #[.pointer (some ⟨p, 0, none⟩), .pointer (some ⟨q, 0, none⟩), .int .i64 node] w fun e w' => e = .returned (.bool true) ∧ Below w.heap.size w w' := by
  have hb0 := badL_len n F C U L
  obtain ⟨av, cv, rfl, hx1, hx2⟩ := towns_shape hR.own
  clear hx1 hx2
  have hd1 := fun w' (hb : Below w.heap.size w w') => tdigest_any _ p v n F C U L node w' (hP.below hb) h1
  have hd2 := fun w' (hb : Below w.heap.size w w') => trdigest_any _ q _ n F C U L node w' (hR.below hb) h1
  obtain ⟨x, er, hxe⟩ : ∃ x er, pairV (digP L node) = .tuple #[.string x, .int .i64 er] := ⟨_, _, rfl⟩
  simp only [hxe] at hd1 hd2
  have hcl : ∀ w', Below w.heap.size w w' → w'.cell? ⟨q, 0, none⟩ = some (.int .i64 (n : Int)) ∧ w'.cell? ⟨q, 1, none⟩ = some (.int .i64 F) ∧ w'.cell? ⟨q, 2, none⟩ = some (.int .i64 C) ∧ w'.cell? ⟨q, 3, none⟩ = some (.int .i64 U) ∧ w'.cell? ⟨q, 4, none⟩ = some (.slice av L.length cv) := fun w' hb => by
    have hc := (hR.below hb).cells
    exact ⟨hc.1, hc.2.1, hc.2.2.1, hc.2.2.2.1, hc.2.2.2.2.1⟩
  obtain ⟨z, hz⟩ : ∃ z, z = lAt L (L.length - 1) := ⟨_, rfl⟩
  have hge : ∀ w', Below w.heap.size w w' → Calls Tryd.prog 63 #[.pointer (some ⟨p, 0, none⟩)] w' fun e w'' => e = .returned (.agg #[.int .i64 (n : Int), .int .i64 F, .int .i64 C, .int .i64 U]) ∧ Below w'.heap.size w' w'' := fun w' hb => tgeom_any _ p v n F C U L w' (hP.below hb)
  have hr1 := fun w' (hb : Below w.heap.size w w') => troot_any _ p v n F C U L w' (hP.below hb) h1 hL h0
  have hr2 := fun w' (hb : Below w.heap.size w w') => trroot_any _ q _ n F C U L w' (hR.below hb) h0 h1
  simp only [← hz] at hr1 hr2
  have hal := fun w' (hb : Below w.heap.size w w') => tall_any _ p v n F C U L w' (hP.below hb) h0 h1
  have htx : ∀ w' a c, Below w.heap.size w w' → Rs w' a L.length c L → Calls Tryd.prog 21 #[.slice a L.length c, .slice av L.length cv] w' fun e w'' => e = .returned (.bool true) ∧ Below w'.heap.size w' w'' := fun w' a c hb hrs => by
    obtain ⟨a2, c2, e, hrs2, _⟩ := towns_shape (hR.below hb).own
    cases e
    have := rtexts_any a av L.length L.length c cv L L w' hrs hrs2
    rw [decide_eq_true rfl] at this
    exact this
  have hb1 := fun w' (hb : Below w.heap.size w w') => tbad_any _ p v n F C U L w' (hP.below hb) (hK.below hb) hn h1 h32
  have hb2 := fun w' (hb : Below w.heap.size w w') => rbad_any _ q _ n F C U L w' (hR.below hb) hn h1 h32
  obtain ⟨bl, hbl⟩ : ∃ bl, bl = badL n F C U L := ⟨_, rfl⟩
  rw [← hbl] at hb0
  simp only [← hbl] at hb1 hb2
  have hin : ∀ va vb w', Li w' va bl → Li w' vb bl → Calls Tryd.prog 28 #[va, vb] w' fun e w'' => e = .returned (.bool true) ∧ Dr w' w'' := fun va vb w' ha hb => by
    have := ints_any va vb bl bl w' ha hb
    rw [decide_eq_true rfl] at this
    exact this
  have HD1 := Lib.hid hd1
  have HD2 := Lib.hid hd2
  have HCL := Lib.hid hcl
  have HGE := Lib.hid hge
  have HR1 := Lib.hid hr1
  have HR2 := Lib.hid hr2
  have HAL := Lib.hid hal
  have HTX := Lib.hid htx
  have HB1 := Lib.hid hb1
  have HB2 := Lib.hid hb2
  have HIN := Lib.hid hin
  clear hd1 hd2 hcl hge hr1 hr2 hal htx hb1 hb2 hin hP hR hK hL hn h32 hz hbl hxe
  go_enter Tryd.func17, Tryd.ntmps17
  go_wp2_with fail
  refine (HD1.out _ (Below.refl _ _)).mono ?_
  rintro e w1 ⟨rfl, hb⟩
  have HW1 := Lib.hid hb
  clear hb
  go_wp2_with fail
  refine (HD2.out _ HW1.out).mono ?_
  rintro e w2 ⟨rfl, hb⟩
  have HW2 := Lib.hid (HW1.out.trans (hb.mono HW1.out.size))
  clear hb HW1
  go_upto_region 3 with fail
  have hG : Below w.heap.size w w2.drew := HW2.out.drew
  go_region_held3 (fun w' => w'.cell? ⟨q, 0, none⟩ = some (.int .i64 (n : Int)) ∧ w'.cell? ⟨q, 1, none⟩ = some (.int .i64 F) ∧ w'.cell? ⟨q, 2, none⟩ = some (.int .i64 C) ∧ w'.cell? ⟨q, 3, none⟩ = some (.int .i64 U) ∧ w'.cell? ⟨q, 4, none⟩ = some (.slice av L.length cv))
    (exact HCL.out _ hG)
    (first
    | (go_at_call 63; with_reducible refine (HGE.out _ hG).mono ?_; rintro r wk ⟨rfl, hb⟩; replace hG := hG.trans (hb.mono hG.size); clear hb)
    | (go_at_call 50; with_reducible refine (HR1.out _ hG).mono ?_; rintro r wk ⟨rfl, hb⟩; replace hG := hG.trans (hb.mono hG.size); clear hb)
    | (go_at_call 43; with_reducible refine (HR2.out _ hG).mono ?_; rintro r wk ⟨rfl, hb⟩; replace hG := hG.trans (hb.mono hG.size); clear hb)
    | (go_at_call 22; with_reducible refine (HAL.out _ hG).mono ?_; rintro r wk ⟨va, rfl, how, hb⟩; obtain ⟨aa, ca, rfl, hrsA, hx⟩ := towns_shape how; clear hx; have HRSA := Lib.hid hrsA; replace hG := hG.trans (hb.mono hG.size); clear hb how hrsA)
    | (go_at_call 21; with_reducible refine (HTX.out _ _ _ hG HRSA.out).mono ?_; rintro r wk ⟨rfl, hb⟩; replace hG := hG.trans (hb.mono hG.size); clear hb)
    | (go_at_call 25; with_reducible refine (HB1.out _ hG).mono ?_; rintro r wk ⟨vb, rfl, how, hb⟩; have HOB := Lib.hid how; replace hG := hG.trans (hb.mono hG.size); clear hb how)
    | (go_at_call 64; with_reducible refine (HB2.out _ hG).mono ?_; rintro r wk ⟨vc, rfl, how, hb⟩; have HOC := Lib.hid how; have HOB2 := Lib.hid (owns_kept HOB.out fun j hj => hb.block j (HOB.out.lt j hj).2); replace hG := hG.trans (hb.mono hG.size); clear hb how)
    | (go_at_call 28; with_reducible refine (HIN.out _ _ _ (li_owns HOB2.out (by omega)) (li_owns HOC.out (by omega))).mono ?_; rintro r wk ⟨rfl, hb⟩; replace hG := hG.trans (hb.below.mono hG.size); clear hb))
  rename_i hHeld
  clear hHeld
  have HF := Lib.hid hG
  clear hG
  go_wp2
  go_ret
  exact ⟨rfl, HF.out⟩
end Go.Proofs.YtojanhpilhledaaDoor

/-
  The walk of GeomTells.
-/
import Derived.Test.YtbnmfajmiglneaaGG
namespace Go.Proofs.Ytbnmfajmiglneaa
open Go.RowKit
set_option linter.unusedVariables false
set_option linter.unusedSimpArgs false

theorem ints_same (va vb : Value) (xs : List Int) (w : World) (ha : Li w va xs) (hb : Li w vb xs) :
    Calls Try.prog 9 #[va, vb] w fun e w' => e = .returned (.bool true) ∧ Dr w w' := by
  have := ints_any va vb xs xs w ha hb
  rwa [show decide (xs = xs) = true from by simp] at this

set_option maxRecDepth 20000 in
set_option maxHeartbeats 8000000 in
theorem tells_walk (N F C U node : Int) (w : World) :
    Calls Try.prog 3 #[geo N F C U, .int .i64 node] w fun e w' => e = .returned (.bool true) ∧ Below w.heap.size w w' := by
  have h1 := right_any N F C U
  have h2 := rright_any N F C U
  have h3 := levels_any N F C U
  have h4 := rlevels_any N F C U
  have h5 := nodes_any N F C U
  have h6 := rnodes_any N F C U
  have h7 := height_any N F C U
  have h8 := rheight_any N F C U
  have h9 := root_any N F C U
  have h10 := rroot_any N F C U
  have h11 := parent_any N F C U node
  have h12 := rparent_any N F C U node
  have h13 := children_any N F C U node
  have h14 := rchildren_any N F C U node
  have h15 := path_any N F C U node
  have h16 := rpath_any N F C U node
  have h17 := known_any
  generalize decide (okG N F C U) = R1 at *
  generalize levels N F C U = R2 at *
  generalize ((nodes N F C U - 1 : Nat) : Int) = R5 at *
  generalize (nodes N F C U : Int) = R3 at *
  generalize (height N F C U : Int) = R4 at *
  generalize parent N F C U node = R6 at *
  generalize children N F C U node = R7 at *
  generalize path N F C U node = R8 at *
  have hb0 : Below (w.heap.size + 1) (w.alloc (gbox N F C U)) (w.alloc (gbox N F C U)) := Below.refl _ _
  unfold geo at *
  have H1 := Lib.hid h1
  have H2 := Lib.hid h2
  have H3 := Lib.hid h3
  have H4 := Lib.hid h4
  have H5 := Lib.hid h5
  have H6 := Lib.hid h6
  have H7 := Lib.hid h7
  have H8 := Lib.hid h8
  have H9 := Lib.hid h9
  have H10 := Lib.hid h10
  have H11 := Lib.hid h11
  have H12 := Lib.hid h12
  have H13 := Lib.hid h13
  have H14 := Lib.hid h14
  have H15 := Lib.hid h15
  have H16 := Lib.hid h16
  have H17 := Lib.hid h17
  clear h1 h2 h3 h4 h5 h6 h7 h8 h9 h10 h11 h12 h13 h14 h15 h16 h17
  go_enter Try.func3, Try.ntmps3
  go_wp2_with fail
  change Code.wp _ _ _ _ (w.alloc (gbox N F C U))
  obtain ⟨w0, h0⟩ : ∃ w0, w0 = w.alloc (gbox N F C U) := ⟨_, rfl⟩
  rw [← h0]
  obtain ⟨hs0, hkp, hfin⟩ := held_cells hb0
  rw [← h0] at hs0 hkp hfin
  have HKP := Lib.hid hkp
  have HF := Lib.hid hfin
  have hG : Below w0.drew.heap.size w0.drew w0.drew := Below.refl _ _
  clear hkp hs0 hb0 h0 hfin
  go_region_held3 (fun w' => w'.cell? ⟨w.heap.size, 0, none⟩ = some (.int .i64 N) ∧ w'.cell? ⟨w.heap.size, 1, none⟩ = some (.int .i64 F) ∧ w'.cell? ⟨w.heap.size, 2, none⟩ = some (.int .i64 C) ∧ w'.cell? ⟨w.heap.size, 3, none⟩ = some (.int .i64 U))
    (exact HKP.out _ hG)
    (first
    | (go_at_call 7; refine (H1.out _).mono ?_; rintro r w' ⟨rfl, hb⟩; replace hG := hG.trans (hb.mono hG.size); clear hb)
    | (go_at_call 8; refine (H2.out _).mono ?_; rintro r w' ⟨rfl, hb⟩; replace hG := hG.trans (hb.mono hG.size); clear hb)
    | (go_at_call 10; refine (H3.out _).mono ?_; rintro r w' ⟨⟨va, rfl, hla⟩, hb⟩; replace hG := hG.trans (hb.mono hG.size); replace hla := hla.li; clear hb)
    | (go_at_call 11; refine (H4.out _).mono ?_; rintro r w' ⟨⟨vb, rfl, hlb⟩, hb⟩; replace hG := hG.trans (hb.mono hG.size); replace hla := hla.later hb; replace hlb := hlb.li; clear hb)
    | (go_at_call 12; refine (H5.out _).mono ?_; rintro r w' ⟨rfl, hb⟩; replace hG := hG.trans (hb.mono hG.size); clear hb)
    | (go_at_call 13; refine (H6.out _).mono ?_; rintro r w' ⟨rfl, hb⟩; replace hG := hG.trans (hb.mono hG.size); clear hb)
    | (go_at_call 14; refine (H7.out _).mono ?_; rintro r w' ⟨rfl, hb⟩; replace hG := hG.trans (hb.mono hG.size); clear hb)
    | (go_at_call 15; refine (H8.out _).mono ?_; rintro r w' ⟨rfl, hb⟩; replace hG := hG.trans (hb.mono hG.size); clear hb)
    | (go_at_call 16; refine (H9.out _).mono ?_; rintro r w' ⟨rfl, hb⟩; replace hG := hG.trans (hb.mono hG.size); clear hb)
    | (go_at_call 17; refine (H10.out _).mono ?_; rintro r w' ⟨rfl, hb⟩; replace hG := hG.trans (hb.mono hG.size); clear hb)
    | (go_at_call 18; refine (H11.out _).mono ?_; rintro r w' ⟨rfl, hb⟩; replace hG := hG.trans (hb.mono hG.size); clear hb)
    | (go_at_call 19; refine (H12.out _).mono ?_; rintro r w' ⟨rfl, hb⟩; replace hG := hG.trans (hb.mono hG.size); clear hb)
    | (go_at_call 20; refine (H13.out _).mono ?_; rintro r w' ⟨⟨vc, rfl, hlc⟩, hb⟩; replace hG := hG.trans (hb.mono hG.size); replace hlc := hlc.li; clear hb)
    | (go_at_call 21; refine (H14.out _).mono ?_; rintro r w' ⟨⟨vd, rfl, hld⟩, hb⟩; replace hG := hG.trans (hb.mono hG.size); replace hlc := hlc.later hb; replace hld := hld.li; clear hb)
    | (go_at_call 22; refine (H15.out _).mono ?_; rintro r w' ⟨⟨ve, rfl, hle⟩, hb⟩; replace hG := hG.trans (hb.mono hG.size); replace hle := hle.li; clear hb)
    | (go_at_call 23; refine (H16.out _).mono ?_; rintro r w' ⟨⟨vf, rfl, hlf⟩, hb⟩; replace hG := hG.trans (hb.mono hG.size); replace hle := hle.later hb; replace hlf := hlf.li; clear hb)
    | (go_at_call 9; with_reducible refine (ints_same va vb _ _ hla hlb).mono ?_; rintro r w' ⟨rfl, hd⟩; replace hG := hG.trans (hd.below.mono hG.size); clear hd hla hlb)
    | (go_at_call 9; with_reducible refine (ints_same vc vd _ _ hlc hld).mono ?_; rintro r w' ⟨rfl, hd⟩; replace hG := hG.trans (hd.below.mono hG.size); clear hd hlc hld)
    | (go_at_call 9; with_reducible refine (ints_same ve vf _ _ hle hlf).mono ?_; rintro r w' ⟨rfl, hd⟩; replace hG := hG.trans (hd.below.mono hG.size); clear hd hle hlf)
    | (go_at_call 24; refine (H17.out _).mono ?_; rintro r w' ⟨rfl, hb⟩; replace hG := hG.trans (hb.mono hG.size); clear hb))
  all_goals (
    rename_i hHeld
    clear hHeld
    have hB := HF.out _ hG
    clear hG
    go_wp2
    go_ret
    exact ⟨rfl, hB⟩)

end Go.Proofs.Ytbnmfajmiglneaa

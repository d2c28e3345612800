/-
  The walk of GeomPlaces.
-/
import Derived.Test.YtbnmfajmiglneaaGG
namespace Go.Proofs.Ytbnmfajmiglneaa
open Go.RowKit
set_option linter.unusedVariables false
set_option linter.unusedSimpArgs false

set_option maxRecDepth 20000 in
set_option maxHeartbeats 4000000 in
theorem places_walk (N F C U side k : Int) (w : World) :
    Calls Try.prog 4 #[geo N F C U, .int .i64 side, .int .i64 k] w fun e w' => e = .returned (.bool true) ∧ Below w.heap.size w w' := by
  have h1 := size_any N F C U side
  have h2 := rsize_any N F C U side
  have h3 := data_any N F C U k
  have h4 := rdata_any N F C U k
  have h5 := node_any N F C U k
  have h6 := rnode_any N F C U k
  have h7 := area_any N F C U side k
  have h8 := rarea2_any N F C U side k
  have h9 := known_any
  generalize sizeOf' N F C U side = R1 at *
  generalize dataAt N F C U k = R2 at *
  generalize nodeAt N F C U k = R3 at *
  generalize areaAt N F C U side k = R4 at *
  have hb0 : Below (w.heap.size + 1) (w.alloc (gbox N F C U)) (w.alloc (gbox N F C U)) := Below.refl _ _
  unfold geo at *
  have H1 := Lib.hid h1
  have H2 := Lib.hid h2
  have H3 := Lib.hid h3
  have H4 := Lib.hid h4
  have H5 := Lib.hid h5
  have H6 := Lib.hid h6
  have H7 := Lib.hid h7
  have H8 := Lib.hid h8
  have H9 := Lib.hid h9
  clear h1 h2 h3 h4 h5 h6 h7 h8 h9
  go_enter Try.func4, Try.ntmps4
  go_wp2_with fail
  change Code.wp _ _ _ _ (w.alloc (gbox N F C U))
  obtain ⟨w0, h0⟩ : ∃ w0, w0 = w.alloc (gbox N F C U) := ⟨_, rfl⟩
  rw [← h0]
  obtain ⟨hs0, hkp, hfin⟩ := held_cells hb0
  rw [← h0] at hs0 hkp hfin
  have HKP := Lib.hid hkp
  have HF := Lib.hid hfin
  have hG : Below w0.drew.heap.size w0.drew w0.drew := Below.refl _ _
  clear hkp hs0 hb0 h0 hfin
  go_region_held3 (fun w' => w'.cell? ⟨w.heap.size, 0, none⟩ = some (.int .i64 N) ∧ w'.cell? ⟨w.heap.size, 1, none⟩ = some (.int .i64 F) ∧ w'.cell? ⟨w.heap.size, 2, none⟩ = some (.int .i64 C) ∧ w'.cell? ⟨w.heap.size, 3, none⟩ = some (.int .i64 U))
    (exact HKP.out _ hG)
    (first
    | (go_at_call 25; refine (H1.out _).mono ?_; rintro r w' ⟨rfl, hb⟩; replace hG := hG.trans (hb.mono hG.size); clear hb)
    | (go_at_call 26; refine (H2.out _).mono ?_; rintro r w' ⟨rfl, hb⟩; replace hG := hG.trans (hb.mono hG.size); clear hb)
    | (go_at_call 27; refine (H3.out _).mono ?_; rintro r w' ⟨rfl, hb⟩; replace hG := hG.trans (hb.mono hG.size); clear hb)
    | (go_at_call 28; refine (H4.out _).mono ?_; rintro r w' ⟨rfl, hb⟩; replace hG := hG.trans (hb.mono hG.size); clear hb)
    | (go_at_call 29; refine (H5.out _).mono ?_; rintro r w' ⟨rfl, hb⟩; replace hG := hG.trans (hb.mono hG.size); clear hb)
    | (go_at_call 30; refine (H6.out _).mono ?_; rintro r w' ⟨rfl, hb⟩; replace hG := hG.trans (hb.mono hG.size); clear hb)
    | (go_at_call 31; refine (H7.out _).mono ?_; rintro r w' ⟨rfl, hb⟩; replace hG := hG.trans (hb.mono hG.size); clear hb)
    | (go_at_call 32; refine (H8.out _).mono ?_; rintro r w' ⟨rfl, hb⟩; replace hG := hG.trans (hb.mono hG.size); clear hb)
    | (go_at_call 24; refine (H9.out _).mono ?_; rintro r w' ⟨rfl, hb⟩; replace hG := hG.trans (hb.mono hG.size); clear hb))
  all_goals (
    rename_i hHeld
    clear hHeld
    have hB := HF.out _ hG
    clear hG
    go_wp2
    go_ret
    exact ⟨rfl, hB⟩)

end Go.Proofs.Ytbnmfajmiglneaa

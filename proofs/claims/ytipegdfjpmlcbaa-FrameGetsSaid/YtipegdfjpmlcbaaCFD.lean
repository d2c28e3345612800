/-
  A frame is written (Put): up to what comes back of it.
-/
import Derived.Test.YtipegdfjpmlcbaaCFC
import Derived.Test.YtipegdfjpmlcbaaCF4
namespace Go.Proofs.Ytipegdfjpmlcbaa
open Go.RowKit
set_option linter.unusedVariables false
set_option linter.unusedSimpArgs false

set_option maxRecDepth 20000 in
set_option maxHeartbeats 1000000 in
theorem put_bad (f : FR) (a : Option Addr) (n c : Nat) (w : World) (hT : Tx w a n c f.list) (hv : f.vol < 4294967296) (hd : f.data.length ≤ 1099511627776) (hl : ∀ k, ((f.list.take k).flatten).length ≤ 1099511627776)
    (hg : openP f.head (bodyP f) = none) :
    Calls Try.prog 8 #[frV f (.slice a n c)] w fun e w' => e = .returned (.tuple #[.slice none 0 0, .int .i64 6]) ∧ Below w.heap.size w w' := by
  obtain ⟨W0, hW0⟩ : ∃ x, x = w.alloc (.cells (frC f (.slice a n c)) 26) := ⟨_, rfl⟩
  have hb0 : Below w.heap.size w W0 := by rw [hW0]; exact (Below.refl _ _).alloc (Nat.le_refl _) _
  have hbx0 : W0.heap[w.heap.size]? = some (.cells (frC f (.slice a n c)) 26 (0, 0)) := by rw [hW0]; exact heap_alloc_new _ _
  have hlt0 : w.heap.size < W0.heap.size := lt_of_block hbx0
  obtain ⟨C, hC⟩ : ∃ C, C = frC f (.slice a n c) := ⟨_, rfl⟩
  have hfv : frV f (.slice a n c) = .agg C := by rw [hC]; rfl
  have hi0 : (Try.prog.info? 26).map (·.size) = some C.size := by rw [hC]; kernel_rfl
  have hiz : (Try.prog.info? 26).map (·.size) = some frZ.size := by kernel_rfl
  have HO1 := Lib.hid (show frZ.all (·.oneCell') = true by simp [frZ, Value.oneCell'])
  have HBD := Lib.hid (body_any f a n c W0 (hT.later hb0) hv hd hl)
  have HHD := Lib.hid (fun w => head_any f a n c w)
  simp only [hfv] at HBD HHD
  rw [← hC] at hbx0
  have HKB := Lib.hid (show ∀ w', Below W0.heap.size W0 w' → w'.heap[w.heap.size]? = some (.cells C 26 (0, 0)) from fun w' hb => (hb.block _ hlt0).trans hbx0)
  have HB0 := Lib.hid hb0
  have HW0 := Lib.hid hW0
  have HG := Lib.hid hg
  have HC := Lib.hid hC
  have HL0 := Lib.hid hlt0
  unfold frC at HW0
  unfold frV
  clear hW0 hb0 hC hfv hT hg hlt0
  go_enter Try.func8, Try.ntmps8
  go_upto_region 1 with fail
  rw [← HW0.out]
  go_wp2_with (with_reducible refine wpList_load_row (o := ⟨some 8, _, _, _, _, _⟩) rfl 26 (.tmp 1) rfl w.heap.size rfl 26 C (0, 0) _ hbx0 Try.underlying26 rfl hi0 ?_)
  refine HBD.out.mono ?_
  rintro e w1 ⟨a1, m1, c1, rfl, hrd1, hb1⟩
  have hbx1 := HKB.out _ hb1
  have HB1 := Lib.hid hb1
  have HR1 := Lib.hid hrd1
  clear hb1 hrd1
  go_wp2_with (with_reducible refine wpList_load_row (o := ⟨some 11, _, _, _, _, _⟩) rfl 26 (.tmp 1) rfl w.heap.size rfl 26 C (0, 0) _ hbx1 Try.underlying26 rfl hi0 ?_)
  refine (HHD.out w1).mono ?_
  rintro e w2 ⟨rfl, hb2⟩
  have HB2 := Lib.hid (HB1.out.trans (hb2.mono HB1.out.size))
  have HR2 := Lib.hid (HR1.out.later hb2)
  have HOP := Lib.hid (open_any f.head rfl a1 m1 c1 (bodyP f) w2 HR2.out)
  clear hb2
  go_wp2_with fail
  refine HOP.out.mono ?_
  rintro e w3 hres
  rcases hres with ⟨x, V, h1, _⟩ | ⟨h1, he, hb3⟩
  · rw [HG.out] at h1; exact absurd h1 (by simp)
  rw [show frV fr0 (.slice none 0 0) = .agg frZ from rfl] at he
  subst he
  have HB3 := Lib.hid (HB2.out.trans (hb3.mono HB2.out.size))
  have hn3 : (w3.alloc (.cells frZ 26)).heap[w3.heap.size]? = some (.cells frZ 26 (0, 0)) := heap_alloc_new _ _
  have HB4 := Lib.hid (below_setRow (HB3.out.alloc HB3.out.size (.cells frZ 26)) HB3.out.size frZ)
  clear hb3 h1
  go_wp2_with (with_reducible refine wpList_store_row (o := ⟨none, _, _, _, _, _⟩) rfl 26 (.tmp 5) (.tmp 15) rfl w3.heap.size frZ rfl rfl 26 frZ hn3 hiz rfl HO1.out ?_)
  refine bodyPost_ret (results_tmp2 rfl _ _ _) rfl ?_
  exact ⟨rfl, HB0.out.trans (HB4.out.mono HB0.out.size)⟩
end Go.Proofs.Ytipegdfjpmlcbaa


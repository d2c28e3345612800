/-
  A frame is written (Put): what comes back of it, behind the body.
-/
import Derived.Test.YtipegdfjpmlcbaaCFD
namespace Go.Proofs.Ytipegdfjpmlcbaa
open Go.RowKit
set_option linter.unusedVariables false
set_option linter.unusedSimpArgs false

theorem wpList_load_row_w {P : Program} {ops : Array Oper} {rest : List Oper} {o : Oper} {a : Act} {w : World} {Q : Exit → Act → World → Prop} (hw : Region.wanted o (yielded ops a.tmps) = true) (ty : TypeId) (x : Operand) (ho : o.op = .load ty x)
    (g : Nat) (hx : a.eval x = .pointer (some ⟨g, 0, none⟩)) (t : TypeId) (cs : Array Value) (fr : Nat × Nat) (d : TypeDesc) (hg : w.heap[g]? = some (.cells cs t fr))
    (hu : P.underlying ty = some d) (hd : (match d with | .struct _ | .array _ _ => true | _ => false) = true) (hi : (P.info? ty).map (·.size) = some cs.size)
    (h : wpList P ops Q rest (a.put o.dst (.agg cs)) w) : wpList P ops Q (o :: rest) a w :=
  wpList_step fun K hK => by
    rw [if_pos hw]
    exact wp_load_row ty x ho g hx t cs fr d hg hu hd hi (hK _ _ h)

set_option maxRecDepth 20000 in
set_option maxHeartbeats 1000000 in
theorem put_diff (f : FR) (a : Option Addr) (n c : Nat) (w : World) (hT : Tx w a n c f.list) (hv : f.vol < 4294967296) (hd : f.data.length ≤ 1099511627776) (hl : ∀ k, ((f.list.take k).flatten).length ≤ 1099511627776)
    (x : FR) (hne : x ≠ f) (hg : openP f.head (bodyP f) = some x) :
    Calls Try.prog 8 #[frV f (.slice a n c)] w fun e w' => e = .returned (.tuple #[.slice none 0 0, .int .i64 6]) ∧ Below w.heap.size w w' := by
  have HT := Lib.hid hT
  obtain ⟨W0, hW0⟩ : ∃ x, x = w.alloc (.cells (frC f (.slice a n c)) 26) := ⟨_, rfl⟩
  have hb0 : Below w.heap.size w W0 := by rw [hW0]; exact (Below.refl _ _).alloc (Nat.le_refl _) _
  have hbx0 : W0.heap[w.heap.size]? = some (.cells (frC f (.slice a n c)) 26 (0, 0)) := by rw [hW0]; exact heap_alloc_new _ _
  have hlt0 : w.heap.size < W0.heap.size := lt_of_block hbx0
  obtain ⟨C, hC⟩ : ∃ C, C = frC f (.slice a n c) := ⟨_, rfl⟩
  have hfv : frV f (.slice a n c) = .agg C := by rw [hC]; rfl
  have hi0 : (Try.prog.info? 26).map (·.size) = some C.size := by rw [hC]; kernel_rfl
  have hiz : (Try.prog.info? 26).map (·.size) = some frZ.size := by kernel_rfl
  have HO1 := Lib.hid (show frZ.all (·.oneCell') = true by simp [frZ, Value.oneCell'])
  have HFV := Lib.hid hfv
  have HBD := Lib.hid (body_any f a n c W0 (hT.later hb0) hv hd hl)
  have HHD := Lib.hid (fun w => head_any f a n c w)
  simp only [hfv] at HBD HHD
  rw [← hC] at hbx0
  have HKB := Lib.hid (show ∀ w', Below W0.heap.size W0 w' → w'.heap[w.heap.size]? = some (.cells C 26 (0, 0)) from fun w' hb => (hb.block _ hlt0).trans hbx0)
  have HB0 := Lib.hid hb0
  have HW0 := Lib.hid hW0
  have HG := Lib.hid hg
  have HC := Lib.hid hC
  have HL0 := Lib.hid hlt0
  unfold frC at HW0
  unfold frV
  clear hW0 hb0 hC hfv hT hg hlt0
  go_enter Try.func8, Try.ntmps8
  go_upto_region 1 with fail
  rw [← HW0.out]
  go_wp2_with (with_reducible refine wpList_load_row (o := ⟨some 8, _, _, _, _, _⟩) rfl 26 (.tmp 1) rfl w.heap.size rfl 26 C (0, 0) _ hbx0 Try.underlying26 rfl hi0 ?_)
  refine HBD.out.mono ?_
  rintro e w1 ⟨a1, m1, c1, rfl, hrd1, hb1⟩
  have hbx1 := HKB.out _ hb1
  have HB1 := Lib.hid hb1
  have HR1 := Lib.hid hrd1
  clear hb1 hrd1
  go_wp2_with (with_reducible refine wpList_load_row (o := ⟨some 11, _, _, _, _, _⟩) rfl 26 (.tmp 1) rfl w.heap.size rfl 26 C (0, 0) _ hbx1 Try.underlying26 rfl hi0 ?_)
  refine (HHD.out w1).mono ?_
  rintro e w2 ⟨rfl, hb2⟩
  have HB2 := Lib.hid (HB1.out.trans (hb2.mono HB1.out.size))
  have HR2 := Lib.hid (HR1.out.later hb2)
  have HOP := Lib.hid (open_any f.head rfl a1 m1 c1 (bodyP f) w2 HR2.out)
  clear hb2
  go_wp2_with fail
  refine HOP.out.mono ?_
  rintro e w3 hres
  rcases hres with ⟨x', V, h1, he, ⟨a4, n4, c4, rfl, hT4⟩, hb3⟩ | ⟨h1, _⟩
  case inr => rw [HG.out] at h1; exact absurd h1 (by simp)
  obtain rfl : x = x' := by rw [HG.out] at h1; exact Option.some.inj h1
  obtain ⟨D, hD⟩ : ∃ D, D = frC x (.slice a4 n4 c4) := ⟨_, rfl⟩
  have hfd : frV x (.slice a4 n4 c4) = .agg D := by rw [hD]; rfl
  have hid : (Try.prog.info? 26).map (·.size) = some D.size := by rw [hD]; kernel_rfl
  have HD1 := Lib.hid (show D.all (·.oneCell') = true by rw [hD]; exact frC_one _ _ _ _)
  have HDS := Lib.hid (show frZ.size = D.size by rw [hD]; rfl)
  rw [hfd] at he
  subst he
  have HB3 := Lib.hid (HB2.out.trans (hb3.mono HB2.out.size))
  have hn3 : (w3.alloc (.cells frZ 26)).heap[w3.heap.size]? = some (.cells frZ 26 (0, 0)) := heap_alloc_new _ _
  have HB4 := Lib.hid (below_setRow (HB3.out.alloc HB3.out.size (.cells frZ 26)) HB3.out.size D)
  have hn4 : ((w3.alloc (.cells frZ 26)).setRow w3.heap.size D).heap[w3.heap.size]? = some (.cells D 26 (0, 0)) := setRow_heap _ _ _ D _ _ hn3
  have hbx4 := HKB.out _ HB4.out
  have hb34 : Below w3.heap.size w3 ((w3.alloc (.cells frZ 26)).setRow w3.heap.size D) := below_setRow ((Below.refl _ _).alloc (Nat.le_refl _) _) (Nat.le_refl _) D
  have hal := alike_any x f a4 a n4 n c4 c _ (hT4.later hb34) (HT.out.later (HB0.out.trans (HB4.out.mono HB0.out.size)))
  rw [hfd, HFV.out] at hal
  have HAL := Lib.hid hal
  clear hal hb34
  clear hb3 h1 hfd hD hT4
  go_wp2_with (first
    | (with_reducible refine wpList_store_row (o := ⟨none, _, _, _, _, _⟩) rfl 26 (.tmp 5) (.tmp 15) rfl w3.heap.size D rfl rfl 26 frZ hn3 hid HDS.out HD1.out ?_)
    | (with_reducible refine wpList_load_row_w (o := ⟨some 20, _, _, _, _, _⟩) (by simp [Region.wanted, yielded, Act.put]) 26 (.tmp 5) rfl w3.heap.size rfl 26 D (0, 0) _ hn4 Try.underlying26 rfl hid ?_)
    | (with_reducible refine wpList_load_row_w (o := ⟨some 21, _, _, _, _, _⟩) (by simp [Region.wanted, yielded, Act.put]) 26 (.tmp 1) rfl w.heap.size rfl 26 C (0, 0) _ hbx4 Try.underlying26 rfl hi0 ?_))
  refine HAL.out.mono ?_
  rintro e w5 ⟨rfl, hb5⟩
  have HB5 := Lib.hid (HB4.out.trans (hb5.mono HB4.out.size))
  have hdc : decide (x = f) = false := decide_eq_false hne
  rw [hdc]
  clear hb5 hdc
  go_wp2
  refine bodyPost_ret (results_tmp2 rfl _ _ _) rfl ?_
  exact ⟨rfl, HB0.out.trans (HB5.out.mono HB0.out.size)⟩
end Go.Proofs.Ytipegdfjpmlcbaa


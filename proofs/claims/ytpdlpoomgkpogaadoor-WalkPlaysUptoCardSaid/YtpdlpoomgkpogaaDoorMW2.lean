/-
  Texts put together: W3, W4, W5.
-/
import Derived.Test.YtpdlpoomgkpogaaDoorMW
import Derived.Test.YtpdlpoomgkpogaaDoorTie
import Derived.Test.YtpdlpoomgkpogaaDoorCards
import Derived.LaidMore
import Derived.OpenShut
import Derived.Stop.Joined
import Derived.SevenTiedAt
/-
  The program's Diff.
-/
namespace Go.Proofs.YtpdlpoomgkpogaaDoor
open Go.RowKit
set_option linter.unusedVariables false
set_option linter.unusedSimpArgs false




/-- The program's trees that are not there. -/
theorem nil_digest (node : Int) (w : World) : Calls Tryd.prog 49 #[.pointer none, .int .i64 node] w fun e w' => e = .returned (.tuple #[.string ⟨#[]⟩, .int .i64 1]) ∧ Below w.heap.size w w' := by
  go_enter Tryd.func49, Tryd.ntmps49
  go_wp2
  refine bodyPost_ret (results_tmp2 rfl _ _ _) rfl ?_
  exact ⟨rfl, Below.refl _ _⟩
theorem nil_copy (w : World) : Calls Tryd.prog 31 #[.pointer none] w fun e w' => e = .returned (.pointer none) ∧ Below w.heap.size w w' := by
  go_enter Tryd.func31, Tryd.ntmps31
  go_wp2
  go_ret
  exact ⟨rfl, Below.refl _ _⟩
set_option maxRecDepth 20000 in
theorem nil_geom (w : World) : Calls Tryd.prog 34 #[.pointer none] w fun e w' => e = .returned (geo 0 0 0 0) ∧ Below w.heap.size w w' := by
  unfold geo
  go_enter Tryd.func34, Tryd.ntmps34
  go_wp2
  refine bodyPost_ret (by simp [results, Tryd.f34, go_sem]; try rfl) rfl ?_
  exact ⟨rfl, (Below.refl _ w).alloc (Nat.le_refl _) _⟩
theorem bad_geo : ¬ okG 0 0 0 0 := by unfold okG; omega
set_option maxRecDepth 20000 in
theorem nil_root (w : World) : Calls Tryd.prog 23 #[.pointer none] w fun e w' => e = .returned (.string ⟨#[]⟩) ∧ Below w.heap.size w w' := by
  have g1 := nil_geom w
  have g2 := fun w => root_any 0 0 0 0 w
  have g3 := fun k w => nil_digest k w
  unfold geo at g1 g2
  have G1 := Lib.hid g1
  have G2 := Lib.hid g2
  have G3 := Lib.hid g3
  clear g1 g2 g3
  go_enter Tryd.func23, Tryd.ntmps23
  go_wp2_with fail
  refine G1.out.mono ?_
  rintro e w1 ⟨rfl, hb⟩
  have HB1 := Lib.hid hb
  clear hb G1
  go_wp2_with fail
  refine (G2.out _).mono ?_
  rintro e w2 ⟨rfl, hb⟩
  have HB2 := Lib.hid (HB1.out.trans (hb.mono HB1.out.size))
  clear hb G2 HB1
  go_wp2_with fail
  refine (G3.out _ _).mono ?_
  rintro e w3 ⟨rfl, hb⟩
  have HB3 := Lib.hid (HB2.out.trans (hb.mono HB2.out.size))
  clear hb G3 HB2
  go_wp2
  go_ret
  exact ⟨rfl, HB3.out⟩
end Go.Proofs.YtpdlpoomgkpogaaDoor
/-
  The fixed calls of the trees' statements; the walk of TreeNil.
-/
namespace Go.Proofs.YtpdlpoomgkpogaaDoor
open Go.RowKit
set_option linter.unusedVariables false
set_option linter.unusedSimpArgs false

theorem lvs_none (nx lf : Int → List Int) : ∀ d, lvs nx lf d [] = ([], 0)
  | 0 => rfl
  | d + 1 => by
    show ([] ++ (lvs nx lf d []).1, 0 + (lvs nx lf d []).2) = _
    rw [lvs_none nx lf d]
    rfl
theorem diff_same (N F C U : Int) (L : List ByteArray) : diffP N F C U L L = ([], 1) := by
  unfold diffP
  have e1 : ∀ k, nxD N F C U L L k = [] := fun k => if_pos rfl
  have e2 : ∀ k, lfD N L L k = [] := fun k => if_neg (fun h => h.1 rfl)
  show ([((nodes N F C U - 1 : Nat) : Int)].flatMap (lfD N L L) ++ (lvs _ _ _ ([((nodes N F C U - 1 : Nat) : Int)].flatMap (nxD N F C U L L))).1, 1 + (lvs _ _ _ ([((nodes N F C U - 1 : Nat) : Int)].flatMap (nxD N F C U L L))).2) = _
  simp [e1, e2, lvs_none]
theorem rs_two (w : World) (x y : ByteArray) : Rs (w.alloc (.cells #[.string x, .string y] 9)) (some ⟨w.heap.size, 0, none⟩) 2 2 [x, y] := by
  refine ⟨rfl, Nat.le_refl _, by unfold maxLen; omega, fun _ => ⟨w.heap.size, 0, rfl, by simp, fun i hi => ?_⟩⟩
  have hb : (w.alloc (.cells #[.string x, .string y] 9)).heap[w.heap.size]? = some (.cells #[.string x, .string y] 9 (0, 0)) := heap_alloc_new w _
  have hc : i = 0 ∨ i = 1 := by omega
  rcases hc with rfl | rfl <;> (rw [cell_of_blk hb]; rfl)

theorem kn_ok : okG 2 2 0 1 := by unfold okG; omega
theorem kn_nodes : nodes 2 2 0 1 = 3 := by decide +kernel
theorem kn_err : newErr 2 2 0 1 [secOf 0, secOf 1] = 0 := by
  unfold newErr
  rw [if_neg (fun h => h kn_ok), if_neg (by decide), if_pos]
  intro i hi
  have hc : i = 0 ∨ i = 1 := by have : i < 2 := hi; omega
  rcases hc with rfl | rfl <;> exact secOf_size _
theorem kn_tree : treeL 2 2 0 1 [secOf 0, secOf 1] = [leafB (secOf 0), leafB (secOf 1), nodeB [leafB (secOf 0), leafB (secOf 1)]] := by
  unfold treeL
  rw [kn_nodes]
  show growL 2 2 0 1 [leafB (secOf 0), leafB (secOf 1)] 1 = _
  show [leafB (secOf 0), leafB (secOf 1)] ++ [nodeB (kids [leafB (secOf 0), leafB (secOf 1)] (children 2 2 0 1 2))] = _
  rw [show children 2 2 0 1 2 = [0, 1] from by decide +kernel]
  rfl

theorem node_two (x y : ByteArray) (hx : x.size = 32) (hy : y.size = 32) (w : World) :
    Calls Tryd.prog 46 #[.slice (some ⟨w.heap.size, 0, none⟩) 2 2] (w.alloc (.cells #[.string x, .string y] 9)) fun e w' => e = .returned (.string (nodeB [x, y])) ∧ Below w.heap.size w w' := by
  have hj := jn_small [x, y] 32 (fun i hi => by
        have hc : i = 0 ∨ i = 1 := by have : i < 2 := hi; omega
        rcases hc with rfl | rfl
        · exact Nat.le_of_eq hx
        · exact Nat.le_of_eq hy) 2 (Nat.le_refl _)
  have hal : Below w.heap.size w (w.alloc (.cells #[.string x, .string y] 9)) := (Below.refl _ _).alloc (Nat.le_refl _) _
  have hres : Value.string (nodeB [x, y]) = strV (dig (1 :: jn (lAt [x, y]) 2)) := rfl
  rw [hres]
  refine (rnode_any (some ⟨w.heap.size, 0, none⟩) 2 2 (lAt [x, y]) _ (rs_two w x y).strs (by omega) (by omega)).mono ?_
  rintro e w' ⟨rfl, hb⟩
  exact ⟨rfl, hal.trans (hb.mono hal.size)⟩
theorem leaf_sec (x : UInt8) (w : World) : Calls Tryd.prog 42 #[.string (secOf x)] w fun e w' => e = .returned (.string (leafB (secOf x))) ∧ Below w.heap.size w w' := by
  have hz := secOf_size x
  generalize secOf x = s at *
  exact rleaf_any s w (by omega)
theorem new_two (w : World) (hK : Kon w) : ∃ l0 l1 : ByteArray, l0 = leafB (secOf 0) ∧ l1 = leafB (secOf 1) ∧
    Calls Tryd.prog 18 #[geo 2 2 0 1, .slice (some ⟨w.heap.size, 0, none⟩) 2 2] (w.alloc (.cells #[.string (secOf 0), .string (secOf 1)] 9)) fun e w' => ∃ p v, e = .returned (.tuple #[.pointer (some ⟨p, 0, none⟩), .int .i64 0]) ∧ PT w' w.heap.size p v 2 2 0 1 [l0, l1, nodeB [l0, l1]] ∧ Below w.heap.size w w' := by
  refine ⟨_, _, rfl, rfl, ?_⟩
  have hal : Below w.heap.size w (w.alloc (.cells #[.string (secOf 0), .string (secOf 1)] 9)) := (Below.refl _ _).alloc (Nat.le_refl _) _
  refine (tnew_any 2 2 0 1 _ 2 2 [secOf 0, secOf 1] _ (rs_two w _ _) (hK.below hal)).mono ?_
  rintro e w' h
  rw [kn_err, kn_tree] at h
  rcases h with ⟨_, p, v, rfl, hT, hb⟩ | ⟨h, _⟩
  · exact ⟨p, v, rfl, ⟨hT.blk, Nat.le_trans hal.size hT.low, towns_low hT.own hal.size, hT.ne⟩, hal.trans (hb.mono hal.size)⟩
  · exact absurd rfl h
end Go.Proofs.YtpdlpoomgkpogaaDoor
/-
  The package-level table of sha, for tree: what the row's condition gives the walks; the world of the witness; the card's last step.
-/
namespace Go.Proofs.YtpdlpoomgkpogaaDoor
open Go.ChangeShapes Go.WideShapes Go.ChangeAt Go.RowKit
set_option linter.unusedVariables false

def laidR : List (String × DataW Unit) := [("pentimento/sha.rounds", Rows.laid_pentimento_sha_rounds)]
theorem gR : Tryd.prog.globalNamed "pentimento/sha.rounds" = some 0 := by kernel_rfl
theorem tR : (Tryd.prog.globals[0]?).map (·.type) = some 109 := by kernel_rfl

/-- The door's own heap meets the condition. -/
theorem door_met (os : Os) (args : Array Value) : laidMetH Tryd.prog laidR ((World.doorLaid Tryd.prog 400 os).forCall (fun _ _ => 0) ⟨#[], args, []⟩).memory :=
  laidMetH_of_parts3 (fuel := 8) (laidMet_of_run' 8 (by kernel_rfl) (by kernel_rfl)) (by kernel_rfl) (by kernel_rfl)

theorem rounds_list : (Rows.laid_pentimento_sha_rounds : DataW Unit) = .agg (kon.map fun (n : Nat) => .lit (.int .u32 (n : Int))) := by rfl

theorem of_laid {W : World} (h : laidMetH Tryd.prog laidR W) : Kon W := by
  rw [MakeChecks.laidMetH_plain _ _ _ (by kernel_rfl)] at h
  obtain ⟨ps, ⟨g0, t0, cs0, f0, p0, q0, hg0, ht0, hv0, hd0, _, _⟩, _, _⟩ := h
  obtain rfl := Option.some.inj (gR.symm.trans hg0)
  obtain rfl := Option.some.inj (tR.symm.trans ht0)
  obtain ⟨xs, m1, rfl, hx1, hlen, hn3, hel⟩ := DataW.trod_array Tryd.underlying109 hd0
  have c3 : Tryd.prog.cellsOf 97 = 1 := by kernel_rfl
  intro j hj
  have h0 := hel j hj
  rw [c3, Nat.mul_one] at h0
  have hjx : j < xs.length := by omega
  rw [List.getElem?_eq_getElem hjx] at h0
  obtain ⟨k, e1, e2, _⟩ := DataW.trod_int Tryd.underlying97 h0
  have hx2 := congrArg Prod.fst hx1
  simp only [rounds_list, DataW.agg.injEq] at hx2
  have hjk : j < kon.length := hj
  have hx3 := congrArg (fun l => l[j]?) hx2
  simp only [List.getElem?_map, List.getElem?_eq_getElem hjx, List.getElem?_eq_getElem hjk, Option.map_some, e2, Option.some.injEq, DataW.lit.injEq, Lit.int.injEq, true_and] at hx3
  have := World.var?_cell hg0 hv0 j
  rw [this]
  have e3 : cs0[j]? = some (.int .u32 k) := by
    have e4 := congrArg (fun l => l[0]?) e1
    simpa using e4
  rw [e3, ← hx3]
  simp [konAt, List.getD, List.getElem?_eq_getElem hjk]
end Go.Proofs.YtpdlpoomgkpogaaDoor

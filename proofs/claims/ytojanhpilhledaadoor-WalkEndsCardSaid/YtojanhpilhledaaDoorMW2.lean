/-
  Texts put together: W3, W4, W5.
-/
import Derived.Test.YtojanhpilhledaaDoorMW
import Derived.Test.YtojanhpilhledaaDoorTie
import Derived.Test.YtojanhpilhledaaDoorCards
import Derived.LaidMore
import Derived.OpenShut
import Derived.Stop.Joined
import Derived.SevenTiedAt
/-
  The program's Diff.
-/
namespace Go.Proofs.YtojanhpilhledaaDoor
open Go.RowKit
set_option linter.unusedVariables false
set_option linter.unusedSimpArgs false

set_option maxRecDepth 20000 in
set_option maxHeartbeats 4000000 in
theorem tdiff_bad (B p q : Nat) (v v' : Value) (N F C U N' F' C' U' : Int) (L O : List ByteArray) (w : World) (h : PT w B p v N F C U L) (h' : PT w B q v' N' F' C' U' O) (hb : N ≠ N' ∨ F ≠ F') :
    Calls Tryd.prog 26 #[.pointer (some ⟨p, 0, none⟩), .pointer (some ⟨q, 0, none⟩)] w
      fun e w' => e = .returned (.tuple #[.slice none 0 0, .int .i64 0, .int .i64 12]) ∧ Below w.heap.size w w' := by
  have c0 := h.cells.1
  have c1 := h.cells.2.1
  have d0 := h'.cells.1
  have d1 := h'.cells.2.1
  clear h h'
  by_cases hN : N = N'
  · subst hN
    have hF : F ≠ F' := hb.resolve_left (fun h => h rfl)
    have e1 : (F == F') = false := by simpa using hF
    have e2 : (F != F') = true := by simp [bne, e1]
    clear hb hF
    go_enter Tryd.func26, Tryd.ntmps26
    go_wp2
    go_quiet (fail)
    go_wp2
    refine bodyPost_ret (by simp [results, Tryd.f26, go_sem]; try rfl) rfl ?_
    exact ⟨rfl, below_drewN (Below.refl _ _) _⟩
  · have e1 : (N == N') = false := by simpa using hN
    have e2 : (N != N') = true := by simp [bne, e1]
    clear hb hN
    go_enter Tryd.func26, Tryd.ntmps26
    go_wp2
    go_quiet (fail)
    go_wp2
    refine bodyPost_ret (by simp [results, Tryd.f26, go_sem]; try rfl) rfl ?_
    exact ⟨rfl, below_drewN (Below.refl _ _) _⟩

set_option maxRecDepth 20000 in
set_option maxHeartbeats 4000000 in
theorem tdiff_ok (B p q : Nat) (v v' : Value) (N F C U C' U' : Int) (L O : List ByteArray) (w : World) (h : PT w B p v N F C U L) (h' : PT w B q v' N F C' U' O)
    (hok : okG N F C U) (hL : L.length = nodes N F C U) (hO : O.length = nodes N F C U) :
    Calls Tryd.prog 26 #[.pointer (some ⟨p, 0, none⟩), .pointer (some ⟨q, 0, none⟩)] w
      fun e w' => ∃ sv, e = .returned (.tuple #[sv, .int .i64 ((diffP N F C U L O).2 : Int), .int .i64 0]) ∧ w'.ownsRow w.heap.size 3 1 sv (diffP N F C U L O).1.length (ivs (diffP N F C U L O).1) ∧ Below w.heap.size w w' := by
  have c0 := h.cells.1
  have c1 := h.cells.2.1
  have d0 := h'.cells.1
  have d1 := h'.cells.2.1
  have hde : ∀ nq, Calls Tryd.prog 67 #[.pointer (some ⟨p, 0, none⟩), .pointer (some ⟨q, 0, none⟩), .func (.func 68) #[] #[.pointer (some ⟨w.heap.size, 0, none⟩)]] ((w.drewN nq).alloc (.cells #[.slice none 0 0] 46))
      fun e w' => e = .returned (.int .i64 ((diffP N F C U L O).2 : Int)) ∧ (∃ sv, w'.heap[w.heap.size]? = some (.cells #[sv] 46 (0, 0)) ∧ w'.ownsRow w.heap.size 3 1 sv (diffP N F C U L O).1.length (ivs (diffP N F C U L O).1)) ∧ Below w.heap.size w w' := fun nq => by
    have hb : Below w.heap.size w ((w.drewN nq).alloc (.cells #[.slice none 0 0] 46)) := (below_drewN (Below.refl _ _) nq).alloc (by exact Nat.le_refl _) _
    have hz : ((w.drewN nq).alloc (.cells #[.slice none 0 0] 46)).heap.size = w.heap.size + 1 := World.size_alloc _ _
    refine (descend_any B p q w.heap.size v v' N F C U C' U' L O _ (h.below hb) (h'.below hb) hok hL hO (heap_alloc_new (w.drewN nq) _) (fun k hk e => by have := (h.foot_low k hk).2; omega) (fun k hk e => by have := (h'.foot_low k hk).2; omega)).mono ?_
    rintro e w' ⟨rfl, ⟨sv, h1, h2⟩, hf⟩
    refine ⟨rfl, ⟨sv, h1, ?_⟩, hb.trans (hf.below (fun k hk => by omega) (by omega))⟩
    refine ⟨h2.1, ?_⟩
    rcases h2.2 with hn | ⟨g, cap, cur, rfl, hbb, rest⟩
    · exact .inl hn
    · exact .inr ⟨g, cap, cur, rfl, by omega, rest⟩
  generalize diffP N F C U L O = D at *
  have HDE := Lib.hid hde
  clear h h' hde hok hL hO
  have e1 : (N != N) = false := by simp
  have e2 : (F != F) = false := by simp
  go_enter Tryd.func26, Tryd.ntmps26
  go_wp2
  go_quiet (fail)
  go_wp2_with fail
  refine (HDE.out _).mono ?_
  rintro e w1 ⟨rfl, ⟨sv, h1, h2⟩, hb⟩
  have k0 : w1.cell? ⟨w.heap.size, 0, none⟩ = some sv := by rw [cell_of_blk h1]; rfl
  obtain ⟨a, c, rfl, _, _, _⟩ := owns_shape1 h2
  have HX := Lib.hid (And.intro h2 hb)
  clear h1 h2 hb HDE
  go_wp2
  refine bodyPost_ret (by simp [results, Tryd.f26, go_sem]; try rfl) rfl ?_
  exact ⟨_, rfl, HX.out.1, HX.out.2⟩

set_option maxRecDepth 20000 in
set_option maxHeartbeats 1000000 in
theorem tdiff_nil (u : Value) (hu : u = .pointer none ∨ ∃ q, u = .pointer (some ⟨q, 0, none⟩)) (w : World) :
    Calls Tryd.prog 26 #[.pointer none, u] w fun e w' => e = .returned (.tuple #[.slice none 0 0, .int .i64 0, .int .i64 1]) ∧ Below w.heap.size w w' := by
  rcases hu with rfl | ⟨q, rfl⟩
  · go_enter Tryd.func26, Tryd.ntmps26
    go_wp2
    refine bodyPost_ret (by simp [results, Tryd.f26, go_sem]; try rfl) rfl ?_
    exact ⟨rfl, Below.refl _ _⟩
  · go_enter Tryd.func26, Tryd.ntmps26
    go_wp2
    refine bodyPost_ret (by simp [results, Tryd.f26, go_sem]; try rfl) rfl ?_
    exact ⟨rfl, Below.refl _ _⟩
set_option maxRecDepth 20000 in
set_option maxHeartbeats 1000000 in
theorem tdiff_other (p : Nat) (w : World) :
    Calls Tryd.prog 26 #[.pointer (some ⟨p, 0, none⟩), .pointer none] w fun e w' => e = .returned (.tuple #[.slice none 0 0, .int .i64 0, .int .i64 1]) ∧ Below w.heap.size w w' := by
  go_enter Tryd.func26, Tryd.ntmps26
  go_wp2
  refine bodyPost_ret (by simp [results, Tryd.f26, go_sem]; try rfl) rfl ?_
  exact ⟨rfl, Below.refl _ _⟩

/-- The program's trees that are not there. -/
theorem nil_digest (node : Int) (w : World) : Calls Tryd.prog 62 #[.pointer none, .int .i64 node] w fun e w' => e = .returned (.tuple #[.string ⟨#[]⟩, .int .i64 1]) ∧ Below w.heap.size w w' := by
  go_enter Tryd.func62, Tryd.ntmps62
  go_wp2
  refine bodyPost_ret (results_tmp2 rfl _ _ _) rfl ?_
  exact ⟨rfl, Below.refl _ _⟩
theorem nil_all (w : World) : Calls Tryd.prog 22 #[.pointer none] w fun e w' => e = .returned (.slice none 0 0) ∧ Below w.heap.size w w' := by
  go_enter Tryd.func22, Tryd.ntmps22
  go_wp2
  go_ret
  exact ⟨rfl, Below.refl _ _⟩
theorem nil_bad (w : World) : Calls Tryd.prog 25 #[.pointer none] w fun e w' => e = .returned (.slice none 0 0) ∧ Below w.heap.size w w' := by
  go_enter Tryd.func25, Tryd.ntmps25
  go_wp2
  go_ret
  exact ⟨rfl, Below.refl _ _⟩
theorem nil_copy (w : World) : Calls Tryd.prog 18 #[.pointer none] w fun e w' => e = .returned (.pointer none) ∧ Below w.heap.size w w' := by
  go_enter Tryd.func18, Tryd.ntmps18
  go_wp2
  go_ret
  exact ⟨rfl, Below.refl _ _⟩
theorem nil_set (leaf : Int) (s : ByteArray) (w : World) : Calls Tryd.prog 19 #[.pointer none, .int .i64 leaf, .string s] w fun e w' => e = .returned (.int .i64 1) ∧ Below w.heap.size w w' := by
  go_enter Tryd.func19, Tryd.ntmps19
  go_wp2
  go_ret
  exact ⟨rfl, Below.refl _ _⟩
set_option maxRecDepth 20000 in
theorem nil_geom (w : World) : Calls Tryd.prog 63 #[.pointer none] w fun e w' => e = .returned (geo 0 0 0 0) ∧ Below w.heap.size w w' := by
  unfold geo
  go_enter Tryd.func63, Tryd.ntmps63
  go_wp2
  refine bodyPost_ret (by simp [results, Tryd.f63, go_sem]; try rfl) rfl ?_
  exact ⟨rfl, (Below.refl _ w).alloc (Nat.le_refl _) _⟩
theorem bad_geo : ¬ okG 0 0 0 0 := by unfold okG; omega
set_option maxRecDepth 20000 in
theorem nil_root (w : World) : Calls Tryd.prog 50 #[.pointer none] w fun e w' => e = .returned (.string ⟨#[]⟩) ∧ Below w.heap.size w w' := by
  have g1 := nil_geom w
  have g2 := fun w => root_any 0 0 0 0 w
  have g3 := fun k w => nil_digest k w
  unfold geo at g1 g2
  have G1 := Lib.hid g1
  have G2 := Lib.hid g2
  have G3 := Lib.hid g3
  clear g1 g2 g3
  go_enter Tryd.func50, Tryd.ntmps50
  go_wp2_with fail
  refine G1.out.mono ?_
  rintro e w1 ⟨rfl, hb⟩
  have HB1 := Lib.hid hb
  clear hb G1
  go_wp2_with fail
  refine (G2.out _).mono ?_
  rintro e w2 ⟨rfl, hb⟩
  have HB2 := Lib.hid (HB1.out.trans (hb.mono HB1.out.size))
  clear hb G2 HB1
  go_wp2_with fail
  refine (G3.out _ _).mono ?_
  rintro e w3 ⟨rfl, hb⟩
  have HB3 := Lib.hid (HB2.out.trans (hb.mono HB2.out.size))
  clear hb G3 HB2
  go_wp2
  go_ret
  exact ⟨rfl, HB3.out⟩
end Go.Proofs.YtojanhpilhledaaDoor
/-
  The fixed calls of the trees' statements; the walk of TreeNil.
-/
namespace Go.Proofs.YtojanhpilhledaaDoor
open Go.RowKit
set_option linter.unusedVariables false
set_option linter.unusedSimpArgs false

theorem lvs_none (nx lf : Int → List Int) : ∀ d, lvs nx lf d [] = ([], 0)
  | 0 => rfl
  | d + 1 => by
    show ([] ++ (lvs nx lf d []).1, 0 + (lvs nx lf d []).2) = _
    rw [lvs_none nx lf d]
    rfl
theorem diff_same (N F C U : Int) (L : List ByteArray) : diffP N F C U L L = ([], 1) := by
  unfold diffP
  have e1 : ∀ k, nxD N F C U L L k = [] := fun k => if_pos rfl
  have e2 : ∀ k, lfD N L L k = [] := fun k => if_neg (fun h => h.1 rfl)
  show ([((nodes N F C U - 1 : Nat) : Int)].flatMap (lfD N L L) ++ (lvs _ _ _ ([((nodes N F C U - 1 : Nat) : Int)].flatMap (nxD N F C U L L))).1, 1 + (lvs _ _ _ ([((nodes N F C U - 1 : Nat) : Int)].flatMap (nxD N F C U L L))).2) = _
  simp [e1, e2, lvs_none]
theorem rs_two (w : World) (x y : ByteArray) : Rs (w.alloc (.cells #[.string x, .string y] 9)) (some ⟨w.heap.size, 0, none⟩) 2 2 [x, y] := by
  refine ⟨rfl, Nat.le_refl _, by unfold maxLen; omega, fun _ => ⟨w.heap.size, 0, rfl, by simp, fun i hi => ?_⟩⟩
  have hb : (w.alloc (.cells #[.string x, .string y] 9)).heap[w.heap.size]? = some (.cells #[.string x, .string y] 9 (0, 0)) := heap_alloc_new w _
  have hc : i = 0 ∨ i = 1 := by omega
  rcases hc with rfl | rfl <;> (rw [cell_of_blk hb]; rfl)

theorem kn_ok : okG 2 2 0 1 := by unfold okG; omega
theorem kn_nodes : nodes 2 2 0 1 = 3 := by decide +kernel
theorem kn_err : newErr 2 2 0 1 [secOf 0, secOf 1] = 0 := by
  unfold newErr
  rw [if_neg (fun h => h kn_ok), if_neg (by decide), if_pos]
  intro i hi
  have hc : i = 0 ∨ i = 1 := by have : i < 2 := hi; omega
  rcases hc with rfl | rfl <;> exact secOf_size _
theorem kn_tree : treeL 2 2 0 1 [secOf 0, secOf 1] = [leafB (secOf 0), leafB (secOf 1), nodeB [leafB (secOf 0), leafB (secOf 1)]] := by
  unfold treeL
  rw [kn_nodes]
  show growL 2 2 0 1 [leafB (secOf 0), leafB (secOf 1)] 1 = _
  show [leafB (secOf 0), leafB (secOf 1)] ++ [nodeB (kids [leafB (secOf 0), leafB (secOf 1)] (children 2 2 0 1 2))] = _
  rw [show children 2 2 0 1 2 = [0, 1] from by decide +kernel]
  rfl

theorem node_two (x y : ByteArray) (hx : x.size = 32) (hy : y.size = 32) (w : World) :
    Calls Tryd.prog 51 #[.slice (some ⟨w.heap.size, 0, none⟩) 2 2] (w.alloc (.cells #[.string x, .string y] 9)) fun e w' => e = .returned (.string (nodeB [x, y])) ∧ Below w.heap.size w w' := by
  have hj := jn_small [x, y] 32 (fun i hi => by
        have hc : i = 0 ∨ i = 1 := by have : i < 2 := hi; omega
        rcases hc with rfl | rfl
        · exact Nat.le_of_eq hx
        · exact Nat.le_of_eq hy) 2 (Nat.le_refl _)
  have hal : Below w.heap.size w (w.alloc (.cells #[.string x, .string y] 9)) := (Below.refl _ _).alloc (Nat.le_refl _) _
  have hres : Value.string (nodeB [x, y]) = strV (dig (1 :: jn (lAt [x, y]) 2)) := rfl
  rw [hres]
  refine (rnode_any (some ⟨w.heap.size, 0, none⟩) 2 2 (lAt [x, y]) _ (rs_two w x y).strs (by omega) (by omega)).mono ?_
  rintro e w' ⟨rfl, hb⟩
  exact ⟨rfl, hal.trans (hb.mono hal.size)⟩
theorem leaf_sec (x : UInt8) (w : World) : Calls Tryd.prog 47 #[.string (secOf x)] w fun e w' => e = .returned (.string (leafB (secOf x))) ∧ Below w.heap.size w w' := by
  have hz := secOf_size x
  generalize secOf x = s at *
  exact rleaf_any s w (by omega)
theorem new_two (w : World) (hK : Kon w) : ∃ l0 l1 : ByteArray, l0 = leafB (secOf 0) ∧ l1 = leafB (secOf 1) ∧
    Calls Tryd.prog 13 #[geo 2 2 0 1, .slice (some ⟨w.heap.size, 0, none⟩) 2 2] (w.alloc (.cells #[.string (secOf 0), .string (secOf 1)] 9)) fun e w' => ∃ p v, e = .returned (.tuple #[.pointer (some ⟨p, 0, none⟩), .int .i64 0]) ∧ PT w' w.heap.size p v 2 2 0 1 [l0, l1, nodeB [l0, l1]] ∧ Below w.heap.size w w' := by
  refine ⟨_, _, rfl, rfl, ?_⟩
  have hal : Below w.heap.size w (w.alloc (.cells #[.string (secOf 0), .string (secOf 1)] 9)) := (Below.refl _ _).alloc (Nat.le_refl _) _
  refine (tnew_any 2 2 0 1 _ 2 2 [secOf 0, secOf 1] _ (rs_two w _ _) (hK.below hal)).mono ?_
  rintro e w' h
  rw [kn_err, kn_tree] at h
  rcases h with ⟨_, p, v, rfl, hT, hb⟩ | ⟨h, _⟩
  · exact ⟨p, v, rfl, ⟨hT.blk, Nat.le_trans hal.size hT.low, towns_low hT.own hal.size, hT.ne⟩, hal.trans (hb.mono hal.size)⟩
  · exact absurd rfl h

set_option maxRecDepth 20000 in
set_option maxHeartbeats 1000000 in
theorem tknown_any (w : World) (hK : Kon w) :
    Calls Tryd.prog 12 #[] w fun e w' => e = .returned (.bool true) ∧ Below w.heap.size w w' := by
  have h1 := fun w => rzero_any w
  have h2 := fun w => rfill_any 1 1 rfl w
  have h3 := fun w => leaf_sec 0 w
  have h4 := fun w => leaf_sec 1 w
  have h5 := fun w hK => new_two w hK
  have s0 := leafB_size (secOf 0)
  have s1 := leafB_size (secOf 1)
  have hlb : ∃ l0 l1 : ByteArray, l0 = leafB (secOf 0) ∧ l1 = leafB (secOf 1) := ⟨_, _, rfl, rfl⟩
  obtain ⟨l0, l1, hl0, hl1⟩ := hlb
  rw [← hl0] at s0
  rw [← hl1] at s1
  simp only [← hl0] at h3
  simp only [← hl1] at h4
  have h6 : ∀ (w : World), Kon w → Calls Tryd.prog 13 #[geo 2 2 0 1, .slice (some ⟨w.heap.size, 0, none⟩) 2 2] (w.alloc (.cells #[.string (secOf 0), .string (secOf 1)] 9)) fun e w' => ∃ p v, e = .returned (.tuple #[.pointer (some ⟨p, 0, none⟩), .int .i64 0]) ∧ PT w' w.heap.size p v 2 2 0 1 [l0, l1, nodeB [l0, l1]] ∧ Below w.heap.size w w' := fun w hK => by
    obtain ⟨a, b, ha, hb, h⟩ := h5 w hK
    rw [← hl0] at ha
    rw [← hl1] at hb
    subst ha hb
    exact h
  have h7 := fun w => node_two l0 l1 s0 s1 w
  clear h5 hl0 hl1 s0 s1
  generalize secOf 0 = z0 at *
  generalize secOf 1 = z1 at *
  obtain ⟨nd, hnd⟩ : ∃ nd, nd = nodeB [l0, l1] := ⟨_, rfl⟩
  simp only [← hnd] at h6 h7
  clear hnd
  have hlen : ([l0, l1, nd] : List ByteArray).length = nodes 2 2 0 1 := by rw [kn_nodes]; rfl
  have hds := diff_same 2 2 0 1 [l0, l1, nd]
  unfold geo at h6
  have H1 := Lib.hid h1
  have H2 := Lib.hid h2
  have H3 := Lib.hid h3
  have H4 := Lib.hid h4
  have H6 := Lib.hid h6
  have H7 := Lib.hid h7
  have HK := Lib.hid hK
  have HLEN := Lib.hid (And.intro hlen hds)
  clear h1 h2 h3 h4 h6 h7 hK hlen hds
  have b0 : (w.alloc (.cells #[.int .i64 2, .int .i64 2, .int .i64 0, .int .i64 1] 23)).heap[w.heap.size]? = some (.cells #[.int .i64 2, .int .i64 2, .int .i64 0, .int .i64 1] 23 (0, 0)) := heap_alloc_new w _
  have hb0 : Below w.heap.size w (w.alloc (.cells #[.int .i64 2, .int .i64 2, .int .i64 0, .int .i64 1] 23)) := (Below.refl _ _).alloc (Nat.le_refl _) _
  have hl0 := lt_of_block b0
  go_enter Tryd.func12, Tryd.ntmps12
  go_upto_region 2 with fail
  obtain ⟨W0, hW0⟩ : ∃ W, W = w.alloc (.cells #[.int .i64 2, .int .i64 2, .int .i64 0, .int .i64 1] 23) := ⟨_, rfl⟩
  rw [← hW0] at b0 hb0 hl0 ⊢
  have HB0 := Lib.hid hb0
  have HBX := Lib.hid (And.intro b0 hl0)
  clear hW0 b0 hb0 hl0
  go_wp2_with fail
  refine (H1.out _).mono ?_
  rintro e w1 ⟨rfl, hb⟩
  have HB1 := Lib.hid hb
  clear hb
  go_wp2_with fail
  refine (H3.out _).mono ?_
  rintro e w2 ⟨rfl, hb⟩
  have HB2 := Lib.hid (HB1.out.trans (hb.mono HB1.out.size))
  clear hb HB1 H3
  go_wp2_with fail
  refine (H2.out _).mono ?_
  rintro e w3 ⟨rfl, hb⟩
  have HB3 := Lib.hid (HB2.out.trans (hb.mono HB2.out.size))
  clear hb HB2
  go_wp2_with fail
  refine (H4.out _).mono ?_
  rintro e w4 ⟨rfl, hb⟩
  have HB4 := Lib.hid (HB3.out.trans (hb.mono HB3.out.size))
  clear hb HB3 H4
  go_upto_region 4 with fail
  have HBA := Lib.hid (HB0.out.trans (HB4.out.mono HB0.out.size))
  have hkp : ∀ w', Below w4.drew.heap.size w4.drew w' → (w'.cell? ⟨w.heap.size, 0, none⟩ = some (.int .i64 2) ∧ w'.cell? ⟨w.heap.size, 1, none⟩ = some (.int .i64 2) ∧ w'.cell? ⟨w.heap.size, 2, none⟩ = some (.int .i64 0) ∧ w'.cell? ⟨w.heap.size, 3, none⟩ = some (.int .i64 1)) := fun w' hb => by
    have hb1 : Below w4.heap.size w4 w' := (Below.refl _ w4).drew.trans hb
    have hx : w'.heap[w.heap.size]? = some (.cells #[.int .i64 2, .int .i64 2, .int .i64 0, .int .i64 1] 23 (0, 0)) := by
      rw [hb1.block _ (Nat.lt_of_lt_of_le HBX.out.2 HB4.out.size), HB4.out.block _ HBX.out.2]
      exact HBX.out.1
    refine ⟨?_, ?_, ?_, ?_⟩ <;> (rw [cell_of_blk hx]; rfl)
  have HKP := Lib.hid hkp
  clear hkp
  have hG : Below w4.drew.heap.size w4.drew w4.drew := Below.refl _ _
  go_region_held3 (fun w' => (w'.cell? ⟨w.heap.size, 0, none⟩ = some (.int .i64 2) ∧ w'.cell? ⟨w.heap.size, 1, none⟩ = some (.int .i64 2) ∧ w'.cell? ⟨w.heap.size, 2, none⟩ = some (.int .i64 0) ∧ w'.cell? ⟨w.heap.size, 3, none⟩ = some (.int .i64 1)))
    (first | exact HKP.out _ hG | exact HKP.out _ (hG.alloc hG.size _))
    (first
    | (go_at_call 48; with_reducible refine (H1.out _).mono ?_; rintro r wz ⟨rfl, hb⟩; replace hG := hG.trans (hb.mono hG.size); clear hb)
    | (go_at_call 49; with_reducible refine (H2.out _).mono ?_; rintro r wf ⟨rfl, hb⟩; replace hG := hG.trans (hb.mono hG.size); clear hb)
    | (go_at_call 13; with_reducible refine (H6.out _ (HK.out.below (HBA.out.drew.trans (hG.mono HBA.out.drew.size)))).mono ?_; rintro r wn ⟨p, v, rfl, hT, hb⟩; replace hG := hG.trans (hb.mono hG.size); have HT := Lib.hid hT; have HSZ := Lib.hid hb.size; clear hb hT))
  rename_i hHeld
  clear hHeld HKP
  have HBN := Lib.hid (HBA.out.drew.trans (hG.mono HBA.out.drew.size))
  clear hG HBA
  go_wp2_with fail
  refine (tcopy_any _ p v 2 2 0 1 [l0, l1, nd] _ HT.out (by simp) (by simp)).mono ?_
  rintro e w5 ⟨q, v', rfl, hT', hb⟩
  have HU := Lib.hid (show PT w5 wf.heap.size q v' 2 2 0 1 [l0, l1, nd] from ⟨hT'.blk, Nat.le_trans HSZ.out hT'.low, towns_low hT'.own HSZ.out, hT'.ne⟩)
  have HT5 := Lib.hid (HT.out.below hb)
  have HB5 := Lib.hid (HBN.out.trans (hb.mono HBN.out.size))
  clear hb hT' HSZ HT HBN
  go_wp2_with fail
  have hdf := tdiff_ok _ p q v v' 2 2 0 1 0 1 [l0, l1, nd] [l0, l1, nd] w5 HT5.out HU.out kn_ok HLEN.out.1 HLEN.out.1
  rw [HLEN.out.2] at hdf
  refine hdf.mono ?_
  clear hdf
  rintro e w6 ⟨sv, rfl, how, hb⟩
  obtain ⟨a6, c6, rfl, _, _, _⟩ := owns_shape1 how
  clear how
  have HT6 := Lib.hid (HT5.out.below hb)
  have HB6 := Lib.hid (HB5.out.trans (hb.mono HB5.out.size))
  clear hb HU HT5 HB5
  have hrt : Calls Tryd.prog 50 #[.pointer (some ⟨p, 0, none⟩)] w6 fun e w' => e = .returned (.string nd) ∧ Below w6.heap.size w6 w' := troot_any _ p v 2 2 0 1 [l0, l1, nd] w6 HT6.out (by simp) HLEN.out.1 (by simp)
  have HRT := Lib.hid hrt
  clear hrt
  go_wp2_with fail
  refine HRT.out.mono ?_
  rintro e w7 ⟨rfl, hb⟩
  have HT7 := Lib.hid (HT6.out.below hb)
  have HB7 := Lib.hid (HB6.out.trans (hb.mono HB6.out.size))
  clear hb HRT HT6 HB6
  go_wp2_with fail
  refine (H7.out _).mono ?_
  rintro e w8 ⟨rfl, hb⟩
  have HT8 := Lib.hid (HT7.out.below hb)
  have HB8 := Lib.hid (HB7.out.trans (hb.mono HB7.out.size))
  clear hb HT7 HB7
  go_wp2_with fail
  refine (tall_any _ p v 2 2 0 1 [l0, l1, nd] w8 HT8.out (by simp) (by simp)).mono ?_
  rintro e w9 ⟨sv, rfl, how, hb⟩
  obtain ⟨a9, c9, rfl, _, _, _⟩ := owns_shape1 how
  clear how
  have HB9 := Lib.hid (HB8.out.trans (hb.mono HB8.out.size))
  clear hb HT8 HB8
  go_wp2
  go_ret
  exact ⟨rfl, HB9.out⟩
end Go.Proofs.YtojanhpilhledaaDoor
/-
  The package-level table of sha, for tree: what the row's condition gives the walks; the world of the witness; the card's last step.
-/
namespace Go.Proofs.YtojanhpilhledaaDoor
open Go.ChangeShapes Go.WideShapes Go.ChangeAt Go.RowKit
set_option linter.unusedVariables false

def laidR : List (String × DataW Unit) := [("pentimento/sha.rounds", Rows.laid_pentimento_sha_rounds)]
theorem gR : Tryd.prog.globalNamed "pentimento/sha.rounds" = some 0 := by kernel_rfl
theorem tR : (Tryd.prog.globals[0]?).map (·.type) = some 126 := by kernel_rfl

/-- The door's own heap meets the condition. -/
theorem door_met (os : Os) (args : Array Value) : laidMetH Tryd.prog laidR ((World.doorLaid Tryd.prog 400 os).forCall (fun _ _ => 0) ⟨#[], args, []⟩).memory :=
  laidMetH_of_parts3 (fuel := 8) (laidMet_of_run' 8 (by kernel_rfl) (by kernel_rfl)) (by kernel_rfl) (by kernel_rfl)

theorem rounds_list : (Rows.laid_pentimento_sha_rounds : DataW Unit) = .agg (kon.map fun (n : Nat) => .lit (.int .u32 (n : Int))) := by rfl

theorem of_laid {W : World} (h : laidMetH Tryd.prog laidR W) : Kon W := by
  rw [MakeChecks.laidMetH_plain _ _ _ (by kernel_rfl)] at h
  obtain ⟨ps, ⟨g0, t0, cs0, f0, p0, q0, hg0, ht0, hv0, hd0, _, _⟩, _, _⟩ := h
  obtain rfl := Option.some.inj (gR.symm.trans hg0)
  obtain rfl := Option.some.inj (tR.symm.trans ht0)
  obtain ⟨xs, m1, rfl, hx1, hlen, hn3, hel⟩ := DataW.trod_array Tryd.underlying126 hd0
  have c3 : Tryd.prog.cellsOf 117 = 1 := by kernel_rfl
  intro j hj
  have h0 := hel j hj
  rw [c3, Nat.mul_one] at h0
  have hjx : j < xs.length := by omega
  rw [List.getElem?_eq_getElem hjx] at h0
  obtain ⟨k, e1, e2, _⟩ := DataW.trod_int Tryd.underlying117 h0
  have hx2 := congrArg Prod.fst hx1
  simp only [rounds_list, DataW.agg.injEq] at hx2
  have hjk : j < kon.length := hj
  have hx3 := congrArg (fun l => l[j]?) hx2
  simp only [List.getElem?_map, List.getElem?_eq_getElem hjx, List.getElem?_eq_getElem hjk, Option.map_some, e2, Option.some.injEq, DataW.lit.injEq, Lit.int.injEq, true_and] at hx3
  have := World.var?_cell hg0 hv0 j
  rw [this]
  have e3 : cs0[j]? = some (.int .u32 k) := by
    have e4 := congrArg (fun l => l[0]?) e1
    simpa using e4
  rw [e3, ← hx3]
  simp [konAt, List.getD, List.getElem?_eq_getElem hjk]
end Go.Proofs.YtojanhpilhledaaDoor

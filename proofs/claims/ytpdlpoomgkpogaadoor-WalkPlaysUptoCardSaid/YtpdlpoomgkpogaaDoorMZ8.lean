/-
  Texts put together: Z8, Z9.
-/
import Derived.Test.YtpdlpoomgkpogaaDoorMZ6
import Derived.Test.YtpdlpoomgkpogaaDoorMX1
import Derived.Test.YtpdlpoomgkpogaaDoorMW2
/-
  A walk is made: the program's New and the document's.
-/
namespace Go.Proofs.YtpdlpoomgkpogaaDoor
open Go.RowKit
set_option linter.unusedVariables false
set_option linter.unusedSimpArgs false

def ws0 : WS := ⟨[], [], 0, 0, 0⟩
theorem wk_new {ty fty tty : TypeId} {w1 : World} {B p : Nat} {v : Value} {N F C U : Int} {L : List ByteArray} (h : GT tty w1 0 p v N F C U L) (hB : B ≤ w1.heap.size) :
    WK ty fty tty (w1.alloc (.cells #[.pointer (some ⟨p, 0, none⟩), .slice none 0 0, .slice none 0 0, .int .i64 0, .int .i64 0, .int .i64 0] ty)) B w1.heap.size (.slice none 0 0) (.slice none 0 0) p v N F C U L ws0 where
  blk := heap_alloc_new w1 _
  low := hB
  qa := oq_nil _ _ _ _
  qw := oq_nil _ _ _ _
  tree := h.below ((Below.refl _ _).alloc (Nat.le_refl _) _)
  aw := fun k e => by simp [Value.ownBlock] at e
  pa := by simp [Value.ownBlock]
  pq := by simp [Value.ownBlock]
  tp := fun k hk => ⟨fun e => by have := (h.foot_low k hk).2; omega, by simp [Value.ownBlock], by simp [Value.ownBlock]⟩
theorem GT.low0 {ty : TypeId} {w : World} {B p : Nat} {v : Value} {N F C U : Int} {L : List ByteArray} (h : GT ty w B p v N F C U L) : GT ty w 0 p v N F C U L := ⟨h.blk, Nat.zero_le _, towns_low h.own (Nat.zero_le _), h.ne⟩
/-- What changes other blocks leaves a walk as it is. -/
theorem WK.fr {ty fty tty : TypeId} {w w' : World} {A : Nat → Prop} {B pw : Nat} {va vw : Value} {p : Nat} {v : Value} {N F C U : Int} {L : List ByteArray} {s : WS} (h : WK ty fty tty w B pw va vw p v N F C U L s) (hF : Fr A w w') (hd : ∀ k, wfoot pw va vw k ∨ tfoot p v k → ¬ A k) : WK ty fty tty w' B pw va vw p v N F C U L s where
  blk := (hF.block pw (lt_of_block h.blk) (hd pw (.inl (.inl rfl)))).trans h.blk
  low := h.low
  qa := h.qa.kept fun k hk => hF.block k (h.qa.lt k hk).2 (hd k (.inl (.inr (.inl hk))))
  qw := h.qw.kept fun k hk => hF.block k (h.qw.lt k hk).2 (hd k (.inl (.inr (.inr hk))))
  tree := h.tree.kept fun k hk => hF.block k (h.tree.foot_low k hk).2 (hd k (.inr hk))
  aw := h.aw
  pa := h.pa
  pq := h.pq
  tp := h.tp
/-- What a walk's making gives. -/
def WEnd (T : TypeId × TypeId × TypeId) (low : Nat) (N F C U : Int) (L : List ByteArray) (d : ByteArray) (w : World) (e : Ending) (w' : World) : Prop :=
  (d.size = 32 ∧ ∃ pw va vw p v, e = .returned (.tuple #[.pointer (some ⟨pw, 0, none⟩), .int .i64 0]) ∧ WK T.1 T.2.1 T.2.2 w' w.heap.size pw va vw p v N F C U L (findS N L ws0 ((nodes N F C U - 1 : Nat) : Int) d) ∧ (∀ k, tfoot p v k → low ≤ k) ∧ Below w.heap.size w w') ∨
  (d.size ≠ 32 ∧ e = .returned (.tuple #[.pointer none, .int .i64 4]) ∧ Below w.heap.size w w')
theorem wnew_nil (d : ByteArray) (w : World) : Calls Tryd.prog 7 #[.pointer none, .string d] w fun e w' => e = .returned (.tuple #[.pointer none, .int .i64 1]) ∧ Below w.heap.size w w' := by
  go_enter Tryd.func7, Tryd.ntmps7
  go_wp2
  refine bodyPost_ret (results_tmp2 rfl _ _ _) rfl ?_
  exact ⟨rfl, Below.refl _ _⟩
theorem rwnew_nil (d : ByteArray) (w : World) : Calls Tryd.prog 8 #[.pointer none, .string d] w fun e w' => e = .returned (.tuple #[.pointer none, .int .i64 1]) ∧ Below w.heap.size w w' := by
  go_enter Tryd.func8, Tryd.ntmps8
  go_wp2
  refine bodyPost_ret (results_tmp2 rfl _ _ _) rfl ?_
  exact ⟨rfl, Below.refl _ _⟩

set_option maxRecDepth 20000 in
set_option maxHeartbeats 2000000 in
theorem wnew_any (B p : Nat) (v : Value) (N F C U : Int) (L : List ByteArray) (d : ByteArray) (w : World) (h : PT w B p v N F C U L) (hok : okG N F C U) (hL : L.length = nodes N F C U) :
    Calls Tryd.prog 7 #[.pointer (some ⟨p, 0, none⟩), .string d] w fun e w' => WEnd (67, 71, 60) w.heap.size N F C U L d w e w' := by
  have hng := nodes_ge hok
  have hnl := nodes_le N F C U
  have hdr := dright_all d
  have HDR := Lib.hid hdr
  clear hdr
  by_cases hd : d.size = 32
  · have hcp := tcopy_any B p v N F C U L w h (by omega) (by omega)
    have hge := fun w' (hb : Below w.heap.size w w') => tgeom_any B p v N F C U L w' (h.below hb)
    have hrt := fun w => root_any N F C U w
    have HCP := Lib.hid hcp
    have HGE := Lib.hid hge
    have HRT := Lib.hid hrt
    have HN := Lib.hid (And.intro hL (And.intro hng hnl))
    clear hcp hge hrt hng hnl hL h
    unfold geo at HGE HRT
    go_enter Tryd.func7, Tryd.ntmps7
    go_wp2_with fail
    refine (HDR.out _).mono ?_
    rintro e w0 ⟨rfl, hw0⟩
    obtain rfl := hw0.symm
    clear hw0 HDR
    rw [decide_eq_true hd]
    go_wp2_with fail
    refine HCP.out.mono ?_
    rintro e w1 ⟨q, vq, rfl, hT, hb⟩
    have HLO := Lib.hid (fun k hk => (hT.foot_low k hk).1)
    have HW := Lib.hid (wk_new (ty := 67) (fty := 71) (B := w.heap.size) hT.low0 hb.size)
    have HB1 := Lib.hid (hb.alloc hb.size (.cells #[.pointer (some ⟨q, 0, none⟩), .slice none 0 0, .slice none 0 0, .int .i64 0, .int .i64 0, .int .i64 0] 67))
    clear hb hT HCP
    go_wp2_with fail
    refine (HGE.out _ HB1.out).mono ?_
    rintro e w2 ⟨rfl, hb⟩
    have HW2 := Lib.hid (HW.out.below hb)
    have HB2 := Lib.hid (HB1.out.trans (hb.mono HB1.out.size))
    clear hb HW HB1
    go_wp2_with fail
    refine (HRT.out _).mono ?_
    rintro e w3 ⟨rfl, hb⟩
    have HW3 := Lib.hid (HW2.out.below hb)
    have HB3 := Lib.hid (HB2.out.trans (hb.mono HB2.out.size))
    clear hb HW2 HB2
    have hcm := compare_any _ _ _ _ _ _ N F C U L ws0 (nodes N F C U - 1) d w3 HW3.out (by have := HN.out; omega) (by have := HN.out; omega) (Nat.zero_le _) (Nat.zero_le _)
    have HCM := Lib.hid hcm
    clear hcm
    go_wp2_with fail
    refine HCM.out.mono ?_
    rintro e w4 ⟨rfl, va, vw, hW, hF, hN⟩
    have HE := Lib.hid (And.intro hW (HB3.out.trans (hF.below (fun k hk => (HW3.out.foot k hk).1) HB3.out.size)))
    clear hW hF hN HCM HB3
    go_wp2
    refine bodyPost_ret (results_tmp2 rfl _ _ _) rfl ?_
    exact .inl ⟨hd, _, va, vw, q, vq, rfl, HE.out.1, HLO.out, HE.out.2⟩
  · clear h hng hnl
    go_enter Tryd.func7, Tryd.ntmps7
    go_wp2_with fail
    refine (HDR.out _).mono ?_
    rintro e w0 ⟨rfl, hw0⟩
    obtain rfl := hw0.symm
    clear hw0 HDR
    rw [decide_eq_false hd]
    go_wp2
    refine bodyPost_ret (results_tmp2 rfl _ _ _) rfl ?_
    exact .inr ⟨hd, rfl, Below.refl _ _⟩

set_option maxRecDepth 20000 in
set_option maxHeartbeats 2000000 in
theorem rwnew_any (B p : Nat) (v : Value) (N F C U : Int) (L : List ByteArray) (d : ByteArray) (w : World) (h : RT w B p v N F C U L) (hok : okG N F C U) (hL : L.length = nodes N F C U) :
    Calls Tryd.prog 8 #[.pointer (some ⟨p, 0, none⟩), .string d] w fun e w' => WEnd (51, 77, 63) 0 N F C U L d w e w' := by
  have hng := nodes_ge hok
  have hnl := nodes_le N F C U
  have hdr := drright_all d
  have HDR := Lib.hid hdr
  clear hdr
  by_cases hd : d.size = 32
  · have hrt := fun w => rroot_any N F C U w
    have HRT := Lib.hid hrt
    have HN := Lib.hid (And.intro hL (And.intro hng hnl))
    clear hrt hng hnl hL
    unfold geo at HRT
    have HW := Lib.hid (wk_new (ty := 51) (fty := 77) (B := w.heap.size) h.low0 (Nat.le_refl _))
    have HB1 := Lib.hid ((Below.refl w.heap.size w).alloc (Nat.le_refl _) (.cells #[.pointer (some ⟨p, 0, none⟩), .slice none 0 0, .slice none 0 0, .int .i64 0, .int .i64 0, .int .i64 0] 51))
    obtain ⟨c0, c1, c2, c3, -, -⟩ := (h.below HB1.out).cells
    clear h
    go_enter Tryd.func8, Tryd.ntmps8
    go_wp2_with fail
    refine (HDR.out _).mono ?_
    rintro e w0 ⟨rfl, hw0⟩
    obtain rfl := hw0.symm
    clear hw0 HDR
    rw [decide_eq_true hd]
    go_wp2_with fail
    refine (HRT.out _).mono ?_
    rintro e w3 ⟨rfl, hb⟩
    have HW3 := Lib.hid (HW.out.below hb)
    have HB3 := Lib.hid (HB1.out.trans (hb.mono HB1.out.size))
    clear hb HW HB1 c0 c1 c2 c3
    have hcm := find_any _ _ _ _ _ _ N F C U L ws0 (nodes N F C U - 1) d w3 HW3.out (by have := HN.out; omega) (by have := HN.out; omega) (Nat.zero_le _) (Nat.zero_le _)
    have HCM := Lib.hid hcm
    clear hcm
    go_wp2_with fail
    refine HCM.out.mono ?_
    rintro e w4 ⟨rfl, va, vw, hW, hF, hN⟩
    have HE := Lib.hid (And.intro hW (HB3.out.trans (hF.below (fun k hk => (HW3.out.foot k hk).1) HB3.out.size)))
    clear hW hF hN HCM HB3
    go_wp2
    refine bodyPost_ret (results_tmp2 rfl _ _ _) rfl ?_
    exact .inl ⟨hd, _, va, vw, p, v, rfl, HE.out.1, fun _ _ => Nat.zero_le _, HE.out.2⟩
  · clear h hng hnl
    go_enter Tryd.func8, Tryd.ntmps8
    go_wp2_with fail
    refine (HDR.out _).mono ?_
    rintro e w0 ⟨rfl, hw0⟩
    obtain rfl := hw0.symm
    clear hw0 HDR
    rw [decide_eq_false hd]
    go_wp2
    refine bodyPost_ret (results_tmp2 rfl _ _ _) rfl ?_
    exact .inr ⟨hd, rfl, Below.refl _ _⟩
end Go.Proofs.YtpdlpoomgkpogaaDoor
/-
  The fixed calls of the walks' statements.
-/
namespace Go.Proofs.YtpdlpoomgkpogaaDoor
open Go.RowKit
set_option linter.unusedVariables false
set_option linter.unusedSimpArgs false

theorem kw_ok : okG 1 2 0 1 := by unfold okG; omega
theorem kw_nodes : nodes 1 2 0 1 = 1 := by decide +kernel
theorem kw_err (x : UInt8) : newErr 1 2 0 1 [secOf x] = 0 := by
  unfold newErr
  rw [if_neg (fun h => h kw_ok), if_neg (by simp), if_pos]
  intro i hi
  have hc : i = 0 := by have : i < 1 := hi; omega
  subst hc
  exact secOf_size _
theorem kw_tree (x : UInt8) : treeL 1 2 0 1 [secOf x] = [leafB (secOf x)] := by
  unfold treeL
  rw [kw_nodes]
  rfl
theorem kw_ne : leafB (secOf 0) ≠ leafB (secOf 1) := by
  intro h
  have e := congrArg (fun z : ByteArray => z.data.toList) h
  have e2 : dig (0 :: (secOf 0).data.toList) = dig (0 :: (secOf 1).data.toList) := by simpa [leafB] using e
  revert e2
  decide +kernel
theorem rs_one (w : World) (s : ByteArray) : Rs (w.alloc (.cells #[.string s] 9)) (some ⟨w.heap.size, 0, none⟩) 1 1 [s] := by
  refine ⟨rfl, Nat.le_refl _, by unfold maxLen; omega, fun _ => ⟨w.heap.size, 0, rfl, by simp, fun i hi => ?_⟩⟩
  obtain rfl : i = 0 := by omega
  rw [cell_of_blk (heap_alloc_new w _)]
  rfl
theorem new_one (w : World) (hK : Kon w) (x : UInt8) : Calls Tryd.prog 18 #[geo 1 2 0 1, .slice (some ⟨w.heap.size, 0, none⟩) 1 1] (w.alloc (.cells #[.string (secOf x)] 9)) fun e w' => ∃ p v, e = .returned (.tuple #[.pointer (some ⟨p, 0, none⟩), .int .i64 0]) ∧ PT w' 0 p v 1 2 0 1 [leafB (secOf x)] ∧ Below w.heap.size w w' := by
  have hal : Below w.heap.size w (w.alloc (.cells #[.string (secOf x)] 9)) := (Below.refl _ _).alloc (Nat.le_refl _) _
  refine (tnew_any 1 2 0 1 _ 1 1 [secOf x] _ (rs_one w _) (hK.below hal)).mono ?_
  rintro e w' h
  rw [kw_err, kw_tree] at h
  rcases h with ⟨_, p, v, rfl, hT, hb⟩ | ⟨h, _⟩
  · exact ⟨p, v, rfl, hT.low0, hal.trans (hb.mono hal.size)⟩
  · exact absurd rfl h
theorem rnew_one (w : World) (x : UInt8) : Calls Tryd.prog 20 #[geo 1 2 0 1, .slice (some ⟨w.heap.size, 0, none⟩) 1 1] (w.alloc (.cells #[.string (secOf x)] 9)) fun e w' => ∃ p v, e = .returned (.tuple #[.pointer (some ⟨p, 0, none⟩), .int .i64 0]) ∧ RT w' 0 p v 1 2 0 1 [leafB (secOf x)] ∧ Below w.heap.size w w' := by
  have hal : Below w.heap.size w (w.alloc (.cells #[.string (secOf x)] 9)) := (Below.refl _ _).alloc (Nat.le_refl _) _
  refine (rtnew_any 1 2 0 1 _ 1 1 [secOf x] _ (rs_one w _)).mono ?_
  rintro e w' h
  rw [kw_err, kw_tree] at h
  rcases h with ⟨_, p, v, rfl, hT, hb⟩ | ⟨h, _⟩
  · exact ⟨p, v, rfl, hT.low0, hal.trans (hb.mono hal.size)⟩
  · exact absurd rfl h

set_option maxRecDepth 20000 in
set_option maxHeartbeats 4000000 in
theorem wknown_any (w : World) (hK : Kon w) :
    Calls Tryd.prog 4 #[] w fun e w' => e = .returned (.bool true) ∧ Below w.heap.size w w' := by
  have h1 := fun w => rzero_any w
  have h2 := fun w => rfill_any 1 1 rfl w
  have h3 := fun w hK => new_one w hK 0
  have h4 := fun w => rnew_one w 1
  have s0 := leafB_size (secOf 0)
  have s1 := leafB_size (secOf 1)
  have hne := kw_ne
  have h64 := secOf_size 1
  obtain ⟨l0, hl0⟩ : ∃ l0, l0 = leafB (secOf 0) := ⟨_, rfl⟩
  obtain ⟨l1, hl1⟩ : ∃ l1, l1 = leafB (secOf 1) := ⟨_, rfl⟩
  rw [← hl0] at s0 hne
  rw [← hl1] at s1 hne
  simp only [← hl0] at h3
  simp only [← hl1] at h4
  have hf1 : findS 1 [l0] ws0 (((1 - 1 : Nat)) : Int) l1 = ⟨[], [(0, l1)], 0, 0, 0⟩ := by unfold findS; rw [if_neg (by simpa [lAt] using hne)]; rfl
  have hf0 : findS 1 [l0] ws0 (((1 - 1 : Nat)) : Int) l0 = ws0 := by unfold findS; rw [if_pos (by simp [lAt])]
  have hde : dataErr ⟨[], [(0, l1)], 0, 0, 0⟩ 0 (secOf 1) = 0 := by
    unfold dataErr
    rw [show firstP ⟨[], [(0, l1)], 0, 0, 0⟩ = (2, (0, l1)) from rfl]
    simp only
    rw [if_neg (by simp), if_neg (fun h => h h64), if_neg (by rw [hl1]; simp)]
  have hds : dataS ⟨[], [(0, l1)], 0, 0, 0⟩ 0 (secOf 1) = ⟨[], [], 0, 0, 1⟩ := by unfold dataS; rw [if_pos hde]; rfl
  have hda := fun B pw va vw p v w (h : PW w B pw va vw p v 1 2 0 1 [l0] ⟨[], [(0, l1)], 0, 0, 0⟩) hK => data_any B pw va vw p v 1 2 0 1 [l0] _ 0 (secOf 1) w h hK (Nat.zero_le _) (by simp)
  simp only [hde, hds] at hda
  clear hl0 hl1 hde hds hne
  generalize secOf 0 = z0 at *
  generalize secOf 1 = z1 at *
  have hw1 := fun p v w (h : PT w 0 p v 1 2 0 1 [l0]) => wnew_any 0 p v 1 2 0 1 [l0] l1 w h kw_ok kw_nodes.symm
  have hw0 := fun p v w (h : PT w 0 p v 1 2 0 1 [l0]) => wnew_any 0 p v 1 2 0 1 [l0] l0 w h kw_ok kw_nodes.symm
  have hrr := fun p v w (h : RT w 0 p v 1 2 0 1 [l1]) => trroot_any 0 p v 1 2 0 1 [l1] w h (by simp) (by simp)
  have htr := fun p v w (h : PT w 0 p v 1 2 0 1 [l0]) => troot_any 0 p v 1 2 0 1 [l0] w h (by simp) kw_nodes.symm (by simp)
  simp only [show lAt [l1] ([l1].length - 1) = l1 from rfl] at hrr
  simp only [show lAt [l0] ([l0].length - 1) = l0 from rfl] at htr
  unfold WEnd at hw1 hw0
  rw [kw_nodes] at hw1 hw0
  simp only [hf1, s1, true_and, ne_eq, not_true_eq_false, false_and, or_false] at hw1
  simp only [hf0, s0, true_and, ne_eq, not_true_eq_false, false_and, or_false] at hw0
  unfold geo at h3 h4
  have H1 := Lib.hid h1
  have H2 := Lib.hid h2
  have H3 := Lib.hid h3
  have H4 := Lib.hid h4
  have HW1 := Lib.hid hw1
  have HW0 := Lib.hid hw0
  have HRR := Lib.hid hrr
  have HTR := Lib.hid htr
  have HDA := Lib.hid hda
  have HK := Lib.hid hK
  clear h1 h2 h3 h4 hw1 hw0 hrr htr hda hK hf1 hf0 s0 s1 h64
  have b0 : (w.alloc (.cells #[.int .i64 1, .int .i64 2, .int .i64 0, .int .i64 1] 23)).heap[w.heap.size]? = some (.cells #[.int .i64 1, .int .i64 2, .int .i64 0, .int .i64 1] 23 (0, 0)) := heap_alloc_new w _
  have hb0 : Below w.heap.size w (w.alloc (.cells #[.int .i64 1, .int .i64 2, .int .i64 0, .int .i64 1] 23)) := (Below.refl _ _).alloc (Nat.le_refl _) _
  have hl0 := lt_of_block b0
  have hkp : ∀ w', Below (w.alloc (.cells #[.int .i64 1, .int .i64 2, .int .i64 0, .int .i64 1] 23)).heap.size (w.alloc (.cells #[.int .i64 1, .int .i64 2, .int .i64 0, .int .i64 1] 23)) w' → (w'.cell? ⟨w.heap.size, 0, none⟩ = some (.int .i64 1) ∧ w'.cell? ⟨w.heap.size, 1, none⟩ = some (.int .i64 2) ∧ w'.cell? ⟨w.heap.size, 2, none⟩ = some (.int .i64 0) ∧ w'.cell? ⟨w.heap.size, 3, none⟩ = some (.int .i64 1)) := fun w' hb => by
    have hx : w'.heap[w.heap.size]? = some (.cells #[.int .i64 1, .int .i64 2, .int .i64 0, .int .i64 1] 23 (0, 0)) := (hb.block _ hl0).trans b0
    refine ⟨?_, ?_, ?_, ?_⟩ <;> (rw [cell_of_blk hx]; rfl)
  go_enter Tryd.func4, Tryd.ntmps4
  go_upto_region 2 with fail
  obtain ⟨W0, hW0⟩ : ∃ W, W = w.alloc (.cells #[.int .i64 1, .int .i64 2, .int .i64 0, .int .i64 1] 23) := ⟨_, rfl⟩
  rw [← hW0] at hb0 ⊢
  simp only [← hW0] at hkp
  have HB0 := Lib.hid hb0
  have HKP := Lib.hid hkp
  clear hW0 b0 hb0 hl0 hkp
  have hG : Below W0.heap.size W0 W0.drew := (Below.refl _ _).drew
  go_region_held3 (fun w' => (w'.cell? ⟨w.heap.size, 0, none⟩ = some (.int .i64 1) ∧ w'.cell? ⟨w.heap.size, 1, none⟩ = some (.int .i64 2) ∧ w'.cell? ⟨w.heap.size, 2, none⟩ = some (.int .i64 0) ∧ w'.cell? ⟨w.heap.size, 3, none⟩ = some (.int .i64 1)))
    (first | exact HKP.out _ hG | exact HKP.out _ (hG.alloc hG.size _))
    (first
    | (go_at_call 19; with_reducible refine (H1.out _).mono ?_; rintro r wz ⟨rfl, hb⟩; replace hG := hG.trans (hb.mono hG.size); clear hb)
    | (go_at_call 18; with_reducible refine (H3.out _ (HK.out.below (HB0.out.trans (hG.mono HB0.out.size)))).mono ?_; rintro r wn ⟨p, v, rfl, hT, hb⟩; replace hG := hG.trans (hb.mono hG.size); have HT := Lib.hid hT; clear hb hT))
  rename_i hHeld
  clear hHeld
  have HG1 := Lib.hid hG
  replace hG := hG.drew
  go_upto_region 3 with fail
  go_region_held3 (fun w' => (w'.cell? ⟨w.heap.size, 0, none⟩ = some (.int .i64 1) ∧ w'.cell? ⟨w.heap.size, 1, none⟩ = some (.int .i64 2) ∧ w'.cell? ⟨w.heap.size, 2, none⟩ = some (.int .i64 0) ∧ w'.cell? ⟨w.heap.size, 3, none⟩ = some (.int .i64 1)))
    (first | exact HKP.out _ hG | exact HKP.out _ (hG.alloc hG.size _))
    (first
    | (go_at_call 21; with_reducible refine (H2.out _).mono ?_; rintro r wf ⟨rfl, hb⟩; replace hG := hG.trans (hb.mono hG.size); have HT2 := Lib.hid ((HT.out.below (Below.refl _ _).drew).below hb); clear hb)
    | (go_at_call 20; with_reducible refine (H4.out _).mono ?_; rintro r wm ⟨q, vq, rfl, hR, hb⟩; replace hG := hG.trans (hb.mono hG.size); have HR := Lib.hid hR; have HT3 := Lib.hid (HT2.out.below hb); clear hb hR))
  rename_i hHeld
  clear hHeld
  have HB4 := Lib.hid (HB0.out.trans (hG.mono HB0.out.size))
  clear hG HG1 HKP HB0 H1 H3 H4
  go_wp2_with fail
  refine (HRR.out _ _ _ HR.out).mono ?_
  rintro e w5 ⟨rfl, hb⟩
  have HB5 := Lib.hid (HB4.out.trans (hb.mono HB4.out.size))
  have HT5 := Lib.hid (HT3.out.below hb)
  clear hb HRR HR HB4 HT3 HT2 HT
  go_wp2_with fail
  refine (HW1.out _ _ _ HT5.out).mono ?_
  rintro e w6 ⟨pw, va, vw, p1, v1, rfl, hW, hlow1, hb⟩
  clear hlow1
  have HB6 := Lib.hid (HB5.out.trans (hb.mono HB5.out.size))
  have HT6 := Lib.hid (HT5.out.below hb)
  have HWA := Lib.hid hW
  clear hb HT5 hW HW1
  go_wp2_with fail
  refine (HTR.out _ _ _ HT6.out).mono ?_
  rintro e w7 ⟨rfl, hb⟩
  have HB7 := Lib.hid (HB6.out.trans (hb.mono HB6.out.size))
  have HT7 := Lib.hid (HT6.out.below hb)
  have HWB := Lib.hid (HWA.out.below hb)
  clear hb HT6 HB6 HWA HTR
  go_wp2_with fail
  refine (HW0.out _ _ _ HT7.out).mono ?_
  rintro e w8 ⟨pz, va2, vw2, p2, v2, rfl, hZ, hlow2, hb⟩
  have HB8 := Lib.hid (HB7.out.trans (hb.mono HB7.out.size))
  have HWC := Lib.hid (HWB.out.below hb)
  have HLW := Lib.hid (And.intro HWB.out.foot (And.intro (fun k hk => (hZ.foot k hk).1) hlow2))
  clear hlow2
  have HZ := Lib.hid hZ
  clear hb HT7 HB7 HWB hZ HW0
  have hn1 := next_of (.pointer (some ⟨pw, 0, none⟩)) 2 0 l1 w8 (wfirst_any _ _ _ _ _ _ 1 2 0 1 [l0] ⟨[], [(0, l1)], 0, 0, 0⟩ w8 HWC.out)
  have HN1 := Lib.hid hn1
  clear hn1
  go_wp2_with fail
  refine HN1.out.mono ?_
  rintro e w9 ⟨rfl, hb⟩
  have HB9 := Lib.hid (HB8.out.trans (hb.mono HB8.out.size))
  have HWD := Lib.hid (HWC.out.below hb)
  have HZ9 := Lib.hid (HZ.out.below hb)
  clear hb HN1 HB8 HWC HZ
  go_wp2_with fail
  refine (H2.out _).mono ?_
  rintro e w10 ⟨rfl, hb⟩
  have HB10 := Lib.hid (HB9.out.trans (hb.mono HB9.out.size))
  have HWE := Lib.hid (HWD.out.below hb)
  have HZ10 := Lib.hid (HZ9.out.below hb)
  clear hb H2 HB9 HWD HZ9
  go_wp2_with fail
  refine (HDA.out _ _ _ _ _ _ _ HWE.out (HK.out.below HB10.out)).mono ?_
  rintro e w11 ⟨rfl, va3, vw3, hW, hF, hN⟩
  have hz11 := HZ10.out.fr hF (fun k hk hx => by
    have h1 := (HLW.out.1 k hx).2
    rcases hk with hk | hk
    · have := HLW.out.2.1 k hk; omega
    · have := HLW.out.2.2 k hk; omega)
  have hB11 : Below w.heap.size w w11 := HB10.out.trans (hF.below (fun k hk => by have := (HWE.out.foot k hk).1; have := HB5.out.size; omega) HB10.out.size)
  have HZ11 := Lib.hid hz11
  have HWF := Lib.hid hW
  have HB11 := Lib.hid hB11
  clear hW hF hN hz11 hB11 HB10 HWE HZ10 HLW HDA HB5
  have hd1 := done_of (.pointer (some ⟨pz, 0, none⟩)) 0 0 noBytes w11 (wfirst_any _ _ _ _ _ _ 1 2 0 1 [l0] ws0 w11 HZ11.out)
  have HD1 := Lib.hid hd1
  clear hd1
  go_wp2_with fail
  refine HD1.out.mono ?_
  rintro e w12 ⟨rfl, hb⟩
  have HB12 := Lib.hid (HB11.out.trans (hb.mono HB11.out.size))
  have HWG := Lib.hid (HWF.out.below hb)
  clear hb HB11 HWF HD1
  have hd2 := done_of (.pointer (some ⟨pw, 0, none⟩)) 0 0 noBytes w12 (wfirst_any _ _ _ _ _ _ 1 2 0 1 [l0] ⟨[], [], 0, 0, 1⟩ w12 HWG.out)
  have HD2 := Lib.hid hd2
  clear hd2
  go_wp2_with fail
  refine HD2.out.mono ?_
  rintro e w13 ⟨rfl, hb⟩
  have HB13 := Lib.hid (HB12.out.trans (hb.mono HB12.out.size))
  clear hb
  go_wp2
  go_ret
  exact ⟨rfl, HB13.out⟩
end Go.Proofs.YtpdlpoomgkpogaaDoor

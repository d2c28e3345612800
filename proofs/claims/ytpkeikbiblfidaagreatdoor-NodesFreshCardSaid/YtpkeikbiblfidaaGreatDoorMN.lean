/-
  Texts put together: N0, N1.
-/
import Derived.Test.YtpkeikbiblfidaaGreatDoorMHF
import Derived.Test.YtpkeikbiblfidaaGreatDoorMU2
import Derived.Maps.OwnSet
import Derived.Maps.Own
import Derived.Maps.Views
/-
  expected and wrong: the program's.
-/
namespace Go.Proofs.YtpkeikbiblfidaaGreatDoor
open Go.RowKit
set_option linter.unusedVariables false
set_option linter.unusedSimpArgs false

/-- One child's digest more, as it is read. -/
def kidF (N F C U : Int) (D : DS) (ks : List Int) (j : Nat) (L : List ByteArray) : List ByteArray × Int :=
  if (getP N F C U D (ks[j]?.getD 0)).2 ≠ 0 then (L, (getP N F C U D (ks[j]?.getD 0)).2) else (L ++ [⟨(getP N F C U D (ks[j]?.getD 0)).1.toArray⟩], 0)
def kidL (N F C U : Int) (D : DS) (ks : List Int) (k : Nat) : List ByteArray × Int := runE (kidF N F C U D ks) [] k
theorem kidF_bad {N F C U : Int} {D : DS} {ks : List Int} {j : Nat} {L : List ByteArray} {r : List UInt8} {e : Int} (h : getP N F C U D (ks[j]?.getD 0) = (r, e)) (he : e ≠ 0) : kidF N F C U D ks j L = (L, e) := by
  unfold kidF; rw [h, if_pos he]
theorem kidF_ok {N F C U : Int} {D : DS} {ks : List Int} {j : Nat} {L : List ByteArray} {r : List UInt8} (h : getP N F C U D (ks[j]?.getD 0) = (r, 0)) : kidF N F C U D ks j L = (L ++ [⟨r.toArray⟩], 0) := by
  unfold kidF; rw [h, if_neg (by simp)]
theorem kidL_small (N F C U : Int) (D : DS) (ks : List Int) (k : Nat) : ∀ s ∈ (kidL N F C U D ks k).1, s.size ≤ 32 :=
  runE_inv (fun _ (L : List ByteArray) => ∀ s ∈ L, s.size ≤ 32) (fun s hs => by cases hs) (fun j t h => by
    unfold kidF
    split
    · exact h
    · intro s hs
      rcases List.mem_append.1 hs with e | e
      · exact h s e
      · rw [List.mem_singleton.1 e]
        show (List.toArray _).size ≤ 32
        rw [List.size_toArray]; exact getP_small _ _ _ _ _ _) (fun j t h => h) k
/-- The digest that a node should have. -/
def expR (N F C U : Int) (D : DS) (k : Nat) : ByteArray × Int :=
  if (k : Int) < N then (leafB (D.read (dataAt N F C U k)).1, (D.read (dataAt N F C U k)).2) else
  if (kidL N F C U D (children N F C U k) (children N F C U k).length).2 ≠ 0 then (noBytes, (kidL N F C U D (children N F C U k) (children N F C U k).length).2) else (nodeB (kidL N F C U D (children N F C U k) (children N F C U k).length).1, 0)
/-- Whether a node is not as it should be. -/
def wrongB (N F C U : Int) (D : DS) (k : Nat) : Bool :=
  if (getP N F C U D k).2 ≠ 0 then true else decide ((expR N F C U D k).2 = 0 ∧ ¬ (⟨(getP N F C U D k).1.toArray⟩ : ByteArray) = (expR N F C U D k).1)

set_option maxRecDepth 20000 in
set_option maxHeartbeats 4000000 in
theorem expected_any (B p : Nat) (v1 v2 : Value) (D : DS) (N F C U : Int) (k : Nat) (w : World) (h : PD w B p v1 v2 D) (hK : Dg.Kon w) (M : Nat) (hok : D.ok M) (hM : M ≤ 1000000) (hz : D.sz) :
    Calls Tryz.prog 151 #[.pointer (some ⟨p, 0, none⟩), geo N F C U, .int .i64 k] w fun e w' => e = .returned (.tuple #[.string (expR N F C U D k).1, .int .i64 (expR N F C U D k).2]) ∧ Below w.heap.size w w' := by
  obtain ⟨W, hW⟩ : ∃ W, W = w.alloc (.cells #[.int .i64 N, .int .i64 F, .int .i64 C, .int .i64 U] 23) := ⟨_, rfl⟩
  have hb0 : Below w.heap.size w W := by rw [hW]; exact (Below.refl _ w).alloc (Nat.le_refl _) _
  have hsW : W.heap.size = w.heap.size + 1 := by rw [hW]; exact World.size_alloc _ _
  have hg0 : W.heap[w.heap.size]? = some (.cells #[.int .i64 N, .int .i64 F, .int .i64 C, .int .i64 U] 23 (0, 0)) := by rw [hW]; exact heap_alloc_new w _
  have hgc : ∀ w' : World, w'.heap[w.heap.size]? = W.heap[w.heap.size]? → w'.cell? ⟨w.heap.size, 0, none⟩ = some (.int .i64 N) ∧ w'.cell? ⟨w.heap.size, 1, none⟩ = some (.int .i64 F) ∧ w'.cell? ⟨w.heap.size, 2, none⟩ = some (.int .i64 C) ∧ w'.cell? ⟨w.heap.size, 3, none⟩ = some (.int .i64 U) := fun w' e => by
    have e := e.trans hg0
    refine ⟨?_, ?_, ?_, ?_⟩ <;> (rw [cell_of_blk e]; rfl)
  obtain ⟨R, hR⟩ : ∃ R, R = expR N F C U D k := ⟨_, rfl⟩
  rw [← hR]
  obtain ⟨c0, c1, c2, c3⟩ := hgc W rfl
  have HW := Lib.hid hW
  have HB0 := Lib.hid hb0
  have HPD := Lib.hid (h.below hb0)
  have HK := Lib.hid (hK.below hb0)
  have HR := Lib.hid hR
  have HZ := Lib.hid hz
  have HGC := Lib.hid hgc
  have HSW := Lib.hid hsW
  have HOK := Lib.hid hok
  have hWl : D.W.length ≤ 1000000 := by have := hok.few; have := hok.did; omega
  have hLl : D.L.length ≤ 1000000 := by have := hok.len; omega
  have HWL := Lib.hid (And.intro hWl hLl)
  clear hb0 hW h hK hR hz hok hgc hsW hWl hLl hg0
  unfold geo
  by_cases hlt : (k : Int) < N
  · have hdt := fun w => data_any N F C U (k : Int) w
    obtain ⟨at', hat⟩ : ∃ x, x = dataAt N F C U (k : Int) := ⟨_, rfl⟩
    obtain ⟨d, q, hdq⟩ : ∃ d q, D.read at' = (d, q) := ⟨_, _, rfl⟩
    have hR2 := HR.out
    unfold expR at hR2
    rw [if_pos hlt, ← hat, hdq] at hR2
    simp only [← hat] at hdt
    have hd64 : d.size ≤ 64 := by have := HZ.out.read64 at'; rw [hdq] at this; exact this
    have hrd := fun w' (hb : Below W.heap.size W w') => read_any B p v1 v2 D at' w' (HPD.out.below hb) HWL.out.1 HWL.out.2
    simp only [hdq] at hrd
    unfold two at hrd
    dsimp only at hrd hR2
    unfold geo at hdt
    have hlf := fun w' (hb : Below W.heap.size W w') => Dg.leaf_any d w' (HK.out.below hb) (by omega)
    rw [show Dg.strV (Dg.dig (0 :: d.data.toList)) = Value.string (leafB d) from rfl] at hlf
    have HDT := Lib.hid hdt
    have HRD := Lib.hid hrd
    have HLF := Lib.hid hlf
    have HR2 := Lib.hid hR2
    clear hdt hrd hlf hR2 hat hdq hd64
    go_enter Tryz.func151, Tryz.ntmps151
    go_upto_region 1 with fail
    rw [← HW.out]
    go_wp2_with fail
    refine (HDT.out _).mono ?_
    rintro e w1 ⟨rfl, hb1⟩
    have HRD1 := Lib.hid (HRD.out w1 hb1)
    have HB1 := Lib.hid hb1
    clear hb1 HRD HDT
    go_wp2_with fail
    refine HRD1.out.mono ?_
    rintro e w2 ⟨rfl, hb2⟩
    have HB2 := Lib.hid (HB1.out.trans (hb2.mono HB1.out.size))
    have HLF2 := Lib.hid (HLF.out w2 HB2.out)
    clear hb2 HRD1 HLF
    go_wp2_with fail
    refine HLF2.out.mono ?_
    rintro e w3 ⟨rfl, hb3⟩
    have HB3 := Lib.hid (HB0.out.trans ((HB2.out.trans (hb3.mono HB2.out.size)).mono HB0.out.size))
    clear hb3
    go_wp2
    refine bodyPost_ret (results_tmp2 rfl _ _ _) rfl ?_
    rw [HR2.out]
    exact ⟨rfl, HB3.out⟩
  · have hR2 := HR.out
    unfold expR at hR2
    rw [if_neg hlt] at hR2
    obtain ⟨i0, hi, hz0, hz1, hz2⟩ := info_parts Tryz.info9
    have hch := children_any N F C U k W
    have hlen := children_len N F C U k
    obtain ⟨ks, hks⟩ : ∃ ks, ks = children N F C U k := ⟨_, rfl⟩
    rw [← hks] at hch hlen hR2
    unfold geo at hch
    have HCH := Lib.hid hch
    have HR2 := Lib.hid hR2
    clear hch hR2 hks
    go_enter Tryz.func151, Tryz.ntmps151
    go_upto_region 1 with fail
    rw [← HW.out]
    go_wp2_with fail
    refine HCH.out.mono ?_
    rintro e w1 ⟨⟨v, rfl, ac, nc, cc, rfl, hri, hlow⟩, hb1⟩
    have hnc := hri.len
    subst hnc
    have HRI := Lib.hid hri
    have HB1 := Lib.hid hb1
    clear hri hlow hb1 HCH c0 c1 c2 c3
    go_wp2
    go_loopw [10, 34] (fun s i wr => ∃ (j : Nat) (L : List ByteArray), j ≤ ks.length ∧ i = .int .i64 j ∧ kidL N F C U D ks j = (L, 0) ∧ L.length = j ∧ wr.ownsRow w1.heap.size 9 1 s j (strs L) ∧ Below w1.heap.size w1 wr) (fun _ i _ => ks.length - (intOf i).toNat)
    case atStart => exact ⟨0, [], by omega, rfl, rfl, rfl, World.ownsRow_nil _ _ _ _, Below.refl _ _⟩
    case round =>
      obtain ⟨j, L, hj, rfl, hL, hLj, ho, hB⟩ := hrel
      have hBW : Below W.heap.size W wr := HB1.out.trans (hB.mono HB1.out.size)
      have HL := Lib.hid hL
      have HLJ := Lib.hid hLj
      have HBB := Lib.hid hB
      have HBW := Lib.hid hBW
      by_cases hlt2 : j < ks.length
      · have i0' : (0 : Int) ≤ (j : Int) := by omega
        have i1 : (j : Int) < (ks.length : Int) := by omega
        obtain ⟨b, off, rfl, hbl, hc⟩ := (HRI.out.later hB).at0 (by omega)
        have e1 := hc j hlt2
        obtain ⟨c0, c1, c2, c3⟩ := HGC.out wr (hBW.block _ (by have := HSW.out; omega))
        obtain ⟨x, hx⟩ : ∃ x, x = ks[j]?.getD 0 := ⟨_, rfl⟩
        have hgt := nget_any B p v1 v2 D N F C U x wr (HPD.out.below hBW) M HOK.out hM
        obtain ⟨r, e, hre⟩ : ∃ r e, getP N F C U D x = (r, e) := ⟨_, _, rfl⟩
        rw [hre] at hgt
        dsimp only at hgt
        obtain ⟨s, hs⟩ : ∃ s : ByteArray, s = ⟨r.toArray⟩ := ⟨_, rfl⟩
        rw [show strV r = Value.string s from by rw [hs]; rfl] at hgt
        rw [← hx] at e1
        unfold geo at hgt
        have HGT := Lib.hid hgt
        have HX := Lib.hid (And.intro (show getP N F C U D (ks[j]?.getD 0) = (r, e) from by rw [← hx]; exact hre) hs)
        clear hc hx hgt hre hs hB hBW hL hLj
        go_wp2_with fail
        refine HGT.out.mono ?_
        rintro e' w3 ⟨rfl, hb3⟩
        have HB3 := Lib.hid (HBB.out.trans (hb3.mono HBB.out.size))
        have HBW3 := Lib.hid (HBW.out.trans (hb3.mono HBW.out.size))
        have ho3 := owns_kept ho fun q hq => hb3.block q (ho.lt q hq).2
        clear hb3 ho HGT c0 c1 c2 c3 e1
        by_cases he : e = 0
        · subst he
          have HX2 := Lib.hid ((runE_next HL.out).trans (show kidF N F C U D ks j L = (L ++ [s], 0) from by rw [HX.out.2]; exact kidF_ok HX.out.1))
          go_wp2_with (at_builtin; refine wpList_append_s (o := ⟨some 51, _, _, _, _, _⟩) rfl (.tmp 48) (.tmp 50) 49 rfl w1.heap.size i0 Tryz.underlying49 hi hz0 hz1 hz2 _ j _ rfl (ho3.alloc _) _ rfl rfl (by omega) (by have := HB3.out.size; simp; omega) ?_)
          intro v5 w5 h1 h2 _
          have hB5 := (HB3.out.alloc HB3.out.size (.cells #[.string s] 9)).grown h2 (HB3.out.alloc HB3.out.size (.cells #[.string s] 9)).size (fun x e => (ho3.lt x e).1)
          obtain ⟨a5, c5, rfl, _, _⟩ := towns_shape h1
          have HO5 := Lib.hid h1
          have HB5 := Lib.hid hB5
          clear h1 h2 hB5 ho3
          go_wp2
          go_roundw
          case rel => exact ⟨j + 1, L ++ [s], by omega, by go_num, HX2.out, by rw [List.length_append, HLJ.out]; rfl, HO5.out, HB5.out⟩
          case measure => simp [intOf]; omega
        · have he2 : (e == 0) = false := by simpa using he
          have he3 : (e != 0) = true := by simp [he]
          have HE := Lib.hid (show R = (noBytes, e) from by
            have h1 : kidL N F C U D ks ks.length = (L, e) := runE_err HL.out (kidF_bad HX.out.1 he) he hlt2
            rw [HR2.out, h1]; dsimp only; rw [if_pos he])
          clear he
          go_wp2
          refine bodyPost_ret (results_tmp2 rfl _ _ _) rfl ?_
          rw [HE.out]
          exact ⟨rfl, HB0.out.trans (HBW3.out.mono HB0.out.size)⟩
      · obtain rfl : j = ks.length := by omega
        have i1 : ¬ ((ks.length : Nat) : Int) < ((ks.length : Nat) : Int) := by omega
        obtain ⟨a5, c5, rfl, hrs, _⟩ := towns_shape ho
        have hsm : ∀ i, i < L.length → (lAt L i).size ≤ 1000 := fun i hi => by
          have h1 := kidL_small N F C U D ks ks.length
          rw [hL] at h1
          have : lAt L i ∈ L := by unfold lAt; rw [List.getElem?_eq_getElem hi]; exact List.getElem_mem hi
          have := h1 _ this
          omega
        have hjs := jn_small L 1000 hsm ks.length (by omega)
        have hnd := Dg.node_any a5 ks.length c5 (lAt L) wr hrs.strs (HK.out.below hBW) (by omega) (by omega)
        have hres : Value.string (nodeB L) = Dg.strV (Dg.dig (1 :: Dg.jn (lAt L) ks.length)) := by unfold nodeB; rw [hLj]; rfl
        rw [← hres] at hnd
        have HE := Lib.hid (show R = (nodeB L, 0) from by rw [HR2.out, hL]; rfl)
        have HND := Lib.hid hnd
        clear hsm hjs hnd hrs ho hB hres hL hLj hBW
        go_wp2_with fail
        refine HND.out.mono ?_
        rintro e w6 ⟨rfl, hb6⟩
        have HB6 := Lib.hid (HB0.out.trans ((HBW.out.trans (hb6.mono HBW.out.size)).mono HB0.out.size))
        clear hb6
        go_wp2
        refine bodyPost_ret (results_tmp2 rfl _ _ _) rfl ?_
        rw [HE.out]
        exact ⟨rfl, HB6.out⟩

set_option maxRecDepth 20000 in
set_option maxHeartbeats 4000000 in
theorem wrong_any (B p : Nat) (v1 v2 : Value) (D : DS) (N F C U : Int) (k : Nat) (w : World) (h : PD w B p v1 v2 D) (hK : Dg.Kon w) (M : Nat) (hok : D.ok M) (hM : M ≤ 1000000) (hz : D.sz) :
    Calls Tryz.prog 123 #[.pointer (some ⟨p, 0, none⟩), geo N F C U, .int .i64 k] w fun e w' => e = .returned (.bool (wrongB N F C U D k)) ∧ Below w.heap.size w w' := by
  obtain ⟨W, hW⟩ : ∃ W, W = w.alloc (.cells #[.int .i64 N, .int .i64 F, .int .i64 C, .int .i64 U] 23) := ⟨_, rfl⟩
  have hb0 : Below w.heap.size w W := by rw [hW]; exact (Below.refl _ w).alloc (Nat.le_refl _) _
  have hsW : W.heap.size = w.heap.size + 1 := by rw [hW]; exact World.size_alloc _ _
  have hg0 : W.heap[w.heap.size]? = some (.cells #[.int .i64 N, .int .i64 F, .int .i64 C, .int .i64 U] 23 (0, 0)) := by rw [hW]; exact heap_alloc_new w _
  have hgc : ∀ w' : World, w'.heap[w.heap.size]? = W.heap[w.heap.size]? → w'.cell? ⟨w.heap.size, 0, none⟩ = some (.int .i64 N) ∧ w'.cell? ⟨w.heap.size, 1, none⟩ = some (.int .i64 F) ∧ w'.cell? ⟨w.heap.size, 2, none⟩ = some (.int .i64 C) ∧ w'.cell? ⟨w.heap.size, 3, none⟩ = some (.int .i64 U) := fun w' e => by
    have e := e.trans hg0
    refine ⟨?_, ?_, ?_, ?_⟩ <;> (rw [cell_of_blk e]; rfl)
  obtain ⟨R, hR⟩ : ∃ R, R = wrongB N F C U D k := ⟨_, rfl⟩
  rw [← hR]
  unfold wrongB at hR
  have hgt := nget_any B p v1 v2 D N F C U k W (h.below hb0) M hok hM
  have hex := fun w' (hb : Below W.heap.size W w') => expected_any B p v1 v2 D N F C U k w' ((h.below hb0).below hb) ((hK.below hb0).below hb) M hok hM hz
  obtain ⟨r, e, hre⟩ : ∃ r e, getP N F C U D k = (r, e) := ⟨_, _, rfl⟩
  obtain ⟨t, f, htf⟩ : ∃ t f, expR N F C U D k = (t, f) := ⟨_, _, rfl⟩
  rw [hre] at hgt
  simp only [htf] at hex
  rw [hre, htf] at hR
  dsimp only at hgt hR
  obtain ⟨s, hs⟩ : ∃ s : ByteArray, s = ⟨r.toArray⟩ := ⟨_, rfl⟩
  rw [show strV r = Value.string s from by rw [hs]; rfl] at hgt
  rw [← hs] at hR
  obtain ⟨V1, hV1⟩ : ∃ V, V = Value.string s := ⟨_, rfl⟩
  obtain ⟨V2, hV2⟩ : ∃ V, V = Value.string t := ⟨_, rfl⟩
  have hgd := fun x y w => guard_txt .neq x y s t w
  have hnq := fun w => neq_txt s t w
  rw [← hV1, ← hV2] at hnq
  simp only [← hV1, ← hV2] at hgd hgt hex
  obtain ⟨nq, hnqv⟩ : ∃ b, b = (!decide (s = t)) := ⟨_, rfl⟩
  rw [← hnqv] at hnq
  obtain ⟨c0, c1, c2, c3⟩ := hgc W rfl
  have HW := Lib.hid hW
  have HB0 := Lib.hid hb0
  have HR := Lib.hid hR
  have HGC := Lib.hid hgc
  have HSW := Lib.hid hsW
  unfold geo at hgt hex ⊢
  have HGT := Lib.hid hgt
  have HEX := Lib.hid hex
  have HNQ := Lib.hid hnqv
  have HGD := Lib.hid hgd
  have HQ := Lib.hid hnq
  clear hb0 hW h hK hR hz hok hgc hsW hg0 hgt hex hre htf hs hV1 hV2 hgd hnq hnqv
  go_enter Tryz.func123, Tryz.ntmps123
  go_upto_region 1 with fail
  rw [← HW.out]
  go_wp2_with fail
  refine HGT.out.mono ?_
  rintro e' w1 ⟨rfl, hb1⟩
  have HB1 := Lib.hid hb1
  obtain ⟨c0, c1, c2, c3⟩ := HGC.out w1 (hb1.block _ (by have := HSW.out; omega))
  clear hb1
  by_cases he : e = 0
  · subst he
    have HEX2 := Lib.hid (HEX.out w1 HB1.out)
    have hR2 := HR.out.trans (if_neg (by simp))
    have HR2 := Lib.hid hR2
    clear hR2
    go_wp2_with fail
    refine HEX2.out.mono ?_
    rintro e' w2 ⟨rfl, hb2⟩
    have HB2 := Lib.hid (HB0.out.trans ((HB1.out.trans (hb2.mono HB1.out.size)).mono HB0.out.size))
    clear hb2 c0 c1 c2 c3
    by_cases hf : f = 0
    · subst hf
      have hgd := HGD.out
      have hnq := HQ.out
      have HFIN := Lib.hid (show R = nq from by rw [HR2.out, HNQ.out]; by_cases h : s = t <;> simp [h])
      go_wp2
      go_ret
      exact ⟨by rw [HFIN.out]; rfl, HB2.out⟩
    · have he2 : (f == 0) = false := by simpa using hf
      have he3 : (f != 0) = true := by simp [hf]
      have HFIN := Lib.hid (show R = false from by rw [HR2.out]; simp [hf])
      clear hf
      go_wp2
      go_ret
      exact ⟨by rw [HFIN.out]; rfl, HB2.out⟩
  · have he2 : (e == 0) = false := by simpa using he
    have he3 : (e != 0) = true := by simp [he]
    have HFIN := Lib.hid (HR.out.trans (if_pos he))
    have HB2 := Lib.hid (HB0.out.trans (HB1.out.mono HB0.out.size))
    clear he
    go_wp2
    go_ret
    exact ⟨by rw [HFIN.out]; rfl, HB2.out⟩
end Go.Proofs.YtpkeikbiblfidaaGreatDoor
/-
  readable and above: the program's.
-/
namespace Go.Proofs.YtpkeikbiblfidaaGreatDoor
open Go.RowKit
set_option linter.unusedVariables false
set_option linter.unusedSimpArgs false

/-- The first error of reading sectors from 6 on. -/
def rdE (D : DS) (k : Nat) : Unit × Int := runE (fun j _ => ((), (D.read (6 + (j : Int))).2)) () k

set_option maxRecDepth 20000 in
set_option maxHeartbeats 4000000 in
theorem readable_any (B p : Nat) (v1 v2 : Value) (D : DS) (N F C U : Int) (hokG : okG N F C U) (w : World) (h : PD w B p v1 v2 D) (M : Nat) (hok : D.ok M) (hM : M ≤ 1000000) :
    Calls Tryz.prog 79 #[.pointer (some ⟨p, 0, none⟩), geo N F C U] w fun e w' => e = .returned (.int .i64 (rdE D (N.toNat + nodes N F C U)).2) ∧ Below w.heap.size w w' := by
  obtain ⟨W, hW⟩ : ∃ W, W = w.alloc (.cells #[.int .i64 N, .int .i64 F, .int .i64 C, .int .i64 U] 23) := ⟨_, rfl⟩
  have hb0 : Below w.heap.size w W := by rw [hW]; exact (Below.refl _ w).alloc (Nat.le_refl _) _
  have hsW : W.heap.size = w.heap.size + 1 := by rw [hW]; exact World.size_alloc _ _
  have hg0 : W.heap[w.heap.size]? = some (.cells #[.int .i64 N, .int .i64 F, .int .i64 C, .int .i64 U] 23 (0, 0)) := by rw [hW]; exact heap_alloc_new w _
  have hgc : ∀ w' : World, w'.heap[w.heap.size]? = W.heap[w.heap.size]? → w'.cell? ⟨w.heap.size, 0, none⟩ = some (.int .i64 N) ∧ w'.cell? ⟨w.heap.size, 1, none⟩ = some (.int .i64 F) ∧ w'.cell? ⟨w.heap.size, 2, none⟩ = some (.int .i64 C) ∧ w'.cell? ⟨w.heap.size, 3, none⟩ = some (.int .i64 U) := fun w' e => by
    have e := e.trans hg0
    refine ⟨?_, ?_, ?_, ?_⟩ <;> (rw [cell_of_blk e]; rfl)
  have hN := hokG
  obtain ⟨N1, N2, -⟩ := hN
  have hnl := nodes_le N F C U
  have hnp := nodes_le1 hokG
  obtain ⟨K, hK⟩ : ∃ K, K = N.toNat + nodes N F C U := ⟨_, rfl⟩
  obtain ⟨R, hR⟩ : ∃ R, R = (rdE D (N.toNat + nodes N F C U)).2 := ⟨_, rfl⟩
  rw [← hR]
  rw [← hK] at hR
  have hdt := fun w => data_any N F C U 0 w
  rw [show dataAt N F C U 0 = 6 from by unfold dataAt; rw [if_pos ⟨hokG, by omega, by omega⟩]; rfl] at hdt
  have hrt := fun w => root_any N F C U w
  have hnd := fun w => node_any N F C U ((nodes N F C U - 1 : Nat) : Int) w
  rw [show nodeAt N F C U ((nodes N F C U - 1 : Nat) : Int) = 6 + (K : Int) - 1 from by unfold nodeAt; rw [if_pos ⟨hokG, by omega, by omega⟩, hK]; omega] at hnd
  obtain ⟨rt, hrt2⟩ : ∃ x : Int, x = ((nodes N F C U - 1 : Nat) : Int) := ⟨_, rfl⟩
  simp only [← hrt2] at hrt hnd
  have hK400 : K ≤ 400 := by omega
  obtain ⟨vK, hvK⟩ : ∃ x, x = 6 + (K : Int) - 1 := ⟨_, rfl⟩
  simp only [← hvK] at hnd
  have HVK := Lib.hid hvK
  clear hvK
  obtain ⟨c0, c1, c2, c3⟩ := hgc W rfl
  have HW := Lib.hid hW
  have HB0 := Lib.hid hb0
  have HPD := Lib.hid (h.below hb0)
  have HR := Lib.hid hR
  have HGC := Lib.hid hgc
  have HSW := Lib.hid hsW
  have hWl : D.W.length ≤ 1000000 := by have := hok.few; have := hok.did; omega
  have hLl : D.L.length ≤ 1000000 := by have := hok.len; omega
  have HWL := Lib.hid (And.intro hWl hLl)
  unfold geo at hdt hrt hnd ⊢
  have HDT := Lib.hid hdt
  have HRT := Lib.hid hrt
  have HND := Lib.hid hnd
  clear hb0 hW h hR hok hgc hsW hWl hLl hg0 hdt hrt hnd hrt2 hK hnl hnp N1 N2 hokG
  go_enter Tryz.func79, Tryz.ntmps79
  go_upto_region 1 with fail
  rw [← HW.out]
  go_wp2_with fail
  refine (HDT.out _).mono ?_
  rintro e w1 ⟨rfl, hb1⟩
  have HB1 := Lib.hid hb1
  clear hb1 c0 c1 c2 c3 HDT
  go_wp2
  go_loopw [5] (fun i wr => ∃ (j : Nat) (vj : Int), j ≤ K ∧ i = .int .i64 vj ∧ vj = 6 + (j : Int) ∧ rdE D j = ((), 0) ∧ Below W.heap.size W wr) (fun i _ => K - (intOf i - 6).toNat)
  case atStart => exact ⟨0, 6, by omega, rfl, rfl, rfl, HB1.out⟩
  case round =>
    clear HB1
    obtain ⟨j, vj, hj, rfl, hvj, hz, hB⟩ := hrel
    have HBR := Lib.hid hB
    have HZ := Lib.hid hz
    have HVJ := Lib.hid hvj
    have hkp : ∀ w', Below wr.drew.heap.size wr.drew w' → (w'.cell? ⟨w.heap.size, 0, none⟩ = some (.int .i64 N) ∧ w'.cell? ⟨w.heap.size, 1, none⟩ = some (.int .i64 F) ∧ w'.cell? ⟨w.heap.size, 2, none⟩ = some (.int .i64 C) ∧ w'.cell? ⟨w.heap.size, 3, none⟩ = some (.int .i64 U)) := fun w' hb => HGC.out w' ((hb.block _ (by have := HSW.out; have := hB.drew.size; omega)).trans (hB.drew.block _ (by have := HSW.out; omega)))
    have HKP := Lib.hid hkp
    have hG : Below wr.drew.heap.size wr.drew wr.drew := Below.refl _ _
    have hvb : vj ≤ 1000 := by omega
    have hvb0 : 6 ≤ vj := by omega
    have hrd := fun w' (hb : Below W.heap.size W w') => read_any B p v1 v2 D vj w' (HPD.out.below hb) HWL.out.1 HWL.out.2
    obtain ⟨d, q, hdq⟩ : ∃ d q, D.read vj = (d, q) := ⟨_, _, rfl⟩
    simp only [hdq] at hrd
    unfold two at hrd
    dsimp only at hrd
    have HRD := Lib.hid hrd
    have HDQ := Lib.hid hdq
    clear hB hz hkp hrd hdq
    by_cases hlt : j < K
    · have hle : vj ≤ vK := by have := HVK.out; omega
      clear hvj
      go_wp2_with fail
      go_region_held3 (fun w' : World => w'.cell? ⟨w.heap.size, 0, none⟩ = some (.int .i64 N) ∧ w'.cell? ⟨w.heap.size, 1, none⟩ = some (.int .i64 F) ∧ w'.cell? ⟨w.heap.size, 2, none⟩ = some (.int .i64 C) ∧ w'.cell? ⟨w.heap.size, 3, none⟩ = some (.int .i64 U))
        (first | exact HKP.out _ hG)
        (first
        | (go_at_call 71; with_reducible refine (HRT.out _).mono ?_; rintro r wn ⟨rfl, hb⟩; replace hG := hG.trans (hb.mono hG.size); clear hb)
        | (go_at_call 90; with_reducible refine (HND.out _).mono ?_; rintro r wn2 ⟨rfl, hb⟩; replace hG := hG.trans (hb.mono hG.size); clear hb))
      all_goals (
        rename_i hHeld
        clear hHeld
        have HB2 := Lib.hid (HBR.out.drew.trans (hG.mono HBR.out.drew.size))
        clear hG
        go_wp2_with fail
        refine (HRD.out _ HB2.out).mono ?_
        rintro e w3 ⟨rfl, hb3⟩
        have HB3 := Lib.hid (HB2.out.trans (hb3.mono HB2.out.size))
        clear hb3
        have HST := Lib.hid ((runE_next HZ.out).trans (show (((), (D.read (6 + (j : Int))).2) : Unit × Int) = ((), q) from by rw [← HVJ.out, HDQ.out]))
        by_cases he : q = 0
        · subst he
          go_wp2
          go_roundw
          case rel => exact ⟨j + 1, vj + 1, by omega, by go_num, by have := HVJ.out; omega, HST.out, HB3.out⟩
          case measure => have := HVJ.out; simp [intOf]; omega
        · have he2 : (q == 0) = false := by simpa using he
          have he3 : (q != 0) = true := by simp [he]
          have HE := Lib.hid (show R = q from by
            rw [HR.out]
            have h1 : rdE D K = rdE D (j + 1) := runE_stop (k := j + 1) (by rw [show runE (fun j _ => ((), (D.read (6 + (j : Int))).2)) () (j + 1) = ((), q) from HST.out]; exact he) (by omega)
            rw [h1, show rdE D (j + 1) = ((), q) from HST.out])
          clear he
          go_wp2
          go_ret
          exact ⟨by rw [HE.out]; rfl, HB0.out.trans (HB3.out.mono HB0.out.size)⟩)
    · have hle : ¬ vj ≤ vK := by have := HVK.out; omega
      obtain rfl : j = K := by omega
      clear hvj
      go_wp2_with fail
      go_region_held3 (fun w' : World => w'.cell? ⟨w.heap.size, 0, none⟩ = some (.int .i64 N) ∧ w'.cell? ⟨w.heap.size, 1, none⟩ = some (.int .i64 F) ∧ w'.cell? ⟨w.heap.size, 2, none⟩ = some (.int .i64 C) ∧ w'.cell? ⟨w.heap.size, 3, none⟩ = some (.int .i64 U))
        (first | exact HKP.out _ hG)
        (first
        | (go_at_call 71; with_reducible refine (HRT.out _).mono ?_; rintro r wn ⟨rfl, hb⟩; replace hG := hG.trans (hb.mono hG.size); clear hb)
        | (go_at_call 90; with_reducible refine (HND.out _).mono ?_; rintro r wn2 ⟨rfl, hb⟩; replace hG := hG.trans (hb.mono hG.size); clear hb))
      all_goals (
        rename_i hHeld
        clear hHeld
        have HB2 := Lib.hid (HBR.out.drew.trans (hG.mono HBR.out.drew.size))
        have HE := Lib.hid (show R = 0 from by rw [HR.out, HZ.out])
        clear hG
        go_wp2
        go_ret
        exact ⟨by rw [HE.out]; rfl, HB0.out.trans (HB2.out.mono HB0.out.size)⟩)

/-! ### the set of what is above -/
open Go.Maps
theorem law3 : Keyed Tryz.prog 3 := int_keyed Tryz.underlying3
theorem zeroUnit (w : World) : (zeroValue 119).run Tryz.prog w = .ok (.agg #[]) w := by kernel_rfl

/-- Block b is a set of at most n numbers: those of which m says so. -/
def Set3 (w : World) (b n : Nat) (m : Nat → Bool) : Prop := ∃ D : DataW Unit, w.ownsMap Tryz.prog 3 unitElem b n D ∧ ∀ y : Nat, Maps.has D (.int .i64 (y : Int)) = m y
theorem Set3.kept {w w' : World} {b n : Nat} {m : Nat → Bool} (h : Set3 w b n m) (e : w'.heap[b]? = w.heap[b]?) : Set3 w' b n m := by
  obtain ⟨D, ⟨es, clock, hb, hF, hs, hD⟩, hm⟩ := h
  exact ⟨D, ⟨es, clock, e.trans hb, hF, hs, hD⟩, hm⟩
theorem Set3.lt {w : World} {b n : Nat} {m : Nat → Bool} (h : Set3 w b n m) : b < w.heap.size := by obtain ⟨D, h, _⟩ := h; exact h.lt
theorem Set3.congr {w : World} {b n : Nat} {m m' : Nat → Bool} (h : Set3 w b n m) (e : ∀ y, m y = m' y) : Set3 w b n m' := by
  obtain rfl : m = m' := funext e
  exact h
theorem Set3.more {w : World} {b n n' : Nat} {m : Nat → Bool} (h : Set3 w b n m) (e : n ≤ n') : Set3 w b n' m := by
  obtain ⟨D, h, hm⟩ := h; exact ⟨D, h.mono e, hm⟩

set_option maxRecDepth 20000 in
set_option maxHeartbeats 4000000 in
theorem above_any (N F C U : Int) (hok : okG N F C U) (a : Option Addr) (l c : Nat) (xs : List Int) (w : World) (h : Ri w a l c xs) (hl60 : l ≤ 1000) :
    Calls Tryz.prog 80 #[geo N F C U, .slice a l c] w fun e w' => (∃ b, e = .returned (.map (some b)) ∧ w.heap.size < b ∧ Set3 w' b (8 * l) (docM N F C U xs xs.length)) ∧ Below w.heap.size w w' := by
  have hlen := h.len
  have hcc : (c : Int) ≤ 9223372036854775807 := by have := h.cm; unfold maxLen at this; omega
  have hnc : (l : Int) ≤ (c : Int) := by have := h.le; omega
  have hmm := @run_makeMap Tryz.prog
  obtain ⟨w0, hw0⟩ : ∃ w0, w0 = w.alloc (.cells #[.int .i64 N, .int .i64 F, .int .i64 C, .int .i64 U] 23) := ⟨_, rfl⟩
  have hb0 : Below w.heap.size w w0 := by rw [hw0]; exact (Below.refl _ w).alloc (Nat.le_refl _) _
  have hs0 : w0.heap.size = w.heap.size + 1 := by rw [hw0]; exact World.size_alloc _ _
  have hg0 : w0.heap[w.heap.size]? = some (.cells #[.int .i64 N, .int .i64 F, .int .i64 C, .int .i64 U] 23 (0, 0)) := by rw [hw0]; exact heap_alloc_new w _
  have hgc : ∀ w' : World, w'.heap[w.heap.size]? = w0.heap[w.heap.size]? → w'.cell? ⟨w.heap.size, 0, none⟩ = some (.int .i64 N) ∧ w'.cell? ⟨w.heap.size, 1, none⟩ = some (.int .i64 F) ∧ w'.cell? ⟨w.heap.size, 2, none⟩ = some (.int .i64 C) ∧ w'.cell? ⟨w.heap.size, 3, none⟩ = some (.int .i64 U) := fun w' e => by
    have e := e.trans hg0
    refine ⟨?_, ?_, ?_, ?_⟩ <;> (rw [cell_of_blk e]; rfl)
  have HRI := Lib.hid h
  have HW := Lib.hid hw0
  have HB0 := Lib.hid hb0
  have HGC := Lib.hid hgc
  have HS0 := Lib.hid hs0
  have HLEN := Lib.hid hlen
  have HOK := Lib.hid hok
  clear h hw0 hb0 hg0 hgc hs0 hlen hok
  unfold geo
  go_enter Tryz.func80, Tryz.ntmps80
  go_upto_region 1 with fail
  rw [← HW.out]
  go_wp2
  obtain ⟨b, hb⟩ : ∃ b, b = w0.heap.size := ⟨_, rfl⟩
  have hst : Set3 (w0.alloc (.map #[] 0)) b (8 * 0) (docM N F C U xs 0) := by
    rw [hb]
    exact ⟨.map [], World.ownsMap_made _ _ _ _, fun y => by simp [Maps.has, docM]⟩
  have hB1 : Below w0.heap.size w0 (w0.alloc (.map #[] 0)) := (Below.refl _ _).alloc (Nat.le_refl _) _
  obtain ⟨w1, hw1⟩ : ∃ w1, w1 = w0.alloc (.map #[] 0) := ⟨_, rfl⟩
  rw [← hb, ← hw1]
  rw [← hw1] at hst hB1
  have HST := Lib.hid (And.intro hst hB1)
  have HBW := Lib.hid (show w.heap.size < b by have := HS0.out; omega)
  clear hst hB1 hb hw1
  go_loopw [13] (fun i wr => ∃ k : Nat, k ≤ l ∧ i = .int .i64 k ∧ Set3 wr b (8 * k) (docM N F C U xs k) ∧ Below w0.heap.size w0 wr) (fun i _ => l - (intOf i).toNat)
  case atStart => exact ⟨0, by omega, rfl, HST.out.1, HST.out.2⟩
  case round =>
    clear HST
    obtain ⟨k, hk, rfl, hS, hB⟩ := hrel
    have HS := Lib.hid hS
    have HBR := Lib.hid hB
    by_cases hlt : k < l
    · have i0 : (0 : Int) ≤ (k : Int) := by omega
      have i1 : (k : Int) < (l : Int) := by omega
      have hBw := HB0.out.trans (hB.mono HB0.out.size)
      obtain ⟨ab, off, rfl, hbl, hc⟩ := (HRI.out.later hBw).at0 (by omega)
      have d0 := hc k hlt
      have hlx : k < xs.length := by have := HLEN.out; omega
      obtain ⟨x, hx⟩ : ∃ x, x = xs[k]?.getD 0 := ⟨_, rfl⟩
      rw [← hx] at d0
      obtain ⟨c0, c1, c2, c3⟩ := HGC.out wr (hB.block _ (by have := HS0.out; omega))
      have hpa := path_any N F C U x wr
      have hpl := path_len N F C U x
      obtain ⟨P, hP⟩ : ∃ P, P = path N F C U x := ⟨_, rfl⟩
      have hpn : ∀ j, j < P.length → ∃ y : Nat, P[j]?.getD 0 = (y : Int) ∧ y < 256 := fun j hj => by
        rw [hP] at hj ⊢
        have hx2 : 0 ≤ x ∧ x < N := by
          rcases Classical.em (0 ≤ x ∧ x < N) with h | h
          · exact h
          · have : path N F C U x = [] := if_neg (fun g => h g.2)
            rw [this] at hj; simp at hj
        obtain ⟨y, e, hy⟩ := path_nodes HOK.out hx2 hj
        exact ⟨y, e, by have := nodes_le N F C U; omega⟩
      rw [← hP] at hpl hpa
      unfold geo at hpa
      have HPA := Lib.hid hpa
      have HX := Lib.hid (And.intro hx (And.intro hlx hP))
      have HPN := Lib.hid (And.intro hpn hpl)
      clear hc hx hlx hP hpa hpn hpl hS hB hBw
      go_wp2_with fail
      refine HPA.out.mono ?_
      rintro e w2 ⟨⟨v, rfl, pa, pn, pc, rfl, hpr, hlow⟩, hb2⟩
      have hpln := hpr.len
      have hpc : (pc : Int) ≤ 9223372036854775807 := by have := hpr.cm; unfold maxLen at this; omega
      have hpn2 : (pn : Int) ≤ (pc : Int) := by have := hpr.le; omega
      subst hpln
      have HS2 := Lib.hid (show Set3 w2 b (8 * k + 0) (docJ (docM N F C U xs k) P 0) from ((HS.out.kept (hb2.block b HS.out.lt)).congr (fun q => (docJ_zero _ _ _).symm)))
      have HB2 := Lib.hid (HBR.out.trans (hb2.mono HBR.out.size))
      have HPR := Lib.hid hpr
      have HLW := Lib.hid (show ∀ bb off, pa = some ⟨bb, off, none⟩ → bb ≠ b from fun bb off e => by have h1 := hlow bb off e; have h2 := HS.out.lt; omega)
      clear hpr hlow hb2 HPA c0 c1 c2 c3 d0
      go_wp2
      go_loopw [21] (fun i wr => ∃ j : Nat, j ≤ P.length ∧ i = .int .i64 j ∧ Set3 wr b (8 * k + j) (docJ (docM N F C U xs k) P j) ∧ Ri wr pa P.length pc P ∧ Below w0.heap.size w0 wr) (fun i _ => P.length - (intOf i).toNat)
      case atStart => exact ⟨0, by omega, rfl, HS2.out, HPR.out, HB2.out⟩
      case round =>
        clear HS2 HPR HB2
        obtain ⟨j, hj, rfl, hS3, hR3, hB3⟩ := hrel
        have HR3 := Lib.hid hR3
        have HS3 := Lib.hid hS3
        have HB3 := Lib.hid hB3
        by_cases hlt2 : j < P.length
        · have j0 : (0 : Int) ≤ (j : Int) := by omega
          have j1 : (j : Int) < (P.length : Int) := by omega
          obtain ⟨b2, off2, rfl, hbl2, hc2⟩ := hR3.at0 (by omega)
          have d2 := hc2 j hlt2
          obtain ⟨y, hy, hyn⟩ := HPN.out.1 j hlt2
          rw [hy] at d2
          have hkey : keyOf Tryz.prog 3 (.int .i64 (y : Int)) = some (.int .i64 (y : Int)) := keyOf_int_mk Tryz.underlying3 (WalkArith.wf_i64 (by omega))
          obtain ⟨D, hD, hDm⟩ := hS3
          have HD := Lib.hid (And.intro hD hDm)
          have HY := Lib.hid hy
          have hne : Below w0.heap.size w0 wr := HB3.out
          clear hR3 hc2 hy hB3 hDm hne
          go_wp2_with (at_mapUpdate; refine wpList_mapUpdate_own _ rfl _ _ _ 117 rfl 3 119 law3 Tryz.underlying117 (unitElem (H := Unit)) b (8 * k + j) _ rfl HD.out.1 (by unfold maxLen; have := HPN.out.2; omega) _ _ _ rfl rfl hkey _ [] unitElem_mk ?_)
          intro w3 hown3 hgrow3
          have HN3 := Lib.hid (show Set3 w3 b (8 * k + (j + 1)) (docJ (docM N F C U xs k) P (j + 1)) from ⟨_, hown3, fun q => by
            rw [docJ_next hlt2, HY.out, ← HD.out.2 q]
            by_cases e : q = y
            · subst e
              rw [Maps.has_put_same HD.out.1.isMap (show WideAt.IsKeyLit (.int .i64 (q : Int)) from trivial)]
              simp
            · have e2 : ¬ ((y : Int) = (q : Int)) := by omega
              rw [Maps.has_put_other (fun e3 => e2 (by injection e3 with _ e4; exact e4.symm))]
              simp [e2]⟩)
          have HB4 := Lib.hid (HB3.out.grown hgrow3 HB3.out.size (fun q hq => by cases hq; have := HBW.out; have := HS0.out; omega))
          have HR4 := Lib.hid (HR3.out.gb hgrow3 (fun bb off e => fun e2 => by cases e2; exact HLW.out _ _ e rfl))
          clear hown3 hgrow3 hD
          go_wp2
          go_roundw
          case rel => exact ⟨j + 1, by omega, by go_num, HN3.out, HR4.out, HB4.out⟩
          case measure => simp [intOf]; omega
        · obtain rfl : j = P.length := by omega
          have j1 : ¬ (P.length : Int) < (P.length : Int) := by omega
          clear hS3 hR3 hB3
          go_wp2
          go_roundw
          case rel => exact ⟨k + 1, by omega, by go_num, (HS3.out.more (by have := HPN.out.2; omega)).congr (fun q => by rw [docM_next HX.out.2.1, ← HX.out.1, ← HX.out.2.2]), HB3.out⟩
          case measure => simp [intOf]; omega
    · obtain rfl : k = l := by omega
      have i1 : ¬ (k : Int) < (k : Int) := by omega
      have HF := Lib.hid (HS.out.congr (m' := docM N F C U xs xs.length) (fun q => by rw [HLEN.out]))
      clear hS hB
      go_wp2
      go_ret
      exact ⟨⟨b, rfl, HBW.out, HF.out⟩, HB0.out.trans (HBR.out.mono HB0.out.size)⟩
end Go.Proofs.YtpkeikbiblfidaaGreatDoor

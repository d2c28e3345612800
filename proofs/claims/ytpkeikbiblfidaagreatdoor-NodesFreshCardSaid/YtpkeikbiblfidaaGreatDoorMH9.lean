/-
  Texts put together: H9, HA.
-/
import Derived.Test.YtpkeikbiblfidaaGreatDoorMH6
import Derived.Test.YtpkeikbiblfidaaGreatDoorMOS
/-
  hashOf: the program's.
-/
namespace Go.Proofs.YtpkeikbiblfidaaGreatDoor
open Go.RowKit
set_option linter.unusedVariables false
set_option linter.unusedSimpArgs false

/-- What hashOf tells. -/
def hashR (N F C U : Int) (D : DS) (L : List ByteArray) (k : Nat) : ByteArray × Int :=
  if (k : Int) < N then (if (D.read (dataAt N F C U k)).2 ≠ 0 then (noBytes, (D.read (dataAt N F C U k)).2) else (leafB (D.read (dataAt N F C U k)).1, 0)) else (nodeB (kids L (children N F C U k)), 0)
theorem cmpF_off {N F C U : Int} {m : Nat → Bool} {D : DS} {k : Nat} {L : List ByteArray} (h : m k = false) : cmpF N F C U m D k L = (L, 0) := if_pos h
theorem cmpF_on {N F C U : Int} {m : Nat → Bool} {D : DS} {k : Nat} {L : List ByteArray} (h : m k = true) {s : ByteArray} {e : Int} (hr : hashR N F C U D L k = (s, e)) : cmpF N F C U m D k L = if e ≠ 0 then (L, e) else (L.set k s, 0) := by
  unfold cmpF
  rw [if_neg (by rw [h]; simp)]
  unfold hashR at hr
  split at hr
  · split at hr
    · rename_i h1 h2
      obtain ⟨rfl, rfl⟩ := Prod.mk.inj hr
      rw [if_pos h1, if_pos h2, if_pos h2]
    · rename_i h1 h2
      obtain ⟨rfl, rfl⟩ := Prod.mk.inj hr
      rw [if_pos h1, if_neg h2, if_neg (by simp)]
  · rename_i h1
    obtain ⟨rfl, rfl⟩ := Prod.mk.inj hr
    rw [if_neg h1, if_neg (by simp)]

set_option maxRecDepth 20000 in
set_option maxHeartbeats 4000000 in
theorem hashOf_any (B p : Nat) (v1 v2 : Value) (D : DS) (N F C U : Int) (a : Option Addr) (l cap : Nat) (L : List ByteArray) (k : Nat) (w : World) (h : PD w B p v1 v2 D) (hK : Dg.Kon w) (M : Nat) (hok : D.ok M) (hM : M ≤ 1000000) (hz : D.sz)
    (hP : Rs w a l cap L) (hkl : k ≤ l) (h32 : ∀ i, (lAt L i).size ≤ 32) :
    Calls Tryz.prog 117 #[.pointer (some ⟨p, 0, none⟩), geo N F C U, .int .i64 k, .slice a l cap] w fun e w' => e = .returned (.tuple #[.string (hashR N F C U D L k).1, .int .i64 (hashR N F C U D L k).2]) ∧ Below w.heap.size w w' := by
  have hb0 := (Below.refl w.heap.size w).alloc (Nat.le_refl _) (gbox N F C U)
  have hgc : ∀ wr, Below (w.heap.size + 1) (w.alloc (gbox N F C U)) wr → wr.cell? ⟨w.heap.size, 0, none⟩ = some (.int .i64 N) ∧ wr.cell? ⟨w.heap.size, 1, none⟩ = some (.int .i64 F) ∧ wr.cell? ⟨w.heap.size, 2, none⟩ = some (.int .i64 C) ∧ wr.cell? ⟨w.heap.size, 3, none⟩ = some (.int .i64 U) := fun wr h => gbox_cells h
  obtain ⟨W, hW⟩ : ∃ W, W = w.alloc (gbox N F C U) := ⟨_, rfl⟩
  have hsW : W.heap.size = w.heap.size + 1 := by rw [hW]; exact World.size_alloc _ _
  rw [← hW] at hb0 hgc
  obtain ⟨R, hR⟩ : ∃ R, R = hashR N F C U D L k := ⟨_, rfl⟩
  rw [← hR]
  obtain ⟨c0, c1, c2, c3⟩ := hgc W (Below.refl _ _)
  have HW := Lib.hid hW
  have HB0 := Lib.hid hb0
  have HPD := Lib.hid (h.below hb0)
  have HK := Lib.hid (hK.below hb0)
  have HP := Lib.hid (hP.later hb0)
  have HR := Lib.hid hR
  have H32 := Lib.hid h32
  have HZ := Lib.hid hz
  have HCM := Lib.hid hP.cm
  have HGC := Lib.hid hgc
  have HSW := Lib.hid hsW
  have HKL := Lib.hid hkl
  have hWl : D.W.length ≤ 1000000 := by have := hok.few; have := hok.did; omega
  have hLl : D.L.length ≤ 1000000 := by have := hok.len; omega
  have HWL := Lib.hid (And.intro hWl hLl)
  clear hb0 hW h hK hP hR h32 hz hok hgc hsW hkl hWl hLl
  unfold gbox at HW
  unfold geo
  by_cases hlt : (k : Int) < N
  · have hdt := fun w => data_any N F C U (k : Int) w
    obtain ⟨at', hat⟩ : ∃ x, x = dataAt N F C U (k : Int) := ⟨_, rfl⟩
    obtain ⟨d, q, hdq⟩ : ∃ d q, D.read at' = (d, q) := ⟨_, _, rfl⟩
    have hR2 := HR.out
    unfold hashR at hR2
    rw [if_pos hlt, ← hat, hdq] at hR2
    simp only [← hat] at hdt
    have hd64 : d.size ≤ 64 := by have := HZ.out.read64 at'; rw [hdq] at this; exact this
    have hrd := fun w' (hb : Below W.heap.size W w') => read_any B p v1 v2 D at' w' (HPD.out.below hb) HWL.out.1 HWL.out.2
    simp only [hdq] at hrd
    unfold two at hrd
    dsimp only at hrd hR2
    unfold geo at hdt
    have hlf := fun w' (hb : Below W.heap.size W w') => Dg.leaf_any d w' (HK.out.below hb) (by omega)
    rw [show Dg.strV (Dg.dig (0 :: d.data.toList)) = Value.string (leafB d) from rfl] at hlf
    have HDT := Lib.hid hdt
    have HRD := Lib.hid hrd
    have HLF := Lib.hid hlf
    have HR2 := Lib.hid hR2
    clear hdt hrd hlf hR2 hat hdq hd64
    go_enter Tryz.func117, Tryz.ntmps117
    go_wp2_with fail
    rw [← HW.out]
    refine (HDT.out _).mono ?_
    rintro e w1 ⟨rfl, hb1⟩
    have HRD1 := Lib.hid (HRD.out w1 hb1)
    have HB1 := Lib.hid hb1
    clear hb1 HRD HDT
    go_wp2_with fail
    refine HRD1.out.mono ?_
    rintro e w2 ⟨rfl, hb2⟩
    have HB2 := Lib.hid (HB1.out.trans (hb2.mono HB1.out.size))
    have HLF2 := Lib.hid (HLF.out w2 HB2.out)
    clear hb2 HRD1 HLF
    by_cases hq : q = 0
    · subst hq
      have hr := HR2.out
      rw [if_neg (by simp)] at hr
      have HR3 := Lib.hid hr
      clear hr HR2
      go_wp2_with fail
      refine HLF2.out.mono ?_
      rintro e w3 ⟨rfl, hb3⟩
      have HB3 := Lib.hid (HB0.out.trans ((HB2.out.trans (hb3.mono HB2.out.size)).mono HB0.out.size))
      clear hb3
      go_wp2
      refine bodyPost_ret (results_tmp2 rfl _ _ _) rfl ?_
      rw [HR3.out]
      exact ⟨rfl, HB3.out⟩
    · have he2 : (q == 0) = false := by simpa using hq
      have he3 : (q != 0) = true := by simp [hq]
      have hr := HR2.out
      rw [if_pos hq] at hr
      have HR3 := Lib.hid hr
      have HB3 := Lib.hid (HB0.out.trans (HB2.out.mono HB0.out.size))
      clear hr HR2 hq
      go_wp2
      refine bodyPost_ret (results_tmp2 rfl _ _ _) rfl ?_
      rw [HR3.out]
      exact ⟨rfl, HB3.out⟩
  · have hR2 := HR.out
    unfold hashR at hR2
    rw [if_neg hlt] at hR2
    obtain ⟨i0, hi, hz0, hz1, hz2⟩ := info_parts Tryz.info9
    have hch := children_any N F C U k W
    have hlen := children_len N F C U k
    have hcm : ∀ x ∈ children N F C U k, ∃ j : Nat, x = j ∧ j < l := fun x hx => by
      obtain ⟨j, e, hj⟩ := children_mem hx
      exact ⟨j, e, by have := HKL.out; omega⟩
    obtain ⟨ks, hks⟩ : ∃ ks, ks = children N F C U k := ⟨_, rfl⟩
    rw [← hks] at hch hlen hR2 hcm
    unfold geo at hch
    have HCH := Lib.hid hch
    have HCK := Lib.hid hcm
    have HR2 := Lib.hid hR2
    have hcx : (cap : Int) ≤ 9223372036854775807 := by have := HCM.out; unfold maxLen at this; omega
    have hlx : (l : Int) ≤ (cap : Int) := by have := HP.out.le; omega
    clear hch hcm hR2 hks
    go_enter Tryz.func117, Tryz.ntmps117
    go_wp2_with fail
    rw [← HW.out]
    refine HCH.out.mono ?_
    rintro e w1 ⟨⟨v, rfl, ac, nc, cc, rfl, hri, hlow⟩, hb1⟩
    have hnc := hri.len
    subst hnc
    have HR := Lib.hid hri
    have HP1 := Lib.hid (HP.out.later hb1)
    have HK1 := Lib.hid (HK.out.below hb1)
    have HB1 := Lib.hid (HB0.out.trans (hb1.mono HB0.out.size))
    clear hri hlow hb1 HP HK HCH HB0
    go_wp2
    go_loopw [12, 36] (fun s i wr => ∃ j : Nat, j ≤ ks.length ∧ i = .int .i64 j ∧ wr.ownsRow w1.heap.size 9 1 s j (strs (kids L (ks.take j))) ∧ Below w1.heap.size w1 wr) (fun _ i _ => ks.length - (intOf i).toNat)
    case atStart => exact ⟨0, by omega, rfl, World.ownsRow_nil _ _ _ _, Below.refl _ _⟩
    case round =>
      obtain ⟨j, hj, rfl, ho, hB⟩ := hrel
      by_cases hlt2 : j < ks.length
      · have i0' : (0 : Int) ≤ (j : Int) := by omega
        have i1 : (j : Int) < (ks.length : Int) := by omega
        obtain ⟨b, off, rfl, hbl, hc⟩ := (HR.out.later hB).at0 (by omega)
        have c1 := hc j hlt2
        obtain ⟨x, hx, hxl⟩ := HCK.out _ (List.getElem_mem hlt2)
        have hx' : ks[j]?.getD 0 = (x : Int) := by rw [List.getElem?_eq_getElem hlt2]; exact hx
        rw [hx'] at c1
        obtain ⟨b2, off2, rfl, hbl2, hc2⟩ := (HP1.out.later hB).at0 (by omega)
        have c2 := hc2 x hxl
        have x0 : (0 : Int) ≤ (x : Int) := by omega
        have x1 : (x : Int) < (l : Int) := by omega
        obtain ⟨sx, hsx⟩ : ∃ s, s = lAt L x := ⟨_, rfl⟩
        rw [← hsx] at c2
        have htk := kids_take (L := L) hlt2
        rw [hx'] at htk
        simp only [Int.toNat_natCast] at htk
        rw [← hsx] at htk
        have HTK := Lib.hid htk
        have HBB := Lib.hid hB
        have HS1 := Lib.hid hB.size
        clear hc hc2 hx hx' hxl hsx htk hB
        go_wp2_with (at_builtin; refine wpList_append_s (o := ⟨some 46, _, _, _, _, _⟩) rfl (.tmp 40) (.tmp 45) 49 rfl w1.heap.size i0 Tryz.underlying49 hi hz0 hz1 hz2 _ j _ rfl (ho.alloc _) _ rfl rfl (by omega) (by have := HS1.out; simp; omega) ?_)
        intro v5 w5 h1 h2 _
        rw [← HTK.out] at h1
        have hB5 := (HBB.out.alloc HBB.out.size (.cells #[.string sx] 9)).grown h2 (HBB.out.alloc HBB.out.size (.cells #[.string sx] 9)).size (fun x e => (ho.lt x e).1)
        obtain ⟨a5, c5, rfl, _, _⟩ := towns_shape h1
        have HO5 := Lib.hid h1
        have HB5 := Lib.hid hB5
        clear h1 h2 hB5 ho c1 c2
        go_wp2
        go_roundw
        case rel => exact ⟨j + 1, by omega, by go_num, HO5.out, HB5.out⟩
        case measure => simp [intOf]; omega
      · obtain rfl : j = ks.length := by omega
        rw [List.take_length] at ho
        obtain ⟨a5, c5, rfl, hrs, _⟩ := towns_shape ho
        have hkl := kids_length L ks
        have hks : ∀ i, i < (kids L ks).length → (lAt (kids L ks) i).size ≤ 1000 := by
          intro i hi
          rw [hkl] at hi
          have e : lAt (kids L ks) i = lAt L (ks[i]'hi).toNat := by
            unfold lAt kids
            rw [List.getElem?_map, List.getElem?_eq_getElem hi]
            rfl
          rw [e]
          have := H32.out (ks[i]'hi).toNat
          omega
        have hsm := jn_small (kids L ks) 1000 hks ks.length (by rw [hkl]; exact Nat.le_refl _)
        have hnd := Dg.node_any a5 ks.length c5 (lAt (kids L ks)) wr hrs.strs (HK1.out.below hB) (by omega) (by omega)
        have hres : Value.string (nodeB (kids L ks)) = Dg.strV (Dg.dig (1 :: Dg.jn (lAt (kids L ks)) ks.length)) := by unfold nodeB; rw [hkl]; rfl
        rw [← hres] at hnd
        have HND := Lib.hid hnd
        have HBB := Lib.hid (HB1.out.trans (hB.mono HB1.out.size))
        clear hsm hnd hks hrs hkl ho hB hres
        have i1 : ¬ ((ks.length : Nat) : Int) < ((ks.length : Nat) : Int) := by omega
        go_wp2_with fail
        refine HND.out.mono ?_
        rintro e w6 ⟨rfl, hb6⟩
        have HB6 := Lib.hid (HBB.out.trans (hb6.mono HBB.out.size))
        clear hb6
        go_wp2
        refine bodyPost_ret (results_tmp2 rfl _ _ _) rfl ?_
        rw [HR2.out]
        exact ⟨rfl, HB6.out⟩
end Go.Proofs.YtpkeikbiblfidaaGreatDoor
/-
  compute and save: the program's.
-/
namespace Go.Proofs.YtpkeikbiblfidaaGreatDoor
open Go.RowKit
set_option linter.unusedVariables false
set_option linter.unusedSimpArgs false

theorem kon_fr {w w' : World} {A : Nat → Prop} (h : Dg.Kon w) (hf : Fr A w w') (hn : ¬ A 2) : Dg.Kon w' := fun j hj => by
  rw [World.cell?_of_block (w := w) (hf.block _ h.lt hn)]; exact h j hj

/-- Memory while compute runs: its geometry, the array of marks, the row. -/
structure CSt (w wr : World) (Bx : Nat) (N F C U : Int) (m : Nat → Bool) (g n : Nat) (L : List ByteArray) : Prop where
  geo : wr.heap[w.heap.size]? = some (.cells #[.int .i64 N, .int .i64 F, .int .i64 C, .int .i64 U] 23 (0, 0))
  box : MB wr (w.heap.size + 1) m
  row : wr.ownsRow Bx 9 1 (.slice (some ⟨g, 0, none⟩) n n) n (strs L)
  lo : g < w.heap.size
  fr : Fr (fun k => k = g) w wr
theorem CSt.len {w wr : World} {Bx : Nat} {N F C U : Int} {m : Nat → Bool} {g n : Nat} {L : List ByteArray} (h : CSt w wr Bx N F C U m g n L) : L.length = n := by have := h.row.1; rw [strs_length] at this; omega
theorem CSt.set {w wr : World} {Bx : Nat} {N F C U : Int} {m : Nat → Bool} {g n : Nat} {L : List ByteArray} (h : CSt w wr Bx N F C U m g n L) (i : Nat) (hi : i < n) (s : ByteArray) : CSt w (wr.setCell ⟨g, i, none⟩ (.string s)) Bx N F C U m g n (L.set i s) := by
  have hl := h.len
  have hg := h.lo
  refine ⟨hset_ne h.geo (by omega), h.box.kept (Below.heap_setCell _ _ _ _ (by show w.heap.size + 1 ≠ g; omega)), ?_, h.lo, h.fr.set (.inl rfl)⟩
  have := owns_set h.row (g := g) rfl (.string s) (j := i) (by rw [strs_length]; omega)
  rwa [strs_set] at this
theorem CSt.below {w wr wr' : World} {Bx : Nat} {N F C U : Int} {m : Nat → Bool} {g n : Nat} {L : List ByteArray} (h : CSt w wr Bx N F C U m g n L) (hb : Below wr.heap.size wr wr') : CSt w wr' Bx N F C U m g n L :=
  ⟨(hb.block _ (lt_of_block h.geo)).trans h.geo, h.box.below hb, owns_kept h.row fun k hk => hb.block k (h.row.lt k hk).2, h.lo, h.fr.trans (Fr.of_below (A := fun _ => False) hb) (fun i hi => hi.elim)⟩
theorem CSt.cells {w wr : World} {Bx : Nat} {N F C U : Int} {m : Nat → Bool} {g n : Nat} {L : List ByteArray} (h : CSt w wr Bx N F C U m g n L) : wr.cell? ⟨w.heap.size, 0, none⟩ = some (.int .i64 N) ∧ wr.cell? ⟨w.heap.size, 1, none⟩ = some (.int .i64 F) ∧ wr.cell? ⟨w.heap.size, 2, none⟩ = some (.int .i64 C) ∧ wr.cell? ⟨w.heap.size, 3, none⟩ = some (.int .i64 U) := by
  refine ⟨?_, ?_, ?_, ?_⟩ <;> (rw [cell_of_blk h.geo]; rfl)
theorem CSt.at {w wr : World} {Bx : Nat} {N F C U : Int} {m : Nat → Bool} {g n : Nat} {L : List ByteArray} (h : CSt w wr Bx N F C U m g n L) (i : Nat) (hi : i < n) : wr.cell? ⟨g, i, none⟩ = some (.string (lAt L i)) := owns_cell h.row rfl i _ (strs_at (by rw [h.len]; exact hi))
theorem CSt.free {w wr : World} {Bx : Nat} {N F C U : Int} {m : Nat → Bool} {g n : Nat} {L : List ByteArray} (h : CSt w wr Bx N F C U m g n L) (i : Nat) : wr.frozen? ⟨g, i, none⟩ = false := owns_free h.row rfl i
theorem CSt.rs {w wr : World} {Bx : Nat} {N F C U : Int} {m : Nat → Bool} {g n : Nat} {L : List ByteArray} (h : CSt w wr Bx N F C U m g n L) : Rs wr (some ⟨g, 0, none⟩) n n L := by
  obtain ⟨a, c, e, hr, _⟩ := towns_shape h.row
  simp only [Value.slice.injEq] at e
  obtain ⟨rfl, _, rfl⟩ := e
  exact hr

set_option maxRecDepth 20000 in
set_option maxHeartbeats 4000000 in
theorem compute_any (B p : Nat) (v1 v2 : Value) (D : DS) (Bx : Nat) (N F C U : Int) (m : Nat → Bool) (g n : Nat) (L0 : List ByteArray) (w : World) (h : PD w B p v1 v2 D) (hK : Dg.Kon w) (M : Nat) (hok : D.ok M) (hM : M ≤ 1000000) (hz : D.sz)
    (hrow : w.ownsRow Bx 9 1 (.slice (some ⟨g, 0, none⟩) n n) n (strs L0)) (hgl : g < w.heap.size) (hgf : ¬ foot p v1 v2 g) (hgk : g ≠ 2) (hn : n ≤ 255) (hL0 : few32 n L0) :
    Calls Tryz.prog 73 #[.pointer (some ⟨p, 0, none⟩), geo N F C U, .agg (marksA m), .slice (some ⟨g, 0, none⟩) n n] w fun e w' => e = .returned (.int .i64 (cmpL N F C U m D L0 n).2) ∧ w'.ownsRow Bx 9 1 (.slice (some ⟨g, 0, none⟩) n n) n (strs (cmpL N F C U m D L0 n).1) ∧ Fr (fun k => k = g) w w' := by
  obtain ⟨R, hR⟩ : ∃ R, R = cmpL N F C U m D L0 n := ⟨_, rfl⟩
  rw [← hR]
  obtain ⟨Y, hY⟩ : ∃ Y, Y = marksA m := ⟨_, rfl⟩
  rw [← hY]
  obtain ⟨w0, hw0⟩ : ∃ w0, w0 = (w.alloc (.cells #[.int .i64 N, .int .i64 F, .int .i64 C, .int .i64 U] 23)).alloc (.cells Y 106) := ⟨_, rfl⟩
  have e1 : (w.alloc (.cells #[.int .i64 N, .int .i64 F, .int .i64 C, .int .i64 U] 23)).heap.size = w.heap.size + 1 := World.size_alloc _ _
  have hb0 : Below w.heap.size w w0 := by rw [hw0]; exact ((Below.refl _ w).alloc (Nat.le_refl _) _).alloc (by omega) _
  have hst : CSt w w0 Bx N F C U m g n L0 := by
    refine ⟨?_, ?_, owns_kept hrow fun k hk => hb0.block k (hrow.lt k hk).2, hgl, Fr.of_below hb0⟩
    · rw [hw0, Below.heap_alloc _ _ _ (by omega)]; exact heap_alloc_new w _
    · unfold MB; rw [hw0, ← hY, ← e1]; exact heap_alloc_new _ _
  have HP := Lib.hid h
  have HK := Lib.hid hK
  have HOK := Lib.hid hok
  have HZ := Lib.hid hz
  have HR := Lib.hid hR
  have HW := Lib.hid hw0
  have HST := Lib.hid hst
  have HGF := Lib.hid (And.intro hgf hgk)
  have HL0 := Lib.hid hL0
  clear h hK hok hz hR hw0 hst hgf hgk hL0 hrow hb0 e1 hY
  unfold geo
  go_enter Tryz.func73, Tryz.ntmps73
  go_upto_region 1 with fail
  rw [← HW.out]
  go_wp2
  go_loopw [14] (fun i wr => ∃ (k : Nat) (L : List ByteArray), k ≤ n ∧ i = .int .i64 k ∧ cmpL N F C U m D L0 k = (L, 0) ∧ few32 n L ∧ CSt w wr Bx N F C U m g n L) (fun i _ => n - (intOf i).toNat)
  case atStart => exact ⟨0, L0, by omega, rfl, rfl, HL0.out, HST.out⟩
  case round =>
    clear HST
    obtain ⟨k, L, hk, rfl, hL, h32, hO⟩ := hrel
    by_cases hlt : k < n
    · have i0 : (0 : Int) ≤ (k : Int) := by omega
      have i1 : (k : Int) < (n : Int) := by omega
      have i2 : (k : Int) < 256 := by omega
      have hcl := hO.box.at k (by omega)
      have HO := Lib.hid hO
      have HL := Lib.hid hL
      have H32 := Lib.hid h32
      clear hO hL h32
      cases hmk : m k with
      | false =>
        rw [hmk] at hcl
        have HMK := Lib.hid hmk
        clear hmk
        go_wp2
        go_roundw
        case rel => exact ⟨k + 1, L, by omega, by go_num, (runE_next HL.out).trans (cmpF_off HMK.out), H32.out, HO.out⟩
        case measure => simp [intOf]; omega
      | true =>
        rw [hmk] at hcl
        obtain ⟨c0, c1, c2, c3⟩ := HO.out.cells
        have hfr := HO.out.fr
        have hha := hashOf_any B p v1 v2 D N F C U (some ⟨g, 0, none⟩) n n L k wr (HP.out.fr hfr (fun q hq e => HGF.out.1 (by rw [← e]; exact hq))) (kon_fr HK.out hfr (fun e => HGF.out.2 e.symm)) M HOK.out hM HZ.out HO.out.rs (by omega) H32.out.2
        obtain ⟨s, e, hre⟩ : ∃ s e, hashR N F C U D L k = (s, e) := ⟨_, _, rfl⟩
        rw [hre] at hha
        dsimp only at hha
        unfold geo at hha
        have HHA := Lib.hid hha
        have HMK := Lib.hid hmk
        have HX := Lib.hid (cmpF_on hmk hre)
        clear hmk hha hre hfr
        go_wp2_with fail
        refine HHA.out.mono ?_
        rintro e' w2 ⟨rfl, hb2⟩
        have HO2 := Lib.hid (HO.out.below hb2)
        clear hb2 HHA HO c0 c1 c2 c3 hcl
        by_cases he : e = 0
        · subst he
          have hfz := HO2.out.free k
          have hcl := HO2.out.at k hlt
          have HX2 := Lib.hid (HX.out.trans (if_neg (by simp)))
          have H322 := Lib.hid (show few32 n (L.set k s) from by have := cmpF_small (m := m) (N := N) (F := F) (C := C) (U := U) (D := D) k H32.out; rw [HX2.out] at this; exact this)
          go_wp2
          go_roundw
          case rel => exact ⟨k + 1, L.set k s, by omega, by go_num, (runE_next HL.out).trans HX2.out, H322.out, HO2.out.set k hlt s⟩
          case measure => simp [intOf]; omega
        · have he2 : (e == 0) = false := by simpa using he
          have he3 : (e != 0) = true := by simp [he]
          have HE := Lib.hid (HR.out.trans (runE_err HL.out (HX.out.trans (if_pos he)) he hlt))
          clear he
          go_wp2
          go_ret
          rw [HE.out]
          exact ⟨rfl, HO2.out.row, HO2.out.fr⟩
    · obtain rfl : k = n := by omega
      have i1 : ¬ (k : Int) < (k : Int) := by omega
      have HO := Lib.hid hO
      have HE := Lib.hid (HR.out.trans hL)
      clear hO hL
      go_wp2
      go_ret
      rw [HE.out]
      exact ⟨rfl, HO.out.row, HO.out.fr⟩

theorem hpp_join {w w1 w2 : World} {B p : Nat} {v1 v2 a b : Value} {S2 : DS} (hf : Fr (foot p v1 v2) w w1) (ht : ∀ k, foot p a b k → foot p v1 v2 k ∨ w.heap.size ≤ k) (k : PP w1 B p a b S2 w2) : PP w B p v1 v2 S2 w2 := by
  obtain ⟨c, d, hp2, hf2, ht2⟩ := k
  exact ⟨c, d, hp2, hf.trans hf2 fun i hi => ht i hi, fun i hi => by
    rcases ht2 i hi with h | h
    · exact ht i h
    · exact .inr (Nat.le_trans hf.size h)⟩

/-- What save leaves of the disk, and tells. -/
def savR (N F C U : Int) (m : Nat → Bool) (L : List ByteArray) (D : DS) (n : Nat) : Int × DS :=
  if (savL N F C U m L D n).2 ≠ 0 then ((savL N F C U m L D n).2, (savL N F C U m L D n).1) else (savL N F C U m L D n).1.flush

theorem savF_off {N F C U : Int} {m : Nat → Bool} {L : List ByteArray} {k : Nat} {D : DS} (h : m k = false) : savF N F C U m L k D = (D, 0) := if_pos h
theorem savF_on {N F C U : Int} {m : Nat → Bool} {L : List ByteArray} {k : Nat} {D : DS} (h : m k = true) : savF N F C U m L k D = ((putNP N F C U D k (lAt L k)).2, (putNP N F C U D k (lAt L k)).1) := if_neg (by rw [h]; simp)

set_option maxRecDepth 20000 in
set_option maxHeartbeats 4000000 in
theorem save_any (B p : Nat) (v1 v2 : Value) (D : DS) (Bx : Nat) (N F C U : Int) (m : Nat → Bool) (g n : Nat) (L : List ByteArray) (w : World) (h : PD w B p v1 v2 D) (hB : B ≤ w.heap.size) (M : Nat) (hok : D.ok M) (hM : M + 300 ≤ 1000000)
    (hrow : w.ownsRow Bx 9 1 (.slice (some ⟨g, 0, none⟩) n n) n (strs L)) (hgl : g < w.heap.size) (hgf : ¬ foot p v1 v2 g) (hn : n ≤ 255) (hL : few32 n L) :
    Calls Tryz.prog 74 #[.pointer (some ⟨p, 0, none⟩), geo N F C U, .agg (marksA m), .slice (some ⟨g, 0, none⟩) n n] w fun e w' => e = .returned (.int .i64 (savR N F C U m L D n).1) ∧ PP w B p v1 v2 (savR N F C U m L D n).2 w' := by
  obtain ⟨R, hR⟩ : ∃ R, R = savR N F C U m L D n := ⟨_, rfl⟩
  rw [← hR]
  obtain ⟨Y, hY⟩ : ∃ Y, Y = marksA m := ⟨_, rfl⟩
  rw [← hY]
  obtain ⟨w0, hw0⟩ : ∃ w0, w0 = (w.alloc (.cells #[.int .i64 N, .int .i64 F, .int .i64 C, .int .i64 U] 23)).alloc (.cells Y 106) := ⟨_, rfl⟩
  have e1 : (w.alloc (.cells #[.int .i64 N, .int .i64 F, .int .i64 C, .int .i64 U] 23)).heap.size = w.heap.size + 1 := World.size_alloc _ _
  have hs0 : w0.heap.size = w.heap.size + 2 := by rw [hw0, World.size_alloc, e1]
  have hb0 : Below w.heap.size w w0 := by rw [hw0]; exact ((Below.refl _ w).alloc (Nat.le_refl _) _).alloc (by omega) _
  have hg0 : w0.heap[w.heap.size]? = some (.cells #[.int .i64 N, .int .i64 F, .int .i64 C, .int .i64 U] 23 (0, 0)) := by rw [hw0, Below.heap_alloc _ _ _ (by omega)]; exact heap_alloc_new w _
  have hm0 : MB w0 (w.heap.size + 1) m := by unfold MB; rw [hw0, ← hY, ← e1]; exact heap_alloc_new _ _
  have hlen : L.length = n := hL.1
  -- what stays, whatever the disk becomes
  have hkeep : ∀ (wr : World) (D' : DS), PP w0 B p v1 v2 D' wr → (wr.cell? ⟨w.heap.size, 0, none⟩ = some (.int .i64 N) ∧ wr.cell? ⟨w.heap.size, 1, none⟩ = some (.int .i64 F) ∧ wr.cell? ⟨w.heap.size, 2, none⟩ = some (.int .i64 C) ∧ wr.cell? ⟨w.heap.size, 3, none⟩ = some (.int .i64 U)) ∧ MB wr (w.heap.size + 1) m ∧ ∀ i, i < n → wr.cell? ⟨g, i, none⟩ = some (.string (lAt L i)) := fun wr D' hpp => by
    obtain ⟨_, _, _, hf, _⟩ := hpp
    have hfl := h.foot_low
    have g1 := (hf.block w.heap.size (by omega) (fun hx => by have := (hfl _ hx).2; omega)).trans hg0
    refine ⟨?_, hm0.kept (hf.block _ (by omega) (fun hx => by have := (hfl _ hx).2; omega)), fun i hi => ?_⟩
    · refine ⟨?_, ?_, ?_, ?_⟩ <;> (rw [cell_of_blk g1]; rfl)
    · rw [World.cell?_of_block (w := w0) (hf.block g (by omega) hgf), World.cell?_of_block (w := w) (hb0.block g hgl)]
      exact owns_cell hrow rfl i _ (strs_at (by omega))
  have HP0 := Lib.hid (PP.same (h.below hb0))
  have HOK := Lib.hid hok
  have HR := Lib.hid hR
  have HW := Lib.hid hw0
  have HB0 := Lib.hid hb0
  have HKP := Lib.hid hkeep
  have HL := Lib.hid hL
  have HBB := Lib.hid (Nat.le_trans hB hb0.size)
  clear h hok hR hw0 hb0 hkeep hL hrow hgf hg0 hm0 e1 hs0 hB hlen hY
  unfold geo
  go_enter Tryz.func74, Tryz.ntmps74
  go_upto_region 1 with fail
  rw [← HW.out]
  go_wp2
  go_loopw [14] (fun i wr => ∃ (k : Nat) (D' : DS), k ≤ n ∧ i = .int .i64 k ∧ savL N F C U m L D k = (D', 0) ∧ PP w0 B p v1 v2 D' wr) (fun i _ => n - (intOf i).toNat)
  case atStart => exact ⟨0, D, by omega, rfl, rfl, HP0.out⟩
  case round =>
    clear HP0
    obtain ⟨k, D', hk, rfl, hD, hpp⟩ := hrel
    obtain ⟨⟨c0, c1, c2, c3⟩, hmb, hcs⟩ := HKP.out wr D' hpp
    by_cases hlt : k < n
    · have i0 : (0 : Int) ≤ (k : Int) := by omega
      have i1 : (k : Int) < (n : Int) := by omega
      have i2 : (k : Int) < 256 := by omega
      have hcl := hmb.at k (by omega)
      have hck := hcs k hlt
      obtain ⟨s, hs⟩ : ∃ s, s = lAt L k := ⟨_, rfl⟩
      rw [← hs] at hck
      have HD := Lib.hid hD
      have HS := Lib.hid hs
      have HPP := Lib.hid hpp
      clear hmb hcs hD hs hpp
      cases hmk : m k with
      | false =>
        rw [hmk] at hcl
        have HMK := Lib.hid hmk
        clear hmk
        go_wp2
        go_roundw
        case rel => exact ⟨k + 1, D', by omega, by go_num, (runE_next HD.out).trans (savF_off HMK.out), HPP.out⟩
        case measure => simp [intOf]; omega
      | true =>
        rw [hmk] at hcl
        obtain ⟨va, vb, hpd, hfr, hft⟩ := HPP.out
        have hok' : D'.ok (M + k) := by have := savL_ok HOK.out N F C U m L k; rw [HD.out] at this; exact this
        have hpu := nput_any B p va vb D' N F C U k s wr hpd (Nat.le_trans HBB.out hfr.size) (M + k) hok' (by omega) (by have := HL.out.2 k; rw [← HS.out] at this; omega)
        obtain ⟨e, T, het⟩ : ∃ e T, putNP N F C U D' k s = (e, T) := ⟨_, _, rfl⟩
        rw [het] at hpu
        dsimp only at hpu
        unfold geo at hpu
        have HPU := Lib.hid hpu
        have HX := Lib.hid (show savF N F C U m L k D' = (T, e) from by rw [savF_on hmk, ← HS.out, het])
        have HFR := Lib.hid (And.intro hfr hft)
        have HPD := Lib.hid hpd
        clear hmk hpu het hfr hft hpd hok'
        go_wp2_with fail
        refine HPU.out.mono ?_
        rintro e' w2 ⟨rfl, hp2⟩
        have HP2 := Lib.hid (hpp_join HFR.out.1 HFR.out.2 hp2)
        clear hp2 HPU c0 c1 c2 c3 hcl hck HPD
        by_cases he : e = 0
        · subst he
          go_wp2
          go_roundw
          case rel => exact ⟨k + 1, T, by omega, by go_num, (runE_next HD.out).trans HX.out, HP2.out⟩
          case measure => simp [intOf]; omega
        · have he2 : (e == 0) = false := by simpa using he
          have he3 : (e != 0) = true := by simp [he]
          have HE := Lib.hid (show R = (e, T) from by
            rw [HR.out]
            unfold savR
            rw [show savL N F C U m L D n = (T, e) from runE_err HD.out HX.out he hlt, if_pos he])
          clear he
          go_wp2
          go_ret
          rw [HE.out]
          exact ⟨rfl, hpp_below HB0.out HP2.out⟩
    · obtain rfl : k = n := by omega
      have i1 : ¬ (k : Int) < (k : Int) := by omega
      obtain ⟨va, vb, hpd, hfr, hft⟩ := hpp
      have hok' : D'.ok (M + k) := by have := savL_ok HOK.out N F C U m L k; rw [hD] at this; exact this
      have hfl := flush_any B p va vb D' wr hpd (Nat.le_trans HBB.out hfr.size) (M + k) hok' (by omega)
      have HFL := Lib.hid hfl
      have HFR := Lib.hid (And.intro hfr hft)
      have HE := Lib.hid (show R = D'.flush from by rw [HR.out]; unfold savR; rw [hD]; simp)
      clear hpd hfr hft hfl hok' hD c0 c1 c2 c3 hmb hcs
      go_wp2_with fail
      refine HFL.out.mono ?_
      rintro e' w2 ⟨rfl, hp2⟩
      have HP2 := Lib.hid (hpp_join HFR.out.1 HFR.out.2 hp2)
      clear hp2 HFL
      go_wp2
      go_ret
      rw [HE.out]
      exact ⟨rfl, hpp_below HB0.out HP2.out⟩
end Go.Proofs.YtpkeikbiblfidaaGreatDoor

/-
  Texts put together: N2, N3.
-/
import Derived.Test.YtpkeikbiblfidaaGreatDoorMN
import Derived.Maps.OwnOps
/-
  Find: the program's, with its closure.
-/
namespace Go.Proofs.YtpkeikbiblfidaaGreatDoor
open Go.RowKit Go.Maps
set_option linter.unusedVariables false
set_option linter.unusedSimpArgs false

set_option maxRecDepth 20000 in
set_option maxHeartbeats 1000000 in
theorem excl_any (k : Nat) (hk : k ≤ 100000) (bx b n : Nat) (m : Nat → Bool) (w : World) (hc : w.cell? ⟨bx, 0, none⟩ = some (.map (some b))) (h : Set3 w b n m) :
    Calls Tryz.prog 81 #[.int .i64 k, .pointer (some ⟨bx, 0, none⟩)] w fun e w' => e = .returned (.bool (m k)) ∧ Below w.heap.size w w' := by
  obtain ⟨D, hD, hm⟩ := h
  have hkey : keyOf Tryz.prog 3 (.int .i64 (k : Int)) = some (.int .i64 (k : Int)) := keyOf_int_mk Tryz.underlying3 (WalkArith.wf_i64 (by omega))
  have hmk := hm k
  obtain ⟨r, hr⟩ : ∃ r, r = m k := ⟨_, rfl⟩
  rw [← hr] at hmk ⊢
  have hb := (Below.refl w.heap.size w).alloc (Nat.le_refl _) (.cells #[] 119)
  go_enter Tryz.func81, Tryz.ntmps81
  go_wp2_with (at_lookup; refine wpList_lookup_own_unit _ rfl _ _ 117 rfl 3 119 law3 Tryz.underlying117 (zeroUnit _) b n _ rfl hD _ _ rfl hkey ?_)
  go_ret
  exact ⟨by rw [hr]; rfl, hb⟩

/-- The nodes among the first k that are not as they should be, but for those of m. -/
def findK (N F C U : Int) (D : DS) (m : Nat → Bool) (k : Nat) : List Int := ((List.range k).filter fun j => !m j && wrongB N F C U D j).map fun j : Nat => (j : Int)
theorem findK_next (N F C U : Int) (D : DS) (m : Nat → Bool) (k : Nat) : findK N F C U D m (k + 1) = findK N F C U D m k ++ (if (!m k && wrongB N F C U D k) = true then [(k : Int)] else []) := by
  unfold findK
  rw [List.range_succ, List.filter_append, List.map_append]
  congr 1
  by_cases h : (!m k && wrongB N F C U D k) = true
  · rw [if_pos h]; simp [List.filter_cons, h]
  · rw [if_neg h]; simp [List.filter_cons, h]
theorem findK_length (N F C U : Int) (D : DS) (m : Nat → Bool) : ∀ k, (findK N F C U D m k).length ≤ k
  | 0 => by simp [findK]
  | k + 1 => by
    have := findK_length N F C U D m k
    rw [findK_next, List.length_append]
    split <;> simp <;> omega

/-- The closure's value. -/
def exclV (bx : Nat) : Value := .func (Fn.func 81) #[] #[.pointer (some ⟨bx, 0, none⟩)]

set_option maxRecDepth 20000 in
set_option maxHeartbeats 4000000 in
theorem find_any (B p : Nat) (v1 v2 : Value) (D : DS) (N F C U : Int) (bx b n0 : Nat) (m : Nat → Bool) (w : World) (h : PD w B p v1 v2 D) (hK : Dg.Kon w) (M : Nat) (hok : D.ok M) (hM : M ≤ 1000000) (hz : D.sz) (hbx : w.heap[bx]? = some (.cells #[.map (some b)] 117 (0, 0))) (hS : Set3 w b n0 m) :
    Calls Tryz.prog 82 #[.pointer (some ⟨p, 0, none⟩), geo N F C U, exclV bx] w fun e w' => (∃ v, e = .returned v ∧ w'.ownsRow w.heap.size 3 1 v (findK N F C U D m (nodes N F C U)).length (ivs (findK N F C U D m (nodes N F C U)))) ∧ Below w.heap.size w w' := by
  obtain ⟨i0, hi, hz0, hz1, hz2⟩ := info_parts Tryz.info3
  obtain ⟨W, hW⟩ : ∃ W, W = w.alloc (.cells #[.int .i64 N, .int .i64 F, .int .i64 C, .int .i64 U] 23) := ⟨_, rfl⟩
  have hb0 : Below w.heap.size w W := by rw [hW]; exact (Below.refl _ w).alloc (Nat.le_refl _) _
  have hsW : W.heap.size = w.heap.size + 1 := by rw [hW]; exact World.size_alloc _ _
  have hg0 : W.heap[w.heap.size]? = some (.cells #[.int .i64 N, .int .i64 F, .int .i64 C, .int .i64 U] 23 (0, 0)) := by rw [hW]; exact heap_alloc_new w _
  have hgc : ∀ w' : World, w'.heap[w.heap.size]? = W.heap[w.heap.size]? → w'.cell? ⟨w.heap.size, 0, none⟩ = some (.int .i64 N) ∧ w'.cell? ⟨w.heap.size, 1, none⟩ = some (.int .i64 F) ∧ w'.cell? ⟨w.heap.size, 2, none⟩ = some (.int .i64 C) ∧ w'.cell? ⟨w.heap.size, 3, none⟩ = some (.int .i64 U) := fun w' e => by
    have e := e.trans hg0
    refine ⟨?_, ?_, ?_, ?_⟩ <;> (rw [cell_of_blk e]; rfl)
  have hnl := nodes_le N F C U
  have hnd := fun w => nodes_any N F C U w
  obtain ⟨n, hn⟩ : ∃ n, n = nodes N F C U := ⟨_, rfl⟩
  rw [← hn] at hnl ⊢
  simp only [← hn] at hnd
  obtain ⟨c0, c1, c2, c3⟩ := hgc W rfl
  have HW := Lib.hid hW
  have HB0 := Lib.hid hb0
  have HGC := Lib.hid hgc
  have HSW := Lib.hid hsW
  have hex := fun w' (hb : Below w.heap.size w w') (k : Nat) (hk : k ≤ 100000) => excl_any k hk bx b n0 m w' ((cell_of_blk ((hb.block bx (lt_of_block hbx)).trans hbx) 0).trans rfl) (hS.kept (hb.block b hS.lt))
  have hwr := fun w' (hb : Below w.heap.size w w') (k : Nat) => wrong_any B p v1 v2 D N F C U k w' (h.below hb) (hK.below hb) M hok hM hz
  unfold geo at hnd hwr ⊢
  have HND := Lib.hid hnd
  have HEX := Lib.hid hex
  have HWR := Lib.hid hwr
  clear hb0 hW h hK hz hok hgc hsW hg0 hnd hex hwr hbx hS hn
  unfold exclV
  go_enter Tryz.func82, Tryz.ntmps82
  go_upto_region 1 with fail
  rw [← HW.out]
  go_wp2_with fail
  refine (HND.out _).mono ?_
  rintro e w1 ⟨rfl, hb1⟩
  have HB1 := Lib.hid hb1
  clear hb1 c0 c1 c2 c3 HND
  go_wp2
  go_loopw [7, 11] (fun s i wr => ∃ k : Nat, k ≤ n ∧ i = .int .i64 k ∧ wr.ownsRow w1.heap.size 3 1 s (findK N F C U D m k).length (ivs (findK N F C U D m k)) ∧ Below w1.heap.size w1 wr) (fun _ i _ => n - (intOf i).toNat)
  case atStart => exact ⟨0, by omega, rfl, World.ownsRow_nil _ _ _ _, Below.refl _ _⟩
  case round =>
    obtain ⟨k, hk, rfl, ho, hB⟩ := hrel
    have hBW : Below W.heap.size W wr := HB1.out.trans (hB.mono HB1.out.size)
    have hBw : Below w.heap.size w wr := HB0.out.trans (hBW.mono HB0.out.size)
    have hln := findK_length N F C U D m k
    by_cases hlt : k < n
    · have i1 : (k : Int) < (n : Int) := by omega
      obtain ⟨c0, c1, c2, c3⟩ := HGC.out wr (hBW.block _ (by have := HSW.out; omega))
      have hex := HEX.out wr hBw k (by omega)
      have hnx := findK_next N F C U D m k
      obtain ⟨r, hr⟩ : ∃ r, r = m k := ⟨_, rfl⟩
      rw [← hr] at hex hnx
      obtain ⟨L, hL⟩ : ∃ L, L = findK N F C U D m k := ⟨_, rfl⟩
      rw [← hL] at ho hnx hln
      have hwr := fun w' (hb : Below w.heap.size w w') => HWR.out w' hb k
      obtain ⟨q, hq⟩ : ∃ q, q = wrongB N F C U D k := ⟨_, rfl⟩
      rw [← hq] at hnx
      simp only [← hq] at hwr
      have HEX2 := Lib.hid hex
      have HWR2 := Lib.hid hwr
      have HNX := Lib.hid hnx
      have HBW := Lib.hid hBw
      have HBB := Lib.hid hB
      have HBQ := Lib.hid hBW
      clear hex hwr hnx hBW hBw hB hr hq hL
      go_wp2_with (go_at_call 81; with_reducible refine HEX2.out.mono ?_)
      rintro e w2 ⟨rfl, hb2⟩
      have HB2 := Lib.hid (HBW.out.trans (hb2.mono HBW.out.size))
      have HBB2 := Lib.hid (HBB.out.trans (hb2.mono HBB.out.size))
      have ho2 := owns_kept ho fun x hx => hb2.block x (ho.lt x hx).2
      obtain ⟨c0, c1, c2, c3⟩ := HGC.out w2 ((hb2.block _ (by have := HSW.out; have := HBQ.out.size; omega)).trans (HBQ.out.block _ (by have := HSW.out; omega)))
      clear hb2 ho HEX2
      cases r with
      | true =>
        have HN2 := Lib.hid (show findK N F C U D m (k + 1) = L from by rw [HNX.out]; simp)
        go_wp2
        go_roundw
        case rel => exact ⟨k + 1, by omega, by go_num, by rw [HN2.out]; exact ho2, HBB2.out⟩
        case measure => simp [intOf]; omega
      | false =>
        have HWR3 := Lib.hid (HWR2.out w2 HB2.out)
        go_wp2_with fail
        refine HWR3.out.mono ?_
        rintro e w3 ⟨rfl, hb3⟩
        have HBB3 := Lib.hid (HBB2.out.trans (hb3.mono HBB2.out.size))
        have ho3 := owns_kept ho2 fun x hx => hb3.block x (ho2.lt x hx).2
        clear hb3 ho2 HWR3 c0 c1 c2 c3
        cases q with
        | false =>
          have HN2 := Lib.hid (show findK N F C U D m (k + 1) = L from by rw [HNX.out]; simp)
          go_wp2
          go_roundw
          case rel => exact ⟨k + 1, by omega, by go_num, by rw [HN2.out]; exact ho3, HBB3.out⟩
          case measure => simp [intOf]; omega
        | true =>
          have HN2 := Lib.hid (show findK N F C U D m (k + 1) = L ++ [(k : Int)] from by rw [HNX.out]; simp)
          have HLL := Lib.hid hln
          go_wp2_with (at_builtin; refine wpList_append_i (o := ⟨some 27, _, _, _, _, _⟩) rfl (.tmp 24) (.tmp 26) 34 rfl w1.heap.size i0 Tryz.underlying34 hi hz0 hz1 hz2 _ L.length _ rfl (ho3.alloc _) _ rfl rfl (by have := HLL.out; omega) (by have := HBB3.out.size; simp; omega) ?_)
          intro v5 w5 h1 h2
          rw [← HN2.out, show L.length + 1 = (findK N F C U D m (k + 1)).length from by rw [HN2.out]; simp] at h1
          have hB5 := (HBB3.out.alloc HBB3.out.size (.cells #[.int .i64 (k : Int)] 3)).grown h2 (HBB3.out.alloc HBB3.out.size (.cells #[.int .i64 (k : Int)] 3)).size (fun x e => (ho3.lt x e).1)
          have hll := findK_length N F C U D m (k + 1)
          obtain ⟨a5, c5, rfl, _, _⟩ := iowns_shape h1 (by omega)
          have HO5 := Lib.hid h1
          have HB5 := Lib.hid hB5
          clear h1 h2 hB5 ho3 hll
          go_wp2
          go_roundw
          case rel => exact ⟨k + 1, by omega, by go_num, HO5.out, HB5.out⟩
          case measure => simp [intOf]; omega
    · obtain rfl : k = n := by omega
      have i1 : ¬ (k : Int) < (k : Int) := by omega
      obtain ⟨a5, c5, rfl, _, _⟩ := iowns_shape ho (by omega)
      have HO := Lib.hid (owns_low ho (show w.heap.size ≤ w1.heap.size from Nat.le_trans HB0.out.size HB1.out.size))
      have HBF := Lib.hid hBw
      clear ho hB hBW hBw
      go_wp2
      go_ret
      exact ⟨⟨_, rfl, HO.out⟩, HBF.out⟩

/-- What Find tells. -/
def findP (N F C U : Int) (D : DS) (but : List Int) : List Int × Int :=
  if ¬ okG N F C U then ([], 12) else if (rdE D (N.toNat + nodes N F C U)).2 ≠ 0 then ([], (rdE D (N.toNat + nodes N F C U)).2) else (findK N F C U D (docM N F C U but but.length) (nodes N F C U), 0)

set_option maxRecDepth 20000 in
set_option maxHeartbeats 4000000 in
theorem Find_any (B p : Nat) (v1 v2 : Value) (D : DS) (N F C U : Int) (a : Option Addr) (l c : Nat) (xs : List Int) (w : World) (h : PD w B p v1 v2 D) (hK : Dg.Kon w) (M : Nat) (hok : D.ok M) (hM : M ≤ 1000000) (hz : D.sz) (hri : Ri w a l c xs) (hl : l ≤ 1000) :
    Calls Tryz.prog 29 #[.pointer (some ⟨p, 0, none⟩), geo N F C U, .slice a l c] w fun e w' => (∃ v, e = .returned (.tuple #[v, .int .i64 (findP N F C U D xs).2]) ∧ w'.ownsRow w.heap.size 3 1 v (findP N F C U D xs).1.length (ivs (findP N F C U D xs).1)) ∧ Below w.heap.size w w' := by
  obtain ⟨W, hW⟩ : ∃ W, W = w.alloc (.cells #[.int .i64 N, .int .i64 F, .int .i64 C, .int .i64 U] 23) := ⟨_, rfl⟩
  have hb0 : Below w.heap.size w W := by rw [hW]; exact (Below.refl _ w).alloc (Nat.le_refl _) _
  have hsW : W.heap.size = w.heap.size + 1 := by rw [hW]; exact World.size_alloc _ _
  have hg0 : W.heap[w.heap.size]? = some (.cells #[.int .i64 N, .int .i64 F, .int .i64 C, .int .i64 U] 23 (0, 0)) := by rw [hW]; exact heap_alloc_new w _
  have hgc : ∀ w' : World, w'.heap[w.heap.size]? = W.heap[w.heap.size]? → w'.cell? ⟨w.heap.size, 0, none⟩ = some (.int .i64 N) ∧ w'.cell? ⟨w.heap.size, 1, none⟩ = some (.int .i64 F) ∧ w'.cell? ⟨w.heap.size, 2, none⟩ = some (.int .i64 C) ∧ w'.cell? ⟨w.heap.size, 3, none⟩ = some (.int .i64 U) := fun w' e => by
    have e := e.trans hg0
    refine ⟨?_, ?_, ?_, ?_⟩ <;> (rw [cell_of_blk e]; rfl)
  obtain ⟨R, hR⟩ : ∃ R, R = findP N F C U D xs := ⟨_, rfl⟩
  rw [← hR]
  unfold findP at hR
  have hgr := fun w => gright_any N F C U w
  obtain ⟨c0, c1, c2, c3⟩ := hgc W rfl
  have HW := Lib.hid hW
  have HB0 := Lib.hid hb0
  have HGC := Lib.hid hgc
  have HSW := Lib.hid hsW
  have HR := Lib.hid hR
  have HP := Lib.hid h
  have HRI := Lib.hid hri
  have HKN := Lib.hid hK
  unfold geo at hgr ⊢
  by_cases hg : okG N F C U
  · have hd : decide (okG N F C U) = true := by simpa using hg
    simp only [hd] at hgr
    have HGR := Lib.hid hgr
    have hR2 := HR.out.trans (if_neg (by simpa using hg))
    have hrd := fun w' (hb : Below w.heap.size w w') => readable_any B p v1 v2 D N F C U hg w' (HP.out.below hb) M hok hM
    obtain ⟨q, hq⟩ : ∃ q, q = (rdE D (N.toNat + nodes N F C U)).2 := ⟨_, rfl⟩
    rw [← hq] at hR2
    simp only [← hq] at hrd
    have hab := fun w' (hb : Below w.heap.size w w') => above_any N F C U hg a l c xs w' (HRI.out.later hb) hl
    have hfi := fun w' (hb : Below w.heap.size w w') (bx b : Nat) (hbx : w'.heap[bx]? = some (.cells #[.map (some b)] 117 (0, 0))) (hS : Set3 w' b (8 * l) (docM N F C U xs xs.length)) => find_any B p v1 v2 D N F C U bx b (8 * l) _ w' (HP.out.below hb) (HKN.out.below hb) M hok hM hz hbx hS
    obtain ⟨FL, hFL⟩ : ∃ L, L = findK N F C U D (docM N F C U xs xs.length) (nodes N F C U) := ⟨_, rfl⟩
    rw [← hFL] at hR2
    simp only [← hFL] at hfi
    have hfl : FL.length ≤ 255 := by rw [hFL]; have := findK_length N F C U D (docM N F C U xs xs.length) (nodes N F C U); have := nodes_le N F C U; omega
    unfold geo at hrd hab hfi
    have HRD := Lib.hid hrd
    have HAB := Lib.hid hab
    have HFI := Lib.hid hfi
    have HR2 := Lib.hid hR2
    have HFL := Lib.hid hfl
    clear hb0 hW h hK hz hok hgc hsW hg0 hri hR hgr hd hg hR2 hrd hab hfi hq hFL hfl HR
    go_enter Tryz.func29, Tryz.ntmps29
    go_upto_region 1 with fail
    rw [← HW.out]
    go_wp2_with fail
    refine (HGR.out _).mono ?_
    rintro e w1 ⟨rfl, hb1⟩
    have HB1 := Lib.hid hb1
    have HBW1 := Lib.hid (HB0.out.trans (hb1.mono HB0.out.size))
    obtain ⟨c0, c1, c2, c3⟩ := HGC.out w1 (hb1.block _ (by have := HSW.out; omega))
    have HRD1 := Lib.hid (HRD.out w1 HBW1.out)
    clear hb1 HGR HRD
    go_wp2_with fail
    refine HRD1.out.mono ?_
    rintro e w2 ⟨rfl, hb2⟩
    have HB2 := Lib.hid (HB1.out.trans (hb2.mono HB1.out.size))
    have HBW2 := Lib.hid (HB0.out.trans (HB2.out.mono HB0.out.size))
    obtain ⟨c0, c1, c2, c3⟩ := HGC.out w2 (HB2.out.block _ (by have := HSW.out; omega))
    clear hb2 HRD1
    by_cases he : q = 0
    · subst he
      have HE := Lib.hid (HR2.out.trans (if_neg (by simp)))
      have HAB2 := Lib.hid (HAB.out w2 HBW2.out)
      go_wp2_with fail
      refine HAB2.out.mono ?_
      rintro e w3 ⟨⟨b, rfl, hbl, hS⟩, hb3⟩
      have hB3 := HB2.out.trans (hb3.mono HB2.out.size)
      have hzm : ∀ w, (zeroValue 117).run Tryz.prog w = .ok (.map none) w := fun w => by kernel_rfl
      go_upto_region 7 with fail
      obtain ⟨w4, hw4⟩ : ∃ w4, w4 = w3.alloc (.cells #[.map (some b)] 117) := ⟨_, rfl⟩
      have hbx := heap_alloc_new w3 (.cells #[.map (some b)] 117)
      have hB4 : Below W.heap.size W w4 := by rw [hw4]; exact hB3.alloc hB3.size _
      have hS4 : Set3 w4 b (8 * l) (docM N F C U xs xs.length) := by rw [hw4]; exact hS.kept (Below.heap_alloc _ _ _ hS.lt)
      obtain ⟨bx, hbx2⟩ : ∃ bx, bx = w3.heap.size := ⟨_, rfl⟩
      rw [← hbx2, ← hw4] at hbx
      obtain ⟨c0, c1, c2, c3⟩ := HGC.out w4 (hB4.block _ (by have := HSW.out; omega))
      have hBW4 := HB0.out.trans (hB4.mono HB0.out.size)
      have HFI4 := Lib.hid (HFI.out w4 hBW4 bx b hbx hS4)
      have HBW4 := Lib.hid hBW4
      rw [← hbx2, ← hw4]
      unfold exclV at HFI4
      clear hbx hB4 hS4 hbx2 hw4 hBW4 hB3 hS hb3 hbl HFI HAB HAB2
      go_wp2_with (go_at_call 82; with_reducible refine HFI4.out.mono ?_)
      rintro e w5 ⟨⟨v, rfl, ho⟩, hb5⟩
      obtain ⟨a5, c5, rfl, _, _⟩ := iowns_shape ho (by have := HFL.out; omega)
      have HO := Lib.hid (owns_low ho (show w.heap.size ≤ w4.heap.size from HBW4.out.size))
      have HB5 := Lib.hid (HBW4.out.trans (hb5.mono HBW4.out.size))
      clear ho hb5
      go_wp2
      refine bodyPost_ret (results_tmp2 rfl _ _ _) rfl ?_
      rw [HE.out]
      exact ⟨⟨_, rfl, HO.out⟩, HB5.out⟩
    · have he2 : (q == 0) = false := by simpa using he
      have he3 : (q != 0) = true := by simp [he]
      have HE := Lib.hid (HR2.out.trans (if_pos he))
      clear he
      go_wp2
      refine bodyPost_ret (results_tmp2 rfl _ _ _) rfl ?_
      rw [HE.out]
      exact ⟨⟨.slice none 0 0, rfl, World.ownsRow_nil _ _ _ _⟩, HBW2.out⟩
  · have hd : decide (okG N F C U) = false := by simpa using hg
    simp only [hd] at hgr
    have HGR := Lib.hid hgr
    have HE := Lib.hid (HR.out.trans (if_pos hg))
    clear hb0 hW h hK hz hok hgc hsW hg0 hri hR hgr hd hg HR
    go_enter Tryz.func29, Tryz.ntmps29
    go_upto_region 1 with fail
    rw [← HW.out]
    go_wp2_with fail
    refine (HGR.out _).mono ?_
    rintro e wa ⟨rfl, hba⟩
    have HBA := Lib.hid (HB0.out.trans (hba.mono HB0.out.size))
    clear hba
    go_wp2
    refine bodyPost_ret (results_tmp2 rfl _ _ _) rfl ?_
    rw [HE.out]
    exact ⟨⟨.slice none 0 0, rfl, World.ownsRow_nil _ _ _ _⟩, HBA.out⟩
end Go.Proofs.YtpkeikbiblfidaaGreatDoor
/-
  Mend and Kinds: the program's.
-/
namespace Go.Proofs.YtpkeikbiblfidaaGreatDoor
open Go.RowKit
set_option linter.unusedVariables false
set_option linter.unusedSimpArgs false


theorem findP_length (N F C U : Int) (D : DS) (but : List Int) : (findP N F C U D but).1.length ≤ 255 := by
  unfold findP
  split
  · simp
  · split
    · simp
    · have := findK_length N F C U D (docM N F C U but but.length) (nodes N F C U)
      have := nodes_le N F C U
      dsimp only
      omega
/-- What Mend tells and leaves. -/
def mendP (N F C U : Int) (D : DS) : (Int × Int) × DS :=
  if (findP N F C U D []).2 ≠ 0 then ((0, (findP N F C U D []).2), D) else if (fullP N F C U D).1.2 ≠ 0 then ((0, (fullP N F C U D).1.2), (fullP N F C U D).2) else ((((findP N F C U D []).1.length : Nat), 0), (fullP N F C U D).2)
/-- One sector's kind more. -/
def kndF (D : DS) (j : Nat) (L : List Int) : List Int × Int := if (D.read (j : Int)).2 ≠ 0 then (L, (D.read (j : Int)).2) else (L ++ [((kindP (D.read (j : Int)).1.data.toList).1 : Int)], 0)
def kndL (D : DS) (k : Nat) : List Int × Int := runE (kndF D) [] k
def kindsP (D : DS) : List Int × Int := if (kndL D D.L.length).2 ≠ 0 then ([], (kndL D D.L.length).2) else ((kndL D D.L.length).1, 0)

set_option maxRecDepth 20000 in
set_option maxHeartbeats 4000000 in
theorem mend_any (B p : Nat) (v1 v2 : Value) (D : DS) (N F C U : Int) (w : World) (h : PD w B p v1 v2 D) (hB : B ≤ w.heap.size) (hK : Dg.Kon w) (M : Nat) (hok : D.ok M) (hM : M + 300 ≤ 1000000) (hz : D.sz) :
    Calls Tryz.prog 34 #[.pointer (some ⟨p, 0, none⟩), geo N F C U] w fun e w' => e = .returned (.tuple #[.int .i64 (mendP N F C U D).1.1, .int .i64 (mendP N F C U D).1.2]) ∧ PP w B p v1 v2 (mendP N F C U D).2 w' := by
  obtain ⟨W, hW⟩ : ∃ W, W = w.alloc (.cells #[.int .i64 N, .int .i64 F, .int .i64 C, .int .i64 U] 23) := ⟨_, rfl⟩
  have hb0 : Below w.heap.size w W := by rw [hW]; exact (Below.refl _ w).alloc (Nat.le_refl _) _
  have hsW : W.heap.size = w.heap.size + 1 := by rw [hW]; exact World.size_alloc _ _
  have hg0 : W.heap[w.heap.size]? = some (.cells #[.int .i64 N, .int .i64 F, .int .i64 C, .int .i64 U] 23 (0, 0)) := by rw [hW]; exact heap_alloc_new w _
  have hgc : ∀ w' : World, w'.heap[w.heap.size]? = W.heap[w.heap.size]? → w'.cell? ⟨w.heap.size, 0, none⟩ = some (.int .i64 N) ∧ w'.cell? ⟨w.heap.size, 1, none⟩ = some (.int .i64 F) ∧ w'.cell? ⟨w.heap.size, 2, none⟩ = some (.int .i64 C) ∧ w'.cell? ⟨w.heap.size, 3, none⟩ = some (.int .i64 U) := fun w' e => by
    have e := e.trans hg0
    refine ⟨?_, ?_, ?_, ?_⟩ <;> (rw [cell_of_blk e]; rfl)
  obtain ⟨R, hR⟩ : ∃ R, R = mendP N F C U D := ⟨_, rfl⟩
  rw [← hR]
  unfold mendP at hR
  have hfi := Find_any B p v1 v2 D N F C U none 0 0 [] W (h.below hb0) (hK.below hb0) M hok (by omega) hz (ri_nil W) (by omega)
  have hfu := fun w' (hb : Below w.heap.size w w') => nfull_any B p v1 v2 D N F C U w' (h.below hb) (Nat.le_trans hB hb.size) (hK.below hb) M hok hM hz
  obtain ⟨L, e, hLe⟩ : ∃ L e, findP N F C U D [] = (L, e) := ⟨_, _, rfl⟩
  obtain ⟨g, f, T, hgf⟩ : ∃ g f T, fullP N F C U D = ((g, f), T) := ⟨_, _, _, rfl⟩
  have hLl : L.length ≤ 255 := by have := findP_length N F C U D []; rw [hLe] at this; exact this
  rw [hLe] at hfi
  simp only [hgf] at hfu
  rw [hLe, hgf] at hR
  dsimp only at hfi hR
  obtain ⟨s, hs⟩ : ∃ s : ByteArray, s = ⟨g.toArray⟩ := ⟨_, rfl⟩
  rw [show strV g = Value.string s from by rw [hs]; rfl] at hfu
  obtain ⟨c0, c1, c2, c3⟩ := hgc W rfl
  unfold geo at hfi hfu ⊢
  have HW := Lib.hid hW
  have HB0 := Lib.hid hb0
  have HGC := Lib.hid hgc
  have HSW := Lib.hid hsW
  have HR := Lib.hid hR
  have HP := Lib.hid h
  have HFI := Lib.hid hfi
  have HFU := Lib.hid hfu
  have HLL := Lib.hid hLl
  clear hW hb0 hgc hsW hR h hfi hfu hg0 hok hz hLe hgf hs hLl
  go_enter Tryz.func34, Tryz.ntmps34
  go_upto_region 1 with fail
  rw [← HW.out]
  go_wp2_with fail
  refine HFI.out.mono ?_
  rintro e' w1 ⟨⟨v, rfl, ho⟩, hb1⟩
  obtain ⟨a5, c5, rfl, _, _⟩ := iowns_shape ho (by have := HLL.out; omega)
  obtain ⟨c0, c1, c2, c3⟩ := HGC.out w1 (hb1.block _ (by have := HSW.out; omega))
  have HB1 := Lib.hid (HB0.out.trans (hb1.mono HB0.out.size))
  clear ho hb1 HFI
  by_cases he : e = 0
  · subst he
    have HR2 := Lib.hid (HR.out.trans (if_neg (by simp)))
    have HFU1 := Lib.hid (HFU.out w1 HB1.out)
    go_wp2_with fail
    refine HFU1.out.mono ?_
    rintro e' w2 ⟨rfl, hpp⟩
    have HPP := Lib.hid (hpp_below HB1.out hpp)
    clear hpp c0 c1 c2 c3
    by_cases hf : f = 0
    · subst hf
      have HR3 := Lib.hid (HR2.out.trans (if_neg (by simp)))
      have HL2 := Lib.hid (show L.length ≤ 255 from HLL.out)
      go_wp2
      refine bodyPost_ret (results_tmp2 rfl _ _ _) rfl ?_
      rw [HR3.out]
      exact ⟨rfl, HPP.out⟩
    · have he2 : (f == 0) = false := by simpa using hf
      have he3 : (f != 0) = true := by simp [hf]
      have HR3 := Lib.hid (HR2.out.trans (if_pos hf))
      clear hf
      go_wp2
      refine bodyPost_ret (results_tmp2 rfl _ _ _) rfl ?_
      rw [HR3.out]
      exact ⟨rfl, HPP.out⟩
  · have he2 : (e == 0) = false := by simpa using he
    have he3 : (e != 0) = true := by simp [he]
    have HR2 := Lib.hid (HR.out.trans (if_pos he))
    clear he
    go_wp2
    refine bodyPost_ret (results_tmp2 rfl _ _ _) rfl ?_
    rw [HR2.out]
    exact ⟨rfl, hpp_after HP.out HB1.out⟩

set_option maxRecDepth 20000 in
set_option maxHeartbeats 4000000 in
theorem kinds_any (B p : Nat) (v1 v2 : Value) (D : DS) (w : World) (h : PD w B p v1 v2 D) (M : Nat) (hok : D.ok M) (hM : M ≤ 1000000) :
    Calls Tryz.prog 31 #[.pointer (some ⟨p, 0, none⟩)] w fun e w' => (∃ v, e = .returned (.tuple #[v, .int .i64 (kindsP D).2]) ∧ w'.ownsRow w.heap.size 3 1 v (kindsP D).1.length (ivs (kindsP D).1)) ∧ Below w.heap.size w w' := by
  obtain ⟨i0, hi, hz0, hz1, hz2⟩ := info_parts Tryz.info3
  have hcl : D.L.length ≤ 1200 := hok.len
  obtain ⟨n, hn⟩ : ∃ n, n = D.L.length := ⟨_, rfl⟩
  obtain ⟨fu, ex, e0, e1, e2, e3, e4, e5, e6⟩ := h.cells
  obtain ⟨ac, cc, rfl, hle, hcm, _⟩ := owns_shape1 h.own1
  rw [← hn] at hle hcl e0
  have HLEN := Lib.hid (len_any p ac n cc w e0)
  have hcx : (cc : Int) ≤ 9223372036854775807 := by unfold maxLen at hcm; omega
  have hcy : (n : Int) ≤ (cc : Int) := by omega
  have hWl : D.W.length ≤ 1000000 := by have := hok.few; have := hok.did; omega
  obtain ⟨R, hR⟩ : ∃ R, R = kindsP D := ⟨_, rfl⟩
  rw [← hR]
  unfold kindsP at hR
  rw [← hn] at hR
  have HR := Lib.hid hR
  have hrd := fun w' (hb : Below w.heap.size w w') (at' : Int) => read_any B p _ v2 D at' w' (h.below hb) hWl (by have := hok.len; omega)
  have HRD := Lib.hid hrd
  clear hR h hok hrd hWl hn
  go_enter Tryz.func31, Tryz.ntmps31
  go_wp2_with fail
  refine HLEN.out.mono ?_
  rintro e w1 ⟨rfl, hw1⟩; obtain rfl := hw1.symm; clear hw1
  go_wp2
  go_loopw [4, 14] (fun s i wr => ∃ (k : Nat) (L : List Int), k ≤ n ∧ i = .int .i64 k ∧ kndL D k = (L, 0) ∧ L.length = k ∧ wr.ownsRow w.heap.size 3 1 s k (ivs L) ∧ Below w.heap.size w wr) (fun _ i _ => n - (intOf i).toNat)
  case atStart => exact ⟨0, [], by omega, rfl, rfl, rfl, World.ownsRow_nil _ _ _ _, Below.refl _ _⟩
  case round =>
    obtain ⟨k, L, hk, rfl, hL, hLk, ho, hB⟩ := hrel
    have HBB := Lib.hid hB
    have HL := Lib.hid hL
    have HLK := Lib.hid hLk
    clear hB hL hLk
    by_cases hlt : k < n
    · have i1 : (k : Int) < (n : Int) := by omega
      have hrd := HRD.out wr HBB.out (k : Int)
      obtain ⟨d, q, hdq⟩ : ∃ d q, D.read (k : Int) = (d, q) := ⟨_, _, rfl⟩
      rw [hdq] at hrd
      unfold two at hrd
      dsimp only at hrd
      have hkd := fun w => kind_any d.data.toList w
      rw [hstrV_data] at hkd
      obtain ⟨y, f, hyf⟩ : ∃ y f, kindP d.data.toList = (y, f) := ⟨_, _, rfl⟩
      rw [hyf] at hkd
      unfold kindV at hkd
      dsimp only at hkd
      have HRD2 := Lib.hid hrd
      have HKD := Lib.hid hkd
      have HX := Lib.hid (And.intro hdq hyf)
      clear hrd hkd hdq hyf
      go_wp2_with fail
      refine HRD2.out.mono ?_
      rintro e w1 ⟨rfl, hb1⟩
      have HB1 := Lib.hid (HBB.out.trans (hb1.mono HBB.out.size))
      have ho1 := owns_kept ho fun x hx => hb1.block x (ho.lt x hx).2
      clear hb1
      clear HRD2
      by_cases he : q = 0
      · subst he
        have HST := Lib.hid ((runE_next HL.out).trans (show kndF D k L = (L ++ [(y : Int)], 0) from by unfold kndF; rw [HX.out.1, if_neg (by simp), HX.out.2]))
        go_wp2_with fail
        refine (HKD.out _).mono ?_
        rintro e w2 ⟨rfl, hb2⟩
        have HB2 := Lib.hid (HB1.out.trans (hb2.mono HB1.out.size))
        have ho2 := owns_kept ho1 fun x hx => hb2.block x (ho1.lt x hx).2
        clear hb2 ho1
        go_wp2_with (at_builtin; refine wpList_append_i (o := ⟨some 34, _, _, _, _, _⟩) rfl (.tmp 31) (.tmp 33) 34 rfl w.heap.size i0 Tryz.underlying34 hi hz0 hz1 hz2 _ k _ rfl (ho2.alloc _) _ rfl rfl (by omega) (by have := HB2.out.size; simp; omega) ?_)
        intro v5 w5 h1 h2
        have hB5 := (HB2.out.alloc HB2.out.size (.cells #[.int .i64 (y : Int)] 3)).grown h2 (HB2.out.alloc HB2.out.size (.cells #[.int .i64 (y : Int)] 3)).size (fun x e => (ho2.lt x e).1)
        obtain ⟨a5, c5, rfl, _, _⟩ := iowns_shape h1 (by omega)
        have HO5 := Lib.hid h1
        have HB5 := Lib.hid hB5
        clear h1 h2 hB5 ho2
        go_wp2
        go_roundw
        case rel => exact ⟨k + 1, L ++ [(y : Int)], by omega, by go_num, HST.out, by rw [List.length_append, HLK.out]; rfl, HO5.out, HB5.out⟩
        case measure => simp [intOf]; omega
      · have he2 : (q == 0) = false := by simpa using he
        have he3 : (q != 0) = true := by simp [he]
        have HE := Lib.hid (show R = ([], q) from by
          have h1 : kndL D n = (L, q) := runE_err HL.out (show kndF D k L = (L, q) from by unfold kndF; rw [HX.out.1, if_pos he]) he hlt
          rw [HR.out, h1]; dsimp only; rw [if_pos he])
        clear he
        go_wp2
        refine bodyPost_ret (results_tmp2 rfl _ _ _) rfl ?_
        rw [HE.out]
        exact ⟨⟨.slice none 0 0, rfl, World.ownsRow_nil _ _ _ _⟩, HB1.out⟩
    · obtain rfl : k = n := by omega
      have i1 : ¬ (k : Int) < (k : Int) := by omega
      obtain ⟨a5, c5, rfl, _, _⟩ := iowns_shape ho (by omega)
      have HO := Lib.hid ho
      have HE := Lib.hid (show R = (L, 0) from by rw [HR.out, HL.out]; rfl)
      clear ho
      go_wp2
      refine bodyPost_ret (results_tmp2 rfl _ _ _) rfl ?_
      rw [HE.out]
      exact ⟨⟨_, rfl, by rw [HLK.out]; exact HO.out⟩, HBB.out⟩
end Go.Proofs.YtpkeikbiblfidaaGreatDoor

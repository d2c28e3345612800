/-
  Texts put together: N4, N5.
-/
import Derived.Test.YtpkeikbiblfidaaGreatDoorMN2
/-
  has, over, right and Find: the document's.
-/
namespace Go.Proofs.YtpkeikbiblfidaaGreatDoor
open Go.RowKit
set_option linter.unusedVariables false
set_option linter.unusedSimpArgs false

set_option maxRecDepth 20000 in
set_option maxHeartbeats 1000000 in
theorem rhas_any (a : Option Addr) (l c : Nat) (xs : List Int) (k : Nat) (w : World) (h : Ri w a l c xs) :
    Calls Tryz.prog 125 #[.slice a l c, .int .i64 k] w fun e w' => e = .returned (.bool (xs.any fun y => decide (y = (k : Int)))) ∧ Below w.heap.size w w' := by
  have hcc : (c : Int) ≤ 9223372036854775807 := by have := h.cm; unfold maxLen at this; omega
  have hnc : (l : Int) ≤ (c : Int) := by have := h.le; omega
  have hlen := h.len
  obtain ⟨R, hR⟩ : ∃ R, R = xs.any fun y => decide (y = (k : Int)) := ⟨_, rfl⟩
  rw [← hR]
  have HR := Lib.hid hR
  have HRI := Lib.hid h
  have HLEN := Lib.hid hlen
  clear hR h hlen
  go_enter Tryz.func125, Tryz.ntmps125
  go_wp2
  go_loopw [5] (fun i wr => ∃ j : Nat, j ≤ l ∧ i = .int .i64 j ∧ ((xs.take j).any fun y => decide (y = (k : Int))) = false ∧ Below w.heap.size w wr) (fun i _ => l - (intOf i).toNat)
  case atStart => exact ⟨0, by omega, rfl, by simp, Below.refl _ _⟩
  case round =>
    obtain ⟨j, hj, rfl, hz, hB⟩ := hrel
    have HZ := Lib.hid hz
    have HB := Lib.hid hB
    clear hz
    by_cases hlt : j < l
    · have i0 : (0 : Int) ≤ (j : Int) := by omega
      have i1 : (j : Int) < (l : Int) := by omega
      obtain ⟨b, off, rfl, hbl, hc⟩ := (HRI.out.later hB).at0 (by omega)
      have d0 := hc j hlt
      have hlx : j < xs.length := by have := HLEN.out; omega
      obtain ⟨x, hx⟩ : ∃ x, x = xs[j]?.getD 0 := ⟨_, rfl⟩
      rw [← hx] at d0
      have HX := Lib.hid (show xs[j] = x from by rw [hx, List.getElem?_eq_getElem hlx]; rfl)
      clear hc hx hB
      by_cases he : x = (k : Int)
      · have he2 : (x == (k : Int)) = true := by simp [he]
        have HE := Lib.hid (show R = true from by
          rw [HR.out, List.any_eq_true]
          exact ⟨xs[j], List.getElem_mem hlx, by rw [HX.out, he]; simp⟩)
        subst he
        go_wp2
        go_ret
        exact ⟨by rw [HE.out]; rfl, HB.out⟩
      · have he2 : (x == (k : Int)) = false := by simpa using he
        have HN := Lib.hid (show ((xs.take (j + 1)).any fun y => decide (y = (k : Int))) = false from by
          rw [List.take_add_one, List.any_append, HZ.out, List.getElem?_eq_getElem hlx]
          simp [HX.out, he])
        go_wp2
        go_roundw
        case rel => exact ⟨j + 1, by omega, by go_num, HN.out, HB.out⟩
        case measure => simp [intOf]; omega
    · obtain rfl : j = l := by omega
      have i1 : ¬ (j : Int) < (j : Int) := by omega
      have HE := Lib.hid (show R = false from by rw [HR.out, ← HZ.out, ← HLEN.out, List.take_length])
      clear hB
      go_wp2
      go_ret
      exact ⟨by rw [HE.out]; rfl, HB.out⟩

set_option maxRecDepth 20000 in
set_option maxHeartbeats 2000000 in
theorem over_any (N F C U : Int) (k : Nat) (a : Option Addr) (l c : Nat) (xs : List Int) (w : World) (h : Ri w a l c xs) :
    Calls Tryz.prog 84 #[geo N F C U, .int .i64 k, .slice a l c] w fun e w' => e = .returned (.bool (docM N F C U xs xs.length k)) ∧ Below w.heap.size w w' := by
  have hcc : (c : Int) ≤ 9223372036854775807 := by have := h.cm; unfold maxLen at this; omega
  have hnc : (l : Int) ≤ (c : Int) := by have := h.le; omega
  have hlen := h.len
  obtain ⟨W, hW⟩ : ∃ W, W = w.alloc (.cells #[.int .i64 N, .int .i64 F, .int .i64 C, .int .i64 U] 23) := ⟨_, rfl⟩
  have hb0 : Below w.heap.size w W := by rw [hW]; exact (Below.refl _ w).alloc (Nat.le_refl _) _
  have hsW : W.heap.size = w.heap.size + 1 := by rw [hW]; exact World.size_alloc _ _
  have hg0 : W.heap[w.heap.size]? = some (.cells #[.int .i64 N, .int .i64 F, .int .i64 C, .int .i64 U] 23 (0, 0)) := by rw [hW]; exact heap_alloc_new w _
  have hgc : ∀ w' : World, w'.heap[w.heap.size]? = W.heap[w.heap.size]? → w'.cell? ⟨w.heap.size, 0, none⟩ = some (.int .i64 N) ∧ w'.cell? ⟨w.heap.size, 1, none⟩ = some (.int .i64 F) ∧ w'.cell? ⟨w.heap.size, 2, none⟩ = some (.int .i64 C) ∧ w'.cell? ⟨w.heap.size, 3, none⟩ = some (.int .i64 U) := fun w' e => by
    have e := e.trans hg0
    refine ⟨?_, ?_, ?_, ?_⟩ <;> (rw [cell_of_blk e]; rfl)
  obtain ⟨R, hR⟩ : ∃ R, R = docM N F C U xs xs.length k := ⟨_, rfl⟩
  rw [← hR]
  have HR := Lib.hid hR
  have HRI := Lib.hid h
  have HLEN := Lib.hid hlen
  have HW := Lib.hid hW
  have HB0 := Lib.hid hb0
  have HGC := Lib.hid hgc
  have HSW := Lib.hid hsW
  clear hR h hlen hW hb0 hgc hsW hg0
  unfold geo
  go_enter Tryz.func84, Tryz.ntmps84
  go_upto_region 1 with fail
  rw [← HW.out]
  go_wp2
  go_loopw [7] (fun i wr => ∃ j : Nat, j ≤ l ∧ i = .int .i64 j ∧ docM N F C U xs j k = false ∧ Below W.heap.size W wr) (fun i _ => l - (intOf i).toNat)
  case atStart => exact ⟨0, by omega, rfl, by simp [docM], Below.refl _ _⟩
  case round =>
    obtain ⟨j, hj, rfl, hz, hB⟩ := hrel
    have HZ := Lib.hid hz
    have HB := Lib.hid hB
    clear hz
    by_cases hlt : j < l
    · have i0 : (0 : Int) ≤ (j : Int) := by omega
      have i1 : (j : Int) < (l : Int) := by omega
      obtain ⟨b, off, rfl, hbl, hc⟩ := HRI.out.at0 (by omega)
      have hlx : j < xs.length := by have := HLEN.out; omega
      obtain ⟨x, hx⟩ : ∃ x, x = xs[j]?.getD 0 := ⟨_, rfl⟩
      have hkp : ∀ w', Below wr.drew.heap.size wr.drew w' → (w'.cell? ⟨w.heap.size, 0, none⟩ = some (.int .i64 N) ∧ w'.cell? ⟨w.heap.size, 1, none⟩ = some (.int .i64 F) ∧ w'.cell? ⟨w.heap.size, 2, none⟩ = some (.int .i64 C) ∧ w'.cell? ⟨w.heap.size, 3, none⟩ = some (.int .i64 U)) ∧ w'.cell? ⟨b, off + j, none⟩ = some (.int .i64 x) := fun w' hb => by
        have hb2 : Below W.heap.size W w' := hB.drew.trans (hb.mono hB.drew.size)
        exact ⟨HGC.out w' (hb2.block _ (by have := HSW.out; omega)), by rw [hx, (HB0.out.trans (hb2.mono HB0.out.size)).cell (by exact hbl)]; exact hc j hlt⟩
      have hpa := fun w => rpath_any N F C U x w
      have hnx := docM_next (N := N) (F := F) (C := C) (U := U) hlx k
      rw [← hx] at hnx
      obtain ⟨P, hP⟩ : ∃ P, P = path N F C U x := ⟨_, rfl⟩
      rw [← hP] at hnx
      simp only [← hP] at hpa
      obtain ⟨q, hq⟩ : ∃ q, q = P.any fun y => decide (y = (k : Int)) := ⟨_, rfl⟩
      have hnx2 : docM N F C U xs (j + 1) k = q := by rw [hnx, hq]; unfold docJ; rw [HZ.out, List.take_length]; simp
      have hhs : ∀ w' B v, Lf w' B v P → Calls Tryz.prog 125 #[v, .int .i64 k] w' fun e w2 => e = .returned (.bool (P.any fun y => decide (y = (k : Int)))) ∧ Below w'.heap.size w' w2 := fun w' B v h => by
        obtain ⟨a, n, c, rfl, hr, _⟩ := h
        exact rhas_any a n c P k w' hr
      simp only [← hq] at hhs
      unfold geo at hpa
      have HPA := Lib.hid hpa
      have HHS := Lib.hid hhs
      have HKP := Lib.hid hkp
      have HNX := Lib.hid hnx2
      have hG : Below wr.drew.heap.size wr.drew wr.drew := Below.refl _ _
      clear hc hx hB hkp hpa hnx hnx2 hhs hq hP
      go_wp2_with fail
      go_region_held3 (fun w' : World => (w'.cell? ⟨w.heap.size, 0, none⟩ = some (.int .i64 N) ∧ w'.cell? ⟨w.heap.size, 1, none⟩ = some (.int .i64 F) ∧ w'.cell? ⟨w.heap.size, 2, none⟩ = some (.int .i64 C) ∧ w'.cell? ⟨w.heap.size, 3, none⟩ = some (.int .i64 U)) ∧ w'.cell? ⟨b, off + j, none⟩ = some (.int .i64 x))
        (first | exact HKP.out _ hG)
        (first
        | (go_at_call 126; with_reducible refine (HPA.out _).mono ?_; rintro r wn ⟨⟨v, rfl, hpr⟩, hb⟩; replace hG := hG.trans (hb.mono hG.size); clear hb)
        | (go_at_call 125; with_reducible refine (HHS.out _ _ _ hpr).mono ?_; rintro r wn2 ⟨rfl, hb⟩; replace hG := hG.trans (hb.mono hG.size); clear hb))
      all_goals (
        rename_i hHeld
        clear hHeld
        have HB2 := Lib.hid (HB.out.drew.trans (hG.mono HB.out.drew.size))
        clear hG hpr
        cases q with
        | true =>
          have HE := Lib.hid (show R = true from by
            rw [HR.out]
            have h1 := HNX.out
            unfold docM at h1 ⊢
            rw [List.any_eq_true] at h1 ⊢
            obtain ⟨y, hy, h2⟩ := h1
            exact ⟨y, by rw [List.take_length]; exact List.mem_of_mem_take hy, h2⟩)
          go_wp2
          go_ret
          exact ⟨by rw [HE.out]; rfl, HB0.out.trans (HB2.out.mono HB0.out.size)⟩
        | false =>
          go_wp2
          go_roundw
          case rel => exact ⟨j + 1, by omega, by go_num, HNX.out, HB2.out⟩
          case measure => simp [intOf]; omega)
    · obtain rfl : j = l := by omega
      have i1 : ¬ (j : Int) < (j : Int) := by omega
      have HE := Lib.hid (show R = false from by rw [HR.out, ← HZ.out, ← HLEN.out])
      clear hB
      go_wp2
      go_ret
      exact ⟨by rw [HE.out]; rfl, HB0.out.trans (HB.out.mono HB0.out.size)⟩

/-- What the document's right tells. -/
def rgtB (N F C U : Int) (D : DS) (k : Nat) : Bool :=
  if (getP N F C U D k).2 ≠ 0 then false else if (k : Int) < N then decide (leafB (D.read (dataAt N F C U k)).1 = (⟨(getP N F C U D k).1.toArray⟩ : ByteArray)) else
  if (kidL N F C U D (children N F C U k) (children N F C U k).length).2 ≠ 0 then true else decide (nodeB (kidL N F C U D (children N F C U k) (children N F C U k).length).1 = (⟨(getP N F C U D k).1.toArray⟩ : ByteArray))
theorem rgt_wrong {N F C U : Int} {D : DS} {k : Nat} (h : (k : Int) < N → (D.read (dataAt N F C U k)).2 = 0) : rgtB N F C U D k = !wrongB N F C U D k := by
  unfold rgtB wrongB expR
  split
  · rfl
  · split
    · rename_i h1
      rw [h h1]
      by_cases h3 : leafB (D.read (dataAt N F C U k)).1 = (⟨(getP N F C U D k).1.toArray⟩ : ByteArray)
      · simp [h3]
      · have h4 : ¬ (⟨(getP N F C U D k).1.toArray⟩ : ByteArray) = leafB (D.read (dataAt N F C U k)).1 := fun e => h3 e.symm
        simp [h3, h4]
    · split
      · rename_i h2
        simp [h2]
      · by_cases h3 : nodeB (kidL N F C U D (children N F C U k) (children N F C U k).length).1 = (⟨(getP N F C U D k).1.toArray⟩ : ByteArray)
        · simp [h3]
        · have h4 : ¬ (⟨(getP N F C U D k).1.toArray⟩ : ByteArray) = nodeB (kidL N F C U D (children N F C U k) (children N F C U k).length).1 := fun e => h3 e.symm
          simp [h3, h4]

set_option maxRecDepth 20000 in
set_option maxHeartbeats 4000000 in
theorem rgt_any (B p : Nat) (v1 v2 : Value) (D : DS) (N F C U : Int) (k : Nat) (w : World) (h : RD w B p v1 v2 D) (M : Nat) (hok : D.ok M) (hM : M ≤ 1000000) (hz : D.sz) :
    Calls Tryz.prog 85 #[.pointer (some ⟨p, 0, none⟩), geo N F C U, .int .i64 k] w fun e w' => e = .returned (.bool (rgtB N F C U D k)) ∧ Below w.heap.size w w' := by
  obtain ⟨W, hW⟩ : ∃ W, W = w.alloc (.cells #[.int .i64 N, .int .i64 F, .int .i64 C, .int .i64 U] 23) := ⟨_, rfl⟩
  have hb0 : Below w.heap.size w W := by rw [hW]; exact (Below.refl _ w).alloc (Nat.le_refl _) _
  have hsW : W.heap.size = w.heap.size + 1 := by rw [hW]; exact World.size_alloc _ _
  have hg0 : W.heap[w.heap.size]? = some (.cells #[.int .i64 N, .int .i64 F, .int .i64 C, .int .i64 U] 23 (0, 0)) := by rw [hW]; exact heap_alloc_new w _
  have hgc : ∀ w' : World, w'.heap[w.heap.size]? = W.heap[w.heap.size]? → w'.cell? ⟨w.heap.size, 0, none⟩ = some (.int .i64 N) ∧ w'.cell? ⟨w.heap.size, 1, none⟩ = some (.int .i64 F) ∧ w'.cell? ⟨w.heap.size, 2, none⟩ = some (.int .i64 C) ∧ w'.cell? ⟨w.heap.size, 3, none⟩ = some (.int .i64 U) := fun w' e => by
    have e := e.trans hg0
    refine ⟨?_, ?_, ?_, ?_⟩ <;> (rw [cell_of_blk e]; rfl)
  obtain ⟨R, hR⟩ : ∃ R, R = rgtB N F C U D k := ⟨_, rfl⟩
  rw [← hR]
  unfold rgtB at hR
  have hgt := rnget_any B p v1 v2 D N F C U k W (h.below hb0) M hok hM
  obtain ⟨r, e, hre⟩ : ∃ r e, getP N F C U D k = (r, e) := ⟨_, _, rfl⟩
  rw [hre] at hgt hR
  dsimp only at hgt hR
  obtain ⟨s, hs⟩ : ∃ s : ByteArray, s = ⟨r.toArray⟩ := ⟨_, rfl⟩
  rw [show strV r = Value.string s from by rw [hs]; rfl] at hgt
  rw [← hs] at hR
  obtain ⟨c0, c1, c2, c3⟩ := hgc W rfl
  have hWl : D.W.length ≤ 1000000 := by have := hok.few; have := hok.did; omega
  have HWL := Lib.hid hWl
  unfold geo at hgt ⊢
  have HGT := Lib.hid hgt
  have HW := Lib.hid hW
  have HB0 := Lib.hid hb0
  have HGC := Lib.hid hgc
  have HSW := Lib.hid hsW
  have HR := Lib.hid hR
  have HP := Lib.hid (h.below hb0)
  have HOK := Lib.hid hok
  have HZ := Lib.hid hz
  clear hW hb0 hgc hsW hg0 hR h hok hz hgt hre hs hWl
  go_enter Tryz.func85, Tryz.ntmps85
  go_upto_region 1 with fail
  rw [← HW.out]
  go_wp2_with fail
  refine HGT.out.mono ?_
  rintro e' w1 ⟨rfl, hb1⟩
  have HB1 := Lib.hid hb1
  obtain ⟨c0, c1, c2, c3⟩ := HGC.out w1 (hb1.block _ (by have := HSW.out; omega))
  clear hb1 HGT
  by_cases he : e = 0
  · subst he
    have HR2 := Lib.hid (HR.out.trans (if_neg (by simp)))
    by_cases hlt : (k : Int) < N
    · have HR3 := Lib.hid (HR2.out.trans (if_pos hlt))
      have hdt := fun w => rdata_any N F C U (k : Int) w
      obtain ⟨at', hat⟩ : ∃ x, x = dataAt N F C U (k : Int) := ⟨_, rfl⟩
      obtain ⟨d, q, hdq⟩ : ∃ d q, D.read at' = (d, q) := ⟨_, _, rfl⟩
      have hR4 := HR3.out
      rw [← hat, hdq] at hR4
      simp only [← hat] at hdt
      have hd64 : d.size ≤ 64 := by have := HZ.out.read64 at'; rw [hdq] at this; exact this
      have hrd := fun w' (hb : Below W.heap.size W w') => rread_any B p v1 v2 D at' w' (HP.out.below hb) HWL.out (by have := HOK.out.len; omega)
      simp only [hdq] at hrd
      unfold two at hrd
      dsimp only at hrd hR4
      unfold geo at hdt
      have hlf := fun w' => Dg.rleaf_any d w' (by omega)
      rw [show Dg.strV (Dg.dig (0 :: d.data.toList)) = Value.string (leafB d) from rfl] at hlf
      obtain ⟨z, hz⟩ : ∃ z, z = leafB d := ⟨_, rfl⟩
      rw [← hz] at hlf hR4
      obtain ⟨V1, hV1⟩ : ∃ V, V = Value.string z := ⟨_, rfl⟩
      obtain ⟨V2, hV2⟩ : ∃ V, V = Value.string s := ⟨_, rfl⟩
      have hgd := fun x y w => guard_txt .eql x y z s w
      have heq := fun w => eql_txt z s w
      rw [← hR4] at heq
      simp only [← hV1, ← hV2] at hgd heq hlf ⊢
      have HDT := Lib.hid hdt
      have HRD := Lib.hid hrd
      have HLF := Lib.hid hlf
      clear hdt hrd hlf hat hdq hd64 hz hV1 hV2 hR4
      go_wp2_with fail
      refine (HDT.out _).mono ?_
      rintro e w2 ⟨rfl, hb2⟩
      have HB2 := Lib.hid (HB1.out.trans (hb2.mono HB1.out.size))
      have HRD2 := Lib.hid (HRD.out w2 HB2.out)
      clear hb2 HRD HDT
      go_wp2_with fail
      refine HRD2.out.mono ?_
      rintro e w3 ⟨rfl, hw3⟩; obtain rfl := hw3.symm; clear hw3 HRD2
      go_wp2_with fail
      refine (HLF.out _).mono ?_
      rintro e w4 ⟨rfl, hb4⟩
      have HB4 := Lib.hid (HB0.out.trans ((HB2.out.trans (hb4.mono HB2.out.size)).mono HB0.out.size))
      clear hb4
      go_wp2
      go_ret
      exact ⟨rfl, HB4.out⟩
    · have HR3 := Lib.hid (HR2.out.trans (if_neg hlt))
      obtain ⟨i0, hi, hz0, hz1, hz2⟩ := info_parts Tryz.info9
      have hch := rchildren_any N F C U k w1
      have hlen := children_len N F C U k
      obtain ⟨ks, hks⟩ : ∃ ks, ks = children N F C U k := ⟨_, rfl⟩
      have hR4 := HR3.out
      rw [← hks] at hch hlen hR4
      unfold geo at hch
      have HCH := Lib.hid hch
      have HR4 := Lib.hid hR4
      clear hch hR4 hks
      go_wp2_with fail
      refine HCH.out.mono ?_
      rintro e w2 ⟨⟨v, rfl, ac, nc, cc, rfl, hri, hlow⟩, hb2⟩
      have hnc := hri.len
      have hcm := hri.cm
      have hccx : (cc : Int) ≤ 9223372036854775807 := by unfold maxLen at hcm; omega
      have hncx : (nc : Int) ≤ (cc : Int) := by have := hri.le; omega
      subst hnc
      have HRI := Lib.hid hri
      have HB2 := Lib.hid (HB1.out.trans (hb2.mono HB1.out.size))
      clear hri hlow hb2 HCH c0 c1 c2 c3 hcm
      go_wp2
      go_loopw [11, 13] (fun s i wr => ∃ (j : Nat) (L : List ByteArray), j ≤ ks.length ∧ i = .int .i64 j ∧ kidL N F C U D ks j = (L, 0) ∧ L.length = j ∧ wr.ownsRow w2.heap.size 9 1 s j (strs L) ∧ Below w2.heap.size w2 wr) (fun _ i _ => ks.length - (intOf i).toNat)
      case atStart => exact ⟨0, [], by omega, rfl, rfl, rfl, World.ownsRow_nil _ _ _ _, Below.refl _ _⟩
      case round =>
        obtain ⟨j, L, hj, rfl, hL, hLj, ho, hB⟩ := hrel
        have hBW : Below W.heap.size W wr := HB2.out.trans (hB.mono HB2.out.size)
        have HL := Lib.hid hL
        have HLJ := Lib.hid hLj
        have HBB := Lib.hid hB
        have HBW := Lib.hid hBW
        by_cases hlt2 : j < ks.length
        · have i0' : (0 : Int) ≤ (j : Int) := by omega
          have i1 : (j : Int) < (ks.length : Int) := by omega
          obtain ⟨b, off, rfl, hbl, hc⟩ := HRI.out.at0 (by omega)
          obtain ⟨x, hx⟩ : ∃ x, x = ks[j]?.getD 0 := ⟨_, rfl⟩
          have hkp : ∀ w', Below wr.drew.heap.size wr.drew w' → (w'.cell? ⟨w.heap.size, 0, none⟩ = some (.int .i64 N) ∧ w'.cell? ⟨w.heap.size, 1, none⟩ = some (.int .i64 F) ∧ w'.cell? ⟨w.heap.size, 2, none⟩ = some (.int .i64 C) ∧ w'.cell? ⟨w.heap.size, 3, none⟩ = some (.int .i64 U)) ∧ w'.cell? ⟨b, off + j, none⟩ = some (.int .i64 x) := fun w' hb => by
            have hb2 : Below W.heap.size W w' := hBW.drew.trans (hb.mono hBW.drew.size)
            have hb3 : Below w2.heap.size w2 w' := hB.drew.trans (hb.mono hB.drew.size)
            exact ⟨HGC.out w' (hb2.block _ (by have := HSW.out; omega)), by rw [hx, hb3.cell (by exact hbl)]; exact hc j hlt2⟩
          have hgt := fun w' (hb : Below W.heap.size W w') => rnget_any B p v1 v2 D N F C U x w' (HP.out.below hb) M HOK.out hM
          obtain ⟨r, e, hre⟩ : ∃ r e, getP N F C U D x = (r, e) := ⟨_, _, rfl⟩
          simp only [hre] at hgt
          obtain ⟨t, ht⟩ : ∃ s : ByteArray, s = ⟨r.toArray⟩ := ⟨_, rfl⟩
          simp only [show strV r = Value.string t from by rw [ht]; rfl] at hgt
          unfold geo at hgt
          have HGT := Lib.hid hgt
          have HX := Lib.hid (And.intro (show getP N F C U D (ks[j]?.getD 0) = (r, e) from by rw [← hx]; exact hre) ht)
          have HKP := Lib.hid hkp
          have hG : Below wr.drew.heap.size wr.drew wr.drew := Below.refl _ _
          clear hc hx hgt hre ht hB hBW hL hLj hkp
          go_wp2_with fail
          go_region_held3 (fun w' : World => (w'.cell? ⟨w.heap.size, 0, none⟩ = some (.int .i64 N) ∧ w'.cell? ⟨w.heap.size, 1, none⟩ = some (.int .i64 F) ∧ w'.cell? ⟨w.heap.size, 2, none⟩ = some (.int .i64 C) ∧ w'.cell? ⟨w.heap.size, 3, none⟩ = some (.int .i64 U)) ∧ w'.cell? ⟨b, off + j, none⟩ = some (.int .i64 x))
            (first | exact HKP.out _ hG)
            (first
            | (go_at_call 47; with_reducible refine (HGT.out _ (Below.trans HBW.out.drew (Below.mono hG HBW.out.drew.size))).mono ?_; rintro r wn ⟨rfl, hb⟩; replace hG := hG.trans (hb.mono hG.size); clear hb))
          all_goals (
            rename_i hHeld
            clear hHeld
            have HB3 := Lib.hid (HBB.out.drew.trans (hG.mono HBB.out.drew.size))
            have HBW3 := Lib.hid (HBW.out.drew.trans (hG.mono HBW.out.drew.size))
            have ho3 := owns_kept (owns_drew ho) fun q hq => hG.block q ((owns_drew ho).lt q hq).2
            clear hG ho HGT
            by_cases he : e = 0
            · subst he
              have HX2 := Lib.hid ((runE_next HL.out).trans (show kidF N F C U D ks j L = (L ++ [t], 0) from by rw [HX.out.2]; exact kidF_ok HX.out.1))
              go_wp2_with (at_builtin; refine wpList_append_s (o := ⟨some 65, _, _, _, _, _⟩) rfl (.tmp 62) (.tmp 64) 49 rfl w2.heap.size i0 Tryz.underlying49 hi hz0 hz1 hz2 _ j _ rfl (ho3.alloc _) _ rfl rfl (by omega) (by have := HB3.out.size; simp; omega) ?_)
              intro v5 w5 h1 h2 _
              have hB5 := (HB3.out.alloc HB3.out.size (.cells #[.string t] 9)).grown h2 (HB3.out.alloc HB3.out.size (.cells #[.string t] 9)).size (fun x e => (ho3.lt x e).1)
              obtain ⟨a5, c5, rfl, _, _⟩ := towns_shape h1
              have HO5 := Lib.hid h1
              have HB5 := Lib.hid hB5
              clear h1 h2 hB5 ho3
              go_wp2
              go_roundw
              case rel => exact ⟨j + 1, L ++ [t], by omega, by go_num, HX2.out, by rw [List.length_append, HLJ.out]; rfl, HO5.out, HB5.out⟩
              case measure => simp [intOf]; omega
            · have he2 : (e == 0) = false := by simpa using he
              have he3 : (e != 0) = true := by simp [he]
              have HE := Lib.hid (show R = true from by
                have h1 : kidL N F C U D ks ks.length = (L, e) := runE_err HL.out (kidF_bad HX.out.1 he) he hlt2
                rw [HR4.out, h1]; dsimp only; rw [if_pos he])
              clear he
              go_wp2
              go_ret
              exact ⟨by rw [HE.out]; rfl, HB0.out.trans (HBW3.out.mono HB0.out.size)⟩)
        · obtain rfl : j = ks.length := by omega
          have i1 : ¬ ((ks.length : Nat) : Int) < ((ks.length : Nat) : Int) := by omega
          obtain ⟨a5, c5, rfl, hrs, _⟩ := towns_shape ho
          have hsm : ∀ i, i < L.length → (lAt L i).size ≤ 1000 := fun i hi => by
            have h1 := kidL_small N F C U D ks ks.length
            rw [hL] at h1
            have : lAt L i ∈ L := by unfold lAt; rw [List.getElem?_eq_getElem hi]; exact List.getElem_mem hi
            have := h1 _ this
            omega
          have hjs := jn_small L 1000 hsm ks.length (by omega)
          have hnd := Dg.rnode_any a5 ks.length c5 (lAt L) wr hrs.strs (by omega) (by omega)
          have hres : Value.string (nodeB L) = Dg.strV (Dg.dig (1 :: Dg.jn (lAt L) ks.length)) := by unfold nodeB; rw [hLj]; rfl
          rw [← hres] at hnd
          have hR5 : R = decide (nodeB L = s) := by rw [HR4.out, hL]; rfl
          obtain ⟨z, hz⟩ : ∃ z, z = nodeB L := ⟨_, rfl⟩
          rw [← hz] at hnd hR5
          obtain ⟨V1, hV1⟩ : ∃ V, V = Value.string z := ⟨_, rfl⟩
          obtain ⟨V2, hV2⟩ : ∃ V, V = Value.string s := ⟨_, rfl⟩
          have hgd := fun x y w => guard_txt .eql x y z s w
          have heq := fun w => eql_txt z s w
          rw [← hR5] at heq
          simp only [← hV1, ← hV2] at hgd heq hnd ⊢
          have HND := Lib.hid hnd
          clear hsm hjs hnd hrs ho hB hres hL hLj hBW hz hV1 hV2 hR5
          go_wp2_with fail
          refine HND.out.mono ?_
          rintro e w6 ⟨rfl, hb6⟩
          have HB6 := Lib.hid (HB0.out.trans ((HBW.out.trans (hb6.mono HBW.out.size)).mono HB0.out.size))
          clear hb6
          go_wp2
          go_ret
          exact ⟨rfl, HB6.out⟩
  · have he2 : (e == 0) = false := by simpa using he
    have he3 : (e != 0) = true := by simp [he]
    have HFIN := Lib.hid (HR.out.trans (if_pos he))
    have HB2 := Lib.hid (HB0.out.trans (HB1.out.mono HB0.out.size))
    clear he
    go_wp2
    go_ret
    exact ⟨by rw [HFIN.out]; rfl, HB2.out⟩

theorem rdE_ok {D : DS} : ∀ {K : Nat}, (rdE D K).2 = 0 → ∀ j, j < K → (D.read (6 + (j : Int))).2 = 0
  | 0, _, j, hj => by omega
  | K + 1, h, j, hj => by
    by_cases h0 : (rdE D K).2 = 0
    · have e1 : rdE D (K + 1) = ((), (D.read (6 + (K : Int))).2) := runE_next (t := ()) (Prod.ext rfl h0)
      rcases Nat.lt_or_ge j K with h2 | h2
      · exact rdE_ok h0 j h2
      · obtain rfl : j = K := by omega
        rw [e1] at h; exact h
    · have e1 : rdE D (K + 1) = rdE D K := runE_stop h0 (Nat.le_succ _)
      rw [e1] at h; exact absurd h h0
theorem rgt_fine {N F C U : Int} {D : DS} (hok : okG N F C U) (h : (rdE D (N.toNat + nodes N F C U)).2 = 0) (k : Nat) : rgtB N F C U D k = !wrongB N F C U D k := by
  refine rgt_wrong fun hk => ?_
  unfold dataAt
  rw [if_pos ⟨hok, by omega, hk⟩]
  exact rdE_ok h k (by omega)

set_option maxRecDepth 20000 in
set_option maxHeartbeats 8000000 in
theorem rFind_any (B p : Nat) (v1 v2 : Value) (D : DS) (N F C U : Int) (a : Option Addr) (l c : Nat) (xs : List Int) (w : World) (h : RD w B p v1 v2 D) (M : Nat) (hok : D.ok M) (hM : M ≤ 1000000) (hz : D.sz) (hri : Ri w a l c xs) (hl : l ≤ 1000) :
    Calls Tryz.prog 30 #[.pointer (some ⟨p, 0, none⟩), geo N F C U, .slice a l c] w fun e w' => (∃ v, e = .returned (.tuple #[v, .int .i64 (findP N F C U D xs).2]) ∧ w'.ownsRow w.heap.size 3 1 v (findP N F C U D xs).1.length (ivs (findP N F C U D xs).1)) ∧ Below w.heap.size w w' := by
  obtain ⟨i0, hi, hz0, hz1, hz2⟩ := info_parts Tryz.info3
  obtain ⟨W, hW⟩ : ∃ W, W = w.alloc (.cells #[.int .i64 N, .int .i64 F, .int .i64 C, .int .i64 U] 23) := ⟨_, rfl⟩
  have hb0 : Below w.heap.size w W := by rw [hW]; exact (Below.refl _ w).alloc (Nat.le_refl _) _
  have hsW : W.heap.size = w.heap.size + 1 := by rw [hW]; exact World.size_alloc _ _
  have hg0 : W.heap[w.heap.size]? = some (.cells #[.int .i64 N, .int .i64 F, .int .i64 C, .int .i64 U] 23 (0, 0)) := by rw [hW]; exact heap_alloc_new w _
  have hgc : ∀ w' : World, w'.heap[w.heap.size]? = W.heap[w.heap.size]? → w'.cell? ⟨w.heap.size, 0, none⟩ = some (.int .i64 N) ∧ w'.cell? ⟨w.heap.size, 1, none⟩ = some (.int .i64 F) ∧ w'.cell? ⟨w.heap.size, 2, none⟩ = some (.int .i64 C) ∧ w'.cell? ⟨w.heap.size, 3, none⟩ = some (.int .i64 U) := fun w' e => by
    have e := e.trans hg0
    refine ⟨?_, ?_, ?_, ?_⟩ <;> (rw [cell_of_blk e]; rfl)
  obtain ⟨R, hR⟩ : ∃ R, R = findP N F C U D xs := ⟨_, rfl⟩
  rw [← hR]
  unfold findP at hR
  have hgr := fun w => grright_any N F C U w
  obtain ⟨c0, c1, c2, c3⟩ := hgc W rfl
  have hWl : D.W.length ≤ 1000000 := by have := hok.few; have := hok.did; omega
  have HWL := Lib.hid hWl
  have HW := Lib.hid hW
  have HB0 := Lib.hid hb0
  have HGC := Lib.hid hgc
  have HSW := Lib.hid hsW
  have HR := Lib.hid hR
  have HP := Lib.hid h
  have HRI := Lib.hid hri
  have HOK := Lib.hid hok
  have HZ := Lib.hid hz
  clear hb0 hW h hz hok hgc hsW hg0 hri hR hWl
  unfold geo at hgr ⊢
  by_cases hg : okG N F C U
  · have hd : decide (okG N F C U) = true := by simpa using hg
    simp only [hd] at hgr
    have HGR := Lib.hid hgr
    have hN := hg
    obtain ⟨N1, N2, -⟩ := hN
    have hnl := nodes_le N F C U
    have hnd := fun w => rnodes_any N F C U w
    obtain ⟨n, hn⟩ : ∃ n, n = nodes N F C U := ⟨_, rfl⟩
    have hR2 := HR.out.trans (if_neg (by simpa using hg))
    obtain ⟨K, hKd⟩ : ∃ K, K = N.toNat + n := ⟨_, rfl⟩
    rw [← hn, ← hKd] at hR2
    rw [← hn] at hnl
    simp only [← hn] at hnd
    unfold geo at hnd
    have HND := Lib.hid hnd
    have HR2 := Lib.hid hR2
    have HG := Lib.hid hg
    have HN := Lib.hid hn
    have HKB := Lib.hid (show K ≤ 400 by omega)
    have hKw : IntKind.i64.wrap (N + (n : Int)) = (K : Int) := by rw [show N + (n : Int) = (K : Int) from by omega]; exact IntWalk.i64_in _ (by omega)
    have HKD := Lib.hid hKd
    have HNL := Lib.hid hnl
    clear hgr hd hg hR2 hn hnd N1 N2 HR hKd hnl
    go_enter Tryz.func30, Tryz.ntmps30
    go_upto_region 1 with fail
    rw [← HW.out]
    go_wp2_with fail
    refine (HGR.out _).mono ?_
    rintro e w1 ⟨rfl, hb1⟩
    obtain ⟨c0, c1, c2, c3⟩ := HGC.out w1 (hb1.block _ (by have := HSW.out; omega))
    have HB1 := Lib.hid hb1
    clear hb1 HGR
    go_wp2_with fail
    refine (HND.out _).mono ?_
    rintro e w2 ⟨rfl, hb2⟩
    have HB2 := Lib.hid (HB1.out.trans (hb2.mono HB1.out.size))
    clear hb2 c0 c1 c2 c3 HND
    go_wp2
    go_loopw [10] (fun i wr => ∃ k : Nat, k ≤ K ∧ i = .int .i64 k ∧ rdE D k = ((), 0) ∧ wr = w2) (fun i _ => K - (intOf i).toNat)
    case atStart => exact ⟨0, by omega, rfl, rfl, rfl⟩
    case round =>
      obtain ⟨k, hk, rfl, hz, hwr⟩ := hrel
      subst hwr
      have HZZ := Lib.hid hz
      obtain ⟨c0, c1, c2, c3⟩ := HGC.out wr (HB2.out.block _ (by have := HSW.out; omega))
      clear hz
      by_cases hlt : k < K
      · have i1 : (k : Int) < (K : Int) := by omega
        have wr1 : IntKind.i64.wrap ((k : Int) + 1) = (k : Int) + 1 := IntWalk.i64_in _ (by have := HKB.out; omega)
        have hrd := rread_any B p v1 v2 D (6 + (k : Int)) wr (HP.out.below (HB0.out.trans (HB2.out.mono HB0.out.size))) HWL.out (by have := HOK.out.len; omega)
        obtain ⟨d, q, hdq⟩ : ∃ d q, D.read (6 + (k : Int)) = (d, q) := ⟨_, _, rfl⟩
        rw [hdq] at hrd
        unfold two at hrd
        dsimp only at hrd
        obtain ⟨vk, hvk⟩ : ∃ x, x = 6 + (k : Int) := ⟨_, rfl⟩
        have hwrap : IntKind.i64.wrap (6 + (k : Int)) = vk := by rw [hvk]; exact IntWalk.i64_in _ (by have := HKB.out; omega)
        rw [← hvk] at hrd
        have HRD := Lib.hid hrd
        have HST := Lib.hid ((runE_next HZZ.out).trans (show (((), (D.read (6 + (k : Int))).2) : Unit × Int) = ((), q) from by rw [hdq]))
        clear hrd hdq hvk
        go_wp2_with fail
        refine HRD.out.mono ?_
        rintro e w3 ⟨rfl, hw3⟩; obtain rfl := hw3.symm; clear hw3 HRD
        by_cases he : q = 0
        · subst he
          go_wp2
          go_roundw
          case rel => exact ⟨k + 1, by omega, by go_num, HST.out, by first | rfl | trivial⟩
          case measure => simp [intOf]; omega
        · have he2 : (q == 0) = false := by simpa using he
          have he3 : (q != 0) = true := by simp [he]
          have HE := Lib.hid (show R = ([], q) from by
            have h1 : rdE D K = rdE D (k + 1) := runE_stop (k := k + 1) (by rw [show runE (fun j _ => ((), (D.read (6 + (j : Int))).2)) () (k + 1) = ((), q) from HST.out]; exact he) (by omega)
            have h2 : rdE D K = ((), q) := h1.trans HST.out
            rw [HR2.out, h2]; dsimp only; rw [if_pos he])
          clear he
          go_wp2
          refine bodyPost_ret (results_tmp2 rfl _ _ _) rfl ?_
          rw [HE.out]
          exact ⟨⟨.slice none 0 0, rfl, World.ownsRow_nil _ _ _ _⟩, HB0.out.trans (HB2.out.mono HB0.out.size)⟩
      · obtain rfl : k = K := by omega
        have i1 : ¬ ((k : Int) < (k : Int)) := by omega
        have HE := Lib.hid (show R = (findK N F C U D (docM N F C U xs xs.length) n, 0) from by rw [HR2.out, HZZ.out]; rfl)
        have hfine := fun k => rgt_fine (D := D) HG.out (by rw [← HN.out, ← HKD.out, HZZ.out]) k
        have hov := fun w' (hb : Below w.heap.size w w') (k : Nat) => over_any N F C U k a l c xs w' (HRI.out.later hb)
        have hrg := fun w' (hb : Below w.heap.size w w') (k : Nat) => rgt_any B p v1 v2 D N F C U k w' (HP.out.below hb) M HOK.out hM HZ.out
        simp only [hfine] at hrg
        unfold geo at hov hrg
        have HOV := Lib.hid hov
        have HRG := Lib.hid hrg
        obtain ⟨m, hm⟩ : ∃ m, m = docM N F C U xs xs.length := ⟨_, rfl⟩
        rw [← hm] at HE HOV
        obtain ⟨wq, hwq⟩ : ∃ wq, wq = wr := ⟨_, rfl⟩
        have HBq := Lib.hid (show Below W.heap.size W wq from by rw [hwq]; exact HB2.out)
        rw [← hwq] at c0 ⊢
        clear hfine hov hrg hm c1 c2 c3 hwq
        go_wp2
        clear c0
        go_loopw [8, 13] (fun s i wr => ∃ k : Nat, k ≤ n ∧ i = .int .i64 k ∧ wr.ownsRow wq.heap.size 3 1 s (findK N F C U D m k).length (ivs (findK N F C U D m k)) ∧ Below wq.heap.size wq wr) (fun _ i _ => n - (intOf i).toNat)
        case atStart => exact ⟨0, by omega, rfl, World.ownsRow_nil _ _ _ _, Below.refl _ _⟩
        case round =>
          obtain ⟨k, hk, rfl, ho, hBq⟩ := hrel
          have hBW : Below W.heap.size W wr := HBq.out.trans (hBq.mono HBq.out.size)
          have HBX := Lib.hid hBq
          clear hBq
          have hBw : Below w.heap.size w wr := HB0.out.trans (hBW.mono HB0.out.size)
          have hln := findK_length N F C U D m k
          by_cases hlt : k < n
          · have i2 : (k : Int) < (n : Int) := by omega
            have wr1 : IntKind.i64.wrap ((k : Int) + 1) = (k : Int) + 1 := IntWalk.i64_in _ (by have := HNL.out; omega)
            obtain ⟨c0, c1, c2, c3⟩ := HGC.out wr (hBW.block _ (by have := HSW.out; omega))
            have hex := HOV.out wr hBw k
            have hnx := findK_next N F C U D m k
            obtain ⟨r, hr⟩ : ∃ r, r = m k := ⟨_, rfl⟩
            rw [← hr] at hex hnx
            obtain ⟨L, hL⟩ : ∃ L, L = findK N F C U D m k := ⟨_, rfl⟩
            rw [← hL] at ho hnx hln
            have hwr := fun w' (hb : Below w.heap.size w w') => HRG.out w' hb k
            obtain ⟨q, hq⟩ : ∃ q, q = wrongB N F C U D k := ⟨_, rfl⟩
            rw [← hq] at hnx
            simp only [← hq] at hwr
            have HEX2 := Lib.hid hex
            have HWR2 := Lib.hid hwr
            have HNX := Lib.hid hnx
            have HBW := Lib.hid hBw
            have HBQ := Lib.hid hBW
            clear hex hwr hnx hBW hBw hr hq hL
            go_wp2_with fail
            refine HEX2.out.mono ?_
            rintro e w5 ⟨rfl, hb5⟩
            have HBW5 := Lib.hid (HBW.out.trans (hb5.mono HBW.out.size))
            have HBQ5 := Lib.hid (HBQ.out.trans (hb5.mono HBQ.out.size))
            have HBX5 := Lib.hid (HBX.out.trans (hb5.mono HBX.out.size))
            have ho2 := owns_kept ho fun x hx => hb5.block x (ho.lt x hx).2
            obtain ⟨c0, c1, c2, c3⟩ := HGC.out w5 (HBQ5.out.block _ (by have := HSW.out; omega))
            clear hb5 ho HEX2
            cases r with
            | true =>
              have HN2 := Lib.hid (show findK N F C U D m (k + 1) = L from by rw [HNX.out]; simp)
              go_wp2
              go_roundw
              case rel => exact ⟨k + 1, by omega, by go_num, by rw [HN2.out]; exact ho2, HBX5.out⟩
              case measure => simp [intOf]; omega
            | false =>
              have HWR3 := Lib.hid (HWR2.out w5 HBW5.out)
              go_wp2_with fail
              refine HWR3.out.mono ?_
              rintro e w6 ⟨rfl, hb6⟩
              have HBQ6 := Lib.hid (HBQ5.out.trans (hb6.mono HBQ5.out.size))
              have HBX6 := Lib.hid (HBX5.out.trans (hb6.mono HBX5.out.size))
              have ho3 := owns_kept ho2 fun x hx => hb6.block x (ho2.lt x hx).2
              clear hb6 ho2 HWR3 c0 c1 c2 c3
              cases q with
              | false =>
                have HN2 := Lib.hid (show findK N F C U D m (k + 1) = L from by rw [HNX.out]; simp)
                go_wp2
                go_roundw
                case rel => exact ⟨k + 1, by omega, by go_num, by rw [HN2.out]; exact ho3, HBX6.out⟩
                case measure => simp [intOf]; omega
              | true =>
                have HN2 := Lib.hid (show findK N F C U D m (k + 1) = L ++ [(k : Int)] from by rw [HNX.out]; simp)
                have HLL := Lib.hid hln
                go_wp2_with (at_builtin; refine wpList_append_i (o := ⟨some 57, _, _, _, _, _⟩) rfl (.tmp 54) (.tmp 56) 34 rfl wq.heap.size i0 Tryz.underlying34 hi hz0 hz1 hz2 _ L.length _ rfl (ho3.alloc _) _ rfl rfl (by have := HLL.out; have := HNL.out; omega) (by have := HBX6.out.size; simp; omega) ?_)
                intro v5 w7 h1 h2
                rw [← HN2.out, show L.length + 1 = (findK N F C U D m (k + 1)).length from by rw [HN2.out]; simp] at h1
                have hB7 := (HBX6.out.alloc HBX6.out.size (.cells #[.int .i64 (k : Int)] 3)).grown h2 (HBX6.out.alloc HBX6.out.size (.cells #[.int .i64 (k : Int)] 3)).size (fun x e => (ho3.lt x e).1)
                have hll := findK_length N F C U D m (k + 1)
                obtain ⟨a5, c5, rfl, _, _⟩ := iowns_shape h1 (by have := HNL.out; omega)
                have HO5 := Lib.hid h1
                have HB7 := Lib.hid hB7
                clear h1 h2 hB7 ho3 hll
                go_wp2
                go_roundw
                case rel => exact ⟨k + 1, by omega, by go_num, HO5.out, HB7.out⟩
                case measure => simp [intOf]; omega
          · obtain rfl : k = n := by omega
            have i2 : ¬ (k : Int) < (k : Int) := by omega
            obtain ⟨a5, c5, rfl, _, _⟩ := iowns_shape ho (by have := HNL.out; omega)
            have HO := Lib.hid (owns_low ho (show w.heap.size ≤ wq.heap.size from Nat.le_trans HB0.out.size HBq.out.size))
            have HBF := Lib.hid hBw
            clear ho hBW hBw
            go_wp2
            refine bodyPost_ret (results_tmp2 rfl _ _ _) rfl ?_
            rw [HE.out]
            exact ⟨⟨_, rfl, HO.out⟩, HBF.out⟩
  · have hd : decide (okG N F C U) = false := by simpa using hg
    simp only [hd] at hgr
    have HGR := Lib.hid hgr
    have HE := Lib.hid (HR.out.trans (if_pos hg))
    clear hgr hd hg HR
    go_enter Tryz.func30, Tryz.ntmps30
    go_upto_region 1 with fail
    rw [← HW.out]
    go_wp2_with fail
    refine (HGR.out _).mono ?_
    rintro e wa ⟨rfl, hba⟩
    have HBA := Lib.hid (HB0.out.trans (hba.mono HB0.out.size))
    clear hba
    go_wp2
    refine bodyPost_ret (results_tmp2 rfl _ _ _) rfl ?_
    rw [HE.out]
    exact ⟨⟨.slice none 0 0, rfl, World.ownsRow_nil _ _ _ _⟩, HBA.out⟩
end Go.Proofs.YtpkeikbiblfidaaGreatDoor
/-
  Mend and Kinds: the document's.
-/
namespace Go.Proofs.YtpkeikbiblfidaaGreatDoor
open Go.RowKit
set_option linter.unusedVariables false
set_option linter.unusedSimpArgs false


set_option maxRecDepth 20000 in
set_option maxHeartbeats 4000000 in
theorem rmend_any (B p : Nat) (v1 v2 : Value) (D : DS) (N F C U : Int) (w : World) (h : RD w B p v1 v2 D) (hB : B ≤ w.heap.size) (M : Nat) (hok : D.ok M) (hM : M + 300 ≤ 1000000) (hz : D.sz) :
    Calls Tryz.prog 35 #[.pointer (some ⟨p, 0, none⟩), geo N F C U] w fun e w' => e = .returned (.tuple #[.int .i64 (mendP N F C U D).1.1, .int .i64 (mendP N F C U D).1.2]) ∧ RP w B p v1 v2 (mendP N F C U D).2 w' := by
  obtain ⟨W, hW⟩ : ∃ W, W = w.alloc (.cells #[.int .i64 N, .int .i64 F, .int .i64 C, .int .i64 U] 23) := ⟨_, rfl⟩
  have hb0 : Below w.heap.size w W := by rw [hW]; exact (Below.refl _ w).alloc (Nat.le_refl _) _
  have hsW : W.heap.size = w.heap.size + 1 := by rw [hW]; exact World.size_alloc _ _
  have hg0 : W.heap[w.heap.size]? = some (.cells #[.int .i64 N, .int .i64 F, .int .i64 C, .int .i64 U] 23 (0, 0)) := by rw [hW]; exact heap_alloc_new w _
  have hgc : ∀ w' : World, w'.heap[w.heap.size]? = W.heap[w.heap.size]? → w'.cell? ⟨w.heap.size, 0, none⟩ = some (.int .i64 N) ∧ w'.cell? ⟨w.heap.size, 1, none⟩ = some (.int .i64 F) ∧ w'.cell? ⟨w.heap.size, 2, none⟩ = some (.int .i64 C) ∧ w'.cell? ⟨w.heap.size, 3, none⟩ = some (.int .i64 U) := fun w' e => by
    have e := e.trans hg0
    refine ⟨?_, ?_, ?_, ?_⟩ <;> (rw [cell_of_blk e]; rfl)
  obtain ⟨R, hR⟩ : ∃ R, R = mendP N F C U D := ⟨_, rfl⟩
  rw [← hR]
  unfold mendP at hR
  have hfi := rFind_any B p v1 v2 D N F C U none 0 0 [] W (h.below hb0) M hok (by omega) hz (ri_nil W) (by omega)
  have hfu := fun w' (hb : Below w.heap.size w w') => rnfull_any B p v1 v2 D N F C U w' (h.below hb) (Nat.le_trans hB hb.size) M hok hM hz
  obtain ⟨L, e, hLe⟩ : ∃ L e, findP N F C U D [] = (L, e) := ⟨_, _, rfl⟩
  obtain ⟨g, f, T, hgf⟩ : ∃ g f T, fullP N F C U D = ((g, f), T) := ⟨_, _, _, rfl⟩
  have hLl : L.length ≤ 255 := by have := findP_length N F C U D []; rw [hLe] at this; exact this
  rw [hLe] at hfi
  simp only [hgf] at hfu
  rw [hLe, hgf] at hR
  dsimp only at hfi hR
  obtain ⟨s, hs⟩ : ∃ s : ByteArray, s = ⟨g.toArray⟩ := ⟨_, rfl⟩
  rw [show strV g = Value.string s from by rw [hs]; rfl] at hfu
  obtain ⟨c0, c1, c2, c3⟩ := hgc W rfl
  unfold geo at hfi hfu ⊢
  have HW := Lib.hid hW
  have HB0 := Lib.hid hb0
  have HGC := Lib.hid hgc
  have HSW := Lib.hid hsW
  have HR := Lib.hid hR
  have HP := Lib.hid h
  have HFI := Lib.hid hfi
  have HFU := Lib.hid hfu
  have HLL := Lib.hid hLl
  clear hW hb0 hgc hsW hR h hfi hfu hg0 hok hz hLe hgf hs hLl
  go_enter Tryz.func35, Tryz.ntmps35
  go_upto_region 1 with fail
  rw [← HW.out]
  go_wp2_with fail
  refine HFI.out.mono ?_
  rintro e' w1 ⟨⟨v, rfl, ho⟩, hb1⟩
  obtain ⟨a5, c5, rfl, _, _⟩ := iowns_shape ho (by have := HLL.out; omega)
  obtain ⟨c0, c1, c2, c3⟩ := HGC.out w1 (hb1.block _ (by have := HSW.out; omega))
  have HB1 := Lib.hid (HB0.out.trans (hb1.mono HB0.out.size))
  clear ho hb1 HFI
  by_cases he : e = 0
  · subst he
    have HR2 := Lib.hid (HR.out.trans (if_neg (by simp)))
    have HFU1 := Lib.hid (HFU.out w1 HB1.out)
    go_wp2_with fail
    refine HFU1.out.mono ?_
    rintro e' w2 ⟨rfl, hpp⟩
    have HPP := Lib.hid (hrp_below HB1.out hpp)
    clear hpp c0 c1 c2 c3
    by_cases hf : f = 0
    · subst hf
      have HR3 := Lib.hid (HR2.out.trans (if_neg (by simp)))
      have HL2 := Lib.hid (show L.length ≤ 255 from HLL.out)
      go_wp2
      refine bodyPost_ret (results_tmp2 rfl _ _ _) rfl ?_
      rw [HR3.out]
      exact ⟨rfl, HPP.out⟩
    · have he2 : (f == 0) = false := by simpa using hf
      have he3 : (f != 0) = true := by simp [hf]
      have HR3 := Lib.hid (HR2.out.trans (if_pos hf))
      clear hf
      go_wp2
      refine bodyPost_ret (results_tmp2 rfl _ _ _) rfl ?_
      rw [HR3.out]
      exact ⟨rfl, HPP.out⟩
  · have he2 : (e == 0) = false := by simpa using he
    have he3 : (e != 0) = true := by simp [he]
    have HR2 := Lib.hid (HR.out.trans (if_pos he))
    clear he
    go_wp2
    refine bodyPost_ret (results_tmp2 rfl _ _ _) rfl ?_
    rw [HR2.out]
    exact ⟨rfl, hrp_after HP.out HB1.out⟩

set_option maxRecDepth 20000 in
set_option maxHeartbeats 4000000 in
theorem rkinds_any (B p : Nat) (v1 v2 : Value) (D : DS) (w : World) (h : RD w B p v1 v2 D) (M : Nat) (hok : D.ok M) (hM : M ≤ 1000000) :
    Calls Tryz.prog 32 #[.pointer (some ⟨p, 0, none⟩)] w fun e w' => (∃ v, e = .returned (.tuple #[v, .int .i64 (kindsP D).2]) ∧ w'.ownsRow w.heap.size 3 1 v (kindsP D).1.length (ivs (kindsP D).1)) ∧ Below w.heap.size w w' := by
  obtain ⟨i0, hi, hz0, hz1, hz2⟩ := info_parts Tryz.info3
  have hcl : D.L.length ≤ 1200 := hok.len
  obtain ⟨n, hn⟩ : ∃ n, n = D.L.length := ⟨_, rfl⟩
  obtain ⟨e0, e1, e2, e3, e4, e5⟩ := h.cells
  obtain ⟨ac, cc, rfl, hle, hcm, _⟩ := owns_shape1 h.own1
  rw [← hn] at hle hcl e0
  have hcx : (cc : Int) ≤ 9223372036854775807 := by unfold maxLen at hcm; omega
  have hcy : (n : Int) ≤ (cc : Int) := by omega
  have hWl : D.W.length ≤ 1000000 := by have := hok.few; have := hok.did; omega
  obtain ⟨R, hR⟩ : ∃ R, R = kindsP D := ⟨_, rfl⟩
  rw [← hR]
  unfold kindsP at hR
  rw [← hn] at hR
  have HR := Lib.hid hR
  have hrd := fun w' (hb : Below w.heap.size w w') (at' : Int) => rread_any B p _ v2 D at' w' (h.below hb) hWl (by have := hok.len; omega)
  have HRD := Lib.hid hrd
  have HKC := Lib.hid (fun w' (hb : Below w.heap.size w w') => ((hb.cell (p := ⟨p, 0, none⟩) h.lt).trans e0))
  clear hR h hok hrd hWl hn
  go_enter Tryz.func32, Tryz.ntmps32
  go_wp2
  go_loopw [4, 5] (fun s i wr => ∃ (k : Nat) (L : List Int), k ≤ n ∧ i = .int .i64 k ∧ kndL D k = (L, 0) ∧ L.length = k ∧ wr.ownsRow w.heap.size 3 1 s k (ivs L) ∧ Below w.heap.size w wr) (fun _ i _ => n - (intOf i).toNat)
  case atStart => exact ⟨0, [], by omega, rfl, rfl, rfl, World.ownsRow_nil _ _ _ _, Below.refl _ _⟩
  case round =>
    obtain ⟨k, L, hk, rfl, hL, hLk, ho, hB⟩ := hrel
    have HBB := Lib.hid hB
    have HL := Lib.hid hL
    have HLK := Lib.hid hLk
    clear hB hL hLk
    have d0 := (HKC.out wr HBB.out)
    by_cases hlt : k < n
    · have i1 : (k : Int) < (n : Int) := by omega
      have hrd := HRD.out wr HBB.out (k : Int)
      obtain ⟨d, q, hdq⟩ : ∃ d q, D.read (k : Int) = (d, q) := ⟨_, _, rfl⟩
      rw [hdq] at hrd
      unfold two at hrd
      dsimp only at hrd
      have hkd := fun w => rkind_any d.data.toList w
      rw [hstrV_data] at hkd
      obtain ⟨y, f, hyf⟩ : ∃ y f, kindP d.data.toList = (y, f) := ⟨_, _, rfl⟩
      rw [hyf] at hkd
      unfold kindV at hkd
      dsimp only at hkd
      have HRD2 := Lib.hid hrd
      have HKD := Lib.hid hkd
      have HX := Lib.hid (And.intro hdq hyf)
      clear hrd hkd hdq hyf
      go_wp2_with fail
      refine HRD2.out.mono ?_
      rintro e w1 ⟨rfl, hw1⟩; obtain rfl := hw1.symm; clear hw1
      have HB1 := Lib.hid HBB.out
      have ho1 := ho
      obtain ⟨w1, hw1⟩ : ∃ w1, w1 = wr := ⟨_, rfl⟩
      obtain rfl := hw1
      clear HRD2
      by_cases he : q = 0
      · subst he
        have HST := Lib.hid ((runE_next HL.out).trans (show kndF D k L = (L ++ [(y : Int)], 0) from by unfold kndF; rw [HX.out.1, if_neg (by simp), HX.out.2]))
        go_wp2_with fail
        refine (HKD.out _).mono ?_
        rintro e w2 ⟨rfl, hb2⟩
        have HB2 := Lib.hid (HB1.out.trans (hb2.mono HB1.out.size))
        have ho2 := owns_kept ho1 fun x hx => hb2.block x (ho1.lt x hx).2
        clear hb2 ho1
        go_wp2_with (at_builtin; refine wpList_append_i (o := ⟨some 36, _, _, _, _, _⟩) rfl (.tmp 33) (.tmp 35) 34 rfl w.heap.size i0 Tryz.underlying34 hi hz0 hz1 hz2 _ k _ rfl (ho2.alloc _) _ rfl rfl (by omega) (by have := HB2.out.size; simp; omega) ?_)
        intro v5 w5 h1 h2
        have hB5 := (HB2.out.alloc HB2.out.size (.cells #[.int .i64 (y : Int)] 3)).grown h2 (HB2.out.alloc HB2.out.size (.cells #[.int .i64 (y : Int)] 3)).size (fun x e => (ho2.lt x e).1)
        obtain ⟨a5, c5, rfl, _, _⟩ := iowns_shape h1 (by omega)
        have HO5 := Lib.hid h1
        have HB5 := Lib.hid hB5
        clear h1 h2 hB5 ho2
        go_wp2
        go_roundw
        case rel => exact ⟨k + 1, L ++ [(y : Int)], by omega, by go_num, HST.out, by rw [List.length_append, HLK.out]; rfl, HO5.out, HB5.out⟩
        case measure => simp [intOf]; omega
      · have he2 : (q == 0) = false := by simpa using he
        have he3 : (q != 0) = true := by simp [he]
        have HE := Lib.hid (show R = ([], q) from by
          have h1 : kndL D n = (L, q) := runE_err HL.out (show kndF D k L = (L, q) from by unfold kndF; rw [HX.out.1, if_pos he]) he hlt
          rw [HR.out, h1]; dsimp only; rw [if_pos he])
        clear he
        go_wp2
        refine bodyPost_ret (results_tmp2 rfl _ _ _) rfl ?_
        rw [HE.out]
        exact ⟨⟨.slice none 0 0, rfl, World.ownsRow_nil _ _ _ _⟩, HB1.out⟩
    · obtain rfl : k = n := by omega
      have i1 : ¬ (k : Int) < (k : Int) := by omega
      obtain ⟨a5, c5, rfl, _, _⟩ := iowns_shape ho (by omega)
      have HO := Lib.hid ho
      have HE := Lib.hid (show R = (L, 0) from by rw [HR.out, HL.out]; rfl)
      clear ho
      go_wp2
      refine bodyPost_ret (results_tmp2 rfl _ _ _) rfl ?_
      rw [HE.out]
      exact ⟨⟨_, rfl, by rw [HLK.out]; exact HO.out⟩, HBB.out⟩
end Go.Proofs.YtpkeikbiblfidaaGreatDoor

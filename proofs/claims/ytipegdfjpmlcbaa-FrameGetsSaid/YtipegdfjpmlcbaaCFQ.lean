/-
  The document's body of a frame with digests, and of any frame.
-/
import Derived.Test.YtipegdfjpmlcbaaCFP
namespace Go.Proofs.Ytipegdfjpmlcbaa
open Go.RowKit
set_option linter.unusedVariables false
set_option linter.unusedSimpArgs false

def is32 (d : List UInt8) : Bool := decide (d.length = 32)
theorem take_all (li : List (List UInt8)) (k : Nat) (h : k < li.length) : (li.take (k + 1)).all is32 = ((li.take k).all is32 && is32 (li[k]?.getD [])) ∧ (li.take (k + 1)).flatten = (li.take k).flatten ++ (li[k]?.getD []) := by
  have e : li.take (k + 1) = li.take k ++ [li[k]] := by rw [List.take_add_one, List.getElem?_eq_getElem h]; rfl
  rw [e, List.getElem?_eq_getElem h, List.all_append, List.flatten_append]
  simp only [Option.getD_some]
  exact ⟨by rw [show [li[k]].all is32 = is32 li[k] from by simp], by rw [show [li[k]].flatten = li[k] from by simp]⟩
theorem all_false (li : List (List UInt8)) (k : Nat) (h : (li.take k).all is32 = false) : li.all is32 = false := by
  have := List.take_append_drop k li
  rw [← this, List.all_append, h]
  rfl
theorem ok4 (se ep sq vo : Nat) (nn ff ix co : Int) (da : List UInt8) (li : List (List UInt8)) : bodyOK (⟨4, se, ep, sq, vo, nn, ff, ix, co, da, li⟩ : FR) = (decide (0 ≤ ix ∧ ix < 65536) && (decide (li.length ≤ 4) && li.all is32)) := rfl
theorem str_inj {xs ys : List UInt8} {A : ByteArray} (h : strV xs = .string A) (h2 : strV ys = .string A) : xs = ys := by
  unfold strV at h h2
  injection h with h
  injection h2 with h2
  rw [← h2] at h
  injection h with h
  exact List.toArray_inj h

set_option maxRecDepth 20000 in
set_option maxHeartbeats 1000000 in
theorem rbody_4f (se ep sq vo : Nat) (nn ff ix co : Int) (da : List UInt8) (li : List (List UInt8)) (a : Option Addr) (n c : Nat) (w : World) (hT : Tx w a n c li) (hv : vo < 4294967296) (hd : da.length ≤ 100000) (hl : ∀ k, ((li.take k).flatten).length ≤ 100000) (hr1 : decide (0 ≤ ix ∧ ix < 65536) = false) :
    Calls Try.prog 19 #[frV (⟨4, se, ep, sq, vo, nn, ff, ix, co, da, li⟩ : FR) (.slice a n c)] w fun e w' => RB (⟨4, se, ep, sq, vo, nn, ff, ix, co, da, li⟩ : FR) w e w' := by
  obtain ⟨sd, hsd⟩ := str_of da
  obtain ⟨C, hC⟩ : ∃ C : Array Value, C = #[.int .i64 4, .int .u64 (se : Int), .int .u64 (ep : Int), .int .u32 (sq : Int), .int .u32 (vo : Int), .int .i64 nn, .int .i64 ff, .int .i64 ix, .int .i64 co, strV da, .slice a n c] := ⟨_, rfl⟩
  obtain ⟨W0, hW0⟩ : ∃ x, x = w.alloc (.cells C 26) := ⟨_, rfl⟩
  have hb0 : Below w.heap.size w W0 := by rw [hW0]; exact (Below.refl _ _).alloc (Nat.le_refl _) _
  have hbx : W0.heap[w.heap.size]? = some (.cells C 26 (0, 0)) := by rw [hW0]; exact heap_alloc_new _ _
  have hlt : w.heap.size < W0.heap.size := lt_of_block hbx
  have hcl : ∀ w', Below W0.heap.size W0 w' → ∀ i, w'.cell? ⟨w.heap.size, i, none⟩ = C[i]? := fun w' hb i => by rw [cell_of_blk ((hb.block w.heap.size hlt).trans hbx)]
  have k0 : W0.cell? ⟨w.heap.size, 0, none⟩ = some (.int .i64 4) := by rw [hcl W0 (Below.refl _ _), hC]; rfl
  have HCL := Lib.hid hcl
  have HSD := Lib.hid hsd
  have HC := Lib.hid hC
  have HW0 := Lib.hid hW0
  have HB0 := Lib.hid hb0
  have HBD := Lib.hid ((Below.refl W0.heap.size W0).drew)
  have HT := Lib.hid hT
  have HL := Lib.hid hl
  have HD := Lib.hid hd
  have hwc := wrap_wv
  have HDS := Lib.hid (show sd.size ≤ 100000 by rw [sd_size hsd]; exact hd)
  have HKP := Lib.hid (show ∀ w', Below W0.heap.size W0 w' → (fun w' : World => w'.cell? ⟨w.heap.size, 7, none⟩ = some (.int .i64 ix) ∧ w'.cell? ⟨w.heap.size, 10, none⟩ = some (.slice a n c)) w' from fun w' hb => ⟨by rw [hcl w' hb, hC]; rfl, by rw [hcl w' hb, hC]; rfl⟩)
  have HST := Lib.hid (HKP.out _ (Below.refl _ _))
  have hcx : (c : Int) ≤ 9223372036854775807 := by have := hT.cm; unfold maxLen at this; omega
  have hnc : (n : Int) ≤ 9223372036854775807 := by have := hT.le; omega
  have HLN := Lib.hid hT.len
  have HT0 := Lib.hid (hT.later hb0)
  obtain ⟨t1, ht1⟩ := str_of (enc (wv ix) 2)
  obtain ⟨t2, ht2⟩ := str_of (enc (wv (n : Int)) 1)
  have hu1 := add_str ht1 ht2
  have z1 : t1.size = 2 := by rw [sd_size ht1]; simp [enc_length]
  have z2 : t2.size = 1 := by rw [sd_size ht2]; simp [enc_length]
  have HX1 := Lib.hid (text_w 2 ix (by omega) (by omega) t1 ht1)
  have HX2 := Lib.hid (text_w 1 (n : Int) (by omega) (by omega) t2 ht2)
  have HU1 := Lib.hid hu1
  have hn := rfnum2_any ix
  rw [hr1] at hn
  have HN1 := Lib.hid hn
  have HZ := Lib.hid (show (t1 ++ t2).size = 3 by rw [ByteArray.size_append]; omega)
  have HOB := Lib.hid (show bodyOK (⟨4, se, ep, sq, vo, nn, ff, ix, co, da, li⟩ : FR) = (false && li.all is32) from by rw [ok4, hr1]; simp)
  clear hC hW0 hb0 hbx hlt hcl hT hl hd hsd ht1 ht2 hu1 hn hr1 hv
  unfold frV
  simp only
  go_enter Try.func19, Try.ntmps19
  go_upto_region 1 with fail
  rw [← HC.out, ← HW0.out]
  go_wp2_with fail
  go_region_held3 (fun w' : World => w'.cell? ⟨w.heap.size, 7, none⟩ = some (.int .i64 ix) ∧ w'.cell? ⟨w.heap.size, 10, none⟩ = some (.slice a n c)) (first | exact HST.out | exact HKP.out _ hb4 | exact HKP.out _ hb5) (first
    | (go_at_call 21; refine (HX1.out _).mono ?_; rintro r w4 ⟨rfl, hb⟩; have hb4 := HBD.out.trans (hb.mono HBD.out.size); clear hb)
    | (go_at_call 21; refine (HX2.out _).mono ?_; rintro r w5 ⟨rfl, hb⟩; have hb5 := hb4.trans (hb.mono hb4.size); clear hb))
  all_goals (
    rename_i hHeld
    obtain ⟨c7, c10⟩ := hHeld
    have HB5 := Lib.hid hb5
    clear hb4 hb5
    go_wp2_with fail
    refine (HN1.out _).mono ?_
    rintro r w7 ⟨rfl, h⟩
    obtain rfl := h.symm
    clear h
    go_wp2
    go_loopw [4, 5, 6] (fun s o i wr => ∃ k : Nat, k ≤ n ∧ i = .int .i64 k ∧ ∃ (X : ByteArray) (bb : Bool), s = .string X ∧ o = .bool bb ∧ strV ((enc (wv ix) 2 ++ enc (wv (n : Int)) 1) ++ (li.take k).flatten) = .string X ∧ bb = (false && (li.take k).all is32) ∧ Below W0.heap.size W0 wr) (fun _ _ i _ => n - (intOf i).toNat)
    case atStart => exact ⟨0, by omega, rfl, t1 ++ t2, false, rfl, rfl, by rw [← HU1.out]; simp, by simp, HB5.out⟩
    case round =>
      obtain ⟨k, hk, rfl, X, bb, rfl, rfl, hX, hbb, hB⟩ := hrel
      have d10 : wr.cell? ⟨w.heap.size, 10, none⟩ = some (.slice a n c) := by rw [HCL.out _ hB, HC.out]; rfl
      by_cases hlt : k < n
      · have i1 : (0 : Int) ≤ (k : Int) := by omega
        have i2 : (k : Int) < (n : Int) := by omega
        cases bb with
        | false =>
          have HE := Lib.hid hB
          have HX := Lib.hid hX
          have HBB := Lib.hid hbb
          clear hB hX hbb hlt
          go_wp2
          refine bodyPost_ret (results_tmp2 rfl _ _ _) rfl ?_
          refine ⟨_, false, by rw [HX.out]; rfl, ?_, (fun h => absurd h (by simp)), HB0.out.trans (HE.out.mono HB0.out.size)⟩
          rw [HOB.out]
          rfl
        | true =>
          obtain ⟨tb, toff, rfl, htl, htc⟩ := (HT0.out.later (hB.mono (Nat.le_refl _))).at0 (by omega)
          have d0 := htc k hlt
          obtain ⟨ds, hds⟩ : ∃ d : List UInt8, d = li[k]?.getD [] := ⟨_, rfl⟩
          rw [← hds] at d0
          obtain ⟨DS, hDS⟩ := str_of ds
          rw [hDS] at d0
          have hlk : k < li.length := by have := HLN.out; omega
          obtain ⟨q1, q2⟩ := take_all li k hlk
          rw [← hds] at q1 q2
          have hl1 := HL.out (k + 1)
          rw [q2, List.length_append] at hl1
          have hzX : X.size = 3 + ((li.take k).flatten).length := by rw [sd_size hX]; simp [enc_length]; omega
          have hzD : DS.size = ds.length := sd_size hDS
          have s1 : ¬ 9223372036854775807 < X.size + DS.size := by omega
          have hX2 := add_str hX hDS
          rw [List.append_assoc, ← q2] at hX2
          obtain ⟨r3, hr3⟩ : ∃ r, r = decide (DS.size = 32) := ⟨_, rfl⟩
          have hn3 := drright_any DS wr (by omega)
          rw [← hr3] at hn3
          have HN3 := Lib.hid hn3
          have HX2 := Lib.hid hX2
          have HB3 := Lib.hid (show r3 = (false && (li.take (k + 1)).all is32) by
            rw [q1, ← Bool.and_assoc, ← hbb, Bool.true_and, hr3, hzD]; rfl)
          have HB := Lib.hid hB
          clear hX hbb hX2 hn3 hr3 hzX hzD hl1 q1 q2 hDS hds htc hB
          go_wp2_with fail
          refine HN3.out.mono ?_
          rintro r w9 ⟨rfl, h⟩
          obtain rfl := h.symm
          clear h
          go_wp2
          go_roundw
          case rel => exact ⟨k + 1, by omega, by go_num, X ++ DS, r3, rfl, rfl, HX2.out, HB3.out, HB.out⟩
          case measure => simp [intOf]; omega
      · obtain rfl : k = n := by omega
        have htk : li.take k = li := List.take_of_length_le (by have := HLN.out; omega)
        rw [htk] at hX hbb
        have HE := Lib.hid hB
        have HX := Lib.hid hX
        have HBB := Lib.hid hbb
        clear hB hX hbb hlt htk
        go_wp2
        refine bodyPost_ret (results_tmp2 rfl _ _ _) rfl ?_
        refine ⟨_, bb, by rw [HX.out]; rfl, by rw [HOB.out]; exact HBB.out, (fun h => ?_), HB0.out.trans (HE.out.mono HB0.out.size)⟩
        unfold bodyP
        have e2 : wv (k : Int) = li.length := by rw [HLN.out]; exact wv_nat (by omega)
        simp [e2])

set_option maxRecDepth 20000 in
set_option maxHeartbeats 1000000 in
theorem rbody_4tf (se ep sq vo : Nat) (nn ff ix co : Int) (da : List UInt8) (li : List (List UInt8)) (a : Option Addr) (n c : Nat) (w : World) (hT : Tx w a n c li) (hv : vo < 4294967296) (hd : da.length ≤ 100000) (hl : ∀ k, ((li.take k).flatten).length ≤ 100000) (hr1 : decide (0 ≤ ix ∧ ix < 65536) = true) (hr2 : ¬ n ≤ 4) :
    Calls Try.prog 19 #[frV (⟨4, se, ep, sq, vo, nn, ff, ix, co, da, li⟩ : FR) (.slice a n c)] w fun e w' => RB (⟨4, se, ep, sq, vo, nn, ff, ix, co, da, li⟩ : FR) w e w' := by
  obtain ⟨sd, hsd⟩ := str_of da
  obtain ⟨C, hC⟩ : ∃ C : Array Value, C = #[.int .i64 4, .int .u64 (se : Int), .int .u64 (ep : Int), .int .u32 (sq : Int), .int .u32 (vo : Int), .int .i64 nn, .int .i64 ff, .int .i64 ix, .int .i64 co, strV da, .slice a n c] := ⟨_, rfl⟩
  obtain ⟨W0, hW0⟩ : ∃ x, x = w.alloc (.cells C 26) := ⟨_, rfl⟩
  have hb0 : Below w.heap.size w W0 := by rw [hW0]; exact (Below.refl _ _).alloc (Nat.le_refl _) _
  have hbx : W0.heap[w.heap.size]? = some (.cells C 26 (0, 0)) := by rw [hW0]; exact heap_alloc_new _ _
  have hlt : w.heap.size < W0.heap.size := lt_of_block hbx
  have hcl : ∀ w', Below W0.heap.size W0 w' → ∀ i, w'.cell? ⟨w.heap.size, i, none⟩ = C[i]? := fun w' hb i => by rw [cell_of_blk ((hb.block w.heap.size hlt).trans hbx)]
  have k0 : W0.cell? ⟨w.heap.size, 0, none⟩ = some (.int .i64 4) := by rw [hcl W0 (Below.refl _ _), hC]; rfl
  have HCL := Lib.hid hcl
  have HSD := Lib.hid hsd
  have HC := Lib.hid hC
  have HW0 := Lib.hid hW0
  have HB0 := Lib.hid hb0
  have HBD := Lib.hid ((Below.refl W0.heap.size W0).drew)
  have HT := Lib.hid hT
  have HL := Lib.hid hl
  have HD := Lib.hid hd
  have hwc := wrap_wv
  have HDS := Lib.hid (show sd.size ≤ 100000 by rw [sd_size hsd]; exact hd)
  have HKP := Lib.hid (show ∀ w', Below W0.heap.size W0 w' → (fun w' : World => w'.cell? ⟨w.heap.size, 7, none⟩ = some (.int .i64 ix) ∧ w'.cell? ⟨w.heap.size, 10, none⟩ = some (.slice a n c)) w' from fun w' hb => ⟨by rw [hcl w' hb, hC]; rfl, by rw [hcl w' hb, hC]; rfl⟩)
  have HST := Lib.hid (HKP.out _ (Below.refl _ _))
  have hcx : (c : Int) ≤ 9223372036854775807 := by have := hT.cm; unfold maxLen at this; omega
  have hnc : (n : Int) ≤ 9223372036854775807 := by have := hT.le; omega
  have HLN := Lib.hid hT.len
  have HT0 := Lib.hid (hT.later hb0)
  obtain ⟨t1, ht1⟩ := str_of (enc (wv ix) 2)
  obtain ⟨t2, ht2⟩ := str_of (enc (wv (n : Int)) 1)
  have hu1 := add_str ht1 ht2
  have z1 : t1.size = 2 := by rw [sd_size ht1]; simp [enc_length]
  have z2 : t2.size = 1 := by rw [sd_size ht2]; simp [enc_length]
  have HX1 := Lib.hid (text_w 2 ix (by omega) (by omega) t1 ht1)
  have HX2 := Lib.hid (text_w 1 (n : Int) (by omega) (by omega) t2 ht2)
  have HU1 := Lib.hid hu1
  have hn := rfnum2_any ix
  rw [hr1] at hn
  have HN1 := Lib.hid hn
  have HZ := Lib.hid (show (t1 ++ t2).size = 3 by rw [ByteArray.size_append]; omega)
  have HOB := Lib.hid (show bodyOK (⟨4, se, ep, sq, vo, nn, ff, ix, co, da, li⟩ : FR) = (false && li.all is32) from by rw [ok4, hr1, decide_eq_false (by rw [hT.len]; exact hr2)]; simp)
  have n4 : ¬ (n : Int) ≤ 4 := by omega
  clear hr2
  clear hC hW0 hb0 hbx hlt hcl hT hl hd hsd ht1 ht2 hu1 hn hr1 hv
  unfold frV
  simp only
  go_enter Try.func19, Try.ntmps19
  go_upto_region 1 with fail
  rw [← HC.out, ← HW0.out]
  go_wp2_with fail
  go_region_held3 (fun w' : World => w'.cell? ⟨w.heap.size, 7, none⟩ = some (.int .i64 ix) ∧ w'.cell? ⟨w.heap.size, 10, none⟩ = some (.slice a n c)) (first | exact HST.out | exact HKP.out _ hb4 | exact HKP.out _ hb5) (first
    | (go_at_call 21; refine (HX1.out _).mono ?_; rintro r w4 ⟨rfl, hb⟩; have hb4 := HBD.out.trans (hb.mono HBD.out.size); clear hb)
    | (go_at_call 21; refine (HX2.out _).mono ?_; rintro r w5 ⟨rfl, hb⟩; have hb5 := hb4.trans (hb.mono hb4.size); clear hb))
  all_goals (
    rename_i hHeld
    obtain ⟨c7, c10⟩ := hHeld
    have HB5 := Lib.hid hb5
    clear hb4 hb5
    go_wp2_with fail
    refine (HN1.out _).mono ?_
    rintro r w7 ⟨rfl, h⟩
    obtain rfl := h.symm
    clear h
    go_wp2
    go_loopw [4, 5, 6] (fun s o i wr => ∃ k : Nat, k ≤ n ∧ i = .int .i64 k ∧ ∃ (X : ByteArray) (bb : Bool), s = .string X ∧ o = .bool bb ∧ strV ((enc (wv ix) 2 ++ enc (wv (n : Int)) 1) ++ (li.take k).flatten) = .string X ∧ bb = (false && (li.take k).all is32) ∧ Below W0.heap.size W0 wr) (fun _ _ i _ => n - (intOf i).toNat)
    case atStart => exact ⟨0, by omega, rfl, t1 ++ t2, false, rfl, (by congr 1; exact decide_eq_false (by omega)), by rw [← HU1.out]; simp, by simp, HB5.out⟩
    case round =>
      obtain ⟨k, hk, rfl, X, bb, rfl, rfl, hX, hbb, hB⟩ := hrel
      have d10 : wr.cell? ⟨w.heap.size, 10, none⟩ = some (.slice a n c) := by rw [HCL.out _ hB, HC.out]; rfl
      by_cases hlt : k < n
      · have i1 : (0 : Int) ≤ (k : Int) := by omega
        have i2 : (k : Int) < (n : Int) := by omega
        cases bb with
        | false =>
          have HE := Lib.hid hB
          have HX := Lib.hid hX
          have HBB := Lib.hid hbb
          clear hB hX hbb hlt
          go_wp2
          refine bodyPost_ret (results_tmp2 rfl _ _ _) rfl ?_
          refine ⟨_, false, by rw [HX.out]; rfl, ?_, (fun h => absurd h (by simp)), HB0.out.trans (HE.out.mono HB0.out.size)⟩
          rw [HOB.out]
          rfl
        | true =>
          obtain ⟨tb, toff, rfl, htl, htc⟩ := (HT0.out.later (hB.mono (Nat.le_refl _))).at0 (by omega)
          have d0 := htc k hlt
          obtain ⟨ds, hds⟩ : ∃ d : List UInt8, d = li[k]?.getD [] := ⟨_, rfl⟩
          rw [← hds] at d0
          obtain ⟨DS, hDS⟩ := str_of ds
          rw [hDS] at d0
          have hlk : k < li.length := by have := HLN.out; omega
          obtain ⟨q1, q2⟩ := take_all li k hlk
          rw [← hds] at q1 q2
          have hl1 := HL.out (k + 1)
          rw [q2, List.length_append] at hl1
          have hzX : X.size = 3 + ((li.take k).flatten).length := by rw [sd_size hX]; simp [enc_length]; omega
          have hzD : DS.size = ds.length := sd_size hDS
          have s1 : ¬ 9223372036854775807 < X.size + DS.size := by omega
          have hX2 := add_str hX hDS
          rw [List.append_assoc, ← q2] at hX2
          obtain ⟨r3, hr3⟩ : ∃ r, r = decide (DS.size = 32) := ⟨_, rfl⟩
          have hn3 := drright_any DS wr (by omega)
          rw [← hr3] at hn3
          have HN3 := Lib.hid hn3
          have HX2 := Lib.hid hX2
          have HB3 := Lib.hid (show r3 = (false && (li.take (k + 1)).all is32) by
            rw [q1, ← Bool.and_assoc, ← hbb, Bool.true_and, hr3, hzD]; rfl)
          have HB := Lib.hid hB
          clear hX hbb hX2 hn3 hr3 hzX hzD hl1 q1 q2 hDS hds htc hB
          go_wp2_with fail
          refine HN3.out.mono ?_
          rintro r w9 ⟨rfl, h⟩
          obtain rfl := h.symm
          clear h
          go_wp2
          go_roundw
          case rel => exact ⟨k + 1, by omega, by go_num, X ++ DS, r3, rfl, rfl, HX2.out, HB3.out, HB.out⟩
          case measure => simp [intOf]; omega
      · obtain rfl : k = n := by omega
        have htk : li.take k = li := List.take_of_length_le (by have := HLN.out; omega)
        rw [htk] at hX hbb
        have HE := Lib.hid hB
        have HX := Lib.hid hX
        have HBB := Lib.hid hbb
        clear hB hX hbb hlt htk
        go_wp2
        refine bodyPost_ret (results_tmp2 rfl _ _ _) rfl ?_
        refine ⟨_, bb, by rw [HX.out]; rfl, by rw [HOB.out]; exact HBB.out, (fun h => ?_), HB0.out.trans (HE.out.mono HB0.out.size)⟩
        unfold bodyP
        have e2 : wv (k : Int) = li.length := by rw [HLN.out]; exact wv_nat (by omega)
        simp [e2])

set_option maxRecDepth 20000 in
set_option maxHeartbeats 1000000 in
theorem rbody_4tt (se ep sq vo : Nat) (nn ff ix co : Int) (da : List UInt8) (li : List (List UInt8)) (a : Option Addr) (n c : Nat) (w : World) (hT : Tx w a n c li) (hv : vo < 4294967296) (hd : da.length ≤ 100000) (hl : ∀ k, ((li.take k).flatten).length ≤ 100000) (hr1 : decide (0 ≤ ix ∧ ix < 65536) = true) (hr2 : n ≤ 4) :
    Calls Try.prog 19 #[frV (⟨4, se, ep, sq, vo, nn, ff, ix, co, da, li⟩ : FR) (.slice a n c)] w fun e w' => RB (⟨4, se, ep, sq, vo, nn, ff, ix, co, da, li⟩ : FR) w e w' := by
  obtain ⟨sd, hsd⟩ := str_of da
  obtain ⟨C, hC⟩ : ∃ C : Array Value, C = #[.int .i64 4, .int .u64 (se : Int), .int .u64 (ep : Int), .int .u32 (sq : Int), .int .u32 (vo : Int), .int .i64 nn, .int .i64 ff, .int .i64 ix, .int .i64 co, strV da, .slice a n c] := ⟨_, rfl⟩
  obtain ⟨W0, hW0⟩ : ∃ x, x = w.alloc (.cells C 26) := ⟨_, rfl⟩
  have hb0 : Below w.heap.size w W0 := by rw [hW0]; exact (Below.refl _ _).alloc (Nat.le_refl _) _
  have hbx : W0.heap[w.heap.size]? = some (.cells C 26 (0, 0)) := by rw [hW0]; exact heap_alloc_new _ _
  have hlt : w.heap.size < W0.heap.size := lt_of_block hbx
  have hcl : ∀ w', Below W0.heap.size W0 w' → ∀ i, w'.cell? ⟨w.heap.size, i, none⟩ = C[i]? := fun w' hb i => by rw [cell_of_blk ((hb.block w.heap.size hlt).trans hbx)]
  have k0 : W0.cell? ⟨w.heap.size, 0, none⟩ = some (.int .i64 4) := by rw [hcl W0 (Below.refl _ _), hC]; rfl
  have HCL := Lib.hid hcl
  have HSD := Lib.hid hsd
  have HC := Lib.hid hC
  have HW0 := Lib.hid hW0
  have HB0 := Lib.hid hb0
  have HBD := Lib.hid ((Below.refl W0.heap.size W0).drew)
  have HT := Lib.hid hT
  have HL := Lib.hid hl
  have HD := Lib.hid hd
  have hwc := wrap_wv
  have HDS := Lib.hid (show sd.size ≤ 100000 by rw [sd_size hsd]; exact hd)
  have HKP := Lib.hid (show ∀ w', Below W0.heap.size W0 w' → (fun w' : World => w'.cell? ⟨w.heap.size, 7, none⟩ = some (.int .i64 ix) ∧ w'.cell? ⟨w.heap.size, 10, none⟩ = some (.slice a n c)) w' from fun w' hb => ⟨by rw [hcl w' hb, hC]; rfl, by rw [hcl w' hb, hC]; rfl⟩)
  have HST := Lib.hid (HKP.out _ (Below.refl _ _))
  have hcx : (c : Int) ≤ 9223372036854775807 := by have := hT.cm; unfold maxLen at this; omega
  have hnc : (n : Int) ≤ 9223372036854775807 := by have := hT.le; omega
  have HLN := Lib.hid hT.len
  have HT0 := Lib.hid (hT.later hb0)
  obtain ⟨t1, ht1⟩ := str_of (enc (wv ix) 2)
  obtain ⟨t2, ht2⟩ := str_of (enc (wv (n : Int)) 1)
  have hu1 := add_str ht1 ht2
  have z1 : t1.size = 2 := by rw [sd_size ht1]; simp [enc_length]
  have z2 : t2.size = 1 := by rw [sd_size ht2]; simp [enc_length]
  have HX1 := Lib.hid (text_w 2 ix (by omega) (by omega) t1 ht1)
  have HX2 := Lib.hid (text_w 1 (n : Int) (by omega) (by omega) t2 ht2)
  have HU1 := Lib.hid hu1
  have hn := rfnum2_any ix
  rw [hr1] at hn
  have HN1 := Lib.hid hn
  have HZ := Lib.hid (show (t1 ++ t2).size = 3 by rw [ByteArray.size_append]; omega)
  have HOB := Lib.hid (show bodyOK (⟨4, se, ep, sq, vo, nn, ff, ix, co, da, li⟩ : FR) = (true && li.all is32) from by rw [ok4, hr1, decide_eq_true (by rw [hT.len]; exact hr2)]; simp)
  have n4 : (n : Int) ≤ 4 := by omega
  clear hr2
  clear hC hW0 hb0 hbx hlt hcl hT hl hd hsd ht1 ht2 hu1 hn hr1 hv
  unfold frV
  simp only
  go_enter Try.func19, Try.ntmps19
  go_upto_region 1 with fail
  rw [← HC.out, ← HW0.out]
  go_wp2_with fail
  go_region_held3 (fun w' : World => w'.cell? ⟨w.heap.size, 7, none⟩ = some (.int .i64 ix) ∧ w'.cell? ⟨w.heap.size, 10, none⟩ = some (.slice a n c)) (first | exact HST.out | exact HKP.out _ hb4 | exact HKP.out _ hb5) (first
    | (go_at_call 21; refine (HX1.out _).mono ?_; rintro r w4 ⟨rfl, hb⟩; have hb4 := HBD.out.trans (hb.mono HBD.out.size); clear hb)
    | (go_at_call 21; refine (HX2.out _).mono ?_; rintro r w5 ⟨rfl, hb⟩; have hb5 := hb4.trans (hb.mono hb4.size); clear hb))
  all_goals (
    rename_i hHeld
    obtain ⟨c7, c10⟩ := hHeld
    have HB5 := Lib.hid hb5
    clear hb4 hb5
    go_wp2_with fail
    refine (HN1.out _).mono ?_
    rintro r w7 ⟨rfl, h⟩
    obtain rfl := h.symm
    clear h
    go_wp2
    go_loopw [4, 5, 6] (fun s o i wr => ∃ k : Nat, k ≤ n ∧ i = .int .i64 k ∧ ∃ (X : ByteArray) (bb : Bool), s = .string X ∧ o = .bool bb ∧ strV ((enc (wv ix) 2 ++ enc (wv (n : Int)) 1) ++ (li.take k).flatten) = .string X ∧ bb = (true && (li.take k).all is32) ∧ Below W0.heap.size W0 wr) (fun _ _ i _ => n - (intOf i).toNat)
    case atStart => exact ⟨0, by omega, rfl, t1 ++ t2, true, rfl, rfl, by rw [← HU1.out]; simp, by simp, HB5.out⟩
    case round =>
      obtain ⟨k, hk, rfl, X, bb, rfl, rfl, hX, hbb, hB⟩ := hrel
      have d10 : wr.cell? ⟨w.heap.size, 10, none⟩ = some (.slice a n c) := by rw [HCL.out _ hB, HC.out]; rfl
      by_cases hlt : k < n
      · have i1 : (0 : Int) ≤ (k : Int) := by omega
        have i2 : (k : Int) < (n : Int) := by omega
        cases bb with
        | false =>
          have HE := Lib.hid hB
          have HX := Lib.hid hX
          have HBB := Lib.hid hbb
          clear hB hX hbb hlt
          go_wp2
          refine bodyPost_ret (results_tmp2 rfl _ _ _) rfl ?_
          refine ⟨_, false, by rw [HX.out]; rfl, ?_, (fun h => absurd h (by simp)), HB0.out.trans (HE.out.mono HB0.out.size)⟩
          rw [HOB.out]
          rw [Bool.true_and]; exact (all_false li k (by rw [← Bool.true_and ((li.take k).all is32)]; exact HBB.out.symm)).symm
        | true =>
          obtain ⟨tb, toff, rfl, htl, htc⟩ := (HT0.out.later (hB.mono (Nat.le_refl _))).at0 (by omega)
          have d0 := htc k hlt
          obtain ⟨ds, hds⟩ : ∃ d : List UInt8, d = li[k]?.getD [] := ⟨_, rfl⟩
          rw [← hds] at d0
          obtain ⟨DS, hDS⟩ := str_of ds
          rw [hDS] at d0
          have hlk : k < li.length := by have := HLN.out; omega
          obtain ⟨q1, q2⟩ := take_all li k hlk
          rw [← hds] at q1 q2
          have hl1 := HL.out (k + 1)
          rw [q2, List.length_append] at hl1
          have hzX : X.size = 3 + ((li.take k).flatten).length := by rw [sd_size hX]; simp [enc_length]; omega
          have hzD : DS.size = ds.length := sd_size hDS
          have s1 : ¬ 9223372036854775807 < X.size + DS.size := by omega
          have hX2 := add_str hX hDS
          rw [List.append_assoc, ← q2] at hX2
          obtain ⟨r3, hr3⟩ : ∃ r, r = decide (DS.size = 32) := ⟨_, rfl⟩
          have hn3 := drright_any DS wr (by omega)
          rw [← hr3] at hn3
          have HN3 := Lib.hid hn3
          have HX2 := Lib.hid hX2
          have HB3 := Lib.hid (show r3 = (true && (li.take (k + 1)).all is32) by
            rw [q1, ← Bool.and_assoc, ← hbb, Bool.true_and, hr3, hzD]; rfl)
          have HB := Lib.hid hB
          clear hX hbb hX2 hn3 hr3 hzX hzD hl1 q1 q2 hDS hds htc hB
          go_wp2_with fail
          refine HN3.out.mono ?_
          rintro r w9 ⟨rfl, h⟩
          obtain rfl := h.symm
          clear h
          go_wp2
          go_roundw
          case rel => exact ⟨k + 1, by omega, by go_num, X ++ DS, r3, rfl, rfl, HX2.out, HB3.out, HB.out⟩
          case measure => simp [intOf]; omega
      · obtain rfl : k = n := by omega
        have htk : li.take k = li := List.take_of_length_le (by have := HLN.out; omega)
        rw [htk] at hX hbb
        have HE := Lib.hid hB
        have HX := Lib.hid hX
        have HBB := Lib.hid hbb
        clear hB hX hbb hlt htk
        go_wp2
        refine bodyPost_ret (results_tmp2 rfl _ _ _) rfl ?_
        refine ⟨_, bb, by rw [HX.out]; rfl, by rw [HOB.out]; exact HBB.out, (fun h => ?_), HB0.out.trans (HE.out.mono HB0.out.size)⟩
        unfold bodyP
        have e2 : wv (k : Int) = li.length := by rw [HLN.out]; exact wv_nat (by omega)
        simp [e2])

theorem rbody_any (f : FR) (a : Option Addr) (n c : Nat) (w : World) (hT : Tx w a n c f.list) (hv : f.vol < 4294967296) (hd : f.data.length ≤ 100000) (hl : ∀ k, ((f.list.take k).flatten).length ≤ 100000) :
    Calls Try.prog 19 #[frV f (.slice a n c)] w fun e w' => RB f w e w' := by
  obtain ⟨kd, se, ep, sq, vo, nn, ff, ix, co, da, li⟩ := f
  by_cases k1 : kd = 1
  · subst k1
    cases h1 : decide (0 ≤ nn ∧ nn < 65536) with
    | false => exact rbody_1f se ep sq vo nn ff ix co da li a n c w hT hv hd hl h1
    | true =>
      cases h2 : decide (0 ≤ ff ∧ ff < 256) with
      | false => exact rbody_1tf se ep sq vo nn ff ix co da li a n c w hT hv hd hl h1 h2
      | true => exact rbody_1tt se ep sq vo nn ff ix co da li a n c w hT hv hd hl h1 h2
  by_cases k2 : kd = 2
  · subst k2; exact rbody_2 se ep sq vo nn ff ix co da li a n c w hT hv hd hl
  by_cases k3 : kd = 3
  · subst k3; exact rbody_3 se ep sq vo nn ff ix co da li a n c w hT hv hd hl
  by_cases k4 : kd = 4
  · subst k4
    cases h1 : decide (0 ≤ ix ∧ ix < 65536) with
    | false => exact rbody_4f se ep sq vo nn ff ix co da li a n c w hT hv hd hl h1
    | true =>
      by_cases h2 : n ≤ 4
      · exact rbody_4tt se ep sq vo nn ff ix co da li a n c w hT hv hd hl h1 h2
      · exact rbody_4tf se ep sq vo nn ff ix co da li a n c w hT hv hd hl h1 h2
  by_cases k5 : kd = 5
  · subst k5; exact rbody_5 se ep sq vo nn ff ix co da li a n c w hT hv hd hl
  by_cases k6 : kd = 6
  · subst k6
    cases h1 : decide (0 ≤ ix ∧ ix < 65536) with
    | false => exact rbody_6f se ep sq vo nn ff ix co da li a n c w hT hv hd hl h1
    | true => exact rbody_6t se ep sq vo nn ff ix co da li a n c w hT hv hd hl h1
  by_cases k7 : kd = 7
  · subst k7; exact rbody_7 se ep sq vo nn ff ix co da li a n c w hT hv hd hl
  exact rbody_e kd ⟨k1, k2, k3, k4, k5, k6, k7⟩ se ep sq vo nn ff ix co da li a n c w hT hv hd hl
end Go.Proofs.Ytipegdfjpmlcbaa


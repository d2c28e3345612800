/-
  The document's body of a frame.
-/
import Derived.Test.YtipegdfjpmlcbaaCFN
import Derived.Deep.RegionHeld3
namespace Go.Proofs.Ytipegdfjpmlcbaa
open Go.RowKit
set_option linter.unusedVariables false
set_option linter.unusedSimpArgs false

/-- What body answers. -/
def RB (f : FR) (w : World) (e : Ending) (w' : World) : Prop :=
  ∃ s ok, e = .returned (.tuple #[strV s, .bool ok]) ∧ ok = bodyOK f ∧ (ok = true → s = bodyP f) ∧ Below w.heap.size w w'
theorem text_w (wd : Nat) (x : Int) (h1 : 1 ≤ wd) (h2 : wd ≤ 8) (T : ByteArray) (hT : strV (enc (wv x) wd) = .string T) (w : World) :
    Calls Try.prog 21 #[.int .i64 (wd : Int), .int .u64 (wv x : Int)] w fun e w' => e = .returned (.string T) ∧ Below w.heap.size w w' := by
  have := text_any wd (wv x) w h1 h2 (wv_lt x)
  rw [hT] at this
  exact this
theorem str_of (xs : List UInt8) : ∃ T : ByteArray, strV xs = .string T := ⟨_, rfl⟩
theorem add_str {xs ys : List UInt8} {A B : ByteArray} (ha : strV xs = .string A) (hb : strV ys = .string B) : strV (xs ++ ys) = .string (A ++ B) := by
  unfold strV at ha hb ⊢
  injection ha with ha
  injection hb with hb
  rw [← ha, ← hb, ByteArray.mk_append_mk]
theorem sd_size {da : List UInt8} {sd : ByteArray} (h : strV da = .string sd) : sd.size = da.length := by
  unfold strV at h
  injection h with h
  rw [← h]
  exact List.size_toArray

set_option maxRecDepth 20000 in
set_option maxHeartbeats 1000000 in
theorem rbody_2 (se ep sq vo : Nat) (nn ff ix co : Int) (da : List UInt8) (li : List (List UInt8)) (a : Option Addr) (n c : Nat) (w : World) (hT : Tx w a n c li) (hv : vo < 4294967296) (hd : da.length ≤ 100000) (hl : ∀ k, ((li.take k).flatten).length ≤ 100000) :
    Calls Try.prog 19 #[frV (⟨2, se, ep, sq, vo, nn, ff, ix, co, da, li⟩ : FR) (.slice a n c)] w fun e w' => RB (⟨2, se, ep, sq, vo, nn, ff, ix, co, da, li⟩ : FR) w e w' := by
  obtain ⟨sd, hsd⟩ := str_of da
  obtain ⟨C, hC⟩ : ∃ C : Array Value, C = #[.int .i64 2, .int .u64 (se : Int), .int .u64 (ep : Int), .int .u32 (sq : Int), .int .u32 (vo : Int), .int .i64 nn, .int .i64 ff, .int .i64 ix, .int .i64 co, strV da, .slice a n c] := ⟨_, rfl⟩
  obtain ⟨W0, hW0⟩ : ∃ x, x = w.alloc (.cells C 26) := ⟨_, rfl⟩
  have hb0 : Below w.heap.size w W0 := by rw [hW0]; exact (Below.refl _ _).alloc (Nat.le_refl _) _
  have hbx : W0.heap[w.heap.size]? = some (.cells C 26 (0, 0)) := by rw [hW0]; exact heap_alloc_new _ _
  have hlt : w.heap.size < W0.heap.size := lt_of_block hbx
  have hcl : ∀ w', Below W0.heap.size W0 w' → ∀ i, w'.cell? ⟨w.heap.size, i, none⟩ = C[i]? := fun w' hb i => by rw [cell_of_blk ((hb.block w.heap.size hlt).trans hbx)]
  have k0 : W0.cell? ⟨w.heap.size, 0, none⟩ = some (.int .i64 2) := by rw [hcl W0 (Below.refl _ _), hC]; rfl
  have HCL := Lib.hid hcl
  have HSD := Lib.hid hsd
  have HC := Lib.hid hC
  have HW0 := Lib.hid hW0
  have HB0 := Lib.hid hb0
  have HBD := Lib.hid ((Below.refl W0.heap.size W0).drew)
  have HT := Lib.hid hT
  have HL := Lib.hid hl
  have HD := Lib.hid hd
  have hwc := wrap_wv
  have HDS := Lib.hid (show sd.size ≤ 100000 by rw [sd_size hsd]; exact hd)
  have HKP := Lib.hid (show ∀ w', Below W0.heap.size W0 w' → (fun w' : World => w'.cell? ⟨w.heap.size, 8, none⟩ = some (.int .i64 co)) w' from fun w' hb => by dsimp only; rw [hcl w' hb, hC]; rfl)
  have HST := Lib.hid (HKP.out _ (Below.refl _ _))
  obtain ⟨t1, ht1⟩ := str_of (enc (wv co) 1)
  have HX1 := Lib.hid (text_w 1 co (by omega) (by omega) t1 ht1)
  have HT1 := Lib.hid ht1
  obtain ⟨r1, hr1⟩ : ∃ r, r = decide (0 ≤ co ∧ co < 256) := ⟨_, rfl⟩
  have hn := rfnum1_any co
  rw [← hr1] at hn
  have HN1 := Lib.hid hn
  have HR1 := Lib.hid hr1
  clear hC hW0 hb0 hbx hlt hcl hT hl hd hsd ht1 hr1 hn
  unfold frV
  simp only
  go_enter Try.func19, Try.ntmps19
  go_upto_region 1 with fail
  rw [← HC.out, ← HW0.out]
  go_wp2_with fail
  go_region_held3 (fun w' : World => w'.cell? ⟨w.heap.size, 8, none⟩ = some (.int .i64 co)) (first | exact HST.out | exact HKP.out _ hb4) (first
    | (go_at_call 21; refine (HX1.out _).mono ?_; rintro r w4 ⟨rfl, hb⟩; have hb4 := HBD.out.trans (hb.mono HBD.out.size); clear hb)
    | (go_at_call 37; refine (HN1.out _).mono ?_; rintro r w5 ⟨rfl, h⟩; obtain rfl := h.symm; clear h))
  all_goals (
    rename_i hHeld
    clear hHeld
    have HE := Lib.hid hb4
    clear hb4
    go_wp2
    refine bodyPost_ret (results_tmp2 rfl _ _ _) rfl ?_
    exact ⟨enc (wv co) 1, r1, by rw [HT1.out]; rfl, by rw [HR1.out]; rfl, fun _ => rfl, HB0.out.trans (HE.out.mono HB0.out.size)⟩)

set_option maxRecDepth 20000 in
set_option maxHeartbeats 1000000 in
theorem rbody_3 (se ep sq vo : Nat) (nn ff ix co : Int) (da : List UInt8) (li : List (List UInt8)) (a : Option Addr) (n c : Nat) (w : World) (hT : Tx w a n c li) (hv : vo < 4294967296) (hd : da.length ≤ 100000) (hl : ∀ k, ((li.take k).flatten).length ≤ 100000) :
    Calls Try.prog 19 #[frV (⟨3, se, ep, sq, vo, nn, ff, ix, co, da, li⟩ : FR) (.slice a n c)] w fun e w' => RB (⟨3, se, ep, sq, vo, nn, ff, ix, co, da, li⟩ : FR) w e w' := by
  obtain ⟨sd, hsd⟩ := str_of da
  obtain ⟨C, hC⟩ : ∃ C : Array Value, C = #[.int .i64 3, .int .u64 (se : Int), .int .u64 (ep : Int), .int .u32 (sq : Int), .int .u32 (vo : Int), .int .i64 nn, .int .i64 ff, .int .i64 ix, .int .i64 co, strV da, .slice a n c] := ⟨_, rfl⟩
  obtain ⟨W0, hW0⟩ : ∃ x, x = w.alloc (.cells C 26) := ⟨_, rfl⟩
  have hb0 : Below w.heap.size w W0 := by rw [hW0]; exact (Below.refl _ _).alloc (Nat.le_refl _) _
  have hbx : W0.heap[w.heap.size]? = some (.cells C 26 (0, 0)) := by rw [hW0]; exact heap_alloc_new _ _
  have hlt : w.heap.size < W0.heap.size := lt_of_block hbx
  have hcl : ∀ w', Below W0.heap.size W0 w' → ∀ i, w'.cell? ⟨w.heap.size, i, none⟩ = C[i]? := fun w' hb i => by rw [cell_of_blk ((hb.block w.heap.size hlt).trans hbx)]
  have k0 : W0.cell? ⟨w.heap.size, 0, none⟩ = some (.int .i64 3) := by rw [hcl W0 (Below.refl _ _), hC]; rfl
  have HCL := Lib.hid hcl
  have HSD := Lib.hid hsd
  have HC := Lib.hid hC
  have HW0 := Lib.hid hW0
  have HB0 := Lib.hid hb0
  have HBD := Lib.hid ((Below.refl W0.heap.size W0).drew)
  have HT := Lib.hid hT
  have HL := Lib.hid hl
  have HD := Lib.hid hd
  have hwc := wrap_wv
  have HDS := Lib.hid (show sd.size ≤ 100000 by rw [sd_size hsd]; exact hd)
  have HKP := Lib.hid (show ∀ w', Below W0.heap.size W0 w' → (fun w' : World => w'.cell? ⟨w.heap.size, 7, none⟩ = some (.int .i64 ix)) w' from fun w' hb => by dsimp only; rw [hcl w' hb, hC]; rfl)
  have HST := Lib.hid (HKP.out _ (Below.refl _ _))
  obtain ⟨t1, ht1⟩ := str_of (enc (wv ix) 2)
  have HX1 := Lib.hid (text_w 2 ix (by omega) (by omega) t1 ht1)
  have HT1 := Lib.hid ht1
  obtain ⟨r1, hr1⟩ : ∃ r, r = decide (0 ≤ ix ∧ ix < 65536) := ⟨_, rfl⟩
  have hn := rfnum2_any ix
  rw [← hr1] at hn
  have HN1 := Lib.hid hn
  have HR1 := Lib.hid hr1
  clear hC hW0 hb0 hbx hlt hcl hT hl hd hsd ht1 hr1 hn
  unfold frV
  simp only
  go_enter Try.func19, Try.ntmps19
  go_upto_region 1 with fail
  rw [← HC.out, ← HW0.out]
  go_wp2_with fail
  go_region_held3 (fun w' : World => w'.cell? ⟨w.heap.size, 7, none⟩ = some (.int .i64 ix)) (first | exact HST.out | exact HKP.out _ hb4) (first
    | (go_at_call 21; refine (HX1.out _).mono ?_; rintro r w4 ⟨rfl, hb⟩; have hb4 := HBD.out.trans (hb.mono HBD.out.size); clear hb)
    | (go_at_call 37; refine (HN1.out _).mono ?_; rintro r w5 ⟨rfl, h⟩; obtain rfl := h.symm; clear h))
  all_goals (
    rename_i hHeld
    clear hHeld
    have HE := Lib.hid hb4
    clear hb4
    go_wp2
    refine bodyPost_ret (results_tmp2 rfl _ _ _) rfl ?_
    exact ⟨enc (wv ix) 2, r1, by rw [HT1.out]; rfl, by rw [HR1.out]; rfl, fun _ => rfl, HB0.out.trans (HE.out.mono HB0.out.size)⟩)

set_option maxRecDepth 20000 in
set_option maxHeartbeats 1000000 in
theorem rbody_5 (se ep sq vo : Nat) (nn ff ix co : Int) (da : List UInt8) (li : List (List UInt8)) (a : Option Addr) (n c : Nat) (w : World) (hT : Tx w a n c li) (hv : vo < 4294967296) (hd : da.length ≤ 100000) (hl : ∀ k, ((li.take k).flatten).length ≤ 100000) :
    Calls Try.prog 19 #[frV (⟨5, se, ep, sq, vo, nn, ff, ix, co, da, li⟩ : FR) (.slice a n c)] w fun e w' => RB (⟨5, se, ep, sq, vo, nn, ff, ix, co, da, li⟩ : FR) w e w' := by
  obtain ⟨sd, hsd⟩ := str_of da
  obtain ⟨C, hC⟩ : ∃ C : Array Value, C = #[.int .i64 5, .int .u64 (se : Int), .int .u64 (ep : Int), .int .u32 (sq : Int), .int .u32 (vo : Int), .int .i64 nn, .int .i64 ff, .int .i64 ix, .int .i64 co, strV da, .slice a n c] := ⟨_, rfl⟩
  obtain ⟨W0, hW0⟩ : ∃ x, x = w.alloc (.cells C 26) := ⟨_, rfl⟩
  have hb0 : Below w.heap.size w W0 := by rw [hW0]; exact (Below.refl _ _).alloc (Nat.le_refl _) _
  have hbx : W0.heap[w.heap.size]? = some (.cells C 26 (0, 0)) := by rw [hW0]; exact heap_alloc_new _ _
  have hlt : w.heap.size < W0.heap.size := lt_of_block hbx
  have hcl : ∀ w', Below W0.heap.size W0 w' → ∀ i, w'.cell? ⟨w.heap.size, i, none⟩ = C[i]? := fun w' hb i => by rw [cell_of_blk ((hb.block w.heap.size hlt).trans hbx)]
  have k0 : W0.cell? ⟨w.heap.size, 0, none⟩ = some (.int .i64 5) := by rw [hcl W0 (Below.refl _ _), hC]; rfl
  have HCL := Lib.hid hcl
  have HSD := Lib.hid hsd
  have HC := Lib.hid hC
  have HW0 := Lib.hid hW0
  have HB0 := Lib.hid hb0
  have HBD := Lib.hid ((Below.refl W0.heap.size W0).drew)
  have HT := Lib.hid hT
  have HL := Lib.hid hl
  have HD := Lib.hid hd
  have hwc := wrap_wv
  have HDS := Lib.hid (show sd.size ≤ 100000 by rw [sd_size hsd]; exact hd)
  have HKP := Lib.hid (show ∀ w', Below W0.heap.size W0 w' → (fun w' : World => w'.cell? ⟨w.heap.size, 7, none⟩ = some (.int .i64 ix)) w' from fun w' hb => by dsimp only; rw [hcl w' hb, hC]; rfl)
  have HST := Lib.hid (HKP.out _ (Below.refl _ _))
  obtain ⟨t1, ht1⟩ := str_of (enc (wv ix) 2)
  have HX1 := Lib.hid (text_w 2 ix (by omega) (by omega) t1 ht1)
  have HT1 := Lib.hid ht1
  obtain ⟨r1, hr1⟩ : ∃ r, r = decide (0 ≤ ix ∧ ix < 65536) := ⟨_, rfl⟩
  have hn := rfnum2_any ix
  rw [← hr1] at hn
  have HN1 := Lib.hid hn
  have HR1 := Lib.hid hr1
  clear hC hW0 hb0 hbx hlt hcl hT hl hd hsd ht1 hr1 hn
  unfold frV
  simp only
  go_enter Try.func19, Try.ntmps19
  go_upto_region 1 with fail
  rw [← HC.out, ← HW0.out]
  go_wp2_with fail
  go_region_held3 (fun w' : World => w'.cell? ⟨w.heap.size, 7, none⟩ = some (.int .i64 ix)) (first | exact HST.out | exact HKP.out _ hb4) (first
    | (go_at_call 21; refine (HX1.out _).mono ?_; rintro r w4 ⟨rfl, hb⟩; have hb4 := HBD.out.trans (hb.mono HBD.out.size); clear hb)
    | (go_at_call 37; refine (HN1.out _).mono ?_; rintro r w5 ⟨rfl, h⟩; obtain rfl := h.symm; clear h))
  all_goals (
    rename_i hHeld
    clear hHeld
    have HE := Lib.hid hb4
    clear hb4
    go_wp2
    refine bodyPost_ret (results_tmp2 rfl _ _ _) rfl ?_
    exact ⟨enc (wv ix) 2, r1, by rw [HT1.out]; rfl, by rw [HR1.out]; rfl, fun _ => rfl, HB0.out.trans (HE.out.mono HB0.out.size)⟩)

set_option maxRecDepth 20000 in
set_option maxHeartbeats 1000000 in
theorem rbody_7 (se ep sq vo : Nat) (nn ff ix co : Int) (da : List UInt8) (li : List (List UInt8)) (a : Option Addr) (n c : Nat) (w : World) (hT : Tx w a n c li) (hv : vo < 4294967296) (hd : da.length ≤ 100000) (hl : ∀ k, ((li.take k).flatten).length ≤ 100000) :
    Calls Try.prog 19 #[frV (⟨7, se, ep, sq, vo, nn, ff, ix, co, da, li⟩ : FR) (.slice a n c)] w fun e w' => RB (⟨7, se, ep, sq, vo, nn, ff, ix, co, da, li⟩ : FR) w e w' := by
  obtain ⟨sd, hsd⟩ := str_of da
  obtain ⟨C, hC⟩ : ∃ C : Array Value, C = #[.int .i64 7, .int .u64 (se : Int), .int .u64 (ep : Int), .int .u32 (sq : Int), .int .u32 (vo : Int), .int .i64 nn, .int .i64 ff, .int .i64 ix, .int .i64 co, strV da, .slice a n c] := ⟨_, rfl⟩
  obtain ⟨W0, hW0⟩ : ∃ x, x = w.alloc (.cells C 26) := ⟨_, rfl⟩
  have hb0 : Below w.heap.size w W0 := by rw [hW0]; exact (Below.refl _ _).alloc (Nat.le_refl _) _
  have hbx : W0.heap[w.heap.size]? = some (.cells C 26 (0, 0)) := by rw [hW0]; exact heap_alloc_new _ _
  have hlt : w.heap.size < W0.heap.size := lt_of_block hbx
  have hcl : ∀ w', Below W0.heap.size W0 w' → ∀ i, w'.cell? ⟨w.heap.size, i, none⟩ = C[i]? := fun w' hb i => by rw [cell_of_blk ((hb.block w.heap.size hlt).trans hbx)]
  have k0 : W0.cell? ⟨w.heap.size, 0, none⟩ = some (.int .i64 7) := by rw [hcl W0 (Below.refl _ _), hC]; rfl
  have HCL := Lib.hid hcl
  have HSD := Lib.hid hsd
  have HC := Lib.hid hC
  have HW0 := Lib.hid hW0
  have HB0 := Lib.hid hb0
  have HBD := Lib.hid ((Below.refl W0.heap.size W0).drew)
  have HT := Lib.hid hT
  have HL := Lib.hid hl
  have HD := Lib.hid hd
  have hwc := wrap_wv
  clear hC hW0 hb0 hbx hlt hcl hT hl hd hsd
  unfold frV
  simp only
  go_enter Try.func19, Try.ntmps19
  go_upto_region 1 with fail
  rw [← HC.out, ← HW0.out]
  go_wp2
  refine bodyPost_ret (results_tmp2 rfl _ _ _) rfl ?_
  exact ⟨[], true, rfl, rfl, fun _ => rfl, HB0.out⟩

set_option maxRecDepth 20000 in
set_option maxHeartbeats 1000000 in
theorem rbody_e (kd : Int) (hk : kd ≠ 1 ∧ kd ≠ 2 ∧ kd ≠ 3 ∧ kd ≠ 4 ∧ kd ≠ 5 ∧ kd ≠ 6 ∧ kd ≠ 7) (se ep sq vo : Nat) (nn ff ix co : Int) (da : List UInt8) (li : List (List UInt8)) (a : Option Addr) (n c : Nat) (w : World) (hT : Tx w a n c li) (hv : vo < 4294967296) (hd : da.length ≤ 100000) (hl : ∀ k, ((li.take k).flatten).length ≤ 100000) :
    Calls Try.prog 19 #[frV (⟨kd, se, ep, sq, vo, nn, ff, ix, co, da, li⟩ : FR) (.slice a n c)] w fun e w' => RB (⟨kd, se, ep, sq, vo, nn, ff, ix, co, da, li⟩ : FR) w e w' := by
  obtain ⟨sd, hsd⟩ := str_of da
  obtain ⟨C, hC⟩ : ∃ C : Array Value, C = #[.int .i64 kd, .int .u64 (se : Int), .int .u64 (ep : Int), .int .u32 (sq : Int), .int .u32 (vo : Int), .int .i64 nn, .int .i64 ff, .int .i64 ix, .int .i64 co, strV da, .slice a n c] := ⟨_, rfl⟩
  obtain ⟨W0, hW0⟩ : ∃ x, x = w.alloc (.cells C 26) := ⟨_, rfl⟩
  have hb0 : Below w.heap.size w W0 := by rw [hW0]; exact (Below.refl _ _).alloc (Nat.le_refl _) _
  have hbx : W0.heap[w.heap.size]? = some (.cells C 26 (0, 0)) := by rw [hW0]; exact heap_alloc_new _ _
  have hlt : w.heap.size < W0.heap.size := lt_of_block hbx
  have hcl : ∀ w', Below W0.heap.size W0 w' → ∀ i, w'.cell? ⟨w.heap.size, i, none⟩ = C[i]? := fun w' hb i => by rw [cell_of_blk ((hb.block w.heap.size hlt).trans hbx)]
  have k0 : W0.cell? ⟨w.heap.size, 0, none⟩ = some (.int .i64 kd) := by rw [hcl W0 (Below.refl _ _), hC]; rfl
  have HCL := Lib.hid hcl
  have HSD := Lib.hid hsd
  have HC := Lib.hid hC
  have HW0 := Lib.hid hW0
  have HB0 := Lib.hid hb0
  have HBD := Lib.hid ((Below.refl W0.heap.size W0).drew)
  have HT := Lib.hid hT
  have HL := Lib.hid hl
  have HD := Lib.hid hd
  have hwc := wrap_wv
  have q1 : (kd == 1) = false := by simp [hk]
  have q2 : (kd == 2) = false := by simp [hk]
  have q3 : (kd == 3) = false := by simp [hk]
  have q4 : (kd == 4) = false := by simp [hk]
  have q5 : (kd == 5) = false := by simp [hk]
  have q6 : (kd == 6) = false := by simp [hk]
  have q7 : (kd == 7) = false := by simp [hk]
  have HOK := Lib.hid (show false = bodyOK (⟨kd, se, ep, sq, vo, nn, ff, ix, co, da, li⟩ : FR) from by simp [bodyOK, hk])
  clear hC hW0 hb0 hbx hlt hcl hT hl hd hsd hk
  unfold frV
  simp only
  go_enter Try.func19, Try.ntmps19
  go_upto_region 1 with fail
  rw [← HC.out, ← HW0.out]
  go_wp2
  refine bodyPost_ret (results_tmp2 rfl _ _ _) rfl ?_
  exact ⟨[], false, rfl, HOK.out, (fun h => absurd h (by simp)), HB0.out⟩

set_option maxRecDepth 20000 in
set_option maxHeartbeats 1000000 in
theorem rbody_6f (se ep sq vo : Nat) (nn ff ix co : Int) (da : List UInt8) (li : List (List UInt8)) (a : Option Addr) (n c : Nat) (w : World) (hT : Tx w a n c li) (hv : vo < 4294967296) (hd : da.length ≤ 100000) (hl : ∀ k, ((li.take k).flatten).length ≤ 100000) (hr1 : decide (0 ≤ ix ∧ ix < 65536) = false) :
    Calls Try.prog 19 #[frV (⟨6, se, ep, sq, vo, nn, ff, ix, co, da, li⟩ : FR) (.slice a n c)] w fun e w' => RB (⟨6, se, ep, sq, vo, nn, ff, ix, co, da, li⟩ : FR) w e w' := by
  obtain ⟨sd, hsd⟩ := str_of da
  obtain ⟨C, hC⟩ : ∃ C : Array Value, C = #[.int .i64 6, .int .u64 (se : Int), .int .u64 (ep : Int), .int .u32 (sq : Int), .int .u32 (vo : Int), .int .i64 nn, .int .i64 ff, .int .i64 ix, .int .i64 co, strV da, .slice a n c] := ⟨_, rfl⟩
  obtain ⟨W0, hW0⟩ : ∃ x, x = w.alloc (.cells C 26) := ⟨_, rfl⟩
  have hb0 : Below w.heap.size w W0 := by rw [hW0]; exact (Below.refl _ _).alloc (Nat.le_refl _) _
  have hbx : W0.heap[w.heap.size]? = some (.cells C 26 (0, 0)) := by rw [hW0]; exact heap_alloc_new _ _
  have hlt : w.heap.size < W0.heap.size := lt_of_block hbx
  have hcl : ∀ w', Below W0.heap.size W0 w' → ∀ i, w'.cell? ⟨w.heap.size, i, none⟩ = C[i]? := fun w' hb i => by rw [cell_of_blk ((hb.block w.heap.size hlt).trans hbx)]
  have k0 : W0.cell? ⟨w.heap.size, 0, none⟩ = some (.int .i64 6) := by rw [hcl W0 (Below.refl _ _), hC]; rfl
  have HCL := Lib.hid hcl
  have HSD := Lib.hid hsd
  have HC := Lib.hid hC
  have HW0 := Lib.hid hW0
  have HB0 := Lib.hid hb0
  have HBD := Lib.hid ((Below.refl W0.heap.size W0).drew)
  have HT := Lib.hid hT
  have HL := Lib.hid hl
  have HD := Lib.hid hd
  have hwc := wrap_wv
  have HDS := Lib.hid (show sd.size ≤ 100000 by rw [sd_size hsd]; exact hd)
  have HKP := Lib.hid (show ∀ w', Below W0.heap.size W0 w' → (fun w' : World => w'.cell? ⟨w.heap.size, 7, none⟩ = some (.int .i64 ix) ∧ w'.cell? ⟨w.heap.size, 9, none⟩ = some (.string sd)) w' from fun w' hb => ⟨by rw [hcl w' hb, hC]; rfl, by rw [hcl w' hb, hC]; rw [hsd]; rfl⟩)
  have HST := Lib.hid (HKP.out _ (Below.refl _ _))
  have HVV := Lib.hid hwc
  obtain ⟨t1, ht1⟩ := str_of (enc (wv ix) 2)
  have hu1 := add_str ht1 hsd
  have z1 : t1.size = 2 := by rw [sd_size ht1]; simp [enc_length]
  have HX1 := Lib.hid (text_w 2 ix (by omega) (by omega) t1 ht1)
  have HU3 := Lib.hid hu1
  have hn := rfnum2_any ix
  rw [hr1] at hn
  have HN1 := Lib.hid hn
  have HOK := Lib.hid (show false = bodyOK (⟨6, se, ep, sq, vo, nn, ff, ix, co, da, li⟩ : FR) from by unfold bodyOK; simp [hr1])
  clear hC hW0 hb0 hbx hlt hcl hT hl hd hsd ht1 hu1 hn hr1 hv
  unfold frV
  simp only
  go_enter Try.func19, Try.ntmps19
  go_upto_region 1 with fail
  rw [← HC.out, ← HW0.out]
  go_wp2_with fail
  refine wp_region_held_drew (S := fun w' : World => w'.cell? ⟨w.heap.size, 7, none⟩ = some (.int .i64 ix) ∧ w'.cell? ⟨w.heap.size, 9, none⟩ = some (.string sd)) (by kernel_rfl) (HST.out) (fun hHeld => ?_)
  refine wpAnyH_take (i := 0) (oi := { dst := some 108, op := Op.fieldAddr 26 (Operand.tmp 1) 7, type := 0, pos := "ref.go:34", after := #[], guard := none }) (v := ?_) rfl (by kernel_rfl) (by kernel_rfl) (by kernel_rfl) (fun _ _ _ h => h) (Or.inl ⟨by rfl, ?_⟩) (by assumption) ?_
  rotate_left
  · (intro w hSw; (try dsimp only at hSw); go_simp <;> with_reducible rfl)
  try simp only [Act.put, List.setIfInBounds_toArray, List.set_cons_zero, List.set_cons_succ]
  refine wpAnyH_take (i := 1) (oi := { dst := some 109, op := Op.load 3 (Operand.tmp 108), type := 3, pos := "ref.go:34", after := #[{ on := 0, ground := Ground.data }], guard := none }) (v := ?_) rfl (by kernel_rfl) (by kernel_rfl) (by kernel_rfl) (fun _ _ _ h => h) (Or.inl ⟨by rfl, ?_⟩) (by assumption) ?_
  rotate_left
  · (intro w hSw; (try dsimp only at hSw); go_simp <;> with_reducible rfl)
  try simp only [Act.put, List.setIfInBounds_toArray, List.set_cons_zero, List.set_cons_succ]
  refine wpAnyH_take (i := 2) (oi := { dst := some 110, op := Op.convert 3 22 (Operand.tmp 109), type := 22, pos := "ref.go:34", after := #[{ on := 1, ground := Ground.data }], guard := none }) (v := ?_) rfl (by kernel_rfl) (by kernel_rfl) (by kernel_rfl) (fun _ _ _ h => h) (Or.inl ⟨by rfl, ?_⟩) (by assumption) ?_
  rotate_left
  · (intro w hSw; (try dsimp only at hSw); go_simp <;> with_reducible rfl)
  try simp only [Act.put, List.setIfInBounds_toArray, List.set_cons_zero, List.set_cons_succ]
  refine wpAnyH_take (i := 4) (oi := { dst := some 112, op := Op.fieldAddr 26 (Operand.tmp 1) 9, type := 0, pos := "ref.go:34", after := #[], guard := none }) (v := ?_) rfl (by kernel_rfl) (by kernel_rfl) (by kernel_rfl) (fun _ _ _ h => h) (Or.inl ⟨by rfl, ?_⟩) (by assumption) ?_
  rotate_left
  · (intro w hSw; (try dsimp only at hSw); go_simp <;> with_reducible rfl)
  try simp only [Act.put, List.setIfInBounds_toArray, List.set_cons_zero, List.set_cons_succ]
  refine wpAnyH_take (i := 5) (oi := { dst := some 113, op := Op.load 9 (Operand.tmp 112), type := 9, pos := "ref.go:34", after := #[{ on := 4, ground := Ground.data }], guard := none }) (v := ?_) rfl (by kernel_rfl) (by kernel_rfl) (by kernel_rfl) (fun _ _ _ h => h) (Or.inl ⟨by rfl, ?_⟩) (by assumption) ?_
  rotate_left
  · (intro w hSw; (try dsimp only at hSw); go_simp <;> with_reducible rfl)
  try simp only [Act.put, List.setIfInBounds_toArray, List.set_cons_zero, List.set_cons_succ]
  refine wpAnyH_take (i := 7) (oi := { dst := some 115, op := Op.fieldAddr 26 (Operand.tmp 1) 7, type := 0, pos := "ref.go:34", after := #[], guard := none }) (v := ?_) rfl (by kernel_rfl) (by kernel_rfl) (by kernel_rfl) (fun _ _ _ h => h) (Or.inl ⟨by rfl, ?_⟩) (by assumption) ?_
  rotate_left
  · (intro w hSw; (try dsimp only at hSw); go_simp <;> with_reducible rfl)
  try simp only [Act.put, List.setIfInBounds_toArray, List.set_cons_zero, List.set_cons_succ]
  refine wpAnyH_take (i := 8) (oi := { dst := some 116, op := Op.load 3 (Operand.tmp 115), type := 3, pos := "ref.go:34", after := #[{ on := 7, ground := Ground.data }], guard := none }) (v := ?_) rfl (by kernel_rfl) (by kernel_rfl) (by kernel_rfl) (fun _ _ _ h => h) (Or.inl ⟨by rfl, ?_⟩) (by assumption) ?_
  rotate_left
  · (intro w hSw; (try dsimp only at hSw); go_simp <;> with_reducible rfl)
  try simp only [Act.put, List.setIfInBounds_toArray, List.set_cons_zero, List.set_cons_succ]
  refine wpAnyH_ready (rs := [3]) (by kernel_rfl) (by simp) ?_
  refine AllReadyH.cons (o := { dst := some 111, op := Op.call { callee := Callee.value (Operand.func 21), args := #[Operand.const (Value.int IntKind.i64 2), Operand.tmp 110], argTypes := #[3, 22] }, type := 9, pos := "ref.go:34", after := #[{ on := 2, ground := Ground.data }], guard := none }) rfl (fun K hK => ?_) AllReadyH.nil
  go_simp
  go_at_call 21
  refine (HX1.out _).mono ?_
  rintro r w4 ⟨rfl, hb⟩
  have hb4 := HBD.out.trans (hb.mono HBD.out.size)
  clear hb
  refine hK _ _ (HKP.out _ hb4) (fun hHeld => ?_)
  clear hK K
  try simp only [Act.put, List.setIfInBounds_toArray, List.set_cons_zero, List.set_cons_succ]
  refine wpAnyH_take (i := 6) (oi := { dst := some 114, op := Op.binOp BinOp.add 9 (Operand.tmp 111) (Operand.tmp 113) 9, type := 9, pos := "ref.go:34", after := #[{ on := 3, ground := Ground.data }, { on := 5, ground := Ground.data }], guard := none }) (v := ?_) rfl (by kernel_rfl) (by kernel_rfl) (by kernel_rfl) (fun _ _ _ h => h) (Or.inl ⟨by rfl, ?_⟩) (by assumption) ?_
  rotate_left
  · (intro w hSw; (try dsimp only at hSw); first | (go_simp <;> with_reducible rfl) | (go_simp; rw [if_neg (by have := HDS.out; first | omega | (simp only [ByteArray.size_append]; omega))]))
  try simp only [Act.put, List.setIfInBounds_toArray, List.set_cons_zero, List.set_cons_succ]
  refine wpAnyH_ready (rs := [9]) (by kernel_rfl) (by simp) ?_
  refine AllReadyH.cons (o := { dst := some 117, op := Op.call { callee := Callee.value (Operand.func 37), args := #[Operand.tmp 116, Operand.const (Value.int IntKind.i64 2)], argTypes := #[3, 3] }, type := 4, pos := "ref.go:34", after := #[{ on := 8, ground := Ground.data }, { on := 3, ground := Ground.chain }], guard := none }) rfl (fun K hK => ?_) AllReadyH.nil
  go_simp
  go_at_call 37
  refine (HN1.out _).mono ?_
  rintro r w7 ⟨rfl, h⟩
  obtain rfl := h.symm
  clear h
  refine hK _ _ (HKP.out _ hb4) (fun hHeld => ?_)
  clear hK K
  try simp only [Act.put, List.setIfInBounds_toArray, List.set_cons_zero, List.set_cons_succ]
  refine wpAnyH_take (i := 10) (oi := { dst := some 118, op := Op.move (Operand.tmp 117), type := 4, pos := "ref.go:34", after := #[{ on := 9, ground := Ground.data }, { on := 9, ground := Ground.chain }], guard := none }) (v := ?_) rfl (by kernel_rfl) (by kernel_rfl) (by kernel_rfl) (fun _ _ _ h => h) (Or.inl ⟨by rfl, ?_⟩) (by assumption) ?_
  rotate_left
  · (intro w hSw; (try dsimp only at hSw); go_simp <;> with_reducible rfl)
  try simp only [Act.put, List.setIfInBounds_toArray, List.set_cons_zero, List.set_cons_succ]
  refine wpAnyH_take (i := 11) (oi := { dst := some 119, op := Op.fieldAddr 26 (Operand.tmp 1) 9, type := 0, pos := "ref.go:34", after := #[{ on := 10, ground := Ground.guard }], guard := some (10, true) }) (v := undef) rfl (by kernel_rfl) (by kernel_rfl) (by kernel_rfl) (fun _ _ _ h => h) (Or.inr ⟨by rfl, rfl⟩) (by assumption) ?_
  try simp only [Act.put, List.setIfInBounds_toArray, List.set_cons_zero, List.set_cons_succ]
  refine wpAnyH_take (i := 12) (oi := { dst := some 120, op := Op.load 9 (Operand.tmp 119), type := 9, pos := "ref.go:34", after := #[{ on := 11, ground := Ground.data }, { on := 10, ground := Ground.guard }], guard := some (10, true) }) (v := undef) rfl (by kernel_rfl) (by kernel_rfl) (by kernel_rfl) (fun _ _ _ h => h) (Or.inr ⟨by rfl, rfl⟩) (by assumption) ?_
  try simp only [Act.put, List.setIfInBounds_toArray, List.set_cons_zero, List.set_cons_succ]
  refine wpAnyH_take (i := 13) (oi := { dst := some 121, op := Op.call { callee := Callee.value (Operand.func 39), args := #[Operand.tmp 120], argTypes := #[9] }, type := 4, pos := "ref.go:34", after := #[{ on := 12, ground := Ground.data }, { on := 10, ground := Ground.chain }, { on := 10, ground := Ground.guard }], guard := some (10, true) }) (v := undef) rfl (by kernel_rfl) (by kernel_rfl) (by kernel_rfl) (fun _ _ _ h => h) (Or.inr ⟨by rfl, rfl⟩) (by assumption) ?_
  try simp only [Act.put, List.setIfInBounds_toArray, List.set_cons_zero, List.set_cons_succ]
  refine wpAnyH_take (i := 14) (oi := { dst := some 122, op := Op.pick (Operand.tmp 118) (Operand.tmp 121) (Operand.const (Value.bool false)), type := 4, pos := "ref.go:34", after := #[{ on := 10, ground := Ground.data }, { on := 13, ground := Ground.data }, { on := 15, ground := Ground.gcOnly Departure.lateStores }], guard := none }) (v := ?_) rfl (by kernel_rfl) (by kernel_rfl) (by kernel_rfl) (fun _ _ _ h => h) (Or.inl ⟨by rfl, ?_⟩) (by assumption) ?_
  rotate_left
  · (intro w hSw; (try dsimp only at hSw); go_simp <;> with_reducible rfl)
  try simp only [Act.put, List.setIfInBounds_toArray, List.set_cons_zero, List.set_cons_succ]
  refine wpAnyH_take (i := 15) (oi := { dst := some 2, op := Op.assign (Operand.tmp 114), type := 9, pos := "ref.go:34", after := #[{ on := 6, ground := Ground.data }, { on := 13, ground := Ground.chain }, { on := 0, ground := Ground.phase }, { on := 1, ground := Ground.phase }, { on := 2, ground := Ground.phase }, { on := 3, ground := Ground.phase }, { on := 4, ground := Ground.phase }, { on := 5, ground := Ground.phase }, { on := 6, ground := Ground.phase }, { on := 7, ground := Ground.textOnly Departure.lateStores }, { on := 8, ground := Ground.textOnly Departure.lateStores }, { on := 9, ground := Ground.textOnly Departure.lateStoresUnsure }, { on := 10, ground := Ground.textOnly Departure.lateStores }, { on := 11, ground := Ground.textOnly Departure.lateStores }, { on := 12, ground := Ground.textOnly Departure.lateStores }, { on := 13, ground := Ground.textOnly Departure.lateStoresUnsure }, { on := 14, ground := Ground.textOnly Departure.lateStores }], guard := none }) (v := ?_) rfl (by kernel_rfl) (by kernel_rfl) (by kernel_rfl) (fun _ _ _ h => h) (Or.inl ⟨by rfl, ?_⟩) (by assumption) ?_
  rotate_left
  · (intro w hSw; (try dsimp only at hSw); go_simp <;> with_reducible rfl)
  try simp only [Act.put, List.setIfInBounds_toArray, List.set_cons_zero, List.set_cons_succ]
  refine wpAnyH_take (i := 16) (oi := { dst := some 3, op := Op.assign (Operand.tmp 122), type := 4, pos := "ref.go:34", after := #[{ on := 14, ground := Ground.data }, { on := 15, ground := Ground.chain }, { on := 0, ground := Ground.phase }, { on := 1, ground := Ground.phase }, { on := 2, ground := Ground.phase }, { on := 3, ground := Ground.phase }, { on := 4, ground := Ground.phase }, { on := 5, ground := Ground.phase }, { on := 6, ground := Ground.phase }, { on := 7, ground := Ground.phase }, { on := 8, ground := Ground.phase }, { on := 9, ground := Ground.phase }, { on := 10, ground := Ground.phase }, { on := 11, ground := Ground.phase }, { on := 12, ground := Ground.phase }, { on := 13, ground := Ground.phase }, { on := 14, ground := Ground.phase }, { on := 15, ground := Ground.phase }], guard := none }) (v := ?_) rfl (by kernel_rfl) (by kernel_rfl) (by kernel_rfl) (fun _ _ _ h => h) (Or.inl ⟨by rfl, ?_⟩) (by assumption) ?_
  rotate_left
  · (intro w hSw; (try dsimp only at hSw); go_simp <;> with_reducible rfl)
  try simp only [Act.put, List.setIfInBounds_toArray, List.set_cons_zero, List.set_cons_succ]
  refine wpAnyH_done (by kernel_rfl) ?_ _
  have HE := Lib.hid hb4
  clear hb4
  go_wp2
  refine bodyPost_ret (results_tmp2 rfl _ _ _) rfl ?_
  exact ⟨enc (wv ix) 2 ++ da, _, by rw [HU3.out]; rfl, HOK.out, (fun _ => by unfold bodyP; simp), HB0.out.trans (HE.out.mono HB0.out.size)⟩

set_option maxRecDepth 20000 in
set_option maxHeartbeats 1000000 in
theorem rbody_6t (se ep sq vo : Nat) (nn ff ix co : Int) (da : List UInt8) (li : List (List UInt8)) (a : Option Addr) (n c : Nat) (w : World) (hT : Tx w a n c li) (hv : vo < 4294967296) (hd : da.length ≤ 100000) (hl : ∀ k, ((li.take k).flatten).length ≤ 100000) (hr1 : decide (0 ≤ ix ∧ ix < 65536) = true) :
    Calls Try.prog 19 #[frV (⟨6, se, ep, sq, vo, nn, ff, ix, co, da, li⟩ : FR) (.slice a n c)] w fun e w' => RB (⟨6, se, ep, sq, vo, nn, ff, ix, co, da, li⟩ : FR) w e w' := by
  obtain ⟨sd, hsd⟩ := str_of da
  obtain ⟨C, hC⟩ : ∃ C : Array Value, C = #[.int .i64 6, .int .u64 (se : Int), .int .u64 (ep : Int), .int .u32 (sq : Int), .int .u32 (vo : Int), .int .i64 nn, .int .i64 ff, .int .i64 ix, .int .i64 co, strV da, .slice a n c] := ⟨_, rfl⟩
  obtain ⟨W0, hW0⟩ : ∃ x, x = w.alloc (.cells C 26) := ⟨_, rfl⟩
  have hb0 : Below w.heap.size w W0 := by rw [hW0]; exact (Below.refl _ _).alloc (Nat.le_refl _) _
  have hbx : W0.heap[w.heap.size]? = some (.cells C 26 (0, 0)) := by rw [hW0]; exact heap_alloc_new _ _
  have hlt : w.heap.size < W0.heap.size := lt_of_block hbx
  have hcl : ∀ w', Below W0.heap.size W0 w' → ∀ i, w'.cell? ⟨w.heap.size, i, none⟩ = C[i]? := fun w' hb i => by rw [cell_of_blk ((hb.block w.heap.size hlt).trans hbx)]
  have k0 : W0.cell? ⟨w.heap.size, 0, none⟩ = some (.int .i64 6) := by rw [hcl W0 (Below.refl _ _), hC]; rfl
  have HCL := Lib.hid hcl
  have HSD := Lib.hid hsd
  have HC := Lib.hid hC
  have HW0 := Lib.hid hW0
  have HB0 := Lib.hid hb0
  have HBD := Lib.hid ((Below.refl W0.heap.size W0).drew)
  have HT := Lib.hid hT
  have HL := Lib.hid hl
  have HD := Lib.hid hd
  have hwc := wrap_wv
  have HDS := Lib.hid (show sd.size ≤ 100000 by rw [sd_size hsd]; exact hd)
  have HKP := Lib.hid (show ∀ w', Below W0.heap.size W0 w' → (fun w' : World => w'.cell? ⟨w.heap.size, 7, none⟩ = some (.int .i64 ix) ∧ w'.cell? ⟨w.heap.size, 9, none⟩ = some (.string sd)) w' from fun w' hb => ⟨by rw [hcl w' hb, hC]; rfl, by rw [hcl w' hb, hC]; rw [hsd]; rfl⟩)
  have HST := Lib.hid (HKP.out _ (Below.refl _ _))
  have HVV := Lib.hid hwc
  obtain ⟨t1, ht1⟩ := str_of (enc (wv ix) 2)
  have hu1 := add_str ht1 hsd
  have z1 : t1.size = 2 := by rw [sd_size ht1]; simp [enc_length]
  have HX1 := Lib.hid (text_w 2 ix (by omega) (by omega) t1 ht1)
  have HU3 := Lib.hid hu1
  have hn := rfnum2_any ix
  rw [hr1] at hn
  have HN1 := Lib.hid hn
  have hn3 := fun w => srright_any sd w
  obtain ⟨r3, hr3⟩ : ∃ r, r = decide (sd.size = 64) := ⟨_, rfl⟩
  rw [← hr3] at hn3
  have HN3 := Lib.hid hn3
  have HOK := Lib.hid (show r3 = bodyOK (⟨6, se, ep, sq, vo, nn, ff, ix, co, da, li⟩ : FR) from by unfold bodyOK; simp [hr1]; rw [hr3, sd_size hsd])
  clear hC hW0 hb0 hbx hlt hcl hT hl hd hsd ht1 hu1 hn hr1 hn3 hr3 hv
  unfold frV
  simp only
  go_enter Try.func19, Try.ntmps19
  go_upto_region 1 with fail
  rw [← HC.out, ← HW0.out]
  go_wp2_with fail
  refine wp_region_held_drew (S := fun w' : World => w'.cell? ⟨w.heap.size, 7, none⟩ = some (.int .i64 ix) ∧ w'.cell? ⟨w.heap.size, 9, none⟩ = some (.string sd)) (by kernel_rfl) (HST.out) (fun hHeld => ?_)
  refine wpAnyH_take (i := 0) (oi := { dst := some 108, op := Op.fieldAddr 26 (Operand.tmp 1) 7, type := 0, pos := "ref.go:34", after := #[], guard := none }) (v := ?_) rfl (by kernel_rfl) (by kernel_rfl) (by kernel_rfl) (fun _ _ _ h => h) (Or.inl ⟨by rfl, ?_⟩) (by assumption) ?_
  rotate_left
  · (intro w hSw; (try dsimp only at hSw); go_simp <;> with_reducible rfl)
  try simp only [Act.put, List.setIfInBounds_toArray, List.set_cons_zero, List.set_cons_succ]
  refine wpAnyH_take (i := 1) (oi := { dst := some 109, op := Op.load 3 (Operand.tmp 108), type := 3, pos := "ref.go:34", after := #[{ on := 0, ground := Ground.data }], guard := none }) (v := ?_) rfl (by kernel_rfl) (by kernel_rfl) (by kernel_rfl) (fun _ _ _ h => h) (Or.inl ⟨by rfl, ?_⟩) (by assumption) ?_
  rotate_left
  · (intro w hSw; (try dsimp only at hSw); go_simp <;> with_reducible rfl)
  try simp only [Act.put, List.setIfInBounds_toArray, List.set_cons_zero, List.set_cons_succ]
  refine wpAnyH_take (i := 2) (oi := { dst := some 110, op := Op.convert 3 22 (Operand.tmp 109), type := 22, pos := "ref.go:34", after := #[{ on := 1, ground := Ground.data }], guard := none }) (v := ?_) rfl (by kernel_rfl) (by kernel_rfl) (by kernel_rfl) (fun _ _ _ h => h) (Or.inl ⟨by rfl, ?_⟩) (by assumption) ?_
  rotate_left
  · (intro w hSw; (try dsimp only at hSw); go_simp <;> with_reducible rfl)
  try simp only [Act.put, List.setIfInBounds_toArray, List.set_cons_zero, List.set_cons_succ]
  refine wpAnyH_take (i := 4) (oi := { dst := some 112, op := Op.fieldAddr 26 (Operand.tmp 1) 9, type := 0, pos := "ref.go:34", after := #[], guard := none }) (v := ?_) rfl (by kernel_rfl) (by kernel_rfl) (by kernel_rfl) (fun _ _ _ h => h) (Or.inl ⟨by rfl, ?_⟩) (by assumption) ?_
  rotate_left
  · (intro w hSw; (try dsimp only at hSw); go_simp <;> with_reducible rfl)
  try simp only [Act.put, List.setIfInBounds_toArray, List.set_cons_zero, List.set_cons_succ]
  refine wpAnyH_take (i := 5) (oi := { dst := some 113, op := Op.load 9 (Operand.tmp 112), type := 9, pos := "ref.go:34", after := #[{ on := 4, ground := Ground.data }], guard := none }) (v := ?_) rfl (by kernel_rfl) (by kernel_rfl) (by kernel_rfl) (fun _ _ _ h => h) (Or.inl ⟨by rfl, ?_⟩) (by assumption) ?_
  rotate_left
  · (intro w hSw; (try dsimp only at hSw); go_simp <;> with_reducible rfl)
  try simp only [Act.put, List.setIfInBounds_toArray, List.set_cons_zero, List.set_cons_succ]
  refine wpAnyH_take (i := 7) (oi := { dst := some 115, op := Op.fieldAddr 26 (Operand.tmp 1) 7, type := 0, pos := "ref.go:34", after := #[], guard := none }) (v := ?_) rfl (by kernel_rfl) (by kernel_rfl) (by kernel_rfl) (fun _ _ _ h => h) (Or.inl ⟨by rfl, ?_⟩) (by assumption) ?_
  rotate_left
  · (intro w hSw; (try dsimp only at hSw); go_simp <;> with_reducible rfl)
  try simp only [Act.put, List.setIfInBounds_toArray, List.set_cons_zero, List.set_cons_succ]
  refine wpAnyH_take (i := 8) (oi := { dst := some 116, op := Op.load 3 (Operand.tmp 115), type := 3, pos := "ref.go:34", after := #[{ on := 7, ground := Ground.data }], guard := none }) (v := ?_) rfl (by kernel_rfl) (by kernel_rfl) (by kernel_rfl) (fun _ _ _ h => h) (Or.inl ⟨by rfl, ?_⟩) (by assumption) ?_
  rotate_left
  · (intro w hSw; (try dsimp only at hSw); go_simp <;> with_reducible rfl)
  try simp only [Act.put, List.setIfInBounds_toArray, List.set_cons_zero, List.set_cons_succ]
  refine wpAnyH_ready (rs := [3]) (by kernel_rfl) (by simp) ?_
  refine AllReadyH.cons (o := { dst := some 111, op := Op.call { callee := Callee.value (Operand.func 21), args := #[Operand.const (Value.int IntKind.i64 2), Operand.tmp 110], argTypes := #[3, 22] }, type := 9, pos := "ref.go:34", after := #[{ on := 2, ground := Ground.data }], guard := none }) rfl (fun K hK => ?_) AllReadyH.nil
  go_simp
  go_at_call 21
  refine (HX1.out _).mono ?_
  rintro r w4 ⟨rfl, hb⟩
  have hb4 := HBD.out.trans (hb.mono HBD.out.size)
  clear hb
  refine hK _ _ (HKP.out _ hb4) (fun hHeld => ?_)
  clear hK K
  try simp only [Act.put, List.setIfInBounds_toArray, List.set_cons_zero, List.set_cons_succ]
  refine wpAnyH_take (i := 6) (oi := { dst := some 114, op := Op.binOp BinOp.add 9 (Operand.tmp 111) (Operand.tmp 113) 9, type := 9, pos := "ref.go:34", after := #[{ on := 3, ground := Ground.data }, { on := 5, ground := Ground.data }], guard := none }) (v := ?_) rfl (by kernel_rfl) (by kernel_rfl) (by kernel_rfl) (fun _ _ _ h => h) (Or.inl ⟨by rfl, ?_⟩) (by assumption) ?_
  rotate_left
  · (intro w hSw; (try dsimp only at hSw); first | (go_simp <;> with_reducible rfl) | (go_simp; rw [if_neg (by have := HDS.out; first | omega | (simp only [ByteArray.size_append]; omega))]))
  try simp only [Act.put, List.setIfInBounds_toArray, List.set_cons_zero, List.set_cons_succ]
  refine wpAnyH_ready (rs := [9]) (by kernel_rfl) (by simp) ?_
  refine AllReadyH.cons (o := { dst := some 117, op := Op.call { callee := Callee.value (Operand.func 37), args := #[Operand.tmp 116, Operand.const (Value.int IntKind.i64 2)], argTypes := #[3, 3] }, type := 4, pos := "ref.go:34", after := #[{ on := 8, ground := Ground.data }, { on := 3, ground := Ground.chain }], guard := none }) rfl (fun K hK => ?_) AllReadyH.nil
  go_simp
  go_at_call 37
  refine (HN1.out _).mono ?_
  rintro r w7 ⟨rfl, h⟩
  obtain rfl := h.symm
  clear h
  refine hK _ _ (HKP.out _ hb4) (fun hHeld => ?_)
  clear hK K
  try simp only [Act.put, List.setIfInBounds_toArray, List.set_cons_zero, List.set_cons_succ]
  refine wpAnyH_take (i := 10) (oi := { dst := some 118, op := Op.move (Operand.tmp 117), type := 4, pos := "ref.go:34", after := #[{ on := 9, ground := Ground.data }, { on := 9, ground := Ground.chain }], guard := none }) (v := ?_) rfl (by kernel_rfl) (by kernel_rfl) (by kernel_rfl) (fun _ _ _ h => h) (Or.inl ⟨by rfl, ?_⟩) (by assumption) ?_
  rotate_left
  · (intro w hSw; (try dsimp only at hSw); go_simp <;> with_reducible rfl)
  try simp only [Act.put, List.setIfInBounds_toArray, List.set_cons_zero, List.set_cons_succ]
  refine wpAnyH_take (i := 11) (oi := { dst := some 119, op := Op.fieldAddr 26 (Operand.tmp 1) 9, type := 0, pos := "ref.go:34", after := #[{ on := 10, ground := Ground.guard }], guard := some (10, true) }) (v := ?_) rfl (by kernel_rfl) (by kernel_rfl) (by kernel_rfl) (fun _ _ _ h => h) (Or.inl ⟨by rfl, ?_⟩) (by assumption) ?_
  rotate_left
  · (intro w hSw; (try dsimp only at hSw); go_simp <;> with_reducible rfl)
  try simp only [Act.put, List.setIfInBounds_toArray, List.set_cons_zero, List.set_cons_succ]
  refine wpAnyH_take (i := 12) (oi := { dst := some 120, op := Op.load 9 (Operand.tmp 119), type := 9, pos := "ref.go:34", after := #[{ on := 11, ground := Ground.data }, { on := 10, ground := Ground.guard }], guard := some (10, true) }) (v := ?_) rfl (by kernel_rfl) (by kernel_rfl) (by kernel_rfl) (fun _ _ _ h => h) (Or.inl ⟨by rfl, ?_⟩) (by assumption) ?_
  rotate_left
  · (intro w hSw; (try dsimp only at hSw); go_simp <;> with_reducible rfl)
  try simp only [Act.put, List.setIfInBounds_toArray, List.set_cons_zero, List.set_cons_succ]
  refine wpAnyH_ready (rs := [13]) (by kernel_rfl) (by simp) ?_
  refine AllReadyH.cons (o := { dst := some 121, op := Op.call { callee := Callee.value (Operand.func 39), args := #[Operand.tmp 120], argTypes := #[9] }, type := 4, pos := "ref.go:34", after := #[{ on := 12, ground := Ground.data }, { on := 10, ground := Ground.chain }, { on := 10, ground := Ground.guard }], guard := some (10, true) }) rfl (fun K hK => ?_) AllReadyH.nil
  go_simp
  go_at_call 39
  refine (HN3.out _).mono ?_
  rintro r w9 ⟨rfl, h⟩
  obtain rfl := h.symm
  clear h
  refine hK _ _ (HKP.out _ hb4) (fun hHeld => ?_)
  clear hK K
  try simp only [Act.put, List.setIfInBounds_toArray, List.set_cons_zero, List.set_cons_succ]
  refine wpAnyH_take (i := 14) (oi := { dst := some 122, op := Op.pick (Operand.tmp 118) (Operand.tmp 121) (Operand.const (Value.bool false)), type := 4, pos := "ref.go:34", after := #[{ on := 10, ground := Ground.data }, { on := 13, ground := Ground.data }, { on := 15, ground := Ground.gcOnly Departure.lateStores }], guard := none }) (v := ?_) rfl (by kernel_rfl) (by kernel_rfl) (by kernel_rfl) (fun _ _ _ h => h) (Or.inl ⟨by rfl, ?_⟩) (by assumption) ?_
  rotate_left
  · (intro w hSw; (try dsimp only at hSw); go_simp <;> with_reducible rfl)
  try simp only [Act.put, List.setIfInBounds_toArray, List.set_cons_zero, List.set_cons_succ]
  refine wpAnyH_take (i := 15) (oi := { dst := some 2, op := Op.assign (Operand.tmp 114), type := 9, pos := "ref.go:34", after := #[{ on := 6, ground := Ground.data }, { on := 13, ground := Ground.chain }, { on := 0, ground := Ground.phase }, { on := 1, ground := Ground.phase }, { on := 2, ground := Ground.phase }, { on := 3, ground := Ground.phase }, { on := 4, ground := Ground.phase }, { on := 5, ground := Ground.phase }, { on := 6, ground := Ground.phase }, { on := 7, ground := Ground.textOnly Departure.lateStores }, { on := 8, ground := Ground.textOnly Departure.lateStores }, { on := 9, ground := Ground.textOnly Departure.lateStoresUnsure }, { on := 10, ground := Ground.textOnly Departure.lateStores }, { on := 11, ground := Ground.textOnly Departure.lateStores }, { on := 12, ground := Ground.textOnly Departure.lateStores }, { on := 13, ground := Ground.textOnly Departure.lateStoresUnsure }, { on := 14, ground := Ground.textOnly Departure.lateStores }], guard := none }) (v := ?_) rfl (by kernel_rfl) (by kernel_rfl) (by kernel_rfl) (fun _ _ _ h => h) (Or.inl ⟨by rfl, ?_⟩) (by assumption) ?_
  rotate_left
  · (intro w hSw; (try dsimp only at hSw); go_simp <;> with_reducible rfl)
  try simp only [Act.put, List.setIfInBounds_toArray, List.set_cons_zero, List.set_cons_succ]
  refine wpAnyH_take (i := 16) (oi := { dst := some 3, op := Op.assign (Operand.tmp 122), type := 4, pos := "ref.go:34", after := #[{ on := 14, ground := Ground.data }, { on := 15, ground := Ground.chain }, { on := 0, ground := Ground.phase }, { on := 1, ground := Ground.phase }, { on := 2, ground := Ground.phase }, { on := 3, ground := Ground.phase }, { on := 4, ground := Ground.phase }, { on := 5, ground := Ground.phase }, { on := 6, ground := Ground.phase }, { on := 7, ground := Ground.phase }, { on := 8, ground := Ground.phase }, { on := 9, ground := Ground.phase }, { on := 10, ground := Ground.phase }, { on := 11, ground := Ground.phase }, { on := 12, ground := Ground.phase }, { on := 13, ground := Ground.phase }, { on := 14, ground := Ground.phase }, { on := 15, ground := Ground.phase }], guard := none }) (v := ?_) rfl (by kernel_rfl) (by kernel_rfl) (by kernel_rfl) (fun _ _ _ h => h) (Or.inl ⟨by rfl, ?_⟩) (by assumption) ?_
  rotate_left
  · (intro w hSw; (try dsimp only at hSw); go_simp <;> with_reducible rfl)
  try simp only [Act.put, List.setIfInBounds_toArray, List.set_cons_zero, List.set_cons_succ]
  refine wpAnyH_done (by kernel_rfl) ?_ _
  have HE := Lib.hid hb4
  clear hb4
  go_wp2
  refine bodyPost_ret (results_tmp2 rfl _ _ _) rfl ?_
  exact ⟨enc (wv ix) 2 ++ da, _, by rw [HU3.out]; rfl, HOK.out, (fun _ => by unfold bodyP; simp), HB0.out.trans (HE.out.mono HB0.out.size)⟩

end Go.Proofs.Ytipegdfjpmlcbaa


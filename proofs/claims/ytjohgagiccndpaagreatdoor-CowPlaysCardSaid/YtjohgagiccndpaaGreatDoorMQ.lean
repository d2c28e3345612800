/-
  Texts put together: Q0, Q1, Q2.
-/
import Derived.Test.YtjohgagiccndpaaGreatDoorMP5
import Derived.Test.YtjohgagiccndpaaGreatDoorMPC
/-
  cow: what its Append calls.
-/
namespace Go.Proofs.YtjohgagiccndpaaGreatDoor
open Go.RowKit
set_option linter.unusedVariables false
set_option linter.unusedSimpArgs false

set_option maxRecDepth 20000 in
set_option maxHeartbeats 2000000 in
theorem cstore_any (B p : Nat) (v1 v2 : Value) (S : DS) (at' : Int) (data : ByteArray) (w : World) (h : PD w B p v1 v2 S) (hB : B ≤ w.heap.size) (N : Nat) (hok : S.ok N) (hN : N + 1 ≤ 1000000) :
    Calls Tryz.prog 81 #[.pointer (some ⟨p, 0, none⟩), .int .i64 at', .string data] w fun e w' => e = .returned (.int .i64 (storeP S at' data).1) ∧ PP w B p v1 v2 (storeP S at' data).2 w' := by
  unfold storeP
  have hwt := write_any B p v1 v2 S at' data w h hB N hok (by omega)
  have hwo := hok.write at' data
  obtain ⟨r, T, hrT⟩ : ∃ r T, S.write at' data = (r, T) := ⟨_, _, rfl⟩
  rw [hrT] at hwt hwo ⊢
  dsimp only at hwt hwo ⊢
  have HWT := Lib.hid hwt
  have HWO := Lib.hid hwo
  clear hrT hwt hwo h
  by_cases hr : r = 0
  · subst hr
    rw [if_neg (by simp)]
    have hfl := fun w3 a b (h3 : PD w3 B p a b T) (hB3 : B ≤ w3.heap.size) => flush_any B p a b T w3 h3 hB3 (N + 1) HWO.out hN
    obtain ⟨r2, T2, hT2⟩ : ∃ r T', T.flush = (r, T') := ⟨_, _, rfl⟩
    rw [hT2] at hfl ⊢
    dsimp only at hfl ⊢
    have HFL := Lib.hid hfl
    clear hfl hT2
    go_enter Tryz.func81, Tryz.ntmps81
    go_wp2_with fail
    refine HWT.out.mono ?_
    rintro e w1 ⟨rfl, hpp⟩
    have HPP := Lib.hid hpp
    obtain ⟨a, b, hp3, hf3, ht3⟩ := hpp
    go_wp2_with fail
    refine (HFL.out w1 a b hp3 (Nat.le_trans hB hf3.size)).mono ?_
    rintro e w2 ⟨rfl, hpp⟩
    have HFIN := Lib.hid (show PP w B p v1 v2 T2 w2 from by
      obtain ⟨a2, b2, hp4, hf4, ht4⟩ := hpp
      exact ⟨a2, b2, hp4, hf3.trans hf4 (fun i hi => ht3 i hi), fun i hi => (ht4 i hi).elim (ht3 i) (fun h => .inr (Nat.le_trans hf3.size h))⟩)
    clear hp3 hf3 ht3 hpp HFL HPP
    go_wp2
    go_ret
    exact ⟨rfl, HFIN.out⟩
  · have hr2 : (r == 0) = false := by simpa using hr
    have hr3 : (r != 0) = true := by simp [hr]
    rw [if_pos hr]
    dsimp only
    clear hr
    go_enter Tryz.func81, Tryz.ntmps81
    go_wp2_with fail
    refine HWT.out.mono ?_
    rintro e w1 ⟨rfl, hpp⟩
    have HPP := Lib.hid hpp
    clear hpp HWT
    go_wp2
    go_ret
    exact ⟨rfl, HPP.out⟩


set_option maxRecDepth 20000 in
set_option maxHeartbeats 2000000 in
theorem clocations_any (N F C U : Int) (k : Nat) (hk : k ≤ 1000) (w : World) :
    Calls Tryz.prog 80 #[geo N F C U, .int .i64 k] w fun e w' => e = .returned (.tuple #[.int .i64 (areaAt N F C U 0 (2 * k)), .int .i64 (areaAt N F C U 0 (2 * k + 1))]) ∧ Below w.heap.size w w' := by
  have h1 := fun w => area_any N F C U 0 (2 * k) w
  have h2 := fun w => area_any N F C U 0 (2 * k + 1) w
  obtain ⟨A1, hA1⟩ : ∃ A, A = areaAt N F C U 0 (2 * k) := ⟨_, rfl⟩
  obtain ⟨A2, hA2⟩ : ∃ A, A = areaAt N F C U 0 (2 * k + 1) := ⟨_, rfl⟩
  rw [← hA1, ← hA2]
  simp only [← hA1] at h1
  simp only [← hA2] at h2
  obtain ⟨x1, hx1⟩ : ∃ x : Int, x = 2 * k := ⟨_, rfl⟩
  obtain ⟨x2, hx2⟩ : ∃ x : Int, x = 2 * k + 1 := ⟨_, rfl⟩
  have m1 : IntKind.i64.wrap (2 * (k : Int)) = x1 := (IntWalk.i64_in _ (by omega)).trans hx1.symm
  have m2 : IntKind.i64.wrap (x1 + 1) = x2 := (IntWalk.i64_in _ (by omega)).trans (by omega)
  simp only [← hx1] at h1
  simp only [← hx2] at h2
  unfold geo at h1 h2
  have H1 := Lib.hid h1
  have H2 := Lib.hid h2
  clear h1 h2 hA1 hA2 hx1 hx2
  have hcells := gb_cells w N F C U
  have HC := Lib.hid hcells
  clear hcells
  unfold gbox at HC
  unfold geo
  have HSZ := Lib.hid (World.size_alloc w (.cells #[.int .i64 N, .int .i64 F, .int .i64 C, .int .i64 U] 23))
  go_enter Tryz.func80, Tryz.ntmps80
  go_upto_region 1 with fail
  have hG : Below (w.heap.size + 1) (w.alloc (.cells #[.int .i64 N, .int .i64 F, .int .i64 C, .int .i64 U] 23)) ((w.alloc (.cells #[.int .i64 N, .int .i64 F, .int .i64 C, .int .i64 U] 23)).drew) := (Below.refl _ _).drew
  go_region_held3 (fun w' => w'.cell? ⟨w.heap.size, 0, none⟩ = some (.int .i64 N) ∧ w'.cell? ⟨w.heap.size, 1, none⟩ = some (.int .i64 F) ∧ w'.cell? ⟨w.heap.size, 2, none⟩ = some (.int .i64 C) ∧ w'.cell? ⟨w.heap.size, 3, none⟩ = some (.int .i64 U))
    (exact HC.out _ hG)
    (first
    | (go_at_call 100; with_reducible refine (H1.out _).mono ?_; rintro r wk ⟨rfl, hb⟩; replace hG := hG.trans (hb.mono (by have := hG.size; have := HSZ.out; omega)); clear hb)
    | (go_at_call 100; with_reducible refine (H2.out _).mono ?_; rintro r wk ⟨rfl, hb⟩; replace hG := hG.trans (hb.mono (by have := hG.size; have := HSZ.out; omega)); clear hb))
  all_goals (
    rename_i hHeld
    clear hHeld
    have HB := Lib.hid (((Below.refl _ w).alloc (Nat.le_refl _) (.cells #[.int .i64 N, .int .i64 F, .int .i64 C, .int .i64 U] 23)).trans (hG.mono (by omega)))
    clear hG
    go_wp2
    refine bodyPost_ret (results_tmp2 rfl _ _ _) rfl ?_
    exact ⟨rfl, HB.out⟩)


/-- There is such a data sector. -/
def isD (N i : Int) : Prop := 0 ≤ i ∧ i < N
instance (N i : Int) : Decidable (isD N i) := by unfold isD; infer_instance
set_option maxRecDepth 20000 in
set_option maxHeartbeats 2000000 in
theorem cisdata_any (N F C U i : Int) (w : World) (ho : okG N F C U) :
    Calls Tryz.prog 78 #[geo N F C U, .int .i64 i] w fun e w' => e = .returned (.bool (decide (isD N i))) ∧ Below w.heap.size w w' := by
  have hd := fun w => data_any N F C U i w
  obtain ⟨t, ht⟩ : ∃ t, t = dataAt N F C U i := ⟨_, rfl⟩
  rw [← ht] at hd
  have HB0 := Lib.hid ((Below.refl w.heap.size w).alloc (Nat.le_refl _) (.cells #[.int .i64 N, .int .i64 F, .int .i64 C, .int .i64 U] 23))
  unfold geo at hd ⊢
  have HD := Lib.hid hd
  by_cases hi : isD N i
  · rw [decide_eq_true hi]
    have h0 : (0 : Int) ≤ t := by unfold dataAt at ht; rw [if_pos ⟨ho, hi.1, hi.2⟩] at ht; have := hi.1; omega
    have h1 : t ≥ 0 := h0
    clear hd ht ho hi
    go_enter Tryz.func78, Tryz.ntmps78
    go_wp2_with fail
    refine (HD.out _).mono ?_
    rintro e w1 ⟨rfl, hb⟩
    have HB := Lib.hid (HB0.out.trans (hb.mono HB0.out.size))
    clear hb
    go_wp2
    go_ret
    exact ⟨rfl, HB.out⟩
  · rw [decide_eq_false hi]
    obtain rfl : t = -1 := by unfold dataAt at ht; rw [if_neg (fun h => hi ⟨h.2.1, h.2.2⟩)] at ht; exact ht
    clear hd ht ho hi
    go_enter Tryz.func78, Tryz.ntmps78
    go_wp2_with fail
    refine (HD.out _).mono ?_
    rintro e w1 ⟨rfl, hb⟩
    have HB := Lib.hid (HB0.out.trans (hb.mono HB0.out.size))
    clear hb
    go_wp2
    go_ret
    exact ⟨rfl, HB.out⟩

/-- A head as a value, and as a sector. -/
def cheadV (epoch k leaf sum : Nat) : Value := .agg #[.int .u64 (epoch : Int), .int .i64 (k : Int), .int .i64 (leaf : Int), .int .u32 (sum : Int)]
def cheadL (epoch k leaf sum : Nat) : List UInt8 := enc epoch 8 ++ enc k 4 ++ enc leaf 4 ++ enc sum 4
theorem cheadL_length (epoch k leaf sum : Nat) : (cheadL epoch k leaf sum).length = 20 := by simp [cheadL, enc_length]
def cheadB (epoch k leaf sum : Nat) : ByteArray := ⟨(recL 8 (cheadL epoch k leaf sum)).toArray⟩
theorem cheadB_size (epoch k leaf sum : Nat) : (cheadB epoch k leaf sum).size = 64 := by
  show (List.toArray (recL 8 _)).size = 64
  rw [List.size_toArray, recL_length _ _ (by rw [cheadL_length]; omega)]
theorem make_chead (epoch k leaf sum : Nat) : makeP 8 (cheadL epoch k leaf sum) = (recL 8 (cheadL epoch k leaf sum), 0) := by
  unfold makeP
  rw [if_neg (by omega), if_neg (by rw [cheadL_length]; omega)]
  rfl

set_option maxRecDepth 20000 in
set_option maxHeartbeats 2000000 in
theorem cencode_any (epoch k leaf sum : Nat) (w : World) (h2 : epoch < 18446744073709551616) (h3 : k < 4294967296) (h4 : leaf < 4294967296) (h5 : sum < 4294967296) :
    Calls Tryz.prog 82 #[cheadV epoch k leaf sum] w fun e w' => e = .returned (.string (cheadB epoch k leaf sum)) ∧ Below w.heap.size w w' := by
  have p1 := fun w => put_ok none 0 0 [] 8 epoch w (rd_nil w) (by omega) (by omega) h2 (by omega)
  have p2 := fun g c w (h : Rd w (some ⟨g, 0, none⟩) 8 c (enc epoch 8)) => put_ok (some ⟨g, 0, none⟩) 8 c _ 4 k w h (by omega) (by omega) (by omega) (by omega)
  have p3 := fun g c w (h : Rd w (some ⟨g, 0, none⟩) 12 c (enc epoch 8 ++ enc k 4)) => put_ok (some ⟨g, 0, none⟩) 12 c _ 4 leaf w h (by omega) (by omega) (by omega) (by omega)
  have p4 := fun g c w (h : Rd w (some ⟨g, 0, none⟩) 16 c (enc epoch 8 ++ enc k 4 ++ enc leaf 4)) => put_ok (some ⟨g, 0, none⟩) 16 c _ 4 sum w h (by omega) (by omega) (by omega) (by omega)
  simp only [Nat.zero_add, List.nil_append, Nat.reduceAdd] at p1 p2 p3 p4
  have hmk := fun w => make_any 8 ⟨(cheadL epoch k leaf sum).toArray⟩ w (by show (List.toArray (cheadL epoch k leaf sum)).size ≤ _; rw [List.size_toArray, cheadL_length]; omega)
  rw [show (⟨(cheadL epoch k leaf sum).toArray⟩ : ByteArray).data.toList = cheadL epoch k leaf sum from rfl, make_chead] at hmk
  unfold tupV at hmk
  dsimp only at hmk
  rw [show strV (recL 8 (cheadL epoch k leaf sum)) = Value.string (cheadB epoch k leaf sum) from rfl] at hmk
  obtain ⟨V2, hV2⟩ : ∃ V : Value, V = Value.string ⟨(cheadL epoch k leaf sum).toArray⟩ := ⟨_, rfl⟩
  rw [← hV2] at hmk
  obtain ⟨V3, hV3⟩ : ∃ V, V = cheadB epoch k leaf sum := ⟨_, rfl⟩
  rw [← hV3] at hmk ⊢
  have c1 : IntKind.u64.wrap (k : Int) = (k : Int) := IntWalk.u64_in _ (by omega)
  have c2 : IntKind.u64.wrap (leaf : Int) = (leaf : Int) := IntWalk.u64_in _ (by omega)
  have c3 : IntKind.u64.wrap (sum : Int) = (sum : Int) := IntWalk.u64_in _ (by omega)
  have hbx : ∀ w', Below (w.heap.size + 1) (w.alloc (.cells #[.int .u64 (epoch : Int), .int .i64 (k : Int), .int .i64 (leaf : Int), .int .u32 (sum : Int)] 128)) w' → w'.cell? ⟨w.heap.size, 0, none⟩ = some (.int .u64 (epoch : Int)) ∧ w'.cell? ⟨w.heap.size, 1, none⟩ = some (.int .i64 (k : Int)) ∧ w'.cell? ⟨w.heap.size, 2, none⟩ = some (.int .i64 (leaf : Int)) ∧ w'.cell? ⟨w.heap.size, 3, none⟩ = some (.int .u32 (sum : Int)) := by
    intro w' hb
    have e := (hb.block w.heap.size (Nat.lt_succ_self _)).trans (heap_alloc_new w _)
    refine ⟨?_, ?_, ?_, ?_⟩ <;> (rw [cell_of_blk e]; rfl)
  have hsz := World.size_alloc w (.cells #[.int .u64 (epoch : Int), .int .i64 (k : Int), .int .i64 (leaf : Int), .int .u32 (sum : Int)] 128)
  have hB0 : Below w.heap.size w (w.alloc (.cells #[.int .u64 (epoch : Int), .int .i64 (k : Int), .int .i64 (leaf : Int), .int .u32 (sum : Int)] 128)) := (Below.refl _ w).alloc (Nat.le_refl _) _
  obtain ⟨W0, hW0⟩ : ∃ W0, W0 = w.alloc (.cells #[.int .u64 (epoch : Int), .int .i64 (k : Int), .int .i64 (leaf : Int), .int .u32 (sum : Int)] 128) := ⟨_, rfl⟩
  rw [← hW0] at hbx hsz hB0
  have P1 := Lib.hid p1
  have P2 := Lib.hid p2
  have P3 := Lib.hid p3
  have P4 := Lib.hid p4
  have HMK := Lib.hid hmk
  have HV2 := Lib.hid hV2
  have HBX := Lib.hid hbx
  have HSZ := Lib.hid hsz
  have HB0 := Lib.hid hB0
  have HW0 := Lib.hid hW0
  have s1 : (0 : Int) ≤ (sum : Int) := by omega
  have s2 : (sum : Int) < 4294967296 := by omega
  clear p1 p2 p3 p4 hmk hV2 hV3 hbx hsz hB0 hW0 h2 h3 h4 h5
  unfold cheadV
  go_enter Tryz.func82, Tryz.ntmps82
  obtain ⟨b0, b1, b2, b3⟩ := HBX.out _ (Below.refl _ _)
  go_upto_region 1 with fail
  rw [← HW0.out]
  go_wp2_with fail
  refine (P1.out _).mono ?_
  rintro e w1 ⟨g1, c1', rfl, -, hrd, hb⟩
  have HX1 := Lib.hid (show Below (w.heap.size + 1) W0 w1 from hb.mono (by have := HSZ.out; omega))
  have hp := P2.out g1 c1' w1 hrd
  have HP := Lib.hid hp
  clear hrd hb hp P1 P2 b0 b1 b2 b3
  obtain ⟨b0, b1, b2, b3⟩ := HBX.out _ HX1.out
  go_wp2_with fail
  refine HP.out.mono ?_
  rintro e w2 ⟨g2, c2', rfl, -, hrd, hb⟩
  have HX2 := Lib.hid (HX1.out.trans (hb.mono (by have := HX1.out.size; have := HSZ.out; omega)))
  have hp := P3.out g2 c2' w2 hrd
  have HP3 := Lib.hid hp
  clear hrd hb hp HP P3 b0 b1 b2 b3 HX1
  obtain ⟨b0, b1, b2, b3⟩ := HBX.out _ HX2.out
  go_wp2_with fail
  refine HP3.out.mono ?_
  rintro e w3 ⟨g3, c3', rfl, -, hrd, hb⟩
  have HX3 := Lib.hid (HX2.out.trans (hb.mono (by have := HX2.out.size; have := HSZ.out; omega)))
  have hp := P4.out g3 c3' w3 hrd
  have HP4 := Lib.hid hp
  clear hrd hb hp HP3 P4 b0 b1 b2 b3 HX2
  obtain ⟨b0, b1, b2, b3⟩ := HBX.out _ HX3.out
  go_wp2_with fail
  refine HP4.out.mono ?_
  rintro e w5 ⟨g5, c5', rfl, -, hrd, hb⟩
  have HX5 := Lib.hid (HX3.out.trans (hb.mono (by have := HX3.out.size; have := HSZ.out; omega)))
  have hcv := rd_string hrd
  change _ = Result.ok (Value.string ⟨(cheadL epoch k leaf sum).toArray⟩) w5 at hcv
  rw [← HV2.out] at hcv
  clear hrd hb HP4 b0 b1 b2 b3 HX3
  go_wp2_with fail
  refine (HMK.out _).mono ?_
  rintro e w6 ⟨rfl, hb⟩
  have HX6 := Lib.hid (HX5.out.trans (hb.mono (by have := HX5.out.size; have := HSZ.out; omega)))
  have HFIN := Lib.hid (HB0.out.trans (HX6.out.mono (by omega)))
  clear hb HMK hcv HX5
  go_wp2
  go_ret
  exact ⟨rfl, HFIN.out⟩

set_option maxRecDepth 20000 in
set_option maxHeartbeats 2000000 in
theorem centry_any (epoch k leaf sum : Nat) (old : ByteArray) (w : World) :
    Calls Tryz.prog 83 #[cheadV epoch k leaf sum, .string old] w fun e w' => e = .returned (En.val ⟨0, epoch, leaf, old⟩) ∧ Below w.heap.size w w' := by
  unfold cheadV En.val
  dsimp only
  rw [show ((0 : Nat) : Int) = 0 from rfl]
  generalize (epoch : Int) = x1
  generalize (k : Int) = x2
  generalize (leaf : Int) = x3
  generalize (sum : Int) = x4
  have e1 := heap_alloc_new (w.alloc (.cells #[.int .u64 x1, .int .i64 x2, .int .i64 x3, .int .u32 x4] 128)) (.cells #[.int .u64 0, .int .u64 x1, .int .i64 x3, .string old] 55)
  rw [World.size_alloc] at e1
  have hb2 : Below w.heap.size w ((w.alloc (.cells #[.int .u64 x1, .int .i64 x2, .int .i64 x3, .int .u32 x4] 128)).alloc (.cells #[.int .u64 0, .int .u64 x1, .int .i64 x3, .string old] 55)) := ((Below.refl _ w).alloc (Nat.le_refl _) _).alloc (by simp) _
  have k0 := cell_of_blk e1 0
  have k1 := cell_of_blk e1 1
  have k2 := cell_of_blk e1 2
  have k3 := cell_of_blk e1 3
  have HB2 := Lib.hid hb2
  have HK := Lib.hid (And.intro k0 (And.intro k1 (And.intro k2 k3)))
  clear e1 hb2 k0 k1 k2 k3
  go_enter Tryz.func83, Tryz.ntmps83
  go_wp2
  obtain ⟨k0, k1, k2, k3⟩ := HK.out
  refine bodyPost_ret (by simp [results, Tryz.f83, go_sem, k0, k1, k2, k3]; try rfl) rfl ?_
  exact ⟨rfl, HB2.out⟩

/-- A data sector that is saved as an entry: the answer, the entry, and the disk then. -/
def capP (N F C U : Int) (S : DS) (k : Int) (epoch : Nat) (i : Int) : ApR :=
  if ¬ okG N F C U then ⟨12, noEn, S⟩ else if k < 0 ∨ C ≤ k then ⟨11, noEn, S⟩ else if ¬ isD N i then ⟨3, noEn, S⟩ else
    if (S.read (6 + i)).2 ≠ 0 then ⟨(S.read (6 + i)).2, noEn, S⟩ else
      if (storeP S (areaAt N F C U 0 (2 * k + 1)) (S.read (6 + i)).1).1 ≠ 0 then ⟨(storeP S (areaAt N F C U 0 (2 * k + 1)) (S.read (6 + i)).1).1, noEn, (storeP S (areaAt N F C U 0 (2 * k + 1)) (S.read (6 + i)).1).2⟩ else
        if (storeP (storeP S (areaAt N F C U 0 (2 * k + 1)) (S.read (6 + i)).1).2 (areaAt N F C U 0 (2 * k)) (cheadB epoch k.toNat i.toNat (sumN (S.read (6 + i)).1))).1 ≠ 0 then
          ⟨(storeP (storeP S (areaAt N F C U 0 (2 * k + 1)) (S.read (6 + i)).1).2 (areaAt N F C U 0 (2 * k)) (cheadB epoch k.toNat i.toNat (sumN (S.read (6 + i)).1))).1, noEn, (storeP (storeP S (areaAt N F C U 0 (2 * k + 1)) (S.read (6 + i)).1).2 (areaAt N F C U 0 (2 * k)) (cheadB epoch k.toNat i.toNat (sumN (S.read (6 + i)).1))).2⟩
        else ⟨0, ⟨0, epoch, i, (S.read (6 + i)).1⟩, (storeP (storeP S (areaAt N F C U 0 (2 * k + 1)) (S.read (6 + i)).1).2 (areaAt N F C U 0 (2 * k)) (cheadB epoch k.toNat i.toNat (sumN (S.read (6 + i)).1))).2⟩
theorem capP_ok {N F C U : Int} {S : DS} {M : Nat} (h : S.ok M) (k : Int) (epoch : Nat) (i : Int) : (capP N F C U S k epoch i).ds.ok (M + 4) := by
  unfold capP
  split
  · exact h.mono (by omega)
  · split
    · exact h.mono (by omega)
    · split
      · exact h.mono (by omega)
      · split
        · exact h.mono (by omega)
        · split
          · exact (storeP_ok h _ _).mono (by omega)
          · split
            · exact storeP_ok (storeP_ok h _ _) _ _
            · exact storeP_ok (storeP_ok h _ _) _ _
end Go.Proofs.YtjohgagiccndpaaGreatDoor
/-
  cow's Append, whole.
-/
namespace Go.Proofs.YtjohgagiccndpaaGreatDoor
open Go.RowKit
set_option linter.unusedVariables false
set_option linter.unusedSimpArgs false

set_option maxRecDepth 20000 in
set_option maxHeartbeats 4000000 in
theorem cappend_any (B p : Nat) (v1 v2 : Value) (S : DS) (N F C U k : Int) (epoch : Nat) (i : Int) (w : World) (h : PD w B p v1 v2 S) (hB : B ≤ w.heap.size) (M : Nat) (hok : S.ok M) (hM : M + 4 ≤ 1000000) (he : epoch < 18446744073709551616) (hsz : ∀ (T : DS) (x : Int), T = S → (T.read x).1.size ≤ 140737488355328) :
    Calls Tryz.prog 39 #[.pointer (some ⟨p, 0, none⟩), geo N F C U, .int .i64 k, .int .u64 (epoch : Int), .int .i64 i] w fun e w' => e = .returned (capP N F C U S k epoch i).val ∧ PP w B p v1 v2 (capP N F C U S k epoch i).ds w' := by
  have HOLD := Lib.hid hsz
  have hv := fun k hk => (h.foot_low k hk).2
  have hr := fun w => gright_any N F C U w
  -- the two boxes
  have hg0 : ((w.alloc (.cells #[.int .i64 N, .int .i64 F, .int .i64 C, .int .i64 U] 23)).alloc (.cells #[.int .u64 0, .int .u64 0, .int .i64 0, .string ⟨#[]⟩] 55)).heap[w.heap.size]? = some (.cells #[.int .i64 N, .int .i64 F, .int .i64 C, .int .i64 U] 23 (0, 0)) := (Below.heap_alloc _ _ _ (by simp)).trans (heap_alloc_new w _)
  have hq0 : Box4 ((w.alloc (.cells #[.int .i64 N, .int .i64 F, .int .i64 C, .int .i64 U] 23)).alloc (.cells #[.int .u64 0, .int .u64 0, .int .i64 0, .string ⟨#[]⟩] 55)) (w.heap.size + 1) 55 (.int .u64 0) (.int .u64 0) (.int .i64 0) (.string ⟨#[]⟩) := by
    have e := heap_alloc_new (w.alloc (.cells #[.int .i64 N, .int .i64 F, .int .i64 C, .int .i64 U] 23)) (.cells #[.int .u64 0, .int .u64 0, .int .i64 0, .string ⟨#[]⟩] 55)
    rw [World.size_alloc] at e
    exact e
  have hb0 : Below w.heap.size w ((w.alloc (.cells #[.int .i64 N, .int .i64 F, .int .i64 C, .int .i64 U] 23)).alloc (.cells #[.int .u64 0, .int .u64 0, .int .i64 0, .string ⟨#[]⟩] 55)) := ((Below.refl _ w).alloc (Nat.le_refl _) _).alloc (by simp) _
  have hs0 : ((w.alloc (.cells #[.int .i64 N, .int .i64 F, .int .i64 C, .int .i64 U] 23)).alloc (.cells #[.int .u64 0, .int .u64 0, .int .i64 0, .string ⟨#[]⟩] 55)).heap.size = w.heap.size + 2 := by simp
  obtain ⟨W, hW⟩ : ∃ W, W = ((w.alloc (.cells #[.int .i64 N, .int .i64 F, .int .i64 C, .int .i64 U] 23)).alloc (.cells #[.int .u64 0, .int .u64 0, .int .i64 0, .string ⟨#[]⟩] 55)) := ⟨_, rfl⟩
  rw [← hW] at hg0 hq0 hb0 hs0
  have hgc : ∀ w', Below W.heap.size W w' → w'.cell? ⟨w.heap.size, 0, none⟩ = some (.int .i64 N) ∧ w'.cell? ⟨w.heap.size, 1, none⟩ = some (.int .i64 F) ∧ w'.cell? ⟨w.heap.size, 2, none⟩ = some (.int .i64 C) ∧ w'.cell? ⟨w.heap.size, 3, none⟩ = some (.int .i64 U) := fun w' hb => by
    have e := (hb.block _ (lt_of_block hg0)).trans hg0
    refine ⟨?_, ?_, ?_, ?_⟩ <;> (rw [cell_of_blk e]; rfl)
  have hqc : ∀ w', Below W.heap.size W w' → Box4 w' (w.heap.size + 1) 55 (.int .u64 0) (.int .u64 0) (.int .i64 0) (.string ⟨#[]⟩) := fun w' hb => (hb.block _ (lt_of_block hq0)).trans hq0
  have hpd := h.below hb0
  obtain ⟨AR, hAR⟩ : ∃ r, r = capP N F C U S k epoch i := ⟨_, rfl⟩
  rw [← hAR]
  have HAR := Lib.hid hAR
  have HGC := Lib.hid hgc
  have HQC := Lib.hid hqc
  have HPD := Lib.hid hpd
  have HB0 := Lib.hid hb0
  have HS0 := Lib.hid hs0
  have HW := Lib.hid hW
  have HN := Lib.hid (show noEn.val = .agg #[.int .u64 0, .int .u64 0, .int .i64 0, .string ⟨#[]⟩] from rfl)
  unfold geo at hr ⊢
  clear hAR hgc hqc hpd hb0 hs0 hW hg0 hq0
  by_cases ho : okG N F C U
  · rw [decide_eq_true ho] at hr
    have HR := Lib.hid hr
    clear hr
    by_cases hk : k < 0 ∨ C ≤ k
    · have hap : AR = ⟨11, noEn, S⟩ := by rw [HAR.out]; unfold capP; rw [if_neg (fun h => h ho), if_pos hk]
      rcases hk with hk | hk
      · have q1 : decide (k < 0) = true := decide_eq_true hk
        go_enter Tryz.func39, Tryz.ntmps39
        go_wp2_with fail
        rw [← HW.out]
        refine (HR.out _).mono ?_
        rintro e w1 ⟨rfl, hb⟩
        have HB1 := Lib.hid hb
        clear hb HR
        obtain ⟨c0, c1, c2, c3⟩ := HGC.out _ HB1.out
        have hq := HQC.out _ HB1.out
        have d0 := hq.c0
        have d1 := hq.c1
        have d2 := hq.c2
        have d3 := hq.c3
        have f0 := hq.fr 0
        have f1 := hq.fr 1
        have f2 := hq.fr 2
        have f3 := hq.fr 3
        have HQ1 := Lib.hid (hq.set (.int .u64 0) (.int .u64 0) (.int .i64 0) (.string ⟨#[]⟩))
        have HE := Lib.hid (below_set4 (a := .int .u64 0) (b := .int .u64 0) (c := .int .i64 0) (d := .string ⟨#[]⟩) (HB0.out.trans (HB1.out.mono HB0.out.size)) (show w.heap.size ≤ w.heap.size + 1 by omega))
        clear hq
        go_wp2
        refine bodyPost_ret (by have k0 := HQ1.out.c0; have k1 := HQ1.out.c1; have k2 := HQ1.out.c2; have k3 := HQ1.out.c3; simp [results, Tryz.f39, go_sem, k0, k1, k2, k3]; try rfl) rfl ?_
        rw [hap]
        exact ⟨by unfold ApR.val; rw [HN.out], pp_after h HE.out⟩
      · have q1 : ¬ k < 0 := by have := ho.2.2.2.2.1; omega
        have q2 : C ≤ k := hk
        go_enter Tryz.func39, Tryz.ntmps39
        go_wp2_with fail
        rw [← HW.out]
        refine (HR.out _).mono ?_
        rintro e w1 ⟨rfl, hb⟩
        have HB1 := Lib.hid hb
        clear hb HR
        obtain ⟨c0, c1, c2, c3⟩ := HGC.out _ HB1.out
        have hq := HQC.out _ HB1.out
        have d0 := hq.c0
        have d1 := hq.c1
        have d2 := hq.c2
        have d3 := hq.c3
        have f0 := hq.fr 0
        have f1 := hq.fr 1
        have f2 := hq.fr 2
        have f3 := hq.fr 3
        have HQ1 := Lib.hid (hq.set (.int .u64 0) (.int .u64 0) (.int .i64 0) (.string ⟨#[]⟩))
        have HE := Lib.hid (below_set4 (a := .int .u64 0) (b := .int .u64 0) (c := .int .i64 0) (d := .string ⟨#[]⟩) (HB0.out.trans (HB1.out.mono HB0.out.size)) (show w.heap.size ≤ w.heap.size + 1 by omega))
        clear hq
        go_wp2
        refine bodyPost_ret (by have k0 := HQ1.out.c0; have k1 := HQ1.out.c1; have k2 := HQ1.out.c2; have k3 := HQ1.out.c3; simp [results, Tryz.f39, go_sem, k0, k1, k2, k3]; try rfl) rfl ?_
        rw [hap]
        exact ⟨by unfold ApR.val; rw [HN.out], pp_after h HE.out⟩
    · have k1 : ¬ k < 0 := by omega
      have k2 : ¬ C ≤ k := by omega
      have hu := fun w => cisdata_any N F C U i w ho
      unfold geo at hu
      by_cases hm : isD N i
      · rw [decide_eq_true hm] at hu
        have HU := Lib.hid hu
        clear hu
        have hda := fun w => data_any N F C U i w
        rw [show dataAt N F C U i = 6 + i from by unfold dataAt; rw [if_pos ⟨ho, hm.1, hm.2⟩]] at hda
        unfold geo at hda
        obtain ⟨pl, hpl⟩ : ∃ pl, pl = 6 + i := ⟨_, rfl⟩
        rw [← hpl] at hda
        have HDA := Lib.hid hda
        have HPL := Lib.hid hpl
        clear hda
        have hrd := fun w' (hb : Below W.heap.size W w') => read_any B p v1 v2 S pl w' (HPD.out.below hb) (by have := hok.few; have := hok.did; omega) (by have := hok.len; omega)
        obtain ⟨old, re, hre⟩ : ∃ x k, S.read pl = (x, k) := ⟨_, _, rfl⟩
        rw [hre] at hrd
        unfold two at hrd
        dsimp only at hrd
        have HRD := Lib.hid hrd
        have hre' := hre
        rw [hpl] at hre'
        have HRE := Lib.hid hre'
        clear hrd hre' hpl
        by_cases hr0 : re = 0
        · subst hr0
          obtain ⟨kn, rfl⟩ : ∃ kn : Nat, k = (kn : Int) := ⟨k.toNat, by omega⟩
          obtain ⟨pn, rfl⟩ : ∃ pn : Nat, i = (pn : Int) := ⟨i.toNat, by have := hm.1; omega⟩
          have hkn : kn < 320 := by have := ho.2.2.2.2.2.1; omega
          have hpn : pn < 1000 := by have := hm.2; have := ho.2.1; omega
          have hap : AR = (if (storeP S (areaAt N F C U 0 (2 * kn + 1)) old).1 ≠ 0 then ⟨(storeP S (areaAt N F C U 0 (2 * kn + 1)) old).1, noEn, (storeP S (areaAt N F C U 0 (2 * kn + 1)) old).2⟩ else
                  if (storeP (storeP S (areaAt N F C U 0 (2 * kn + 1)) old).2 (areaAt N F C U 0 (2 * kn)) (cheadB epoch kn pn (sumN old))).1 ≠ 0 then
                    ⟨(storeP (storeP S (areaAt N F C U 0 (2 * kn + 1)) old).2 (areaAt N F C U 0 (2 * kn)) (cheadB epoch kn pn (sumN old))).1, noEn, (storeP (storeP S (areaAt N F C U 0 (2 * kn + 1)) old).2 (areaAt N F C U 0 (2 * kn)) (cheadB epoch kn pn (sumN old))).2⟩
                  else ⟨0, ⟨0, epoch, pn, old⟩, (storeP (storeP S (areaAt N F C U 0 (2 * kn + 1)) old).2 (areaAt N F C U 0 (2 * kn)) (cheadB epoch kn pn (sumN old))).2⟩) := by
            rw [HAR.out]; unfold capP
            rw [if_neg (fun h => h ho), if_neg hk, if_neg (fun h => h hm), HRE.out]
            simp only [ne_eq, not_true_eq_false, if_false, Int.toNat_natCast]
          have hol : old.size ≤ 140737488355328 := by
            have h64 := HOLD.out S (6 + (pn : Int)) rfl
            rw [HRE.out] at h64
            exact h64
          obtain ⟨cc, hcv⟩ : ∃ cc : World → Nat, ∀ w, ∃ w', (convert 9 103 (.string old)).run Tryz.prog w = .ok (.slice (some ⟨w.heap.size, 0, none⟩) old.size (cc w)) w' ∧ Rd w' (some ⟨w.heap.size, 0, none⟩) old.size (cc w) old.data.toList ∧ Below w.heap.size w w' := ⟨fun w => (cv_rd old hol w).choose, fun w => (cv_rd old hol w).choose_spec⟩
          have hlo := fun w => clocations_any N F C U kn (by omega) w
          have hsum : sumN old < 4294967296 := addN_lt _ _
          obtain ⟨sm, hsm⟩ : ∃ sm, sm = sumN old := ⟨_, rfl⟩
          rw [← hsm] at hap hsum
          have hen := fun w => cencode_any epoch kn pn sm w he (by omega) (by omega) hsum
          have hey := fun w => centry_any epoch kn pn sm old w
          have hst1 := fun w' (hp : PD w' B p v1 v2 S) (hb : B ≤ w'.heap.size) => cstore_any B p v1 v2 S (areaAt N F C U 0 (2 * kn + 1)) old w' hp hb M hok (by omega)
          have hok1 := storeP_ok hok (areaAt N F C U 0 (2 * kn + 1)) old
          obtain ⟨A1, hA1⟩ : ∃ A, A = areaAt N F C U 0 (2 * kn) := ⟨_, rfl⟩
          obtain ⟨A2, hA2⟩ : ∃ A, A = areaAt N F C U 0 (2 * kn + 1) := ⟨_, rfl⟩
          rw [← hA2] at hok1
          simp only [← hA1, ← hA2] at hlo hap
          simp only [← hA2] at hst1
          obtain ⟨R1, T1, hRT1⟩ : ∃ r T, storeP S A2 old = (r, T) := ⟨_, _, rfl⟩
          rw [hRT1] at hap hok1
          simp only [hRT1] at hst1
          dsimp only at hap hok1
          have hst2 := fun w' a1 a2 (hp : PD w' B p a1 a2 T1) (hb : B ≤ w'.heap.size) => cstore_any B p a1 a2 T1 A1 (cheadB epoch kn pn sm) w' hp hb (M + 2) hok1 (by omega)
          obtain ⟨R2, T2, hRT2⟩ : ∃ r T, storeP T1 A1 (cheadB epoch kn pn sm) = (r, T) := ⟨_, _, rfl⟩
          rw [hRT2] at hap
          simp only [hRT2] at hst2
          dsimp only at hap
          obtain ⟨HD, hHD⟩ : ∃ HD, HD = cheadB epoch kn pn sm := ⟨_, rfl⟩
          simp only [← hHD] at hen hst2
          unfold geo at hlo
          unfold cheadV at hen hey
          have HLO := Lib.hid hlo
          have HEN := Lib.hid hen
          have HEY := Lib.hid hey
          have HS1 := Lib.hid hst1
          have HS2 := Lib.hid hst2
          have HAP := Lib.hid hap
          have HSM := Lib.hid hsm
          have HCV := Lib.hid hcv
          clear hlo hen hey hst1 hst2 hap hok1 hRT1 hRT2 hA1 hA2 hHD hsm hcv hsum
          go_enter Tryz.func39, Tryz.ntmps39
          go_wp2_with fail
          rw [← HW.out]
          refine (HR.out _).mono ?_
          rintro e w1 ⟨rfl, hb⟩
          have HB1 := Lib.hid hb
          clear hb HR
          obtain ⟨c0, c1, c2, c3⟩ := HGC.out _ HB1.out
          go_wp2_with fail
          refine (HU.out _).mono ?_
          rintro e w2 ⟨rfl, hb⟩
          have HB2 := Lib.hid (HB1.out.trans (hb.mono HB1.out.size))
          clear hb HB1 HU c0 c1 c2 c3
          obtain ⟨c0, c1, c2, c3⟩ := HGC.out _ HB2.out
          go_wp2_with fail
          refine (HDA.out _).mono ?_
          rintro e w2b ⟨rfl, hb⟩
          have HB2b := Lib.hid (HB2.out.trans (hb.mono HB2.out.size))
          clear hb HB2 HDA c0 c1 c2 c3
          obtain ⟨c0, c1, c2, c3⟩ := HGC.out _ HB2b.out
          go_wp2_with fail
          refine (HRD.out _ HB2b.out).mono ?_
          rintro e w3 ⟨rfl, hb⟩
          have HB3 := Lib.hid (HB2b.out.trans (hb.mono HB2b.out.size))
          clear hb HB2b HRD c0 c1 c2 c3
          obtain ⟨c0, c1, c2, c3⟩ := HGC.out _ HB3.out
          obtain ⟨w4, hcv, hrd4, hb4⟩ := HCV.out w3
          have hsu := sum_any _ _ _ _ w4 hrd4
          rw [show addN 0 old.data.toList = sm from HSM.out.symm] at hsu
          have HSU := Lib.hid hsu
          have HB4 := Lib.hid (HB3.out.trans (hb4.mono HB3.out.size))
          clear hsu hrd4 hb4 HB3 HCV
          obtain ⟨c0, c1, c2, c3⟩ := HGC.out _ HB4.out
          go_wp2_with fail
          refine HSU.out.mono ?_
          rintro e w5 ⟨rfl, hb⟩
          have HB5 := Lib.hid (HB4.out.trans (hb.mono HB4.out.size))
          clear hb HB4 HSU hcv c0 c1 c2 c3
          -- the head's box
          have hx5 := heap_alloc_new w5 (.cells #[.int .u64 (epoch : Int), .int .i64 (kn : Int), .int .i64 (pn : Int), .int .u32 (sm : Int)] 128)
          have HX5 := Lib.hid (HB5.out.alloc HB5.out.size (.cells #[.int .u64 (epoch : Int), .int .i64 (kn : Int), .int .i64 (pn : Int), .int .u32 (sm : Int)] 128))
          have hxs : (w5.alloc (.cells #[.int .u64 (epoch : Int), .int .i64 (kn : Int), .int .i64 (pn : Int), .int .u32 (sm : Int)] 128)).heap.size = w5.heap.size + 1 := World.size_alloc _ _
          have hw5 : W.heap.size ≤ w5.heap.size := HB5.out.size
          obtain ⟨X, hX⟩ : ∃ X, X = w5.alloc (.cells #[.int .u64 (epoch : Int), .int .i64 (kn : Int), .int .i64 (pn : Int), .int .u32 (sm : Int)] 128) := ⟨_, rfl⟩
          obtain ⟨hb5, hhb5⟩ : ∃ b, b = w5.heap.size := ⟨_, rfl⟩
          rw [← hX] at hx5 HX5 hxs
          rw [← hhb5] at hx5 hxs hw5
          have HHX := Lib.hid (And.intro hx5 (And.intro hxs hw5))
          obtain ⟨c0, c1, c2, c3⟩ := HGC.out _ HX5.out
          clear hx5 hxs hw5 HB5
          go_upto_region 11 with fail
          rw [← hX, ← hhb5]
          clear hX hhb5
          go_wp2_with fail
          refine (HLO.out _).mono ?_
          rintro e w6 ⟨rfl, hb⟩
          have HXB := Lib.hid hb
          have HB6 := Lib.hid (HX5.out.trans (hb.mono HX5.out.size))
          clear hb HLO c0 c1 c2 c3
          have hp6 := HPD.out.below HB6.out
          have hst := HS1.out w6 hp6 (Nat.le_trans hB (Nat.le_trans HB0.out.size HB6.out.size))
          have HST := Lib.hid hst
          clear hst hp6 HS1
          go_wp2_with fail
          refine HST.out.mono ?_
          rintro e w7 ⟨rfl, hx⟩
          have HP7 := Lib.hid (pp_below HXB.out hx)
          clear hx HST
          by_cases hR1 : R1 = 0
          · subst hR1
            have e5 := (HP7.out.old hb5 (by have := HHX.out.2.1; omega) (fun hf => by have := hv _ hf; have := HHX.out.2.2; have := HS0.out; omega)).trans HHX.out.1
            have b0 : w7.cell? ⟨hb5, 0, none⟩ = some (.int .u64 (epoch : Int)) := by rw [cell_of_blk e5]; rfl
            have b1 : w7.cell? ⟨hb5, 1, none⟩ = some (.int .i64 (kn : Int)) := by rw [cell_of_blk e5]; rfl
            have b2 : w7.cell? ⟨hb5, 2, none⟩ = some (.int .i64 (pn : Int)) := by rw [cell_of_blk e5]; rfl
            have b3 : w7.cell? ⟨hb5, 3, none⟩ = some (.int .u32 (sm : Int)) := by rw [cell_of_blk e5]; rfl
            clear e5
            go_wp2_with fail
            refine (HEN.out _).mono ?_
            rintro e w8 ⟨rfl, hb⟩
            have HP8 := Lib.hid (pp_then HP7.out hb)
            clear hb HEN HP7 b0 b1 b2 b3
            obtain ⟨a1, a2, hp8, hF8, hN8⟩ := HP8.out
            have hst2 := HS2.out w8 a1 a2 hp8 (Nat.le_trans hB (Nat.le_trans HB0.out.size (Nat.le_trans HX5.out.size hF8.size)))
            have HST2 := Lib.hid hst2
            have HTR := Lib.hid (show ∀ w9, PP w8 B p a1 a2 T2 w9 → PP X B p v1 v2 T2 w9 from fun w9 hx => by
              obtain ⟨b1, b2, hp', hF', hN'⟩ := hx
              exact ⟨b1, b2, hp', hF8.trans hF' (fun i hi => hN8 i hi), fun i hi => (hN' i hi).elim (hN8 i) (fun h => .inr (Nat.le_trans hF8.size h))⟩)
            clear hst2 hp8 hF8 hN8 HS2
            go_wp2_with fail
            refine HST2.out.mono ?_
            rintro e w9 ⟨rfl, hx⟩
            have HP9 := Lib.hid (HTR.out _ hx)
            clear hx HTR HST2 HP8
            by_cases hR2 : R2 = 0
            · subst hR2
              have hap : AR = ⟨0, ⟨0, epoch, pn, old⟩, T2⟩ := HAP.out.trans (by simp)
              have e5 := (HP9.out.old hb5 (by have := HHX.out.2.1; omega) (fun hf => by have := hv _ hf; have := HHX.out.2.2; have := HS0.out; omega)).trans HHX.out.1
              have b0 : w9.cell? ⟨hb5, 0, none⟩ = some (.int .u64 (epoch : Int)) := by rw [cell_of_blk e5]; rfl
              have b1 : w9.cell? ⟨hb5, 1, none⟩ = some (.int .i64 (kn : Int)) := by rw [cell_of_blk e5]; rfl
              have b2 : w9.cell? ⟨hb5, 2, none⟩ = some (.int .i64 (pn : Int)) := by rw [cell_of_blk e5]; rfl
              have b3 : w9.cell? ⟨hb5, 3, none⟩ = some (.int .u32 (sm : Int)) := by rw [cell_of_blk e5]; rfl
              clear e5
              unfold En.val at HEY
              dsimp only at HEY
              go_wp2_with fail
              refine (HEY.out _).mono ?_
              rintro e w10 ⟨rfl, hb⟩
              have HP10 := Lib.hid (pp_then HP9.out hb)
              clear hb HP9 HEY b0 b1 b2 b3
              have hxx := HHX.out
              have hq : Box4 w10 (w.heap.size + 1) 55 (.int .u64 0) (.int .u64 0) (.int .i64 0) (.string ⟨#[]⟩) := (HP10.out.old (w.heap.size + 1) (by have := HS0.out; omega) (fun hf => by have := hv _ hf; omega)).trans (HQC.out _ HX5.out)
              have d0 := hq.c0
              have d1 := hq.c1
              have d2 := hq.c2
              have d3 := hq.c3
              have f0 := hq.fr 0
              have f1 := hq.fr 1
              have f2 := hq.fr 2
              have f3 := hq.fr 3
              have HQ1 := Lib.hid (hq.set (.int .u64 0) (.int .u64 (epoch : Int)) (.int .i64 (pn : Int)) (.string old))
              have HE := Lib.hid (pp_set4 (a := .int .u64 0) (b := .int .u64 (epoch : Int)) (c := .int .i64 (pn : Int)) (d := .string old) HP10.out (q := w.heap.size + 1) (fun h => by have := HS0.out; omega) (fun hf => by have := hv _ hf; omega) (by have := HS0.out; omega) w (HB0.out.trans (HX5.out.mono HB0.out.size)) hv (by omega))
              clear hq hxx
              go_wp2
              refine bodyPost_ret (by have k0 := HQ1.out.c0; have k1 := HQ1.out.c1; have k2 := HQ1.out.c2; have k3 := HQ1.out.c3; simp [results, Tryz.f39, go_sem, k0, k1, k2, k3]; try rfl) rfl ?_
              rw [hap]
              exact ⟨rfl, HE.out⟩
            · have hr2 : (R2 == 0) = false := by simpa using hR2
              have hr3 : (R2 != 0) = true := by simp [hR2]
              have hap : AR = ⟨R2, noEn, T2⟩ := HAP.out.trans (by simp [hR2])
              clear HEY
              have hxx := HHX.out
              have hq : Box4 w9 (w.heap.size + 1) 55 (.int .u64 0) (.int .u64 0) (.int .i64 0) (.string ⟨#[]⟩) := (HP9.out.old (w.heap.size + 1) (by have := HS0.out; omega) (fun hf => by have := hv _ hf; omega)).trans (HQC.out _ HX5.out)
              have d0 := hq.c0
              have d1 := hq.c1
              have d2 := hq.c2
              have d3 := hq.c3
              have f0 := hq.fr 0
              have f1 := hq.fr 1
              have f2 := hq.fr 2
              have f3 := hq.fr 3
              have HQ1 := Lib.hid (hq.set (.int .u64 0) (.int .u64 0) (.int .i64 0) (.string ⟨#[]⟩))
              have HE := Lib.hid (pp_set4 (a := .int .u64 0) (b := .int .u64 0) (c := .int .i64 0) (d := .string ⟨#[]⟩) HP9.out (q := w.heap.size + 1) (fun h => by have := HS0.out; omega) (fun hf => by have := hv _ hf; omega) (by have := HS0.out; omega) w (HB0.out.trans (HX5.out.mono HB0.out.size)) hv (by omega))
              clear hq hxx
              go_wp2
              refine bodyPost_ret (by have k0 := HQ1.out.c0; have k1 := HQ1.out.c1; have k2 := HQ1.out.c2; have k3 := HQ1.out.c3; simp [results, Tryz.f39, go_sem, k0, k1, k2, k3]; try rfl) rfl ?_
              rw [hap]
              exact ⟨by unfold ApR.val; rw [HN.out], HE.out⟩
          · have hr2 : (R1 == 0) = false := by simpa using hR1
            have hr3 : (R1 != 0) = true := by simp [hR1]
            have hap : AR = ⟨R1, noEn, T1⟩ := HAP.out.trans (by simp [hR1])
            clear HEY HEN HS2
            have hxx := HHX.out
            have hq : Box4 w7 (w.heap.size + 1) 55 (.int .u64 0) (.int .u64 0) (.int .i64 0) (.string ⟨#[]⟩) := (HP7.out.old (w.heap.size + 1) (by have := HS0.out; omega) (fun hf => by have := hv _ hf; omega)).trans (HQC.out _ HX5.out)
            have d0 := hq.c0
            have d1 := hq.c1
            have d2 := hq.c2
            have d3 := hq.c3
            have f0 := hq.fr 0
            have f1 := hq.fr 1
            have f2 := hq.fr 2
            have f3 := hq.fr 3
            have HQ1 := Lib.hid (hq.set (.int .u64 0) (.int .u64 0) (.int .i64 0) (.string ⟨#[]⟩))
            have HE := Lib.hid (pp_set4 (a := .int .u64 0) (b := .int .u64 0) (c := .int .i64 0) (d := .string ⟨#[]⟩) HP7.out (q := w.heap.size + 1) (fun h => by have := HS0.out; omega) (fun hf => by have := hv _ hf; omega) (by have := HS0.out; omega) w (HB0.out.trans (HX5.out.mono HB0.out.size)) hv (by omega))
            clear hq hxx
            go_wp2
            refine bodyPost_ret (by have k0 := HQ1.out.c0; have k1 := HQ1.out.c1; have k2 := HQ1.out.c2; have k3 := HQ1.out.c3; simp [results, Tryz.f39, go_sem, k0, k1, k2, k3]; try rfl) rfl ?_
            rw [hap]
            exact ⟨by unfold ApR.val; rw [HN.out], HE.out⟩
        · have hr2 : (re == 0) = false := by simpa using hr0
          have hr3 : (re != 0) = true := by simp [hr0]
          have hap : AR = ⟨re, noEn, S⟩ := by rw [HAR.out]; unfold capP; rw [if_neg (fun h => h ho), if_neg hk, if_neg (fun h => h hm), if_pos (by rw [HRE.out]; exact hr0), HRE.out]
          go_enter Tryz.func39, Tryz.ntmps39
          go_wp2_with fail
          rw [← HW.out]
          refine (HR.out _).mono ?_
          rintro e w1 ⟨rfl, hb⟩
          have HB1 := Lib.hid hb
          clear hb HR
          obtain ⟨c0, c1, c2, c3⟩ := HGC.out _ HB1.out
          go_wp2_with fail
          refine (HU.out _).mono ?_
          rintro e w2 ⟨rfl, hb⟩
          have HB2 := Lib.hid (HB1.out.trans (hb.mono HB1.out.size))
          clear hb HB1 HU c0 c1 c2 c3
          obtain ⟨c0, c1, c2, c3⟩ := HGC.out _ HB2.out
          go_wp2_with fail
          refine (HDA.out _).mono ?_
          rintro e w2b ⟨rfl, hb⟩
          have HB2b := Lib.hid (HB2.out.trans (hb.mono HB2.out.size))
          clear hb HB2 HDA c0 c1 c2 c3
          obtain ⟨c0, c1, c2, c3⟩ := HGC.out _ HB2b.out
          go_wp2_with fail
          refine (HRD.out _ HB2b.out).mono ?_
          rintro e w3 ⟨rfl, hb⟩
          have HB3 := Lib.hid (HB2b.out.trans (hb.mono HB2b.out.size))
          clear hb HB2b HRD c0 c1 c2 c3
          obtain ⟨c0, c1, c2, c3⟩ := HGC.out _ HB3.out
          have hq := HQC.out _ HB3.out
          have d0 := hq.c0
          have d1 := hq.c1
          have d2 := hq.c2
          have d3 := hq.c3
          have f0 := hq.fr 0
          have f1 := hq.fr 1
          have f2 := hq.fr 2
          have f3 := hq.fr 3
          have HQ1 := Lib.hid (hq.set (.int .u64 0) (.int .u64 0) (.int .i64 0) (.string ⟨#[]⟩))
          have HE := Lib.hid (below_set4 (a := .int .u64 0) (b := .int .u64 0) (c := .int .i64 0) (d := .string ⟨#[]⟩) (HB0.out.trans (HB3.out.mono HB0.out.size)) (show w.heap.size ≤ w.heap.size + 1 by omega))
          clear hq
          go_wp2
          refine bodyPost_ret (by have k0 := HQ1.out.c0; have k1 := HQ1.out.c1; have k2 := HQ1.out.c2; have k3 := HQ1.out.c3; simp [results, Tryz.f39, go_sem, k0, k1, k2, k3]; try rfl) rfl ?_
          rw [hap]
          exact ⟨by unfold ApR.val; rw [HN.out], pp_after h HE.out⟩
      · have hap : AR = ⟨3, noEn, S⟩ := by rw [HAR.out]; unfold capP; rw [if_neg (fun h => h ho), if_neg hk, if_pos hm]
        rw [decide_eq_false hm] at hu
        have HU := Lib.hid hu
        clear hu
        go_enter Tryz.func39, Tryz.ntmps39
        go_wp2_with fail
        rw [← HW.out]
        refine (HR.out _).mono ?_
        rintro e w1 ⟨rfl, hb⟩
        have HB1 := Lib.hid hb
        clear hb HR
        obtain ⟨c0, c1, c2, c3⟩ := HGC.out _ HB1.out
        go_wp2_with fail
        refine (HU.out _).mono ?_
        rintro e w2 ⟨rfl, hb⟩
        have HB2 := Lib.hid (HB1.out.trans (hb.mono HB1.out.size))
        clear hb HB1 HU c0 c1 c2 c3
        obtain ⟨c0, c1, c2, c3⟩ := HGC.out _ HB2.out
        have hq := HQC.out _ HB2.out
        have d0 := hq.c0
        have d1 := hq.c1
        have d2 := hq.c2
        have d3 := hq.c3
        have f0 := hq.fr 0
        have f1 := hq.fr 1
        have f2 := hq.fr 2
        have f3 := hq.fr 3
        have HQ1 := Lib.hid (hq.set (.int .u64 0) (.int .u64 0) (.int .i64 0) (.string ⟨#[]⟩))
        have HE := Lib.hid (below_set4 (a := .int .u64 0) (b := .int .u64 0) (c := .int .i64 0) (d := .string ⟨#[]⟩) (HB0.out.trans (HB2.out.mono HB0.out.size)) (show w.heap.size ≤ w.heap.size + 1 by omega))
        clear hq
        go_wp2
        refine bodyPost_ret (by have k0 := HQ1.out.c0; have k1 := HQ1.out.c1; have k2 := HQ1.out.c2; have k3 := HQ1.out.c3; simp [results, Tryz.f39, go_sem, k0, k1, k2, k3]; try rfl) rfl ?_
        rw [hap]
        exact ⟨by unfold ApR.val; rw [HN.out], pp_after h HE.out⟩
  · have hap : AR = ⟨12, noEn, S⟩ := by rw [HAR.out]; unfold capP; rw [if_pos ho]
    rw [decide_eq_false ho] at hr
    have HR := Lib.hid hr
    clear hr
    go_enter Tryz.func39, Tryz.ntmps39
    go_wp2_with fail
    rw [← HW.out]
    refine (HR.out _).mono ?_
    rintro e w1 ⟨rfl, hb⟩
    have HB1 := Lib.hid hb
    clear hb HR
    obtain ⟨c0, c1, c2, c3⟩ := HGC.out _ HB1.out
    have hq := HQC.out _ HB1.out
    have d0 := hq.c0
    have d1 := hq.c1
    have d2 := hq.c2
    have d3 := hq.c3
    have f0 := hq.fr 0
    have f1 := hq.fr 1
    have f2 := hq.fr 2
    have f3 := hq.fr 3
    have HQ1 := Lib.hid (hq.set (.int .u64 0) (.int .u64 0) (.int .i64 0) (.string ⟨#[]⟩))
    have HE := Lib.hid (below_set4 (a := .int .u64 0) (b := .int .u64 0) (c := .int .i64 0) (d := .string ⟨#[]⟩) (HB0.out.trans (HB1.out.mono HB0.out.size)) (show w.heap.size ≤ w.heap.size + 1 by omega))
    clear hq
    go_wp2
    refine bodyPost_ret (by have k0 := HQ1.out.c0; have k1 := HQ1.out.c1; have k2 := HQ1.out.c2; have k3 := HQ1.out.c3; simp [results, Tryz.f39, go_sem, k0, k1, k2, k3]; try rfl) rfl ?_
    rw [hap]
    exact ⟨by unfold ApR.val; rw [HN.out], pp_after h HE.out⟩
end Go.Proofs.YtjohgagiccndpaaGreatDoor
/-
  cow's decode: a head, read back, and whether it is one.
-/
namespace Go.Proofs.YtjohgagiccndpaaGreatDoor
open Go.RowKit
set_option linter.unusedVariables false
set_option linter.unusedSimpArgs false

theorem Box4.below {W W' p t a b c d n} (h : Box4 W p t a b c d) (hb : Below n W W') (hl : p < n) : Box4 W' p t a b c d := (hb.block p hl).trans h
theorem Box4.grown {W W' p t a b c d row} (h : Box4 W p t a b c d) (hg : W.grownBy W' row) (hne : row ≠ some p) : Box4 W' p t a b c d := (hg.block p (lt_of_block h) (fun e => hne e.symm)).trans h
structure CHd where
  epoch : Nat
  num : Nat
  leaf : Nat
  sum : Nat
def cnoHd : CHd := ⟨0, 0, 0, 0⟩
def CHd.val (h : CHd) : Value := cheadV h.epoch h.num h.leaf h.sum
def cbodyHd (ys : List UInt8) : CHd := ⟨hfld ys 0 8, hfld ys 8 4, hfld ys 12 4, hfld ys 16 4⟩
def cdecP (xs : List UInt8) : CHd × Bool := if (openP 8 xs).2 = 0 ∧ (openP 8 xs).1.length = 20 then (cbodyHd (openP 8 xs).1, true) else (cnoHd, false)

set_option maxRecDepth 20000 in
set_option maxHeartbeats 4000000 in
theorem cdecode_any (xs : List UInt8) (w : World) :
    Calls Tryz.prog 84 #[strV xs] w fun e w' => e = .returned (.tuple #[(cdecP xs).1.val, .bool (cdecP xs).2]) ∧ Below w.heap.size w w' := by
  have bR : Box4 (w.alloc (.cells #[.int .u64 0, .int .i64 0, .int .i64 0, .int .u32 0] 128)) w.heap.size 128 (.int .u64 0) (.int .i64 0) (.int .i64 0) (.int .u32 0) := heap_alloc_new w _
  have hB0 : Below w.heap.size w (w.alloc (.cells #[.int .u64 0, .int .i64 0, .int .i64 0, .int .u32 0] 128)) := (Below.refl _ w).alloc (Nat.le_refl _) _
  have ho := fun w => open_any 8 xs w
  have HB0 := Lib.hid hB0
  have HBR := Lib.hid bR
  clear hB0 bR
  unfold cdecP
  obtain ⟨ys, q, hoq⟩ : ∃ ys q, openP 8 xs = (ys, q) := ⟨_, _, rfl⟩
  rw [hoq] at ho ⊢
  have hyl : q = 0 → ys.length ≤ 58 := fun e => by subst e; exact (make_kind (open_make hoq)).2.2.2
  unfold tupV at ho
  dsimp only at ho ⊢
  obtain ⟨V, hV⟩ : ∃ V : ByteArray, V = ⟨ys.toArray⟩ := ⟨_, rfl⟩
  have hVs : V.size = ys.length := by rw [hV]; exact List.size_toArray
  have hVV : strV ys = .string V := by rw [hV]; rfl
  rw [hVV] at ho
  have HO := Lib.hid ho
  have HVV := Lib.hid hVV
  clear ho hoq hV hVV
  by_cases hq : q = 0
  · subst hq
    have hyl := hyl rfl
    by_cases h28 : ys.length = 20
    · rw [if_pos ⟨rfl, h28⟩]
      unfold cbodyHd CHd.val
      dsimp only
      have h4a := hfld_4 ys 8 (by omega)
      have h4b := hfld_4 ys 12 (by omega)
      have h4c := hfld_4 ys 16 (by omega)
      obtain ⟨F, hF⟩ : ∃ F, F = hfld ys := ⟨_, rfl⟩
      rw [← hF] at h4a h4b h4c ⊢
      have HF := Lib.hid hF
      have H28 := Lib.hid h28
      have A := Lib.hid (And.intro h4a (And.intro h4b h4c))
      clear h4a h4b h4c hF
      have w16 : IntKind.i64.wrap (F 8 4 : Int) = (F 8 4 : Int) := IntWalk.i64_in _ (by have := A.out; omega)
      have w20 : IntKind.i64.wrap (F 12 4 : Int) = (F 12 4 : Int) := IntWalk.i64_in _ (by have := A.out; omega)
      have w24 : IntKind.u32.wrap (F 16 4 : Int) = (F 16 4 : Int) := IntWalk.u32_in _ (by have := A.out; omega)
      have hVi : (V.size : Int) = 20 := by omega
      have hVi2 : ((V.size : Int) != 20) = false := by simp [hVi]
      clear h28
      unfold cheadV
      go_enter Tryz.func84, Tryz.ntmps84
      go_wp2_with fail
      refine (HO.out _).mono ?_
      rintro r w2 ⟨rfl, hb⟩
      have b2 := HBR.out.below hb (lt_of_block HBR.out)
      have hB2 := HB0.out.trans (hb.mono HB0.out.size)
      obtain ⟨c, w3, hcv, hrd, hb3⟩ := cv_str ys (by omega) w2
      have b3 := b2.below hb3 (lt_of_block b2)
      have hB3 := hB2.trans (hb3.mono hB2.size)
      obtain ⟨g, hg⟩ : ∃ g, g = w2.heap.size := ⟨_, rfl⟩
      rw [← hg] at hcv hrd
      rw [HVV.out] at hcv
      have hn := new_any (some ⟨g, 0, none⟩) ys.length c ys w3 hrd
      obtain ⟨m, hm⟩ : ∃ m, m = ys.length := ⟨_, rfl⟩
      rw [← hm] at hcv hn
      have HN := Lib.hid hn
      have HR3 := Lib.hid b3
      have HB3 := Lib.hid hB3
      have HMM := Lib.hid hm
      clear hb b2 hB2 hrd hb3 b3 hB3 hg hn HO hm
      go_wp2_with fail
      refine HN.out.mono ?_
      rintro r w4 ⟨p', rfl, hp, hrw, hb⟩
      have b4 := HR3.out.below hb (lt_of_block HR3.out)
      have hB4 := HB3.out.trans (hb.mono HB3.out.size)
      have hne : w.heap.size < p' := Nat.lt_of_lt_of_le (lt_of_block HR3.out) hp
      have hnum := hnum_any p' 0 8 ys w4 hrw (by omega) (by omega) (by have := H28.out; omega)
      rw [← HF.out] at hnum
      have HNE := Lib.hid hne
      have HNUM := Lib.hid hnum
      have HR4 := Lib.hid b4
      have HB4 := Lib.hid hB4
      clear hb hp hrw b4 hB4 hne hcv HN HR3 HB3 hnum
      go_wp2_with fail
      refine HNUM.out.mono ?_
      rintro r w5 ⟨rfl, hrw, hg⟩
      have b5 := HR4.out.grown hg (by intro e; cases e; have := HNE.out; omega)
      have hB5 := HB4.out.grown hg HB4.out.size (fun k e => by cases e; have := HNE.out; omega)
      have hnum := hnum_any p' 8 4 ys w5 hrw (by omega) (by omega) (by have := H28.out; omega)
      rw [← HF.out] at hnum
      have HNUM6 := Lib.hid hnum
      have HR6 := Lib.hid b5
      have HB6 := Lib.hid hB5
      clear hrw hg b5 hB5 HNUM HR4 HB4 hnum
      go_wp2_with fail
      refine HNUM6.out.mono ?_
      rintro r w7 ⟨rfl, hrw, hg⟩
      have b7 := HR6.out.grown hg (by intro e; cases e; have := HNE.out; omega)
      have hB7 := HB6.out.grown hg HB6.out.size (fun k e => by cases e; have := HNE.out; omega)
      have hnum := hnum_any p' 12 4 ys w7 hrw (by omega) (by omega) (by have := H28.out; omega)
      rw [← HF.out] at hnum
      have HNUM7 := Lib.hid hnum
      have HR7 := Lib.hid b7
      have HB7 := Lib.hid hB7
      clear hrw hg b7 hB7 HNUM6 HR6 HB6 hnum
      go_wp2_with fail
      refine HNUM7.out.mono ?_
      rintro r w8 ⟨rfl, hrw, hg⟩
      have b8 := HR7.out.grown hg (by intro e; cases e; have := HNE.out; omega)
      have hB8 := HB7.out.grown hg HB7.out.size (fun k e => by cases e; have := HNE.out; omega)
      have hnum := hnum_any p' 16 4 ys w8 hrw (by omega) (by omega) (by have := H28.out; omega)
      rw [← HF.out] at hnum
      have HNUM8 := Lib.hid hnum
      have HR8 := Lib.hid b8
      have HB8 := Lib.hid hB8
      clear hrw hg b8 hB8 HNUM7 HR7 HB7 hnum
      go_wp2_with fail
      refine HNUM8.out.mono ?_
      rintro r w9 ⟨rfl, hrw, hg⟩
      have b9 := HR8.out.grown hg (by intro e; cases e; have := HNE.out; omega)
      have hB9 := HB8.out.grown hg HB8.out.size (fun k e => by cases e; have := HNE.out; omega)
      have r0 := b9.c0
      have r1 := b9.c1
      have r2 := b9.c2
      have r3 := b9.c3
      have g0 := b9.fr 0
      have g1 := b9.fr 1
      have g2 := b9.fr 2
      have g3 := b9.fr 3
      have hRz := b9.set (.int .u64 (F 0 8 : Int)) (.int .i64 (F 8 4 : Int)) (.int .i64 (F 12 4 : Int)) (.int .u32 (F 16 4 : Int))
      have hBz := below_set4 (p := w.heap.size) (a := .int .u64 (F 0 8 : Int)) (b := .int .i64 (F 8 4 : Int)) (c := .int .i64 (F 12 4 : Int)) (d := .int .u32 (F 16 4 : Int)) hB9 (Nat.le_refl _)
      have HRz := Lib.hid hRz
      have HBz := Lib.hid hBz
      clear hrw hg b9 hB9 HNUM8 HR8 HB8 hRz hBz
      go_wp2
      refine bodyPost_ret (by simp [results, Tryz.f84, go_sem, HRz.out.c0, HRz.out.c1, HRz.out.c2, HRz.out.c3]; try rfl) rfl ?_
      exact ⟨rfl, HBz.out⟩
    · rw [if_neg (by omega)]
      have hVi2 : ((V.size : Int) != 20) = true := by simp only [bne_iff_ne, ne_eq]; omega
      clear h28
      unfold cnoHd CHd.val cheadV
      go_enter Tryz.func84, Tryz.ntmps84
      go_wp2_with fail
      refine (HO.out _).mono ?_
      rintro r w2 ⟨rfl, hb⟩
      have b9 := HBR.out.below hb (lt_of_block HBR.out)
      have hB9 := HB0.out.trans (hb.mono HB0.out.size)
      have r0 := b9.c0
      have r1 := b9.c1
      have r2 := b9.c2
      have r3 := b9.c3
      have g0 := b9.fr 0
      have g1 := b9.fr 1
      have g2 := b9.fr 2
      have g3 := b9.fr 3
      have hRz := b9.set (.int .u64 0) (.int .i64 0) (.int .i64 0) (.int .u32 0)
      have hBz := below_set4 (p := w.heap.size) (a := .int .u64 0) (b := .int .i64 0) (c := .int .i64 0) (d := .int .u32 0) hB9 (Nat.le_refl _)
      have HRz := Lib.hid hRz
      have HBz := Lib.hid hBz
      clear b9 hB9 HO hRz hBz hb
      go_wp2
      refine bodyPost_ret (by simp [results, Tryz.f84, go_sem, HRz.out.c0, HRz.out.c1, HRz.out.c2, HRz.out.c3]; try rfl) rfl ?_
      exact ⟨rfl, HBz.out⟩
  · rw [if_neg (fun h => hq h.1)]
    have hq2 : (q == 0) = false := by simpa using hq
    unfold cnoHd CHd.val cheadV
    go_enter Tryz.func84, Tryz.ntmps84
    go_wp2_with fail
    refine (HO.out _).mono ?_
    rintro r w2 ⟨rfl, hb⟩
    have b9 := HBR.out.below hb (lt_of_block HBR.out)
    have hB9 := HB0.out.trans (hb.mono HB0.out.size)
    have r0 := b9.c0
    have r1 := b9.c1
    have r2 := b9.c2
    have r3 := b9.c3
    have g0 := b9.fr 0
    have g1 := b9.fr 1
    have g2 := b9.fr 2
    have g3 := b9.fr 3
    have hRz := b9.set (.int .u64 0) (.int .i64 0) (.int .i64 0) (.int .u32 0)
    have hBz := below_set4 (p := w.heap.size) (a := .int .u64 0) (b := .int .i64 0) (c := .int .i64 0) (d := .int .u32 0) hB9 (Nat.le_refl _)
    have HRz := Lib.hid hRz
    have HBz := Lib.hid hBz
    clear b9 hB9 HO hRz hBz hb
    go_wp2
    refine bodyPost_ret (by simp [results, Tryz.f84, go_sem, HRz.out.c0, HRz.out.c1, HRz.out.c2, HRz.out.c3]; try rfl) rfl ?_
    exact ⟨rfl, HBz.out⟩
end Go.Proofs.YtjohgagiccndpaaGreatDoor

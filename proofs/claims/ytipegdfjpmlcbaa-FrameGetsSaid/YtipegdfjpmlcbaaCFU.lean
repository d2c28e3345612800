/-
  The document's Get of a frame: where it is too short or too long.
-/
import Derived.Test.YtipegdfjpmlcbaaCFT
namespace Go.Proofs.Ytipegdfjpmlcbaa
open Go.RowKit
set_option linter.unusedVariables false
set_option linter.unusedSimpArgs false

/-- What the document's Get answers. -/
def DG (xs : List UInt8) (w : World) (e : Ending) (w' : World) : Prop :=
  ∃ fr a m c D k, D = frC fr (.slice a m c) ∧ e = .returned (.tuple #[.agg D, .int .i64 k]) ∧ getP xs = (fr, k) ∧ Tx w' a m c fr.list ∧ Below w.heap.size w w'
theorem dg_bad {xs : List UInt8} {w w' : World} {e : Ending} {k : Int} (hp : getP xs = (fr0, k)) (he : e = .returned (.tuple #[.agg frZ, .int .i64 k])) (hb : Below w.heap.size w w') : DG xs w e w' :=
  ⟨fr0, none, 0, 0, frZ, k, rfl, he, hp, tx_nil w', hb⟩
theorem str_list {xs : List UInt8} {sz : ByteArray} (h : strV xs = .string sz) : sz.data.toList = xs := by
  unfold strV at h
  injection h with h
  rw [← h]
/-- The reader is laid. -/
theorem ep_new {w w1 : World} {a : Option Addr} {n c : Nat} {xs : List UInt8} (hb : Below (w.alloc (.cells frZ 26)).heap.size (w.alloc (.cells frZ 26)) w1) (hr : Rd w1 a n c xs) :
    EP w (w1.alloc (.cells #[.slice a n c, .int .i64 0, .int .i64 0] 57)) w1.heap.size xs := by
  have h0 : (w.alloc (.cells frZ 26)).heap[w.heap.size]? = some (.cells frZ 26 (0, 0)) := heap_alloc_new _ _
  have h1 := (hb.block _ (lt_of_block h0)).trans h0
  have hb0 : Below w.heap.size w (w.alloc (.cells frZ 26)) := (Below.refl _ _).alloc (Nat.le_refl _) _
  have hb1 := hb0.trans (hb.mono hb0.size)
  exact ⟨(heap_alloc_old _ _ (lt_of_block h1)).trans h1, RQ.new hr, lt_of_block h1, hb1.alloc hb1.size _⟩

set_option maxRecDepth 20000 in
set_option maxHeartbeats 1000000 in
theorem rget_0 (xs : List UInt8) (sz : ByteArray) (hsz : strV xs = .string sz) (hmax : xs.length ≤ 1000) (w : World) (hn : xs.length < 27) :
    Calls Try.prog 13 #[.string sz] w fun e w' => DG xs w e w' := by
  have hzl : sz.size = xs.length := sd_size hsz
  have hi0 : (Try.prog.info? 26).map (·.size) = some frZ.size := by kernel_rfl
  have ho0 : frZ.all (·.oneCell') = true := by simp [frZ, Value.oneCell']
  have HI0 := Lib.hid hi0
  have HO0 := Lib.hid ho0
  have HMX := Lib.hid hmax
  have HSZ := Lib.hid hsz
  have HZL := Lib.hid hzl
  obtain ⟨W0, hW0⟩ : ∃ x, x = w.alloc (.cells frZ 26) := ⟨_, rfl⟩
  clear hi0 ho0
  have HP := Lib.hid (show getP xs = (fr0, 7) from by unfold getP; rw [if_pos (by omega)])
  have hrs : W0.heap[w.heap.size]? = some (.cells frZ 26 (0, 0)) := by rw [hW0]; exact heap_alloc_new _ _
  have hb0 : Below w.heap.size w W0 := by rw [hW0]; exact (Below.refl _ _).alloc (Nat.le_refl _) _
  have hw5 : (W0.setRow w.heap.size frZ).heap[w.heap.size]? = some (.cells frZ 26 (0, 0)) := setRow_heap _ _ _ frZ _ _ hrs
  have HB5 := Lib.hid (below_setRow hb0 (Nat.le_refl _) frZ)
  have HW0 := Lib.hid hW0
  have c27 : (sz.size : Int) < 27 := by omega
  unfold frZ at HW0
  clear hW0 hb0 hsz hmax hzl hn
  go_enter Try.func13, Try.ntmps13
  go_upto_region 1 with fail
  rw [← HW0.out]
  go_wp2_with (with_reducible refine wpList_store_row (o := ⟨none, _, _, _, _, _⟩) rfl 26 (.tmp 2) (.tmp 14) rfl w.heap.size frZ rfl rfl 26 frZ hrs HI0.out rfl HO0.out ?_)
  refine bodyPost_ret (results_row_tmp (p := 2) (u := 3) (ty := 26) rfl _ _ w.heap.size 26 frZ (0, 0) _ rfl hw5 Try.underlying26 rfl HI0.out) rfl ?_
  exact dg_bad HP.out rfl HB5.out

set_option maxRecDepth 20000 in
set_option maxHeartbeats 1000000 in
theorem rget_1 (xs : List UInt8) (sz : ByteArray) (hsz : strV xs = .string sz) (hmax : xs.length ≤ 1000) (w : World) (hn : 27 ≤ xs.length) (hn2 : xs.length < 27 + lenOf xs) :
    Calls Try.prog 13 #[.string sz] w fun e w' => DG xs w e w' := by
  have hzl : sz.size = xs.length := sd_size hsz
  have hi0 : (Try.prog.info? 26).map (·.size) = some frZ.size := by kernel_rfl
  have ho0 : frZ.all (·.oneCell') = true := by simp [frZ, Value.oneCell']
  have HI0 := Lib.hid hi0
  have HO0 := Lib.hid ho0
  have HMX := Lib.hid hmax
  have HSZ := Lib.hid hsz
  have HZL := Lib.hid hzl
  obtain ⟨W0, hW0⟩ : ∃ x, x = w.alloc (.cells frZ 26) := ⟨_, rfl⟩
  clear hi0 ho0
  obtain ⟨cc, w1, hcv, hrd1, hb1⟩ := cv_rd sz (by omega) W0
  rw [str_list hsz] at hrd1
  have hep := ep_new (by rw [← hW0]; exact hb1) hrd1
  obtain ⟨q, hq⟩ : ∃ x, x = w1.heap.size := ⟨_, rfl⟩
  obtain ⟨W2, hW2⟩ : ∃ x, x = w1.alloc (.cells #[.slice (some ⟨W0.heap.size, 0, none⟩) sz.size cc, .int .i64 0, .int .i64 0] 57) := ⟨_, rfl⟩
  rw [← hW2, ← hq] at hep
  have HW2 := Lib.hid hW2
  have HQ := Lib.hid hq
  have HN1 := Lib.hid (hep.num 1 1 rfl (by omega) (by omega) (by omega))
  obtain ⟨v1, hv1⟩ : ∃ v, v = numN (xs.take 1) := ⟨_, rfl⟩
  obtain ⟨v2, hv2⟩ : ∃ v, v = numN ((xs.drop 1).take 8) := ⟨_, rfl⟩
  obtain ⟨v3, hv3⟩ : ∃ v, v = numN ((xs.drop 9).take 8) := ⟨_, rfl⟩
  obtain ⟨v4, hv4⟩ : ∃ v, v = numN ((xs.drop 17).take 4) := ⟨_, rfl⟩
  obtain ⟨ln, hln⟩ : ∃ v, v = lenOf xs := ⟨_, rfl⟩
  have hl1 : v1 < 256 := by rw [hv1]; exact num_take_lt xs 1
  have hl4 : v4 < 4294967296 := by rw [hv4]; exact num_take_lt (xs.drop 17) 4
  have hl5 : ln < 65536 := by rw [hln]; exact lenOf_lt xs
  have z1 : IntKind.i64.wrap (v1 : Int) = (v1 : Int) := wrap_small _ (by omega) (by omega)
  have z4 : IntKind.u32.wrap (v4 : Int) = (v4 : Int) := IntWalk.u32_in _ (by omega)
  have z5 : IntKind.i64.wrap (ln : Int) = (ln : Int) := wrap_small _ (by omega) (by omega)
  have z6 : IntKind.i64.wrap (27 + (ln : Int)) = 27 + (ln : Int) := wrap_small _ (by omega) (by omega)
  have z7 : IntKind.i64.wrap (23 + (ln : Int)) = 23 + (ln : Int) := wrap_small _ (by omega) (by omega)
  rw [← hv1] at HN1
  have HV1 := Lib.hid hv1
  have HV2 := Lib.hid hv2
  have HV3 := Lib.hid hv3
  have HV4 := Lib.hid hv4
  have HLN := Lib.hid hln
  have HL5 := Lib.hid hl5
  have HN27 := Lib.hid (show 27 ≤ xs.length by omega)
  have c27 : ¬ (sz.size : Int) < 27 := by omega
  have HP := Lib.hid (show getP xs = (fr0, 7) from by unfold getP; rw [if_neg (by omega), if_pos hn2])
  have c28 : (sz.size : Int) < 27 + (ln : Int) := by omega
  have HW0 := Lib.hid hW0
  unfold frZ at HW0
  clear hrd1 hb1 hep hW2 hq hv1 hv2 hv3 hv4 hln hl1 hl4 hl5 hsz hmax hzl hW0 hn hn2
  go_enter Try.func13, Try.ntmps13
  go_upto_region 1 with fail
  rw [← HW0.out]
  go_wp2_with fail
  rw [← HW2.out, ← HQ.out]
  refine HN1.out.mono ?_
  rintro e w3 ⟨rfl, hep3⟩
  have HD4 := Lib.hid (hep3.begin ⟨(v1 : Int), 0, 0, 0, 0, 0, 0, 0, 0, [], []⟩ rfl)
  obtain ⟨g, hg⟩ : ∃ x, x = w3.heap.size := ⟨_, rfl⟩
  obtain ⟨W4, hW4⟩ : ∃ x, x = w3.alloc (.cells (frC ⟨(v1 : Int), 0, 0, 0, 0, 0, 0, 0, 0, [], []⟩ (.slice none 0 0)) 26) := ⟨_, rfl⟩
  rw [← hW4, ← hg] at HD4
  have HW4 := Lib.hid hW4
  have HGG := Lib.hid hg
  unfold frC strV at HW4
  simp only [Int.natCast_zero] at HW4
  have HN2 := Lib.hid (HD4.out.num_ok 8 8 rfl (by omega) (by omega) (by rw [List.length_drop]; have := HN27.out; omega))
  rw [← HV2.out] at HN2
  clear hep3 hW4 hg HN1 hcv
  go_wp2_with fail
  rw [← HW4.out, ← HGG.out]
  refine HN2.out.mono ?_
  rintro e wa2 ⟨rfl, hop⟩
  have c2 : wa2.cell? ⟨g, 1, none⟩ = some (.int .u64 0) := by rw [hop.cell 1]; rfl
  have fr2 : wa2.frozen? ⟨g, 1, none⟩ = false := hop.free 1
  have HOP2 := Lib.hid (hop.set 1 (.int .u64 (v2 : Int)) (f' := ⟨(v1 : Int), v2, 0, 0, 0, 0, 0, 0, 0, [], []⟩) rfl rfl)
  rw [List.drop_drop] at HOP2
  clear hop
  obtain ⟨wb2, hwb2⟩ : ∃ x, x = wa2.setCell ⟨g, 1, none⟩ (.int .u64 (v2 : Int)) := ⟨_, rfl⟩
  rw [← hwb2] at HOP2
  have HWB2 := Lib.hid hwb2
  have HN3 := Lib.hid (HOP2.out.num_ok 8 8 rfl (by omega) (by omega) (by rw [List.length_drop]; have := HN27.out; omega))
  rw [← HV3.out] at HN3
  clear hwb2
  go_wp2_with fail
  rw [← HWB2.out]
  refine HN3.out.mono ?_
  rintro e wa3 ⟨rfl, hop⟩
  have c3 : wa3.cell? ⟨g, 2, none⟩ = some (.int .u64 0) := by rw [hop.cell 2]; rfl
  have fr3 : wa3.frozen? ⟨g, 2, none⟩ = false := hop.free 2
  have HOP3 := Lib.hid (hop.set 2 (.int .u64 (v3 : Int)) (f' := ⟨(v1 : Int), v2, v3, 0, 0, 0, 0, 0, 0, [], []⟩) rfl rfl)
  rw [List.drop_drop] at HOP3
  clear hop
  obtain ⟨wb3, hwb3⟩ : ∃ x, x = wa3.setCell ⟨g, 2, none⟩ (.int .u64 (v3 : Int)) := ⟨_, rfl⟩
  rw [← hwb3] at HOP3
  have HWB3 := Lib.hid hwb3
  have HN4 := Lib.hid (HOP3.out.num_ok 4 4 rfl (by omega) (by omega) (by rw [List.length_drop]; have := HN27.out; omega))
  rw [← HV4.out] at HN4
  clear hwb3
  go_wp2_with fail
  rw [← HWB3.out]
  refine HN4.out.mono ?_
  rintro e wa4 ⟨rfl, hop⟩
  have c4 : wa4.cell? ⟨g, 3, none⟩ = some (.int .u32 0) := by rw [hop.cell 3]; rfl
  have fr4 : wa4.frozen? ⟨g, 3, none⟩ = false := hop.free 3
  have HOP4 := Lib.hid (hop.set 3 (.int .u32 (v4 : Int)) (f' := ⟨(v1 : Int), v2, v3, v4, 0, 0, 0, 0, 0, [], []⟩) rfl rfl)
  rw [List.drop_drop] at HOP4
  clear hop
  obtain ⟨wb4, hwb4⟩ : ∃ x, x = wa4.setCell ⟨g, 3, none⟩ (.int .u32 (v4 : Int)) := ⟨_, rfl⟩
  rw [← hwb4] at HOP4
  have HWB4 := Lib.hid hwb4
  have HN5 := Lib.hid (HOP4.out.num_ok 2 2 rfl (by omega) (by omega) (by rw [List.length_drop]; have := HN27.out; omega))
  rw [show numN ((xs.drop 21).take 2) = ln from HLN.out.symm] at HN5
  clear hwb4
  go_wp2_with fail
  rw [← HWB4.out]
  refine HN5.out.mono ?_
  rintro e wH ⟨rfl, hop⟩
  rw [List.drop_drop] at hop
  have HH := Lib.hid hop
  clear hop c2 c3 c4 fr2 fr3 fr4
  have hrs := HH.out.res
  have hw5 : (wH.setRow w.heap.size frZ).heap[w.heap.size]? = some (.cells frZ 26 (0, 0)) := setRow_heap _ _ _ frZ _ _ hrs
  have HB5 := Lib.hid (below_setRow HH.out.bel (Nat.le_refl _) frZ)
  go_wp2_with (with_reducible refine wpList_store_row (o := ⟨none, _, _, _, _, _⟩) rfl 26 (.tmp 2) (.tmp 41) rfl w.heap.size frZ rfl rfl 26 frZ hrs HI0.out rfl HO0.out ?_)
  refine bodyPost_ret (results_row_tmp (p := 2) (u := 3) (ty := 26) rfl _ _ w.heap.size 26 frZ (0, 0) _ rfl hw5 Try.underlying26 rfl HI0.out) rfl ?_
  exact dg_bad HP.out rfl HB5.out

set_option maxRecDepth 20000 in
set_option maxHeartbeats 1000000 in
theorem rget_2 (xs : List UInt8) (sz : ByteArray) (hsz : strV xs = .string sz) (hmax : xs.length ≤ 1000) (w : World) (hn : 27 + lenOf xs < xs.length) :
    Calls Try.prog 13 #[.string sz] w fun e w' => DG xs w e w' := by
  have hzl : sz.size = xs.length := sd_size hsz
  have hi0 : (Try.prog.info? 26).map (·.size) = some frZ.size := by kernel_rfl
  have ho0 : frZ.all (·.oneCell') = true := by simp [frZ, Value.oneCell']
  have HI0 := Lib.hid hi0
  have HO0 := Lib.hid ho0
  have HMX := Lib.hid hmax
  have HSZ := Lib.hid hsz
  have HZL := Lib.hid hzl
  obtain ⟨W0, hW0⟩ : ∃ x, x = w.alloc (.cells frZ 26) := ⟨_, rfl⟩
  clear hi0 ho0
  obtain ⟨cc, w1, hcv, hrd1, hb1⟩ := cv_rd sz (by omega) W0
  rw [str_list hsz] at hrd1
  have hep := ep_new (by rw [← hW0]; exact hb1) hrd1
  obtain ⟨q, hq⟩ : ∃ x, x = w1.heap.size := ⟨_, rfl⟩
  obtain ⟨W2, hW2⟩ : ∃ x, x = w1.alloc (.cells #[.slice (some ⟨W0.heap.size, 0, none⟩) sz.size cc, .int .i64 0, .int .i64 0] 57) := ⟨_, rfl⟩
  rw [← hW2, ← hq] at hep
  have HW2 := Lib.hid hW2
  have HQ := Lib.hid hq
  have HN1 := Lib.hid (hep.num 1 1 rfl (by omega) (by omega) (by omega))
  obtain ⟨v1, hv1⟩ : ∃ v, v = numN (xs.take 1) := ⟨_, rfl⟩
  obtain ⟨v2, hv2⟩ : ∃ v, v = numN ((xs.drop 1).take 8) := ⟨_, rfl⟩
  obtain ⟨v3, hv3⟩ : ∃ v, v = numN ((xs.drop 9).take 8) := ⟨_, rfl⟩
  obtain ⟨v4, hv4⟩ : ∃ v, v = numN ((xs.drop 17).take 4) := ⟨_, rfl⟩
  obtain ⟨ln, hln⟩ : ∃ v, v = lenOf xs := ⟨_, rfl⟩
  have hl1 : v1 < 256 := by rw [hv1]; exact num_take_lt xs 1
  have hl4 : v4 < 4294967296 := by rw [hv4]; exact num_take_lt (xs.drop 17) 4
  have hl5 : ln < 65536 := by rw [hln]; exact lenOf_lt xs
  have z1 : IntKind.i64.wrap (v1 : Int) = (v1 : Int) := wrap_small _ (by omega) (by omega)
  have z4 : IntKind.u32.wrap (v4 : Int) = (v4 : Int) := IntWalk.u32_in _ (by omega)
  have z5 : IntKind.i64.wrap (ln : Int) = (ln : Int) := wrap_small _ (by omega) (by omega)
  have z6 : IntKind.i64.wrap (27 + (ln : Int)) = 27 + (ln : Int) := wrap_small _ (by omega) (by omega)
  have z7 : IntKind.i64.wrap (23 + (ln : Int)) = 23 + (ln : Int) := wrap_small _ (by omega) (by omega)
  rw [← hv1] at HN1
  have HV1 := Lib.hid hv1
  have HV2 := Lib.hid hv2
  have HV3 := Lib.hid hv3
  have HV4 := Lib.hid hv4
  have HLN := Lib.hid hln
  have HL5 := Lib.hid hl5
  have HN27 := Lib.hid (show 27 ≤ xs.length by omega)
  have c27 : ¬ (sz.size : Int) < 27 := by omega
  have HP := Lib.hid (show getP xs = (fr0, 8) from by unfold getP; rw [if_neg (by omega), if_neg (by omega), if_pos hn])
  have c28 : ¬ (sz.size : Int) < 27 + (ln : Int) := by omega
  have c29 : (sz.size : Int) > 27 + (ln : Int) := by omega
  have HW0 := Lib.hid hW0
  unfold frZ at HW0
  clear hrd1 hb1 hep hW2 hq hv1 hv2 hv3 hv4 hln hl1 hl4 hl5 hsz hmax hzl hW0 hn
  go_enter Try.func13, Try.ntmps13
  go_upto_region 1 with fail
  rw [← HW0.out]
  go_wp2_with fail
  rw [← HW2.out, ← HQ.out]
  refine HN1.out.mono ?_
  rintro e w3 ⟨rfl, hep3⟩
  have HD4 := Lib.hid (hep3.begin ⟨(v1 : Int), 0, 0, 0, 0, 0, 0, 0, 0, [], []⟩ rfl)
  obtain ⟨g, hg⟩ : ∃ x, x = w3.heap.size := ⟨_, rfl⟩
  obtain ⟨W4, hW4⟩ : ∃ x, x = w3.alloc (.cells (frC ⟨(v1 : Int), 0, 0, 0, 0, 0, 0, 0, 0, [], []⟩ (.slice none 0 0)) 26) := ⟨_, rfl⟩
  rw [← hW4, ← hg] at HD4
  have HW4 := Lib.hid hW4
  have HGG := Lib.hid hg
  unfold frC strV at HW4
  simp only [Int.natCast_zero] at HW4
  have HN2 := Lib.hid (HD4.out.num_ok 8 8 rfl (by omega) (by omega) (by rw [List.length_drop]; have := HN27.out; omega))
  rw [← HV2.out] at HN2
  clear hep3 hW4 hg HN1 hcv
  go_wp2_with fail
  rw [← HW4.out, ← HGG.out]
  refine HN2.out.mono ?_
  rintro e wa2 ⟨rfl, hop⟩
  have c2 : wa2.cell? ⟨g, 1, none⟩ = some (.int .u64 0) := by rw [hop.cell 1]; rfl
  have fr2 : wa2.frozen? ⟨g, 1, none⟩ = false := hop.free 1
  have HOP2 := Lib.hid (hop.set 1 (.int .u64 (v2 : Int)) (f' := ⟨(v1 : Int), v2, 0, 0, 0, 0, 0, 0, 0, [], []⟩) rfl rfl)
  rw [List.drop_drop] at HOP2
  clear hop
  obtain ⟨wb2, hwb2⟩ : ∃ x, x = wa2.setCell ⟨g, 1, none⟩ (.int .u64 (v2 : Int)) := ⟨_, rfl⟩
  rw [← hwb2] at HOP2
  have HWB2 := Lib.hid hwb2
  have HN3 := Lib.hid (HOP2.out.num_ok 8 8 rfl (by omega) (by omega) (by rw [List.length_drop]; have := HN27.out; omega))
  rw [← HV3.out] at HN3
  clear hwb2
  go_wp2_with fail
  rw [← HWB2.out]
  refine HN3.out.mono ?_
  rintro e wa3 ⟨rfl, hop⟩
  have c3 : wa3.cell? ⟨g, 2, none⟩ = some (.int .u64 0) := by rw [hop.cell 2]; rfl
  have fr3 : wa3.frozen? ⟨g, 2, none⟩ = false := hop.free 2
  have HOP3 := Lib.hid (hop.set 2 (.int .u64 (v3 : Int)) (f' := ⟨(v1 : Int), v2, v3, 0, 0, 0, 0, 0, 0, [], []⟩) rfl rfl)
  rw [List.drop_drop] at HOP3
  clear hop
  obtain ⟨wb3, hwb3⟩ : ∃ x, x = wa3.setCell ⟨g, 2, none⟩ (.int .u64 (v3 : Int)) := ⟨_, rfl⟩
  rw [← hwb3] at HOP3
  have HWB3 := Lib.hid hwb3
  have HN4 := Lib.hid (HOP3.out.num_ok 4 4 rfl (by omega) (by omega) (by rw [List.length_drop]; have := HN27.out; omega))
  rw [← HV4.out] at HN4
  clear hwb3
  go_wp2_with fail
  rw [← HWB3.out]
  refine HN4.out.mono ?_
  rintro e wa4 ⟨rfl, hop⟩
  have c4 : wa4.cell? ⟨g, 3, none⟩ = some (.int .u32 0) := by rw [hop.cell 3]; rfl
  have fr4 : wa4.frozen? ⟨g, 3, none⟩ = false := hop.free 3
  have HOP4 := Lib.hid (hop.set 3 (.int .u32 (v4 : Int)) (f' := ⟨(v1 : Int), v2, v3, v4, 0, 0, 0, 0, 0, [], []⟩) rfl rfl)
  rw [List.drop_drop] at HOP4
  clear hop
  obtain ⟨wb4, hwb4⟩ : ∃ x, x = wa4.setCell ⟨g, 3, none⟩ (.int .u32 (v4 : Int)) := ⟨_, rfl⟩
  rw [← hwb4] at HOP4
  have HWB4 := Lib.hid hwb4
  have HN5 := Lib.hid (HOP4.out.num_ok 2 2 rfl (by omega) (by omega) (by rw [List.length_drop]; have := HN27.out; omega))
  rw [show numN ((xs.drop 21).take 2) = ln from HLN.out.symm] at HN5
  clear hwb4
  go_wp2_with fail
  rw [← HWB4.out]
  refine HN5.out.mono ?_
  rintro e wH ⟨rfl, hop⟩
  rw [List.drop_drop] at hop
  have HH := Lib.hid hop
  clear hop c2 c3 c4 fr2 fr3 fr4
  have hrs := HH.out.res
  have hw5 : (wH.setRow w.heap.size frZ).heap[w.heap.size]? = some (.cells frZ 26 (0, 0)) := setRow_heap _ _ _ frZ _ _ hrs
  have HB5 := Lib.hid (below_setRow HH.out.bel (Nat.le_refl _) frZ)
  go_wp2_with (with_reducible refine wpList_store_row (o := ⟨none, _, _, _, _, _⟩) rfl 26 (.tmp 2) (.tmp 47) rfl w.heap.size frZ rfl rfl 26 frZ hrs HI0.out rfl HO0.out ?_)
  refine bodyPost_ret (results_row_tmp (p := 2) (u := 3) (ty := 26) rfl _ _ w.heap.size 26 frZ (0, 0) _ rfl hw5 Try.underlying26 rfl HI0.out) rfl ?_
  exact dg_bad HP.out rfl HB5.out

end Go.Proofs.Ytipegdfjpmlcbaa


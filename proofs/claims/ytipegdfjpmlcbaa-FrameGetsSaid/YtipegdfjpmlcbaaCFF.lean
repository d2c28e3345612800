/-
  A frame is written (Put): the frame itself comes back.
-/
import Derived.Test.YtipegdfjpmlcbaaCFE
namespace Go.Proofs.Ytipegdfjpmlcbaa
open Go.RowKit
set_option linter.unusedVariables false
set_option linter.unusedSimpArgs false

theorem openP_len {h x : FR} {b : List UInt8} (ho : openP h b = some x) : b.length ≤ 131 := by
  unfold openP at ho
  repeat' split at ho
  all_goals (first | omega | (simp at ho; done) | (rename_i hq; subst hq; simp))

set_option maxRecDepth 20000 in
set_option maxHeartbeats 1000000 in
theorem put_same (f : FR) (a : Option Addr) (n c : Nat) (w : World) (hT : Tx w a n c f.list) (hv : f.vol < 4294967296) (hd : f.data.length ≤ 1099511627776) (hl : ∀ k, ((f.list.take k).flatten).length ≤ 1099511627776)
    (hse : f.sess < 18446744073709551616) (hep : f.ep < 18446744073709551616) (hsq : f.seq < 4294967296) (x : FR) (hne : x = f) (hg : openP f.head (bodyP f) = some x) :
    Calls Try.prog 8 #[frV f (.slice a n c)] w fun e w' => ∃ a' m c', e = .returned (.tuple #[.slice a' m c', .int .i64 0]) ∧ Rd w' a' m c' (frameB f) ∧ Below w.heap.size w w' := by
  have HT := Lib.hid hT
  obtain ⟨W0, hW0⟩ : ∃ x, x = w.alloc (.cells (frC f (.slice a n c)) 26) := ⟨_, rfl⟩
  have hb0 : Below w.heap.size w W0 := by rw [hW0]; exact (Below.refl _ _).alloc (Nat.le_refl _) _
  have hbx0 : W0.heap[w.heap.size]? = some (.cells (frC f (.slice a n c)) 26 (0, 0)) := by rw [hW0]; exact heap_alloc_new _ _
  have hlt0 : w.heap.size < W0.heap.size := lt_of_block hbx0
  obtain ⟨C, hC⟩ : ∃ C, C = frC f (.slice a n c) := ⟨_, rfl⟩
  have hfv : frV f (.slice a n c) = .agg C := by rw [hC]; rfl
  have hi0 : (Try.prog.info? 26).map (·.size) = some C.size := by rw [hC]; kernel_rfl
  have hiz : (Try.prog.info? 26).map (·.size) = some frZ.size := by kernel_rfl
  have HO1 := Lib.hid (show frZ.all (·.oneCell') = true by simp [frZ, Value.oneCell'])
  have HFV := Lib.hid hfv
  have HBD := Lib.hid (body_any f a n c W0 (hT.later hb0) hv hd hl)
  have HHD := Lib.hid (fun w => head_any f a n c w)
  simp only [hfv] at HBD HHD
  rw [← hC] at hbx0
  have HKB := Lib.hid (show ∀ w', Below W0.heap.size W0 w' → w'.heap[w.heap.size]? = some (.cells C 26 (0, 0)) from fun w' hb => (hb.block _ hlt0).trans hbx0)
  have HB0 := Lib.hid hb0
  have HW0 := Lib.hid hW0
  have HG := Lib.hid hg
  have HC := Lib.hid hC
  have HL0 := Lib.hid hlt0
  unfold frC at HW0
  unfold frV
  clear hW0 hb0 hC hfv hT hg hlt0
  go_enter Try.func8, Try.ntmps8
  go_upto_region 1 with fail
  rw [← HW0.out]
  go_wp2_with (with_reducible refine wpList_load_row (o := ⟨some 8, _, _, _, _, _⟩) rfl 26 (.tmp 1) rfl w.heap.size rfl 26 C (0, 0) _ hbx0 Try.underlying26 rfl hi0 ?_)
  refine HBD.out.mono ?_
  rintro e w1 ⟨a1, m1, c1, rfl, hrd1, hb1⟩
  have hbx1 := HKB.out _ hb1
  have HB1 := Lib.hid hb1
  have HR1 := Lib.hid hrd1
  clear hb1 hrd1
  go_wp2_with (with_reducible refine wpList_load_row (o := ⟨some 11, _, _, _, _, _⟩) rfl 26 (.tmp 1) rfl w.heap.size rfl 26 C (0, 0) _ hbx1 Try.underlying26 rfl hi0 ?_)
  refine (HHD.out w1).mono ?_
  rintro e w2 ⟨rfl, hb2⟩
  have HZ2 := Lib.hid hb2
  have HB2 := Lib.hid (HB1.out.trans (hb2.mono HB1.out.size))
  have HR2 := Lib.hid (HR1.out.later hb2)
  have HOP := Lib.hid (open_any f.head rfl a1 m1 c1 (bodyP f) w2 HR2.out)
  clear hb2
  go_wp2_with fail
  refine HOP.out.mono ?_
  rintro e w3 hres
  rcases hres with ⟨x', V, h1, he, ⟨a4, n4, c4, rfl, hT4⟩, hb3⟩ | ⟨h1, _⟩
  case inr => rw [HG.out] at h1; exact absurd h1 (by simp)
  obtain rfl : x = x' := by rw [HG.out] at h1; exact Option.some.inj h1
  obtain ⟨D, hD⟩ : ∃ D, D = frC x (.slice a4 n4 c4) := ⟨_, rfl⟩
  have hfd : frV x (.slice a4 n4 c4) = .agg D := by rw [hD]; rfl
  have hid : (Try.prog.info? 26).map (·.size) = some D.size := by rw [hD]; kernel_rfl
  have HD1 := Lib.hid (show D.all (·.oneCell') = true by rw [hD]; exact frC_one _ _ _ _)
  have HDS := Lib.hid (show frZ.size = D.size by rw [hD]; rfl)
  rw [hfd] at he
  subst he
  have HB3 := Lib.hid (HB2.out.trans (hb3.mono HB2.out.size))
  have HZ3 := Lib.hid (HZ2.out.trans (hb3.mono HZ2.out.size))
  have hn3 : (w3.alloc (.cells frZ 26)).heap[w3.heap.size]? = some (.cells frZ 26 (0, 0)) := heap_alloc_new _ _
  have HB4 := Lib.hid (below_setRow (HB3.out.alloc HB3.out.size (.cells frZ 26)) HB3.out.size D)
  have hn4 : ((w3.alloc (.cells frZ 26)).setRow w3.heap.size D).heap[w3.heap.size]? = some (.cells D 26 (0, 0)) := setRow_heap _ _ _ D _ _ hn3
  have hbx4 := HKB.out _ HB4.out
  have hb34 : Below w3.heap.size w3 ((w3.alloc (.cells frZ 26)).setRow w3.heap.size D) := below_setRow ((Below.refl _ _).alloc (Nat.le_refl _) _) (Nat.le_refl _) D
  have hal := alike_any x f a4 a n4 n c4 c _ (hT4.later hb34) (HT.out.later (HB0.out.trans (HB4.out.mono HB0.out.size)))
  rw [hfd, HFV.out] at hal
  have HAL := Lib.hid hal
  have HZ4 := Lib.hid (HZ3.out.trans (hb34.mono HZ3.out.size))
  clear hal hb34
  clear hb3 h1 hfd hD hT4
  go_wp2_with (first
    | (with_reducible refine wpList_store_row (o := ⟨none, _, _, _, _, _⟩) rfl 26 (.tmp 5) (.tmp 15) rfl w3.heap.size D rfl rfl 26 frZ hn3 hid HDS.out HD1.out ?_)
    | (with_reducible refine wpList_load_row_w (o := ⟨some 20, _, _, _, _, _⟩) (by simp [Region.wanted, yielded, Act.put]) 26 (.tmp 5) rfl w3.heap.size rfl 26 D (0, 0) _ hn4 Try.underlying26 rfl hid ?_)
    | (with_reducible refine wpList_load_row_w (o := ⟨some 21, _, _, _, _, _⟩) (by simp [Region.wanted, yielded, Act.put]) 26 (.tmp 1) rfl w.heap.size rfl 26 C (0, 0) _ hbx4 Try.underlying26 rfl hi0 ?_))
  have hlen := openP_len HG.out
  refine HAL.out.mono ?_
  rintro e w5 ⟨rfl, hb5⟩
  have HB5 := Lib.hid (HB4.out.trans (hb5.mono HB4.out.size))
  have HZ5 := Lib.hid (HZ4.out.trans (hb5.mono HZ4.out.size))
  have hdc : decide (x = f) = true := decide_eq_true hne
  rw [hdc]
  have hm1 : m1 = (bodyP f).length := HR1.out.len.symm
  have HM1 := Lib.hid hm1
  have HLE := Lib.hid (show m1 ≤ 131 by omega)
  have HCL := Lib.hid (show ∀ w', Below W0.heap.size W0 w' → ∀ i, w'.cell? ⟨w.heap.size, i, none⟩ = C[i]? from fun w' hb i => cell_of_blk (HKB.out w' hb) i)
  have hwc := wrap_wv
  have hwn := wv_lt
  have HWN := Lib.hid hwn
  have HSE := Lib.hid hse
  have HEP := Lib.hid hep
  have HSQ := Lib.hid hsq
  clear hb5 hdc hm1 hlen hwn hse hep hsq
  have cq1 : w5.cell? ⟨w.heap.size, 0, none⟩ = some (.int .i64 f.kind) := by rw [HCL.out _ HB5.out, HC.out]; rfl
  have HP1 := Lib.hid (put_own' (none) (0) 0 ([]) 1 1 rfl (wv f.kind) w5 (rd_nil _) (by omega) (by omega) (HWN.out _) (by have := HLE.out; omega))
  go_wp2_with fail
  with_reducible refine HP1.out.mono ?_
  rintro e v1 ⟨g1, d1, rfl, hg1, how1, hbb1⟩
  have HQ1 := Lib.hid (HB5.out.trans (hbb1.mono HB5.out.size))
  have HZ6 := Lib.hid (HZ5.out.trans (hbb1.mono HZ5.out.size))
  have cq2 : v1.cell? ⟨w.heap.size, 1, none⟩ = some (.int .u64 (f.sess : Int)) := by rw [HCL.out _ HQ1.out, HC.out]; rfl
  have HP2 := Lib.hid (put_own' (some ⟨g1, 0, none⟩) (0 + 1) d1 ([] ++ enc (wv f.kind) 1) 8 8 rfl (f.sess) v1 (rd_of_owns how1 (by omega)) (by omega) (by omega) (HSE.out) (by have := HLE.out; omega))
  go_wp2_with fail
  with_reducible refine HP2.out.mono ?_
  rintro e v2 ⟨g2, d2, rfl, hg2, how2, hbb2⟩
  have HQ2 := Lib.hid (HQ1.out.trans (hbb2.mono HQ1.out.size))
  have HZ7 := Lib.hid (HZ6.out.trans (hbb2.mono HZ6.out.size))
  have cq3 : v2.cell? ⟨w.heap.size, 2, none⟩ = some (.int .u64 (f.ep : Int)) := by rw [HCL.out _ HQ2.out, HC.out]; rfl
  have HP3 := Lib.hid (put_own' (some ⟨g2, 0, none⟩) (0 + 1 + 8) d2 (([] ++ enc (wv f.kind) 1) ++ enc f.sess 8) 8 8 rfl (f.ep) v2 (rd_of_owns how2 (by omega)) (by omega) (by omega) (HEP.out) (by have := HLE.out; omega))
  go_wp2_with fail
  with_reducible refine HP3.out.mono ?_
  rintro e v3 ⟨g3, d3, rfl, hg3, how3, hbb3⟩
  have HQ3 := Lib.hid (HQ2.out.trans (hbb3.mono HQ2.out.size))
  have HZ8 := Lib.hid (HZ7.out.trans (hbb3.mono HZ7.out.size))
  have cq4 : v3.cell? ⟨w.heap.size, 3, none⟩ = some (.int .u32 (f.seq : Int)) := by rw [HCL.out _ HQ3.out, HC.out]; rfl
  have HP4 := Lib.hid (put_own' (some ⟨g3, 0, none⟩) (0 + 1 + 8 + 8) d3 ((([] ++ enc (wv f.kind) 1) ++ enc f.sess 8) ++ enc f.ep 8) 4 4 rfl (wv (f.seq : Int)) v3 (rd_of_owns how3 (by omega)) (by omega) (by omega) (HWN.out _) (by have := HLE.out; omega))
  go_wp2_with fail
  with_reducible refine HP4.out.mono ?_
  rintro e v4 ⟨g4, d4, rfl, hg4, how4, hbb4⟩
  have HQ4 := Lib.hid (HQ3.out.trans (hbb4.mono HQ3.out.size))
  have HZ9 := Lib.hid (HZ8.out.trans (hbb4.mono HZ8.out.size))
  have HP5 := Lib.hid (put_own' (some ⟨g4, 0, none⟩) (0 + 1 + 8 + 8 + 4) d4 (((([] ++ enc (wv f.kind) 1) ++ enc f.sess 8) ++ enc f.ep 8) ++ enc (wv (f.seq : Int)) 4) 2 2 rfl (wv (m1 : Int)) v4 (rd_of_owns how4 (by omega)) (by omega) (by omega) (HWN.out _) (by have := HLE.out; omega))
  go_wp2_with fail
  with_reducible refine HP5.out.mono ?_
  rintro e v5 ⟨g5, d5, rfl, hg5, how5, hbb5⟩
  have HQ5 := Lib.hid (HQ4.out.trans (hbb5.mono HQ4.out.size))
  have HZ10 := Lib.hid (HZ9.out.trans (hbb5.mono HZ9.out.size))
  obtain ⟨i5, hi, hz0, hz1, hz2⟩ := info_parts Try.info5
  have HR5 := Lib.hid (HR1.out.later HZ10.out)
  have HOW := Lib.hid how5
  clear how5
  have t1 := Lib.hid (owns_lowB HOW.out HQ4.out.size)
  have t2 := Lib.hid HQ5.out.size
  have t3 := Lib.hid (show 0 + 1 + 8 + 8 + 4 + 2 + m1 ≤ 140737488355328 by have := HLE.out; omega)
  go_wp2_with (at_builtin; refine wpList_append_rd (o := ⟨some 49, _, _, _, _, _⟩) rfl (.tmp 47) (.tmp 48) 29 rfl W0.heap.size 5 i5 Try.underlying29 hi hz0 hz1 hz2 (.slice (some ⟨g5, 0, none⟩) (0 + 1 + 8 + 8 + 4 + 2) d5) (0 + 1 + 8 + 8 + 4 + 2) ((((([] ++ enc (wv f.kind) 1) ++ enc f.sess 8) ++ enc f.ep 8) ++ enc (wv (f.seq : Int)) 4) ++ enc (wv (m1 : Int)) 2) rfl t1.out a1 m1 c1 (bodyP f) rfl HR5.out t3.out t2.out ?_)
  intro v6 w6 how6 hg6
  have hb6 : Below W0.heap.size W0 w6 := HQ5.out.grown hg6 HQ5.out.size (fun j e => ((owns_lowB HOW.out HQ4.out.size).lt j e).1)
  obtain ⟨a6, c6, rfl, hrd6, _⟩ := owns_shape how6 (by have := HLE.out; omega)
  have HQ6 := Lib.hid hb6
  have HR6 := Lib.hid hrd6
  clear how6 hg6 hb6 hrd6
  have hsum := sum_any _ _ _ _ _ HR6.out
  obtain ⟨sv, hsv⟩ : ∃ s, s = addN 0 (enc (wv f.kind) 1 ++ (enc f.sess 8 ++ (enc f.ep 8 ++ (enc (wv (f.seq : Int)) 4 ++ (enc (wv (m1 : Int)) 2 ++ bodyP f))))) := ⟨_, rfl⟩
  rw [← hsv] at hsum
  have HSUM := Lib.hid hsum
  have HSV := Lib.hid hsv
  clear hsum hsv
  go_wp2_with fail
  refine HSUM.out.mono ?_
  rintro e w7 ⟨rfl, hb7⟩
  have HQ7 := Lib.hid (HQ6.out.trans (hb7.mono HQ6.out.size))
  have HR7 := Lib.hid (HR6.out.later hb7)
  clear hb7
  have HP7 := Lib.hid (put_own' _ _ _ _ 4 4 rfl (wv ((sv : Nat) : Int)) w7 HR7.out (by omega) (by omega) (HWN.out _) (by have := HLE.out; omega))
  go_wp2_with fail
  with_reducible refine HP7.out.mono ?_
  rintro e w8 ⟨g8, d8, rfl, hg8, how8, hb8⟩
  have HQ8 := Lib.hid (HQ7.out.trans (hb8.mono HQ7.out.size))
  have HR8 := Lib.hid (rd_of_owns how8 (by have := HLE.out; omega))
  clear how8 hb8
  go_wp2
  refine bodyPost_ret (results_tmp2 rfl _ _ _) rfl ?_
  refine ⟨_, _, _, rfl, ?_, HB0.out.trans (HQ8.out.mono HB0.out.size)⟩
  have h8 := HR8.out
  rw [HSV.out] at h8
  have e1 : wv (f.seq : Int) = f.seq := wv_nat (by have := HSQ.out; omega)
  have e2 : wv (m1 : Int) = (bodyP f).length := by rw [← HM1.out]; exact wv_nat (by have := HLE.out; omega)
  rw [e1, e2] at h8
  have e3 : (enc (wv f.kind) 1 ++ (enc f.sess 8 ++ (enc f.ep 8 ++ (enc f.seq 4 ++ (enc (bodyP f).length 2 ++ bodyP f))))) = sumB f := by simp [sumB, headB, List.append_assoc]
  rw [e3, wv_nat (by have := addN_lt 0 (sumB f); omega)] at h8
  exact h8
end Go.Proofs.Ytipegdfjpmlcbaa


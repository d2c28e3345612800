/-
  The walk of FrameSpoils.
-/
import Derived.Test.YtipegdfjpmlcbaaCFK
namespace Go.Proofs.Ytipegdfjpmlcbaa
open Go.RowKit
set_option linter.unusedVariables false
set_option linter.unusedSimpArgs false

theorem bvs_set (xs : List UInt8) (j : Nat) (x : UInt8) : bvs (xs.set j x) = (bvs xs).set j (.int .u8 (x.toNat : Int)) := by simp [bvs, List.map_set]
theorem owns_some {w : World} {B n : Nat} {v : Value} {xs : List UInt8} (h : w.ownsRow B 5 1 v n (bvs xs)) (h0 : 0 < n) :
    ∃ g c, v = .slice (some ⟨g, 0, none⟩) n c ∧ B ≤ g ∧ n ≤ c := by
  obtain ⟨_, h2⟩ := h
  rcases h2 with ⟨_, h⟩ | ⟨g, cap, cur, rfl, hB, hh, hle, hm, _, _⟩
  · omega
  · exact ⟨g, cap, rfl, hB, hle⟩
theorem byte_eq {xs : List UInt8} {i : Nat} {u : UInt8} (hi : i < xs.length) : (xs[i] = u → ((((xs[i]?.getD 0).toNat : Nat) : Int) == ((u.toNat : Nat) : Int)) = true) ∧ (xs[i] ≠ u → ((((xs[i]?.getD 0).toNat : Nat) : Int) == ((u.toNat : Nat) : Int)) = false) := by
  rw [List.getElem?_eq_getElem hi]
  refine ⟨fun h => by simp [h], fun h => ?_⟩
  rw [beq_eq_false_iff_ne]
  intro h2
  exact h (UInt8.toNat_inj.1 (Int.ofNat_inj.1 (by simpa using h2)))

set_option maxRecDepth 20000 in
set_option maxHeartbeats 1000000 in
theorem spoils_bad (f : FR) (a : Option Addr) (n c : Nat) (i : Int) (u : UInt8) (j : Int) (w : World) (hT : Tx w a n c f.list) (hv : f.vol < 4294967296) (hfit : f.fit) (hd : f.data.length ≤ 1099511627776) (hl : ∀ k, ((f.list.take k).flatten).length ≤ 1099511627776) (hg : ¬ good f) :
    Calls Try.prog 5 #[frV f (.slice a n c), .int .i64 i, .int .u8 (u.toNat : Int), .int .i64 j] w fun e w' => e = .returned (.bool true) ∧ Below w.heap.size w w' := by
  have HFI := Lib.hid hfit
  obtain ⟨W0, hW0⟩ : ∃ x, x = w.alloc (.cells (frC f (.slice a n c)) 26) := ⟨_, rfl⟩
  have hb0 : Below w.heap.size w W0 := by rw [hW0]; exact (Below.refl _ _).alloc (Nat.le_refl _) _
  have hbx0 : W0.heap[w.heap.size]? = some (.cells (frC f (.slice a n c)) 26 (0, 0)) := by rw [hW0]; exact heap_alloc_new _ _
  obtain ⟨C, hC⟩ : ∃ C, C = frC f (.slice a n c) := ⟨_, rfl⟩
  have hfv : frV f (.slice a n c) = .agg C := by rw [hC]; rfl
  have hi0 : (Try.prog.info? 26).map (·.size) = some C.size := by rw [hC]; kernel_rfl
  have hp := fput_any f a n c W0 (hT.later hb0) hv hfit.sess hfit.ep hfit.seq hd hl
  rw [hfv] at hp
  rw [← hC] at hbx0
  have HW0 := Lib.hid hW0
  have HB0 := Lib.hid hb0
  rw [show putP f = ([], 6) from by unfold putP; rw [if_neg hg]] at hp
  have HP := Lib.hid hp
  have HI0 := Lib.hid hi0
  unfold frC at HW0
  unfold frV
  clear hW0 hp hb0 hT hd hl hv hfit hi0 hC hfv
  go_enter Try.func5, Try.ntmps5
  go_upto_region 1 with fail
  rw [← HW0.out]
  go_wp2_with (with_reducible refine wpList_load_row (o := ⟨some 17, _, _, _, _, _⟩) rfl 26 (.tmp 4) rfl w.heap.size rfl 26 C (0, 0) _ hbx0 Try.underlying26 rfl HI0.out ?_)
  refine HP.out.mono ?_
  rintro e w1 ⟨a1, m1, c1, rfl, hrd1, hb1⟩
  have HB1 := Lib.hid hb1
  clear hb1 hrd1
  go_wp2_with fail
  refine (known21_any _).mono ?_
  rintro e wk ⟨rfl, hbk⟩
  go_wp2
  go_ret
  exact ⟨rfl, HB0.out.trans ((HB1.out.trans (hbk.mono HB1.out.size)).mono HB0.out.size)⟩

set_option maxRecDepth 20000 in
set_option maxHeartbeats 1000000 in
theorem spoils_in_neg (f : FR) (a : Option Addr) (n c : Nat) (i : Int) (u : UInt8) (j : Nat) (w : World) (hT : Tx w a n c f.list) (hv : f.vol < 4294967296) (hfit : f.fit) (hd : f.data.length ≤ 1099511627776) (hl : ∀ k, ((f.list.take k).flatten).length ≤ 1099511627776) (hg : good f) (hj : j < (frameB f).length) (hi : i < 0) :
    Calls Try.prog 5 #[frV f (.slice a n c), .int .i64 i, .int .u8 (u.toNat : Int), .int .i64 j] w fun e w' => e = .returned (.bool true) ∧ Below w.heap.size w w' := by
  have HFI := Lib.hid hfit
  obtain ⟨W0, hW0⟩ : ∃ x, x = w.alloc (.cells (frC f (.slice a n c)) 26) := ⟨_, rfl⟩
  have hb0 : Below w.heap.size w W0 := by rw [hW0]; exact (Below.refl _ _).alloc (Nat.le_refl _) _
  have hbx0 : W0.heap[w.heap.size]? = some (.cells (frC f (.slice a n c)) 26 (0, 0)) := by rw [hW0]; exact heap_alloc_new _ _
  obtain ⟨C, hC⟩ : ∃ C, C = frC f (.slice a n c) := ⟨_, rfl⟩
  have hfv : frV f (.slice a n c) = .agg C := by rw [hC]; rfl
  have hi0 : (Try.prog.info? 26).map (·.size) = some C.size := by rw [hC]; kernel_rfl
  have hp := fput_any f a n c W0 (hT.later hb0) hv hfit.sess hfit.ep hfit.seq hd hl
  rw [hfv] at hp
  rw [← hC] at hbx0
  have HW0 := Lib.hid hW0
  have HB0 := Lib.hid hb0
  rw [show putP f = (frameB f, 0) from by unfold putP; rw [if_pos hg]] at hp
  have HG := Lib.hid hg
  have HP := Lib.hid hp
  have HI0 := Lib.hid hi0
  unfold frC at HW0
  unfold frV
  clear hW0 hp hb0 hT hd hl hv hfit hi0 hC hfv
  go_enter Try.func5, Try.ntmps5
  go_upto_region 1 with fail
  rw [← HW0.out]
  go_wp2_with (with_reducible refine wpList_load_row (o := ⟨some 17, _, _, _, _, _⟩) rfl 26 (.tmp 4) rfl w.heap.size rfl 26 C (0, 0) _ hbx0 Try.underlying26 rfl HI0.out ?_)
  refine HP.out.mono ?_
  rintro e w1 ⟨a1, m1, c1, rfl, hrd1, hb1⟩
  have hlen := hrd1.len
  have hlb := good_len HG.out
  have hlf := frameB_length f
  have HLB := Lib.hid (show m1 ≤ 1000 by omega)
  have HL1 := Lib.hid (show (frameB f).length = m1 from hlen)
  have hm27 : 27 ≤ m1 := by omega
  obtain ⟨b, off, rfl, hbb, hcc⟩ := hrd1.at0 (by omega)
  have HB1 := Lib.hid hb1
  have HR1 := Lib.hid hrd1
  have HCC := Lib.hid hcc
  have HBB := Lib.hid hbb
  have j1 : (0 : Int) ≤ (j : Int) := by omega
  have j2 : (j : Int) < (m1 : Int) := by omega
  have j3 : (j : Int) ≤ (c1 : Int) := by have := hrd1.le; omega
  have hcut := frame_cut f HG.out HFI.out j hj
  obtain ⟨y, hy⟩ : ∃ y, getP ((frameB f).take j) = (y, 7) := ⟨_, Prod.ext rfl hcut⟩
  have HGT := Lib.hid (fget_ok _ _ _ _ w1 (hrd1.pre (m := j) (by omega)) y 7 hy)
  clear hcut hy
  have i1 : i < 0 := hi
  clear hb1 hrd1 hcc hlen hlb hlf hj hi hg hm27
  go_wp2_with fail
  refine HGT.out.mono ?_
  rintro e w2 ⟨a2, n2, c2, D, hD, rfl, ht2, hb2⟩
  have HB2 := Lib.hid (HB1.out.trans (hb2.mono HB1.out.size))
  obtain ⟨hn2, hn3, hb3⟩ := new_row w2 D
  obtain ⟨q1, q2, q3⟩ := frc_facts y a2 n2 c2
  rw [← hD] at q1 q2 q3
  have Q1 := Lib.hid q1
  have Q2 := Lib.hid q2
  have Q3 := Lib.hid q3
  have HBX := Lib.hid (HB2.out.trans (hb3.mono HB2.out.size))
  have HRX := Lib.hid ((HR1.out.later hb2).later hb3)
  clear hD ht2 hb2 hb3 hn3 q1 q2 q3
  go_wp2_with (with_reducible refine wpList_store_row (o := ⟨none, _, _, _, _, _⟩) rfl 26 (.tmp 11) (.tmp 37) rfl w2.heap.size D rfl rfl 26 frZ hn2 Q1.out Q2.out Q3.out ?_)
  refine (known21_any _).mono ?_
  rintro e wk ⟨rfl, hbk⟩
  go_wp2
  go_ret
  exact ⟨rfl, HB0.out.trans ((HBX.out.trans (hbk.mono HBX.out.size)).mono HB0.out.size)⟩

set_option maxRecDepth 20000 in
set_option maxHeartbeats 1000000 in
theorem spoils_in_past (f : FR) (a : Option Addr) (n c : Nat) (i : Int) (u : UInt8) (j : Nat) (w : World) (hT : Tx w a n c f.list) (hv : f.vol < 4294967296) (hfit : f.fit) (hd : f.data.length ≤ 1099511627776) (hl : ∀ k, ((f.list.take k).flatten).length ≤ 1099511627776) (hg : good f) (hj : j < (frameB f).length) (hi : 0 ≤ i ∧ ((frameB f).length : Int) ≤ i) :
    Calls Try.prog 5 #[frV f (.slice a n c), .int .i64 i, .int .u8 (u.toNat : Int), .int .i64 j] w fun e w' => e = .returned (.bool true) ∧ Below w.heap.size w w' := by
  have HFI := Lib.hid hfit
  obtain ⟨W0, hW0⟩ : ∃ x, x = w.alloc (.cells (frC f (.slice a n c)) 26) := ⟨_, rfl⟩
  have hb0 : Below w.heap.size w W0 := by rw [hW0]; exact (Below.refl _ _).alloc (Nat.le_refl _) _
  have hbx0 : W0.heap[w.heap.size]? = some (.cells (frC f (.slice a n c)) 26 (0, 0)) := by rw [hW0]; exact heap_alloc_new _ _
  obtain ⟨C, hC⟩ : ∃ C, C = frC f (.slice a n c) := ⟨_, rfl⟩
  have hfv : frV f (.slice a n c) = .agg C := by rw [hC]; rfl
  have hi0 : (Try.prog.info? 26).map (·.size) = some C.size := by rw [hC]; kernel_rfl
  have hp := fput_any f a n c W0 (hT.later hb0) hv hfit.sess hfit.ep hfit.seq hd hl
  rw [hfv] at hp
  rw [← hC] at hbx0
  have HW0 := Lib.hid hW0
  have HB0 := Lib.hid hb0
  rw [show putP f = (frameB f, 0) from by unfold putP; rw [if_pos hg]] at hp
  have HG := Lib.hid hg
  have HP := Lib.hid hp
  have HI0 := Lib.hid hi0
  unfold frC at HW0
  unfold frV
  clear hW0 hp hb0 hT hd hl hv hfit hi0 hC hfv
  go_enter Try.func5, Try.ntmps5
  go_upto_region 1 with fail
  rw [← HW0.out]
  go_wp2_with (with_reducible refine wpList_load_row (o := ⟨some 17, _, _, _, _, _⟩) rfl 26 (.tmp 4) rfl w.heap.size rfl 26 C (0, 0) _ hbx0 Try.underlying26 rfl HI0.out ?_)
  refine HP.out.mono ?_
  rintro e w1 ⟨a1, m1, c1, rfl, hrd1, hb1⟩
  have hlen := hrd1.len
  have hlb := good_len HG.out
  have hlf := frameB_length f
  have HLB := Lib.hid (show m1 ≤ 1000 by omega)
  have HL1 := Lib.hid (show (frameB f).length = m1 from hlen)
  have hm27 : 27 ≤ m1 := by omega
  obtain ⟨b, off, rfl, hbb, hcc⟩ := hrd1.at0 (by omega)
  have HB1 := Lib.hid hb1
  have HR1 := Lib.hid hrd1
  have HCC := Lib.hid hcc
  have HBB := Lib.hid hbb
  have j1 : (0 : Int) ≤ (j : Int) := by omega
  have j2 : (j : Int) < (m1 : Int) := by omega
  have j3 : (j : Int) ≤ (c1 : Int) := by have := hrd1.le; omega
  have hcut := frame_cut f HG.out HFI.out j hj
  obtain ⟨y, hy⟩ : ∃ y, getP ((frameB f).take j) = (y, 7) := ⟨_, Prod.ext rfl hcut⟩
  have HGT := Lib.hid (fget_ok _ _ _ _ w1 (hrd1.pre (m := j) (by omega)) y 7 hy)
  clear hcut hy
  have i1 : ¬ i < 0 := by omega
  have i2 : (m1 : Int) ≤ i := by omega
  clear hb1 hrd1 hcc hlen hlb hlf hj hi hg hm27
  go_wp2_with fail
  refine HGT.out.mono ?_
  rintro e w2 ⟨a2, n2, c2, D, hD, rfl, ht2, hb2⟩
  have HB2 := Lib.hid (HB1.out.trans (hb2.mono HB1.out.size))
  obtain ⟨hn2, hn3, hb3⟩ := new_row w2 D
  obtain ⟨q1, q2, q3⟩ := frc_facts y a2 n2 c2
  rw [← hD] at q1 q2 q3
  have Q1 := Lib.hid q1
  have Q2 := Lib.hid q2
  have Q3 := Lib.hid q3
  have HBX := Lib.hid (HB2.out.trans (hb3.mono HB2.out.size))
  have HRX := Lib.hid ((HR1.out.later hb2).later hb3)
  clear hD ht2 hb2 hb3 hn3 q1 q2 q3
  go_wp2_with (with_reducible refine wpList_store_row (o := ⟨none, _, _, _, _, _⟩) rfl 26 (.tmp 11) (.tmp 37) rfl w2.heap.size D rfl rfl 26 frZ hn2 Q1.out Q2.out Q3.out ?_)
  refine (known21_any _).mono ?_
  rintro e wk ⟨rfl, hbk⟩
  go_wp2
  go_ret
  exact ⟨rfl, HB0.out.trans ((HBX.out.trans (hbk.mono HBX.out.size)).mono HB0.out.size)⟩

set_option maxRecDepth 20000 in
set_option maxHeartbeats 1000000 in
theorem spoils_in_eq (f : FR) (a : Option Addr) (n c : Nat) (i : Nat) (u : UInt8) (j : Nat) (w : World) (hT : Tx w a n c f.list) (hv : f.vol < 4294967296) (hfit : f.fit) (hd : f.data.length ≤ 1099511627776) (hl : ∀ k, ((f.list.take k).flatten).length ≤ 1099511627776) (hg : good f) (hj : j < (frameB f).length) (hi : i < (frameB f).length) (hu : (frameB f)[i] = u) :
    Calls Try.prog 5 #[frV f (.slice a n c), .int .i64 i, .int .u8 (u.toNat : Int), .int .i64 j] w fun e w' => e = .returned (.bool true) ∧ Below w.heap.size w w' := by
  have HFI := Lib.hid hfit
  obtain ⟨W0, hW0⟩ : ∃ x, x = w.alloc (.cells (frC f (.slice a n c)) 26) := ⟨_, rfl⟩
  have hb0 : Below w.heap.size w W0 := by rw [hW0]; exact (Below.refl _ _).alloc (Nat.le_refl _) _
  have hbx0 : W0.heap[w.heap.size]? = some (.cells (frC f (.slice a n c)) 26 (0, 0)) := by rw [hW0]; exact heap_alloc_new _ _
  obtain ⟨C, hC⟩ : ∃ C, C = frC f (.slice a n c) := ⟨_, rfl⟩
  have hfv : frV f (.slice a n c) = .agg C := by rw [hC]; rfl
  have hi0 : (Try.prog.info? 26).map (·.size) = some C.size := by rw [hC]; kernel_rfl
  have hp := fput_any f a n c W0 (hT.later hb0) hv hfit.sess hfit.ep hfit.seq hd hl
  rw [hfv] at hp
  rw [← hC] at hbx0
  have HW0 := Lib.hid hW0
  have HB0 := Lib.hid hb0
  rw [show putP f = (frameB f, 0) from by unfold putP; rw [if_pos hg]] at hp
  have HG := Lib.hid hg
  have HP := Lib.hid hp
  have HI0 := Lib.hid hi0
  unfold frC at HW0
  unfold frV
  clear hW0 hp hb0 hT hd hl hv hfit hi0 hC hfv
  go_enter Try.func5, Try.ntmps5
  go_upto_region 1 with fail
  rw [← HW0.out]
  go_wp2_with (with_reducible refine wpList_load_row (o := ⟨some 17, _, _, _, _, _⟩) rfl 26 (.tmp 4) rfl w.heap.size rfl 26 C (0, 0) _ hbx0 Try.underlying26 rfl HI0.out ?_)
  refine HP.out.mono ?_
  rintro e w1 ⟨a1, m1, c1, rfl, hrd1, hb1⟩
  have hlen := hrd1.len
  have hlb := good_len HG.out
  have hlf := frameB_length f
  have HLB := Lib.hid (show m1 ≤ 1000 by omega)
  have HL1 := Lib.hid (show (frameB f).length = m1 from hlen)
  have hm27 : 27 ≤ m1 := by omega
  obtain ⟨b, off, rfl, hbb, hcc⟩ := hrd1.at0 (by omega)
  have HB1 := Lib.hid hb1
  have HR1 := Lib.hid hrd1
  have HCC := Lib.hid hcc
  have HBB := Lib.hid hbb
  have j1 : (0 : Int) ≤ (j : Int) := by omega
  have j2 : (j : Int) < (m1 : Int) := by omega
  have j3 : (j : Int) ≤ (c1 : Int) := by have := hrd1.le; omega
  have hcut := frame_cut f HG.out HFI.out j hj
  obtain ⟨y, hy⟩ : ∃ y, getP ((frameB f).take j) = (y, 7) := ⟨_, Prod.ext rfl hcut⟩
  have HGT := Lib.hid (fget_ok _ _ _ _ w1 (hrd1.pre (m := j) (by omega)) y 7 hy)
  clear hcut hy
  have i1 : ¬ (i : Int) < 0 := by omega
  have i2 : ¬ (m1 : Int) ≤ (i : Int) := by omega
  have i3 : (0 : Int) ≤ (i : Int) := by omega
  have i4 : (i : Int) < (m1 : Int) := by omega
  have hm1 : i < m1 := by omega
  have hq := (byte_eq hi).1 hu
  have hce := hcc i hm1
  obtain ⟨z, hz⟩ : ∃ z : Int, z = ((((frameB f)[i]?.getD 0).toNat : Nat) : Int) := ⟨_, rfl⟩
  rw [← hz] at hce hq
  have HZ := Lib.hid hz
  clear hz
  have HHI := Lib.hid hi
  clear hb1 hrd1 hcc hlen hlb hlf hj hi hg hu hm27
  go_wp2_with fail
  refine HGT.out.mono ?_
  rintro e w2 ⟨a2, n2, c2, D, hD, rfl, ht2, hb2⟩
  have HB2 := Lib.hid (HB1.out.trans (hb2.mono HB1.out.size))
  obtain ⟨hn2, hn3, hb3⟩ := new_row w2 D
  obtain ⟨q1, q2, q3⟩ := frc_facts y a2 n2 c2
  rw [← hD] at q1 q2 q3
  have Q1 := Lib.hid q1
  have Q2 := Lib.hid q2
  have Q3 := Lib.hid q3
  have HBX := Lib.hid (HB2.out.trans (hb3.mono HB2.out.size))
  have HRX := Lib.hid ((HR1.out.later hb2).later hb3)
  have hce2 : ((w2.alloc (.cells frZ 26)).setRow w2.heap.size D).cell? ⟨b, off + i, none⟩ = some (.int .u8 z) := by
    obtain ⟨b', off', e2, _, hc2⟩ := HRX.out.at0 (by omega)
    cases e2
    rw [HZ.out]
    exact hc2 i hm1
  clear hce
  clear hD ht2 hb2 hb3 hn3 q1 q2 q3
  go_wp2_with (with_reducible refine wpList_store_row (o := ⟨none, _, _, _, _, _⟩) rfl 26 (.tmp 11) (.tmp 37) rfl w2.heap.size D rfl rfl 26 frZ hn2 Q1.out Q2.out Q3.out ?_)
  refine (known21_any _).mono ?_
  rintro e wk ⟨rfl, hbk⟩
  go_wp2
  go_ret
  exact ⟨rfl, HB0.out.trans ((HBX.out.trans (hbk.mono HBX.out.size)).mono HB0.out.size)⟩

set_option maxRecDepth 20000 in
set_option maxHeartbeats 1000000 in
theorem spoils_in_ne (f : FR) (a : Option Addr) (n c : Nat) (i : Nat) (u : UInt8) (j : Nat) (w : World) (hT : Tx w a n c f.list) (hv : f.vol < 4294967296) (hfit : f.fit) (hd : f.data.length ≤ 1099511627776) (hl : ∀ k, ((f.list.take k).flatten).length ≤ 1099511627776) (hg : good f) (hj : j < (frameB f).length) (hi : i < (frameB f).length) (hu : (frameB f)[i] ≠ u) :
    Calls Try.prog 5 #[frV f (.slice a n c), .int .i64 i, .int .u8 (u.toNat : Int), .int .i64 j] w fun e w' => e = .returned (.bool true) ∧ Below w.heap.size w w' := by
  have HFI := Lib.hid hfit
  obtain ⟨W0, hW0⟩ : ∃ x, x = w.alloc (.cells (frC f (.slice a n c)) 26) := ⟨_, rfl⟩
  have hb0 : Below w.heap.size w W0 := by rw [hW0]; exact (Below.refl _ _).alloc (Nat.le_refl _) _
  have hbx0 : W0.heap[w.heap.size]? = some (.cells (frC f (.slice a n c)) 26 (0, 0)) := by rw [hW0]; exact heap_alloc_new _ _
  obtain ⟨C, hC⟩ : ∃ C, C = frC f (.slice a n c) := ⟨_, rfl⟩
  have hfv : frV f (.slice a n c) = .agg C := by rw [hC]; rfl
  have hi0 : (Try.prog.info? 26).map (·.size) = some C.size := by rw [hC]; kernel_rfl
  have hp := fput_any f a n c W0 (hT.later hb0) hv hfit.sess hfit.ep hfit.seq hd hl
  rw [hfv] at hp
  rw [← hC] at hbx0
  have HW0 := Lib.hid hW0
  have HB0 := Lib.hid hb0
  rw [show putP f = (frameB f, 0) from by unfold putP; rw [if_pos hg]] at hp
  have HG := Lib.hid hg
  have HP := Lib.hid hp
  have HI0 := Lib.hid hi0
  unfold frC at HW0
  unfold frV
  clear hW0 hp hb0 hT hd hl hv hfit hi0 hC hfv
  go_enter Try.func5, Try.ntmps5
  go_upto_region 1 with fail
  rw [← HW0.out]
  go_wp2_with (with_reducible refine wpList_load_row (o := ⟨some 17, _, _, _, _, _⟩) rfl 26 (.tmp 4) rfl w.heap.size rfl 26 C (0, 0) _ hbx0 Try.underlying26 rfl HI0.out ?_)
  refine HP.out.mono ?_
  rintro e w1 ⟨a1, m1, c1, rfl, hrd1, hb1⟩
  have hlen := hrd1.len
  have hlb := good_len HG.out
  have hlf := frameB_length f
  have HLB := Lib.hid (show m1 ≤ 1000 by omega)
  have HL1 := Lib.hid (show (frameB f).length = m1 from hlen)
  have hm27 : 27 ≤ m1 := by omega
  obtain ⟨b, off, rfl, hbb, hcc⟩ := hrd1.at0 (by omega)
  have HB1 := Lib.hid hb1
  have HR1 := Lib.hid hrd1
  have HCC := Lib.hid hcc
  have HBB := Lib.hid hbb
  have j1 : (0 : Int) ≤ (j : Int) := by omega
  have j2 : (j : Int) < (m1 : Int) := by omega
  have j3 : (j : Int) ≤ (c1 : Int) := by have := hrd1.le; omega
  have hcut := frame_cut f HG.out HFI.out j hj
  obtain ⟨y, hy⟩ : ∃ y, getP ((frameB f).take j) = (y, 7) := ⟨_, Prod.ext rfl hcut⟩
  have HGT := Lib.hid (fget_ok _ _ _ _ w1 (hrd1.pre (m := j) (by omega)) y 7 hy)
  clear hcut hy
  have i1 : ¬ (i : Int) < 0 := by omega
  have i2 : ¬ (m1 : Int) ≤ (i : Int) := by omega
  have i3 : (0 : Int) ≤ (i : Int) := by omega
  have i4 : (i : Int) < (m1 : Int) := by omega
  have hm1 : i < m1 := by omega
  have hq := (byte_eq hi).2 hu
  have HSP := Lib.hid (frame_set f i u hi hu)
  have hce := hcc i hm1
  obtain ⟨z, hz⟩ : ∃ z : Int, z = ((((frameB f)[i]?.getD 0).toNat : Nat) : Int) := ⟨_, rfl⟩
  rw [← hz] at hce hq
  have HZ := Lib.hid hz
  clear hz
  have HHI := Lib.hid hi
  clear hb1 hrd1 hcc hlen hlb hlf hj hi hg hu hm27
  obtain ⟨i5, hi5, hz0, hz1, hz2⟩ := info_parts Try.info5
  go_wp2_with fail
  refine HGT.out.mono ?_
  rintro e w2 ⟨a2, n2, c2, D, hD, rfl, ht2, hb2⟩
  have HB2 := Lib.hid (HB1.out.trans (hb2.mono HB1.out.size))
  obtain ⟨hn2, hn3, hb3⟩ := new_row w2 D
  obtain ⟨q1, q2, q3⟩ := frc_facts y a2 n2 c2
  rw [← hD] at q1 q2 q3
  have Q1 := Lib.hid q1
  have Q2 := Lib.hid q2
  have Q3 := Lib.hid q3
  have HBX := Lib.hid (HB2.out.trans (hb3.mono HB2.out.size))
  have HRX := Lib.hid ((HR1.out.later hb2).later hb3)
  have hce2 : ((w2.alloc (.cells frZ 26)).setRow w2.heap.size D).cell? ⟨b, off + i, none⟩ = some (.int .u8 z) := by
    obtain ⟨b', off', e2, _, hc2⟩ := HRX.out.at0 (by omega)
    cases e2
    rw [HZ.out]
    exact hc2 i hm1
  clear hce
  clear hD ht2 hb2 hb3 hn3 q1 q2 q3
  go_wp2_with (first | (with_reducible refine wpList_store_row (o := ⟨none, _, _, _, _, _⟩) rfl 26 (.tmp 11) (.tmp 37) rfl w2.heap.size D rfl rfl 26 frZ hn2 Q1.out Q2.out Q3.out ?_) | (at_builtin; refine wpList_append_rd (o := ⟨some 60, _, _, _, _, _⟩) rfl (.tmp 58) (.tmp 59) 29 rfl W0.heap.size 5 i5 Try.underlying29 hi5 hz0 hz1 hz2 (.slice none 0 0) 0 [] rfl (World.ownsRow_nil _ _ _ _) (some ⟨b, off, none⟩) m1 c1 (frameB f) rfl HRX.out (by have := HLB.out; omega) HBX.out.size ?_))
  intro v' wa hown hgrow
  have hB := HBX.out.grown hgrow HBX.out.size (fun k e => by cases e)
  obtain ⟨g, d, rfl, hg, hdi⟩ := owns_some hown (by omega)
  have hfr := hown.frozenAt i
  have hcl : wa.cell? ⟨g, i, none⟩ = (bvs ([] ++ frameB f))[i]? := hown.cellAt i (by omega)
  rw [List.nil_append, bvs_at _ i HHI.out] at hcl
  have hst := hown.stored i (.int .u8 (u.toNat : Int))
  rw [← bvs_set] at hst
  have HST := Lib.hid hst
  have hB2 := hB.setCell (p := ⟨g, i, none⟩) hg (.int .u8 (u.toNat : Int))
  have HB5 := Lib.hid hB2
  have k5 : (i : Int) < (m1 : Int) := by omega
  have HHG := Lib.hid hg
  clear hgrow hst hown hB hB2 hg
  go_wp2_with fail
  have hrd5 := rd_of_owns HST.out.1 (by have := HLB.out; omega)
  obtain ⟨y5, hy5⟩ : ∃ y k, getP ((frameB f).set i u) = (y, k) := ⟨_, _, rfl⟩
  obtain ⟨k5', hy5⟩ := hy5
  have hk5 : k5' ≠ 0 := by have := HSP.out; rw [hy5] at this; exact this
  refine (fget_ok _ _ _ _ _ hrd5 y5 k5' hy5).mono ?_
  rintro e w6 ⟨a6, n6, c6, D6, hD6, rfl, ht6, hb6⟩
  have HB6 := Lib.hid (HB5.out.trans (hb6.mono HB5.out.size))
  obtain ⟨hn6, hn7, hb7⟩ := new_row w6 D6
  obtain ⟨q1, q2, q3⟩ := frc_facts y5 a6 n6 c6
  rw [← hD6] at q1 q2 q3
  have P1 := Lib.hid q1
  have P2 := Lib.hid q2
  have P3 := Lib.hid q3
  have HB7 := Lib.hid (HB6.out.trans (hb7.mono HB6.out.size))
  have x1 : (k5' == (0 : Int)) = false := by simp [hk5]
  have x2 : (k5' != (0 : Int)) = true := by rw [bne, x1]; rfl
  clear hD6 ht6 hb6 hb7 hn7 q1 q2 q3 hrd5 hy5 hk5
  go_wp2_with (with_reducible refine wpList_store_row (o := ⟨none, _, _, _, _, _⟩) rfl 26 (.tmp 14) (.tmp 68) rfl w6.heap.size D6 rfl rfl 26 frZ hn6 P1.out P2.out P3.out ?_)
  refine (known21_any _).mono ?_
  rintro e wk ⟨rfl, hbk⟩
  go_wp2
  go_ret
  exact ⟨rfl, HB0.out.trans ((HB7.out.trans (hbk.mono HB7.out.size)).mono HB0.out.size)⟩

set_option maxRecDepth 20000 in
set_option maxHeartbeats 1000000 in
theorem spoils_neg_neg (f : FR) (a : Option Addr) (n c : Nat) (i : Int) (u : UInt8) (j : Int) (w : World) (hT : Tx w a n c f.list) (hv : f.vol < 4294967296) (hfit : f.fit) (hd : f.data.length ≤ 1099511627776) (hl : ∀ k, ((f.list.take k).flatten).length ≤ 1099511627776) (hg : good f) (hj : j < 0) (hi : i < 0) :
    Calls Try.prog 5 #[frV f (.slice a n c), .int .i64 i, .int .u8 (u.toNat : Int), .int .i64 j] w fun e w' => e = .returned (.bool true) ∧ Below w.heap.size w w' := by
  have HFI := Lib.hid hfit
  obtain ⟨W0, hW0⟩ : ∃ x, x = w.alloc (.cells (frC f (.slice a n c)) 26) := ⟨_, rfl⟩
  have hb0 : Below w.heap.size w W0 := by rw [hW0]; exact (Below.refl _ _).alloc (Nat.le_refl _) _
  have hbx0 : W0.heap[w.heap.size]? = some (.cells (frC f (.slice a n c)) 26 (0, 0)) := by rw [hW0]; exact heap_alloc_new _ _
  obtain ⟨C, hC⟩ : ∃ C, C = frC f (.slice a n c) := ⟨_, rfl⟩
  have hfv : frV f (.slice a n c) = .agg C := by rw [hC]; rfl
  have hi0 : (Try.prog.info? 26).map (·.size) = some C.size := by rw [hC]; kernel_rfl
  have hp := fput_any f a n c W0 (hT.later hb0) hv hfit.sess hfit.ep hfit.seq hd hl
  rw [hfv] at hp
  rw [← hC] at hbx0
  have HW0 := Lib.hid hW0
  have HB0 := Lib.hid hb0
  rw [show putP f = (frameB f, 0) from by unfold putP; rw [if_pos hg]] at hp
  have HG := Lib.hid hg
  have HP := Lib.hid hp
  have HI0 := Lib.hid hi0
  unfold frC at HW0
  unfold frV
  clear hW0 hp hb0 hT hd hl hv hfit hi0 hC hfv
  go_enter Try.func5, Try.ntmps5
  go_upto_region 1 with fail
  rw [← HW0.out]
  go_wp2_with (with_reducible refine wpList_load_row (o := ⟨some 17, _, _, _, _, _⟩) rfl 26 (.tmp 4) rfl w.heap.size rfl 26 C (0, 0) _ hbx0 Try.underlying26 rfl HI0.out ?_)
  refine HP.out.mono ?_
  rintro e w1 ⟨a1, m1, c1, rfl, hrd1, hb1⟩
  have hlen := hrd1.len
  have hlb := good_len HG.out
  have hlf := frameB_length f
  have HLB := Lib.hid (show m1 ≤ 1000 by omega)
  have HL1 := Lib.hid (show (frameB f).length = m1 from hlen)
  have hm27 : 27 ≤ m1 := by omega
  obtain ⟨b, off, rfl, hbb, hcc⟩ := hrd1.at0 (by omega)
  have HB1 := Lib.hid hb1
  have HR1 := Lib.hid hrd1
  have HCC := Lib.hid hcc
  have HBB := Lib.hid hbb
  have j1 : ¬ (0 : Int) ≤ j := by omega
  have i1 : i < 0 := hi
  clear hb1 hrd1 hcc hlen hlb hlf hj hi hg hm27
  have HBX := HB1
  have HRX := HR1
  go_wp2_with fail
  refine (known21_any _).mono ?_
  rintro e wk ⟨rfl, hbk⟩
  go_wp2
  go_ret
  exact ⟨rfl, HB0.out.trans ((HBX.out.trans (hbk.mono HBX.out.size)).mono HB0.out.size)⟩

set_option maxRecDepth 20000 in
set_option maxHeartbeats 1000000 in
theorem spoils_neg_past (f : FR) (a : Option Addr) (n c : Nat) (i : Int) (u : UInt8) (j : Int) (w : World) (hT : Tx w a n c f.list) (hv : f.vol < 4294967296) (hfit : f.fit) (hd : f.data.length ≤ 1099511627776) (hl : ∀ k, ((f.list.take k).flatten).length ≤ 1099511627776) (hg : good f) (hj : j < 0) (hi : 0 ≤ i ∧ ((frameB f).length : Int) ≤ i) :
    Calls Try.prog 5 #[frV f (.slice a n c), .int .i64 i, .int .u8 (u.toNat : Int), .int .i64 j] w fun e w' => e = .returned (.bool true) ∧ Below w.heap.size w w' := by
  have HFI := Lib.hid hfit
  obtain ⟨W0, hW0⟩ : ∃ x, x = w.alloc (.cells (frC f (.slice a n c)) 26) := ⟨_, rfl⟩
  have hb0 : Below w.heap.size w W0 := by rw [hW0]; exact (Below.refl _ _).alloc (Nat.le_refl _) _
  have hbx0 : W0.heap[w.heap.size]? = some (.cells (frC f (.slice a n c)) 26 (0, 0)) := by rw [hW0]; exact heap_alloc_new _ _
  obtain ⟨C, hC⟩ : ∃ C, C = frC f (.slice a n c) := ⟨_, rfl⟩
  have hfv : frV f (.slice a n c) = .agg C := by rw [hC]; rfl
  have hi0 : (Try.prog.info? 26).map (·.size) = some C.size := by rw [hC]; kernel_rfl
  have hp := fput_any f a n c W0 (hT.later hb0) hv hfit.sess hfit.ep hfit.seq hd hl
  rw [hfv] at hp
  rw [← hC] at hbx0
  have HW0 := Lib.hid hW0
  have HB0 := Lib.hid hb0
  rw [show putP f = (frameB f, 0) from by unfold putP; rw [if_pos hg]] at hp
  have HG := Lib.hid hg
  have HP := Lib.hid hp
  have HI0 := Lib.hid hi0
  unfold frC at HW0
  unfold frV
  clear hW0 hp hb0 hT hd hl hv hfit hi0 hC hfv
  go_enter Try.func5, Try.ntmps5
  go_upto_region 1 with fail
  rw [← HW0.out]
  go_wp2_with (with_reducible refine wpList_load_row (o := ⟨some 17, _, _, _, _, _⟩) rfl 26 (.tmp 4) rfl w.heap.size rfl 26 C (0, 0) _ hbx0 Try.underlying26 rfl HI0.out ?_)
  refine HP.out.mono ?_
  rintro e w1 ⟨a1, m1, c1, rfl, hrd1, hb1⟩
  have hlen := hrd1.len
  have hlb := good_len HG.out
  have hlf := frameB_length f
  have HLB := Lib.hid (show m1 ≤ 1000 by omega)
  have HL1 := Lib.hid (show (frameB f).length = m1 from hlen)
  have hm27 : 27 ≤ m1 := by omega
  obtain ⟨b, off, rfl, hbb, hcc⟩ := hrd1.at0 (by omega)
  have HB1 := Lib.hid hb1
  have HR1 := Lib.hid hrd1
  have HCC := Lib.hid hcc
  have HBB := Lib.hid hbb
  have j1 : ¬ (0 : Int) ≤ j := by omega
  have i1 : ¬ i < 0 := by omega
  have i2 : (m1 : Int) ≤ i := by omega
  clear hb1 hrd1 hcc hlen hlb hlf hj hi hg hm27
  have HBX := HB1
  have HRX := HR1
  go_wp2_with fail
  refine (known21_any _).mono ?_
  rintro e wk ⟨rfl, hbk⟩
  go_wp2
  go_ret
  exact ⟨rfl, HB0.out.trans ((HBX.out.trans (hbk.mono HBX.out.size)).mono HB0.out.size)⟩

set_option maxRecDepth 20000 in
set_option maxHeartbeats 1000000 in
theorem spoils_neg_eq (f : FR) (a : Option Addr) (n c : Nat) (i : Nat) (u : UInt8) (j : Int) (w : World) (hT : Tx w a n c f.list) (hv : f.vol < 4294967296) (hfit : f.fit) (hd : f.data.length ≤ 1099511627776) (hl : ∀ k, ((f.list.take k).flatten).length ≤ 1099511627776) (hg : good f) (hj : j < 0) (hi : i < (frameB f).length) (hu : (frameB f)[i] = u) :
    Calls Try.prog 5 #[frV f (.slice a n c), .int .i64 i, .int .u8 (u.toNat : Int), .int .i64 j] w fun e w' => e = .returned (.bool true) ∧ Below w.heap.size w w' := by
  have HFI := Lib.hid hfit
  obtain ⟨W0, hW0⟩ : ∃ x, x = w.alloc (.cells (frC f (.slice a n c)) 26) := ⟨_, rfl⟩
  have hb0 : Below w.heap.size w W0 := by rw [hW0]; exact (Below.refl _ _).alloc (Nat.le_refl _) _
  have hbx0 : W0.heap[w.heap.size]? = some (.cells (frC f (.slice a n c)) 26 (0, 0)) := by rw [hW0]; exact heap_alloc_new _ _
  obtain ⟨C, hC⟩ : ∃ C, C = frC f (.slice a n c) := ⟨_, rfl⟩
  have hfv : frV f (.slice a n c) = .agg C := by rw [hC]; rfl
  have hi0 : (Try.prog.info? 26).map (·.size) = some C.size := by rw [hC]; kernel_rfl
  have hp := fput_any f a n c W0 (hT.later hb0) hv hfit.sess hfit.ep hfit.seq hd hl
  rw [hfv] at hp
  rw [← hC] at hbx0
  have HW0 := Lib.hid hW0
  have HB0 := Lib.hid hb0
  rw [show putP f = (frameB f, 0) from by unfold putP; rw [if_pos hg]] at hp
  have HG := Lib.hid hg
  have HP := Lib.hid hp
  have HI0 := Lib.hid hi0
  unfold frC at HW0
  unfold frV
  clear hW0 hp hb0 hT hd hl hv hfit hi0 hC hfv
  go_enter Try.func5, Try.ntmps5
  go_upto_region 1 with fail
  rw [← HW0.out]
  go_wp2_with (with_reducible refine wpList_load_row (o := ⟨some 17, _, _, _, _, _⟩) rfl 26 (.tmp 4) rfl w.heap.size rfl 26 C (0, 0) _ hbx0 Try.underlying26 rfl HI0.out ?_)
  refine HP.out.mono ?_
  rintro e w1 ⟨a1, m1, c1, rfl, hrd1, hb1⟩
  have hlen := hrd1.len
  have hlb := good_len HG.out
  have hlf := frameB_length f
  have HLB := Lib.hid (show m1 ≤ 1000 by omega)
  have HL1 := Lib.hid (show (frameB f).length = m1 from hlen)
  have hm27 : 27 ≤ m1 := by omega
  obtain ⟨b, off, rfl, hbb, hcc⟩ := hrd1.at0 (by omega)
  have HB1 := Lib.hid hb1
  have HR1 := Lib.hid hrd1
  have HCC := Lib.hid hcc
  have HBB := Lib.hid hbb
  have j1 : ¬ (0 : Int) ≤ j := by omega
  have i1 : ¬ (i : Int) < 0 := by omega
  have i2 : ¬ (m1 : Int) ≤ (i : Int) := by omega
  have i3 : (0 : Int) ≤ (i : Int) := by omega
  have i4 : (i : Int) < (m1 : Int) := by omega
  have hm1 : i < m1 := by omega
  have hq := (byte_eq hi).1 hu
  have hce := hcc i hm1
  obtain ⟨z, hz⟩ : ∃ z : Int, z = ((((frameB f)[i]?.getD 0).toNat : Nat) : Int) := ⟨_, rfl⟩
  rw [← hz] at hce hq
  have HZ := Lib.hid hz
  clear hz
  have HHI := Lib.hid hi
  clear hb1 hrd1 hcc hlen hlb hlf hj hi hg hu hm27
  have HBX := HB1
  have HRX := HR1
  go_wp2_with fail
  refine (known21_any _).mono ?_
  rintro e wk ⟨rfl, hbk⟩
  go_wp2
  go_ret
  exact ⟨rfl, HB0.out.trans ((HBX.out.trans (hbk.mono HBX.out.size)).mono HB0.out.size)⟩

set_option maxRecDepth 20000 in
set_option maxHeartbeats 1000000 in
theorem spoils_neg_ne (f : FR) (a : Option Addr) (n c : Nat) (i : Nat) (u : UInt8) (j : Int) (w : World) (hT : Tx w a n c f.list) (hv : f.vol < 4294967296) (hfit : f.fit) (hd : f.data.length ≤ 1099511627776) (hl : ∀ k, ((f.list.take k).flatten).length ≤ 1099511627776) (hg : good f) (hj : j < 0) (hi : i < (frameB f).length) (hu : (frameB f)[i] ≠ u) :
    Calls Try.prog 5 #[frV f (.slice a n c), .int .i64 i, .int .u8 (u.toNat : Int), .int .i64 j] w fun e w' => e = .returned (.bool true) ∧ Below w.heap.size w w' := by
  have HFI := Lib.hid hfit
  obtain ⟨W0, hW0⟩ : ∃ x, x = w.alloc (.cells (frC f (.slice a n c)) 26) := ⟨_, rfl⟩
  have hb0 : Below w.heap.size w W0 := by rw [hW0]; exact (Below.refl _ _).alloc (Nat.le_refl _) _
  have hbx0 : W0.heap[w.heap.size]? = some (.cells (frC f (.slice a n c)) 26 (0, 0)) := by rw [hW0]; exact heap_alloc_new _ _
  obtain ⟨C, hC⟩ : ∃ C, C = frC f (.slice a n c) := ⟨_, rfl⟩
  have hfv : frV f (.slice a n c) = .agg C := by rw [hC]; rfl
  have hi0 : (Try.prog.info? 26).map (·.size) = some C.size := by rw [hC]; kernel_rfl
  have hp := fput_any f a n c W0 (hT.later hb0) hv hfit.sess hfit.ep hfit.seq hd hl
  rw [hfv] at hp
  rw [← hC] at hbx0
  have HW0 := Lib.hid hW0
  have HB0 := Lib.hid hb0
  rw [show putP f = (frameB f, 0) from by unfold putP; rw [if_pos hg]] at hp
  have HG := Lib.hid hg
  have HP := Lib.hid hp
  have HI0 := Lib.hid hi0
  unfold frC at HW0
  unfold frV
  clear hW0 hp hb0 hT hd hl hv hfit hi0 hC hfv
  go_enter Try.func5, Try.ntmps5
  go_upto_region 1 with fail
  rw [← HW0.out]
  go_wp2_with (with_reducible refine wpList_load_row (o := ⟨some 17, _, _, _, _, _⟩) rfl 26 (.tmp 4) rfl w.heap.size rfl 26 C (0, 0) _ hbx0 Try.underlying26 rfl HI0.out ?_)
  refine HP.out.mono ?_
  rintro e w1 ⟨a1, m1, c1, rfl, hrd1, hb1⟩
  have hlen := hrd1.len
  have hlb := good_len HG.out
  have hlf := frameB_length f
  have HLB := Lib.hid (show m1 ≤ 1000 by omega)
  have HL1 := Lib.hid (show (frameB f).length = m1 from hlen)
  have hm27 : 27 ≤ m1 := by omega
  obtain ⟨b, off, rfl, hbb, hcc⟩ := hrd1.at0 (by omega)
  have HB1 := Lib.hid hb1
  have HR1 := Lib.hid hrd1
  have HCC := Lib.hid hcc
  have HBB := Lib.hid hbb
  have j1 : ¬ (0 : Int) ≤ j := by omega
  have i1 : ¬ (i : Int) < 0 := by omega
  have i2 : ¬ (m1 : Int) ≤ (i : Int) := by omega
  have i3 : (0 : Int) ≤ (i : Int) := by omega
  have i4 : (i : Int) < (m1 : Int) := by omega
  have hm1 : i < m1 := by omega
  have hq := (byte_eq hi).2 hu
  have HSP := Lib.hid (frame_set f i u hi hu)
  have hce := hcc i hm1
  obtain ⟨z, hz⟩ : ∃ z : Int, z = ((((frameB f)[i]?.getD 0).toNat : Nat) : Int) := ⟨_, rfl⟩
  rw [← hz] at hce hq
  have HZ := Lib.hid hz
  clear hz
  have HHI := Lib.hid hi
  clear hb1 hrd1 hcc hlen hlb hlf hj hi hg hu hm27
  obtain ⟨i5, hi5, hz0, hz1, hz2⟩ := info_parts Try.info5
  have HBX := HB1
  have HRX := HR1
  go_wp2_with (at_builtin; refine wpList_append_rd (o := ⟨some 60, _, _, _, _, _⟩) rfl (.tmp 58) (.tmp 59) 29 rfl W0.heap.size 5 i5 Try.underlying29 hi5 hz0 hz1 hz2 (.slice none 0 0) 0 [] rfl (World.ownsRow_nil _ _ _ _) (some ⟨b, off, none⟩) m1 c1 (frameB f) rfl HRX.out (by have := HLB.out; omega) HBX.out.size ?_)
  intro v' wa hown hgrow
  have hB := HBX.out.grown hgrow HBX.out.size (fun k e => by cases e)
  obtain ⟨g, d, rfl, hg, hdi⟩ := owns_some hown (by omega)
  have hfr := hown.frozenAt i
  have hcl : wa.cell? ⟨g, i, none⟩ = (bvs ([] ++ frameB f))[i]? := hown.cellAt i (by omega)
  rw [List.nil_append, bvs_at _ i HHI.out] at hcl
  have hst := hown.stored i (.int .u8 (u.toNat : Int))
  rw [← bvs_set] at hst
  have HST := Lib.hid hst
  have hB2 := hB.setCell (p := ⟨g, i, none⟩) hg (.int .u8 (u.toNat : Int))
  have HB5 := Lib.hid hB2
  have k5 : (i : Int) < (m1 : Int) := by omega
  have HHG := Lib.hid hg
  clear hgrow hst hown hB hB2 hg
  go_wp2_with fail
  have hrd5 := rd_of_owns HST.out.1 (by have := HLB.out; omega)
  obtain ⟨y5, hy5⟩ : ∃ y k, getP ((frameB f).set i u) = (y, k) := ⟨_, _, rfl⟩
  obtain ⟨k5', hy5⟩ := hy5
  have hk5 : k5' ≠ 0 := by have := HSP.out; rw [hy5] at this; exact this
  refine (fget_ok _ _ _ _ _ hrd5 y5 k5' hy5).mono ?_
  rintro e w6 ⟨a6, n6, c6, D6, hD6, rfl, ht6, hb6⟩
  have HB6 := Lib.hid (HB5.out.trans (hb6.mono HB5.out.size))
  obtain ⟨hn6, hn7, hb7⟩ := new_row w6 D6
  obtain ⟨q1, q2, q3⟩ := frc_facts y5 a6 n6 c6
  rw [← hD6] at q1 q2 q3
  have P1 := Lib.hid q1
  have P2 := Lib.hid q2
  have P3 := Lib.hid q3
  have HB7 := Lib.hid (HB6.out.trans (hb7.mono HB6.out.size))
  have x1 : (k5' == (0 : Int)) = false := by simp [hk5]
  have x2 : (k5' != (0 : Int)) = true := by rw [bne, x1]; rfl
  clear hD6 ht6 hb6 hb7 hn7 q1 q2 q3 hrd5 hy5 hk5
  go_wp2_with (with_reducible refine wpList_store_row (o := ⟨none, _, _, _, _, _⟩) rfl 26 (.tmp 14) (.tmp 68) rfl w6.heap.size D6 rfl rfl 26 frZ hn6 P1.out P2.out P3.out ?_)
  refine (known21_any _).mono ?_
  rintro e wk ⟨rfl, hbk⟩
  go_wp2
  go_ret
  exact ⟨rfl, HB0.out.trans ((HB7.out.trans (hbk.mono HB7.out.size)).mono HB0.out.size)⟩

set_option maxRecDepth 20000 in
set_option maxHeartbeats 1000000 in
theorem spoils_past_neg (f : FR) (a : Option Addr) (n c : Nat) (i : Int) (u : UInt8) (j : Int) (w : World) (hT : Tx w a n c f.list) (hv : f.vol < 4294967296) (hfit : f.fit) (hd : f.data.length ≤ 1099511627776) (hl : ∀ k, ((f.list.take k).flatten).length ≤ 1099511627776) (hg : good f) (hj : 0 ≤ j ∧ ((frameB f).length : Int) ≤ j) (hi : i < 0) :
    Calls Try.prog 5 #[frV f (.slice a n c), .int .i64 i, .int .u8 (u.toNat : Int), .int .i64 j] w fun e w' => e = .returned (.bool true) ∧ Below w.heap.size w w' := by
  have HFI := Lib.hid hfit
  obtain ⟨W0, hW0⟩ : ∃ x, x = w.alloc (.cells (frC f (.slice a n c)) 26) := ⟨_, rfl⟩
  have hb0 : Below w.heap.size w W0 := by rw [hW0]; exact (Below.refl _ _).alloc (Nat.le_refl _) _
  have hbx0 : W0.heap[w.heap.size]? = some (.cells (frC f (.slice a n c)) 26 (0, 0)) := by rw [hW0]; exact heap_alloc_new _ _
  obtain ⟨C, hC⟩ : ∃ C, C = frC f (.slice a n c) := ⟨_, rfl⟩
  have hfv : frV f (.slice a n c) = .agg C := by rw [hC]; rfl
  have hi0 : (Try.prog.info? 26).map (·.size) = some C.size := by rw [hC]; kernel_rfl
  have hp := fput_any f a n c W0 (hT.later hb0) hv hfit.sess hfit.ep hfit.seq hd hl
  rw [hfv] at hp
  rw [← hC] at hbx0
  have HW0 := Lib.hid hW0
  have HB0 := Lib.hid hb0
  rw [show putP f = (frameB f, 0) from by unfold putP; rw [if_pos hg]] at hp
  have HG := Lib.hid hg
  have HP := Lib.hid hp
  have HI0 := Lib.hid hi0
  unfold frC at HW0
  unfold frV
  clear hW0 hp hb0 hT hd hl hv hfit hi0 hC hfv
  go_enter Try.func5, Try.ntmps5
  go_upto_region 1 with fail
  rw [← HW0.out]
  go_wp2_with (with_reducible refine wpList_load_row (o := ⟨some 17, _, _, _, _, _⟩) rfl 26 (.tmp 4) rfl w.heap.size rfl 26 C (0, 0) _ hbx0 Try.underlying26 rfl HI0.out ?_)
  refine HP.out.mono ?_
  rintro e w1 ⟨a1, m1, c1, rfl, hrd1, hb1⟩
  have hlen := hrd1.len
  have hlb := good_len HG.out
  have hlf := frameB_length f
  have HLB := Lib.hid (show m1 ≤ 1000 by omega)
  have HL1 := Lib.hid (show (frameB f).length = m1 from hlen)
  have hm27 : 27 ≤ m1 := by omega
  obtain ⟨b, off, rfl, hbb, hcc⟩ := hrd1.at0 (by omega)
  have HB1 := Lib.hid hb1
  have HR1 := Lib.hid hrd1
  have HCC := Lib.hid hcc
  have HBB := Lib.hid hbb
  have j1 : (0 : Int) ≤ j := hj.1
  have j2 : ¬ j < (m1 : Int) := by have := hj.2; omega
  have i1 : i < 0 := hi
  clear hb1 hrd1 hcc hlen hlb hlf hj hi hg hm27
  have HBX := HB1
  have HRX := HR1
  go_wp2_with fail
  refine (known21_any _).mono ?_
  rintro e wk ⟨rfl, hbk⟩
  go_wp2
  go_ret
  exact ⟨rfl, HB0.out.trans ((HBX.out.trans (hbk.mono HBX.out.size)).mono HB0.out.size)⟩

set_option maxRecDepth 20000 in
set_option maxHeartbeats 1000000 in
theorem spoils_past_past (f : FR) (a : Option Addr) (n c : Nat) (i : Int) (u : UInt8) (j : Int) (w : World) (hT : Tx w a n c f.list) (hv : f.vol < 4294967296) (hfit : f.fit) (hd : f.data.length ≤ 1099511627776) (hl : ∀ k, ((f.list.take k).flatten).length ≤ 1099511627776) (hg : good f) (hj : 0 ≤ j ∧ ((frameB f).length : Int) ≤ j) (hi : 0 ≤ i ∧ ((frameB f).length : Int) ≤ i) :
    Calls Try.prog 5 #[frV f (.slice a n c), .int .i64 i, .int .u8 (u.toNat : Int), .int .i64 j] w fun e w' => e = .returned (.bool true) ∧ Below w.heap.size w w' := by
  have HFI := Lib.hid hfit
  obtain ⟨W0, hW0⟩ : ∃ x, x = w.alloc (.cells (frC f (.slice a n c)) 26) := ⟨_, rfl⟩
  have hb0 : Below w.heap.size w W0 := by rw [hW0]; exact (Below.refl _ _).alloc (Nat.le_refl _) _
  have hbx0 : W0.heap[w.heap.size]? = some (.cells (frC f (.slice a n c)) 26 (0, 0)) := by rw [hW0]; exact heap_alloc_new _ _
  obtain ⟨C, hC⟩ : ∃ C, C = frC f (.slice a n c) := ⟨_, rfl⟩
  have hfv : frV f (.slice a n c) = .agg C := by rw [hC]; rfl
  have hi0 : (Try.prog.info? 26).map (·.size) = some C.size := by rw [hC]; kernel_rfl
  have hp := fput_any f a n c W0 (hT.later hb0) hv hfit.sess hfit.ep hfit.seq hd hl
  rw [hfv] at hp
  rw [← hC] at hbx0
  have HW0 := Lib.hid hW0
  have HB0 := Lib.hid hb0
  rw [show putP f = (frameB f, 0) from by unfold putP; rw [if_pos hg]] at hp
  have HG := Lib.hid hg
  have HP := Lib.hid hp
  have HI0 := Lib.hid hi0
  unfold frC at HW0
  unfold frV
  clear hW0 hp hb0 hT hd hl hv hfit hi0 hC hfv
  go_enter Try.func5, Try.ntmps5
  go_upto_region 1 with fail
  rw [← HW0.out]
  go_wp2_with (with_reducible refine wpList_load_row (o := ⟨some 17, _, _, _, _, _⟩) rfl 26 (.tmp 4) rfl w.heap.size rfl 26 C (0, 0) _ hbx0 Try.underlying26 rfl HI0.out ?_)
  refine HP.out.mono ?_
  rintro e w1 ⟨a1, m1, c1, rfl, hrd1, hb1⟩
  have hlen := hrd1.len
  have hlb := good_len HG.out
  have hlf := frameB_length f
  have HLB := Lib.hid (show m1 ≤ 1000 by omega)
  have HL1 := Lib.hid (show (frameB f).length = m1 from hlen)
  have hm27 : 27 ≤ m1 := by omega
  obtain ⟨b, off, rfl, hbb, hcc⟩ := hrd1.at0 (by omega)
  have HB1 := Lib.hid hb1
  have HR1 := Lib.hid hrd1
  have HCC := Lib.hid hcc
  have HBB := Lib.hid hbb
  have j1 : (0 : Int) ≤ j := hj.1
  have j2 : ¬ j < (m1 : Int) := by have := hj.2; omega
  have i1 : ¬ i < 0 := by omega
  have i2 : (m1 : Int) ≤ i := by omega
  clear hb1 hrd1 hcc hlen hlb hlf hj hi hg hm27
  have HBX := HB1
  have HRX := HR1
  go_wp2_with fail
  refine (known21_any _).mono ?_
  rintro e wk ⟨rfl, hbk⟩
  go_wp2
  go_ret
  exact ⟨rfl, HB0.out.trans ((HBX.out.trans (hbk.mono HBX.out.size)).mono HB0.out.size)⟩

set_option maxRecDepth 20000 in
set_option maxHeartbeats 1000000 in
theorem spoils_past_eq (f : FR) (a : Option Addr) (n c : Nat) (i : Nat) (u : UInt8) (j : Int) (w : World) (hT : Tx w a n c f.list) (hv : f.vol < 4294967296) (hfit : f.fit) (hd : f.data.length ≤ 1099511627776) (hl : ∀ k, ((f.list.take k).flatten).length ≤ 1099511627776) (hg : good f) (hj : 0 ≤ j ∧ ((frameB f).length : Int) ≤ j) (hi : i < (frameB f).length) (hu : (frameB f)[i] = u) :
    Calls Try.prog 5 #[frV f (.slice a n c), .int .i64 i, .int .u8 (u.toNat : Int), .int .i64 j] w fun e w' => e = .returned (.bool true) ∧ Below w.heap.size w w' := by
  have HFI := Lib.hid hfit
  obtain ⟨W0, hW0⟩ : ∃ x, x = w.alloc (.cells (frC f (.slice a n c)) 26) := ⟨_, rfl⟩
  have hb0 : Below w.heap.size w W0 := by rw [hW0]; exact (Below.refl _ _).alloc (Nat.le_refl _) _
  have hbx0 : W0.heap[w.heap.size]? = some (.cells (frC f (.slice a n c)) 26 (0, 0)) := by rw [hW0]; exact heap_alloc_new _ _
  obtain ⟨C, hC⟩ : ∃ C, C = frC f (.slice a n c) := ⟨_, rfl⟩
  have hfv : frV f (.slice a n c) = .agg C := by rw [hC]; rfl
  have hi0 : (Try.prog.info? 26).map (·.size) = some C.size := by rw [hC]; kernel_rfl
  have hp := fput_any f a n c W0 (hT.later hb0) hv hfit.sess hfit.ep hfit.seq hd hl
  rw [hfv] at hp
  rw [← hC] at hbx0
  have HW0 := Lib.hid hW0
  have HB0 := Lib.hid hb0
  rw [show putP f = (frameB f, 0) from by unfold putP; rw [if_pos hg]] at hp
  have HG := Lib.hid hg
  have HP := Lib.hid hp
  have HI0 := Lib.hid hi0
  unfold frC at HW0
  unfold frV
  clear hW0 hp hb0 hT hd hl hv hfit hi0 hC hfv
  go_enter Try.func5, Try.ntmps5
  go_upto_region 1 with fail
  rw [← HW0.out]
  go_wp2_with (with_reducible refine wpList_load_row (o := ⟨some 17, _, _, _, _, _⟩) rfl 26 (.tmp 4) rfl w.heap.size rfl 26 C (0, 0) _ hbx0 Try.underlying26 rfl HI0.out ?_)
  refine HP.out.mono ?_
  rintro e w1 ⟨a1, m1, c1, rfl, hrd1, hb1⟩
  have hlen := hrd1.len
  have hlb := good_len HG.out
  have hlf := frameB_length f
  have HLB := Lib.hid (show m1 ≤ 1000 by omega)
  have HL1 := Lib.hid (show (frameB f).length = m1 from hlen)
  have hm27 : 27 ≤ m1 := by omega
  obtain ⟨b, off, rfl, hbb, hcc⟩ := hrd1.at0 (by omega)
  have HB1 := Lib.hid hb1
  have HR1 := Lib.hid hrd1
  have HCC := Lib.hid hcc
  have HBB := Lib.hid hbb
  have j1 : (0 : Int) ≤ j := hj.1
  have j2 : ¬ j < (m1 : Int) := by have := hj.2; omega
  have i1 : ¬ (i : Int) < 0 := by omega
  have i2 : ¬ (m1 : Int) ≤ (i : Int) := by omega
  have i3 : (0 : Int) ≤ (i : Int) := by omega
  have i4 : (i : Int) < (m1 : Int) := by omega
  have hm1 : i < m1 := by omega
  have hq := (byte_eq hi).1 hu
  have hce := hcc i hm1
  obtain ⟨z, hz⟩ : ∃ z : Int, z = ((((frameB f)[i]?.getD 0).toNat : Nat) : Int) := ⟨_, rfl⟩
  rw [← hz] at hce hq
  have HZ := Lib.hid hz
  clear hz
  have HHI := Lib.hid hi
  clear hb1 hrd1 hcc hlen hlb hlf hj hi hg hu hm27
  have HBX := HB1
  have HRX := HR1
  go_wp2_with fail
  refine (known21_any _).mono ?_
  rintro e wk ⟨rfl, hbk⟩
  go_wp2
  go_ret
  exact ⟨rfl, HB0.out.trans ((HBX.out.trans (hbk.mono HBX.out.size)).mono HB0.out.size)⟩

set_option maxRecDepth 20000 in
set_option maxHeartbeats 1000000 in
theorem spoils_past_ne (f : FR) (a : Option Addr) (n c : Nat) (i : Nat) (u : UInt8) (j : Int) (w : World) (hT : Tx w a n c f.list) (hv : f.vol < 4294967296) (hfit : f.fit) (hd : f.data.length ≤ 1099511627776) (hl : ∀ k, ((f.list.take k).flatten).length ≤ 1099511627776) (hg : good f) (hj : 0 ≤ j ∧ ((frameB f).length : Int) ≤ j) (hi : i < (frameB f).length) (hu : (frameB f)[i] ≠ u) :
    Calls Try.prog 5 #[frV f (.slice a n c), .int .i64 i, .int .u8 (u.toNat : Int), .int .i64 j] w fun e w' => e = .returned (.bool true) ∧ Below w.heap.size w w' := by
  have HFI := Lib.hid hfit
  obtain ⟨W0, hW0⟩ : ∃ x, x = w.alloc (.cells (frC f (.slice a n c)) 26) := ⟨_, rfl⟩
  have hb0 : Below w.heap.size w W0 := by rw [hW0]; exact (Below.refl _ _).alloc (Nat.le_refl _) _
  have hbx0 : W0.heap[w.heap.size]? = some (.cells (frC f (.slice a n c)) 26 (0, 0)) := by rw [hW0]; exact heap_alloc_new _ _
  obtain ⟨C, hC⟩ : ∃ C, C = frC f (.slice a n c) := ⟨_, rfl⟩
  have hfv : frV f (.slice a n c) = .agg C := by rw [hC]; rfl
  have hi0 : (Try.prog.info? 26).map (·.size) = some C.size := by rw [hC]; kernel_rfl
  have hp := fput_any f a n c W0 (hT.later hb0) hv hfit.sess hfit.ep hfit.seq hd hl
  rw [hfv] at hp
  rw [← hC] at hbx0
  have HW0 := Lib.hid hW0
  have HB0 := Lib.hid hb0
  rw [show putP f = (frameB f, 0) from by unfold putP; rw [if_pos hg]] at hp
  have HG := Lib.hid hg
  have HP := Lib.hid hp
  have HI0 := Lib.hid hi0
  unfold frC at HW0
  unfold frV
  clear hW0 hp hb0 hT hd hl hv hfit hi0 hC hfv
  go_enter Try.func5, Try.ntmps5
  go_upto_region 1 with fail
  rw [← HW0.out]
  go_wp2_with (with_reducible refine wpList_load_row (o := ⟨some 17, _, _, _, _, _⟩) rfl 26 (.tmp 4) rfl w.heap.size rfl 26 C (0, 0) _ hbx0 Try.underlying26 rfl HI0.out ?_)
  refine HP.out.mono ?_
  rintro e w1 ⟨a1, m1, c1, rfl, hrd1, hb1⟩
  have hlen := hrd1.len
  have hlb := good_len HG.out
  have hlf := frameB_length f
  have HLB := Lib.hid (show m1 ≤ 1000 by omega)
  have HL1 := Lib.hid (show (frameB f).length = m1 from hlen)
  have hm27 : 27 ≤ m1 := by omega
  obtain ⟨b, off, rfl, hbb, hcc⟩ := hrd1.at0 (by omega)
  have HB1 := Lib.hid hb1
  have HR1 := Lib.hid hrd1
  have HCC := Lib.hid hcc
  have HBB := Lib.hid hbb
  have j1 : (0 : Int) ≤ j := hj.1
  have j2 : ¬ j < (m1 : Int) := by have := hj.2; omega
  have i1 : ¬ (i : Int) < 0 := by omega
  have i2 : ¬ (m1 : Int) ≤ (i : Int) := by omega
  have i3 : (0 : Int) ≤ (i : Int) := by omega
  have i4 : (i : Int) < (m1 : Int) := by omega
  have hm1 : i < m1 := by omega
  have hq := (byte_eq hi).2 hu
  have HSP := Lib.hid (frame_set f i u hi hu)
  have hce := hcc i hm1
  obtain ⟨z, hz⟩ : ∃ z : Int, z = ((((frameB f)[i]?.getD 0).toNat : Nat) : Int) := ⟨_, rfl⟩
  rw [← hz] at hce hq
  have HZ := Lib.hid hz
  clear hz
  have HHI := Lib.hid hi
  clear hb1 hrd1 hcc hlen hlb hlf hj hi hg hu hm27
  obtain ⟨i5, hi5, hz0, hz1, hz2⟩ := info_parts Try.info5
  have HBX := HB1
  have HRX := HR1
  go_wp2_with (at_builtin; refine wpList_append_rd (o := ⟨some 60, _, _, _, _, _⟩) rfl (.tmp 58) (.tmp 59) 29 rfl W0.heap.size 5 i5 Try.underlying29 hi5 hz0 hz1 hz2 (.slice none 0 0) 0 [] rfl (World.ownsRow_nil _ _ _ _) (some ⟨b, off, none⟩) m1 c1 (frameB f) rfl HRX.out (by have := HLB.out; omega) HBX.out.size ?_)
  intro v' wa hown hgrow
  have hB := HBX.out.grown hgrow HBX.out.size (fun k e => by cases e)
  obtain ⟨g, d, rfl, hg, hdi⟩ := owns_some hown (by omega)
  have hfr := hown.frozenAt i
  have hcl : wa.cell? ⟨g, i, none⟩ = (bvs ([] ++ frameB f))[i]? := hown.cellAt i (by omega)
  rw [List.nil_append, bvs_at _ i HHI.out] at hcl
  have hst := hown.stored i (.int .u8 (u.toNat : Int))
  rw [← bvs_set] at hst
  have HST := Lib.hid hst
  have hB2 := hB.setCell (p := ⟨g, i, none⟩) hg (.int .u8 (u.toNat : Int))
  have HB5 := Lib.hid hB2
  have k5 : (i : Int) < (m1 : Int) := by omega
  have HHG := Lib.hid hg
  clear hgrow hst hown hB hB2 hg
  go_wp2_with fail
  have hrd5 := rd_of_owns HST.out.1 (by have := HLB.out; omega)
  obtain ⟨y5, hy5⟩ : ∃ y k, getP ((frameB f).set i u) = (y, k) := ⟨_, _, rfl⟩
  obtain ⟨k5', hy5⟩ := hy5
  have hk5 : k5' ≠ 0 := by have := HSP.out; rw [hy5] at this; exact this
  refine (fget_ok _ _ _ _ _ hrd5 y5 k5' hy5).mono ?_
  rintro e w6 ⟨a6, n6, c6, D6, hD6, rfl, ht6, hb6⟩
  have HB6 := Lib.hid (HB5.out.trans (hb6.mono HB5.out.size))
  obtain ⟨hn6, hn7, hb7⟩ := new_row w6 D6
  obtain ⟨q1, q2, q3⟩ := frc_facts y5 a6 n6 c6
  rw [← hD6] at q1 q2 q3
  have P1 := Lib.hid q1
  have P2 := Lib.hid q2
  have P3 := Lib.hid q3
  have HB7 := Lib.hid (HB6.out.trans (hb7.mono HB6.out.size))
  have x1 : (k5' == (0 : Int)) = false := by simp [hk5]
  have x2 : (k5' != (0 : Int)) = true := by rw [bne, x1]; rfl
  clear hD6 ht6 hb6 hb7 hn7 q1 q2 q3 hrd5 hy5 hk5
  go_wp2_with (with_reducible refine wpList_store_row (o := ⟨none, _, _, _, _, _⟩) rfl 26 (.tmp 14) (.tmp 68) rfl w6.heap.size D6 rfl rfl 26 frZ hn6 P1.out P2.out P3.out ?_)
  refine (known21_any _).mono ?_
  rintro e wk ⟨rfl, hbk⟩
  go_wp2
  go_ret
  exact ⟨rfl, HB0.out.trans ((HB7.out.trans (hbk.mono HB7.out.size)).mono HB0.out.size)⟩

theorem spoils_any (f : FR) (a : Option Addr) (n c : Nat) (i : Int) (u : UInt8) (j : Int) (w : World) (hT : Tx w a n c f.list) (hv : f.vol < 4294967296) (hfit : f.fit) (hd : f.data.length ≤ 1099511627776) (hl : ∀ k, ((f.list.take k).flatten).length ≤ 1099511627776) :
    Calls Try.prog 5 #[frV f (.slice a n c), .int .i64 i, .int .u8 (u.toNat : Int), .int .i64 j] w fun e w' => e = .returned (.bool true) ∧ Below w.heap.size w w' := by
  by_cases hg : good f
  case neg => exact spoils_bad f a n c i u j w hT hv hfit hd hl hg
  by_cases j1 : j < 0
  · by_cases i1 : i < 0
    · exact spoils_neg_neg f a n c i u j w hT hv hfit hd hl hg j1 i1
    by_cases i2 : ((frameB f).length : Int) ≤ i
    · exact spoils_neg_past f a n c i u j w hT hv hfit hd hl hg j1 ⟨by omega, i2⟩
    obtain ⟨k, rfl⟩ := Int.eq_ofNat_of_zero_le (a := i) (by omega)
    have hk : k < (frameB f).length := by omega
    by_cases hu : (frameB f)[k] = u
    · exact spoils_neg_eq f a n c k u j w hT hv hfit hd hl hg j1 hk hu
    · exact spoils_neg_ne f a n c k u j w hT hv hfit hd hl hg j1 hk hu
  by_cases j2 : ((frameB f).length : Int) ≤ j
  · by_cases i1 : i < 0
    · exact spoils_past_neg f a n c i u j w hT hv hfit hd hl hg ⟨by omega, j2⟩ i1
    by_cases i2 : ((frameB f).length : Int) ≤ i
    · exact spoils_past_past f a n c i u j w hT hv hfit hd hl hg ⟨by omega, j2⟩ ⟨by omega, i2⟩
    obtain ⟨k, rfl⟩ := Int.eq_ofNat_of_zero_le (a := i) (by omega)
    have hk : k < (frameB f).length := by omega
    by_cases hu : (frameB f)[k] = u
    · exact spoils_past_eq f a n c k u j w hT hv hfit hd hl hg ⟨by omega, j2⟩ hk hu
    · exact spoils_past_ne f a n c k u j w hT hv hfit hd hl hg ⟨by omega, j2⟩ hk hu
  obtain ⟨m, rfl⟩ := Int.eq_ofNat_of_zero_le (a := j) (by omega)
  have hm : m < (frameB f).length := by omega
  by_cases i1 : i < 0
  · exact spoils_in_neg f a n c i u m w hT hv hfit hd hl hg hm i1
  by_cases i2 : ((frameB f).length : Int) ≤ i
  · exact spoils_in_past f a n c i u m w hT hv hfit hd hl hg hm ⟨by omega, i2⟩
  obtain ⟨k, rfl⟩ := Int.eq_ofNat_of_zero_le (a := i) (by omega)
  have hk : k < (frameB f).length := by omega
  by_cases hu : (frameB f)[k] = u
  · exact spoils_in_eq f a n c k u m w hT hv hfit hd hl hg hm hk hu
  · exact spoils_in_ne f a n c k u m w hT hv hfit hd hl hg hm hk hu
end Go.Proofs.Ytipegdfjpmlcbaa


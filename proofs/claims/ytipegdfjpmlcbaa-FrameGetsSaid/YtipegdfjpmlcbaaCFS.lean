/-
  The walk of FramePuts.
-/
import Derived.Test.YtipegdfjpmlcbaaCFR
import Derived.Test.YtipegdfjpmlcbaaCFK
namespace Go.Proofs.Ytipegdfjpmlcbaa
open Go.RowKit
set_option linter.unusedVariables false
set_option linter.unusedSimpArgs false

def s200 (d : List UInt8) : Bool := decide (d.length ≤ 200)
def shortP (f : FR) : Bool := decide (f.list.length ≤ 20) && (decide (f.data.length ≤ 200) && f.list.all s200)
theorem take_s200 (li : List (List UInt8)) (k : Nat) (h : k < li.length) : (li.take (k + 1)).all s200 = ((li.take k).all s200 && s200 (li[k]?.getD [])) := by
  have e : li.take (k + 1) = li.take k ++ [li[k]] := by rw [List.take_add_one, List.getElem?_eq_getElem h]; rfl
  rw [e, List.getElem?_eq_getElem h, List.all_append]
  simp only [Option.getD_some]
  rw [show [li[k]].all s200 = s200 li[k] from by simp]
theorem all_false200 (li : List (List UInt8)) (k : Nat) (h : (li.take k).all s200 = false) : li.all s200 = false := by
  have := List.take_append_drop k li
  rw [← this, List.all_append, h]
  rfl
theorem short_le {f : FR} (h : shortP f = true) : f.data.length ≤ 100000 ∧ ∀ k, ((f.list.take k).flatten).length ≤ 100000 := by
  unfold shortP at h
  simp only [Bool.and_eq_true, decide_eq_true_eq] at h
  refine ⟨by omega, fun k => ?_⟩
  have h1 := flat_take f.list k
  have h2 : ∀ L : List (List UInt8), L.all s200 = true → L.flatten.length ≤ 200 * L.length := by
    intro L
    induction L with
    | nil => intro _; simp
    | cons d L ih =>
      intro hh
      simp only [List.all_cons, Bool.and_eq_true] at hh
      have := ih hh.2
      have h3 : d.length ≤ 200 := by simpa [s200] using hh.1
      simp only [List.flatten_cons, List.length_append, List.length_cons]
      omega
  have := h2 _ h.2.2
  omega

set_option maxRecDepth 20000 in
set_option maxHeartbeats 1000000 in
theorem short_any (f : FR) (a : Option Addr) (n c : Nat) (w : World) (hT : Tx w a n c f.list) (hd : f.data.length ≤ maxLen) (hl : ∀ s ∈ f.list, s.length ≤ maxLen) :
    Calls Try.prog 6 #[frV f (.slice a n c)] w fun e w' => e = .returned (.bool (shortP f)) ∧ Below w.heap.size w w' := by
  obtain ⟨sd, hsd⟩ := str_of f.data
  have hcx : (c : Int) ≤ 9223372036854775807 := by have := hT.cm; unfold maxLen at this; omega
  have hle := hT.le
  have hsz : sd.size = f.data.length := sd_size hsd
  obtain ⟨C, hC⟩ : ∃ C, C = frC f (.slice a n c) := ⟨_, rfl⟩
  obtain ⟨W0, hW0⟩ : ∃ x, x = w.alloc (.cells C 26) := ⟨_, rfl⟩
  have hb0 : Below w.heap.size w W0 := by rw [hW0]; exact (Below.refl _ _).alloc (Nat.le_refl _) _
  have hbx : W0.heap[w.heap.size]? = some (.cells C 26 (0, 0)) := by rw [hW0]; exact heap_alloc_new _ _
  have c9 : W0.cell? ⟨w.heap.size, 9, none⟩ = some (.string sd) := by rw [cell_of_blk hbx 9, hC, ← hsd]; rfl
  have c10 : W0.cell? ⟨w.heap.size, 10, none⟩ = some (.slice a n c) := by rw [cell_of_blk hbx 10, hC]; rfl
  have HT0 := Lib.hid (hT.later hb0)
  have HW0 := Lib.hid hW0
  have HC := Lib.hid hC
  have HB0 := Lib.hid hb0
  have HLN := Lib.hid hT.len
  have HLL := Lib.hid hl
  have HSZ := Lib.hid hsz
  unfold frC at HC
  unfold frV
  by_cases h1 : 20 < n
  · have HP := Lib.hid (show shortP f = false by unfold shortP; rw [decide_eq_false (by rw [HLN.out]; omega)]; rfl)
    have i1 : (20 : Int) < (n : Int) := by omega
    clear hC hW0 hb0 hbx hT hsd hsz hd hl h1
    go_enter Try.func6, Try.ntmps6
    go_upto_region 1 with fail
    rw [← HC.out, ← HW0.out]
    go_wp2
    go_ret
    exact ⟨by rw [HP.out]; rfl, HB0.out⟩
  have i1 : ¬ (20 : Int) < (n : Int) := by omega
  by_cases h2 : 200 < sd.size
  · have HP := Lib.hid (show shortP f = false by unfold shortP; rw [decide_eq_false (show ¬ f.data.length ≤ 200 by omega)]; simp)
    have i2 : (200 : Int) < (sd.size : Int) := by omega
    clear hC hW0 hb0 hbx hT hsd hsz hd hl h1 h2
    go_enter Try.func6, Try.ntmps6
    go_upto_region 1 with fail
    rw [← HC.out, ← HW0.out]
    go_wp2
    go_ret
    exact ⟨by rw [HP.out]; rfl, HB0.out⟩
  have i2 : ¬ (200 : Int) < (sd.size : Int) := by omega
  have HP := Lib.hid (show shortP f = f.list.all s200 by unfold shortP; rw [decide_eq_true (show f.list.length ≤ 20 by rw [hT.len]; omega), decide_eq_true (show f.data.length ≤ 200 by omega)]; simp)
  clear hC hW0 hb0 hbx hT hsd hsz hd hl h1 h2
  go_enter Try.func6, Try.ntmps6
  go_upto_region 1 with fail
  rw [← HC.out, ← HW0.out]
  go_wp2
  go_loopw [3] (fun i wr => ∃ k : Nat, k ≤ n ∧ i = .int .i64 k ∧ (f.list.take k).all s200 = true ∧ wr = W0) (fun i _ => n - (intOf i).toNat)
  case atStart => exact ⟨0, by omega, rfl, by simp, rfl⟩
  case round =>
    obtain ⟨k, hk, rfl, hall, hwr⟩ := hrel
    subst hwr
    by_cases hlt : k < n
    · have j1 : (0 : Int) ≤ (k : Int) := by omega
      have j2 : (k : Int) < (n : Int) := by omega
      obtain ⟨tb, toff, rfl, htl, htc⟩ := HT0.out.at0 (by omega)
      have d0 := htc k hlt
      obtain ⟨ds, hds⟩ : ∃ d : List UInt8, d = f.list[k]?.getD [] := ⟨_, rfl⟩
      rw [← hds] at d0
      obtain ⟨DS, hDS⟩ := str_of ds
      rw [hDS] at d0
      have hlk : k < f.list.length := by have := HLN.out; omega
      have q1 := take_s200 f.list k hlk
      rw [← hds, hall, Bool.true_and] at q1
      have hzD : DS.size = ds.length := sd_size hDS
      by_cases h3 : 200 < DS.size
      · have j3 : (200 : Int) < (DS.size : Int) := by omega
        have HF := Lib.hid (show shortP f = false by
          rw [HP.out]
          exact all_false200 f.list (k + 1) (by rw [q1]; exact decide_eq_false (by omega)))
        clear hall hds hDS hlk q1 hzD h3 htc
        go_wp2
        go_ret
        exact ⟨by rw [HF.out]; rfl, HB0.out⟩
      · have j3 : ¬ (200 : Int) < (DS.size : Int) := by omega
        have HQ := Lib.hid (show (f.list.take (k + 1)).all s200 = true by rw [q1]; exact decide_eq_true (by omega))
        clear hall hds hDS hlk q1 hzD h3 htc
        go_wp2
        go_roundw
        case rel => exact ⟨k + 1, by omega, by go_num, HQ.out, trivial⟩
        case measure => simp [intOf]; omega
    · obtain rfl : k = n := by omega
      have HF := Lib.hid (show shortP f = true by rw [HP.out, ← hall, List.take_of_length_le (by have := HLN.out; omega)])
      clear hall hlt
      go_wp2
      go_ret
      exact ⟨by rw [HF.out]; rfl, HB0.out⟩

theorem below_alloc2 (w : World) (a b : Obj) : Below w.heap.size w ((w.alloc a).alloc b) := ((Below.refl _ _).alloc (Nat.le_refl _) _).alloc (by simp) _

set_option maxRecDepth 20000 in
set_option maxHeartbeats 1000000 in
theorem puts_long (f g : FR) (a b : Option Addr) (n m c d : Nat) (w : World) (hT : Tx w a n c f.list) (hT2 : Tx w b m d g.list) (hv : f.vol < 4294967296) (hfit : f.fit)
    (hd : f.data.length ≤ maxLen) (hd2 : g.data.length ≤ maxLen) (hl : ∀ s ∈ f.list, s.length ≤ maxLen) (hl2 : ∀ s ∈ g.list, s.length ≤ maxLen) (h1 : shortP f = false) :
    Calls Try.prog 3 #[frV f (.slice a n c), frV g (.slice b m d)] w fun e w' => e = .returned (.bool true) ∧ Below w.heap.size w w' := by
  obtain ⟨C, hC⟩ : ∃ C, C = frC f (.slice a n c) := ⟨_, rfl⟩
  obtain ⟨D, hD⟩ : ∃ D, D = frC g (.slice b m d) := ⟨_, rfl⟩
  have hfv : frV f (.slice a n c) = .agg C := by rw [hC]; rfl
  have hgv : frV g (.slice b m d) = .agg D := by rw [hD]; rfl
  obtain ⟨W0, hW0⟩ : ∃ x, x = (w.alloc (.cells C 26)).alloc (.cells D 26) := ⟨_, rfl⟩
  have hb0 : Below w.heap.size w W0 := by rw [hW0]; exact below_alloc2 w _ _
  have hbx : W0.heap[w.heap.size]? = some (.cells C 26 (0, 0)) := by rw [hW0]; exact heap_alloc2_old w _ _
  have hby : W0.heap[w.heap.size + 1]? = some (.cells D 26 (0, 0)) := by rw [hW0]; exact heap_alloc2_new w _ _
  have hlx : w.heap.size < W0.heap.size := lt_of_block hbx
  have hly : w.heap.size + 1 < W0.heap.size := lt_of_block hby
  have HI0 := Lib.hid (show (Try.prog.info? 26).map (·.size) = some C.size by rw [hC]; kernel_rfl)
  have HI1 := Lib.hid (show (Try.prog.info? 26).map (·.size) = some D.size by rw [hD]; kernel_rfl)
  have HKX := Lib.hid (show ∀ w', Below W0.heap.size W0 w' → w'.heap[w.heap.size]? = some (.cells C 26 (0, 0)) from fun w' hb => (hb.block _ hlx).trans hbx)
  have HKY := Lib.hid (show ∀ w', Below W0.heap.size W0 w' → w'.heap[w.heap.size + 1]? = some (.cells D 26 (0, 0)) from fun w' hb => (hb.block _ hly).trans hby)
  have HTF := Lib.hid (hT.later hb0)
  have HTG := Lib.hid (hT2.later hb0)
  have hsf := short_any f a n c W0 HTF.out hd hl
  have hsg := fun w' (hb : Below W0.heap.size W0 w') => short_any g b m d w' (HTG.out.later hb) hd2 hl2
  rw [h1] at hsf
  rw [hfv] at hsf
  rw [hgv] at hsg
  have HSF := Lib.hid hsf
  have HSG := Lib.hid hsg
  have HW0 := Lib.hid hW0
  have HB0 := Lib.hid hb0
  have HFV := Lib.hid hfv
  have HGV := Lib.hid hgv
  have HC := Lib.hid hC
  have HD := Lib.hid hD
  have HFIT := Lib.hid hfit
  have HVO := Lib.hid hv
  unfold frC at HC HD
  unfold frV
  clear hC hD hfv hgv hW0 hb0 hlx hly hsf hsg hT hT2 hv hd hd2 hl hl2 hfit hby
  go_enter Try.func3, Try.ntmps3
  go_upto_region 1 with fail
  rw [← HC.out, ← HD.out, ← HW0.out]
  go_wp2_with (with_reducible refine wpList_load_row (o := ⟨some 11, _, _, _, _, _⟩) rfl 26 (.tmp 2) rfl w.heap.size rfl 26 C (0, 0) _ hbx Try.underlying26 rfl HI0.out ?_)
  refine HSF.out.mono ?_
  rintro e w1 ⟨rfl, hb1⟩
  have HB1 := Lib.hid hb1
  clear hb1 hbx
  go_wp2_with fail
  refine (known21_any _).mono ?_
  rintro e wk ⟨rfl, hbk⟩
  go_wp2
  go_ret
  exact ⟨rfl, HB0.out.trans ((HB1.out.trans (hbk.mono HB1.out.size)).mono HB0.out.size)⟩

set_option maxRecDepth 20000 in
set_option maxHeartbeats 1000000 in
theorem puts_long2 (f g : FR) (a b : Option Addr) (n m c d : Nat) (w : World) (hT : Tx w a n c f.list) (hT2 : Tx w b m d g.list) (hv : f.vol < 4294967296) (hfit : f.fit)
    (hd : f.data.length ≤ maxLen) (hd2 : g.data.length ≤ maxLen) (hl : ∀ s ∈ f.list, s.length ≤ maxLen) (hl2 : ∀ s ∈ g.list, s.length ≤ maxLen) (h1 : shortP f = true) (h2 : shortP g = false) :
    Calls Try.prog 3 #[frV f (.slice a n c), frV g (.slice b m d)] w fun e w' => e = .returned (.bool true) ∧ Below w.heap.size w w' := by
  obtain ⟨C, hC⟩ : ∃ C, C = frC f (.slice a n c) := ⟨_, rfl⟩
  obtain ⟨D, hD⟩ : ∃ D, D = frC g (.slice b m d) := ⟨_, rfl⟩
  have hfv : frV f (.slice a n c) = .agg C := by rw [hC]; rfl
  have hgv : frV g (.slice b m d) = .agg D := by rw [hD]; rfl
  obtain ⟨W0, hW0⟩ : ∃ x, x = (w.alloc (.cells C 26)).alloc (.cells D 26) := ⟨_, rfl⟩
  have hb0 : Below w.heap.size w W0 := by rw [hW0]; exact below_alloc2 w _ _
  have hbx : W0.heap[w.heap.size]? = some (.cells C 26 (0, 0)) := by rw [hW0]; exact heap_alloc2_old w _ _
  have hby : W0.heap[w.heap.size + 1]? = some (.cells D 26 (0, 0)) := by rw [hW0]; exact heap_alloc2_new w _ _
  have hlx : w.heap.size < W0.heap.size := lt_of_block hbx
  have hly : w.heap.size + 1 < W0.heap.size := lt_of_block hby
  have HI0 := Lib.hid (show (Try.prog.info? 26).map (·.size) = some C.size by rw [hC]; kernel_rfl)
  have HI1 := Lib.hid (show (Try.prog.info? 26).map (·.size) = some D.size by rw [hD]; kernel_rfl)
  have HKX := Lib.hid (show ∀ w', Below W0.heap.size W0 w' → w'.heap[w.heap.size]? = some (.cells C 26 (0, 0)) from fun w' hb => (hb.block _ hlx).trans hbx)
  have HKY := Lib.hid (show ∀ w', Below W0.heap.size W0 w' → w'.heap[w.heap.size + 1]? = some (.cells D 26 (0, 0)) from fun w' hb => (hb.block _ hly).trans hby)
  have HTF := Lib.hid (hT.later hb0)
  have HTG := Lib.hid (hT2.later hb0)
  have hsf := short_any f a n c W0 HTF.out hd hl
  have hsg := fun w' (hb : Below W0.heap.size W0 w') => short_any g b m d w' (HTG.out.later hb) hd2 hl2
  rw [h1] at hsf
  rw [h2] at hsg
  rw [hfv] at hsf
  rw [hgv] at hsg
  have HSF := Lib.hid hsf
  have HSG := Lib.hid hsg
  have HW0 := Lib.hid hW0
  have HB0 := Lib.hid hb0
  have HFV := Lib.hid hfv
  have HGV := Lib.hid hgv
  have HC := Lib.hid hC
  have HD := Lib.hid hD
  have HFIT := Lib.hid hfit
  have HVO := Lib.hid hv
  unfold frC at HC HD
  unfold frV
  clear hC hD hfv hgv hW0 hb0 hlx hly hsf hsg hT hT2 hv hd hd2 hl hl2 hfit hby
  go_enter Try.func3, Try.ntmps3
  go_upto_region 1 with fail
  rw [← HC.out, ← HD.out, ← HW0.out]
  go_wp2_with (with_reducible refine wpList_load_row (o := ⟨some 11, _, _, _, _, _⟩) rfl 26 (.tmp 2) rfl w.heap.size rfl 26 C (0, 0) _ hbx Try.underlying26 rfl HI0.out ?_)
  refine HSF.out.mono ?_
  rintro e w1 ⟨rfl, hb1⟩
  have HB1 := Lib.hid hb1
  clear hb1 hbx
  have hy1 := HKY.out _ HB1.out
  go_wp2_with (with_reducible refine wpList_load_row_w (o := ⟨some 15, _, _, _, _, _⟩) (by simp [Region.wanted, yielded, Act.put]) 26 (.tmp 3) rfl (w.heap.size + 1) rfl 26 D (0, 0) _ hy1 Try.underlying26 rfl HI1.out ?_)
  refine (HSG.out _ HB1.out).mono ?_
  rintro e w2 ⟨rfl, hb2⟩
  have HB2 := Lib.hid (HB1.out.trans (hb2.mono HB1.out.size))
  clear hb2 hy1
  go_wp2_with fail
  refine (known21_any _).mono ?_
  rintro e wk ⟨rfl, hbk⟩
  go_wp2
  go_ret
  exact ⟨rfl, HB0.out.trans ((HB2.out.trans (hbk.mono HB2.out.size)).mono HB0.out.size)⟩

set_option maxRecDepth 20000 in
set_option maxHeartbeats 1000000 in
theorem puts_bad (f g : FR) (a b : Option Addr) (n m c d : Nat) (w : World) (hT : Tx w a n c f.list) (hT2 : Tx w b m d g.list) (hv : f.vol < 4294967296) (hfit : f.fit)
    (hd : f.data.length ≤ maxLen) (hd2 : g.data.length ≤ maxLen) (hl : ∀ s ∈ f.list, s.length ≤ maxLen) (hl2 : ∀ s ∈ g.list, s.length ≤ maxLen) (h1 : shortP f = true) (h2 : shortP g = true) (hg : ¬ good f) :
    Calls Try.prog 3 #[frV f (.slice a n c), frV g (.slice b m d)] w fun e w' => e = .returned (.bool true) ∧ Below w.heap.size w w' := by
  obtain ⟨C, hC⟩ : ∃ C, C = frC f (.slice a n c) := ⟨_, rfl⟩
  obtain ⟨D, hD⟩ : ∃ D, D = frC g (.slice b m d) := ⟨_, rfl⟩
  have hfv : frV f (.slice a n c) = .agg C := by rw [hC]; rfl
  have hgv : frV g (.slice b m d) = .agg D := by rw [hD]; rfl
  obtain ⟨W0, hW0⟩ : ∃ x, x = (w.alloc (.cells C 26)).alloc (.cells D 26) := ⟨_, rfl⟩
  have hb0 : Below w.heap.size w W0 := by rw [hW0]; exact below_alloc2 w _ _
  have hbx : W0.heap[w.heap.size]? = some (.cells C 26 (0, 0)) := by rw [hW0]; exact heap_alloc2_old w _ _
  have hby : W0.heap[w.heap.size + 1]? = some (.cells D 26 (0, 0)) := by rw [hW0]; exact heap_alloc2_new w _ _
  have hlx : w.heap.size < W0.heap.size := lt_of_block hbx
  have hly : w.heap.size + 1 < W0.heap.size := lt_of_block hby
  have HI0 := Lib.hid (show (Try.prog.info? 26).map (·.size) = some C.size by rw [hC]; kernel_rfl)
  have HI1 := Lib.hid (show (Try.prog.info? 26).map (·.size) = some D.size by rw [hD]; kernel_rfl)
  have HKX := Lib.hid (show ∀ w', Below W0.heap.size W0 w' → w'.heap[w.heap.size]? = some (.cells C 26 (0, 0)) from fun w' hb => (hb.block _ hlx).trans hbx)
  have HKY := Lib.hid (show ∀ w', Below W0.heap.size W0 w' → w'.heap[w.heap.size + 1]? = some (.cells D 26 (0, 0)) from fun w' hb => (hb.block _ hly).trans hby)
  have HTF := Lib.hid (hT.later hb0)
  have HTG := Lib.hid (hT2.later hb0)
  have hsf := short_any f a n c W0 HTF.out hd hl
  have hsg := fun w' (hb : Below W0.heap.size W0 w') => short_any g b m d w' (HTG.out.later hb) hd2 hl2
  rw [h1] at hsf
  rw [h2] at hsg
  obtain ⟨hd3, hl3⟩ := short_le h1
  have hpt := fun w' (hb : Below W0.heap.size W0 w') => fput_any f a n c w' (HTF.out.later hb) hv hfit.sess hfit.ep hfit.seq (by omega) (fun k => by have := hl3 k; omega)
  have hrp := fun w' (hb : Below W0.heap.size W0 w') => rfput_any f a n c w' (HTF.out.later hb) hv hfit hd3 hl3
  simp only [show putP f = ([], 6) from by unfold putP; rw [if_neg hg], hfv] at hpt hrp
  obtain ⟨sz, hsz⟩ : ∃ s : ByteArray, s = ⟨(([] : List UInt8)).toArray⟩ := ⟨_, rfl⟩
  rw [show strV [] = .string sz from by rw [hsz]; rfl] at hrp
  have HPT := Lib.hid hpt
  have HRP := Lib.hid hrp
  have HSZ := Lib.hid hsz
  have HG := Lib.hid hg
  clear hpt hrp hsz hg hd3 hl3 h1 h2
  rw [hfv] at hsf
  rw [hgv] at hsg
  have HSF := Lib.hid hsf
  have HSG := Lib.hid hsg
  have HW0 := Lib.hid hW0
  have HB0 := Lib.hid hb0
  have HFV := Lib.hid hfv
  have HGV := Lib.hid hgv
  have HC := Lib.hid hC
  have HD := Lib.hid hD
  have HFIT := Lib.hid hfit
  have HVO := Lib.hid hv
  unfold frC at HC HD
  unfold frV
  clear hC hD hfv hgv hW0 hb0 hlx hly hsf hsg hT hT2 hv hd hd2 hl hl2 hfit hby
  go_enter Try.func3, Try.ntmps3
  go_upto_region 1 with fail
  rw [← HC.out, ← HD.out, ← HW0.out]
  go_wp2_with (with_reducible refine wpList_load_row (o := ⟨some 11, _, _, _, _, _⟩) rfl 26 (.tmp 2) rfl w.heap.size rfl 26 C (0, 0) _ hbx Try.underlying26 rfl HI0.out ?_)
  refine HSF.out.mono ?_
  rintro e w1 ⟨rfl, hb1⟩
  have HB1 := Lib.hid hb1
  clear hb1 hbx
  have hy1 := HKY.out _ HB1.out
  go_wp2_with (with_reducible refine wpList_load_row_w (o := ⟨some 15, _, _, _, _, _⟩) (by simp [Region.wanted, yielded, Act.put]) 26 (.tmp 3) rfl (w.heap.size + 1) rfl 26 D (0, 0) _ hy1 Try.underlying26 rfl HI1.out ?_)
  refine (HSG.out _ HB1.out).mono ?_
  rintro e w2 ⟨rfl, hb2⟩
  have HB2 := Lib.hid (HB1.out.trans (hb2.mono HB1.out.size))
  clear hb2 hy1
  have hx2 := HKX.out _ HB2.out
  go_wp2_with (with_reducible refine wpList_load_row (o := ⟨some 21, _, _, _, _, _⟩) rfl 26 (.tmp 2) rfl w.heap.size rfl 26 C (0, 0) _ hx2 Try.underlying26 rfl HI0.out ?_)
  refine (HPT.out _ HB2.out).mono ?_
  rintro e w3 ⟨a3, m3, c3, rfl, hrd3, hb3⟩
  have HB3 := Lib.hid (HB2.out.trans (hb3.mono HB2.out.size))
  have HR3 := Lib.hid hrd3
  have hx3 := HKX.out _ HB3.out
  clear hb3 hx2 hrd3
  go_wp2_with (with_reducible refine wpList_load_row (o := ⟨some 26, _, _, _, _, _⟩) rfl 26 (.tmp 2) rfl w.heap.size rfl 26 C (0, 0) _ hx3 Try.underlying26 rfl HI0.out ?_)
  refine (HRP.out _ HB3.out).mono ?_
  rintro e w4 ⟨rfl, hb4⟩
  have HB4 := Lib.hid ((HB3.out.trans (hb4.mono HB3.out.size)).drew)
  have HR4 := Lib.hid (HR3.out.later hb4)
  have hcv : (convert 29 9 (.slice a3 m3 c3)).run Try.prog w4.drew = .ok (.string sz) w4.drew := by rw [HSZ.out]; exact rd_string HR4.out.drew
  obtain ⟨rr, hrr⟩ : ∃ r, r = decide (f = g) := ⟨_, rfl⟩
  have hal := fun w' (hb : Below W0.heap.size W0 w') => alike_any f g a b n m c d w' (HTF.out.later hb) (HTG.out.later hb)
  have hra := fun w' (hb : Below W0.heap.size W0 w') => ralike_any f g a b n m c d w' (HTF.out.later hb) (HTG.out.later hb)
  simp only [HFV.out, HGV.out, ← hrr] at hal hra
  have HAL := Lib.hid hal
  have HRA := Lib.hid hra
  clear hb4 hx3 hal hra hrr
  go_wp2_with fail
  refine wp_region_held_drew (S := fun w' : World => w'.heap[w.heap.size]? = some (.cells C 26 (0, 0)) ∧ w'.heap[w.heap.size + 1]? = some (.cells D 26 (0, 0))) (by kernel_rfl) (⟨HKX.out _ HB4.out, HKY.out _ HB4.out⟩) (fun hHeld => ?_)
  refine wpAnyH_take (i := 0) (oi := { dst := some 30, op := Op.move (Operand.tmp 5), type := 29, pos := "law.go:39", after := #[], guard := none }) (v := ?_) rfl (by kernel_rfl) (by kernel_rfl) (by kernel_rfl) (fun _ _ _ h => h) (Or.inl ⟨by rfl, ?_⟩) (by assumption) ?_
  rotate_left
  · (intro w hSw; (try dsimp only at hSw); go_simp <;> with_reducible rfl)
  try simp only [Act.put, List.setIfInBounds_toArray, List.set_cons_zero, List.set_cons_succ]
  refine wpAnyH_take (i := 2) (oi := { dst := some 32, op := Op.move (Operand.tmp 7), type := 9, pos := "law.go:39", after := #[], guard := none }) (v := ?_) rfl (by kernel_rfl) (by kernel_rfl) (by kernel_rfl) (fun _ _ _ h => h) (Or.inl ⟨by rfl, ?_⟩) (by assumption) ?_
  rotate_left
  · (intro w hSw; (try dsimp only at hSw); go_simp <;> with_reducible rfl)
  try simp only [Act.put, List.setIfInBounds_toArray, List.set_cons_zero, List.set_cons_succ]
  refine wpAnyH_ready (rs := [1]) (by kernel_rfl) (by simp) ?_
  refine AllReadyH.cons (o := { dst := some 31, op := Op.convert 29 9 (Operand.tmp 30), type := 9, pos := "law.go:39", after := #[{ on := 0, ground := Ground.data }], guard := none }) rfl (fun K hK => ?_) AllReadyH.nil
  go_simp
  refine hK _ _ (⟨HKX.out _ HB4.out, HKY.out _ HB4.out⟩) (fun hHeld => ?_)
  clear hK K
  try simp only [Act.put, List.setIfInBounds_toArray, List.set_cons_zero, List.set_cons_succ]
  refine wpAnyH_take (i := 3) (oi := { dst := some 33, op := Op.binOp BinOp.neq 9 (Operand.tmp 31) (Operand.tmp 32) 9, type := 4, pos := "law.go:39", after := #[{ on := 1, ground := Ground.data }, { on := 2, ground := Ground.data }], guard := none }) (v := ?_) rfl (by kernel_rfl) (by kernel_rfl) (by kernel_rfl) (fun _ _ _ h => h) (Or.inl ⟨by rfl, ?_⟩) (by assumption) ?_
  rotate_left
  · (intro w hSw; (try dsimp only at hSw); go_simp <;> with_reducible rfl)
  try simp only [Act.put, List.setIfInBounds_toArray, List.set_cons_zero, List.set_cons_succ]
  refine wpAnyH_take (i := 4) (oi := { dst := some 34, op := Op.move (Operand.tmp 33), type := 4, pos := "law.go:39", after := #[{ on := 3, ground := Ground.data }], guard := none }) (v := ?_) rfl (by kernel_rfl) (by kernel_rfl) (by kernel_rfl) (fun _ _ _ h => h) (Or.inl ⟨by rfl, ?_⟩) (by assumption) ?_
  rotate_left
  · (intro w hSw; (try dsimp only at hSw); go_simp <;> with_reducible rfl)
  try simp only [Act.put, List.setIfInBounds_toArray, List.set_cons_zero, List.set_cons_succ]
  refine wpAnyH_take (i := 5) (oi := { dst := some 35, op := Op.move (Operand.tmp 6), type := 30, pos := "law.go:39", after := #[{ on := 4, ground := Ground.guard }], guard := some (4, false) }) (v := ?_) rfl (by kernel_rfl) (by kernel_rfl) (by kernel_rfl) (fun _ _ _ h => h) (Or.inl ⟨by rfl, ?_⟩) (by assumption) ?_
  rotate_left
  · (intro w hSw; (try dsimp only at hSw); go_simp <;> with_reducible rfl)
  try simp only [Act.put, List.setIfInBounds_toArray, List.set_cons_zero, List.set_cons_succ]
  refine wpAnyH_take (i := 6) (oi := { dst := some 36, op := Op.move (Operand.tmp 8), type := 30, pos := "law.go:39", after := #[{ on := 4, ground := Ground.guard }], guard := some (4, false) }) (v := ?_) rfl (by kernel_rfl) (by kernel_rfl) (by kernel_rfl) (fun _ _ _ h => h) (Or.inl ⟨by rfl, ?_⟩) (by assumption) ?_
  rotate_left
  · (intro w hSw; (try dsimp only at hSw); go_simp <;> with_reducible rfl)
  try simp only [Act.put, List.setIfInBounds_toArray, List.set_cons_zero, List.set_cons_succ]
  refine wpAnyH_take (i := 7) (oi := { dst := some 37, op := Op.binOp BinOp.neq 30 (Operand.tmp 35) (Operand.tmp 36) 30, type := 4, pos := "law.go:39", after := #[{ on := 5, ground := Ground.data }, { on := 6, ground := Ground.data }, { on := 4, ground := Ground.guard }], guard := some (4, false) }) (v := ?_) rfl (by kernel_rfl) (by kernel_rfl) (by kernel_rfl) (fun _ _ _ h => h) (Or.inl ⟨by rfl, ?_⟩) (by assumption) ?_
  rotate_left
  · (intro w hSw; (try dsimp only at hSw); go_simp <;> with_reducible rfl)
  try simp only [Act.put, List.setIfInBounds_toArray, List.set_cons_zero, List.set_cons_succ]
  refine wpAnyH_take (i := 8) (oi := { dst := some 38, op := Op.pick (Operand.tmp 34) (Operand.const (Value.bool true)) (Operand.tmp 37), type := 4, pos := "law.go:39", after := #[{ on := 4, ground := Ground.data }, { on := 7, ground := Ground.data }], guard := none }) (v := ?_) rfl (by kernel_rfl) (by kernel_rfl) (by kernel_rfl) (fun _ _ _ h => h) (Or.inl ⟨by rfl, ?_⟩) (by assumption) ?_
  rotate_left
  · (intro w hSw; (try dsimp only at hSw); go_simp <;> with_reducible rfl)
  try simp only [Act.put, List.setIfInBounds_toArray, List.set_cons_zero, List.set_cons_succ]
  refine wpAnyH_take (i := 9) (oi := { dst := some 39, op := Op.move (Operand.tmp 38), type := 4, pos := "law.go:39", after := #[{ on := 8, ground := Ground.data }, { on := 4, ground := Ground.chain }], guard := none }) (v := ?_) rfl (by kernel_rfl) (by kernel_rfl) (by kernel_rfl) (fun _ _ _ h => h) (Or.inl ⟨by rfl, ?_⟩) (by assumption) ?_
  rotate_left
  · (intro w hSw; (try dsimp only at hSw); go_simp <;> with_reducible rfl)
  try simp only [Act.put, List.setIfInBounds_toArray, List.set_cons_zero, List.set_cons_succ]
  refine wpAnyH_take (i := 10) (oi := { dst := some 40, op := Op.load 26 (Operand.tmp 2), type := 26, pos := "law.go:39", after := #[{ on := 9, ground := Ground.guard }], guard := some (9, false) }) (v := .agg C) rfl (by kernel_rfl) (by kernel_rfl) (by kernel_rfl) (fun _ _ _ h => h) (Or.inl ⟨by rfl, fun w' hSw => take_load rfl w.heap.size rfl 26 C (0, 0) w' hSw.1 _ Try.underlying26 HI0.out⟩) (by assumption) ?_
  try simp only [Act.put, List.setIfInBounds_toArray, List.set_cons_zero, List.set_cons_succ]
  refine wpAnyH_take (i := 11) (oi := { dst := some 41, op := Op.load 26 (Operand.tmp 3), type := 26, pos := "law.go:39", after := #[{ on := 9, ground := Ground.guard }], guard := some (9, false) }) (v := .agg D) rfl (by kernel_rfl) (by kernel_rfl) (by kernel_rfl) (fun _ _ _ h => h) (Or.inl ⟨by rfl, fun w' hSw => take_load rfl (w.heap.size + 1) rfl 26 D (0, 0) w' hSw.2 _ Try.underlying26 HI1.out⟩) (by assumption) ?_
  try simp only [Act.put, List.setIfInBounds_toArray, List.set_cons_zero, List.set_cons_succ]
  refine wpAnyH_take (i := 13) (oi := { dst := some 43, op := Op.load 26 (Operand.tmp 2), type := 26, pos := "law.go:39", after := #[{ on := 9, ground := Ground.guard }], guard := some (9, false) }) (v := .agg C) rfl (by kernel_rfl) (by kernel_rfl) (by kernel_rfl) (fun _ _ _ h => h) (Or.inl ⟨by rfl, fun w' hSw => take_load rfl w.heap.size rfl 26 C (0, 0) w' hSw.1 _ Try.underlying26 HI0.out⟩) (by assumption) ?_
  try simp only [Act.put, List.setIfInBounds_toArray, List.set_cons_zero, List.set_cons_succ]
  refine wpAnyH_take (i := 14) (oi := { dst := some 44, op := Op.load 26 (Operand.tmp 3), type := 26, pos := "law.go:39", after := #[{ on := 9, ground := Ground.guard }], guard := some (9, false) }) (v := .agg D) rfl (by kernel_rfl) (by kernel_rfl) (by kernel_rfl) (fun _ _ _ h => h) (Or.inl ⟨by rfl, fun w' hSw => take_load rfl (w.heap.size + 1) rfl 26 D (0, 0) w' hSw.2 _ Try.underlying26 HI1.out⟩) (by assumption) ?_
  try simp only [Act.put, List.setIfInBounds_toArray, List.set_cons_zero, List.set_cons_succ]
  refine wpAnyH_ready (rs := [12]) (by kernel_rfl) (by simp) ?_
  refine AllReadyH.cons (o := { dst := some 42, op := Op.call { callee := Callee.value (Operand.func 10), args := #[Operand.tmp 40, Operand.tmp 41], argTypes := #[26, 26] }, type := 4, pos := "law.go:39", after := #[{ on := 10, ground := Ground.data }, { on := 11, ground := Ground.data }, { on := 9, ground := Ground.chain }, { on := 9, ground := Ground.guard }], guard := some (9, false) }) rfl (fun K hK => ?_) AllReadyH.nil
  go_simp
  go_at_call 10
  refine (HAL.out _ HB4.out).mono ?_
  rintro e w5 ⟨rfl, hb5⟩
  have HB5 := Lib.hid (HB4.out.trans (hb5.mono HB4.out.size))
  have HR5 := Lib.hid (HR4.out.drew.later hb5)
  clear hb5
  refine hK _ _ (⟨HKX.out _ HB5.out, HKY.out _ HB5.out⟩) (fun hHeld => ?_)
  clear hK K
  try simp only [Act.put, List.setIfInBounds_toArray, List.set_cons_zero, List.set_cons_succ]
  refine wpAnyH_ready (rs := [15]) (by kernel_rfl) (by simp) ?_
  refine AllReadyH.cons (o := { dst := some 45, op := Op.call { callee := Callee.value (Operand.func 11), args := #[Operand.tmp 43, Operand.tmp 44], argTypes := #[26, 26] }, type := 4, pos := "law.go:39", after := #[{ on := 13, ground := Ground.data }, { on := 14, ground := Ground.data }, { on := 12, ground := Ground.chain }, { on := 9, ground := Ground.guard }], guard := some (9, false) }) rfl (fun K hK => ?_) AllReadyH.nil
  go_simp
  go_at_call 11
  refine (HRA.out _ HB5.out).mono ?_
  rintro e w6 ⟨rfl, hb6⟩
  have HB6 := Lib.hid (HB5.out.trans (hb6.mono HB5.out.size))
  have HR6 := Lib.hid (HR5.out.later hb6)
  clear hb6
  refine hK _ _ (⟨HKX.out _ HB6.out, HKY.out _ HB6.out⟩) (fun hHeld => ?_)
  clear hK K
  try simp only [Act.put, List.setIfInBounds_toArray, List.set_cons_zero, List.set_cons_succ]
  refine wpAnyH_take (i := 16) (oi := { dst := some 46, op := Op.binOp BinOp.neq 4 (Operand.tmp 42) (Operand.tmp 45) 4, type := 4, pos := "law.go:39", after := #[{ on := 12, ground := Ground.data }, { on := 15, ground := Ground.data }, { on := 9, ground := Ground.guard }], guard := some (9, false) }) (v := ?_) rfl (by kernel_rfl) (by kernel_rfl) (by kernel_rfl) (fun _ _ _ h => h) (Or.inl ⟨by rfl, ?_⟩) (by assumption) ?_
  rotate_left
  · (intro w hSw; (try dsimp only at hSw); go_simp <;> with_reducible rfl)
  try simp only [Act.put, List.setIfInBounds_toArray, List.set_cons_zero, List.set_cons_succ]
  refine wpAnyH_take (i := 17) (oi := { dst := some 47, op := Op.pick (Operand.tmp 39) (Operand.const (Value.bool true)) (Operand.tmp 46), type := 4, pos := "law.go:39", after := #[{ on := 9, ground := Ground.data }, { on := 16, ground := Ground.data }], guard := none }) (v := ?_) rfl (by kernel_rfl) (by kernel_rfl) (by kernel_rfl) (fun _ _ _ h => h) (Or.inl ⟨by rfl, ?_⟩) (by assumption) ?_
  rotate_left
  · (intro w hSw; (try dsimp only at hSw); go_simp <;> with_reducible rfl)
  try simp only [Act.put, List.setIfInBounds_toArray, List.set_cons_zero, List.set_cons_succ]
  refine wpAnyH_done (by kernel_rfl) ?_ _
  go_wp2_with fail
  refine (known21_any _).mono ?_
  rintro e wk ⟨rfl, hbk⟩
  go_wp2
  go_ret
  exact ⟨rfl, HB0.out.trans ((HB6.out.trans (hbk.mono HB6.out.size)).mono HB0.out.size)⟩

set_option maxRecDepth 20000 in
set_option maxHeartbeats 1000000 in
theorem puts_good (f g : FR) (a b : Option Addr) (n m c d : Nat) (w : World) (hT : Tx w a n c f.list) (hT2 : Tx w b m d g.list) (hv : f.vol < 4294967296) (hfit : f.fit)
    (hd : f.data.length ≤ maxLen) (hd2 : g.data.length ≤ maxLen) (hl : ∀ s ∈ f.list, s.length ≤ maxLen) (hl2 : ∀ s ∈ g.list, s.length ≤ maxLen) (h1 : shortP f = true) (h2 : shortP g = true) (hg : good f) :
    Calls Try.prog 3 #[frV f (.slice a n c), frV g (.slice b m d)] w fun e w' => e = .returned (.bool true) ∧ Below w.heap.size w w' := by
  obtain ⟨C, hC⟩ : ∃ C, C = frC f (.slice a n c) := ⟨_, rfl⟩
  obtain ⟨D, hD⟩ : ∃ D, D = frC g (.slice b m d) := ⟨_, rfl⟩
  have hfv : frV f (.slice a n c) = .agg C := by rw [hC]; rfl
  have hgv : frV g (.slice b m d) = .agg D := by rw [hD]; rfl
  obtain ⟨W0, hW0⟩ : ∃ x, x = (w.alloc (.cells C 26)).alloc (.cells D 26) := ⟨_, rfl⟩
  have hb0 : Below w.heap.size w W0 := by rw [hW0]; exact below_alloc2 w _ _
  have hbx : W0.heap[w.heap.size]? = some (.cells C 26 (0, 0)) := by rw [hW0]; exact heap_alloc2_old w _ _
  have hby : W0.heap[w.heap.size + 1]? = some (.cells D 26 (0, 0)) := by rw [hW0]; exact heap_alloc2_new w _ _
  have hlx : w.heap.size < W0.heap.size := lt_of_block hbx
  have hly : w.heap.size + 1 < W0.heap.size := lt_of_block hby
  have HI0 := Lib.hid (show (Try.prog.info? 26).map (·.size) = some C.size by rw [hC]; kernel_rfl)
  have HI1 := Lib.hid (show (Try.prog.info? 26).map (·.size) = some D.size by rw [hD]; kernel_rfl)
  have HKX := Lib.hid (show ∀ w', Below W0.heap.size W0 w' → w'.heap[w.heap.size]? = some (.cells C 26 (0, 0)) from fun w' hb => (hb.block _ hlx).trans hbx)
  have HKY := Lib.hid (show ∀ w', Below W0.heap.size W0 w' → w'.heap[w.heap.size + 1]? = some (.cells D 26 (0, 0)) from fun w' hb => (hb.block _ hly).trans hby)
  have HTF := Lib.hid (hT.later hb0)
  have HTG := Lib.hid (hT2.later hb0)
  have hsf := short_any f a n c W0 HTF.out hd hl
  have hsg := fun w' (hb : Below W0.heap.size W0 w') => short_any g b m d w' (HTG.out.later hb) hd2 hl2
  rw [h1] at hsf
  rw [h2] at hsg
  obtain ⟨hd3, hl3⟩ := short_le h1
  have hpt := fun w' (hb : Below W0.heap.size W0 w') => fput_any f a n c w' (HTF.out.later hb) hv hfit.sess hfit.ep hfit.seq (by omega) (fun k => by have := hl3 k; omega)
  have hrp := fun w' (hb : Below W0.heap.size W0 w') => rfput_any f a n c w' (HTF.out.later hb) hv hfit hd3 hl3
  simp only [show putP f = (frameB f, 0) from by unfold putP; rw [if_pos hg], hfv] at hpt hrp
  obtain ⟨sz, hsz⟩ : ∃ s : ByteArray, s = ⟨(((frameB f) : List UInt8)).toArray⟩ := ⟨_, rfl⟩
  rw [show strV (frameB f) = .string sz from by rw [hsz]; rfl] at hrp
  have HPT := Lib.hid hpt
  have HRP := Lib.hid hrp
  have HSZ := Lib.hid hsz
  have HG := Lib.hid hg
  clear hpt hrp hsz hg hd3 hl3 h1 h2
  rw [hfv] at hsf
  rw [hgv] at hsg
  have HSF := Lib.hid hsf
  have HSG := Lib.hid hsg
  have HW0 := Lib.hid hW0
  have HB0 := Lib.hid hb0
  have HFV := Lib.hid hfv
  have HGV := Lib.hid hgv
  have HC := Lib.hid hC
  have HD := Lib.hid hD
  have HFIT := Lib.hid hfit
  have HVO := Lib.hid hv
  unfold frC at HC HD
  unfold frV
  clear hC hD hfv hgv hW0 hb0 hlx hly hsf hsg hT hT2 hv hd hd2 hl hl2 hfit hby
  go_enter Try.func3, Try.ntmps3
  go_upto_region 1 with fail
  rw [← HC.out, ← HD.out, ← HW0.out]
  go_wp2_with (with_reducible refine wpList_load_row (o := ⟨some 11, _, _, _, _, _⟩) rfl 26 (.tmp 2) rfl w.heap.size rfl 26 C (0, 0) _ hbx Try.underlying26 rfl HI0.out ?_)
  refine HSF.out.mono ?_
  rintro e w1 ⟨rfl, hb1⟩
  have HB1 := Lib.hid hb1
  clear hb1 hbx
  have hy1 := HKY.out _ HB1.out
  go_wp2_with (with_reducible refine wpList_load_row_w (o := ⟨some 15, _, _, _, _, _⟩) (by simp [Region.wanted, yielded, Act.put]) 26 (.tmp 3) rfl (w.heap.size + 1) rfl 26 D (0, 0) _ hy1 Try.underlying26 rfl HI1.out ?_)
  refine (HSG.out _ HB1.out).mono ?_
  rintro e w2 ⟨rfl, hb2⟩
  have HB2 := Lib.hid (HB1.out.trans (hb2.mono HB1.out.size))
  clear hb2 hy1
  have hx2 := HKX.out _ HB2.out
  go_wp2_with (with_reducible refine wpList_load_row (o := ⟨some 21, _, _, _, _, _⟩) rfl 26 (.tmp 2) rfl w.heap.size rfl 26 C (0, 0) _ hx2 Try.underlying26 rfl HI0.out ?_)
  refine (HPT.out _ HB2.out).mono ?_
  rintro e w3 ⟨a3, m3, c3, rfl, hrd3, hb3⟩
  have HB3 := Lib.hid (HB2.out.trans (hb3.mono HB2.out.size))
  have HR3 := Lib.hid hrd3
  have hx3 := HKX.out _ HB3.out
  clear hb3 hx2 hrd3
  go_wp2_with (with_reducible refine wpList_load_row (o := ⟨some 26, _, _, _, _, _⟩) rfl 26 (.tmp 2) rfl w.heap.size rfl 26 C (0, 0) _ hx3 Try.underlying26 rfl HI0.out ?_)
  refine (HRP.out _ HB3.out).mono ?_
  rintro e w4 ⟨rfl, hb4⟩
  have HB4 := Lib.hid ((HB3.out.trans (hb4.mono HB3.out.size)).drew)
  have HR4 := Lib.hid (HR3.out.later hb4)
  have hcv : (convert 29 9 (.slice a3 m3 c3)).run Try.prog w4.drew = .ok (.string sz) w4.drew := by rw [HSZ.out]; exact rd_string HR4.out.drew
  obtain ⟨rr, hrr⟩ : ∃ r, r = decide (f = g) := ⟨_, rfl⟩
  have hal := fun w' (hb : Below W0.heap.size W0 w') => alike_any f g a b n m c d w' (HTF.out.later hb) (HTG.out.later hb)
  have hra := fun w' (hb : Below W0.heap.size W0 w') => ralike_any f g a b n m c d w' (HTF.out.later hb) (HTG.out.later hb)
  simp only [HFV.out, HGV.out, ← hrr] at hal hra
  have HAL := Lib.hid hal
  have HRA := Lib.hid hra
  clear hb4 hx3 hal hra hrr
  go_wp2_with fail
  refine wp_region_held_drew (S := fun w' : World => w'.heap[w.heap.size]? = some (.cells C 26 (0, 0)) ∧ w'.heap[w.heap.size + 1]? = some (.cells D 26 (0, 0))) (by kernel_rfl) (⟨HKX.out _ HB4.out, HKY.out _ HB4.out⟩) (fun hHeld => ?_)
  refine wpAnyH_take (i := 0) (oi := { dst := some 30, op := Op.move (Operand.tmp 5), type := 29, pos := "law.go:39", after := #[], guard := none }) (v := ?_) rfl (by kernel_rfl) (by kernel_rfl) (by kernel_rfl) (fun _ _ _ h => h) (Or.inl ⟨by rfl, ?_⟩) (by assumption) ?_
  rotate_left
  · (intro w hSw; (try dsimp only at hSw); go_simp <;> with_reducible rfl)
  try simp only [Act.put, List.setIfInBounds_toArray, List.set_cons_zero, List.set_cons_succ]
  refine wpAnyH_take (i := 2) (oi := { dst := some 32, op := Op.move (Operand.tmp 7), type := 9, pos := "law.go:39", after := #[], guard := none }) (v := ?_) rfl (by kernel_rfl) (by kernel_rfl) (by kernel_rfl) (fun _ _ _ h => h) (Or.inl ⟨by rfl, ?_⟩) (by assumption) ?_
  rotate_left
  · (intro w hSw; (try dsimp only at hSw); go_simp <;> with_reducible rfl)
  try simp only [Act.put, List.setIfInBounds_toArray, List.set_cons_zero, List.set_cons_succ]
  refine wpAnyH_ready (rs := [1]) (by kernel_rfl) (by simp) ?_
  refine AllReadyH.cons (o := { dst := some 31, op := Op.convert 29 9 (Operand.tmp 30), type := 9, pos := "law.go:39", after := #[{ on := 0, ground := Ground.data }], guard := none }) rfl (fun K hK => ?_) AllReadyH.nil
  go_simp
  refine hK _ _ (⟨HKX.out _ HB4.out, HKY.out _ HB4.out⟩) (fun hHeld => ?_)
  clear hK K
  try simp only [Act.put, List.setIfInBounds_toArray, List.set_cons_zero, List.set_cons_succ]
  refine wpAnyH_take (i := 3) (oi := { dst := some 33, op := Op.binOp BinOp.neq 9 (Operand.tmp 31) (Operand.tmp 32) 9, type := 4, pos := "law.go:39", after := #[{ on := 1, ground := Ground.data }, { on := 2, ground := Ground.data }], guard := none }) (v := ?_) rfl (by kernel_rfl) (by kernel_rfl) (by kernel_rfl) (fun _ _ _ h => h) (Or.inl ⟨by rfl, ?_⟩) (by assumption) ?_
  rotate_left
  · (intro w hSw; (try dsimp only at hSw); go_simp <;> with_reducible rfl)
  try simp only [Act.put, List.setIfInBounds_toArray, List.set_cons_zero, List.set_cons_succ]
  refine wpAnyH_take (i := 4) (oi := { dst := some 34, op := Op.move (Operand.tmp 33), type := 4, pos := "law.go:39", after := #[{ on := 3, ground := Ground.data }], guard := none }) (v := ?_) rfl (by kernel_rfl) (by kernel_rfl) (by kernel_rfl) (fun _ _ _ h => h) (Or.inl ⟨by rfl, ?_⟩) (by assumption) ?_
  rotate_left
  · (intro w hSw; (try dsimp only at hSw); go_simp <;> with_reducible rfl)
  try simp only [Act.put, List.setIfInBounds_toArray, List.set_cons_zero, List.set_cons_succ]
  refine wpAnyH_take (i := 5) (oi := { dst := some 35, op := Op.move (Operand.tmp 6), type := 30, pos := "law.go:39", after := #[{ on := 4, ground := Ground.guard }], guard := some (4, false) }) (v := ?_) rfl (by kernel_rfl) (by kernel_rfl) (by kernel_rfl) (fun _ _ _ h => h) (Or.inl ⟨by rfl, ?_⟩) (by assumption) ?_
  rotate_left
  · (intro w hSw; (try dsimp only at hSw); go_simp <;> with_reducible rfl)
  try simp only [Act.put, List.setIfInBounds_toArray, List.set_cons_zero, List.set_cons_succ]
  refine wpAnyH_take (i := 6) (oi := { dst := some 36, op := Op.move (Operand.tmp 8), type := 30, pos := "law.go:39", after := #[{ on := 4, ground := Ground.guard }], guard := some (4, false) }) (v := ?_) rfl (by kernel_rfl) (by kernel_rfl) (by kernel_rfl) (fun _ _ _ h => h) (Or.inl ⟨by rfl, ?_⟩) (by assumption) ?_
  rotate_left
  · (intro w hSw; (try dsimp only at hSw); go_simp <;> with_reducible rfl)
  try simp only [Act.put, List.setIfInBounds_toArray, List.set_cons_zero, List.set_cons_succ]
  refine wpAnyH_take (i := 7) (oi := { dst := some 37, op := Op.binOp BinOp.neq 30 (Operand.tmp 35) (Operand.tmp 36) 30, type := 4, pos := "law.go:39", after := #[{ on := 5, ground := Ground.data }, { on := 6, ground := Ground.data }, { on := 4, ground := Ground.guard }], guard := some (4, false) }) (v := ?_) rfl (by kernel_rfl) (by kernel_rfl) (by kernel_rfl) (fun _ _ _ h => h) (Or.inl ⟨by rfl, ?_⟩) (by assumption) ?_
  rotate_left
  · (intro w hSw; (try dsimp only at hSw); go_simp <;> with_reducible rfl)
  try simp only [Act.put, List.setIfInBounds_toArray, List.set_cons_zero, List.set_cons_succ]
  refine wpAnyH_take (i := 8) (oi := { dst := some 38, op := Op.pick (Operand.tmp 34) (Operand.const (Value.bool true)) (Operand.tmp 37), type := 4, pos := "law.go:39", after := #[{ on := 4, ground := Ground.data }, { on := 7, ground := Ground.data }], guard := none }) (v := ?_) rfl (by kernel_rfl) (by kernel_rfl) (by kernel_rfl) (fun _ _ _ h => h) (Or.inl ⟨by rfl, ?_⟩) (by assumption) ?_
  rotate_left
  · (intro w hSw; (try dsimp only at hSw); go_simp <;> with_reducible rfl)
  try simp only [Act.put, List.setIfInBounds_toArray, List.set_cons_zero, List.set_cons_succ]
  refine wpAnyH_take (i := 9) (oi := { dst := some 39, op := Op.move (Operand.tmp 38), type := 4, pos := "law.go:39", after := #[{ on := 8, ground := Ground.data }, { on := 4, ground := Ground.chain }], guard := none }) (v := ?_) rfl (by kernel_rfl) (by kernel_rfl) (by kernel_rfl) (fun _ _ _ h => h) (Or.inl ⟨by rfl, ?_⟩) (by assumption) ?_
  rotate_left
  · (intro w hSw; (try dsimp only at hSw); go_simp <;> with_reducible rfl)
  try simp only [Act.put, List.setIfInBounds_toArray, List.set_cons_zero, List.set_cons_succ]
  refine wpAnyH_take (i := 10) (oi := { dst := some 40, op := Op.load 26 (Operand.tmp 2), type := 26, pos := "law.go:39", after := #[{ on := 9, ground := Ground.guard }], guard := some (9, false) }) (v := .agg C) rfl (by kernel_rfl) (by kernel_rfl) (by kernel_rfl) (fun _ _ _ h => h) (Or.inl ⟨by rfl, fun w' hSw => take_load rfl w.heap.size rfl 26 C (0, 0) w' hSw.1 _ Try.underlying26 HI0.out⟩) (by assumption) ?_
  try simp only [Act.put, List.setIfInBounds_toArray, List.set_cons_zero, List.set_cons_succ]
  refine wpAnyH_take (i := 11) (oi := { dst := some 41, op := Op.load 26 (Operand.tmp 3), type := 26, pos := "law.go:39", after := #[{ on := 9, ground := Ground.guard }], guard := some (9, false) }) (v := .agg D) rfl (by kernel_rfl) (by kernel_rfl) (by kernel_rfl) (fun _ _ _ h => h) (Or.inl ⟨by rfl, fun w' hSw => take_load rfl (w.heap.size + 1) rfl 26 D (0, 0) w' hSw.2 _ Try.underlying26 HI1.out⟩) (by assumption) ?_
  try simp only [Act.put, List.setIfInBounds_toArray, List.set_cons_zero, List.set_cons_succ]
  refine wpAnyH_take (i := 13) (oi := { dst := some 43, op := Op.load 26 (Operand.tmp 2), type := 26, pos := "law.go:39", after := #[{ on := 9, ground := Ground.guard }], guard := some (9, false) }) (v := .agg C) rfl (by kernel_rfl) (by kernel_rfl) (by kernel_rfl) (fun _ _ _ h => h) (Or.inl ⟨by rfl, fun w' hSw => take_load rfl w.heap.size rfl 26 C (0, 0) w' hSw.1 _ Try.underlying26 HI0.out⟩) (by assumption) ?_
  try simp only [Act.put, List.setIfInBounds_toArray, List.set_cons_zero, List.set_cons_succ]
  refine wpAnyH_take (i := 14) (oi := { dst := some 44, op := Op.load 26 (Operand.tmp 3), type := 26, pos := "law.go:39", after := #[{ on := 9, ground := Ground.guard }], guard := some (9, false) }) (v := .agg D) rfl (by kernel_rfl) (by kernel_rfl) (by kernel_rfl) (fun _ _ _ h => h) (Or.inl ⟨by rfl, fun w' hSw => take_load rfl (w.heap.size + 1) rfl 26 D (0, 0) w' hSw.2 _ Try.underlying26 HI1.out⟩) (by assumption) ?_
  try simp only [Act.put, List.setIfInBounds_toArray, List.set_cons_zero, List.set_cons_succ]
  refine wpAnyH_ready (rs := [12]) (by kernel_rfl) (by simp) ?_
  refine AllReadyH.cons (o := { dst := some 42, op := Op.call { callee := Callee.value (Operand.func 10), args := #[Operand.tmp 40, Operand.tmp 41], argTypes := #[26, 26] }, type := 4, pos := "law.go:39", after := #[{ on := 10, ground := Ground.data }, { on := 11, ground := Ground.data }, { on := 9, ground := Ground.chain }, { on := 9, ground := Ground.guard }], guard := some (9, false) }) rfl (fun K hK => ?_) AllReadyH.nil
  go_simp
  go_at_call 10
  refine (HAL.out _ HB4.out).mono ?_
  rintro e w5 ⟨rfl, hb5⟩
  have HB5 := Lib.hid (HB4.out.trans (hb5.mono HB4.out.size))
  have HR5 := Lib.hid (HR4.out.drew.later hb5)
  clear hb5
  refine hK _ _ (⟨HKX.out _ HB5.out, HKY.out _ HB5.out⟩) (fun hHeld => ?_)
  clear hK K
  try simp only [Act.put, List.setIfInBounds_toArray, List.set_cons_zero, List.set_cons_succ]
  refine wpAnyH_ready (rs := [15]) (by kernel_rfl) (by simp) ?_
  refine AllReadyH.cons (o := { dst := some 45, op := Op.call { callee := Callee.value (Operand.func 11), args := #[Operand.tmp 43, Operand.tmp 44], argTypes := #[26, 26] }, type := 4, pos := "law.go:39", after := #[{ on := 13, ground := Ground.data }, { on := 14, ground := Ground.data }, { on := 12, ground := Ground.chain }, { on := 9, ground := Ground.guard }], guard := some (9, false) }) rfl (fun K hK => ?_) AllReadyH.nil
  go_simp
  go_at_call 11
  refine (HRA.out _ HB5.out).mono ?_
  rintro e w6 ⟨rfl, hb6⟩
  have HB6 := Lib.hid (HB5.out.trans (hb6.mono HB5.out.size))
  have HR6 := Lib.hid (HR5.out.later hb6)
  clear hb6
  refine hK _ _ (⟨HKX.out _ HB6.out, HKY.out _ HB6.out⟩) (fun hHeld => ?_)
  clear hK K
  try simp only [Act.put, List.setIfInBounds_toArray, List.set_cons_zero, List.set_cons_succ]
  refine wpAnyH_take (i := 16) (oi := { dst := some 46, op := Op.binOp BinOp.neq 4 (Operand.tmp 42) (Operand.tmp 45) 4, type := 4, pos := "law.go:39", after := #[{ on := 12, ground := Ground.data }, { on := 15, ground := Ground.data }, { on := 9, ground := Ground.guard }], guard := some (9, false) }) (v := ?_) rfl (by kernel_rfl) (by kernel_rfl) (by kernel_rfl) (fun _ _ _ h => h) (Or.inl ⟨by rfl, ?_⟩) (by assumption) ?_
  rotate_left
  · (intro w hSw; (try dsimp only at hSw); go_simp <;> with_reducible rfl)
  try simp only [Act.put, List.setIfInBounds_toArray, List.set_cons_zero, List.set_cons_succ]
  refine wpAnyH_take (i := 17) (oi := { dst := some 47, op := Op.pick (Operand.tmp 39) (Operand.const (Value.bool true)) (Operand.tmp 46), type := 4, pos := "law.go:39", after := #[{ on := 9, ground := Ground.data }, { on := 16, ground := Ground.data }], guard := none }) (v := ?_) rfl (by kernel_rfl) (by kernel_rfl) (by kernel_rfl) (fun _ _ _ h => h) (Or.inl ⟨by rfl, ?_⟩) (by assumption) ?_
  rotate_left
  · (intro w hSw; (try dsimp only at hSw); go_simp <;> with_reducible rfl)
  try simp only [Act.put, List.setIfInBounds_toArray, List.set_cons_zero, List.set_cons_succ]
  refine wpAnyH_done (by kernel_rfl) ?_ _
  have HGT := Lib.hid (fget_ok a3 m3 c3 (frameB f) w6 HR6.out f 0 (get_frame f HG.out HFIT.out))
  clear hHeld
  go_wp2_with fail
  refine HGT.out.mono ?_
  rintro e w7 ⟨a7, n7, c7, E, hE, rfl, ht7, hb7⟩
  have HB7 := Lib.hid (HB6.out.trans (hb7.mono HB6.out.size))
  obtain ⟨hn7, hn8, hb8⟩ := new_row w7 E
  obtain ⟨q1, q2, q3⟩ := frc_facts f a7 n7 c7
  rw [← hE] at q1 q2 q3
  have Q1 := Lib.hid q1
  have Q2 := Lib.hid q2
  have Q3 := Lib.hid q3
  have HB8 := Lib.hid (HB7.out.trans (hb8.mono HB7.out.size))
  have hx8 := HKX.out _ HB8.out
  have hfe : frV f (.slice a7 n7 c7) = .agg E := by rw [hE]; rfl
  have hal := ralike_any f f a7 a n7 n c7 c _ (ht7.later hb8) (HTF.out.later HB8.out)
  rw [hfe, HFV.out, decide_eq_true rfl] at hal
  have HAF := Lib.hid hal
  clear hE ht7 hb7 hb8 q1 q2 q3 hfe hal
  go_wp2_with (first
    | (with_reducible refine wpList_store_row (o := ⟨none, _, _, _, _, _⟩) rfl 26 (.tmp 9) (.tmp 54) rfl w7.heap.size E rfl rfl 26 frZ hn7 Q1.out Q2.out Q3.out ?_)
    | (with_reducible refine wpList_load_row (o := ⟨some 56, _, _, _, _, _⟩) rfl 26 (.tmp 9) rfl w7.heap.size rfl 26 E (0, 0) _ hn8 Try.underlying26 rfl Q1.out ?_)
    | (with_reducible refine wpList_load_row (o := ⟨some 57, _, _, _, _, _⟩) rfl 26 (.tmp 2) rfl w.heap.size rfl 26 C (0, 0) _ hx8 Try.underlying26 rfl HI0.out ?_))
  refine HAF.out.mono ?_
  rintro e w9 ⟨rfl, hb9⟩
  have HB9 := Lib.hid (HB8.out.trans (hb9.mono HB8.out.size))
  clear hb9
  go_wp2_with fail
  refine (known21_any _).mono ?_
  rintro e wk ⟨rfl, hbk⟩
  go_wp2
  go_ret
  exact ⟨rfl, HB0.out.trans ((HB9.out.trans (hbk.mono HB9.out.size)).mono HB0.out.size)⟩

theorem puts_any (f g : FR) (a b : Option Addr) (n m c d : Nat) (w : World) (hT : Tx w a n c f.list) (hT2 : Tx w b m d g.list) (hv : f.vol < 4294967296) (hfit : f.fit)
    (hd : f.data.length ≤ maxLen) (hd2 : g.data.length ≤ maxLen) (hl : ∀ s ∈ f.list, s.length ≤ maxLen) (hl2 : ∀ s ∈ g.list, s.length ≤ maxLen) :
    Calls Try.prog 3 #[frV f (.slice a n c), frV g (.slice b m d)] w fun e w' => e = .returned (.bool true) ∧ Below w.heap.size w w' := by
  cases h1 : shortP f with
  | false => exact puts_long f g a b n m c d w hT hT2 hv hfit hd hd2 hl hl2 h1
  | true =>
    cases h2 : shortP g with
    | false => exact puts_long2 f g a b n m c d w hT hT2 hv hfit hd hd2 hl hl2 h1 h2
    | true =>
      by_cases hg : good f
      · exact puts_good f g a b n m c d w hT hT2 hv hfit hd hd2 hl hl2 h1 h2 hg
      · exact puts_bad f g a b n m c d w hT hT2 hv hfit hd hd2 hl hl2 h1 h2 hg
end Go.Proofs.Ytipegdfjpmlcbaa


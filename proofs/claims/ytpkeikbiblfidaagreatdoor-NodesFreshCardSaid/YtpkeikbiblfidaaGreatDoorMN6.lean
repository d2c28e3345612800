/-
  Texts put together: N6, N7.
-/
import Derived.Test.YtpkeikbiblfidaaGreatDoorMN4
import Derived.Test.YtpkeikbiblfidaaGreatDoorMHH
import Derived.Test.YtpkeikbiblfidaaGreatDoorMG4
/-
  The fixed calls of layer 20.
-/
namespace Go.Proofs.YtpkeikbiblfidaaGreatDoor
open Go.RowKit
set_option linter.unusedVariables false
set_option linter.unusedSimpArgs false

theorem k20a : findP 2 2 0 1 (ds0 13) [] = ([0, 1, 2], 0) ∧ sizeOf' 2 2 0 1 1 = 13 := by decide +kernel
theorem k20b : (mendP 2 2 0 1 (ds0 13)).1 = (3, 0) := by decide +kernel
theorem k20c : findP 2 2 0 1 (mendP 2 2 0 1 (ds0 13)).2 [] = ([], 0) := by decide +kernel
theorem k20d : findP 2 2 0 1 ((mendP 2 2 0 1 (ds0 13)).2.write 6 (secOf 1)).2 [] = ([0], 0) := by decide +kernel
theorem k20e : (kindsP ((mendP 2 2 0 1 (ds0 13)).2.write 6 (secOf 1)).2).2 = 0 ∧ (kindsP ((mendP 2 2 0 1 (ds0 13)).2.write 6 (secOf 1)).2).1.length = 13 ∧ (kindsP ((mendP 2 2 0 1 (ds0 13)).2.write 6 (secOf 1)).2).1[8]?.getD 0 = 6 := by decide +kernel
theorem mendP_all {D : DS} {M : Nat} (h : D.ok M) (hz : D.sz) (N F C U : Int) : (mendP N F C U D).2.ok (M + 256) ∧ (mendP N F C U D).2.sz ∧ (mendP N F C U D).2.L.length = D.L.length := by
  have hs : D.ok (M + 256) ∧ D.sz ∧ D.L.length = D.L.length := ⟨h.mono (by omega), hz, rfl⟩
  unfold mendP
  split
  · exact hs
  · split
    · exact rehP_all h hz N F C U _
    · exact rehP_all h hz N F C U _
end Go.Proofs.YtpkeikbiblfidaaGreatDoor
/-
  known of layer 20.
-/
namespace Go.Proofs.YtpkeikbiblfidaaGreatDoor
open Go.RowKit
set_option linter.unusedVariables false
set_option linter.unusedSimpArgs false

set_option maxRecDepth 20000 in
set_option maxHeartbeats 8000000 in
theorem known20_any (w : World) (hK : Dg.Kon w) :
    Calls Tryz.prog 27 #[] w fun e w' => e = .returned (.bool true) ∧ Below w.heap.size w w' := by
  obtain ⟨W, hW⟩ : ∃ W, W = w.alloc (.cells #[.int .i64 2, .int .i64 2, .int .i64 0, .int .i64 1] 23) := ⟨_, rfl⟩
  have hb0 : Below w.heap.size w W := by rw [hW]; exact (Below.refl _ w).alloc (Nat.le_refl _) _
  have hs0 : W.heap.size = w.heap.size + 1 := by rw [hW]; exact World.size_alloc _ _
  have hg0 : W.heap[w.heap.size]? = some (.cells #[.int .i64 2, .int .i64 2, .int .i64 0, .int .i64 1] 23 (0, 0)) := by rw [hW]; exact heap_alloc_new w _
  have hsz := fun w => rsize_any 2 2 0 1 1 w
  rw [k20a.2] at hsz
  have hn := fun w => dnew_any 13 w (by omega) (by omega)
  rw [show ((13 : Nat) : Int) = 13 from rfl] at hn
  obtain ⟨c0, c1, c2, c3⟩ := geo_kept hg0 (w' := W) rfl
  have hok1 := (mendP_all (ds0_ok 13 (by omega)) (ds0_sz 13) 2 2 0 1)
  have hok2 := hok1.1.write 6 (secOf 1)
  have hsz2 := hok1.2.1.write 6 (secOf 1)
  have hm : ∀ B p v1 v2 w, PD w B p v1 v2 (ds0 13) → B ≤ w.heap.size → Dg.Kon w → _ := fun B p v1 v2 w h hB hK => mend_any B p v1 v2 (ds0 13) 2 2 0 1 w h hB hK 0 (ds0_ok 13 (by omega)) (by omega) (ds0_sz 13)
  rw [k20b] at hm
  have hf0 : ∀ B p v1 v2 w, PD w B p v1 v2 (ds0 13) → Dg.Kon w → _ := fun B p v1 v2 w h hK => Find_any B p v1 v2 (ds0 13) 2 2 0 1 none 0 0 [] w h hK 0 (ds0_ok 13 (by omega)) (by omega) (ds0_sz 13) (ri_nil w) (by omega)
  rw [k20a.1] at hf0
  have hf1 : ∀ B p v1 v2 w, PD w B p v1 v2 (mendP 2 2 0 1 (ds0 13)).2 → Dg.Kon w → _ := fun B p v1 v2 w h hK => Find_any B p v1 v2 (mendP 2 2 0 1 (ds0 13)).2 2 2 0 1 none 0 0 [] w h hK _ hok1.1 (by omega) hok1.2.1 (ri_nil w) (by omega)
  rw [k20c] at hf1
  have hf2 : ∀ B p v1 v2 w, PD w B p v1 v2 ((mendP 2 2 0 1 (ds0 13)).2.write 6 (secOf 1)).2 → Dg.Kon w → _ := fun B p v1 v2 w h hK => Find_any B p v1 v2 ((mendP 2 2 0 1 (ds0 13)).2.write 6 (secOf 1)).2 2 2 0 1 none 0 0 [] w h hK _ hok2 (by omega) hsz2 (ri_nil w) (by omega)
  rw [k20d] at hf2
  have hki : ∀ B p v1 v2 w, PD w B p v1 v2 ((mendP 2 2 0 1 (ds0 13)).2.write 6 (secOf 1)).2 → _ := fun B p v1 v2 w h => kinds_any B p v1 v2 ((mendP 2 2 0 1 (ds0 13)).2.write 6 (secOf 1)).2 w h _ hok2 (by omega)
  have hk5 := k20e
  obtain ⟨ks, hks⟩ : ∃ x, x = kindsP ((mendP 2 2 0 1 (ds0 13)).2.write 6 (secOf 1)).2 := ⟨_, rfl⟩
  rw [← hks] at hk5
  simp only [← hks] at hki
  have hwr := fun B p v1 v2 w h hB => write_any B p v1 v2 (mendP 2 2 0 1 (ds0 13)).2 6 (secOf 1) w h hB _ hok1.1 (by omega)
  obtain ⟨D2, hD2⟩ : ∃ x, x = ((mendP 2 2 0 1 (ds0 13)).2.write 6 (secOf 1)).2 := ⟨_, rfl⟩
  obtain ⟨e2, he2⟩ : ∃ x, x = ((mendP 2 2 0 1 (ds0 13)).2.write 6 (secOf 1)).1 := ⟨_, rfl⟩
  simp only [← hD2, ← he2] at hki hf2 hwr
  obtain ⟨D1, hD1⟩ : ∃ x, x = (mendP 2 2 0 1 (ds0 13)).2 := ⟨_, rfl⟩
  simp only [← hD1] at hm hf1 hwr
  clear hok1 hok2 hsz2 hks hD2 he2 hD1
  have hfl := fun w => rfill_any 1 1 rfl w
  obtain ⟨sec1, hsec⟩ : ∃ x, x = secOf 1 := ⟨_, rfl⟩
  simp only [← hsec] at hfl hwr
  unfold geo at hsz hm hf0 hf1 hf2
  have HM := Lib.hid hm
  have HF0 := Lib.hid hf0
  have HF1 := Lib.hid hf1
  have HF2 := Lib.hid hf2
  have HKI := Lib.hid hki
  have HK5 := Lib.hid hk5
  have HWR := Lib.hid hwr
  have HFL := Lib.hid hfl
  have HSZ := Lib.hid hsz
  have HB0 := Lib.hid hb0
  have HS0 := Lib.hid hs0
  have HG0 := Lib.hid hg0
  have HN := Lib.hid hn
  have HW := Lib.hid hW
  have HK := Lib.hid hK
  clear hsz hb0 hs0 hg0 hn hW hK hm hf0 hf1 hf2 hki hk5 hwr hfl hsec
  go_enter Tryz.func27, Tryz.ntmps27
  go_upto_region 2 with fail
  rw [← HW.out]
  go_wp2_with fail
  refine (HSZ.out _).mono ?_
  rintro e w1 ⟨rfl, hb1⟩
  have HB1 := Lib.hid hb1
  clear hb1 c0 c1 c2 c3 HSZ
  go_wp2_with fail
  refine (HN.out _).mono ?_
  rintro e w2 ⟨p, v1, rfl, hp2, hb2⟩
  have hB2 := HB1.out.trans (hb2.mono HB1.out.size)
  have hBw := HB0.out.trans (hB2.mono HB0.out.size)
  have hg2 := (hB2.block w.heap.size (by have := HS0.out; omega)).trans HG0.out
  obtain ⟨c0, c1, c2, c3⟩ := geo_kept hg2 (w' := w2) rfl
  have HP2 := Lib.hid hp2
  have HBW := Lib.hid hBw
  have HG2 := Lib.hid hg2
  have HLO := Lib.hid (show w.heap.size < w1.heap.size by have := HS0.out; have := HB1.out.size; omega)
  have HBS := Lib.hid hb2.size
  clear hp2 hb2 hB2 hBw hg2 HN HB1
  go_wp2_with fail
  refine (HF0.out _ p v1 _ _ HP2.out (HK.out.below HBW.out)).mono ?_
  rintro e w3 ⟨⟨va, rfl, hva⟩, hb3⟩
  have hl := li_owns hva (by simp)
  obtain ⟨aa, la, ca, rfl, hra⟩ := hl
  obtain rfl := hra.len.symm
  have HP3 := Lib.hid (HP2.out.below hb3)
  have HB3 := Lib.hid (HBW.out.trans (hb3.mono HBW.out.size))
  have HG3 := Lib.hid ((hb3.block w.heap.size (lt_of_block HG2.out)).trans HG2.out)
  have HS3 := Lib.hid (Nat.le_trans HBS.out hb3.size)
  obtain ⟨c0, c1, c2, c3⟩ := geo_kept HG3.out (w' := w3) rfl
  clear hva hb3 hra HF0 HBW HG2
  go_wp2_with fail
  refine (HM.out _ p v1 _ _ HP3.out HS3.out (HK.out.below HB3.out)).mono ?_
  rintro e w4 ⟨rfl, hpp⟩
  obtain ⟨x1, x2, hp4, hf4, _⟩ := hpp
  have hlo := HP3.out.foot_low
  have HG4 := Lib.hid ((hf4.block w.heap.size (lt_of_block HG3.out) (fun hx => by have := (hlo _ hx).1; have := HLO.out; omega)).trans HG3.out)
  obtain ⟨c0, c1, c2, c3⟩ := geo_kept HG4.out (w' := w4) rfl
  have HB4 := Lib.hid (HB3.out.trans (hf4.below (fun k hk => by have := (hlo _ hk).1; have := HLO.out; omega) HB3.out.size))
  have HS4 := Lib.hid (Nat.le_trans HS3.out hf4.size)
  have HP4 := Lib.hid hp4
  clear hp4 hf4 hlo HM HB3 HG3
  go_wp2_with fail
  refine (HF1.out _ p x1 x2 _ HP4.out (HK.out.below HB4.out)).mono ?_
  rintro e w5 ⟨⟨vb, rfl, hvb⟩, hb5⟩
  obtain ⟨ab, lb, cb, rfl, hrb⟩ := li_owns hvb (by simp)
  obtain rfl := hrb.len.symm
  have HP5 := Lib.hid (HP4.out.below hb5)
  have HB5 := Lib.hid (HB4.out.trans (hb5.mono HB4.out.size))
  have HG5 := Lib.hid ((hb5.block w.heap.size (lt_of_block HG4.out)).trans HG4.out)
  have HS5 := Lib.hid (Nat.le_trans HS4.out hb5.size)
  clear hvb hb5 hrb HF1 HB4 HG4 c0 c1 c2 c3
  go_wp2_with fail
  refine (HFL.out _).mono ?_
  rintro e w6 ⟨rfl, hb6⟩
  have HP6 := Lib.hid (HP5.out.below hb6)
  have HB6 := Lib.hid (HB5.out.trans (hb6.mono HB5.out.size))
  have HG6 := Lib.hid ((hb6.block w.heap.size (lt_of_block HG5.out)).trans HG5.out)
  have HS6 := Lib.hid (Nat.le_trans HS5.out hb6.size)
  clear hb6 HFL HB5 HG5
  go_wp2_with fail
  refine (HWR.out _ p x1 x2 _ HP6.out HS6.out).mono ?_
  rintro e w7 ⟨rfl, hpp⟩
  obtain ⟨y1, y2, hp7, hf7, _⟩ := hpp
  have hlo := HP6.out.foot_low
  have HG7 := Lib.hid ((hf7.block w.heap.size (lt_of_block HG6.out) (fun hx => by have := (hlo _ hx).1; have := HLO.out; omega)).trans HG6.out)
  obtain ⟨c0, c1, c2, c3⟩ := geo_kept HG7.out (w' := w7) rfl
  have HB7 := Lib.hid (HB6.out.trans (hf7.below (fun k hk => by have := (hlo _ hk).1; have := HLO.out; omega) HB6.out.size))
  have HP7 := Lib.hid hp7
  clear hp7 hf7 hlo HWR HB6 HG6
  go_wp2_with fail
  refine (HF2.out _ p y1 y2 _ HP7.out (HK.out.below HB7.out)).mono ?_
  rintro e w8 ⟨⟨vc, rfl, hvc⟩, hb8⟩
  have HL8 := Lib.hid (li_owns hvc (by simp))
  have HP8 := Lib.hid (HP7.out.below hb8)
  have HB8 := Lib.hid (HB7.out.trans (hb8.mono HB7.out.size))
  clear hvc hb8 HF2 HB7 HG7 c0 c1 c2 c3
  go_wp2_with fail
  refine (HKI.out _ p y1 y2 _ HP8.out).mono ?_
  rintro e w9 ⟨⟨vk, rfl, hvk⟩, hb9⟩
  obtain ⟨k0, k1, k2⟩ := HK5.out
  rw [k0]
  obtain ⟨ak, lk, ck, rfl, hrk⟩ := li_owns hvk (by omega)
  obtain rfl : lk = 13 := by have := hrk.len; omega
  obtain ⟨bk, off, rfl, hbl, hcl⟩ := hrk.at0 (by omega)
  have hc8 := hcl 8 (by omega)
  rw [k2] at hc8
  have hck : (13 : Int) ≤ (ck : Int) := by have := hrk.le; omega
  have hcm : (ck : Int) ≤ 9223372036854775807 := by have := hrk.cm; unfold maxLen at this; omega
  have HB9 := Lib.hid (HB8.out.trans (hb9.mono HB8.out.size))
  have hL9 := (HL8.out.later hb9).later ((Below.refl w9.heap.size w9).alloc (Nat.le_refl _) (.cells #[.int .i64 0] 3))
  have hB10 : Below w.heap.size w (w9.alloc (.cells #[.int .i64 0] 3)) := HB9.out.alloc HB9.out.size _
  have hi := ints_any vc (.slice (some ⟨w9.heap.size, 0, none⟩) 1 1) [0] [0] (w9.alloc (.cells #[.int .i64 0] 3)) hL9 (li_new w9 [0] (by simp))
  rw [decide_eq_true rfl] at hi
  have HI := Lib.hid hi
  have HB10 := Lib.hid hB10
  have HC8 := Lib.hid (fun w' (hb : Below w9.heap.size w9 w') => (hb.cell (by exact hbl)).trans hc8)
  clear hi hB10 hL9 hvk hb9 HKI HL8 HP8 HK5 hcl hrk hc8
  go_wp2_with fail
  refine HI.out.mono ?_
  rintro e w11 ⟨rfl, hd⟩
  have hB11 := HB10.out.trans (hd.below.mono HB10.out.size)
  have c8 := HC8.out w11 (((Below.refl w9.heap.size w9).alloc (Nat.le_refl _) _).trans (hd.below.mono (by rw [World.size_alloc]; omega)))
  clear hd
  go_wp2
  go_ret
  exact ⟨rfl, hB11⟩
end Go.Proofs.YtpkeikbiblfidaaGreatDoor

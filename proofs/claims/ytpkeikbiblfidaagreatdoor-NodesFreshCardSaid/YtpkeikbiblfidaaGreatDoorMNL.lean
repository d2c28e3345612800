/-
  Texts put together: NL.
-/
import Derived.Test.YtpkeikbiblfidaaGreatDoorMNI
import Derived.Test.YtpkeikbiblfidaaGreatDoorMN6
/-
  twin of layer 20.
-/
namespace Go.Proofs.YtpkeikbiblfidaaGreatDoor
open Go.RowKit
set_option linter.unusedVariables false
set_option linter.unusedSimpArgs false

set_option maxRecDepth 20000 in
set_option maxHeartbeats 8000000 in
theorem twin_any (s : ByteArray) (hs : s.size = 64) (w : World) (hK : Dg.Kon w) :
    Calls Tryz.prog 38 #[.string s] w fun e w' => e = .returned (.bool (!decide (s = secOf 0) && decide (leafB (secOf 0) = leafB s))) ∧ Below w.heap.size w w' := by
  obtain ⟨W, hW⟩ : ∃ W, W = w.alloc (.cells #[.int .i64 1, .int .i64 2, .int .i64 0, .int .i64 1] 23) := ⟨_, rfl⟩
  have hb0 : Below w.heap.size w W := by rw [hW]; exact (Below.refl _ w).alloc (Nat.le_refl _) _
  have hs0 : W.heap.size = w.heap.size + 1 := by rw [hW]; exact World.size_alloc _ _
  have hg0 : W.heap[w.heap.size]? = some (.cells #[.int .i64 1, .int .i64 2, .int .i64 0, .int .i64 1] 23 (0, 0)) := by rw [hW]; exact heap_alloc_new w _
  have hsz := fun w => rsize_any 1 2 0 1 1 w
  rw [tw_nodes.2.2] at hsz
  have hn := fun w => dnew_any 10 w (by omega) (by omega)
  rw [show ((10 : Nat) : Int) = 10 from rfl] at hn
  obtain ⟨c0, c1, c2, c3⟩ := geo_kept hg0 (w' := W) rfl
  have hok1 := rehP_all (ds0_ok 10 (by omega)) (ds0_sz 10) 1 2 0 1 (everyL 1)
  change (fullP 1 2 0 1 (ds0 10)).2.ok (0 + 256) ∧ (fullP 1 2 0 1 (ds0 10)).2.sz ∧ (fullP 1 2 0 1 (ds0 10)).2.L.length = (ds0 10).L.length at hok1
  have hok2 := hok1.1.write 6 s
  have hsz2 := hok1.2.1.write 6 s
  have hf1 : ∀ B p v1 v2 w, PD w B p v1 v2 (ds0 10) → B ≤ w.heap.size → Dg.Kon w → _ := fun B p v1 v2 w h hB hK => nfull_any B p v1 v2 (ds0 10) 1 2 0 1 w h hB hK 0 (ds0_ok 10 (by omega)) (by omega) (ds0_sz 10)
  rw [k13a.1, k13b, hstrV_data] at hf1
  have hwr := fun B p v1 v2 w h hB => write_any B p v1 v2 (fullP 1 2 0 1 (ds0 10)).2 6 s w h hB _ hok1.1 (by omega)
  have hf2 : ∀ B p v1 v2 w, PD w B p v1 v2 ((fullP 1 2 0 1 (ds0 10)).2.write 6 s).2 → B ≤ w.heap.size → Dg.Kon w → _ := fun B p v1 v2 w h hB hK => nfull_any B p v1 v2 ((fullP 1 2 0 1 (ds0 10)).2.write 6 s).2 1 2 0 1 w h hB hK _ hok2 (by omega) hsz2
  rw [tw_full s hs, hstrV_data] at hf2
  obtain ⟨D3, hD3⟩ : ∃ x, x = (fullP 1 2 0 1 ((fullP 1 2 0 1 (ds0 10)).2.write 6 s).2).2 := ⟨_, rfl⟩
  simp only [← hD3] at hf2
  obtain ⟨D2, hD2⟩ : ∃ x, x = ((fullP 1 2 0 1 (ds0 10)).2.write 6 s).2 := ⟨_, rfl⟩
  obtain ⟨e2, he2⟩ : ∃ x, x = ((fullP 1 2 0 1 (ds0 10)).2.write 6 s).1 := ⟨_, rfl⟩
  simp only [← hD2, ← he2] at hf2 hwr
  obtain ⟨D1, hD1⟩ : ∃ x, x = (fullP 1 2 0 1 (ds0 10)).2 := ⟨_, rfl⟩
  simp only [← hD1] at hf1 hwr
  have hze := fun w => rzero_any w
  obtain ⟨V1, hV1⟩ : ∃ V, V = Value.string s := ⟨_, rfl⟩
  obtain ⟨V2, hV2⟩ : ∃ V, V = Value.string (secOf 0) := ⟨_, rfl⟩
  obtain ⟨V3, hV3⟩ : ∃ V, V = Value.string (leafB (secOf 0)) := ⟨_, rfl⟩
  obtain ⟨V4, hV4⟩ : ∃ V, V = Value.string (leafB s) := ⟨_, rfl⟩
  have hgd1 := fun x y w => guard_txt .neq x y s (secOf 0) w
  have hnq := fun w => neq_txt s (secOf 0) w
  have hgd2 := fun x y w => guard_txt .eql x y (leafB (secOf 0)) (leafB s) w
  have heq := fun w => eql_txt (leafB (secOf 0)) (leafB s) w
  obtain ⟨b1, hb1v⟩ : ∃ b, b = decide (s = secOf 0) := ⟨_, rfl⟩
  obtain ⟨b2, hb2v⟩ : ∃ b, b = decide (leafB (secOf 0) = leafB s) := ⟨_, rfl⟩
  simp only [← hV1, ← hV2, ← hV3, ← hV4, ← hb1v, ← hb2v] at hgd1 hnq hgd2 heq hze hf1 hf2 hwr ⊢
  unfold geo at hsz hf1 hf2
  have HF1 := Lib.hid hf1
  have HF2 := Lib.hid hf2
  have HWR := Lib.hid hwr
  have HZE := Lib.hid hze
  have HSZ := Lib.hid hsz
  have HB0 := Lib.hid hb0
  have HS0 := Lib.hid hs0
  have HG0 := Lib.hid hg0
  have HN := Lib.hid hn
  have HW := Lib.hid hW
  have HK := Lib.hid hK
  clear hsz hb0 hs0 hg0 hn hW hK hf1 hf2 hwr hze hok1 hok2 hsz2 hD1 hD2 hD3 he2 hV1 hV2 hV3 hV4 hb1v hb2v hs
  go_enter Tryz.func38, Tryz.ntmps38
  go_upto_region 2 with fail
  rw [← HW.out]
  go_wp2_with fail
  refine (HSZ.out _).mono ?_
  rintro e w1 ⟨rfl, hb1⟩
  have HB1 := Lib.hid hb1
  clear hb1 c0 c1 c2 c3 HSZ
  go_wp2_with fail
  refine (HN.out _).mono ?_
  rintro e w2 ⟨p, v1, rfl, hp2, hb2⟩
  have hB2 := HB1.out.trans (hb2.mono HB1.out.size)
  have hBw := HB0.out.trans (hB2.mono HB0.out.size)
  have hg2 := (hB2.block w.heap.size (by have := HS0.out; omega)).trans HG0.out
  obtain ⟨c0, c1, c2, c3⟩ := geo_kept hg2 (w' := w2) rfl
  have HP2 := Lib.hid hp2
  have HBW := Lib.hid hBw
  have HG2 := Lib.hid hg2
  have HLO := Lib.hid (show w.heap.size < w1.heap.size by have := HS0.out; have := HB1.out.size; omega)
  have HBS := Lib.hid hb2.size
  clear hp2 hb2 hB2 hBw hg2 HN HB1
  go_wp2_with fail
  refine (HF1.out _ p v1 _ _ HP2.out HBS.out (HK.out.below HBW.out)).mono ?_
  rintro e w3 ⟨rfl, hpp⟩
  obtain ⟨x1, x2, hp4, hf4, _⟩ := hpp
  have hlo := HP2.out.foot_low
  have HG4 := Lib.hid ((hf4.block w.heap.size (lt_of_block HG2.out) (fun hx => by have := (hlo _ hx).1; have := HLO.out; omega)).trans HG2.out)
  have HB4 := Lib.hid (HBW.out.trans (hf4.below (fun k hk => by have := (hlo _ hk).1; have := HLO.out; omega) HBW.out.size))
  have HS4 := Lib.hid (Nat.le_trans HBS.out hf4.size)
  have HP4 := Lib.hid hp4
  clear hp4 hf4 hlo HF1 c0 c1 c2 c3
  go_wp2_with fail
  refine (HWR.out _ p x1 x2 _ HP4.out HS4.out).mono ?_
  rintro e w4 ⟨rfl, hpp⟩
  obtain ⟨y1, y2, hp5, hf5, _⟩ := hpp
  have hlo := HP4.out.foot_low
  have HG5 := Lib.hid ((hf5.block w.heap.size (lt_of_block HG4.out) (fun hx => by have := (hlo _ hx).1; have := HLO.out; omega)).trans HG4.out)
  obtain ⟨c0, c1, c2, c3⟩ := geo_kept HG5.out (w' := w4) rfl
  have HB5 := Lib.hid (HB4.out.trans (hf5.below (fun k hk => by have := (hlo _ hk).1; have := HLO.out; omega) HB4.out.size))
  have HS5 := Lib.hid (Nat.le_trans HS4.out hf5.size)
  have HP5 := Lib.hid hp5
  clear hp5 hf5 hlo HWR
  go_wp2_with fail
  refine (HF2.out _ p y1 y2 _ HP5.out HS5.out (HK.out.below HB5.out)).mono ?_
  rintro e w5 ⟨rfl, hpp⟩
  obtain ⟨z1, z2, hp6, hf6, _⟩ := hpp
  have hlo := HP5.out.foot_low
  have HB6 := Lib.hid (HB5.out.trans (hf6.below (fun k hk => by have := (hlo _ hk).1; have := HLO.out; omega) HB5.out.size))
  clear hp6 hf6 hlo HF2 c0 c1 c2 c3
  go_wp2_with fail
  refine (HZE.out _).mono ?_
  rintro e w6 ⟨rfl, hb6⟩
  have HB7 := Lib.hid (HB6.out.trans (hb6.mono HB6.out.size))
  clear hb6
  cases b1 with
  | true =>
    go_wp2
    go_ret
    exact ⟨rfl, HB7.out⟩
  | false =>
    go_wp2
    go_ret
    exact ⟨rfl, HB7.out⟩
end Go.Proofs.YtpkeikbiblfidaaGreatDoor

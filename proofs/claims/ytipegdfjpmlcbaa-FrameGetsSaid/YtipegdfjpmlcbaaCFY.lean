/-
  The walk of FrameGets.
-/
import Derived.Test.YtipegdfjpmlcbaaCFX
namespace Go.Proofs.Ytipegdfjpmlcbaa
open Go.RowKit
set_option linter.unusedVariables false
set_option linter.unusedSimpArgs false

theorem getP_none {xs : List UInt8} {x : FR} {k : Int} (h : getP xs = (x, k)) (hk : k ≠ 0) : x = fr0 := by
  unfold getP at h
  split at h
  · exact (Prod.mk.inj h).1.symm
  split at h
  · exact (Prod.mk.inj h).1.symm
  split at h
  · exact (Prod.mk.inj h).1.symm
  split at h
  · exact (Prod.mk.inj h).1.symm
  split at h
  · exact absurd (Prod.mk.inj h).2.symm hk
  · exact (Prod.mk.inj h).1.symm
theorem good_bounds {x : FR} (h : good x) : x.vol < 4294967296 ∧ x.data.length ≤ 64 ∧ x.list.flatten.length ≤ 128 := by
  rcases h with ⟨hk, h1, h2, h3, h4, h5, h6, h7, h8, h9⟩ | ⟨hk, h1, h2, h3, h4, h5, h6, h7, h8⟩ | ⟨hk, h1, h2, h3, h4, h5, h6, h7, h8⟩ | ⟨hk, h1, h2, h3, h4, h5, h6, h7, h8, h9⟩ | ⟨hk, h1, h2, h3, h4, h5, h6, h7, h8⟩ | ⟨hk, h1, h2, h3, h4, h5, h6, h7⟩
  · rw [h9, h6]; exact ⟨h1, by omega, by simp⟩
  · rw [h3, h7, h8]; exact ⟨by omega, by simp, by simp⟩
  · rw [h3, h7, h8]; exact ⟨by omega, by simp, by simp⟩
  · rw [h5, h9]; exact ⟨by omega, by simp, by have := flat_length h4; omega⟩
  · rw [h4, h8, h3]; exact ⟨by omega, by omega, by simp⟩
  · rw [h1, h6, h7]; exact ⟨by omega, by simp, by simp⟩
theorem rfget_ok (xs : List UInt8) (sz : ByteArray) (hsz : strV xs = .string sz) (hmax : xs.length ≤ 1000) (w : World) (x : FR) (k : Int) (h : getP xs = (x, k)) :
    Calls Try.prog 13 #[.string sz] w fun e w' => ∃ a' m' c' D, D = frC x (.slice a' m' c') ∧ e = .returned (.tuple #[.agg D, .int .i64 k]) ∧ Tx w' a' m' c' x.list ∧ Below w.heap.size w w' :=
  (rfget_any xs sz hsz hmax w).mono fun e w' hh => by
    obtain ⟨fr, a, m, c, D, k', hD, he, hg, ht, hb⟩ := hh
    rw [h] at hg
    obtain ⟨rfl, rfl⟩ := Prod.mk.inj hg
    exact ⟨a, m, c, D, hD, he, ht, hb⟩

set_option maxRecDepth 20000 in
set_option maxHeartbeats 1000000 in
theorem gets_long (a : Option Addr) (n c : Nat) (w : World) (h : (1000 : Int) < n) :
    Calls Try.prog 4 #[.slice a n c] w fun e w' => e = .returned (.bool true) ∧ Below w.heap.size w w' := by
  go_enter Try.func4, Try.ntmps4
  go_wp2_with fail
  refine (known21_any _).mono ?_
  rintro e wk ⟨rfl, hbk⟩
  go_wp2
  go_ret
  exact ⟨rfl, hbk⟩

set_option maxRecDepth 20000 in
set_option maxHeartbeats 1000000 in
theorem gets_ok (a : Option Addr) (n c : Nat) (xs : List UInt8) (w : World) (hrd : Rd w a n c xs) (h : ¬ (1000 : Int) < n) (x : FR) (hp : getP xs = (x, 0)) :
    Calls Try.prog 4 #[.slice a n c] w fun e w' => e = .returned (.bool true) ∧ Below w.heap.size w w' := by
  have hlen := hrd.len
  obtain ⟨sz, hsz⟩ := str_of xs
  have HGT := Lib.hid (fget_ok a n c xs w hrd x 0 hp)
  have HRG := Lib.hid (fun w' => rfget_ok xs sz hsz (by omega) w' x 0 hp)
  have HRD := Lib.hid hrd
  have HSZ := Lib.hid hsz
  obtain ⟨hgd, hfb, hfit⟩ := get_back xs x hp
  obtain ⟨hvo, hdl, hll⟩ := good_bounds hgd
  have hpt := fun w' b m d (ht : Tx w' b m d x.list) => fput_any x b m d w' ht hvo hfit.sess hfit.ep hfit.seq (by omega) (fun k => by have := flat_take x.list k; omega)
  simp only [show putP x = (xs, 0) from by unfold putP; rw [if_pos hgd, hfb]] at hpt
  have HPT := Lib.hid hpt
  clear hgd hfb hfit hvo hdl hll hpt hp hrd hsz hlen
  go_enter Try.func4, Try.ntmps4
  go_wp2_with fail
  refine HGT.out.mono ?_
  rintro e w1 ⟨a1, n1, c1, D, hD, rfl, ht1, hb1⟩
  obtain ⟨hn2, hn3, hb2⟩ := new_row w1 D
  obtain ⟨q1, q2, q3⟩ := frc_facts x a1 n1 c1
  rw [← hD] at q1 q2 q3
  have Q1 := Lib.hid q1
  have Q2 := Lib.hid q2
  have Q3 := Lib.hid q3
  have HB1 := Lib.hid hb1
  have HB2 := Lib.hid (hb1.trans (hb2.mono hb1.size))
  have HT1 := Lib.hid (ht1.later hb2)
  have HFD := Lib.hid (show frV x (.slice a1 n1 c1) = .agg D from by rw [hD]; rfl)
  obtain ⟨W2, hW2⟩ : ∃ y, y = (w1.alloc (.cells frZ 26)).setRow w1.heap.size D := ⟨_, rfl⟩
  have HN3 := Lib.hid (show W2.heap[w1.heap.size]? = some (.cells D 26 (0, 0)) by rw [hW2]; exact hn3)
  rw [← hW2] at HB2 HT1
  have HR2 := Lib.hid (HRD.out.later HB2.out)
  have hcv : (convert 29 9 (.slice a n c)).run Try.prog ((w1.alloc (.cells frZ 26)).setRow w1.heap.size D) = .ok (.string sz) ((w1.alloc (.cells frZ 26)).setRow w1.heap.size D) := by
    rw [← hW2]
    have h1 := rd_string HR2.out
    rw [h1]
    have h2 := HSZ.out
    unfold strV at h2
    rw [h2]
  have HW2 := Lib.hid hW2
  clear hD ht1 hb1 hb2 hn3 q1 q2 q3 hW2
  go_wp2_with (with_reducible refine wpList_store_row (o := ⟨none, _, _, _, _, _⟩) rfl 26 (.tmp 3) (.tmp 16) rfl w1.heap.size D rfl rfl 26 frZ hn2 Q1.out Q2.out Q3.out ?_)
  rw [← HW2.out]
  refine (HRG.out W2).mono ?_
  rintro e w3 ⟨a3, n3, c3, E, hE, rfl, ht3, hb3⟩
  obtain ⟨hn4, hn5, hb4⟩ := new_row w3 E
  obtain ⟨q1, q2, q3⟩ := frc_facts x a3 n3 c3
  rw [← hE] at q1 q2 q3
  have P1 := Lib.hid q1
  have P2 := Lib.hid q2
  have P3 := Lib.hid q3
  have hb34 := hb3.trans (hb4.mono hb3.size)
  have HB4 := Lib.hid (HB2.out.trans (hb34.mono HB2.out.size))
  have HN4 := Lib.hid ((hb34.block _ (lt_of_block HN3.out)).trans HN3.out)
  have hn6 := HN4.out
  have hal := ralike_any x x a1 a3 n1 n3 c1 c3 _ (HT1.out.later hb34) (ht3.later hb4)
  rw [HFD.out, show frV x (.slice a3 n3 c3) = .agg E from by rw [hE]; rfl, decide_eq_true rfl] at hal
  have HAL := Lib.hid hal
  have HT4 := Lib.hid (HT1.out.later hb34)
  clear hE ht3 hb3 hb4 hb34 q1 q2 q3 hal hcv hn2
  go_wp2_with (first
    | (with_reducible refine wpList_store_row (o := ⟨none, _, _, _, _, _⟩) rfl 26 (.tmp 5) (.tmp 22) rfl w3.heap.size E rfl rfl 26 frZ hn4 P1.out P2.out P3.out ?_)
    | (with_reducible refine wpList_load_row (o := ⟨some 24, _, _, _, _, _⟩) rfl 26 (.tmp 3) rfl w1.heap.size rfl 26 D (0, 0) _ hn6 Try.underlying26 rfl Q1.out ?_)
    | (with_reducible refine wpList_load_row (o := ⟨some 25, _, _, _, _, _⟩) rfl 26 (.tmp 5) rfl w3.heap.size rfl 26 E (0, 0) _ hn5 Try.underlying26 rfl P1.out ?_))
  refine HAL.out.mono ?_
  rintro e w5 ⟨rfl, hb5⟩
  have HB5 := Lib.hid (HB4.out.trans (hb5.mono HB4.out.size))
  have hn7 := (hb5.block _ (lt_of_block HN4.out)).trans HN4.out
  have hpt := HPT.out w5 a1 n1 c1 (HT4.out.later hb5)
  rw [HFD.out] at hpt
  have HP5 := Lib.hid hpt
  clear hb5 hn5 hn6 hn4 hpt
  go_wp2_with (with_reducible refine wpList_load_row (o := ⟨some 34, _, _, _, _, _⟩) rfl 26 (.tmp 3) rfl w1.heap.size rfl 26 D (0, 0) _ hn7 Try.underlying26 rfl Q1.out ?_)
  refine HP5.out.mono ?_
  rintro e w6 ⟨a6, n6, c6, rfl, hrd6, hb6⟩
  have HB6 := Lib.hid (HB5.out.trans (hb6.mono HB5.out.size))
  have HR6 := Lib.hid (HRD.out.later HB6.out)
  have hs9 : (Value.string ⟨xs.toArray⟩) = .string sz := HSZ.out
  have cv1 : (convert 29 9 (.slice a6 n6 c6)).run Try.prog w6 = .ok (.string sz) w6 := by rw [← hs9]; exact rd_string hrd6
  have cv2 : (convert 29 9 (.slice a n c)).run Try.prog w6 = .ok (.string sz) w6 := by rw [← hs9]; exact rd_string HR6.out
  clear hs9
  clear hrd6 hb6
  go_wp2_with fail
  refine (known21_any _).mono ?_
  rintro e wk ⟨rfl, hbk⟩
  go_wp2
  go_ret
  exact ⟨rfl, HB6.out.trans (hbk.mono HB6.out.size)⟩

set_option maxRecDepth 20000 in
set_option maxHeartbeats 1000000 in
theorem gets_no (a : Option Addr) (n c : Nat) (xs : List UInt8) (w : World) (hrd : Rd w a n c xs) (h : ¬ (1000 : Int) < n) (x : FR) (k : Int) (hp : getP xs = (x, k)) (hk : k ≠ 0) :
    Calls Try.prog 4 #[.slice a n c] w fun e w' => e = .returned (.bool true) ∧ Below w.heap.size w w' := by
  have hlen := hrd.len
  obtain ⟨sz, hsz⟩ := str_of xs
  have HGT := Lib.hid (fget_ok a n c xs w hrd x k hp)
  have HRG := Lib.hid (fun w' => rfget_ok xs sz hsz (by omega) w' x k hp)
  have HRD := Lib.hid hrd
  have HSZ := Lib.hid hsz
  obtain rfl := getP_none hp hk
  have hpt := fun w' b m d (ht : Tx w' b m d fr0.list) => fput_any fr0 b m d w' ht (by decide) (by decide) (by decide) (by decide) (by decide) (fun k => by simp [fr0])
  obtain ⟨pl, pk, hpp⟩ : ∃ l k, putP fr0 = (l, k) := ⟨_, _, rfl⟩
  simp only [hpp] at hpt
  have HPT := Lib.hid hpt
  have x1 : (k == (0 : Int)) = false := by simp [hk]
  have x2 : (k != (0 : Int)) = true := by rw [bne, x1]; rfl
  clear hpt hp hrd hsz hlen hpp hk
  go_enter Try.func4, Try.ntmps4
  go_wp2_with fail
  refine HGT.out.mono ?_
  rintro e w1 ⟨a1, n1, c1, D, hD, rfl, ht1, hb1⟩
  obtain ⟨hn2, hn3, hb2⟩ := new_row w1 D
  obtain ⟨q1, q2, q3⟩ := frc_facts fr0 a1 n1 c1
  rw [← hD] at q1 q2 q3
  have Q1 := Lib.hid q1
  have Q2 := Lib.hid q2
  have Q3 := Lib.hid q3
  have HB1 := Lib.hid hb1
  have HB2 := Lib.hid (hb1.trans (hb2.mono hb1.size))
  have HT1 := Lib.hid (ht1.later hb2)
  have HFD := Lib.hid (show frV fr0 (.slice a1 n1 c1) = .agg D from by rw [hD]; rfl)
  obtain ⟨W2, hW2⟩ : ∃ y, y = (w1.alloc (.cells frZ 26)).setRow w1.heap.size D := ⟨_, rfl⟩
  have HN3 := Lib.hid (show W2.heap[w1.heap.size]? = some (.cells D 26 (0, 0)) by rw [hW2]; exact hn3)
  rw [← hW2] at HB2 HT1
  have HR2 := Lib.hid (HRD.out.later HB2.out)
  have hcv : (convert 29 9 (.slice a n c)).run Try.prog ((w1.alloc (.cells frZ 26)).setRow w1.heap.size D) = .ok (.string sz) ((w1.alloc (.cells frZ 26)).setRow w1.heap.size D) := by
    rw [← hW2]
    have h1 := rd_string HR2.out
    rw [h1]
    have h2 := HSZ.out
    unfold strV at h2
    rw [h2]
  have HW2 := Lib.hid hW2
  clear hD ht1 hb1 hb2 hn3 q1 q2 q3 hW2
  go_wp2_with (with_reducible refine wpList_store_row (o := ⟨none, _, _, _, _, _⟩) rfl 26 (.tmp 3) (.tmp 16) rfl w1.heap.size D rfl rfl 26 frZ hn2 Q1.out Q2.out Q3.out ?_)
  rw [← HW2.out]
  refine (HRG.out W2).mono ?_
  rintro e w3 ⟨a3, n3, c3, E, hE, rfl, ht3, hb3⟩
  obtain ⟨hn4, hn5, hb4⟩ := new_row w3 E
  obtain ⟨q1, q2, q3⟩ := frc_facts fr0 a3 n3 c3
  rw [← hE] at q1 q2 q3
  have P1 := Lib.hid q1
  have P2 := Lib.hid q2
  have P3 := Lib.hid q3
  have hb34 := hb3.trans (hb4.mono hb3.size)
  have HB4 := Lib.hid (HB2.out.trans (hb34.mono HB2.out.size))
  have HN4 := Lib.hid ((hb34.block _ (lt_of_block HN3.out)).trans HN3.out)
  have hn6 := HN4.out
  have hal := ralike_any fr0 fr0 a1 a3 n1 n3 c1 c3 _ (HT1.out.later hb34) (ht3.later hb4)
  rw [HFD.out, show frV fr0 (.slice a3 n3 c3) = .agg E from by rw [hE]; rfl, decide_eq_true rfl] at hal
  have HAL := Lib.hid hal
  have HT4 := Lib.hid (HT1.out.later hb34)
  clear hE ht3 hb3 hb4 hb34 q1 q2 q3 hal hcv hn2
  go_wp2_with (first
    | (with_reducible refine wpList_store_row (o := ⟨none, _, _, _, _, _⟩) rfl 26 (.tmp 5) (.tmp 22) rfl w3.heap.size E rfl rfl 26 frZ hn4 P1.out P2.out P3.out ?_)
    | (with_reducible refine wpList_load_row (o := ⟨some 24, _, _, _, _, _⟩) rfl 26 (.tmp 3) rfl w1.heap.size rfl 26 D (0, 0) _ hn6 Try.underlying26 rfl Q1.out ?_)
    | (with_reducible refine wpList_load_row (o := ⟨some 25, _, _, _, _, _⟩) rfl 26 (.tmp 5) rfl w3.heap.size rfl 26 E (0, 0) _ hn5 Try.underlying26 rfl P1.out ?_))
  refine HAL.out.mono ?_
  rintro e w5 ⟨rfl, hb5⟩
  have HB5 := Lib.hid (HB4.out.trans (hb5.mono HB4.out.size))
  have hn7 := (hb5.block _ (lt_of_block HN4.out)).trans HN4.out
  have hpt := HPT.out w5 a1 n1 c1 (HT4.out.later hb5)
  rw [HFD.out] at hpt
  have HP5 := Lib.hid hpt
  clear hb5 hn5 hn6 hn4 hpt
  go_wp2_with (with_reducible refine wpList_load_row (o := ⟨some 34, _, _, _, _, _⟩) rfl 26 (.tmp 3) rfl w1.heap.size rfl 26 D (0, 0) _ hn7 Try.underlying26 rfl Q1.out ?_)
  refine HP5.out.mono ?_
  rintro e w6 ⟨a6, n6, c6, rfl, hrd6, hb6⟩
  have HB6 := Lib.hid (HB5.out.trans (hb6.mono HB5.out.size))
  clear hrd6 hb6
  go_wp2_with fail
  refine (known21_any _).mono ?_
  rintro e wk ⟨rfl, hbk⟩
  go_wp2
  go_ret
  exact ⟨rfl, HB6.out.trans (hbk.mono HB6.out.size)⟩

theorem gets_any (a : Option Addr) (n c : Nat) (xs : List UInt8) (w : World) (hrd : Rd w a n c xs) :
    Calls Try.prog 4 #[.slice a n c] w fun e w' => e = .returned (.bool true) ∧ Below w.heap.size w w' := by
  by_cases h : (1000 : Int) < n
  · exact gets_long a n c w h
  obtain ⟨x, k, hp⟩ : ∃ x k, getP xs = (x, k) := ⟨_, _, rfl⟩
  by_cases hk : k = 0
  · subst hk
    exact gets_ok a n c xs w hrd h x hp
  · exact gets_no a n c xs w hrd h x k hp hk
end Go.Proofs.Ytipegdfjpmlcbaa


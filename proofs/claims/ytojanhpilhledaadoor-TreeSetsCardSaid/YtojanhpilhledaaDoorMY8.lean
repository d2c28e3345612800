/-
  Texts put together: Y8.
-/
import Derived.Test.YtojanhpilhledaaDoorMY7
import Derived.Test.YtojanhpilhledaaDoorMY5
/-
  The walk of TreeSets.
-/
namespace Go.Proofs.YtojanhpilhledaaDoor
open Go.RowKit
set_option linter.unusedVariables false
set_option linter.unusedSimpArgs false

/-- What holds between the sectors in memory and the program's tree. -/
structure S2 (w w2 w3 : World) (p : Nat) (v sv : Value) (n : Nat) (F C U : Int) (Sk Lk : List ByteArray) (wr : World) : Prop where
  t : PT wr w2.heap.size p v n F C U Lk
  tl : ∀ k, tfoot p v k → w3.heap.size ≤ k
  s : wr.ownsRow w2.heap.size 9 1 sv n (strs Sk)
  sl : ∀ k, sv.ownBlock = some k → k < w3.heap.size
  b : Below w.heap.size w wr
  b2 : Below w2.heap.size w2 wr
  of : TOf n F C U Sk Lk
  sz : ∀ i, i < Sk.length → (lAt Sk i).size = 64
theorem S2.setT {w w2 w3 : World} {p : Nat} {v sv : Value} {n : Nat} {F C U : Int} {Sk Lk L' : List ByteArray} {wr w' : World} (h : S2 w w2 w3 p v sv n F C U Sk Lk wr) (hw : w.heap.size ≤ w2.heap.size)
    (hT : PT w' w2.heap.size p v n F C U L') (hF : Fr (tfoot p v) wr w') : PT w' w2.heap.size p v n F C U L' ∧ w'.ownsRow w2.heap.size 9 1 sv n (strs Sk) ∧ Below w.heap.size w w' ∧ Below w2.heap.size w2 w' :=
  ⟨hT, owns_kept h.s fun j hj => hF.block j (h.s.lt j hj).2 (fun hk => by have := h.tl j hk; have := h.sl j hj; omega),
   h.b.trans (hF.below (fun k hk => by have := (h.t.foot_low k hk).1; omega) h.b.size), h.b2.trans (hF.below (fun k hk => (h.t.foot_low k hk).1) h.b2.size)⟩

set_option maxRecDepth 20000 in
set_option maxHeartbeats 2000000 in
theorem tsets_far (N F C U : Int) (a : Option Addr) (l cap : Nat) (xs : List UInt8) (a2 : Option Addr) (l2 cap2 : Nat) (X : Nat → Int × ByteArray) (w : World) (hP : Rd w a l cap xs) (hQ : Ps w a2 l2 cap2 X) (hK : Kon w) (hx : 30 < N) :
    Calls Tryd.prog 5 #[geo N F C U, .slice a l cap, .slice a2 l2 cap2] w fun e w' => e = .returned (.bool true) ∧ Below w.heap.size w w' := by
  have hb0 := (Below.refl w.heap.size w).alloc (Nat.le_refl _) (gbox N F C U)
  have hsm := fun w => small_any N F C U w
  have hrt := fun w => grright_any N F C U w
  have hkn := fun w' (hb : Below w.heap.size w w') => tknown_any w' (hK.below hb)
  have hgc : ∀ wr, Below (w.alloc (gbox N F C U)).heap.size (w.alloc (gbox N F C U)) wr → wr.cell? ⟨w.heap.size, 0, none⟩ = some (.int .i64 N) ∧ wr.cell? ⟨w.heap.size, 1, none⟩ = some (.int .i64 F) ∧ wr.cell? ⟨w.heap.size, 2, none⟩ = some (.int .i64 C) ∧ wr.cell? ⟨w.heap.size, 3, none⟩ = some (.int .i64 U) := fun wr h => gbox_cells (by simpa using h)
  have hcx2 : (cap2 : Int) ≤ 9223372036854775807 := by have := hQ.cm; unfold maxLen at this; omega
  have hd : decide (N ≤ 30) = false := decide_eq_false (by omega)
  simp only [hd] at hsm
  unfold geo at *
  obtain ⟨w1, hw1⟩ : ∃ w1, w1 = w.alloc (gbox N F C U) := ⟨_, rfl⟩
  rw [← hw1] at hb0
  simp only [← hw1] at hgc
  have HSM := Lib.hid hsm
  have HRT := Lib.hid hrt
  have HKN := Lib.hid hkn
  have HGC := Lib.hid hgc
  have HB0 := Lib.hid hb0
  have HW0 := Lib.hid hw1
  have HP := Lib.hid hP
  have HQ := Lib.hid hQ
  have HK := Lib.hid hK
  clear hsm hkn hgc hb0 hK hd hw1 hP hQ hrt
  unfold gbox at HW0
  go_enter Tryd.func5, Tryd.ntmps5
  go_wp2_with fail
  rw [← HW0.out]
  obtain ⟨g0, g1, g2, g3⟩ := HGC.out _ (Below.refl _ _)
  go_wp2_with fail
  refine (HSM.out _).mono ?_
  rintro e w2 ⟨rfl, hb⟩
  have HB2 := Lib.hid (HB0.out.trans (hb.mono HB0.out.size))
  have HC2 := Lib.hid hb
  clear hb HSM HB0 g0 g1 g2 g3
  go_wp2_with fail
  refine (HKN.out _ HB2.out).mono ?_
  rintro e w9 ⟨rfl, hb⟩
  have HBB := Lib.hid (HB2.out.trans (hb.mono HB2.out.size))
  clear hb
  go_wp2
  go_ret
  exact ⟨rfl, HBB.out⟩

set_option maxRecDepth 20000 in
set_option maxHeartbeats 2000000 in
theorem tsets_bad (N F C U : Int) (a : Option Addr) (l cap : Nat) (xs : List UInt8) (a2 : Option Addr) (l2 cap2 : Nat) (X : Nat → Int × ByteArray) (w : World) (hP : Rd w a l cap xs) (hQ : Ps w a2 l2 cap2 X) (hK : Kon w) (hN : N ≤ 30) (hx : ¬ okG N F C U) :
    Calls Tryd.prog 5 #[geo N F C U, .slice a l cap, .slice a2 l2 cap2] w fun e w' => e = .returned (.bool true) ∧ Below w.heap.size w w' := by
  have hb0 := (Below.refl w.heap.size w).alloc (Nat.le_refl _) (gbox N F C U)
  have hsm := fun w => small_any N F C U w
  have hrt := fun w => grright_any N F C U w
  have hkn := fun w' (hb : Below w.heap.size w w') => tknown_any w' (hK.below hb)
  have hgc : ∀ wr, Below (w.alloc (gbox N F C U)).heap.size (w.alloc (gbox N F C U)) wr → wr.cell? ⟨w.heap.size, 0, none⟩ = some (.int .i64 N) ∧ wr.cell? ⟨w.heap.size, 1, none⟩ = some (.int .i64 F) ∧ wr.cell? ⟨w.heap.size, 2, none⟩ = some (.int .i64 C) ∧ wr.cell? ⟨w.heap.size, 3, none⟩ = some (.int .i64 U) := fun wr h => gbox_cells (by simpa using h)
  have hcx2 : (cap2 : Int) ≤ 9223372036854775807 := by have := hQ.cm; unfold maxLen at this; omega
  have hd : decide (N ≤ 30) = true := decide_eq_true hN
  simp only [show decide (okG N F C U) = false from decide_eq_false hx] at hrt
  simp only [hd] at hsm
  unfold geo at *
  obtain ⟨w1, hw1⟩ : ∃ w1, w1 = w.alloc (gbox N F C U) := ⟨_, rfl⟩
  rw [← hw1] at hb0
  simp only [← hw1] at hgc
  have HSM := Lib.hid hsm
  have HRT := Lib.hid hrt
  have HKN := Lib.hid hkn
  have HGC := Lib.hid hgc
  have HB0 := Lib.hid hb0
  have HW0 := Lib.hid hw1
  have HP := Lib.hid hP
  have HQ := Lib.hid hQ
  have HK := Lib.hid hK
  clear hsm hkn hgc hb0 hK hd hw1 hP hQ hrt
  unfold gbox at HW0
  go_enter Tryd.func5, Tryd.ntmps5
  go_wp2_with fail
  rw [← HW0.out]
  obtain ⟨g0, g1, g2, g3⟩ := HGC.out _ (Below.refl _ _)
  go_wp2_with fail
  refine (HSM.out _).mono ?_
  rintro e w2 ⟨rfl, hb⟩
  have HB2 := Lib.hid (HB0.out.trans (hb.mono HB0.out.size))
  have HC2 := Lib.hid hb
  clear hb HSM HB0 g0 g1 g2 g3
  obtain ⟨g0, g1, g2, g3⟩ := HGC.out _ HC2.out
  go_wp2_with fail
  refine (HRT.out _).mono ?_
  rintro e w3 ⟨rfl, hb⟩
  have HB3 := Lib.hid (HB2.out.trans (hb.mono HB2.out.size))
  have HC3 := Lib.hid (HC2.out.trans (hb.mono HC2.out.size))
  clear hb HRT g0 g1 g2 g3
  go_wp2_with fail
  refine (HKN.out _ HB3.out).mono ?_
  rintro e w9 ⟨rfl, hb⟩
  have HBB := Lib.hid (HB3.out.trans (hb.mono HB3.out.size))
  clear hb
  go_wp2
  go_ret
  exact ⟨rfl, HBB.out⟩

set_option maxRecDepth 20000 in
set_option maxHeartbeats 2000000 in
theorem tsets_many (N F C U : Int) (a : Option Addr) (l cap : Nat) (xs : List UInt8) (a2 : Option Addr) (l2 cap2 : Nat) (X : Nat → Int × ByteArray) (w : World) (hP : Rd w a l cap xs) (hQ : Ps w a2 l2 cap2 X) (hK : Kon w) (hN : N ≤ 30) (hok : okG N F C U) (hx : 30 < l2) :
    Calls Tryd.prog 5 #[geo N F C U, .slice a l cap, .slice a2 l2 cap2] w fun e w' => e = .returned (.bool true) ∧ Below w.heap.size w w' := by
  have hb0 := (Below.refl w.heap.size w).alloc (Nat.le_refl _) (gbox N F C U)
  have hsm := fun w => small_any N F C U w
  have hrt := fun w => grright_any N F C U w
  have hkn := fun w' (hb : Below w.heap.size w w') => tknown_any w' (hK.below hb)
  have hgc : ∀ wr, Below (w.alloc (gbox N F C U)).heap.size (w.alloc (gbox N F C U)) wr → wr.cell? ⟨w.heap.size, 0, none⟩ = some (.int .i64 N) ∧ wr.cell? ⟨w.heap.size, 1, none⟩ = some (.int .i64 F) ∧ wr.cell? ⟨w.heap.size, 2, none⟩ = some (.int .i64 C) ∧ wr.cell? ⟨w.heap.size, 3, none⟩ = some (.int .i64 U) := fun wr h => gbox_cells (by simpa using h)
  have hcx2 : (cap2 : Int) ≤ 9223372036854775807 := by have := hQ.cm; unfold maxLen at this; omega
  have hd : decide (N ≤ 30) = true := decide_eq_true hN
  simp only [show decide (okG N F C U) = true from decide_eq_true hok] at hrt
  have j2 : (30 : Int) < (l2 : Int) := by omega
  simp only [hd] at hsm
  unfold geo at *
  obtain ⟨w1, hw1⟩ : ∃ w1, w1 = w.alloc (gbox N F C U) := ⟨_, rfl⟩
  rw [← hw1] at hb0
  simp only [← hw1] at hgc
  have HSM := Lib.hid hsm
  have HRT := Lib.hid hrt
  have HKN := Lib.hid hkn
  have HGC := Lib.hid hgc
  have HB0 := Lib.hid hb0
  have HW0 := Lib.hid hw1
  have HP := Lib.hid hP
  have HQ := Lib.hid hQ
  have HK := Lib.hid hK
  clear hsm hkn hgc hb0 hK hd hw1 hP hQ hrt
  unfold gbox at HW0
  go_enter Tryd.func5, Tryd.ntmps5
  go_wp2_with fail
  rw [← HW0.out]
  obtain ⟨g0, g1, g2, g3⟩ := HGC.out _ (Below.refl _ _)
  go_wp2_with fail
  refine (HSM.out _).mono ?_
  rintro e w2 ⟨rfl, hb⟩
  have HB2 := Lib.hid (HB0.out.trans (hb.mono HB0.out.size))
  have HC2 := Lib.hid hb
  clear hb HSM HB0 g0 g1 g2 g3
  obtain ⟨g0, g1, g2, g3⟩ := HGC.out _ HC2.out
  go_wp2_with fail
  refine (HRT.out _).mono ?_
  rintro e w3 ⟨rfl, hb⟩
  have HB3 := Lib.hid (HB2.out.trans (hb.mono HB2.out.size))
  have HC3 := Lib.hid (HC2.out.trans (hb.mono HC2.out.size))
  clear hb HRT g0 g1 g2 g3
  go_wp2_with fail
  refine (HKN.out _ HB3.out).mono ?_
  rintro e w9 ⟨rfl, hb⟩
  have HBB := Lib.hid (HB3.out.trans (hb.mono HB3.out.size))
  clear hb
  go_wp2
  go_ret
  exact ⟨rfl, HBB.out⟩

set_option maxRecDepth 20000 in
set_option maxHeartbeats 2000000 in
theorem tsets_ok (n : Nat) (F C U : Int) (a : Option Addr) (l cap : Nat) (xs : List UInt8) (a2 : Option Addr) (l2 cap2 : Nat) (X : Nat → Int × ByteArray) (w : World) (hP : Rd w a l cap xs) (hQ : Ps w a2 l2 cap2 X) (hK : Kon w) (hN : (n : Int) ≤ 30) (hok : okG n F C U) (hx : l2 ≤ 30) :
    Calls Tryd.prog 5 #[geo n F C U, .slice a l cap, .slice a2 l2 cap2] w fun e w' => e = .returned (.bool true) ∧ Below w.heap.size w w' := by
  have hb0 := (Below.refl w.heap.size w).alloc (Nat.le_refl _) (gbox n F C U)
  have hsm := fun w => small_any n F C U w
  have hrt := fun w => grright_any n F C U w
  have hkn := fun w' (hb : Below w.heap.size w w') => tknown_any w' (hK.below hb)
  have hgc : ∀ wr, Below (w.alloc (gbox n F C U)).heap.size (w.alloc (gbox n F C U)) wr → wr.cell? ⟨w.heap.size, 0, none⟩ = some (.int .i64 (n : Int)) ∧ wr.cell? ⟨w.heap.size, 1, none⟩ = some (.int .i64 F) ∧ wr.cell? ⟨w.heap.size, 2, none⟩ = some (.int .i64 C) ∧ wr.cell? ⟨w.heap.size, 3, none⟩ = some (.int .i64 U) := fun wr h => gbox_cells (by simpa using h)
  have hcx2 : (cap2 : Int) ≤ 9223372036854775807 := by have := hQ.cm; unfold maxLen at this; omega
  have hd : decide ((n : Int) ≤ 30) = true := decide_eq_true hN
  simp only [show decide (okG n F C U) = true from decide_eq_true hok] at hrt
  have j2 : ¬ ((30 : Int) < (l2 : Int)) := by omega
  simp only [hd] at hsm
  have hnp := nodes_pos hok
  have hnl := nodes_le n F C U
  have hng := nodes_ge hok
  have hsz := fun w' (hb : Below w.heap.size w w') => sized_any n F C U a l cap xs w' (by omega) (hP.later hb)
  have hnw := fun (Sk : List ByteArray) (hs : Sk.length = n) (h6 : ∀ i, i < Sk.length → (lAt Sk i).size = 64) w' a' c' (hb : Below w.heap.size w w') (hrs : Rs w' a' n c' Sk) => pend_ok (tnew_any n F C U a' n c' Sk w' hrs (hK.below hb)) (by unfold newErr; rw [if_neg (fun h => h hok), if_neg (by omega), if_pos h6])
  unfold geo at *
  obtain ⟨w1, hw1⟩ : ∃ w1, w1 = w.alloc (gbox n F C U) := ⟨_, rfl⟩
  rw [← hw1] at hb0
  simp only [← hw1] at hgc
  have HSZ := Lib.hid hsz
  have HNW := Lib.hid hnw
  have HOK := Lib.hid hok
  have HNN := Lib.hid (And.intro hnp (And.intro hnl hng))
  clear hsz hnw hok hnp hnl hng
  have HSM := Lib.hid hsm
  have HRT := Lib.hid hrt
  have HKN := Lib.hid hkn
  have HGC := Lib.hid hgc
  have HB0 := Lib.hid hb0
  have HW0 := Lib.hid hw1
  have HP := Lib.hid hP
  have HQ := Lib.hid hQ
  have HK := Lib.hid hK
  clear hsm hkn hgc hb0 hK hd hw1 hP hQ hrt
  unfold gbox at HW0
  go_enter Tryd.func5, Tryd.ntmps5
  go_wp2_with fail
  rw [← HW0.out]
  obtain ⟨g0, g1, g2, g3⟩ := HGC.out _ (Below.refl _ _)
  go_wp2_with fail
  refine (HSM.out _).mono ?_
  rintro e w2 ⟨rfl, hb⟩
  have HB2 := Lib.hid (HB0.out.trans (hb.mono HB0.out.size))
  have HC2 := Lib.hid hb
  clear hb HSM HB0 g0 g1 g2 g3
  obtain ⟨g0, g1, g2, g3⟩ := HGC.out _ HC2.out
  go_wp2_with fail
  refine (HRT.out _).mono ?_
  rintro e w3 ⟨rfl, hb⟩
  have HB3 := Lib.hid (HB2.out.trans (hb.mono HB2.out.size))
  have HC3 := Lib.hid (HC2.out.trans (hb.mono HC2.out.size))
  clear hb HRT g0 g1 g2 g3
  obtain ⟨g0, g1, g2, g3⟩ := HGC.out _ HC3.out
  go_wp2_with fail
  refine (HSZ.out _ HB3.out).mono ?_
  rintro e w4 ⟨sv, rfl, how, hb⟩
  have HB4 := Lib.hid (HB3.out.trans (hb.mono HB3.out.size))
  have HC4 := Lib.hid (HC3.out.trans (hb.mono HC3.out.size))
  have HX4 := Lib.hid hb
  obtain ⟨av, cv, rfl, hrs, -⟩ := towns_shape how
  obtain ⟨_, _, e0, -, -, hg0⟩ := owns_shape1 how
  cases e0
  obtain ⟨g, rfl, hgb, hgl, hgs⟩ := hg0 (by have := HOK.out.1; omega)
  have HGL := Lib.hid hgl
  clear hg0 hgb hgl hgs
  have hcv : (cv : Int) ≤ 9223372036854775807 := by have := hrs.cm; unfold maxLen at this; omega
  have HOW := Lib.hid how
  have HRS := Lib.hid hrs
  clear hb how hrs g0 g1 g2 g3 HSZ
  obtain ⟨g0, g1, g2, g3⟩ := HGC.out _ HC4.out
  go_wp2_with fail
  refine (HNW.out _ (szL_length xs n) (szL_size xs n) _ _ _ HB4.out HRS.out).mono ?_
  rintro e w5 ⟨p, v, rfl, hT, hb⟩
  have hI : S2 w w3 w4 p v (.slice (some ⟨g, 0, none⟩) n cv) n F C U (szL xs n) (treeL n F C U (szL xs n)) w5 :=
    ⟨⟨hT.blk, Nat.le_trans HX4.out.size hT.low, towns_low hT.own HX4.out.size, hT.ne⟩, fun k hk => (hT.foot_low k hk).1, owns_kept HOW.out fun j hj => hb.block j (HOW.out.lt j hj).2, fun k hk => (HOW.out.lt k hk).2, HB4.out.trans (hb.mono HB4.out.size), HX4.out.trans (hb.mono HX4.out.size), tof_tree HOK.out (by rw [szL_length]), szL_size xs n⟩
  have HI := Lib.hid hI
  have HC5 := Lib.hid (HC4.out.trans (hb.mono HC4.out.size))
  have HK3 := Lib.hid (HK.out.below HB3.out)
  have HX5 := Lib.hid (show w1.heap.size ≤ w3.heap.size from HC3.out.size)
  have HS3 := Lib.hid HX4.out.size
  clear hb hI hT HOW HRS g0 g1 g2 g3 HC2 HC3 HC4
  go_wp2_with fail
  go_loopw [10] (fun i wr => ∃ (k : Nat) (Sk Lk : List ByteArray), k ≤ l2 ∧ i = .int .i64 k ∧ S2 w w3 w4 p v (.slice (some ⟨g, 0, none⟩) n cv) n F C U Sk Lk wr ∧ Below w1.heap.size w1 wr) (fun i _ => l2 - (intOf i).toNat)
  case atStart => exact ⟨0, _, _, by omega, rfl, HI.out, HC5.out⟩
  case round =>
    clear HI HC5
    obtain ⟨k, Sk, Lk, hk, rfl, hI, hC⟩ := hrel
    by_cases hlt : k < l2
    · have k0 : (0 : Int) ≤ (k : Int) := by omega
      have k1 : (k : Int) < (l2 : Int) := by omega
      obtain ⟨b, off, rfl, hbl, hcc⟩ := HQ.out.at0 (by omega)
      obtain ⟨hc1, hc2⟩ := hcc k hlt
      have hps : ∀ w', Below w.heap.size w w' → w'.cell? ⟨b, off + k * 2, none⟩ = some (.int .i64 (X k).1) ∧ w'.cell? ⟨b, off + k * 2 + 1, none⟩ = some (.string (X k).2) := fun w' hb => ⟨by rw [hb.cell (by exact hbl)]; exact hc1, by rw [hb.cell (by exact hbl)]; exact hc2⟩
      obtain ⟨q1, q2⟩ := hps wr hI.b
      have hst := tset_any w3 p v n F C U Lk (X k).1 (X k).2 wr hI.t hI.b2 HK3.out hI.of.len (by
        intro i hi
        rcases Nat.lt_or_ge i n with h | h
        · rw [hI.of.leaf i (by have := hI.of.sl; omega), leafB_size]; omega
        · rw [hI.of.node i (by have := hI.of.sl; omega) (by have := hI.of.len; omega), nodeB_size]; omega)
      by_cases her : setErr n F C U (X k).1 (X k).2 = 0
      · obtain ⟨h0, h1, hof⟩ := hI.of.set her
        obtain ⟨hpn, h64⟩ := setErr_ok her
        rw [her] at hst
        generalize setL n F C U Lk (X k).1 (X k).2 = Ln at *
        obtain ⟨x, hx⟩ : ∃ x : Nat, (X k).1 = x := ⟨(X k).1.toNat, by omega⟩
        rw [hx] at h0 h1 hof hst q1
        rw [Int.toNat_natCast] at hof
        generalize (X k).2 = sx at *
        have j1 : ¬ ((x : Int) < 0) := by omega
        have j3 : ¬ ((n : Int) ≤ (x : Int)) := by omega
        have hsl : Sk.length = n := by have := hI.of.sl; omega
        have hsz' : ∀ i, i < (Sk.set x sx).length → (lAt (Sk.set x sx) i).size = 64 := fun i hi => by
          rw [List.length_set] at hi
          rw [lAt_set (by omega)]
          split
          · exact h64
          · exact hI.sz i hi
        have HST := Lib.hid hst
        have HI := Lib.hid hI
        have HC := Lib.hid hC
        have HPS := Lib.hid hps
        have HOF := Lib.hid hof
        have HZ := Lib.hid hsz'
        have HSL := Lib.hid hsl
        have HW3 := Lib.hid HB3.out.size
        clear hst hI hC hps hof hsz' hsl hcc hc1 hc2 hbl her hpn h64 hx
        go_wp2_with fail
        refine HST.out.mono ?_
        rintro e w6 ⟨rfl, hT, hF⟩
        have hJ := HI.out.setT HW3.out hT hF
        have hCC := HC.out.trans (hF.below (fun k hk => Nat.le_trans HX5.out (HI.out.t.foot_low k hk).1) HC.out.size)
        obtain ⟨q1, q2⟩ := HPS.out w6 hJ.2.2.1
        have hfz := owns_free hJ.2.1 (g := g) rfl x
        have hce := owns_cell hJ.2.1 (g := g) rfl x _ (strs_at (by have := HSL.out; omega))
        have hgp : ∀ k, tfoot p v k → g ≠ k := fun k hk e => by have := HI.out.tl k hk; have := HI.out.sl g rfl; omega
        have hst2 := owns_set hJ.2.1 (g := g) (j := x) rfl (.string sx) (by rw [strs_length]; have := HSL.out; omega)
        rw [strs_set] at hst2
        have hnew : S2 w w3 w4 p v (.slice (some ⟨g, 0, none⟩) n cv) n F C U (Sk.set x sx) Ln (w6.setCell ⟨g, x, none⟩ (.string sx)) :=
          ⟨hJ.1.kept fun k hk => Below.heap_setCell _ _ _ _ (fun e => hgp k hk (show k = g by simpa using e).symm), HI.out.tl, hst2, HI.out.sl, hJ.2.2.1.setCell (p := ⟨g, x, none⟩) (Nat.le_trans HW3.out HGL.out) _, hJ.2.2.2.setCell (p := ⟨g, x, none⟩) HGL.out _, HOF.out, HZ.out⟩
        have hC2 := hCC.setCell (p := ⟨g, x, none⟩) (Nat.le_trans HX5.out HGL.out) (.string sx)
        have i0 : (0 : Int) ≤ (x : Int) := by omega
        have i1 : (x : Int) < (n : Int) := by omega
        have HN := Lib.hid hnew
        have HC2 := Lib.hid hC2
        clear hJ hCC hgp hst2 hnew hC2 hT hF HST
        go_wp2
        go_roundw
        case rel => exact ⟨k + 1, _, _, by omega, by go_num, HN.out, HC2.out⟩
        case measure => simp [intOf]; omega
      · have hse : setL n F C U Lk (X k).1 (X k).2 = Lk := by unfold setL; rw [if_pos her]
        rw [hse] at hst
        generalize setErr n F C U (X k).1 (X k).2 = er at *
        generalize (X k).1 = leaf at *
        generalize (X k).2 = sx at *
        have he1 : (er == 0) = false := by simpa using her
        have HST := Lib.hid hst
        have HI := Lib.hid hI
        have HC := Lib.hid hC
        have HW3 := Lib.hid HB3.out.size
        have HER := Lib.hid her
        clear hst hI hC hps hcc hc1 hc2 hbl hse her
        go_wp2_with fail
        refine HST.out.mono ?_
        rintro e w6 ⟨rfl, hT, hF⟩
        have hJ := HI.out.setT HW3.out hT hF
        have hCC := HC.out.trans (hF.below (fun k hk => Nat.le_trans HX5.out (HI.out.t.foot_low k hk).1) HC.out.size)
        have hnew : S2 w w3 w4 p v (.slice (some ⟨g, 0, none⟩) n cv) n F C U Sk Lk w6 := ⟨hJ.1, HI.out.tl, hJ.2.1, HI.out.sl, hJ.2.2.1, hJ.2.2.2, HI.out.of, HI.out.sz⟩
        have HN := Lib.hid hnew
        have HC2 := Lib.hid hCC
        clear hJ hCC hnew hT hF HST
        go_wp2
        go_roundw
        case rel => exact ⟨k + 1, _, _, by omega, by go_num, HN.out, HC2.out⟩
        case measure => simp [intOf]; omega
    · obtain rfl : k = l2 := by omega
      have i1 : ¬ ((k : Int) < (k : Int)) := by omega
      have hlen := hI.of.len
      have hbad := hI.of.bad
      have huq := hI.of.uniq (tof_tree HOK.out hI.of.sl)
      obtain ⟨_, _, e0, hrs, -⟩ := towns_shape hI.s
      cases e0
      have h1k : Lk.length ≤ 1000 := by have := HNN.out; omega
      have h0k : 0 < Lk.length := by have := HNN.out; omega
      have h32 : ∀ i, i < Lk.length → (lAt Lk i).size ≤ 1000 := fun i hi => by rw [huq, treeL_size Sk i (by rw [← huq]; exact hi)]; omega
      have hnw := HNW.out Sk (by have := hI.of.sl; omega) hI.sz wr _ _ hI.b hrs
      have hal := fun w' (hb : Below wr.heap.size wr w') => tall_any _ p v n F C U Lk w' (hI.t.below hb) h0k h1k
      have hba := fun w' (hb : Below wr.heap.size wr w') => tbad_any _ p v n F C U Lk w' (hI.t.below hb) (HK.out.below (hI.b.trans (hb.mono hI.b.size))) (by have := HNN.out; omega) h1k h32
      simp only [hbad] at hba
      rw [← huq] at hnw
      obtain ⟨g0, g1, g2, g3⟩ := HGC.out _ hC
      have HNB := Lib.hid hnw
      have HAL := Lib.hid hal
      have HBA := Lib.hid hba
      have HBW := Lib.hid hI.b
      have HLK := Lib.hid (And.intro h0k h1k)
      clear hnw hal hba hI hC hlen hbad huq hrs h1k h0k h32 HNW
      go_wp2_with fail
      refine HNB.out.mono ?_
      rintro e x1 ⟨p2, v2, rfl, hT2, hb⟩
      have HX1 := Lib.hid hb
      have HT2 := Lib.hid hT2
      clear hb hT2 HNB g0 g1 g2 g3
      go_wp2_with fail
      refine (HAL.out _ HX1.out).mono ?_
      rintro e x2 ⟨va, rfl, how, hb⟩
      obtain ⟨aa, ca, rfl, hrs, -⟩ := towns_shape how
      have HX2 := Lib.hid (HX1.out.trans (hb.mono HX1.out.size))
      have HRS := Lib.hid hrs
      have HT3 := Lib.hid (HT2.out.below hb)
      clear hb how hrs HAL HX1 HT2
      go_wp2_with fail
      refine (tall_any _ p2 v2 n F C U Lk x2 HT3.out HLK.out.1 HLK.out.2).mono ?_
      rintro e x3 ⟨va, rfl, how, hb⟩
      obtain ⟨ab, cb, rfl, hrs, -⟩ := towns_shape how
      have HX3 := Lib.hid (HX2.out.trans (hb.mono HX2.out.size))
      have hrs2 := HRS.out.later hb
      have htx := rtexts_any aa ab Lk.length Lk.length ca cb Lk Lk x3 hrs2 hrs
      rw [decide_eq_true rfl] at htx
      have HTX := Lib.hid htx
      clear hb how hrs hrs2 htx HT3 HX2 HRS
      go_wp2_with fail
      refine HTX.out.mono ?_
      rintro e x4 ⟨rfl, hb⟩
      have HX4' := Lib.hid (HX3.out.trans (hb.mono HX3.out.size))
      clear hb HTX HX3
      go_wp2_with fail
      refine (HBA.out _ HX4'.out).mono ?_
      rintro e x5 ⟨vb, rfl, how, hb⟩
      obtain ⟨ab2, cb2, rfl, hri, -⟩ := iowns_shape how (by simp)
      have HX5' := Lib.hid (HBW.out.trans ((HX4'.out.trans (hb.mono HX4'.out.size)).mono HBW.out.size))
      clear hb how hri HBA HX4'
      go_wp2_with fail
      refine (HKN.out _ HX5'.out).mono ?_
      rintro e w9 ⟨rfl, hb⟩
      have HBB := Lib.hid (HX5'.out.trans (hb.mono HX5'.out.size))
      clear hb
      go_wp2
      go_ret
      exact ⟨rfl, HBB.out⟩

theorem tsets_any (N F C U : Int) (a : Option Addr) (l cap : Nat) (xs : List UInt8) (a2 : Option Addr) (l2 cap2 : Nat) (X : Nat → Int × ByteArray) (w : World) (hP : Rd w a l cap xs) (hQ : Ps w a2 l2 cap2 X) (hK : Kon w) :
    Calls Tryd.prog 5 #[geo N F C U, .slice a l cap, .slice a2 l2 cap2] w fun e w' => e = .returned (.bool true) ∧ Below w.heap.size w w' := by
  by_cases hN : N ≤ 30
  · by_cases hok : okG N F C U
    · by_cases hl2 : l2 ≤ 30
      · obtain ⟨n, rfl⟩ : ∃ n : Nat, N = n := ⟨N.toNat, by have := hok.1; omega⟩
        exact tsets_ok n F C U a l cap xs a2 l2 cap2 X w hP hQ hK hN hok hl2
      · exact tsets_many N F C U a l cap xs a2 l2 cap2 X w hP hQ hK hN hok (by omega)
    · exact tsets_bad N F C U a l cap xs a2 l2 cap2 X w hP hQ hK hN hok
  · exact tsets_far N F C U a l cap xs a2 l2 cap2 X w hP hQ hK (by omega)
end Go.Proofs.YtojanhpilhledaaDoor

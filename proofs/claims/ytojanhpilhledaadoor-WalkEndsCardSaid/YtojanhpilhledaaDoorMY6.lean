/-
  Texts put together: Y6.
-/
import Derived.Test.YtojanhpilhledaaDoorMX4
import Derived.Test.YtojanhpilhledaaDoorMX1
import Derived.Test.YtojanhpilhledaaDoorMW2
import Derived.Test.YtojanhpilhledaaDoorMY0
/-
  The walk of TreeMakes.
-/
namespace Go.Proofs.YtojanhpilhledaaDoor
open Go.RowKit
set_option linter.unusedVariables false
set_option linter.unusedSimpArgs false

set_option maxRecDepth 20000 in
theorem small_any (N F C U : Int) (w : World) :
    Calls Tryd.prog 11 #[geo N F C U] w fun e w' => e = .returned (.bool (decide (N ≤ 30))) ∧ Below w.heap.size w w' := by
  have hb0 := (Below.refl w.heap.size w).alloc (Nat.le_refl _) (gbox N F C U)
  obtain ⟨c0, -⟩ := gbox_cells (w := w) (N := N) (F := F) (C := C) (U := U) (Below.refl _ _)
  unfold gbox at hb0 c0
  unfold geo
  have HB := Lib.hid hb0
  clear hb0
  go_enter Tryd.func11, Tryd.ntmps11
  go_wp2
  go_ret
  exact ⟨rfl, HB.out⟩

/-- What a program's making of a tree gives, told apart. -/
theorem pend_ok {f : FuncId} {args : Array Value} {er : Int} {N F C U : Int} {L : List ByteArray} {w : World} (h : Calls Tryd.prog f args w fun e w' => PEnd er N F C U L w e w') (he : er = 0) : Calls Tryd.prog f args w fun e w' => PNew N F C U L w e w' :=
  h.mono fun e w' h => by
    rcases h with ⟨_, h⟩ | ⟨h, _⟩
    · exact h
    · exact absurd he h
theorem pend_no {f : FuncId} {args : Array Value} {er : Int} {N F C U : Int} {L : List ByteArray} {w : World} (h : Calls Tryd.prog f args w fun e w' => PEnd er N F C U L w e w') (he : er ≠ 0) : Calls Tryd.prog f args w fun e w' => e = .returned (.tuple #[.pointer none, .int .i64 er]) ∧ Below w.heap.size w w' :=
  h.mono fun e w' h => by
    rcases h with ⟨h, _⟩ | ⟨_, h⟩
    · exact absurd h he
    · exact h
theorem tend_ok {f : FuncId} {args : Array Value} {er : Int} {N F C U : Int} {L : List ByteArray} {w : World} (h : Calls Tryd.prog f args w fun e w' => TEnd er N F C U L w e w') (he : er = 0) : Calls Tryd.prog f args w fun e w' => TNew N F C U L w e w' :=
  h.mono fun e w' h => by
    rcases h with ⟨_, h⟩ | ⟨h, _⟩
    · exact h
    · exact absurd he h
theorem tend_no {f : FuncId} {args : Array Value} {er : Int} {N F C U : Int} {L : List ByteArray} {w : World} (h : Calls Tryd.prog f args w fun e w' => TEnd er N F C U L w e w') (he : er ≠ 0) : Calls Tryd.prog f args w fun e w' => e = .returned (.tuple #[.pointer none, .int .i64 er]) ∧ Below w.heap.size w w' :=
  h.mono fun e w' h => by
    rcases h with ⟨h, _⟩ | ⟨_, h⟩
    · exact absurd h he
    · exact h
theorem treeL_size {N F C U : Int} (Ss : List ByteArray) : ∀ i, i < (treeL N F C U Ss).length → (lAt (treeL N F C U Ss) i).size = 32 := by
  unfold treeL
  exact growL_size (fun j hj => by
    rw [List.length_map] at hj
    rw [map_at Ss hj]
    exact leafB_size _) _
/-- A program's tree and a document's are told alike: 'same' over trees of N, whatever N is. -/
theorem same_all {B p : Nat} {v : Value} {B' q : Nat} {v' : Value} {N F C U : Int} {L : List ByteArray} (node : Int) {w : World} (hok : okG N F C U) (hP : PT w B p v N F C U L) (hR : RT w B' q v' N F C U L) (hK : Kon w)
    (hL : L.length = nodes N F C U) (h32 : ∀ i, i < L.length → (lAt L i).size ≤ 1000) :
    Calls Tryd.prog 17 #[.pointer (some ⟨p, 0, none⟩), .pointer (some ⟨q, 0, none⟩), .int .i64 node] w fun e w' => e = .returned (.bool true) ∧ Below w.heap.size w w' := by
  have h1 := nodes_pos hok
  have h2 := nodes_le N F C U
  have h3 := nodes_ge hok
  obtain ⟨n, rfl⟩ : ∃ n : Nat, N = n := ⟨N.toNat, by have := hok.1; omega⟩
  exact same_any B p v B' q v' n F C U L node w hP hR hK hL (by omega) (by omega) (by omega) h32

set_option maxRecDepth 20000 in
set_option maxHeartbeats 2000000 in
theorem tmakes_far (N F C U : Int) (a : Option Addr) (l cap : Nat) (node : Int) (w : World) (hK : Kon w) (hx : 30 < N) :
    Calls Tryd.prog 3 #[geo N F C U, .slice a l cap, .int .i64 node] w fun e w' => e = .returned (.bool true) ∧ Below w.heap.size w w' := by
  have hb0 := (Below.refl w.heap.size w).alloc (Nat.le_refl _) (gbox N F C U)
  have hsm := fun w => small_any N F C U w
  have hkn := fun w' (hb : Below w.heap.size w w') => tknown_any w' (hK.below hb)
  have hgc : ∀ wr, Below (w.alloc (gbox N F C U)).heap.size (w.alloc (gbox N F C U)) wr → wr.cell? ⟨w.heap.size, 0, none⟩ = some (.int .i64 N) ∧ wr.cell? ⟨w.heap.size, 1, none⟩ = some (.int .i64 F) ∧ wr.cell? ⟨w.heap.size, 2, none⟩ = some (.int .i64 C) ∧ wr.cell? ⟨w.heap.size, 3, none⟩ = some (.int .i64 U) := fun wr h => gbox_cells (by simpa using h)
  have hd : decide (N ≤ 30) = false := decide_eq_false (by omega)
  simp only [hd] at hsm
  unfold geo at *
  obtain ⟨w1, hw1⟩ : ∃ w1, w1 = w.alloc (gbox N F C U) := ⟨_, rfl⟩
  rw [← hw1] at hb0
  simp only [← hw1] at hgc
  have HSM := Lib.hid hsm
  have HKN := Lib.hid hkn
  have HGC := Lib.hid hgc
  have HB0 := Lib.hid hb0
  have HW0 := Lib.hid hw1
  clear hsm hkn hgc hb0 hK hd hw1 hx
  unfold gbox at HW0
  go_enter Tryd.func3, Tryd.ntmps3
  go_wp2_with fail
  rw [← HW0.out]
  obtain ⟨g0, g1, g2, g3⟩ := HGC.out _ (Below.refl _ _)
  go_wp2_with fail
  refine (HSM.out _).mono ?_
  rintro e w2 ⟨rfl, hb⟩
  have HB2 := Lib.hid (HB0.out.trans (hb.mono HB0.out.size))
  clear hb HSM HB0 g0 g1 g2 g3
  go_wp2_with fail
  refine (HKN.out _ HB2.out).mono ?_
  rintro e w3 ⟨rfl, hb⟩
  have HBB := Lib.hid (HB2.out.trans (hb.mono HB2.out.size))
  clear hb
  go_wp2
  go_ret
  exact ⟨rfl, HBB.out⟩

set_option maxRecDepth 20000 in
set_option maxHeartbeats 2000000 in
theorem tmakes_long (N F C U : Int) (a : Option Addr) (l cap : Nat) (node : Int) (w : World) (hK : Kon w) (hx : N ≤ 30 ∧ 80 < l) :
    Calls Tryd.prog 3 #[geo N F C U, .slice a l cap, .int .i64 node] w fun e w' => e = .returned (.bool true) ∧ Below w.heap.size w w' := by
  have hb0 := (Below.refl w.heap.size w).alloc (Nat.le_refl _) (gbox N F C U)
  have hsm := fun w => small_any N F C U w
  have hkn := fun w' (hb : Below w.heap.size w w') => tknown_any w' (hK.below hb)
  have hgc : ∀ wr, Below (w.alloc (gbox N F C U)).heap.size (w.alloc (gbox N F C U)) wr → wr.cell? ⟨w.heap.size, 0, none⟩ = some (.int .i64 N) ∧ wr.cell? ⟨w.heap.size, 1, none⟩ = some (.int .i64 F) ∧ wr.cell? ⟨w.heap.size, 2, none⟩ = some (.int .i64 C) ∧ wr.cell? ⟨w.heap.size, 3, none⟩ = some (.int .i64 U) := fun wr h => gbox_cells (by simpa using h)
  have hd : decide (N ≤ 30) = true := decide_eq_true hx.1
  have hl2 : (80 : Int) < (l : Int) := by have := hx.2; omega
  simp only [hd] at hsm
  unfold geo at *
  obtain ⟨w1, hw1⟩ : ∃ w1, w1 = w.alloc (gbox N F C U) := ⟨_, rfl⟩
  rw [← hw1] at hb0
  simp only [← hw1] at hgc
  have HSM := Lib.hid hsm
  have HKN := Lib.hid hkn
  have HGC := Lib.hid hgc
  have HB0 := Lib.hid hb0
  have HW0 := Lib.hid hw1
  clear hsm hkn hgc hb0 hK hd hw1 hx
  unfold gbox at HW0
  go_enter Tryd.func3, Tryd.ntmps3
  go_wp2_with fail
  rw [← HW0.out]
  obtain ⟨g0, g1, g2, g3⟩ := HGC.out _ (Below.refl _ _)
  go_wp2_with fail
  refine (HSM.out _).mono ?_
  rintro e w2 ⟨rfl, hb⟩
  have HB2 := Lib.hid (HB0.out.trans (hb.mono HB0.out.size))
  clear hb HSM HB0 g0 g1 g2 g3
  go_wp2_with fail
  refine (HKN.out _ HB2.out).mono ?_
  rintro e w3 ⟨rfl, hb⟩
  have HBB := Lib.hid (HB2.out.trans (hb.mono HB2.out.size))
  clear hb
  go_wp2
  go_ret
  exact ⟨rfl, HBB.out⟩

set_option maxRecDepth 20000 in
set_option maxHeartbeats 2000000 in
theorem tmakes_11 (N F C U : Int) (a : Option Addr) (l cap : Nat) (Ss : List ByteArray) (node : Int) (w : World) (hP : Rs w a l cap Ss) (hK : Kon w) (hN : N ≤ 30) (hl : l ≤ 80) (er1 er2 : Int) (h1 : er1 = newErr N F C U Ss) (h2 : er2 = fromErr N F C U Ss) (he1 : er1 = 0) (he2 : er2 = 0) :
    Calls Tryd.prog 3 #[geo N F C U, .slice a l cap, .int .i64 node] w fun e w' => e = .returned (.bool true) ∧ Below w.heap.size w w' := by
  have hb0 := (Below.refl w.heap.size w).alloc (Nat.le_refl _) (gbox N F C U)
  have hsm := fun w => small_any N F C U w
  have hkn := fun w' (hb : Below w.heap.size w w') => tknown_any w' (hK.below hb)
  have hn1 := fun w' (hb : Below w.heap.size w w') => tnew_any N F C U a l cap Ss w' (hP.later hb) (hK.below hb)
  have hn2 := fun w' (hb : Below w.heap.size w w') => rtnew_any N F C U a l cap Ss w' (hP.later hb)
  have hf1 := fun w' (hb : Below w.heap.size w w') => tfrom_any N F C U a l cap Ss w' (hP.later hb)
  have hf2 := fun w' (hb : Below w.heap.size w w') => rfrom_any N F C U a l cap Ss w' (hP.later hb)
  simp only [← h1] at hn1 hn2
  simp only [← h2] at hf1 hf2
  replace hn1 := fun w' hb => pend_ok (hn1 w' hb) he1
  replace hn2 := fun w' hb => tend_ok (hn2 w' hb) he1
  replace hf1 := fun w' hb => pend_ok (hf1 w' hb) he2
  replace hf2 := fun w' hb => tend_ok (hf2 w' hb) he2
  have hq1 := newErr_ok (h1.symm.trans he1)
  have hs1 := fun (B p : Nat) (v : Value) (B' q : Nat) (v' : Value) (w' : World) (hb : Below w.heap.size w w') (hA : PT w' B p v N F C U (treeL N F C U Ss)) (hR : RT w' B' q v' N F C U (treeL N F C U Ss)) => same_all node hq1.1 hA hR (hK.below hb) (tof_tree hq1.1 hq1.2.1).len (fun i hi => by rw [treeL_size Ss i hi]; omega)
  generalize treeL N F C U Ss = L1 at *
  have HS1 := Lib.hid hs1
  clear hs1 hq1
  have hq2 := fromErr_ok (h2.symm.trans he2)
  have hs2 := fun (B p : Nat) (v : Value) (B' q : Nat) (v' : Value) (w' : World) (hb : Below w.heap.size w w') (hA : PT w' B p v N F C U Ss) (hR : RT w' B' q v' N F C U Ss) => same_all node hq2.1 hA hR (hK.below hb) hq2.2.1 (fun i hi => by rw [hq2.2.2 i hi]; omega)
  have HS2 := Lib.hid hs2
  clear hs2 hq2
  have hgc : ∀ wr, Below (w.alloc (gbox N F C U)).heap.size (w.alloc (gbox N F C U)) wr → wr.cell? ⟨w.heap.size, 0, none⟩ = some (.int .i64 N) ∧ wr.cell? ⟨w.heap.size, 1, none⟩ = some (.int .i64 F) ∧ wr.cell? ⟨w.heap.size, 2, none⟩ = some (.int .i64 C) ∧ wr.cell? ⟨w.heap.size, 3, none⟩ = some (.int .i64 U) := fun wr h => gbox_cells (by simpa using h)
  have hcx : (cap : Int) ≤ 9223372036854775807 := by have := hP.cm; unfold maxLen at this; omega
  have hd : decide (N ≤ 30) = true := decide_eq_true hN
  simp only [hd] at hsm
  have hl2 : ¬ ((80 : Int) < (l : Int)) := by omega
  unfold geo at *
  obtain ⟨w1, hw1⟩ : ∃ w1, w1 = w.alloc (gbox N F C U) := ⟨_, rfl⟩
  rw [← hw1] at hb0
  simp only [← hw1] at hgc
  have HSM := Lib.hid hsm
  have HKN := Lib.hid hkn
  have HN1 := Lib.hid hn1
  have HN2 := Lib.hid hn2
  have HF1 := Lib.hid hf1
  have HF2 := Lib.hid hf2
  have HGC := Lib.hid hgc
  have HB0 := Lib.hid hb0
  have HW0 := Lib.hid hw1
  have HX1 := Lib.hid he1
  have HX2 := Lib.hid he2
  clear hsm hkn hn1 hn2 hf1 hf2 hgc hb0 hP hK h1 h2 hd hw1 he1 he2
  unfold gbox at HW0
  go_enter Tryd.func3, Tryd.ntmps3
  go_wp2_with fail
  rw [← HW0.out]
  obtain ⟨g0, g1, g2, g3⟩ := HGC.out _ (Below.refl _ _)
  go_wp2_with fail
  refine (HSM.out _).mono ?_
  rintro e w2 ⟨rfl, hb⟩
  have HB2 := Lib.hid (HB0.out.trans (hb.mono HB0.out.size))
  have HC2 := Lib.hid hb
  clear hb HSM HB0 g0 g1 g2 g3
  obtain ⟨g0, g1, g2, g3⟩ := HGC.out _ HC2.out
  go_wp2_with fail
  refine (HN1.out _ HB2.out).mono ?_
  rintro e w3 ⟨p1, v1, rfl, hT1, hb⟩
  have HB3 := Lib.hid (HB2.out.trans (hb.mono HB2.out.size))
  have HC3 := Lib.hid (HC2.out.trans (hb.mono HC2.out.size))
  have HT1 := Lib.hid hT1
  clear hb HN1 g0 g1 g2 g3 hT1
  obtain ⟨g0, g1, g2, g3⟩ := HGC.out _ HC3.out
  go_wp2_with fail
  refine (HN2.out _ HB3.out).mono ?_
  rintro e w4 ⟨p2, v2, rfl, hT2, hb⟩
  have HB4 := Lib.hid (HB3.out.trans (hb.mono HB3.out.size))
  have HC4 := Lib.hid (HC3.out.trans (hb.mono HC3.out.size))
  have HT2 := Lib.hid hT2
  replace HT1 := Lib.hid (HT1.out.below hb)
  clear hb HN2 g0 g1 g2 g3 hT2
  obtain ⟨g0, g1, g2, g3⟩ := HGC.out _ HC4.out
  go_wp2_with fail
  refine (HF1.out _ HB4.out).mono ?_
  rintro e w5 ⟨p3, v3, rfl, hT3, hb⟩
  have HB5 := Lib.hid (HB4.out.trans (hb.mono HB4.out.size))
  have HC5 := Lib.hid (HC4.out.trans (hb.mono HC4.out.size))
  have HT3 := Lib.hid hT3
  replace HT1 := Lib.hid (HT1.out.below hb)
  replace HT2 := Lib.hid (HT2.out.below hb)
  clear hb HF1 g0 g1 g2 g3 hT3
  obtain ⟨g0, g1, g2, g3⟩ := HGC.out _ HC5.out
  go_wp2_with fail
  refine (HF2.out _ HB5.out).mono ?_
  rintro e w6 ⟨p4, v4, rfl, hT4, hb⟩
  have HB6 := Lib.hid (HB5.out.trans (hb.mono HB5.out.size))
  have HC6 := Lib.hid (HC5.out.trans (hb.mono HC5.out.size))
  have HT4 := Lib.hid hT4
  replace HT1 := Lib.hid (HT1.out.below hb)
  replace HT2 := Lib.hid (HT2.out.below hb)
  replace HT3 := Lib.hid (HT3.out.below hb)
  clear hb HF2 g0 g1 g2 g3 hT4
  obtain ⟨g0, g1, g2, g3⟩ := HGC.out _ HC6.out
  clear g0 g1 g2 g3 HGC
  go_wp2_with fail
  refine (HS1.out _ _ _ _ _ _ _ HB6.out HT1.out HT2.out).mono ?_
  rintro e w7 ⟨rfl, hb⟩
  have HB7 := Lib.hid (HB6.out.trans (hb.mono HB6.out.size))
  replace HT1 := Lib.hid (HT1.out.below hb)
  replace HT2 := Lib.hid (HT2.out.below hb)
  replace HT3 := Lib.hid (HT3.out.below hb)
  replace HT4 := Lib.hid (HT4.out.below hb)
  clear hb
  go_wp2_with fail
  refine (HS2.out _ _ _ _ _ _ _ HB7.out HT3.out HT4.out).mono ?_
  rintro e w8 ⟨rfl, hb⟩
  have HB8 := Lib.hid (HB7.out.trans (hb.mono HB7.out.size))
  replace HT1 := Lib.hid (HT1.out.below hb)
  replace HT2 := Lib.hid (HT2.out.below hb)
  replace HT3 := Lib.hid (HT3.out.below hb)
  replace HT4 := Lib.hid (HT4.out.below hb)
  clear hb
  go_wp2_with fail
  refine (HKN.out _ HB8.out).mono ?_
  rintro e w9 ⟨rfl, hb⟩
  have HBB := Lib.hid (HB8.out.trans (hb.mono HB8.out.size))
  clear hb
  go_wp2
  go_ret
  exact ⟨rfl, HBB.out⟩

set_option maxRecDepth 20000 in
set_option maxHeartbeats 2000000 in
theorem tmakes_10 (N F C U : Int) (a : Option Addr) (l cap : Nat) (Ss : List ByteArray) (node : Int) (w : World) (hP : Rs w a l cap Ss) (hK : Kon w) (hN : N ≤ 30) (hl : l ≤ 80) (er1 er2 : Int) (h1 : er1 = newErr N F C U Ss) (h2 : er2 = fromErr N F C U Ss) (he1 : er1 = 0) (he2 : er2 ≠ 0) :
    Calls Tryd.prog 3 #[geo N F C U, .slice a l cap, .int .i64 node] w fun e w' => e = .returned (.bool true) ∧ Below w.heap.size w w' := by
  have hb0 := (Below.refl w.heap.size w).alloc (Nat.le_refl _) (gbox N F C U)
  have hsm := fun w => small_any N F C U w
  have hkn := fun w' (hb : Below w.heap.size w w') => tknown_any w' (hK.below hb)
  have hn1 := fun w' (hb : Below w.heap.size w w') => tnew_any N F C U a l cap Ss w' (hP.later hb) (hK.below hb)
  have hn2 := fun w' (hb : Below w.heap.size w w') => rtnew_any N F C U a l cap Ss w' (hP.later hb)
  have hf1 := fun w' (hb : Below w.heap.size w w') => tfrom_any N F C U a l cap Ss w' (hP.later hb)
  have hf2 := fun w' (hb : Below w.heap.size w w') => rfrom_any N F C U a l cap Ss w' (hP.later hb)
  simp only [← h1] at hn1 hn2
  simp only [← h2] at hf1 hf2
  replace hn1 := fun w' hb => pend_ok (hn1 w' hb) he1
  replace hn2 := fun w' hb => tend_ok (hn2 w' hb) he1
  replace hf1 := fun w' hb => pend_no (hf1 w' hb) he2
  replace hf2 := fun w' hb => tend_no (hf2 w' hb) he2
  have hq1 := newErr_ok (h1.symm.trans he1)
  have hs1 := fun (B p : Nat) (v : Value) (B' q : Nat) (v' : Value) (w' : World) (hb : Below w.heap.size w w') (hA : PT w' B p v N F C U (treeL N F C U Ss)) (hR : RT w' B' q v' N F C U (treeL N F C U Ss)) => same_all node hq1.1 hA hR (hK.below hb) (tof_tree hq1.1 hq1.2.1).len (fun i hi => by rw [treeL_size Ss i hi]; omega)
  generalize treeL N F C U Ss = L1 at *
  have HS1 := Lib.hid hs1
  clear hs1 hq1
  have he2' : (er2 == 0) = false := by simpa using he2
  have he2'' : (er2 != er2) = false := by simp
  have hgc : ∀ wr, Below (w.alloc (gbox N F C U)).heap.size (w.alloc (gbox N F C U)) wr → wr.cell? ⟨w.heap.size, 0, none⟩ = some (.int .i64 N) ∧ wr.cell? ⟨w.heap.size, 1, none⟩ = some (.int .i64 F) ∧ wr.cell? ⟨w.heap.size, 2, none⟩ = some (.int .i64 C) ∧ wr.cell? ⟨w.heap.size, 3, none⟩ = some (.int .i64 U) := fun wr h => gbox_cells (by simpa using h)
  have hcx : (cap : Int) ≤ 9223372036854775807 := by have := hP.cm; unfold maxLen at this; omega
  have hd : decide (N ≤ 30) = true := decide_eq_true hN
  simp only [hd] at hsm
  have hl2 : ¬ ((80 : Int) < (l : Int)) := by omega
  unfold geo at *
  obtain ⟨w1, hw1⟩ : ∃ w1, w1 = w.alloc (gbox N F C U) := ⟨_, rfl⟩
  rw [← hw1] at hb0
  simp only [← hw1] at hgc
  have HSM := Lib.hid hsm
  have HKN := Lib.hid hkn
  have HN1 := Lib.hid hn1
  have HN2 := Lib.hid hn2
  have HF1 := Lib.hid hf1
  have HF2 := Lib.hid hf2
  have HGC := Lib.hid hgc
  have HB0 := Lib.hid hb0
  have HW0 := Lib.hid hw1
  have HX1 := Lib.hid he1
  have HX2 := Lib.hid he2
  clear hsm hkn hn1 hn2 hf1 hf2 hgc hb0 hP hK h1 h2 hd hw1 he1 he2
  unfold gbox at HW0
  go_enter Tryd.func3, Tryd.ntmps3
  go_wp2_with fail
  rw [← HW0.out]
  obtain ⟨g0, g1, g2, g3⟩ := HGC.out _ (Below.refl _ _)
  go_wp2_with fail
  refine (HSM.out _).mono ?_
  rintro e w2 ⟨rfl, hb⟩
  have HB2 := Lib.hid (HB0.out.trans (hb.mono HB0.out.size))
  have HC2 := Lib.hid hb
  clear hb HSM HB0 g0 g1 g2 g3
  obtain ⟨g0, g1, g2, g3⟩ := HGC.out _ HC2.out
  go_wp2_with fail
  refine (HN1.out _ HB2.out).mono ?_
  rintro e w3 ⟨p1, v1, rfl, hT1, hb⟩
  have HB3 := Lib.hid (HB2.out.trans (hb.mono HB2.out.size))
  have HC3 := Lib.hid (HC2.out.trans (hb.mono HC2.out.size))
  have HT1 := Lib.hid hT1
  clear hb HN1 g0 g1 g2 g3 hT1
  obtain ⟨g0, g1, g2, g3⟩ := HGC.out _ HC3.out
  go_wp2_with fail
  refine (HN2.out _ HB3.out).mono ?_
  rintro e w4 ⟨p2, v2, rfl, hT2, hb⟩
  have HB4 := Lib.hid (HB3.out.trans (hb.mono HB3.out.size))
  have HC4 := Lib.hid (HC3.out.trans (hb.mono HC3.out.size))
  have HT2 := Lib.hid hT2
  replace HT1 := Lib.hid (HT1.out.below hb)
  clear hb HN2 g0 g1 g2 g3 hT2
  obtain ⟨g0, g1, g2, g3⟩ := HGC.out _ HC4.out
  go_wp2_with fail
  refine (HF1.out _ HB4.out).mono ?_
  rintro e w5 ⟨rfl, hb⟩
  have HB5 := Lib.hid (HB4.out.trans (hb.mono HB4.out.size))
  have HC5 := Lib.hid (HC4.out.trans (hb.mono HC4.out.size))
  replace HT1 := Lib.hid (HT1.out.below hb)
  replace HT2 := Lib.hid (HT2.out.below hb)
  clear hb HF1 g0 g1 g2 g3
  obtain ⟨g0, g1, g2, g3⟩ := HGC.out _ HC5.out
  go_wp2_with fail
  refine (HF2.out _ HB5.out).mono ?_
  rintro e w6 ⟨rfl, hb⟩
  have HB6 := Lib.hid (HB5.out.trans (hb.mono HB5.out.size))
  have HC6 := Lib.hid (HC5.out.trans (hb.mono HC5.out.size))
  replace HT1 := Lib.hid (HT1.out.below hb)
  replace HT2 := Lib.hid (HT2.out.below hb)
  clear hb HF2 g0 g1 g2 g3
  obtain ⟨g0, g1, g2, g3⟩ := HGC.out _ HC6.out
  clear g0 g1 g2 g3 HGC
  go_wp2_with fail
  refine (HS1.out _ _ _ _ _ _ _ HB6.out HT1.out HT2.out).mono ?_
  rintro e w7 ⟨rfl, hb⟩
  have HB7 := Lib.hid (HB6.out.trans (hb.mono HB6.out.size))
  replace HT1 := Lib.hid (HT1.out.below hb)
  replace HT2 := Lib.hid (HT2.out.below hb)
  clear hb
  go_wp2_with fail
  refine (HKN.out _ HB7.out).mono ?_
  rintro e w8 ⟨rfl, hb⟩
  have HBB := Lib.hid (HB7.out.trans (hb.mono HB7.out.size))
  clear hb
  go_wp2
  go_ret
  exact ⟨rfl, HBB.out⟩

set_option maxRecDepth 20000 in
set_option maxHeartbeats 2000000 in
theorem tmakes_01 (N F C U : Int) (a : Option Addr) (l cap : Nat) (Ss : List ByteArray) (node : Int) (w : World) (hP : Rs w a l cap Ss) (hK : Kon w) (hN : N ≤ 30) (hl : l ≤ 80) (er1 er2 : Int) (h1 : er1 = newErr N F C U Ss) (h2 : er2 = fromErr N F C U Ss) (he1 : er1 ≠ 0) (he2 : er2 = 0) :
    Calls Tryd.prog 3 #[geo N F C U, .slice a l cap, .int .i64 node] w fun e w' => e = .returned (.bool true) ∧ Below w.heap.size w w' := by
  have hb0 := (Below.refl w.heap.size w).alloc (Nat.le_refl _) (gbox N F C U)
  have hsm := fun w => small_any N F C U w
  have hkn := fun w' (hb : Below w.heap.size w w') => tknown_any w' (hK.below hb)
  have hn1 := fun w' (hb : Below w.heap.size w w') => tnew_any N F C U a l cap Ss w' (hP.later hb) (hK.below hb)
  have hn2 := fun w' (hb : Below w.heap.size w w') => rtnew_any N F C U a l cap Ss w' (hP.later hb)
  have hf1 := fun w' (hb : Below w.heap.size w w') => tfrom_any N F C U a l cap Ss w' (hP.later hb)
  have hf2 := fun w' (hb : Below w.heap.size w w') => rfrom_any N F C U a l cap Ss w' (hP.later hb)
  simp only [← h1] at hn1 hn2
  simp only [← h2] at hf1 hf2
  replace hn1 := fun w' hb => pend_no (hn1 w' hb) he1
  replace hn2 := fun w' hb => tend_no (hn2 w' hb) he1
  replace hf1 := fun w' hb => pend_ok (hf1 w' hb) he2
  replace hf2 := fun w' hb => tend_ok (hf2 w' hb) he2
  have he1' : (er1 == 0) = false := by simpa using he1
  have he1'' : (er1 != er1) = false := by simp
  generalize treeL N F C U Ss = L1 at *
  have hq2 := fromErr_ok (h2.symm.trans he2)
  have hs2 := fun (B p : Nat) (v : Value) (B' q : Nat) (v' : Value) (w' : World) (hb : Below w.heap.size w w') (hA : PT w' B p v N F C U Ss) (hR : RT w' B' q v' N F C U Ss) => same_all node hq2.1 hA hR (hK.below hb) hq2.2.1 (fun i hi => by rw [hq2.2.2 i hi]; omega)
  have HS2 := Lib.hid hs2
  clear hs2 hq2
  have hgc : ∀ wr, Below (w.alloc (gbox N F C U)).heap.size (w.alloc (gbox N F C U)) wr → wr.cell? ⟨w.heap.size, 0, none⟩ = some (.int .i64 N) ∧ wr.cell? ⟨w.heap.size, 1, none⟩ = some (.int .i64 F) ∧ wr.cell? ⟨w.heap.size, 2, none⟩ = some (.int .i64 C) ∧ wr.cell? ⟨w.heap.size, 3, none⟩ = some (.int .i64 U) := fun wr h => gbox_cells (by simpa using h)
  have hcx : (cap : Int) ≤ 9223372036854775807 := by have := hP.cm; unfold maxLen at this; omega
  have hd : decide (N ≤ 30) = true := decide_eq_true hN
  simp only [hd] at hsm
  have hl2 : ¬ ((80 : Int) < (l : Int)) := by omega
  unfold geo at *
  obtain ⟨w1, hw1⟩ : ∃ w1, w1 = w.alloc (gbox N F C U) := ⟨_, rfl⟩
  rw [← hw1] at hb0
  simp only [← hw1] at hgc
  have HSM := Lib.hid hsm
  have HKN := Lib.hid hkn
  have HN1 := Lib.hid hn1
  have HN2 := Lib.hid hn2
  have HF1 := Lib.hid hf1
  have HF2 := Lib.hid hf2
  have HGC := Lib.hid hgc
  have HB0 := Lib.hid hb0
  have HW0 := Lib.hid hw1
  have HX1 := Lib.hid he1
  have HX2 := Lib.hid he2
  clear hsm hkn hn1 hn2 hf1 hf2 hgc hb0 hP hK h1 h2 hd hw1 he1 he2
  unfold gbox at HW0
  go_enter Tryd.func3, Tryd.ntmps3
  go_wp2_with fail
  rw [← HW0.out]
  obtain ⟨g0, g1, g2, g3⟩ := HGC.out _ (Below.refl _ _)
  go_wp2_with fail
  refine (HSM.out _).mono ?_
  rintro e w2 ⟨rfl, hb⟩
  have HB2 := Lib.hid (HB0.out.trans (hb.mono HB0.out.size))
  have HC2 := Lib.hid hb
  clear hb HSM HB0 g0 g1 g2 g3
  obtain ⟨g0, g1, g2, g3⟩ := HGC.out _ HC2.out
  go_wp2_with fail
  refine (HN1.out _ HB2.out).mono ?_
  rintro e w3 ⟨rfl, hb⟩
  have HB3 := Lib.hid (HB2.out.trans (hb.mono HB2.out.size))
  have HC3 := Lib.hid (HC2.out.trans (hb.mono HC2.out.size))
  clear hb HN1 g0 g1 g2 g3
  obtain ⟨g0, g1, g2, g3⟩ := HGC.out _ HC3.out
  go_wp2_with fail
  refine (HN2.out _ HB3.out).mono ?_
  rintro e w4 ⟨rfl, hb⟩
  have HB4 := Lib.hid (HB3.out.trans (hb.mono HB3.out.size))
  have HC4 := Lib.hid (HC3.out.trans (hb.mono HC3.out.size))
  clear hb HN2 g0 g1 g2 g3
  obtain ⟨g0, g1, g2, g3⟩ := HGC.out _ HC4.out
  go_wp2_with fail
  refine (HF1.out _ HB4.out).mono ?_
  rintro e w5 ⟨p3, v3, rfl, hT3, hb⟩
  have HB5 := Lib.hid (HB4.out.trans (hb.mono HB4.out.size))
  have HC5 := Lib.hid (HC4.out.trans (hb.mono HC4.out.size))
  have HT3 := Lib.hid hT3
  clear hb HF1 g0 g1 g2 g3 hT3
  obtain ⟨g0, g1, g2, g3⟩ := HGC.out _ HC5.out
  go_wp2_with fail
  refine (HF2.out _ HB5.out).mono ?_
  rintro e w6 ⟨p4, v4, rfl, hT4, hb⟩
  have HB6 := Lib.hid (HB5.out.trans (hb.mono HB5.out.size))
  have HC6 := Lib.hid (HC5.out.trans (hb.mono HC5.out.size))
  have HT4 := Lib.hid hT4
  replace HT3 := Lib.hid (HT3.out.below hb)
  clear hb HF2 g0 g1 g2 g3 hT4
  obtain ⟨g0, g1, g2, g3⟩ := HGC.out _ HC6.out
  clear g0 g1 g2 g3 HGC
  go_wp2_with fail
  refine (HS2.out _ _ _ _ _ _ _ HB6.out HT3.out HT4.out).mono ?_
  rintro e w7 ⟨rfl, hb⟩
  have HB7 := Lib.hid (HB6.out.trans (hb.mono HB6.out.size))
  replace HT3 := Lib.hid (HT3.out.below hb)
  replace HT4 := Lib.hid (HT4.out.below hb)
  clear hb
  go_wp2_with fail
  refine (HKN.out _ HB7.out).mono ?_
  rintro e w8 ⟨rfl, hb⟩
  have HBB := Lib.hid (HB7.out.trans (hb.mono HB7.out.size))
  clear hb
  go_wp2
  go_ret
  exact ⟨rfl, HBB.out⟩

set_option maxRecDepth 20000 in
set_option maxHeartbeats 2000000 in
theorem tmakes_00 (N F C U : Int) (a : Option Addr) (l cap : Nat) (Ss : List ByteArray) (node : Int) (w : World) (hP : Rs w a l cap Ss) (hK : Kon w) (hN : N ≤ 30) (hl : l ≤ 80) (er1 er2 : Int) (h1 : er1 = newErr N F C U Ss) (h2 : er2 = fromErr N F C U Ss) (he1 : er1 ≠ 0) (he2 : er2 ≠ 0) :
    Calls Tryd.prog 3 #[geo N F C U, .slice a l cap, .int .i64 node] w fun e w' => e = .returned (.bool true) ∧ Below w.heap.size w w' := by
  have hb0 := (Below.refl w.heap.size w).alloc (Nat.le_refl _) (gbox N F C U)
  have hsm := fun w => small_any N F C U w
  have hkn := fun w' (hb : Below w.heap.size w w') => tknown_any w' (hK.below hb)
  have hn1 := fun w' (hb : Below w.heap.size w w') => tnew_any N F C U a l cap Ss w' (hP.later hb) (hK.below hb)
  have hn2 := fun w' (hb : Below w.heap.size w w') => rtnew_any N F C U a l cap Ss w' (hP.later hb)
  have hf1 := fun w' (hb : Below w.heap.size w w') => tfrom_any N F C U a l cap Ss w' (hP.later hb)
  have hf2 := fun w' (hb : Below w.heap.size w w') => rfrom_any N F C U a l cap Ss w' (hP.later hb)
  simp only [← h1] at hn1 hn2
  simp only [← h2] at hf1 hf2
  replace hn1 := fun w' hb => pend_no (hn1 w' hb) he1
  replace hn2 := fun w' hb => tend_no (hn2 w' hb) he1
  replace hf1 := fun w' hb => pend_no (hf1 w' hb) he2
  replace hf2 := fun w' hb => tend_no (hf2 w' hb) he2
  have he1' : (er1 == 0) = false := by simpa using he1
  have he1'' : (er1 != er1) = false := by simp
  generalize treeL N F C U Ss = L1 at *
  have he2' : (er2 == 0) = false := by simpa using he2
  have he2'' : (er2 != er2) = false := by simp
  have hgc : ∀ wr, Below (w.alloc (gbox N F C U)).heap.size (w.alloc (gbox N F C U)) wr → wr.cell? ⟨w.heap.size, 0, none⟩ = some (.int .i64 N) ∧ wr.cell? ⟨w.heap.size, 1, none⟩ = some (.int .i64 F) ∧ wr.cell? ⟨w.heap.size, 2, none⟩ = some (.int .i64 C) ∧ wr.cell? ⟨w.heap.size, 3, none⟩ = some (.int .i64 U) := fun wr h => gbox_cells (by simpa using h)
  have hcx : (cap : Int) ≤ 9223372036854775807 := by have := hP.cm; unfold maxLen at this; omega
  have hd : decide (N ≤ 30) = true := decide_eq_true hN
  simp only [hd] at hsm
  have hl2 : ¬ ((80 : Int) < (l : Int)) := by omega
  unfold geo at *
  obtain ⟨w1, hw1⟩ : ∃ w1, w1 = w.alloc (gbox N F C U) := ⟨_, rfl⟩
  rw [← hw1] at hb0
  simp only [← hw1] at hgc
  have HSM := Lib.hid hsm
  have HKN := Lib.hid hkn
  have HN1 := Lib.hid hn1
  have HN2 := Lib.hid hn2
  have HF1 := Lib.hid hf1
  have HF2 := Lib.hid hf2
  have HGC := Lib.hid hgc
  have HB0 := Lib.hid hb0
  have HW0 := Lib.hid hw1
  have HX1 := Lib.hid he1
  have HX2 := Lib.hid he2
  clear hsm hkn hn1 hn2 hf1 hf2 hgc hb0 hP hK h1 h2 hd hw1 he1 he2
  unfold gbox at HW0
  go_enter Tryd.func3, Tryd.ntmps3
  go_wp2_with fail
  rw [← HW0.out]
  obtain ⟨g0, g1, g2, g3⟩ := HGC.out _ (Below.refl _ _)
  go_wp2_with fail
  refine (HSM.out _).mono ?_
  rintro e w2 ⟨rfl, hb⟩
  have HB2 := Lib.hid (HB0.out.trans (hb.mono HB0.out.size))
  have HC2 := Lib.hid hb
  clear hb HSM HB0 g0 g1 g2 g3
  obtain ⟨g0, g1, g2, g3⟩ := HGC.out _ HC2.out
  go_wp2_with fail
  refine (HN1.out _ HB2.out).mono ?_
  rintro e w3 ⟨rfl, hb⟩
  have HB3 := Lib.hid (HB2.out.trans (hb.mono HB2.out.size))
  have HC3 := Lib.hid (HC2.out.trans (hb.mono HC2.out.size))
  clear hb HN1 g0 g1 g2 g3
  obtain ⟨g0, g1, g2, g3⟩ := HGC.out _ HC3.out
  go_wp2_with fail
  refine (HN2.out _ HB3.out).mono ?_
  rintro e w4 ⟨rfl, hb⟩
  have HB4 := Lib.hid (HB3.out.trans (hb.mono HB3.out.size))
  have HC4 := Lib.hid (HC3.out.trans (hb.mono HC3.out.size))
  clear hb HN2 g0 g1 g2 g3
  obtain ⟨g0, g1, g2, g3⟩ := HGC.out _ HC4.out
  go_wp2_with fail
  refine (HF1.out _ HB4.out).mono ?_
  rintro e w5 ⟨rfl, hb⟩
  have HB5 := Lib.hid (HB4.out.trans (hb.mono HB4.out.size))
  have HC5 := Lib.hid (HC4.out.trans (hb.mono HC4.out.size))
  clear hb HF1 g0 g1 g2 g3
  obtain ⟨g0, g1, g2, g3⟩ := HGC.out _ HC5.out
  go_wp2_with fail
  refine (HF2.out _ HB5.out).mono ?_
  rintro e w6 ⟨rfl, hb⟩
  have HB6 := Lib.hid (HB5.out.trans (hb.mono HB5.out.size))
  have HC6 := Lib.hid (HC5.out.trans (hb.mono HC5.out.size))
  clear hb HF2 g0 g1 g2 g3
  obtain ⟨g0, g1, g2, g3⟩ := HGC.out _ HC6.out
  clear g0 g1 g2 g3 HGC
  go_wp2_with fail
  refine (HKN.out _ HB6.out).mono ?_
  rintro e w7 ⟨rfl, hb⟩
  have HBB := Lib.hid (HB6.out.trans (hb.mono HB6.out.size))
  clear hb
  go_wp2
  go_ret
  exact ⟨rfl, HBB.out⟩

theorem tmakes_any (N F C U : Int) (a : Option Addr) (l cap : Nat) (Ss : List ByteArray) (node : Int) (w : World) (hP : Rs w a l cap Ss) (hK : Kon w) :
    Calls Tryd.prog 3 #[geo N F C U, .slice a l cap, .int .i64 node] w fun e w' => e = .returned (.bool true) ∧ Below w.heap.size w w' := by
  by_cases hN : N ≤ 30
  · by_cases hl : l ≤ 80
    · by_cases h1 : newErr N F C U Ss = 0 <;> by_cases h2 : fromErr N F C U Ss = 0
      · exact tmakes_11 N F C U a l cap Ss node w hP hK hN hl _ _ rfl rfl h1 h2
      · exact tmakes_10 N F C U a l cap Ss node w hP hK hN hl _ _ rfl rfl h1 h2
      · exact tmakes_01 N F C U a l cap Ss node w hP hK hN hl _ _ rfl rfl h1 h2
      · exact tmakes_00 N F C U a l cap Ss node w hP hK hN hl _ _ rfl rfl h1 h2
    · exact tmakes_long N F C U a l cap node w hK ⟨hN, by omega⟩
  · exact tmakes_far N F C U a l cap node w hK (by omega)
end Go.Proofs.YtojanhpilhledaaDoor

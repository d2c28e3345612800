/-
  Texts put together: ZC.
-/
import Derived.Test.YtojanhpilhledaaDoorMZB
import Derived.Test.YtojanhpilhledaaDoorMZ8
import Derived.Test.YtojanhpilhledaaDoorMY9
import Derived.Test.YtojanhpilhledaaDoorMY6
import Derived.Test.YtojanhpilhledaaDoorMY5
/-
  The walk of WalkEnds.
-/
namespace Go.Proofs.YtojanhpilhledaaDoor
open Go.RowKit
set_option linter.unusedVariables false
set_option linter.unusedSimpArgs false

theorem ints_sameZ (va vb : Value) (xs : List Int) (w : World) (ha : Li w va xs) (hb : Li w vb xs) : Calls Tryd.prog 28 #[va, vb] w fun e w' => e = .returned (.bool true) ∧ Below w.heap.size w w' := by
  have := ints_any va vb xs xs w ha hb
  rw [decide_eq_true rfl] at this
  exact this.mono fun e w' h => ⟨h.1, h.2.below⟩
/-- The walk, and beside it the list of what was wanted. -/
structure WG (b8 : World) (pw p2 : Nat) (v2 : Value) (n f : Nat) (C U : Int) (L : List ByteArray) (gv : Value) (s : WS) (got : List Int) (va vw : Value) (w : World) : Prop where
  wk : PW w b8.heap.size pw va vw p2 v2 n f C U L s
  row : w.ownsRow b8.heap.size 3 1 gv got.length (ivs got)
  ap : ∀ k, gv.ownBlock = some k → ¬ (wfoot pw va vw k ∨ tfoot p2 v2 k)
  b : Below b8.heap.size b8 w
section
variable {b8 : World} {pw p2 : Nat} {v2 : Value} {n f : Nat} {C U : Int} {L : List ByteArray} {gv gv' : Value} {s s' : WS} {got : List Int} {va vw : Value} {w w' : World}
theorem WG.below (h : WG b8 pw p2 v2 n f C U L gv s got va vw w) (hb : Below w.heap.size w w') : WG b8 pw p2 v2 n f C U L gv s got va vw w' :=
  ⟨h.wk.below hb, owns_kept h.row fun k hk => hb.block k (h.row.lt k hk).2, h.ap, h.b.trans (hb.mono h.b.size)⟩
theorem WG.walked (h : WG b8 pw p2 v2 n f C U L gv s got va vw w) (hx : WNx (100, 103, 88) w b8.heap.size pw va vw p2 v2 n f C U L s' w') : ∃ va' vw', WG b8 pw p2 v2 n f C U L gv s' got va' vw' w' := by
  obtain ⟨va', vw', hW, hF, hN⟩ := hx
  refine ⟨va', vw', hW, owns_kept h.row fun k hk => hF.block k (h.row.lt k hk).2 (fun e => h.ap k hk (.inl e)), fun k hk e => ?_, h.b.trans (hF.below (fun k hk => (h.wk.foot k hk).1) h.b.size)⟩
  rcases e with e | e
  · rcases hN k e with e | e
    · exact h.ap k hk (.inl e)
    · have := (h.row.lt k hk).2; omega
  · exact h.ap k hk (.inr e)
theorem WG.grow {k : Int} (h : WG b8 pw p2 v2 n f C U L gv s got va vw w) (h1 : w'.ownsRow b8.heap.size 3 1 gv' (got.length + 1) (ivs (got ++ [k]))) (h2 : w.grownBy w' gv.ownBlock) (h3 : gv'.ownBlock = gv.ownBlock ∨ gv'.ownBlock = some w.heap.size) : WG b8 pw p2 v2 n f C U L gv' s (got ++ [k]) va vw w' := by
  refine ⟨h.wk.fr (A := fun k => gv.ownBlock = some k) (Fr.grown (Fr.refl _ w) h2 (fun k e => .inl e)) (fun k hk e => h.ap k e hk), by rw [List.length_append]; exact h1, fun k hk e => ?_, h.b.grown h2 h.b.size (fun k e => (h.row.lt k e).1)⟩
  rcases h3 with h3 | h3
  · exact h.ap k (h3 ▸ hk) e
  · rw [h3] at hk
    cases hk
    rcases e with e | e
    · have := (h.wk.foot _ e).2; omega
    · have := (h.wk.tree.foot_low _ e).2; omega
theorem WI.room2 {O : List ByteArray} (h : WI n f C U L O s got) : s.asked + s.came + s.asks.length + s.wants.length ≤ s.told + 1 ∧ s.came = got.length := by
  obtain ⟨_, _, _, h⟩ := h
  exact ⟨h.steps, h.came⟩
end

set_option maxRecDepth 20000 in
set_option maxHeartbeats 4000000 in
theorem wends_far (N F C U : Int) (a : Option Addr) (l cap : Nat) (xs : List UInt8) (a2 : Option Addr) (l2 cap2 : Nat) (ys : List UInt8) (w : World) (hP : Rd w a l cap xs) (hQ : Rd w a2 l2 cap2 ys) (hK : Kon w) (hx : 30 < N) :
    Calls Tryd.prog 9 #[geo N F C U, .slice a l cap, .slice a2 l2 cap2] w fun e w' => e = .returned (.bool true) ∧ Below w.heap.size w w' := by
  have hb0 := (Below.refl w.heap.size w).alloc (Nat.le_refl _) (gbox N F C U)
  have hrt := fun w => grright_any N F C U w
  have hkn := fun w' (hb : Below w.heap.size w w') => wknown_any w' (hK.below hb)
  have hgc : ∀ wr, Below (w.alloc (gbox N F C U)).heap.size (w.alloc (gbox N F C U)) wr → wr.cell? ⟨w.heap.size, 0, none⟩ = some (.int .i64 N) ∧ wr.cell? ⟨w.heap.size, 1, none⟩ = some (.int .i64 F) ∧ wr.cell? ⟨w.heap.size, 2, none⟩ = some (.int .i64 C) ∧ wr.cell? ⟨w.heap.size, 3, none⟩ = some (.int .i64 U) := fun wr h => gbox_cells (by simpa using h)
  unfold geo at *
  obtain ⟨w1, hw1⟩ : ∃ w1, w1 = w.alloc (gbox N F C U) := ⟨_, rfl⟩
  rw [← hw1] at hb0
  simp only [← hw1] at hgc
  have HRT := Lib.hid hrt
  have HKN := Lib.hid hkn
  have HGC := Lib.hid hgc
  have HB0 := Lib.hid hb0
  have HW0 := Lib.hid hw1
  have HP := Lib.hid hP
  have HQ := Lib.hid hQ
  have HK := Lib.hid hK
  clear hkn hgc hb0 hK hw1 hP hQ hrt
  unfold gbox at HW0
  go_enter Tryd.func9, Tryd.ntmps9
  go_wp2_with fail
  rw [← HW0.out]
  obtain ⟨g0, g1, g2, g3⟩ := HGC.out _ (Below.refl _ _)
  go_wp2_with fail
  refine (HKN.out _ HB0.out).mono ?_
  rintro e w99 ⟨rfl, hb⟩
  have HBB := Lib.hid (HB0.out.trans (hb.mono HB0.out.size))
  clear hb
  go_wp2
  go_ret
  exact ⟨rfl, HBB.out⟩

set_option maxRecDepth 20000 in
set_option maxHeartbeats 4000000 in
theorem wends_bad (N F C U : Int) (a : Option Addr) (l cap : Nat) (xs : List UInt8) (a2 : Option Addr) (l2 cap2 : Nat) (ys : List UInt8) (w : World) (hP : Rd w a l cap xs) (hQ : Rd w a2 l2 cap2 ys) (hK : Kon w) (hN : N ≤ 30) (hx : ¬ okG N F C U) :
    Calls Tryd.prog 9 #[geo N F C U, .slice a l cap, .slice a2 l2 cap2] w fun e w' => e = .returned (.bool true) ∧ Below w.heap.size w w' := by
  have hb0 := (Below.refl w.heap.size w).alloc (Nat.le_refl _) (gbox N F C U)
  have hrt := fun w => grright_any N F C U w
  have hkn := fun w' (hb : Below w.heap.size w w') => wknown_any w' (hK.below hb)
  have hgc : ∀ wr, Below (w.alloc (gbox N F C U)).heap.size (w.alloc (gbox N F C U)) wr → wr.cell? ⟨w.heap.size, 0, none⟩ = some (.int .i64 N) ∧ wr.cell? ⟨w.heap.size, 1, none⟩ = some (.int .i64 F) ∧ wr.cell? ⟨w.heap.size, 2, none⟩ = some (.int .i64 C) ∧ wr.cell? ⟨w.heap.size, 3, none⟩ = some (.int .i64 U) := fun wr h => gbox_cells (by simpa using h)
  simp only [show decide (okG N F C U) = false from decide_eq_false hx] at hrt
  have n1 : ¬ 30 < N := by omega
  unfold geo at *
  obtain ⟨w1, hw1⟩ : ∃ w1, w1 = w.alloc (gbox N F C U) := ⟨_, rfl⟩
  rw [← hw1] at hb0
  simp only [← hw1] at hgc
  have HRT := Lib.hid hrt
  have HKN := Lib.hid hkn
  have HGC := Lib.hid hgc
  have HB0 := Lib.hid hb0
  have HW0 := Lib.hid hw1
  have HP := Lib.hid hP
  have HQ := Lib.hid hQ
  have HK := Lib.hid hK
  clear hkn hgc hb0 hK hw1 hP hQ hrt
  unfold gbox at HW0
  go_enter Tryd.func9, Tryd.ntmps9
  go_wp2_with fail
  rw [← HW0.out]
  obtain ⟨g0, g1, g2, g3⟩ := HGC.out _ (Below.refl _ _)
  go_wp2_with fail
  refine (HRT.out _).mono ?_
  rintro e w2 ⟨rfl, hb⟩
  have HB2 := Lib.hid (HB0.out.trans (hb.mono HB0.out.size))
  have HC2 := Lib.hid hb
  clear hb g0 g1 g2 g3 HRT
  go_wp2_with fail
  refine (HKN.out _ HB2.out).mono ?_
  rintro e w99 ⟨rfl, hb⟩
  have HBB := Lib.hid (HB2.out.trans (hb.mono HB2.out.size))
  clear hb
  go_wp2
  go_ret
  exact ⟨rfl, HBB.out⟩

set_option maxRecDepth 20000 in
set_option maxHeartbeats 4000000 in
theorem wends_ok (n f : Nat) (C U : Int) (a : Option Addr) (l cap : Nat) (xs : List UInt8) (a2 : Option Addr) (l2 cap2 : Nat) (ys : List UInt8) (w : World) (hP : Rd w a l cap xs) (hQ : Rd w a2 l2 cap2 ys) (hK : Kon w) (hN : (n : Int) ≤ 30) (hok : okG n f C U) (ho : Ok n f) :
    Calls Tryd.prog 9 #[geo n f C U, .slice a l cap, .slice a2 l2 cap2] w fun e w' => e = .returned (.bool true) ∧ Below w.heap.size w w' := by
  have hb0 := (Below.refl w.heap.size w).alloc (Nat.le_refl _) (gbox n f C U)
  have hrt := fun w => grright_any n f C U w
  have hkn := fun w' (hb : Below w.heap.size w w') => wknown_any w' (hK.below hb)
  have hgc : ∀ wr, Below (w.alloc (gbox n f C U)).heap.size (w.alloc (gbox n f C U)) wr → wr.cell? ⟨w.heap.size, 0, none⟩ = some (.int .i64 (n : Int)) ∧ wr.cell? ⟨w.heap.size, 1, none⟩ = some (.int .i64 (f : Int)) ∧ wr.cell? ⟨w.heap.size, 2, none⟩ = some (.int .i64 C) ∧ wr.cell? ⟨w.heap.size, 3, none⟩ = some (.int .i64 U) := fun wr h => gbox_cells (by simpa using h)
  simp only [show decide (okG n f C U) = true from decide_eq_true hok] at hrt
  have n1 : ¬ 30 < (n : Int) := by omega
  have hnp := nodes_pos hok
  have hnl := nodes_le n f C U
  have hng := nodes_ge hok
  have hsz1 := fun w' (hb : Below w.heap.size w w') => sized_any n f C U a l cap xs w' (by omega) (hP.later hb)
  have hsz2 := fun w' (hb : Below w.heap.size w w') => sized_any n f C U a2 l2 cap2 ys w' (by omega) (hQ.later hb)
  have he : ∀ zs, newErr n f C U (szL zs n) = 0 := fun zs => by unfold newErr; rw [if_neg (fun h => h hok), if_neg (by rw [szL_length]; omega), if_pos (szL_size zs n)]
  have hnw := fun zs w' a' c' (hb : Below w.heap.size w w') (hrs : Rs w' a' n c' (szL zs n)) => pend_ok (tnew_any n f C U a' n c' _ w' hrs (hK.below hb)) (he zs)
  have hnr := fun zs w' a' c' (hrs : Rs w' a' n c' (szL zs n)) => tend_ok (rtnew_any n f C U a' n c' _ w' hrs) (he zs)
  have hht := fun w => rheight_any n f C U w
  have hnd := fun w => rnodes_any n f C U w
  have hch := fun k w => rchildren_any n f C U k w
  have hof1 := tof_tree hok (show ((szL xs n).length : Int) = n by rw [szL_length])
  have hof2 := tof_tree hok (show ((szL ys n).length : Int) = n by rw [szL_length])
  have hs1 := treeL_size (N := n) (F := f) (C := C) (U := U) (szL xs n)
  have hs2 := treeL_size (N := n) (F := f) (C := C) (U := U) (szL ys n)
  obtain ⟨Sx, hSx⟩ : ∃ Sx, Sx = szL ys n := ⟨_, rfl⟩
  obtain ⟨L, hL⟩ : ∃ L, L = treeL n f C U (szL xs n) := ⟨_, rfl⟩
  obtain ⟨O, hO⟩ : ∃ O, O = treeL n f C U (szL ys n) := ⟨_, rfl⟩
  have hsl : Sx.length = n := by rw [hSx, szL_length]
  have hs64 : ∀ i, i < Sx.length → (lAt Sx i).size = 64 := by rw [hSx]; exact szL_size ys n
  have hnw1 := fun w' a' c' hb hrs => hnw xs w' a' c' hb hrs
  have hnr1 := fun w' a' c' hrs => hnr xs w' a' c' hrs
  have hnr2 := fun w' a' c' hrs => hnr ys w' a' c' hrs
  rw [← hL] at hof1 hs1
  rw [← hO] at hof2 hs2
  simp only [← hSx] at hsz2 hnr2 hof2
  simp only [← hL] at hnw1 hnr1
  rw [hSx] at hnr2
  simp only [← hO] at hnr2
  rw [← hSx] at hnr2
  clear hnw hnr hSx hL hO
  have hlO := hof2.len
  have hlL := hof1.len
  obtain ⟨rt, hrt2⟩ : ∃ rt, rt = lAt O (nodes n f C U - 1) := ⟨_, rfl⟩
  have hrr := fun q v' w (h : RT w 0 q v' n f C U O) => trroot_any 0 q v' n f C U O w h (by omega) (by omega)
  rw [hlO, ← hrt2] at hrr
  have hr32 : rt.size = 32 := by rw [hrt2]; exact hs2 _ (by omega)
  obtain ⟨s0, hs0⟩ : ∃ s0, s0 = findS n L ws0 ((nodes n f C U - 1 : Nat) : Int) rt := ⟨_, rfl⟩
  have hs00 : s0.asked + s0.came = 0 := by
    rw [hs0]
    have := findS_len n L ws0 ((nodes n f C U - 1 : Nat) : Int) rt
    rw [this.2.1, this.2.2.2]; rfl
  have HS00 := Lib.hid hs00
  clear hs00
  have hwi : WI n f C U L O s0 [] := by rw [hs0, hrt2]; exact WI.init ho hok
  have hwn : ∀ p v w', PT w' 0 p v n f C U L → Calls Tryd.prog 32 #[.pointer (some ⟨p, 0, none⟩), .string rt] w' fun e w'' => ∃ pw va vw p2 v2, e = .returned (.tuple #[.pointer (some ⟨pw, 0, none⟩), .int .i64 0]) ∧ PW w'' w'.heap.size pw va vw p2 v2 n f C U L s0 ∧ (∀ k, tfoot p2 v2 k → w'.heap.size ≤ k) ∧ Below w'.heap.size w' w'' := fun p v w' h => (wnew_any 0 p v n f C U L rt w' h hok hlL).mono fun e w'' h => by
    rcases h with ⟨-, h⟩ | ⟨h, -⟩
    · rw [hs0]; exact h
    · exact absurd hr32 h
  unfold PNew at hnw1
  unfold TNew at hnr1
  unfold geo at *
  obtain ⟨w1, hw1⟩ : ∃ w1, w1 = w.alloc (gbox n f C U) := ⟨_, rfl⟩
  rw [← hw1] at hb0
  simp only [← hw1] at hgc
  have HZ1 := Lib.hid hsz1
  have HZ2 := Lib.hid hsz2
  have HNW := Lib.hid hnw1
  have HNR := Lib.hid hnr1
  have HNR2 := Lib.hid hnr2
  have HHT := Lib.hid hht
  have HND := Lib.hid hnd
  have HCH := Lib.hid hch
  have HOK := Lib.hid hok
  have HNN := Lib.hid (And.intro hnp (And.intro hnl hng))
  have HOF1 := Lib.hid hof1
  have HOF2 := Lib.hid hof2
  have HS1 := Lib.hid hs1
  have HS2 := Lib.hid hs2
  have HSL := Lib.hid (And.intro hsl hs64)
  have HRR := Lib.hid hrr
  have HWN := Lib.hid hwn
  have HWI := Lib.hid hwi
  have HL := Lib.hid (And.intro hlL hlO)
  clear hlO hlL hrt2 hrr hr32 hs0 hwi hwn
  clear hsz1 hsz2 hnw1 hnr1 hnr2 hht hnd hch hok hnp hnl hng hof1 hof2 hs1 hs2 hsl hs64 he
  have HRT := Lib.hid hrt
  have HKN := Lib.hid hkn
  have HGC := Lib.hid hgc
  have HB0 := Lib.hid hb0
  have HW0 := Lib.hid hw1
  have HP := Lib.hid hP
  have HQ := Lib.hid hQ
  have HK := Lib.hid hK
  clear hkn hgc hb0 hK hw1 hP hQ hrt
  unfold gbox at HW0
  go_enter Tryd.func9, Tryd.ntmps9
  go_wp2_with fail
  rw [← HW0.out]
  obtain ⟨g0, g1, g2, g3⟩ := HGC.out _ (Below.refl _ _)
  go_wp2_with fail
  refine (HRT.out _).mono ?_
  rintro e w2 ⟨rfl, hb⟩
  have HB2 := Lib.hid (HB0.out.trans (hb.mono HB0.out.size))
  have HC2 := Lib.hid hb
  clear hb g0 g1 g2 g3 HRT
  obtain ⟨g0, g1, g2, g3⟩ := HGC.out _ HC2.out
  go_wp2_with fail
  refine (HZ2.out _ HB2.out).mono ?_
  rintro e w4 ⟨sv, rfl, how, hb⟩
  have HB4 := Lib.hid (HB2.out.trans (hb.mono HB2.out.size))
  have HC4 := Lib.hid (HC2.out.trans (hb.mono HC2.out.size))
  obtain ⟨av, cv, rfl, hrs, -⟩ := towns_shape how
  have hcv : (cv : Int) ≤ 9223372036854775807 := by have := hrs.cm; unfold maxLen at this; omega
  have hcn : n ≤ cv := hrs.le
  have HR1 := Lib.hid hrs
  clear hb how hrs g0 g1 g2 g3 HZ2
  go_upto_region 4 with fail
  have hG : Below w1.heap.size w1 w4.drew := HC4.out.drew
  have hR : Below w4.heap.size w4 w4.drew := (Below.refl _ _).drew
  have HBW := Lib.hid (show ∀ w', Below w1.heap.size w1 w' → Below w.heap.size w w' from fun w' h => HB0.out.trans (h.mono HB0.out.size))
  go_region_held3 (fun w' => w'.cell? ⟨w.heap.size, 0, none⟩ = some (.int .i64 (n : Int)) ∧ w'.cell? ⟨w.heap.size, 1, none⟩ = some (.int .i64 (f : Int)) ∧ w'.cell? ⟨w.heap.size, 2, none⟩ = some (.int .i64 C) ∧ w'.cell? ⟨w.heap.size, 3, none⟩ = some (.int .i64 U))
    (exact HGC.out _ hG)
    (first
    | (go_at_call 24; with_reducible refine (HZ1.out _ (HBW.out _ hG)).mono ?_; rintro r w5 ⟨sv, rfl, how, hb⟩; obtain ⟨bv, dv, rfl, hrs, -⟩ := towns_shape how; have hdv : (dv : Int) ≤ 9223372036854775807 := (by have := hrs.cm; unfold maxLen at this; omega); have hdn : n ≤ dv := hrs.le; have HR2 := Lib.hid hrs; replace hG := hG.trans (hb.mono hG.size); replace hR := hR.trans (hb.mono hR.size); clear hb how hrs)
    | (go_at_call 13; with_reducible refine (HNW.out _ _ _ (HBW.out _ hG) HR2.out).mono ?_; rintro r w6 ⟨p, v, rfl, hT, hb⟩; have HT1 := Lib.hid hT.low0; replace hG := hG.trans (hb.mono hG.size); replace hR := hR.trans (hb.mono hR.size); clear hb hT))
  rename_i hHeld
  clear hHeld hdv hdn HR2 HNW
  have HB6 := Lib.hid (HBW.out _ hG)
  have HC6 := Lib.hid hG
  replace HR1 := Lib.hid (HR1.out.later hR)
  clear hG hR
  obtain ⟨g0, g1, g2, g3⟩ := HGC.out _ HC6.out
  go_wp2_with fail
  refine (HNR2.out _ _ _ HR1.out).mono ?_
  rintro e w7 ⟨q, v', rfl, hT, hb⟩
  have HB7 := Lib.hid (HB6.out.trans (hb.mono HB6.out.size))
  have HC7 := Lib.hid (HC6.out.trans (hb.mono HC6.out.size))
  have HT2 := Lib.hid hT.low0
  replace HT1 := Lib.hid (HT1.out.below hb)
  replace HR1 := Lib.hid (HR1.out.later hb)
  clear hb hT g0 g1 g2 g3 HNR2
  obtain ⟨g0, g1, g2, g3⟩ := HGC.out _ HC7.out
  go_wp2_with fail
  refine (HRR.out _ _ _ HT2.out).mono ?_
  rintro e w8 ⟨rfl, hb⟩
  have HB8 := Lib.hid (HB7.out.trans (hb.mono HB7.out.size))
  have HC8 := Lib.hid (HC7.out.trans (hb.mono HC7.out.size))
  replace HT1 := Lib.hid (HT1.out.below hb)
  replace HT2 := Lib.hid (HT2.out.below hb)
  replace HR1 := Lib.hid (HR1.out.later hb)
  have HT28 := Lib.hid HT2.out
  have HR18 := Lib.hid HR1.out
  clear hb g0 g1 g2 g3 HRR
  go_wp2_with fail
  refine (HWN.out _ _ _ HT1.out).mono ?_
  rintro e w9 ⟨pw, va, vw, p2, v2, rfl, hpw, htf, hb⟩
  have HB9 := Lib.hid (HB8.out.trans (hb.mono HB8.out.size))
  have HC9 := Lib.hid (HC8.out.trans (hb.mono HC8.out.size))
  replace HT2 := Lib.hid (HT2.out.below hb)
  replace HR1 := Lib.hid (HR1.out.later hb)
  have HPW := Lib.hid hpw
  have HTF := Lib.hid htf
  have HX8 := Lib.hid hb
  clear hb hpw htf HWN HT1
  obtain ⟨g0, g1, g2, g3⟩ := HGC.out _ HC9.out
  go_wp2_with fail
  refine (HND.out _).mono ?_
  rintro e w10 ⟨rfl, hb⟩
  have HB10 := Lib.hid (HB9.out.trans (hb.mono HB9.out.size))
  have HC10 := Lib.hid (HC9.out.trans (hb.mono HC9.out.size))
  replace HT2 := Lib.hid (HT2.out.below hb)
  replace HR1 := Lib.hid (HR1.out.later hb)
  replace HPW := Lib.hid (HPW.out.below hb)
  replace HX8 := Lib.hid (HX8.out.trans (hb.mono HX8.out.size))
  clear hb g0 g1 g2 g3
  have HDG := Lib.hid (show ∀ (y : Nat) w', y < O.length → RT w' 0 q v' n f C U O → Calls Tryd.prog 46 #[.pointer (some ⟨q, 0, none⟩), .int .i64 y] w' fun e w'' => e = .returned (.tuple #[.string (lAt O y), .int .i64 0]) ∧ Below w'.heap.size w' w'' from fun y w' hy h => by
    have := trdigest_any 0 q v' n f C U O y w' h (by have := HL.out.2; have := HNN.out.2.1; omega)
    rw [digP_in hy] at this
    exact this)
  have HIN := Lib.hid (info_parts Tryd.info3)
  have HI9 := Lib.hid (info_parts Tryd.info9)
  have HLO := Lib.hid (show ∀ wr, Below w8.heap.size w8 wr → RT wr 0 q v' n f C U O ∧ Rs wr av n cv Sx ∧ Kon wr ∧ Below w1.heap.size w1 wr ∧ Below w.heap.size w wr from fun wr hb => ⟨HT28.out.below hb, HR18.out.later hb, HK.out.below (HB8.out.trans (hb.mono HB8.out.size)), HC8.out.trans (hb.mono HC8.out.size), HB8.out.trans (hb.mono HB8.out.size)⟩)
  have HG0 := Lib.hid (show WG w8 pw p2 v2 n f C U L (.slice none 0 0) s0 [] va vw w10 from ⟨HPW.out, World.ownsRow_nil _ _ _ _, fun k hk => (by cases hk), HX8.out⟩)
  clear HT2 HR1 HPW HT28 HR18 HX8 HB9 HC9 HB10 HC10 HTF
  go_wp2_with fail
  go_loopw [14, 16] (fun gv i wr => ∃ (j : Nat) (s : WS) (got : List Int) (va vw : Value), i = .int .i64 j ∧ j = s.asked + s.came ∧ WI n f C U L O s got ∧ WG w8 pw p2 v2 n f C U L gv s got va vw wr) (fun _ i _ => nodes n f C U + 1 - (intOf i).toNat)
  case atStart => exact ⟨0, s0, [], va, vw, rfl, HS00.out.symm, HWI.out, HG0.out⟩
  case round =>
    clear HG0 HWI HS00
    obtain ⟨j, s, got, va, vw, rfl, hj, hwi, hwg⟩ := hrel
    obtain ⟨hst, hcg⟩ := hwi.room2
    have hrm := hwi.room ho HOK.out
    have hjn : (j : Int) ≤ (nodes n f C U : Int) := by omega
    have hjs : ∀ e, e = s.asks.length + s.wants.length → 0 < e → (j : Int) < (nodes n f C U : Int) := fun e h1 h2 => by omega
    have hwr : IntKind.i64.wrap ((j : Int) + 1) = ((j + 1 : Nat) : Int) := (IntWalk.i64_in _ (by have := HNN.out.2.1; omega)).trans (by push_cast; rfl)
    have HST := Lib.hid (And.intro hst (And.intro hcg (And.intro hrm (And.intro hj hjs))))
    clear hst hcg hrm hj hjs
    obtain ⟨kk, k, d, hF⟩ : ∃ kk k d, firstP s = (kk, (k, d)) := ⟨_, _, _, rfl⟩
    have hdn := fun va vw w' (h : PW w' w8.heap.size pw va vw p2 v2 n f C U L s) => done_of _ kk k d w' (by have := wfirst_any _ _ _ _ _ _ _ _ _ _ _ _ w' h; rw [hF] at this; exact this)
    have hnx := fun va vw w' (h : PW w' w8.heap.size pw va vw p2 v2 n f C U L s) => next_of _ kk k d w' (by have := wfirst_any _ _ _ _ _ _ _ _ _ _ _ _ w' h; rw [hF] at this; exact this)
    have HF := Lib.hid hF
    have HWI := Lib.hid hwi
    have HWG := Lib.hid hwg
    obtain ⟨ag, cg, rfl, -, -⟩ := iowns_shape hwg.row (by have := HST.out.2.1; have := HST.out.1; have := HST.out.2.2.1; have := HNN.out.2.1; omega)
    rcases ha : s.asks with _ | ⟨⟨ka, da⟩, qa⟩
    · rcases hw : s.wants with _ | ⟨⟨kw, dw⟩, qw⟩
      · have hkk : (kk, (k, d)) = ((0 : Int), ((0 : Int), noBytes)) := by rw [← hF]; unfold firstP; rw [ha, hw]
        cases hkk
        have HDN := Lib.hid hdn
        have HAW := Lib.hid (And.intro ha hw)
        have q1 : ((0 : Int) == 0) = true := rfl
        have hdl : (diffP n f C U L O).1.length ≤ 21845 := by
          have hsm := diff_small (L := L) (O := O) HOK.out
          have := lvs_fst (nxD n f C U L O) (lfD n L O) (lfD_le n L O) (height n f C U + 1) [((nodes n f C U - 1 : Nat) : Int)]
          unfold diffP at hsm ⊢
          omega
        have hge := hwi.done ha hw
        have htl := (diff_tells HOF1.out HOF2.out).2.2.1
        have hdf := fun p5 v5 w' h h' => rdiff_ok 0 p5 0 q v5 v' n f C U C U L O w' h h' HOK.out HL.out.1 HL.out.2
        rw [← hge.1, ← hge.2] at htl
        rw [← hge.1] at hdl
        simp only [← hge.1] at hdf
        have hH : (height n f C U : Int) ≤ 7 := by
          have hht : height n f C U = H n f := if_pos HOK.out
          rw [hht]
          exact_mod_cast (H_spec ho).2.2
        have hf4 : (f : Int) ≤ 4 := HOK.out.2.2.2.1
        obtain ⟨HH, hHH⟩ : ∃ z : Int, z = (height n f C U : Int) := ⟨_, rfl⟩
        have hH0 : 0 ≤ HH := by omega
        rw [← hHH] at htl hH
        have hht := HHT.out
        simp only [← hHH] at hht
        have b1 : 0 ≤ (f : Int) * HH := Int.mul_nonneg (by omega) (by omega)
        have b2 : (f : Int) * HH ≤ 28 := by
          have : (f : Int) * HH ≤ 4 * 7 := Int.mul_le_mul (by omega) (by omega) (by omega) (by omega)
          omega
        obtain ⟨FH, hFH⟩ : ∃ z : Int, z = (f : Int) * HH := ⟨_, rfl⟩
        rw [← hFH] at htl b1 b2
        have b3 : 0 ≤ FH * (got.length : Int) := Int.mul_nonneg (by omega) (by omega)
        have b4 : FH * (got.length : Int) ≤ 28 * 21845 := Int.mul_le_mul (by omega) (by omega) (by omega) (by omega)
        obtain ⟨FX, hFX⟩ : ∃ z : Int, z = FH * (got.length : Int) := ⟨_, rfl⟩
        rw [← hFX] at htl b3 b4
        have m1 : IntKind.i64.wrap ((f : Int) * HH) = FH := by rw [hFH]; exact IntWalk.i64_in _ (by omega)
        have m2 : IntKind.i64.wrap (FH * (got.length : Int)) = FX := by rw [hFX]; exact IntWalk.i64_in _ (by omega)
        have m3 : (s.told : Int) ≤ FX := by push_cast at htl; omega
        have hct := fun va vw w' h => counts_any w8.heap.size pw va vw p2 v2 n f C U L s w' h
        simp only [HST.out.2.1] at hct
        simp only [show ((0 : Int) == 0) = true from rfl] at hdn
        have HDN := Lib.hid hdn
        have HCT := Lib.hid hct
        have HDF := Lib.hid hdf
        have HDL := Lib.hid hdl
        have HHT2 := Lib.hid hht
        clear hdl hwi hwg hdn hnx hF ha hw hge htl hdf hH hf4 hH0 hHH hht b1 b2 b3 b4 hFH hFX hct
        go_wp2_with fail
        refine (HDN.out _ _ _ HWG.out.wk).mono ?_
        rintro e w11 ⟨rfl, hb⟩
        replace HWG := Lib.hid (HWG.out.below hb)
        clear hb
        go_upto_region 30 with fail
        have hG : Below w1.heap.size w1 w11.drew := (HLO.out _ HWG.out.b).2.2.2.1.drew
        have hR : Below w11.heap.size w11 w11.drew := (Below.refl _ _).drew
        go_region_held3 (fun w' => w'.cell? ⟨w.heap.size, 0, none⟩ = some (.int .i64 (n : Int)) ∧ w'.cell? ⟨w.heap.size, 1, none⟩ = some (.int .i64 (f : Int)) ∧ w'.cell? ⟨w.heap.size, 2, none⟩ = some (.int .i64 C) ∧ w'.cell? ⟨w.heap.size, 3, none⟩ = some (.int .i64 U))
          (exact HGC.out _ hG)
          (first
          | (go_at_call 24; with_reducible refine (HZ1.out _ (HBW.out _ hG)).mono ?_; rintro r w15 ⟨sv, rfl, how, hb⟩; obtain ⟨bv, dv, rfl, hrs, -⟩ := towns_shape how; have hdv : (dv : Int) ≤ 9223372036854775807 := (by have := hrs.cm; unfold maxLen at this; omega); have hdn : n ≤ dv := hrs.le; have HR2 := Lib.hid hrs; replace hG := hG.trans (hb.mono hG.size); replace hR := hR.trans (hb.mono hR.size); clear hb how hrs)
          | (go_at_call 14; with_reducible refine (HNR.out _ _ _ HR2.out).mono ?_; rintro r w16 ⟨p5, v5, rfl, hT, hb⟩; have HT5 := Lib.hid hT.low0; replace hG := hG.trans (hb.mono hG.size); replace hR := hR.trans (hb.mono hR.size); clear hb hT))
        rename_i hHeld
        clear hHeld hdv hdn HR2 HNR
        replace HWG := Lib.hid (HWG.out.below hR)
        clear hG hR
        go_wp2_with fail
        refine (HDF.out _ _ _ HT5.out (HLO.out _ HWG.out.b).1).mono ?_
        rintro e w17 ⟨sv, rfl, how, hb⟩
        obtain ⟨ad, cd, rfl, hrd, -⟩ := iowns_shape how (by have := HDL.out; omega)
        have HRD := Lib.hid hrd
        replace HWG := Lib.hid (HWG.out.below hb)
        clear hb how hrd HT5
        go_wp2_with fail
        refine (HCT.out _ _ _ HWG.out.wk).mono ?_
        rintro e w18 ⟨rfl, hb⟩
        replace HRD := Lib.hid (HRD.out.later hb)
        replace HWG := Lib.hid (HWG.out.below hb)
        clear hb
        go_upto_region 33 with fail
        have hG : Below w1.heap.size w1 w18.drew := (HLO.out _ HWG.out.b).2.2.2.1.drew
        have hR : Below w18.heap.size w18 w18.drew := (Below.refl _ _).drew
        have HLG := Lib.hid (show ∀ w', Below w18.heap.size w18 w' → Li w' (.slice ag got.length cg) got from fun w' hb => li_owns (HWG.out.below hb).row (by have := HDL.out; omega))
        have HLD := Lib.hid (show ∀ w', Below w18.heap.size w18 w' → Li w' (.slice ad got.length cd) got from fun w' hb => ⟨_, _, _, rfl, HRD.out.later hb⟩)
        go_region_held3 (fun w' => w'.cell? ⟨w.heap.size, 0, none⟩ = some (.int .i64 (n : Int)) ∧ w'.cell? ⟨w.heap.size, 1, none⟩ = some (.int .i64 (f : Int)) ∧ w'.cell? ⟨w.heap.size, 2, none⟩ = some (.int .i64 C) ∧ w'.cell? ⟨w.heap.size, 3, none⟩ = some (.int .i64 U))
          (exact HGC.out _ hG)
          (first
          | (go_at_call 41; with_reducible refine (HDN.out _ _ _ (HWG.out.below hR).wk).mono ?_; rintro r w19 ⟨rfl, hb⟩; replace hG := hG.trans (hb.mono hG.size); replace hR := hR.trans (hb.mono hR.size); clear hb)
          | (go_at_call 28; with_reducible refine (ints_sameZ _ _ _ _ (HLG.out _ hR) (HLD.out _ hR)).mono ?_; rintro r w20 ⟨rfl, hb⟩; replace hG := hG.trans (hb.mono hG.size); replace hR := hR.trans (hb.mono hR.size); clear hb)
          | (go_at_call 29; with_reducible refine (HHT2.out _).mono ?_; rintro r w21 ⟨rfl, hb⟩; replace hG := hG.trans (hb.mono hG.size); replace hR := hR.trans (hb.mono hR.size); clear hb)
          | (go_at_call 31; with_reducible refine (HKN.out _ (HBW.out _ hG)).mono ?_; rintro r w22 ⟨rfl, hb⟩; replace hG := hG.trans (hb.mono hG.size); replace hR := hR.trans (hb.mono hR.size); clear hb))
        rename_i hHeld
        clear hHeld
        have HBE := Lib.hid (HBW.out _ hG)
        clear hG hR
        go_wp2_with fail
        go_ret
        exact ⟨rfl, HBE.out⟩
      · have hkk : (kk, (k, d)) = ((2 : Int), (kw, dw)) := by rw [← hF]; unfold firstP; rw [ha, hw]
        cases hkk
        obtain ⟨⟨x, rfl, hx⟩, hdx, hwi2⟩ := hwi.want ha hw
        rw [Int.toNat_natCast] at hdx
        have hrs := fun wr hb => (HLO.out wr hb).2.1
        have hde : dataErr s (x : Int) (lAt Sx x) = 0 := by
          unfold dataErr
          rw [hF, if_neg (by simp), if_neg (by rw [HSL.out.2 x (by rw [HSL.out.1]; exact hx)]; simp), if_neg (by
            rw [← HOF2.out.leaf x (by rw [HSL.out.1]; exact hx)]
            simp [hdx])]
        have hdt := fun va vw w' (h : PW w' w8.heap.size pw va vw p2 v2 n f C U L s) hk => data_any w8.heap.size pw va vw p2 v2 n f C U L s (x : Int) (lAt Sx x) w' h hk (by have := HST.out; have := HNN.out.2.1; omega) (by have := HST.out; have := HNN.out.2.1; omega)
        rw [hde, show dataS s (x : Int) (lAt Sx x) = { s with wants := s.wants.drop 1, came := s.came + 1 } from if_pos hde] at hdt
        have HDT := Lib.hid hdt
        have HDN := Lib.hid hdn
        have HNX := Lib.hid hnx
        have HWI2 := Lib.hid hwi2
        have hjlt := HST.out.2.2.2.2 _ rfl (by rw [hw, List.length_cons]; omega)
        have HJL := Lib.hid hjlt
        have q1 : ((2 : Int) == 0) = false := rfl
        have q2 : ((2 : Int) == 1) = false := rfl
        have q3 : ((2 : Int) == 2) = true := rfl
        have q4 : (0 : Int) ≤ (x : Int) := by omega
        have q5 : (x : Int) < (n : Int) := by omega
        clear hwi hwg hdn hnx hF ha hw hdt hde hrs hwi2 hjlt hdx
        go_wp2_with fail
        refine (HDN.out _ _ _ HWG.out.wk).mono ?_
        rintro e w11 ⟨rfl, hb⟩
        replace HWG := Lib.hid (HWG.out.below hb)
        clear hb HDN
        go_wp2_with fail
        refine (HNX.out _ _ _ HWG.out.wk).mono ?_
        rintro e w12 ⟨rfl, hb⟩
        replace HWG := Lib.hid (HWG.out.below hb)
        clear hb HNX
        obtain ⟨b3, o3, e3, -, hc3⟩ := (HLO.out _ HWG.out.b).2.1.at0 (by omega)
        subst e3
        have c3 := hc3 x (by omega)
        obtain ⟨sx, hsx⟩ : ∃ sx, sx = lAt Sx x := ⟨_, rfl⟩
        rw [← hsx] at c3 HDT
        clear hc3 hsx
        go_wp2_with fail
        refine (HDT.out _ _ _ HWG.out.wk (HLO.out _ HWG.out.b).2.2.1).mono ?_
        rintro e w13 ⟨rfl, hxx⟩
        obtain ⟨va3, vw3, hwg3⟩ := HWG.out.walked hxx
        have HG3 := Lib.hid hwg3
        clear hxx hwg3 HDT HWG c3
        obtain ⟨i0, hi, hz0, hz1, hz2⟩ := HIN.out
        have hga := HG3.out.below ((Below.refl _ _).alloc (Nat.le_refl _) (.cells #[.int .i64 (x : Int)] 3))
        go_wp2_with (at_builtin; refine wpList_append_ia (o := ⟨some 135, _, _, _, _, _⟩) rfl (.tmp 132) (.tmp 134) 46 rfl w8.heap.size i0 Tryd.underlying46 hi hz0 hz1 hz2 _ _ _ rfl hga.row _ rfl rfl (by have := HST.out; have := HNN.out.2.1; omega) hga.b.size ?_)
        intro v5 w5 h1 h2 h3
        have HG5 := Lib.hid (hga.grow h1 h2 (by rw [World.size_alloc]; exact h3))
        obtain ⟨a5, c5, rfl, _, _, _⟩ := owns_shape1 h1
        clear h1 h2 h3 hga
        go_wp2_with fail
        go_roundw
        case rel => exact ⟨j + 1, _, _, _, _, by go_num, by show j + 1 = s.asked + (s.came + 1); have := HST.out.2.2.2.1; omega, HWI2.out, HG5.out⟩
        case measure => simp [intOf]; have := HJL.out; omega
    · have hkk : (kk, (k, d)) = ((1 : Int), (ka, da)) := by rw [← hF]; unfold firstP; rw [ha]
      cases hkk
      obtain ⟨⟨x, rfl, hx1, hx2⟩, hdx, hwi2⟩ := hwi.ask ho HOK.out ha
      rw [Int.toNat_natCast] at hdx
      have hch := HCH.out (x : Int)
      have hkl := children_len n f C U (x : Int)
      have hcm : ∀ c ∈ children n f C U (x : Int), ∃ y : Nat, c = y ∧ y < O.length := fun c hc => by
        obtain ⟨j, e, hj⟩ := children_mem hc
        exact ⟨j, e, by have := HL.out.2; omega⟩
      have hdd : nodeB (kids O (children n f C U (x : Int))) = d := by rw [hdx]; exact (HOF2.out.node x (by rw [HSL.out.1]; exact hx1) hx2).symm
      have hln := fndS_len n L (cutA s) (children n f C U (x : Int)) (kids O (children n f C U (x : Int))) (children n f C U (x : Int)).length
      obtain ⟨s2, hs2⟩ : ∃ s2, s2 = nodesS n f C U L s x (kids O (children n f C U (x : Int))) := ⟨_, rfl⟩
      have hs2a : s2.asked + s2.came = j + 1 := by
        have h1 : s2.asked = s.asked + 1 := by rw [hs2]; rfl
        have h2 : s2.came = s.came := by rw [hs2]; exact hln.2.2.2
        have := HST.out.2.2.2.1
        omega
      rw [← hs2] at hwi2
      obtain ⟨ks, hks⟩ : ∃ ks, ks = children n f C U (x : Int) := ⟨_, rfl⟩
      have hnd2 := fun va vw w' aa cc (h : PW w' w8.heap.size pw va vw p2 v2 n f C U L s) hk (hP : Rs w' aa (kids O ks).length cc (kids O ks)) hPa => nodes_ok w8.heap.size pw va vw p2 v2 n f C U L s (x : Int) d aa (kids O ks).length cc (kids O ks) w' h hk hF (by rw [kids_length, hks]) (by rw [hks]; exact hdd) (fun i hi => by
        rw [kids_length] at hi
        obtain ⟨y, e, hy⟩ := hcm (ks[i]'hi) (by rw [← hks]; exact List.getElem_mem hi)
        have e2 : lAt (kids O ks) i = lAt O (ks[i]'hi).toNat := by unfold lAt kids; rw [List.getElem?_map, List.getElem?_eq_getElem hi]; rfl
        rw [e2, e, Int.toNat_natCast, HS2.out y hy]; omega) HL.out.1 hP hPa (by have := HST.out; have := HNN.out.2.1; omega) (by have := HST.out; have := HNN.out.2.1; omega)
      rw [← hks] at hs2
      rw [← hs2] at hnd2
      rw [kids_length] at hnd2
      rw [← hks] at hch hcm hkl
      have hjlt := HST.out.2.2.2.2 _ rfl (by rw [ha, List.length_cons]; omega)
      have HND2 := Lib.hid hnd2
      have HJL := Lib.hid hjlt
      have HS2A := Lib.hid hs2a
      have HWI2 := Lib.hid hwi2
      have HDN := Lib.hid hdn
      have HNX := Lib.hid hnx
      have HCH2 := Lib.hid hch
      have HKM := Lib.hid hcm
      have q1 : ((1 : Int) == 0) = false := rfl
      have q2 : ((1 : Int) == 1) = true := rfl
      have q3 : ((1 : Int) == 2) = false := rfl
      clear hwi hwg hdn hnx hF ha hdx hwi2 hch hcm hdd hln hs2 hs2a hks hnd2 hjlt
      go_wp2_with fail
      refine (HDN.out _ _ _ HWG.out.wk).mono ?_
      rintro e w11 ⟨rfl, hb⟩
      replace HWG := Lib.hid (HWG.out.below hb)
      clear hb HDN
      go_wp2_with fail
      refine (HNX.out _ _ _ HWG.out.wk).mono ?_
      rintro e w12 ⟨rfl, hb⟩
      replace HWG := Lib.hid (HWG.out.below hb)
      clear hb HNX
      obtain ⟨g0, g1, g2, g3⟩ := HGC.out _ (HLO.out _ HWG.out.b).2.2.2.1
      go_wp2_with fail
      refine (HCH2.out _).mono ?_
      rintro e w13 ⟨⟨vk, rfl, ak, nk, ck, rfl, hri, hlow⟩, hb⟩
      have hnk := hri.len
      subst hnk
      have hck : (ck : Int) ≤ 9223372036854775807 ∧ ks.length ≤ ck := ⟨by have := hri.cm; unfold maxLen at this; omega, hri.le⟩
      obtain ⟨hck1, hck2⟩ := hck
      replace HWG := Lib.hid (HWG.out.below hb)
      have HRI := Lib.hid hri
      clear hb hri hlow g0 g1 g2 g3 HCH2
      go_wp2_with fail
      go_loopw [20, 22] (fun lv m wr => ∃ i : Nat, i ≤ ks.length ∧ m = .int .i64 i ∧ wr.ownsRow w13.heap.size 9 1 lv i (strs ((kids O ks).take i)) ∧ Below w13.heap.size w13 wr) (fun _ m _ => ks.length - (intOf m).toNat)
      case atStart => exact ⟨0, by omega, rfl, World.ownsRow_nil _ _ _ _, Below.refl _ _⟩
      case round =>
        obtain ⟨i, hi, rfl, hor, hB⟩ := hrel
        by_cases hlt : i < ks.length
        · obtain ⟨b4, o4, e4, -, hc4⟩ := (HRI.out.later hB).at0 (by omega)
          subst e4
          have c4 := hc4 i hlt
          obtain ⟨y, hy, hyl⟩ := HKM.out _ (List.getElem_mem hlt)
          rw [show ks[i]?.getD 0 = (y : Int) from by rw [List.getElem?_eq_getElem hlt]; exact hy] at c4
          have hdg := HDG.out y wr hyl (HLO.out wr (HWG.out.b.trans (hB.mono HWG.out.b.size))).1
          have htk : (kids O ks).take (i + 1) = (kids O ks).take i ++ [lAt O y] := by
            rw [List.take_add_one]
            unfold kids
            rw [List.getElem?_map, List.getElem?_eq_getElem hlt, hy]
            rfl
          obtain ⟨dy, hdy⟩ : ∃ dy, dy = lAt O y := ⟨_, rfl⟩
          rw [← hdy] at hdg htk
          have j0 : (0 : Int) ≤ (i : Int) := by omega
          have j1 : (i : Int) < (ks.length : Int) := by omega
          have HTK := Lib.hid htk
          have HO := Lib.hid hor
          have HB := Lib.hid hB
          have HDG2 := Lib.hid hdg
          obtain ⟨i9, hi9, hz90, hz91, hz92⟩ := HI9.out
          clear htk hor hB hdg hdy hc4 hy
          go_wp2_with fail
          refine HDG2.out.mono ?_
          rintro e w15 ⟨rfl, hb⟩
          have ho4 := owns_kept HO.out fun j hj => hb.block j (HO.out.lt j hj).2
          have ho5 := ho4.alloc (.cells #[.string dy] 9)
          have HB5 := Lib.hid (HB.out.trans (hb.mono HB.out.size))
          have HO4 := Lib.hid ho4
          clear hb ho4
          go_wp2_with (at_builtin; refine wpList_append_s (o := ⟨some 108, _, _, _, _, _⟩) rfl (.tmp 105) (.tmp 107) 24 rfl w13.heap.size i9 Tryd.underlying24 hi9 hz90 hz91 hz92 _ i _ rfl ho5 _ rfl rfl (by omega) (by have := HB5.out.size; simp; omega) ?_)
          intro v5 w5 h1 h2 _
          rw [← HTK.out] at h1
          have hB6 := (HB5.out.alloc HB5.out.size (.cells #[.string dy] 9)).grown h2 (by have := HB5.out.size; simp; omega) (fun x e => (HO4.out.lt x e).1)
          have HX := Lib.hid h1
          have HB6 := Lib.hid hB6
          clear h1 h2 hB6 ho5
          go_wp2_with fail
          go_roundw
          case rel => exact ⟨i + 1, by omega, by go_num, HX.out, HB6.out⟩
          case measure => simp [intOf]; omega
        · obtain rfl : i = ks.length := by omega
          have j1 : ¬ ((ks.length : Int) < (ks.length : Int)) := by omega
          rw [show (kids O ks).take ks.length = kids O ks from List.take_of_length_le (by rw [kids_length]; exact Nat.le_refl _)] at hor
          obtain ⟨al, cl, rfl, hrs, hal⟩ := towns_shape hor
          have HPA := Lib.hid (show ∀ b off, al = some ⟨b, off, none⟩ → ¬ wfoot pw va vw b from fun b off e hx => by
            have h1 := (hal b off none e).1
            have h2 := (HWG.out.wk.foot b hx).2
            omega)
          replace HWG := Lib.hid (HWG.out.below hB)
          have HRS := Lib.hid hrs
          clear hor hrs hal hB HRI
          go_wp2_with fail
          refine (HND2.out _ _ _ _ _ HWG.out.wk (HLO.out _ HWG.out.b).2.2.1 HRS.out HPA.out).mono ?_
          rintro e w16 ⟨rfl, hxx⟩
          obtain ⟨va3, vw3, hwg3⟩ := HWG.out.walked hxx
          have HG3 := Lib.hid hwg3
          clear hxx hwg3 HND2 HWG HRS HPA
          go_wp2_with fail
          go_roundw
          case rel => exact ⟨j + 1, _, _, _, _, by go_num, HS2A.out.symm, HWI2.out, HG3.out⟩
          case measure => simp [intOf]; have := HJL.out; omega

theorem wends_any (N F C U : Int) (a : Option Addr) (l cap : Nat) (xs : List UInt8) (a2 : Option Addr) (l2 cap2 : Nat) (ys : List UInt8) (w : World) (hP : Rd w a l cap xs) (hQ : Rd w a2 l2 cap2 ys) (hK : Kon w) :
    Calls Tryd.prog 9 #[geo N F C U, .slice a l cap, .slice a2 l2 cap2] w fun e w' => e = .returned (.bool true) ∧ Below w.heap.size w w' := by
  by_cases hN : N ≤ 30
  · by_cases hok : okG N F C U
    · obtain ⟨n, f, rfl, rfl, ho⟩ := ok_of hok
      exact wends_ok n f C U a l cap xs a2 l2 cap2 ys w hP hQ hK hN hok ho
    · exact wends_bad N F C U a l cap xs a2 l2 cap2 ys w hP hQ hK hN hok
  · exact wends_far N F C U a l cap xs a2 l2 cap2 ys w hP hQ hK (by omega)
end Go.Proofs.YtojanhpilhledaaDoor

/-
  Texts put together: Q6.
-/
import Derived.Test.YtjohgagiccndpaaGreatDoorMQ3
import Derived.Test.YtjohgagiccndpaaGreatDoorMPJ
import Derived.Deep.RegionHeld3
/-
  The fixed calls of layer 17.
-/
namespace Go.Proofs.YtjohgagiccndpaaGreatDoor
open Go.RowKit
set_option linter.unusedVariables false
set_option linter.unusedSimpArgs false

theorem guard_txt17 (op : BinOp) (x y : Operand) (u s : ByteArray) (w : World) : Sem.run Tryz.prog (eqGuard op 9 x y (.string u) (.string s)) w = .ok () w := by
  unfold eqGuard
  cases op <;> rfl
theorem eql_txt17 (u s : ByteArray) (w : World) : (binOp .eql 9 (.string u) (.string s)).run Tryz.prog w = .ok (.bool (decide (u = s))) w := by
  obtain ⟨xs, rfl⟩ : ∃ xs : List UInt8, u = ⟨xs.toArray⟩ := ⟨u.data.toList, by cases u; simp⟩
  obtain ⟨ys, rfl⟩ : ∃ xs : List UInt8, s = ⟨xs.toArray⟩ := ⟨s.data.toList, by cases s; simp⟩
  go_simp
  by_cases h : xs = ys <;> simp [h]

set_option maxRecDepth 20000 in
set_option maxHeartbeats 4000000 in
theorem known17_any (w : World) :
    Calls Tryz.prog 37 #[] w fun e w' => e = .returned (.bool true) ∧ Below w.heap.size w w' := by
  have hgc := gb_cells w 2 2 2 1
  have hsz := fun w => rsize_any 2 2 2 1 0 w
  rw [kn17_size] at hsz
  unfold gbox at hgc
  unfold geo at hsz
  have hb0 : Below w.heap.size w (w.alloc (.cells #[.int .i64 2, .int .i64 2, .int .i64 2, .int .i64 1] 23)) := (Below.refl _ w).alloc (Nat.le_refl _) _
  have hs0 := World.size_alloc w (.cells #[.int .i64 2, .int .i64 2, .int .i64 2, .int .i64 1] 23)
  obtain ⟨W, hW⟩ : ∃ W, W = w.alloc (.cells #[.int .i64 2, .int .i64 2, .int .i64 2, .int .i64 1] 23) := ⟨_, rfl⟩
  rw [← hW] at hgc hb0 hs0
  obtain ⟨c0, c1, c2, c3⟩ := hgc W (by rw [← hs0]; exact Below.refl _ _)
  have hn := fun w => st_new 15 w (by omega) (by omega)
  rw [show ((15 : Nat) : Int) = 15 from rfl] at hn
  have HGC := Lib.hid hgc
  have HSZ := Lib.hid hsz
  have HB0 := Lib.hid hb0
  have HS0 := Lib.hid hs0
  have HN := Lib.hid hn
  have HW := Lib.hid hW
  clear hgc hsz hb0 hs0 hn
  go_enter Tryz.func37, Tryz.ntmps37
  go_upto_region 2 with fail
  rw [← HW.out]
  clear hW
  go_wp2_with fail
  refine (HSZ.out _).mono ?_
  rintro e w1 ⟨rfl, hb⟩
  have HB1 := Lib.hid (show Below (w.heap.size + 1) W w1 from hb.mono (by have := HS0.out; omega))
  clear hb c0 c1 c2 c3 HSZ
  go_wp2_with fail
  refine (HN.out _).mono ?_
  rintro e w2 ⟨p, rfl, hst⟩
  have hgl : ∀ w', Below w1.heap.size w1 w' → w'.cell? ⟨w.heap.size, 0, none⟩ = some (.int .i64 2) ∧ w'.cell? ⟨w.heap.size, 1, none⟩ = some (.int .i64 2) ∧ w'.cell? ⟨w.heap.size, 2, none⟩ = some (.int .i64 2) ∧ w'.cell? ⟨w.heap.size, 3, none⟩ = some (.int .i64 1) := fun w' hb => HGC.out w' (HB1.out.trans (hb.mono (by have := HB1.out.size; have := HS0.out; omega)))
  have HGL := Lib.hid hgl
  have HBW := Lib.hid (HB0.out.trans (HB1.out.mono (by have := HS0.out; omega)))
  have hap := hst.step (S' := (capP 2 2 2 1 (ds0 15) 0 3 1).ds) (f := 39) (args := #[.pointer (some ⟨p, 0, none⟩), geo 2 2 2 1, .int .i64 0, .int .u64 ((3 : Nat) : Int), .int .i64 1]) (R := .returned (capP 2 2 2 1 (ds0 15) 0 3 1).val) fun v1 v2 hp hz hq => cappend_any _ p v1 v2 (ds0 15) 2 2 2 1 0 3 1 w2 hp hz 0 (ds0_ok 15 (by omega)) (by omega) (by omega) (fun T x hT => by
    subst hT
    rw [ds0_flat]
    exact flat_sizes (fun i hi => by rw [lAt_rep (by simpa using hi)]; exact secOf_size 0) 0 x)
  rw [k17_app] at hap
  unfold geo ApR.val En.val at hap
  dsimp only at hap
  rw [show ((0 : Nat) : Int) = 0 from rfl, show ((3 : Nat) : Int) = 3 from rfl] at hap
  have HAP := Lib.hid hap
  obtain ⟨c0, c1, c2, c3⟩ := HGL.out w2 hst.fin
  clear hst hap hgl HN HB1
  go_wp2_with fail
  refine HAP.out.mono ?_
  rintro e w3 ⟨rfl, hst, -⟩
  have hB3a := (Below.refl w3.heap.size w3).alloc (Nat.le_refl _) (.cells #[.int .u64 0, .int .u64 3, .int .i64 1, .string (secOf 0)] 55)
  have hx3 := heap_alloc_new w3 (.cells #[.int .u64 0, .int .u64 3, .int .i64 1, .string (secOf 0)] 55)
  have HST3 := Lib.hid (hst.add (b := w3.heap.size) hB3a (Nat.le_refl _) (by simp))
  have HX3 := Lib.hid hx3
  obtain ⟨W3, hW3⟩ : ∃ W3, W3 = w3.alloc (.cells #[.int .u64 0, .int .u64 3, .int .i64 1, .string (secOf 0)] 55) := ⟨_, rfl⟩
  rw [← hW3] at HST3 HX3
  obtain ⟨bx, hbx⟩ : ∃ b, b = w3.heap.size := ⟨_, rfl⟩
  rw [← hbx] at HX3
  obtain ⟨Z, hZ⟩ : ∃ Z, Z = secOf 0 := ⟨_, rfl⟩
  have HZZ := Lib.hid hZ
  rw [← hZ] at HX3 hW3
  have HW3 := Lib.hid hW3
  have HBXX := Lib.hid hbx
  rw [← hZ]
  clear hst hB3a hx3 HAP c0 c1 c2 c3 hW3 hbx hZ
  go_upto_region 4 with fail
  rw [← HW3.out, ← HBXX.out]
  -- the two scans
  have hok4 : (flat k17L 4).ok 4 := flat_ok' _ _ (by rw [k17_len]; omega)
  have hsz4 : ∀ x : Int, ((flat k17L 4).read x).1.size ≤ 140737488355328 := flat_sizes k17_fresh.sizes 4
  have hsc := fun (ep : Nat) (wz : World) (hst : St (fun k => NoQ k ∨ k = w3.heap.size) w1 wz p (flat k17L 4)) => (show Calls Tryz.prog 40 #[.pointer (some ⟨p, 0, none⟩), geo 2 2 2 1, .int .u64 (ep : Int)] wz fun e w' => (∃ a c, e = .returned (.tuple #[.slice a (cscanP 2 2 2 1 (flat k17L 4) ep).1.length c, .int .i64 (cscanP 2 2 2 1 (flat k17L 4) ep).2]) ∧ Es w' a (cscanP 2 2 2 1 (flat k17L 4) ep).1.length c (cscanP 2 2 2 1 (flat k17L 4) ep).1) ∧ Below wz.heap.size wz w' from by
    obtain ⟨v1, v2, hp, h0, hq⟩ := hst
    exact (cscan_any _ p v1 v2 (flat k17L 4) 2 2 2 1 ep wz hp 4 hok4 (by omega) hsz4).mono fun e w' ⟨⟨a, c, h1, h2, _⟩, h3⟩ => ⟨⟨a, c, h1, h2⟩, h3⟩)
  have hs2 := hsc 3 W3 HST3.out
  rw [k17_scan3] at hs2
  unfold geo at hs2 hsc
  dsimp only at hs2
  have HSC := Lib.hid hsc
  have HS2 := Lib.hid hs2
  obtain ⟨c0, c1, c2, c3⟩ := HGL.out W3 HST3.out.fin
  clear hsc hs2 hok4 hsz4
  go_wp2_with fail
  refine HS2.out.mono ?_
  rintro e w4 ⟨⟨a4, n4, rfl, hes⟩, hb⟩
  have hst4 := HST3.out.below hb
  have hs3 := HSC.out 4 w4 hst4
  rw [k17_scan4] at hs3
  dsimp only at hs3
  have HS3 := Lib.hid hs3
  have HST4 := Lib.hid hst4
  have HES := Lib.hid hes
  have HX4 := Lib.hid ((hb.block _ (lt_of_block HX3.out)).trans HX3.out)
  clear c0 c1 c2 c3
  obtain ⟨c0, c1, c2, c3⟩ := HGL.out w4 hst4.fin
  clear hs3 hst4 hes hb HSC HS2 HX3 HST3
  go_wp2_with fail
  refine HS3.out.mono ?_
  rintro e w5 ⟨⟨a5, n5, rfl, hes5⟩, hb⟩
  have hes4 := HES.out.later hb
  -- what is found
  have hfd := cfind_any a4 1 n4 _ 1 w5 hes4
  rw [k17_find] at hfd
  unfold findV at hfd
  dsimp only at hfd
  rw [← HZZ.out] at hfd
  have HFD := Lib.hid hfd
  have HES5 := Lib.hid hes4
  have HST5 := Lib.hid (HST4.out.below hb)
  have HX5 := Lib.hid ((hb.block _ (lt_of_block HX4.out)).trans HX4.out)
  clear hfd hes4 hes5 hb HES HS3 HX4 HST4 c0 c1 c2 c3
  go_wp2_with fail
  refine HFD.out.mono ?_
  rintro e w6 ⟨rfl, hb⟩
  have hes6 := HES5.out.later hb
  have HST6 := Lib.hid (HST5.out.below hb)
  have HX6 := Lib.hid ((hb.block _ (lt_of_block HX5.out)).trans HX5.out)
  obtain ⟨g4, o4, rfl, hg4, hc4⟩ := hes6.at0 (by simp)
  obtain ⟨x0, x1, x2, x3⟩ := hc4 0 (by simp)
  have hk := And.intro x0 (And.intro x1 (And.intro x2 x3))
  have y0 : w6.cell? ⟨bx, 0, none⟩ = some (.int .u64 0) := by rw [cell_of_blk HX6.out]; rfl
  have y1 : w6.cell? ⟨bx, 1, none⟩ = some (.int .u64 3) := by rw [cell_of_blk HX6.out]; rfl
  have y2 : w6.cell? ⟨bx, 2, none⟩ = some (.int .i64 1) := by rw [cell_of_blk HX6.out]; rfl
  have y3 : w6.cell? ⟨bx, 3, none⟩ = some (.string Z) := by rw [cell_of_blk HX6.out]; rfl
  have hz := fun w => rzero_any w
  simp only [← HZZ.out] at hz hk
  simp only [show eAt ([⟨0, 3, 1, Z⟩] : List En) 0 = ⟨0, 3, 1, Z⟩ from rfl] at hk
  have hn4 : ((1 : Nat) : Int) ≤ (n4 : Int) := by have := hes6.le; simp at this; omega
  have hn4m : (n4 : Int) ≤ 9223372036854775807 := by have := hes6.cm; unfold maxLen at this; omega
  simp only [Nat.zero_mul, Nat.add_zero, show ((0 : Nat) : Int) = 0 from rfl, show ((3 : Nat) : Int) = 3 from rfl] at hk
  have hdn := fun w' (hb : Below w6.heap.size w6 w') => (HST6.out.below hb).read (f := 13) (args := #[.pointer (some ⟨p, 0, none⟩)]) (R := .returned (.int .i64 4)) fun v1 v2 hp => (done_any p 4 w' (by obtain ⟨fu, e, c0, c1, c2, c3, c4, c5, hf⟩ := hp.cells; exact c5)).mono fun e w' h => ⟨h.1, by rw [h.2]; exact Below.refl _ _⟩
  have gE : ∀ op x y w, Sem.run Tryz.prog (eqGuard op 55 x y (.agg #[.int .u64 0, .int .u64 3, .int .i64 1, .string Z]) (.agg #[.int .u64 0, .int .u64 3, .int .i64 1, .string Z])) w = .ok () w := fun op x y w => guard_en op x y 0 3 0 3 1 1 Z Z w
  have qE : ∀ w, (binOp .eql 55 (.agg #[.int .u64 0, .int .u64 3, .int .i64 1, .string Z]) (.agg #[.int .u64 0, .int .u64 3, .int .i64 1, .string Z])).run Tryz.prog w = .ok (.bool true) w := fun w => by rw [eql_en]; simp
  have hlt6 := lt_of_block HX6.out
  have hg6 : g4 < w6.heap.size := hg4
  have hkp : ∀ w', Below w6.heap.size w6 w' → (w'.cell? ⟨g4, o4, none⟩ = some (.int .u64 0) ∧ w'.cell? ⟨g4, o4 + 1, none⟩ = some (.int .u64 3) ∧ w'.cell? ⟨g4, o4 + 2, none⟩ = some (.int .i64 1) ∧ w'.cell? ⟨g4, o4 + 3, none⟩ = some (.string Z)) ∧ w'.cell? ⟨bx, 0, none⟩ = some (.int .u64 0) ∧ w'.cell? ⟨bx, 1, none⟩ = some (.int .u64 3) ∧ w'.cell? ⟨bx, 2, none⟩ = some (.int .i64 1) ∧ w'.cell? ⟨bx, 3, none⟩ = some (.string Z) := fun w' hb => by
    refine ⟨⟨?_, ?_, ?_, ?_⟩, ?_, ?_, ?_, ?_⟩
    · exact (hb.cell (p := ⟨g4, o4, none⟩) hg6).trans hk.1
    · exact (hb.cell (p := ⟨g4, o4 + 1, none⟩) hg6).trans hk.2.1
    · exact (hb.cell (p := ⟨g4, o4 + 2, none⟩) hg6).trans hk.2.2.1
    · exact (hb.cell (p := ⟨g4, o4 + 3, none⟩) hg6).trans hk.2.2.2
    · exact (hb.cell (p := ⟨bx, 0, none⟩) hlt6).trans y0
    · exact (hb.cell (p := ⟨bx, 1, none⟩) hlt6).trans y1
    · exact (hb.cell (p := ⟨bx, 2, none⟩) hlt6).trans y2
    · exact (hb.cell (p := ⟨bx, 3, none⟩) hlt6).trans y3
  have HKP := Lib.hid hkp
  have HDN := Lib.hid hdn
  have HZ := Lib.hid hz
  have HN4 := Lib.hid (And.intro hn4 hn4m)
  have gT : ∀ op x y w, Sem.run Tryz.prog (eqGuard op 9 x y (.string Z) (.string Z)) w = .ok () w := fun op x y w => guard_txt17 op x y Z Z w
  have qT : ∀ w, (binOp .eql 9 (.string Z) (.string Z)).run Tryz.prog w = .ok (.bool true) w := fun w => by rw [eql_txt17]; simp
  clear hkp hdn hz hk y0 y1 y2 y3 x0 x1 x2 x3 hes6 hg4 hg6 hlt6 hc4 HES5 HFD HX5 HX6 HST5
  go_wp2_with fail
  have hG : Below w6.heap.size w6 w6.drew := (Below.refl _ _).drew

  go_region_held3 (fun w' => (w'.cell? ⟨g4, o4, none⟩ = some (.int .u64 0) ∧ w'.cell? ⟨g4, o4 + 1, none⟩ = some (.int .u64 3) ∧ w'.cell? ⟨g4, o4 + 2, none⟩ = some (.int .i64 1) ∧ w'.cell? ⟨g4, o4 + 3, none⟩ = some (.string Z)) ∧ w'.cell? ⟨bx, 0, none⟩ = some (.int .u64 0) ∧ w'.cell? ⟨bx, 1, none⟩ = some (.int .u64 3) ∧ w'.cell? ⟨bx, 2, none⟩ = some (.int .i64 1) ∧ w'.cell? ⟨bx, 3, none⟩ = some (.string Z)) (exact HKP.out _ hG)
    (first
    | (go_at_call 41; refine (HZ.out _).mono ?_; rintro e wz ⟨rfl, hbd⟩; replace hG := hG.trans (hbd.mono hG.size); clear hbd)
    | (go_at_call 13; refine (HDN.out _ hG).mono ?_; rintro e w7 ⟨rfl, hst7, hb67⟩; replace hG := hG.trans (hb67.mono hG.size)))
  all_goals (
    rename_i hHeld
    clear hHeld
    have HFIN := Lib.hid (HBW.out.trans (hst7.fin.mono HBW.out.size))
    clear hst7 hb67
    go_wp2
    go_ret
    exact ⟨rfl, HFIN.out⟩)
end Go.Proofs.YtjohgagiccndpaaGreatDoor

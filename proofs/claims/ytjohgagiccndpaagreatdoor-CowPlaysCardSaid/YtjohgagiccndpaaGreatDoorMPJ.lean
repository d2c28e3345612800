/-
  Texts put together: PJ, PK, PL.
-/
import Derived.Test.YtjohgagiccndpaaGreatDoorMPH
import Derived.Test.YtjohgagiccndpaaGreatDoorMP7
import Derived.Deep.RegionHeld3
/-
  The fixed calls of layer 15.
-/
namespace Go.Proofs.YtjohgagiccndpaaGreatDoor
open Go.RowKit
set_option linter.unusedVariables false
set_option linter.unusedSimpArgs false

theorem scan_low {N F C U : Int} {L : List ByteArray} {did tag ep ep0 : Nat} {l : List En} (ho : okG N F C U) (hL : (L.length : Int) = 6 + N + (nodes N F C U : Int) + 2 * U) (h : Holds N F C U L tag ep l) (hl : 0 < l.length) (ht : tag < 18446744073709551616) (he : ep < 18446744073709551616) (hep : ep ≤ ep0) :
    scanP N F C U (flat L did) ep0 = ([], 0) := by
  have hU := ho.2.2.2.2.2.2
  have hN := ho.2.1
  have hnf := nodes_few N F C U
  obtain ⟨g1, g2, g3, g4, g5⟩ := h.ent 0 hl
  have d0 : decB (lAt L (hIx N F C U 0)) = ⟨tag, ep, 0, (eAt l 0).place.toNat, sumN (eAt l 0).old⟩ := by
    rw [g4]; exact dec_head _ _ _ _ _ ht he (by omega) (by have := g3.1; have := g3.2; omega) (addN_lt _ _)
  have hs : stepP N F C U (flat L did) ep0 0 = .stop := by
    unfold stepP
    rw [hd_flat ho hL (k := 0) (by omega), d0]
    dsimp only
    rw [if_neg (by simp), if_pos (.inr (.inr (.inl hep)))]
  obtain ⟨u, hu⟩ : ∃ u, U.toNat = u + 1 := ⟨U.toNat - 1, by omega⟩
  unfold scanP
  rw [if_pos ho, hu]
  unfold seqP
  rw [hs]
  rfl

set_option maxRecDepth 20000 in
theorem guard_en (op : BinOp) (x y : Operand) (a b a' b' : Int) (c c' : Int) (u s : ByteArray) (w : World) : Sem.run Tryz.prog (eqGuard op 55 x y (.agg #[.int .u64 a, .int .u64 b, .int .i64 c, .string u]) (.agg #[.int .u64 a', .int .u64 b', .int .i64 c', .string s])) w = .ok () w := by
  unfold eqGuard
  cases op <;> first | rfl | go_simp
theorem eql_en (a b c a' b' c' : Int) (u s : ByteArray) (w : World) : (binOp .eql 55 (.agg #[.int .u64 a, .int .u64 b, .int .i64 c, .string u]) (.agg #[.int .u64 a', .int .u64 b', .int .i64 c', .string s])).run Tryz.prog w = .ok (.bool (decide (a = a' ∧ b = b' ∧ c = c' ∧ u = s))) w := by
  obtain ⟨xs, rfl⟩ : ∃ xs : List UInt8, u = ⟨xs.toArray⟩ := ⟨u.data.toList, by cases u; simp⟩
  obtain ⟨ys, rfl⟩ : ∃ xs : List UInt8, s = ⟨xs.toArray⟩ := ⟨s.data.toList, by cases s; simp⟩
  go_simp
  by_cases h1 : a = a' <;> by_cases h2 : b = b' <;> by_cases h3 : c = c' <;> by_cases h : xs = ys <;> simp [h1, h2, h3, h]

def k15L : List ByteArray := ((List.replicate 15 (secOf 0)).set 12 (secOf 0)).set 11 (headB 7 3 0 6 (sumN (secOf 0)))
theorem k15_len : k15L.length = 15 := by simp [k15L]
theorem k15_app : appP 2 2 0 2 (ds0 15) 0 7 3 6 = ⟨0, ⟨7, 3, 6, secOf 0⟩, flat k15L 4⟩ := by
  have h := flat_append (N := 2) (F := 2) (C := 0) (U := 2) (L := List.replicate 15 (secOf 0)) (did := 0) (k := 0) (pn := 6) (tag := 7) (epoch := 3) kn16_ok (by rw [kn16_nodes]; simp) (by omega) (by unfold mayP; rw [kn16_nodes]; omega) (by rw [lAt_rep (by omega)]; exact secOf_size 0)
  rw [kn16_nodes, lAt_rep (by omega)] at h
  exact h
theorem k15_fresh : Fresh 2 2 0 2 k15L 7 3 [⟨7, 3, 6, secOf 0⟩] := by
  have h0 := Fresh.new (tag := 7) (ep := 3) kn16_ok
  rw [kn16_nodes] at h0
  have h1 := h0.both (pn := 6) (by show ((0 : Nat) : Int) < 2; omega) (by unfold mayP; rw [kn16_nodes]; omega) (by omega)
  rw [lAt_rep (by decide)] at h1
  have e : hIx 2 2 0 2 ([] : List En).length = 11 := by unfold hIx; rw [kn16_nodes]; rfl
  rw [e] at h1
  exact h1
theorem k15_scan2 : scanP 2 2 0 2 (flat k15L 4) 2 = ([⟨7, 3, 6, secOf 0⟩], 0) := scan_holds kn16_ok k15_fresh.len k15_fresh.holds (by omega) (by omega) (by omega)
theorem k15_scan3 : scanP 2 2 0 2 (flat k15L 4) 3 = ([], 0) := scan_low kn16_ok k15_fresh.len k15_fresh.holds (by simp) (by omega) (by omega) (by omega)

set_option maxRecDepth 20000 in
set_option maxHeartbeats 4000000 in
theorem known15_any (w : World) :
    Calls Tryz.prog 8 #[] w fun e w' => e = .returned (.bool true) ∧ Below w.heap.size w w' := by
  have hgc := gb_cells w 2 2 0 2
  have hsz := fun w => rsize_any 2 2 0 2 1 w
  rw [kn16_size] at hsz
  unfold gbox at hgc
  unfold geo at hsz
  have hb0 : Below w.heap.size w (w.alloc (.cells #[.int .i64 2, .int .i64 2, .int .i64 0, .int .i64 2] 23)) := (Below.refl _ w).alloc (Nat.le_refl _) _
  have hs0 := World.size_alloc w (.cells #[.int .i64 2, .int .i64 2, .int .i64 0, .int .i64 2] 23)
  obtain ⟨W, hW⟩ : ∃ W, W = w.alloc (.cells #[.int .i64 2, .int .i64 2, .int .i64 0, .int .i64 2] 23) := ⟨_, rfl⟩
  rw [← hW] at hgc hb0 hs0
  obtain ⟨c0, c1, c2, c3⟩ := hgc W (by rw [← hs0]; exact Below.refl _ _)
  have hn := fun w => st_new 15 w (by omega) (by omega)
  rw [show ((15 : Nat) : Int) = 15 from rfl] at hn
  have HGC := Lib.hid hgc
  have HSZ := Lib.hid hsz
  have HB0 := Lib.hid hb0
  have HS0 := Lib.hid hs0
  have HN := Lib.hid hn
  have HW := Lib.hid hW
  clear hgc hsz hb0 hs0 hn
  go_enter Tryz.func8, Tryz.ntmps8
  go_upto_region 2 with fail
  rw [← HW.out]
  clear hW
  go_wp2_with fail
  refine (HSZ.out _).mono ?_
  rintro e w1 ⟨rfl, hb⟩
  have HB1 := Lib.hid (show Below (w.heap.size + 1) W w1 from hb.mono (by have := HS0.out; omega))
  clear hb c0 c1 c2 c3 HSZ
  go_wp2_with fail
  refine (HN.out _).mono ?_
  rintro e w2 ⟨p, rfl, hst⟩
  -- the geometry's cells, later
  have hgl : ∀ w', Below w1.heap.size w1 w' → w'.cell? ⟨w.heap.size, 0, none⟩ = some (.int .i64 2) ∧ w'.cell? ⟨w.heap.size, 1, none⟩ = some (.int .i64 2) ∧ w'.cell? ⟨w.heap.size, 2, none⟩ = some (.int .i64 0) ∧ w'.cell? ⟨w.heap.size, 3, none⟩ = some (.int .i64 2) := fun w' hb => HGC.out w' (HB1.out.trans (hb.mono (by have := HB1.out.size; have := HS0.out; omega)))
  have HGL := Lib.hid hgl
  have HBW := Lib.hid (HB0.out.trans (HB1.out.mono (by have := HS0.out; omega)))
  have hap := hst.step (S' := (appP 2 2 0 2 (ds0 15) 0 7 3 6).ds) (f := 18) (args := #[.pointer (some ⟨p, 0, none⟩), geo 2 2 0 2, .int .i64 0, .int .u64 ((7 : Nat) : Int), .int .u64 ((3 : Nat) : Int), .int .i64 6]) (R := .returned (appP 2 2 0 2 (ds0 15) 0 7 3 6).val) fun v1 v2 hp hz hq => append_any _ p v1 v2 (ds0 15) 2 2 0 2 0 7 3 6 w2 hp hz 0 (ds0_ok 15 (by omega)) (by omega) (by omega) (by omega) (fun T x hT => by
    subst hT
    rw [show ds0 15 = flat (List.replicate 15 (secOf 0)) 0 from rfl]
    unfold DS.read
    split
    · exact Nat.zero_le _
    · split
      · rename_i hh
        obtain ⟨k, rfl, hk⟩ := has_nat hh
        have hk' : k < 15 := by simpa [flat] using hk
        simp only [flat, look, List.length_nil, Int.toNat_natCast, lAt_rep hk', secOf_size]
        omega
      · exact Nat.zero_le _)
  rw [k15_app] at hap
  unfold geo ApR.val En.val at hap
  dsimp only at hap
  rw [show ((7 : Nat) : Int) = 7 from rfl, show ((3 : Nat) : Int) = 3 from rfl] at hap
  have HAP := Lib.hid hap
  obtain ⟨c0, c1, c2, c3⟩ := HGL.out w2 hst.fin
  clear hst hap hgl HN HB1
  go_wp2_with fail
  refine HAP.out.mono ?_
  rintro e w3 ⟨rfl, hst, -⟩
  have hB3a := (Below.refl w3.heap.size w3).alloc (Nat.le_refl _) (.cells #[.int .u64 7, .int .u64 3, .int .i64 6, .string (secOf 0)] 55)
  have hx3 := heap_alloc_new w3 (.cells #[.int .u64 7, .int .u64 3, .int .i64 6, .string (secOf 0)] 55)
  have HST3 := Lib.hid (hst.add (b := w3.heap.size) hB3a (Nat.le_refl _) (by simp))
  have HX3 := Lib.hid hx3
  obtain ⟨W3, hW3⟩ : ∃ W3, W3 = w3.alloc (.cells #[.int .u64 7, .int .u64 3, .int .i64 6, .string (secOf 0)] 55) := ⟨_, rfl⟩
  rw [← hW3] at HST3 HX3
  obtain ⟨bx, hbx⟩ : ∃ b, b = w3.heap.size := ⟨_, rfl⟩
  rw [← hbx] at HX3
  obtain ⟨Z, hZ⟩ : ∃ Z, Z = secOf 0 := ⟨_, rfl⟩
  have HZZ := Lib.hid hZ
  rw [← hZ] at HX3 hW3
  have HW3 := Lib.hid hW3
  have HBXX := Lib.hid hbx
  rw [← hZ]
  clear hst hB3a hx3 HAP c0 c1 c2 c3 hW3 hbx hZ
  go_upto_region 4 with fail
  rw [← HW3.out, ← HBXX.out]
  -- the two scans
  have hok4 : (flat k15L 4).ok 4 := flat_ok' _ _ (by rw [k15_len]; omega)
  have hsz4 : ∀ x : Int, ((flat k15L 4).read x).1.size ≤ 140737488355328 := fun x => by
    unfold DS.read
    split
    · exact Nat.zero_le _
    · split
      · rename_i hh
        obtain ⟨k, rfl, hk⟩ := has_nat hh
        have hk' : k < k15L.length := by simpa [flat] using hk
        simp only [flat, look, List.length_nil, Int.toNat_natCast, k15_fresh.sizes k hk']
        omega
      · exact Nat.zero_le _
  have hsc := fun (ep : Nat) (wz : World) (hst : St (fun k => NoQ k ∨ k = w3.heap.size) w1 wz p (flat k15L 4)) => (show Calls Tryz.prog 19 #[.pointer (some ⟨p, 0, none⟩), geo 2 2 0 2, .int .u64 (ep : Int)] wz fun e w' => (∃ a c, e = .returned (.tuple #[.slice a (scanP 2 2 0 2 (flat k15L 4) ep).1.length c, .int .i64 (scanP 2 2 0 2 (flat k15L 4) ep).2]) ∧ Es w' a (scanP 2 2 0 2 (flat k15L 4) ep).1.length c (scanP 2 2 0 2 (flat k15L 4) ep).1) ∧ Below wz.heap.size wz w' from by
    obtain ⟨v1, v2, hp, h0, hq⟩ := hst
    exact (scan_any _ p v1 v2 (flat k15L 4) 2 2 0 2 ep wz hp 4 hok4 (by omega) hsz4).mono fun e w' ⟨⟨a, c, h1, h2, _⟩, h3⟩ => ⟨⟨a, c, h1, h2⟩, h3⟩)
  have hs2 := hsc 2 W3 HST3.out
  rw [k15_scan2] at hs2
  unfold geo at hs2 hsc
  dsimp only at hs2
  have HSC := Lib.hid hsc
  have HS2 := Lib.hid hs2
  obtain ⟨c0, c1, c2, c3⟩ := HGL.out W3 HST3.out.fin
  clear hsc hs2 hok4 hsz4
  go_wp2_with fail
  refine HS2.out.mono ?_
  rintro e w4 ⟨⟨a4, n4, rfl, hes⟩, hb⟩
  have hst4 := HST3.out.below hb
  have hs3 := HSC.out 3 w4 hst4
  rw [k15_scan3] at hs3
  dsimp only at hs3
  have HS3 := Lib.hid hs3
  have HST4 := Lib.hid hst4
  have HES := Lib.hid hes
  have HX4 := Lib.hid ((hb.block _ (lt_of_block HX3.out)).trans HX3.out)
  clear c0 c1 c2 c3
  obtain ⟨c0, c1, c2, c3⟩ := HGL.out w4 hst4.fin
  clear hs3 hst4 hes hb HSC HS2 HX3 HST3
  go_wp2_with fail
  refine HS3.out.mono ?_
  rintro e w5 ⟨⟨a5, n5, rfl, hes5⟩, hb⟩
  have hes4 := HES.out.later hb
  obtain ⟨g4, o4, rfl, hg4, hc4⟩ := hes4.at0 (by simp)
  obtain ⟨x0, x1, x2, x3⟩ := hc4 0 (by simp)
  have HST5 := Lib.hid (HST4.out.below hb)
  have HX5 := Lib.hid ((hb.block _ (lt_of_block HX4.out)).trans HX4.out)
  have hk := And.intro x0 (And.intro x1 (And.intro x2 x3))
  have y0 : w5.cell? ⟨bx, 0, none⟩ = some (.int .u64 7) := by rw [cell_of_blk HX5.out]; rfl
  have y1 : w5.cell? ⟨bx, 1, none⟩ = some (.int .u64 3) := by rw [cell_of_blk HX5.out]; rfl
  have y2 : w5.cell? ⟨bx, 2, none⟩ = some (.int .i64 6) := by rw [cell_of_blk HX5.out]; rfl
  have y3 : w5.cell? ⟨bx, 3, none⟩ = some (.string Z) := by rw [cell_of_blk HX5.out]; rfl
  have hz := fun w => rzero_any w
  simp only [← HZZ.out] at hz hk
  simp only [show eAt ([⟨7, 3, 6, Z⟩] : List En) 0 = ⟨7, 3, 6, Z⟩ from rfl] at hk
  have hn4 : ((1 : Nat) : Int) ≤ (n4 : Int) := by have := hes4.le; simp at this; omega
  have hn4m : (n4 : Int) ≤ 9223372036854775807 := by have := hes4.cm; unfold maxLen at this; omega
  simp only [Nat.zero_mul, Nat.add_zero, show ((7 : Nat) : Int) = 7 from rfl, show ((3 : Nat) : Int) = 3 from rfl] at hk
  have hdn := fun w' (hb : Below w5.heap.size w5 w') => (HST5.out.below hb).read (f := 13) (args := #[.pointer (some ⟨p, 0, none⟩)]) (R := .returned (.int .i64 4)) fun v1 v2 hp => (done_any p 4 w' (by obtain ⟨fu, e, c0, c1, c2, c3, c4, c5, hf⟩ := hp.cells; exact c5)).mono fun e w' h => ⟨h.1, by rw [h.2]; exact Below.refl _ _⟩
  have gE : ∀ op x y w, Sem.run Tryz.prog (eqGuard op 55 x y (.agg #[.int .u64 7, .int .u64 3, .int .i64 6, .string Z]) (.agg #[.int .u64 7, .int .u64 3, .int .i64 6, .string Z])) w = .ok () w := fun op x y w => guard_en op x y 7 3 7 3 6 6 Z Z w
  have qE : ∀ w, (binOp .eql 55 (.agg #[.int .u64 7, .int .u64 3, .int .i64 6, .string Z]) (.agg #[.int .u64 7, .int .u64 3, .int .i64 6, .string Z])).run Tryz.prog w = .ok (.bool true) w := fun w => by rw [eql_en]; simp
  have hlt4 := lt_of_block HX5.out
  have hg5 : g4 < w5.heap.size := hg4
  have hkp : ∀ w', Below w5.heap.size w5 w' → (w'.cell? ⟨g4, o4, none⟩ = some (.int .u64 7) ∧ w'.cell? ⟨g4, o4 + 1, none⟩ = some (.int .u64 3) ∧ w'.cell? ⟨g4, o4 + 2, none⟩ = some (.int .i64 6) ∧ w'.cell? ⟨g4, o4 + 3, none⟩ = some (.string Z)) ∧ w'.cell? ⟨bx, 0, none⟩ = some (.int .u64 7) ∧ w'.cell? ⟨bx, 1, none⟩ = some (.int .u64 3) ∧ w'.cell? ⟨bx, 2, none⟩ = some (.int .i64 6) ∧ w'.cell? ⟨bx, 3, none⟩ = some (.string Z) := fun w' hb => by
    refine ⟨⟨?_, ?_, ?_, ?_⟩, ?_, ?_, ?_, ?_⟩
    · exact (hb.cell (p := ⟨g4, o4, none⟩) hg5).trans hk.1
    · exact (hb.cell (p := ⟨g4, o4 + 1, none⟩) hg5).trans hk.2.1
    · exact (hb.cell (p := ⟨g4, o4 + 2, none⟩) hg5).trans hk.2.2.1
    · exact (hb.cell (p := ⟨g4, o4 + 3, none⟩) hg5).trans hk.2.2.2
    · exact (hb.cell (p := ⟨bx, 0, none⟩) hlt4).trans y0
    · exact (hb.cell (p := ⟨bx, 1, none⟩) hlt4).trans y1
    · exact (hb.cell (p := ⟨bx, 2, none⟩) hlt4).trans y2
    · exact (hb.cell (p := ⟨bx, 3, none⟩) hlt4).trans y3
  have HKP := Lib.hid hkp
  have HDN := Lib.hid hdn
  have HZ := Lib.hid hz
  have HN4 := Lib.hid (And.intro hn4 hn4m)
  clear hkp hdn hz hk y0 y1 y2 y3 x0 x1 x2 x3 hes4 hes5 hb hg4 hg5 hlt4 hc4 HES HS3 HX4 HX5 HST4 c0 c1 c2 c3
  go_wp2_with fail
  go_region_held3 (fun w' => (w'.cell? ⟨g4, o4, none⟩ = some (.int .u64 7) ∧ w'.cell? ⟨g4, o4 + 1, none⟩ = some (.int .u64 3) ∧ w'.cell? ⟨g4, o4 + 2, none⟩ = some (.int .i64 6) ∧ w'.cell? ⟨g4, o4 + 3, none⟩ = some (.string Z)) ∧ w'.cell? ⟨bx, 0, none⟩ = some (.int .u64 7) ∧ w'.cell? ⟨bx, 1, none⟩ = some (.int .u64 3) ∧ w'.cell? ⟨bx, 2, none⟩ = some (.int .i64 6) ∧ w'.cell? ⟨bx, 3, none⟩ = some (.string Z)) (first | exact HKP.out _ hb7 | exact HKP.out _ hb6 | exact HKP.out w5 (Below.refl _ _))
    (first
    | (go_at_call 41; refine (HZ.out _).mono ?_; rintro e w6 ⟨rfl, hbd⟩; have hb6 : Below w5.heap.size w5 w6 := ⟨hbd.os, hbd.tape, hbd.output, hbd.size, hbd.block⟩; clear hbd)
    | (go_at_call 13; refine (HDN.out _ hb6).mono ?_; rintro e w7 ⟨rfl, hst7, hb67⟩; have hb7 := hb6.trans (hb67.mono hb6.size)))
  all_goals (
    rename_i hHeld
    clear hHeld
    have HFIN := Lib.hid (HBW.out.trans (hst7.fin.mono HBW.out.size))
    clear hst7 hb67
    go_wp2
    go_ret
    exact ⟨rfl, HFIN.out⟩)
end Go.Proofs.YtjohgagiccndpaaGreatDoor
/-
  Lists of entries compared: the document's Entries, and begins, where they are alike.
-/
namespace Go.Proofs.YtjohgagiccndpaaGreatDoor
open Go.RowKit
set_option linter.unusedVariables false
set_option linter.unusedSimpArgs false

theorem neq_en (a b c a' b' c' : Int) (u s : ByteArray) (w : World) : (binOp .neq 55 (.agg #[.int .u64 a, .int .u64 b, .int .i64 c, .string u]) (.agg #[.int .u64 a', .int .u64 b', .int .i64 c', .string s])).run Tryz.prog w = .ok (.bool (!decide (a = a' ∧ b = b' ∧ c = c' ∧ u = s))) w := by
  obtain ⟨xs, rfl⟩ : ∃ xs : List UInt8, u = ⟨xs.toArray⟩ := ⟨u.data.toList, by cases u; simp⟩
  obtain ⟨ys, rfl⟩ : ∃ xs : List UInt8, s = ⟨xs.toArray⟩ := ⟨s.data.toList, by cases s; simp⟩
  go_simp
  by_cases h1 : a = a' <;> by_cases h2 : b = b' <;> by_cases h3 : c = c' <;> by_cases h : xs = ys <;> simp [h1, h2, h3, h]

set_option maxRecDepth 20000 in
set_option maxHeartbeats 2000000 in
theorem entries_same (a1 a2 : Option Addr) (n c1 c2 : Nat) (X : List En) (w : World) (h1 : Es w a1 n c1 X) (h2 : Es w a2 n c2 X) :
    Calls Tryz.prog 20 #[.slice a1 n c1, .slice a2 n c2] w fun e w' => e = .returned (.bool true) ∧ Below w.heap.size w w' := by
  have hl1 := h1.le
  have hl2 := h2.le
  have hx1 : (c1 : Int) ≤ 9223372036854775807 := by have := h1.cm; unfold maxLen at this; omega
  have hx2 : (c2 : Int) ≤ 9223372036854775807 := by have := h2.cm; unfold maxLen at this; omega
  have H1 := Lib.hid h1
  have H2 := Lib.hid h2
  clear h1 h2
  go_enter Tryz.func20, Tryz.ntmps20
  go_wp2
  go_loopw [5] (fun i wr => ∃ k : Nat, k ≤ n ∧ i = .int .i64 k ∧ Below w.heap.size w wr) (fun i _ => n - (intOf i).toNat)
  case atStart => exact ⟨0, by omega, rfl, Below.refl _ _⟩
  case round =>
    obtain ⟨k, hk, rfl, hB⟩ := hrel
    by_cases hlt : k < n
    · have i1 : (0 : Int) ≤ (k : Int) := by omega
      have i2 : (k : Int) < (n : Int) := by omega
      have wr1 : IntKind.i64.wrap ((k : Int) + 1) = (k : Int) + 1 := IntWalk.i64_in _ (by omega)
      obtain ⟨b, off, rfl, hbl, hcl⟩ := (H1.out.later hB).at0 (by omega)
      obtain ⟨p0, p1, p2, p3⟩ := hcl k hlt
      obtain ⟨b', off', rfl, hbl', hcl'⟩ := (H2.out.later hB).at0 (by omega)
      obtain ⟨q0, q1, q2, q3⟩ := hcl' k hlt
      have HB := Lib.hid hB
      clear hcl hcl' hB
      generalize ((eAt X k).tag : Int) = x0 at *
      generalize ((eAt X k).epoch : Int) = x1 at *
      generalize (eAt X k).place = x2 at *
      generalize (eAt X k).old = x3 at *
      have gE : ∀ op x y w, Sem.run Tryz.prog (eqGuard op 55 x y (.agg #[.int .u64 x0, .int .u64 x1, .int .i64 x2, .string x3]) (.agg #[.int .u64 x0, .int .u64 x1, .int .i64 x2, .string x3])) w = .ok () w := fun op x y w => guard_en op x y _ _ _ _ _ _ _ _ w
      have qE : ∀ w, (binOp .neq 55 (.agg #[.int .u64 x0, .int .u64 x1, .int .i64 x2, .string x3]) (.agg #[.int .u64 x0, .int .u64 x1, .int .i64 x2, .string x3])).run Tryz.prog w = .ok (.bool false) w := fun w => by rw [neq_en]; simp
      go_wp2
      go_region
      go_wp2
      go_roundw
      case rel => exact ⟨k + 1, by omega, by go_num, ⟨HB.out.os, HB.out.tape, HB.out.output, HB.out.size, HB.out.block⟩⟩
      case measure => simp [intOf]; omega
    · obtain rfl : k = n := by omega
      go_wp2
      go_ret
      exact ⟨rfl, hB⟩

theorem Es.front {w : World} {a : Option Addr} {n c m : Nat} {X : List En} (h : Es w a n c X) (hm : m ≤ n) : Es w a m c (X.take m) := by
  refine ⟨by rw [List.length_take, h.len]; omega, Nat.le_trans hm h.le, h.cm, fun h0 => ?_⟩
  obtain ⟨b, off, ha, hb, hc⟩ := h.at0 (by omega)
  refine ⟨b, off, ha, hb, fun i hi => ?_⟩
  have e : eAt (X.take m) i = eAt X i := by unfold eAt; rw [List.getElem?_take_of_lt hi]
  rw [e]
  exact hc i (by omega)

set_option maxRecDepth 20000 in
set_option maxHeartbeats 2000000 in
theorem begins_same (a1 a2 : Option Addr) (n m c1 c2 : Nat) (X : List En) (w : World) (hm : m ≤ n) (h1 : Es w a1 n c1 X) (h2 : Es w a2 m c2 (X.take m)) :
    Calls Tryz.prog 24 #[.slice a1 n c1, .slice a2 m c2] w fun e w' => e = .returned (.bool true) ∧ Below w.heap.size w w' := by
  have hl1 := h1.le
  have hx1 : (c1 : Int) ≤ 9223372036854775807 := by have := h1.cm; unfold maxLen at this; omega
  have hs := entries_same a1 a2 m c1 c2 (X.take m) w (h1.front hm) h2
  have HS := Lib.hid hs
  clear hs h1 h2
  have i1 : (m : Int) ≤ (n : Int) := by omega
  have i2 : (m : Int) ≤ (c1 : Int) := by omega
  have i3 : (0 : Int) ≤ (m : Int) := by omega
  go_enter Tryz.func24, Tryz.ntmps24
  go_wp2_with fail
  refine HS.out.mono ?_
  rintro e w1 ⟨rfl, hb⟩
  clear HS
  go_wp2
  go_ret
  exact ⟨rfl, hb⟩
end Go.Proofs.YtjohgagiccndpaaGreatDoor
/-
  A disk and a list of entries, act by act: the steps of the walk of UndoKeeps.
-/
namespace Go.Proofs.YtjohgagiccndpaaGreatDoor
open Go.RowKit
set_option linter.unusedVariables false
set_option linter.unusedSimpArgs false

theorem St.grown {Q : Nat → Prop} {w0 w w' : World} {p : Nat} {S : DS} {row : Option Nat} (h : St Q w0 w p S) (hg : w.grownBy w' row) (hr : ∀ k, row = some k → Q k ∧ w0.heap.size ≤ k) : St Q w0 w' p S := by
  obtain ⟨v1, v2, hp, h0, hq⟩ := h
  refine ⟨v1, v2, hp.kept fun k hk => hg.block k (hp.foot_low k hk).2 (fun e => (hq k (hr k e.symm).1).2 hk), h0.grown hg h0.size (fun k e => (hr k e).2), fun k hk => ⟨Nat.lt_of_lt_of_le (hq k hk).1 hg.size, (hq k hk).2⟩⟩

/-- The blocks of a row. -/
def ownB (v : Value) (k : Nat) : Prop := v.ownBlock = some k
/-- A disk on which nothing waits, with entries of one try, and the list of them. -/
structure KS (w0 : World) (n1 : Nat) (w : World) (p : Nat) (S : DS) (l : List En) (v : Value) : Prop where
  st : St (ownB v) w0 w p S
  row : w.ownsRow n1 55 4 v l.length (ents l)
  low : w0.heap.size ≤ n1
  lo2 : n1 ≤ w.heap.size
section
variable {w0 w w' : World} {n1 p : Nat} {S S' : DS} {l : List En} {v : Value}
theorem KS.below (h : KS w0 n1 w p S l v) (hb : Below w.heap.size w w') : KS w0 n1 w' p S l v :=
  ⟨h.st.below hb, owns_kept h.row fun k hk => hb.block k (h.row.lt k hk).2, h.low, Nat.le_trans h.lo2 hb.size⟩
theorem KS.size (h : KS w0 n1 w p S l v) : w0.heap.size ≤ w.heap.size := h.st.size
theorem KS.fin (h : KS w0 n1 w p S l v) : Below w0.heap.size w0 w := h.st.fin
theorem KS.es (h : KS w0 n1 w p S l v) : ∃ a c, v = .slice a l.length c ∧ Es w a l.length c l := by
  obtain ⟨a, c, e, h1, _⟩ := es_of_owns h.row rfl
  exact ⟨a, c, e, h1⟩
/-- A call that changes the disk alone. -/
theorem KS.step (h : KS w0 n1 w p S l v) {f : FuncId} {args : Array Value} {R : Ending} (hc : ∀ v1 v2, PD w w0.heap.size p v1 v2 S → w0.heap.size ≤ w.heap.size → Calls Tryz.prog f args w fun e w' => e = R ∧ PP w w0.heap.size p v1 v2 S' w') :
    Calls Tryz.prog f args w fun e w' => e = R ∧ KS w0 n1 w' p S' l v := by
  obtain ⟨v1, v2, hp, h0, hq⟩ := h.st
  refine (hc v1 v2 hp h0.size).mono ?_
  rintro e w' ⟨he, hpp⟩
  obtain ⟨a, b, hp', hf, ht⟩ := hpp
  refine ⟨he, ⟨⟨a, b, hp', h0.trans (hf.below (fun k hk => (hp.foot_low k hk).1) h0.size), fun k hk => ⟨Nat.lt_of_lt_of_le (hq k hk).1 hf.size, fun hx => ?_⟩⟩, owns_kept h.row fun k hk => hf.block k (hq k hk).1 (hq k hk).2, h.low, Nat.le_trans h.lo2 hf.size⟩⟩
  rcases ht k hx with h1 | h1
  · exact (hq k hk).2 h1
  · have := (hq k hk).1; omega
/-- A call that only reads. -/
theorem KS.read (h : KS w0 n1 w p S l v) {f : FuncId} {args : Array Value} {R : Ending → World → Prop} (hc : ∀ v1 v2, PD w w0.heap.size p v1 v2 S → Calls Tryz.prog f args w fun e w' => R e w' ∧ Below w.heap.size w w') :
    Calls Tryz.prog f args w fun e w' => R e w' ∧ KS w0 n1 w' p S l v ∧ Below w.heap.size w w' := by
  obtain ⟨v1, v2, hp, h0, hq⟩ := h.st
  refine (hc v1 v2 hp).mono ?_
  rintro e w' ⟨he, hb⟩
  exact ⟨he, h.below hb, hb⟩
/-- The list is longer by one. -/
theorem KS.longer (h : KS w0 n1 w p S l v) {tmp : Obj} {v' : Value} {x : En} (hown : w'.ownsRow n1 55 4 v' (l.length + 1) (ents l ++ ents [x])) (hg : (w.alloc tmp).grownBy w' v.ownBlock) (hat : v'.ownBlock = v.ownBlock ∨ v'.ownBlock = some (w.alloc tmp).heap.size) :
    KS w0 n1 w' p S (l ++ [x]) v' := by
  have hb := (Below.refl w.heap.size w).alloc (Nat.le_refl _) tmp
  have h1 := h.below hb
  have hsz := hg.size
  refine ⟨?_, ?_, h.low, Nat.le_trans h1.lo2 hsz⟩
  · obtain ⟨v1, v2, hp, h0, hq⟩ := h1.st
    refine ⟨v1, v2, hp.kept fun k hk => hg.block k (hp.foot_low k hk).2 (fun e => (hq k e.symm).2 hk), h0.grown hg h0.size (fun k e => Nat.le_trans h.low (h.row.lt k e).1), fun k hk => ?_⟩
    refine ⟨(hown.lt k hk).2, ?_⟩
    rcases hat with e | e
    · exact (hq k (by unfold ownB at hk ⊢; rw [← e]; exact hk)).2
    · unfold ownB at hk
      rw [hk] at e
      cases e
      exact fun hx => Nat.lt_irrefl _ (hp.foot_low _ hx).2
  · rw [List.length_append, ents_append]
    exact hown
/-- The acts of the statement on such a disk. -/
theorem sizes_ok {N F C U : Int} {L : List ByteArray} {tag ep : Nat} {l : List En} (h : Fresh N F C U L tag ep l) (did : Nat) : ∀ x : Int, ((flat L did).read x).1.size ≤ 140737488355328 := fun x => by
  unfold DS.read
  split
  · exact Nat.zero_le _
  · split
    · rename_i hh
      obtain ⟨k, rfl, hk⟩ := has_nat hh
      have hk' : k < L.length := by simpa [flat] using hk
      simp only [flat, look, List.length_nil, Int.toNat_natCast, h.sizes k hk']
      omega
    · exact Nat.zero_le _
theorem KS.scan {N F C U : Int} {L : List ByteArray} {did tag ep ep0 : Nat} {l' : List En} (h : KS w0 n1 w p (flat L did) l v) (ho : okG N F C U) (hL : (L.length : Int) = 6 + N + (nodes N F C U : Int) + 2 * U) (hs : ∀ x : Int, ((flat L did).read x).1.size ≤ 140737488355328) (hd : did ≤ 1000000) (hl : L.length ≤ 1200) (hh : scanP N F C U (flat L did) ep0 = (l', 0)) :
    Calls Tryz.prog 19 #[.pointer (some ⟨p, 0, none⟩), geo N F C U, .int .u64 (ep0 : Int)] w fun e w' => (∃ a c, e = .returned (.tuple #[.slice a l'.length c, .int .i64 0]) ∧ Es w' a l'.length c l') ∧ KS w0 n1 w' p (flat L did) l v ∧ Below w.heap.size w w' :=
  h.read (R := fun e w' => ∃ a c, e = .returned (.tuple #[.slice a l'.length c, .int .i64 0]) ∧ Es w' a l'.length c l') fun v1 v2 hp => by
    refine (scan_any _ p v1 v2 (flat L did) N F C U ep0 w hp did (flat_ok' L did hl) hd hs).mono ?_
    rintro e w' ⟨⟨a, c, h1, h2, _⟩, h3⟩
    rw [hh] at h1 h2
    exact ⟨⟨a, c, h1, h2⟩, h3⟩
/-- An append, wherever it begins: the same ending. -/
theorem app_calls {N F C U : Int} {L : List ByteArray} {did tag ep : Nat} {l : List En} (ho : okG N F C U) (hf : Fresh N F C U L tag ep l) (hd : did + 4 ≤ 1000000) (hl : L.length ≤ 1200) (ht : tag < 18446744073709551616) (he : ep < 18446744073709551616) (place : Int) :
    ∃ (c : Int) (en : En) (L' : List ByteArray) (did' : Nat), did' ≤ did + 4 ∧ L'.length = L.length ∧ ((c = 0 ∧ Fresh N F C U L' tag ep (l ++ [en])) ∨ (c ≠ 0 ∧ L' = L)) ∧
      ∀ (B p : Nat) (v1 v2 : Value) (w : World), PD w B p v1 v2 (flat L did) → B ≤ w.heap.size → Calls Tryz.prog 18 #[.pointer (some ⟨p, 0, none⟩), geo N F C U, .int .i64 (l.length : Int), .int .u64 (tag : Int), .int .u64 (ep : Int), .int .i64 place] w fun e w' => e = .returned (.tuple #[en.val, .int .i64 c]) ∧ PP w B p v1 v2 (flat L' did') w' := by
  obtain ⟨c, en, L', did', ha, h1, h2, h3⟩ := app_step (did := did) ho hf place
  refine ⟨c, en, L', did', h1, h2, h3, fun B p v1 v2 w hp hz => ?_⟩
  have := append_any B p v1 v2 (flat L did) N F C U (l.length : Int) tag ep place w hp hz did (flat_ok' L did hl) hd ht he (fun T x hT => by subst hT; exact sizes_ok hf did x)
  rw [ha] at this
  exact this
def set4 (W : World) (q : Nat) (a b c d : Value) : World := (((W.setCell ⟨q, 0, none⟩ a).setCell ⟨q, 1, none⟩ b).setCell ⟨q, 2, none⟩ c).setCell ⟨q, 3, none⟩ d
theorem set4_other {W : World} {q k : Nat} {a b c d : Value} (h : k ≠ q) : (set4 W q a b c d).heap[k]? = W.heap[k]? := by
  have hs : ∀ (W : World) (i : Nat) (u : Value), (W.setCell ⟨q, i, none⟩ u).heap[k]? = W.heap[k]? := fun W i u => Below.heap_setCell _ _ _ _ (fun e => h (by simpa using e))
  unfold set4
  rw [hs, hs, hs, hs]
theorem set4_size {W : World} {q : Nat} {a b c d : Value} : (set4 W q a b c d).heap.size = W.heap.size := by unfold set4; simp only [World.size_setCell]
/-- A call that changes the disk alone, a box of four cells being laid ahead of it: the box lies as it lay, and may be written behind. -/
theorem KS.boxed (h : KS w0 n1 w p S l v) {t : TypeId} {z0 z1 z2 z3 : Value} {W : World} (hW : W.heap = (w.alloc (.cells #[z0, z1, z2, z3] t)).heap) (hWo : W.os = w.os ∧ W.tape = w.tape ∧ W.output = w.output) {f : FuncId} {args : Array Value} {R : Ending} (hc : ∀ v1 v2, PD W w0.heap.size p v1 v2 S → w0.heap.size ≤ W.heap.size → Calls Tryz.prog f args W fun e w' => e = R ∧ PP W w0.heap.size p v1 v2 S' w') :
    Calls Tryz.prog f args W fun e w' => e = R ∧ Box4 w' w.heap.size t z0 z1 z2 z3 ∧ Below w0.heap.size w0 w' ∧ w.heap.size < w'.heap.size ∧ ∀ a b c d, KS w0 n1 (set4 w' w.heap.size a b c d) p S' l v := by
  have hb : Below w.heap.size w W := ⟨hWo.1, hWo.2.1, hWo.2.2, by rw [hW]; simp, fun k hk => by rw [hW]; exact Below.heap_alloc _ _ _ hk⟩
  have hbox : W.heap[w.heap.size]? = some (.cells #[z0, z1, z2, z3] t (0, 0)) := by rw [hW]; exact heap_alloc_new w _
  have hsz : W.heap.size = w.heap.size + 1 := by rw [hW]; simp
  have h1 := h.below hb
  obtain ⟨v1, v2, hp, h0, hq⟩ := h.st
  refine (hc v1 v2 (hp.below hb) (by have := h0.size; omega)).mono ?_
  rintro e w' ⟨he, u1, u2, hp', hF, hN⟩
  have hnf : ¬ foot p v1 v2 w.heap.size := fun hx => Nat.lt_irrefl _ (hp.foot_low _ hx).2
  have hnf' : ∀ k, foot p u1 u2 k → k ≠ w.heap.size := fun k hk e => by
    subst e
    rcases hN _ hk with h2 | h2
    · exact hnf h2
    · omega
  have hbx : w'.heap[w.heap.size]? = some (.cells #[z0, z1, z2, z3] t (0, 0)) := (hF.block _ (by omega) hnf).trans hbox
  have hsz' := hF.size
  have hown : ∀ k, v.ownBlock = some k → w'.heap[k]? = w.heap[k]? ∧ k < w.heap.size := fun k hk => by
    have hlt := (h.row.lt k hk).2
    exact ⟨(hF.block k (by omega) (hq k hk).2).trans (hb.block k hlt), hlt⟩
  have hbl : Below w0.heap.size w0 w' := (h0.trans (hb.mono h0.size)).trans (hF.below (fun k hk => (hp.foot_low k hk).1) (by have := h0.size; omega))
  refine ⟨he, hbx, hbl, by omega, fun a b c d => ⟨⟨u1, u2, hp'.kept fun k hk => set4_other (hnf' k hk), ?_, fun k hk => ⟨?_, fun hx => ?_⟩⟩, owns_kept h.row fun k hk => ?_, h.low, ?_⟩⟩
  · exact below_set4 hbl (by have := h0.size; omega)
  · rw [set4_size]; have := (hown k hk).2; omega
  · rcases hN _ hx with h2 | h2
    · exact (hq k hk).2 h2
    · have := (hown k hk).2; omega
  · obtain ⟨e1, e2⟩ := hown k hk
    rw [set4_other (by omega), e1]
  · rw [set4_size]; have := h.lo2; omega
/-- The same, beside a box of four cells that the call has laid. -/
structure KSB (w0 : World) (n1 : Nat) (w : World) (p : Nat) (S : DS) (l : List En) (v : Value) (bx : Nat) (o : Obj) : Prop where
  st : St (fun k => ownB v k ∨ k = bx) w0 w p S
  row : w.ownsRow n1 55 4 v l.length (ents l)
  box : w.heap[bx]? = some o
  low : w0.heap.size ≤ n1
  lo2 : n1 ≤ w.heap.size
variable {bx : Nat} {o : Obj}
theorem KS.box (h : KS w0 n1 w p S l v) (o : Obj) (bx : Nat) (hx : (w.alloc o).heap[bx]? = some o) (he : bx = w.heap.size) : KSB w0 n1 (w.alloc o) p S l v bx o := by
  subst he
  have hb := (Below.refl w.heap.size w).alloc (Nat.le_refl _) o
  have h1 := h.below hb
  exact ⟨h.st.add hb (Nat.le_refl _) (by simp), h1.row, hx, h1.low, h1.lo2⟩
theorem KSB.ks (h : KSB w0 n1 w p S l v bx o) : KS w0 n1 w p S l v := ⟨h.st.less fun k hk => .inl hk, h.row, h.low, h.lo2⟩
theorem KSB.below (h : KSB w0 n1 w p S l v bx o) (hb : Below w.heap.size w w') : KSB w0 n1 w' p S l v bx o :=
  ⟨h.st.below hb, owns_kept h.row fun k hk => hb.block k (h.row.lt k hk).2, (hb.block _ (lt_of_block h.box)).trans h.box, h.low, Nat.le_trans h.lo2 hb.size⟩
theorem KSB.step (h : KSB w0 n1 w p S l v bx o) {f : FuncId} {args : Array Value} {R : Ending} (hc : ∀ v1 v2, PD w w0.heap.size p v1 v2 S → w0.heap.size ≤ w.heap.size → Calls Tryz.prog f args w fun e w' => e = R ∧ PP w w0.heap.size p v1 v2 S' w') :
    Calls Tryz.prog f args w fun e w' => e = R ∧ KSB w0 n1 w' p S' l v bx o := by
  have hlo := h.lo2
  obtain ⟨v1, v2, hp, h0, hq⟩ := h.st
  refine (hc v1 v2 hp h0.size).mono ?_
  rintro e w' ⟨he, a, b, hp', hf, ht⟩
  refine ⟨he, ⟨⟨a, b, hp', h0.trans (hf.below (fun k hk => (hp.foot_low k hk).1) h0.size), fun k hk => ⟨Nat.lt_of_lt_of_le (hq k hk).1 hf.size, fun hx => ?_⟩⟩, owns_kept h.row fun k hk => hf.block k (hq k (.inl hk)).1 (hq k (.inl hk)).2, (hf.block _ (hq bx (.inr rfl)).1 (hq bx (.inr rfl)).2).trans h.box, h.low, Nat.le_trans hlo hf.size⟩⟩
  rcases ht k hx with h1 | h1
  · exact (hq k hk).2 h1
  · have := (hq k hk).1; omega
theorem KSB.read (h : KSB w0 n1 w p S l v bx o) {f : FuncId} {args : Array Value} {R : Ending → World → Prop} (hc : ∀ v1 v2, PD w w0.heap.size p v1 v2 S → Calls Tryz.prog f args w fun e w' => R e w' ∧ Below w.heap.size w w') :
    Calls Tryz.prog f args w fun e w' => R e w' ∧ KSB w0 n1 w' p S l v bx o ∧ Below w.heap.size w w' := by
  obtain ⟨v1, v2, hp, h0, hq⟩ := h.st
  refine (hc v1 v2 hp).mono ?_
  rintro e w' ⟨he, hb⟩
  exact ⟨he, h.below hb, hb⟩
theorem fuse_sizes {N F C U : Int} {L : List ByteArray} {tag ep : Nat} {l : List En} (h : Fresh N F C U L tag ep l) (did : Nat) (m : Int) : ∀ x : Int, (((flat L did).fuse m).read x).1.size ≤ 140737488355328 := fun x => by
  have e : ((flat L did).fuse m).read x = (flat L did).read x := by unfold DS.read DS.fuse flat DS.has; rfl
  rw [e]
  exact sizes_ok h did x
end
end Go.Proofs.YtjohgagiccndpaaGreatDoor

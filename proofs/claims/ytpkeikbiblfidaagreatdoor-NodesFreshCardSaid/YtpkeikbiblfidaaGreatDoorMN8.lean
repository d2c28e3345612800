/-
  Texts put together: N8, N9.
-/
import Derived.Test.YtpkeikbiblfidaaGreatDoorMN4
/-
  Equal of the program (scrub).
-/
namespace Go.Proofs.YtpkeikbiblfidaaGreatDoor
open Go.RowKit
set_option linter.unusedVariables false
set_option linter.unusedSimpArgs false

/-- One data sector more that is held against another disk's. -/
def eqlF (N F C U : Int) (D E : DS) (k : Nat) (L : List Int) : List Int × Int :=
  if (D.read (dataAt N F C U k)).2 ≠ 0 then (L, (D.read (dataAt N F C U k)).2) else if (E.read (dataAt N F C U k)).2 ≠ 0 then (L, (E.read (dataAt N F C U k)).2) else (if decide ((D.read (dataAt N F C U k)).1 = (E.read (dataAt N F C U k)).1) = true then L else L ++ [(k : Int)], 0)
def eqlL (N F C U : Int) (D E : DS) (k : Nat) : List Int × Int := runE (eqlF N F C U D E) [] k
def eqlP (N F C U : Int) (D E : DS) : List Int × Int :=
  if ¬ okG N F C U then ([], 12) else if (eqlL N F C U D E N.toNat).2 ≠ 0 then ([], (eqlL N F C U D E N.toNat).2) else ((eqlL N F C U D E N.toNat).1, 0)
theorem eqlL_length (N F C U : Int) (D E : DS) (k : Nat) : (eqlL N F C U D E k).1.length ≤ k :=
  runE_inv (f := eqlF N F C U D E) (s := []) (fun k (L : List Int) => L.length ≤ k) (Nat.zero_le _) (fun j t h => by
    unfold eqlF
    split
    · exact Nat.le_succ_of_le h
    · split
      · exact Nat.le_succ_of_le h
      · dsimp only
        split
        · exact Nat.le_succ_of_le h
        · rw [List.length_append]; simp only [List.length_singleton]; omega) (fun k t h => Nat.le_succ_of_le h) k
theorem eqlP_length (N F C U : Int) (D E : DS) : (eqlP N F C U D E).1.length ≤ 128 := by
  unfold eqlP
  split
  · simp
  · split
    · simp
    · rename_i h _
      have := eqlL_length N F C U D E N.toNat
      have h := Classical.not_not.1 h
      obtain ⟨_, h2, -⟩ := h
      dsimp only
      omega

set_option maxRecDepth 20000 in
set_option maxHeartbeats 4000000 in
theorem equal_any (B p q : Nat) (v1 v2 u1 u2 : Value) (B' : Nat) (D E : DS) (N F C U : Int) (w : World) (h : PD w B p v1 v2 D) (h' : PD w B' q u1 u2 E) (M : Nat) (hok : D.ok M) (hok' : E.ok M) (hM : M ≤ 1000000) :
    Calls Tryz.prog 39 #[.pointer (some ⟨p, 0, none⟩), .pointer (some ⟨q, 0, none⟩), geo N F C U] w fun e w' => (∃ v, e = .returned (.tuple #[v, .int .i64 (eqlP N F C U D E).2]) ∧ w'.ownsRow w.heap.size 3 1 v (eqlP N F C U D E).1.length (ivs (eqlP N F C U D E).1)) ∧ Below w.heap.size w w' := by
  obtain ⟨i0, hi, hz0, hz1, hz2⟩ := info_parts Tryz.info3
  obtain ⟨W, hW⟩ : ∃ W, W = w.alloc (.cells #[.int .i64 N, .int .i64 F, .int .i64 C, .int .i64 U] 23) := ⟨_, rfl⟩
  have hb0 : Below w.heap.size w W := by rw [hW]; exact (Below.refl _ w).alloc (Nat.le_refl _) _
  have hsW : W.heap.size = w.heap.size + 1 := by rw [hW]; exact World.size_alloc _ _
  have hg0 : W.heap[w.heap.size]? = some (.cells #[.int .i64 N, .int .i64 F, .int .i64 C, .int .i64 U] 23 (0, 0)) := by rw [hW]; exact heap_alloc_new w _
  have hgc : ∀ w' : World, w'.heap[w.heap.size]? = W.heap[w.heap.size]? → w'.cell? ⟨w.heap.size, 0, none⟩ = some (.int .i64 N) ∧ w'.cell? ⟨w.heap.size, 1, none⟩ = some (.int .i64 F) ∧ w'.cell? ⟨w.heap.size, 2, none⟩ = some (.int .i64 C) ∧ w'.cell? ⟨w.heap.size, 3, none⟩ = some (.int .i64 U) := fun w' e => by
    have e := e.trans hg0
    refine ⟨?_, ?_, ?_, ?_⟩ <;> (rw [cell_of_blk e]; rfl)
  obtain ⟨R, hR⟩ : ∃ R, R = eqlP N F C U D E := ⟨_, rfl⟩
  rw [← hR]
  unfold eqlP at hR
  have hgr := fun w => gright_any N F C U w
  obtain ⟨c0, c1, c2, c3⟩ := hgc W rfl
  have HRD := Lib.hid (fun w' (hb : Below w.heap.size w w') (at' : Int) => read_any B p v1 v2 D at' w' (h.below hb) (by have := hok.few; have := hok.did; omega) (by have := hok.len; omega))
  have HRE := Lib.hid (fun w' (hb : Below w.heap.size w w') (at' : Int) => read_any B' q u1 u2 E at' w' (h'.below hb) (by have := hok'.few; have := hok'.did; omega) (by have := hok'.len; omega))
  have hda := fun i w => data_any N F C U i w
  have HW := Lib.hid hW
  have HB0 := Lib.hid hb0
  have HGC := Lib.hid hgc
  have HSW := Lib.hid hsW
  have HR := Lib.hid hR
  unfold geo at hda hgr ⊢
  have HDA := Lib.hid hda
  clear hb0 hW h h' hok hok' hgc hsW hg0 hR hda
  by_cases hg : okG N F C U
  · have hd : decide (okG N F C U) = true := by simpa using hg
    simp only [hd] at hgr
    have HGR := Lib.hid hgr
    obtain ⟨n, hn⟩ : ∃ n, n = N.toNat := ⟨_, rfl⟩
    have HNn := Lib.hid (show N = (n : Int) from by obtain ⟨N1, N2, -⟩ := hg; omega)
    have hn8 : n ≤ 128 := by obtain ⟨N1, N2, -⟩ := hg; omega
    have HR2 := Lib.hid (show R = if (eqlL N F C U D E n).2 ≠ 0 then ([], (eqlL N F C U D E n).2) else ((eqlL N F C U D E n).1, 0) from by rw [hn]; exact HR.out.trans (if_neg (by simpa using hg)))
    clear hgr hd hg HR hn
    go_enter Tryz.func39, Tryz.ntmps39
    go_upto_region 1 with fail
    rw [← HW.out]
    go_wp2_with fail
    refine (HGR.out _).mono ?_
    rintro e w1 ⟨rfl, hb1⟩
    obtain ⟨c0, c1, c2, c3⟩ := HGC.out w1 (hb1.block _ (by have := HSW.out; omega))
    have HB1 := Lib.hid hb1
    clear hb1 HGR
    go_wp2
    go_loopw [8, 19] (fun s i wr => ∃ (k : Nat) (L : List Int), k ≤ n ∧ i = .int .i64 k ∧ eqlL N F C U D E k = (L, 0) ∧ L.length ≤ k ∧ wr.ownsRow w1.heap.size 3 1 s L.length (ivs L) ∧ Below w1.heap.size w1 wr) (fun _ i _ => n - (intOf i).toNat)
    case atStart => exact ⟨0, [], by omega, rfl, rfl, Nat.le_refl _, World.ownsRow_nil _ _ _ _, Below.refl _ _⟩
    case round =>
      obtain ⟨k, L, hk, rfl, hL, hLk, ho, hB⟩ := hrel
      have HBQ := Lib.hid (HB1.out.trans (hB.mono HB1.out.size))
      have HBB := Lib.hid hB
      have HL := Lib.hid hL
      clear hB hL
      by_cases hlt : k < n
      · have i1 : (k : Int) < N := by have := HNn.out; omega
        obtain ⟨d, x, hdx⟩ : ∃ d x, D.read (dataAt N F C U k) = (d, x) := ⟨_, _, rfl⟩
        obtain ⟨f, y, hfy⟩ : ∃ f y, E.read (dataAt N F C U k) = (f, y) := ⟨_, _, rfl⟩
        have hrd := fun w' hb => HRD.out w' hb (dataAt N F C U k)
        have hre := fun w' hb => HRE.out w' hb (dataAt N F C U k)
        simp only [hdx, hfy, two] at hrd hre
        obtain ⟨V1, hV1⟩ : ∃ V, V = Value.string d := ⟨_, rfl⟩
        obtain ⟨V2, hV2⟩ : ∃ V, V = Value.string f := ⟨_, rfl⟩
        have hgd := fun x y w => guard_txt .neq x y d f w
        have hnq := fun w => neq_txt d f w
        simp only [← hV1, ← hV2] at hnq hgd hrd hre
        obtain ⟨sm, hsm⟩ : ∃ b, b = decide (d = f) := ⟨_, rfl⟩
        simp only [← hsm] at hnq
        have HX := Lib.hid (show eqlF N F C U D E k L = if x ≠ 0 then (L, x) else if y ≠ 0 then (L, y) else (if sm = true then L else L ++ [(k : Int)], 0) from by unfold eqlF; rw [hdx, hfy, hsm])
        have HRD2 := Lib.hid hrd
        have HRE2 := Lib.hid hre
        clear hrd hre hV1 hV2 hsm hdx hfy
        obtain ⟨c0, c1, c2, c3⟩ := HGC.out wr (HBQ.out.block _ (by have := HSW.out; omega))
        go_wp2_with fail
        refine (HDA.out _ _).mono ?_
        rintro e w2 ⟨rfl, hb2⟩
        have HBB2 := Lib.hid (HBB.out.trans (hb2.mono HBB.out.size))
        have HBQ2 := Lib.hid (HB0.out.trans ((HBQ.out.trans (hb2.mono HBQ.out.size)).mono HB0.out.size))
        have ho2 := owns_kept ho fun x hx => hb2.block x (ho.lt x hx).2
        clear hb2 ho HBB HBQ c0 c1 c2 c3
        go_wp2_with fail
        refine (HRD2.out _ HBQ2.out).mono ?_
        rintro e w3 ⟨rfl, hb3⟩
        have HBB3 := Lib.hid (HBB2.out.trans (hb3.mono HBB2.out.size))
        have HBQ3 := Lib.hid (HBQ2.out.trans (hb3.mono HBQ2.out.size))
        have ho3 := owns_kept ho2 fun x hx => hb3.block x (ho2.lt x hx).2
        clear hb3 ho2 HBB2 HBQ2 HRD2
        by_cases hx : x = 0
        · subst hx
          go_wp2_with fail
          refine (HRE2.out _ HBQ3.out).mono ?_
          rintro e w4 ⟨rfl, hb4⟩
          have HBB4 := Lib.hid (HBB3.out.trans (hb4.mono HBB3.out.size))
          have HBQ4 := Lib.hid (HBQ3.out.trans (hb4.mono HBQ3.out.size))
          have ho4 := owns_kept ho3 fun x hx => hb4.block x (ho3.lt x hx).2
          clear hb4 ho3 HBB3 HBQ3 HRE2
          by_cases hy : y = 0
          · subst hy
            cases sm with
            | true =>
              have HST := Lib.hid ((runE_next HL.out).trans (show eqlF N F C U D E k L = (L, 0) from by rw [HX.out]; rfl))
              go_wp2
              go_roundw
              case rel => exact ⟨k + 1, L, by omega, by go_num, HST.out, by omega, ho4, HBB4.out⟩
              case measure => simp [intOf]; omega
            | false =>
              have HST := Lib.hid ((runE_next HL.out).trans (show eqlF N F C U D E k L = (L ++ [(k : Int)], 0) from by rw [HX.out]; rfl))
              obtain ⟨m, hm⟩ : ∃ m, m = L.length := ⟨_, rfl⟩
              rw [← hm] at ho4 hLk
              go_wp2_with (at_builtin; refine wpList_append_i (o := ⟨some 49, _, _, _, _, _⟩) rfl (.tmp 46) (.tmp 48) 34 rfl w1.heap.size i0 Tryz.underlying34 hi hz0 hz1 hz2 _ m _ rfl (ho4.alloc _) _ rfl rfl (by omega) (by have := HBB4.out.size; simp; omega) ?_)
              intro v5 w5 h1 h2
              have hB5 := (HBB4.out.alloc HBB4.out.size (.cells #[.int .i64 (k : Int)] 3)).grown h2 (HBB4.out.alloc HBB4.out.size (.cells #[.int .i64 (k : Int)] 3)).size (fun x e => (ho4.lt x e).1)
              obtain ⟨a5, c5, rfl, _, _⟩ := iowns_shape h1 (by omega)
              have HO5 := Lib.hid h1
              have HB5 := Lib.hid hB5
              have HM := Lib.hid hm
              have HZ := Lib.hid (show (L ++ [(k : Int)]).length = m + 1 from by rw [List.length_append, ← hm]; rfl)
              clear h1 h2 hB5 ho4 hm
              go_wp2
              go_roundw
              case rel => exact ⟨k + 1, L ++ [(k : Int)], by omega, by go_num, HST.out, by have := HM.out; simp; omega, by rw [HZ.out, HM.out]; exact HO5.out, HB5.out⟩
              case measure => simp [intOf]; omega
          · have he2 : (y == 0) = false := by simpa using hy
            have he3 : (y != 0) = true := by simp [hy]
            have HE := Lib.hid (show R = ([], y) from by
              have h1 : eqlL N F C U D E n = (L, y) := runE_err HL.out (show eqlF N F C U D E k L = (L, y) from by rw [HX.out, if_neg (by simp), if_pos hy]) hy hlt
              rw [HR2.out, h1]; dsimp only; rw [if_pos hy])
            clear hy
            go_wp2
            refine bodyPost_ret (results_tmp2 rfl _ _ _) rfl ?_
            rw [HE.out]
            exact ⟨⟨.slice none 0 0, rfl, World.ownsRow_nil _ _ _ _⟩, HBQ4.out⟩
        · have he2 : (x == 0) = false := by simpa using hx
          have he3 : (x != 0) = true := by simp [hx]
          have HE := Lib.hid (show R = ([], x) from by
            have h1 : eqlL N F C U D E n = (L, x) := runE_err HL.out (show eqlF N F C U D E k L = (L, x) from by rw [HX.out, if_pos hx]) hx hlt
            rw [HR2.out, h1]; dsimp only; rw [if_pos hx])
          clear hx
          go_wp2
          refine bodyPost_ret (results_tmp2 rfl _ _ _) rfl ?_
          rw [HE.out]
          exact ⟨⟨.slice none 0 0, rfl, World.ownsRow_nil _ _ _ _⟩, HBQ3.out⟩
      · obtain rfl : k = n := by omega
        have i1 : ¬ (k : Int) < N := by have := HNn.out; omega
        obtain ⟨a5, c5, rfl, _, _⟩ := iowns_shape ho (by omega)
        have HO := Lib.hid (owns_low ho (show w.heap.size ≤ w1.heap.size by have := HB0.out.size; have := HB1.out.size; omega))
        have HE := Lib.hid (show R = (L, 0) from by rw [HR2.out, HL.out]; rfl)
        have HBQ5 := Lib.hid (HB0.out.trans (HBQ.out.mono HB0.out.size))
        clear ho
        go_wp2
        refine bodyPost_ret (results_tmp2 rfl _ _ _) rfl ?_
        rw [HE.out]
        exact ⟨⟨_, rfl, HO.out⟩, HBQ5.out⟩
  · have hd : decide (okG N F C U) = false := by simpa using hg
    simp only [hd] at hgr
    have HGR := Lib.hid hgr
    have HE := Lib.hid (show R = ([], 12) from HR.out.trans (if_pos hg))
    clear hgr hd hg HR
    go_enter Tryz.func39, Tryz.ntmps39
    go_upto_region 1 with fail
    rw [← HW.out]
    go_wp2_with fail
    refine (HGR.out _).mono ?_
    rintro e w1 ⟨rfl, hb1⟩
    have HB1 := Lib.hid (HB0.out.trans (hb1.mono HB0.out.size))
    clear hb1 c0 c1 c2 c3
    go_wp2
    refine bodyPost_ret (results_tmp2 rfl _ _ _) rfl ?_
    rw [HE.out]
    exact ⟨⟨.slice none 0 0, rfl, World.ownsRow_nil _ _ _ _⟩, HB1.out⟩
end Go.Proofs.YtpkeikbiblfidaaGreatDoor
/-
  Equal of the document (scrub).
-/
namespace Go.Proofs.YtpkeikbiblfidaaGreatDoor
open Go.RowKit
set_option linter.unusedVariables false
set_option linter.unusedSimpArgs false

set_option maxRecDepth 20000 in
set_option maxHeartbeats 4000000 in
theorem requal_any (B p q : Nat) (v1 v2 u1 u2 : Value) (B' : Nat) (D E : DS) (N F C U : Int) (w : World) (h : RD w B p v1 v2 D) (h' : RD w B' q u1 u2 E) (M : Nat) (hok : D.ok M) (hok' : E.ok M) (hM : M ≤ 1000000) :
    Calls Tryz.prog 40 #[.pointer (some ⟨p, 0, none⟩), .pointer (some ⟨q, 0, none⟩), geo N F C U] w fun e w' => (∃ v, e = .returned (.tuple #[v, .int .i64 (eqlP N F C U D E).2]) ∧ w'.ownsRow w.heap.size 3 1 v (eqlP N F C U D E).1.length (ivs (eqlP N F C U D E).1)) ∧ Below w.heap.size w w' := by
  obtain ⟨i0, hi, hz0, hz1, hz2⟩ := info_parts Tryz.info3
  obtain ⟨W, hW⟩ : ∃ W, W = w.alloc (.cells #[.int .i64 N, .int .i64 F, .int .i64 C, .int .i64 U] 23) := ⟨_, rfl⟩
  have hb0 : Below w.heap.size w W := by rw [hW]; exact (Below.refl _ w).alloc (Nat.le_refl _) _
  have hsW : W.heap.size = w.heap.size + 1 := by rw [hW]; exact World.size_alloc _ _
  have hg0 : W.heap[w.heap.size]? = some (.cells #[.int .i64 N, .int .i64 F, .int .i64 C, .int .i64 U] 23 (0, 0)) := by rw [hW]; exact heap_alloc_new w _
  have hgc : ∀ w' : World, w'.heap[w.heap.size]? = W.heap[w.heap.size]? → w'.cell? ⟨w.heap.size, 0, none⟩ = some (.int .i64 N) ∧ w'.cell? ⟨w.heap.size, 1, none⟩ = some (.int .i64 F) ∧ w'.cell? ⟨w.heap.size, 2, none⟩ = some (.int .i64 C) ∧ w'.cell? ⟨w.heap.size, 3, none⟩ = some (.int .i64 U) := fun w' e => by
    have e := e.trans hg0
    refine ⟨?_, ?_, ?_, ?_⟩ <;> (rw [cell_of_blk e]; rfl)
  obtain ⟨R, hR⟩ : ∃ R, R = eqlP N F C U D E := ⟨_, rfl⟩
  rw [← hR]
  unfold eqlP at hR
  have hgr := fun w => grright_any N F C U w
  obtain ⟨c0, c1, c2, c3⟩ := hgc W rfl
  have HRD := Lib.hid (fun w' (hb : Below w.heap.size w w') (at' : Int) => rread_any B p v1 v2 D at' w' (h.below hb) (by have := hok.few; have := hok.did; omega) (by have := hok.len; omega))
  have HRE := Lib.hid (fun w' (hb : Below w.heap.size w w') (at' : Int) => rread_any B' q u1 u2 E at' w' (h'.below hb) (by have := hok'.few; have := hok'.did; omega) (by have := hok'.len; omega))
  have hda := fun i w => rdata_any N F C U i w
  have HW := Lib.hid hW
  have HB0 := Lib.hid hb0
  have HGC := Lib.hid hgc
  have HSW := Lib.hid hsW
  have HR := Lib.hid hR
  unfold geo at hda hgr ⊢
  have HDA := Lib.hid hda
  clear hb0 hW h h' hok hok' hgc hsW hg0 hR hda
  by_cases hg : okG N F C U
  · have hd : decide (okG N F C U) = true := by simpa using hg
    simp only [hd] at hgr
    have HGR := Lib.hid hgr
    obtain ⟨n, hn⟩ : ∃ n, n = N.toNat := ⟨_, rfl⟩
    have HNn := Lib.hid (show N = (n : Int) from by obtain ⟨N1, N2, -⟩ := hg; omega)
    have hn8 : n ≤ 128 := by obtain ⟨N1, N2, -⟩ := hg; omega
    have HR2 := Lib.hid (show R = if (eqlL N F C U D E n).2 ≠ 0 then ([], (eqlL N F C U D E n).2) else ((eqlL N F C U D E n).1, 0) from by rw [hn]; exact HR.out.trans (if_neg (by simpa using hg)))
    clear hgr hd hg HR hn
    go_enter Tryz.func40, Tryz.ntmps40
    go_upto_region 1 with fail
    rw [← HW.out]
    go_wp2_with fail
    refine (HGR.out _).mono ?_
    rintro e w1 ⟨rfl, hb1⟩
    obtain ⟨c0, c1, c2, c3⟩ := HGC.out w1 (hb1.block _ (by have := HSW.out; omega))
    have HB1 := Lib.hid hb1
    clear hb1 HGR
    go_wp2
    go_loopw [8, 9] (fun s i wr => ∃ (k : Nat) (L : List Int), k ≤ n ∧ i = .int .i64 k ∧ eqlL N F C U D E k = (L, 0) ∧ L.length ≤ k ∧ wr.ownsRow w1.heap.size 3 1 s L.length (ivs L) ∧ Below w1.heap.size w1 wr) (fun _ i _ => n - (intOf i).toNat)
    case atStart => exact ⟨0, [], by omega, rfl, rfl, Nat.le_refl _, World.ownsRow_nil _ _ _ _, Below.refl _ _⟩
    case round =>
      obtain ⟨k, L, hk, rfl, hL, hLk, ho, hB⟩ := hrel
      have HBQ := Lib.hid (HB1.out.trans (hB.mono HB1.out.size))
      have HBB := Lib.hid hB
      have HL := Lib.hid hL
      clear hB hL
      obtain ⟨c0, c1, c2, c3⟩ := HGC.out wr (HBQ.out.block _ (by have := HSW.out; omega))
      by_cases hlt : k < n
      · have i1 : (k : Int) < N := by have := HNn.out; omega
        obtain ⟨d, x, hdx⟩ : ∃ d x, D.read (dataAt N F C U k) = (d, x) := ⟨_, _, rfl⟩
        obtain ⟨f, y, hfy⟩ : ∃ f y, E.read (dataAt N F C U k) = (f, y) := ⟨_, _, rfl⟩
        have hrd := fun w' hb => HRD.out w' hb (dataAt N F C U k)
        have hre := fun w' hb => HRE.out w' hb (dataAt N F C U k)
        simp only [hdx, hfy, two] at hrd hre
        obtain ⟨V1, hV1⟩ : ∃ V, V = Value.string d := ⟨_, rfl⟩
        obtain ⟨V2, hV2⟩ : ∃ V, V = Value.string f := ⟨_, rfl⟩
        have hgd := fun x y w => guard_txt .neq x y d f w
        have hnq := fun w => neq_txt d f w
        simp only [← hV1, ← hV2] at hnq hgd hrd hre
        obtain ⟨sm, hsm⟩ : ∃ b, b = decide (d = f) := ⟨_, rfl⟩
        simp only [← hsm] at hnq
        have HX := Lib.hid (show eqlF N F C U D E k L = if x ≠ 0 then (L, x) else if y ≠ 0 then (L, y) else (if sm = true then L else L ++ [(k : Int)], 0) from by unfold eqlF; rw [hdx, hfy, hsm])
        have HRD2 := Lib.hid hrd
        have HRE2 := Lib.hid hre
        clear hrd hre hV1 hV2 hsm hdx hfy
        go_wp2_with fail
        refine (HDA.out _ _).mono ?_
        rintro e w2 ⟨rfl, hb2⟩
        have HBB2 := Lib.hid (HBB.out.trans (hb2.mono HBB.out.size))
        have HBQ2 := Lib.hid (HB0.out.trans ((HBQ.out.trans (hb2.mono HBQ.out.size)).mono HB0.out.size))
        have ho2 := owns_kept ho fun x hx => hb2.block x (ho.lt x hx).2
        obtain ⟨c0, c1, c2, c3⟩ := HGC.out w2 ((hb2.block _ (by have := HSW.out; have := HBQ.out.size; omega)).trans (HBQ.out.block _ (by have := HSW.out; omega)))
        have HBG := Lib.hid (HBQ.out.trans (hb2.mono HBQ.out.size))
        clear hb2 ho HBB HBQ
        go_wp2_with fail
        refine (HRD2.out _ HBQ2.out).mono ?_
        rintro e w3 ⟨rfl, hw3⟩; obtain rfl := hw3.symm; clear hw3
        clear HRD2
        by_cases hx : x = 0
        · subst hx
          go_wp2_with fail
          refine (HDA.out _ _).mono ?_
          rintro e w4 ⟨rfl, hb4⟩
          have HBB4 := Lib.hid (HBB2.out.trans (hb4.mono HBB2.out.size))
          have HBQ4 := Lib.hid (HBQ2.out.trans (hb4.mono HBQ2.out.size))
          have ho4 := owns_kept ho2 fun x hx => hb4.block x (ho2.lt x hx).2
          obtain ⟨c0, c1, c2, c3⟩ := HGC.out w4 ((hb4.block _ (by have := HSW.out; have := HBG.out.size; omega)).trans (HBG.out.block _ (by have := HSW.out; omega)))
          clear hb4 ho2 HBB2 HBQ2
          go_wp2_with fail
          refine (HRE2.out _ HBQ4.out).mono ?_
          rintro e w5 ⟨rfl, hw5⟩; obtain rfl := hw5.symm; clear hw5
          clear HRE2
          by_cases hy : y = 0
          · subst hy
            cases sm with
            | true =>
              have HST := Lib.hid ((runE_next HL.out).trans (show eqlF N F C U D E k L = (L, 0) from by rw [HX.out]; rfl))
              go_wp2
              go_roundw
              case rel => exact ⟨k + 1, L, by omega, by go_num, HST.out, by omega, ho4, HBB4.out⟩
              case measure => simp [intOf]; omega
            | false =>
              have HST := Lib.hid ((runE_next HL.out).trans (show eqlF N F C U D E k L = (L ++ [(k : Int)], 0) from by rw [HX.out]; rfl))
              obtain ⟨m, hm⟩ : ∃ m, m = L.length := ⟨_, rfl⟩
              rw [← hm] at ho4 hLk
              go_wp2_with (at_builtin; refine wpList_append_i (o := ⟨some 51, _, _, _, _, _⟩) rfl (.tmp 48) (.tmp 50) 34 rfl w1.heap.size i0 Tryz.underlying34 hi hz0 hz1 hz2 _ m _ rfl (ho4.alloc _) _ rfl rfl (by omega) (by have := HBB4.out.size; simp; omega) ?_)
              intro v6 w6 h1 h2
              have hB5 := (HBB4.out.alloc HBB4.out.size (.cells #[.int .i64 (k : Int)] 3)).grown h2 (HBB4.out.alloc HBB4.out.size (.cells #[.int .i64 (k : Int)] 3)).size (fun x e => (ho4.lt x e).1)
              obtain ⟨a5, c5, rfl, _, _⟩ := iowns_shape h1 (by omega)
              have HO5 := Lib.hid h1
              have HB5 := Lib.hid hB5
              have HM := Lib.hid hm
              have HZ := Lib.hid (show (L ++ [(k : Int)]).length = m + 1 from by rw [List.length_append, ← hm]; rfl)
              clear h1 h2 hB5 ho4 hm
              go_wp2
              go_roundw
              case rel => exact ⟨k + 1, L ++ [(k : Int)], by omega, by go_num, HST.out, by have := HM.out; simp; omega, by rw [HZ.out, HM.out]; exact HO5.out, HB5.out⟩
              case measure => simp [intOf]; omega
          · have he2 : (y == 0) = false := by simpa using hy
            have he3 : (y != 0) = true := by simp [hy]
            have HE := Lib.hid (show R = ([], y) from by
              have h1 : eqlL N F C U D E n = (L, y) := runE_err HL.out (show eqlF N F C U D E k L = (L, y) from by rw [HX.out, if_neg (by simp), if_pos hy]) hy hlt
              rw [HR2.out, h1]; dsimp only; rw [if_pos hy])
            clear hy
            go_wp2
            refine bodyPost_ret (results_tmp2 rfl _ _ _) rfl ?_
            rw [HE.out]
            exact ⟨⟨.slice none 0 0, rfl, World.ownsRow_nil _ _ _ _⟩, HBQ4.out⟩
        · have he2 : (x == 0) = false := by simpa using hx
          have he3 : (x != 0) = true := by simp [hx]
          have HE := Lib.hid (show R = ([], x) from by
            have h1 : eqlL N F C U D E n = (L, x) := runE_err HL.out (show eqlF N F C U D E k L = (L, x) from by rw [HX.out, if_pos hx]) hx hlt
            rw [HR2.out, h1]; dsimp only; rw [if_pos hx])
          clear hx
          go_wp2
          refine bodyPost_ret (results_tmp2 rfl _ _ _) rfl ?_
          rw [HE.out]
          exact ⟨⟨.slice none 0 0, rfl, World.ownsRow_nil _ _ _ _⟩, HBQ2.out⟩
      · obtain rfl : k = n := by omega
        have i1 : ¬ (k : Int) < N := by have := HNn.out; omega
        obtain ⟨a5, c5, rfl, _, _⟩ := iowns_shape ho (by omega)
        have HO := Lib.hid (owns_low ho (show w.heap.size ≤ w1.heap.size by have := HB0.out.size; have := HB1.out.size; omega))
        have HE := Lib.hid (show R = (L, 0) from by rw [HR2.out, HL.out]; rfl)
        have HBQ5 := Lib.hid (HB0.out.trans (HBQ.out.mono HB0.out.size))
        clear ho
        go_wp2
        refine bodyPost_ret (results_tmp2 rfl _ _ _) rfl ?_
        rw [HE.out]
        exact ⟨⟨_, rfl, HO.out⟩, HBQ5.out⟩
  · have hd : decide (okG N F C U) = false := by simpa using hg
    simp only [hd] at hgr
    have HGR := Lib.hid hgr
    have HE := Lib.hid (show R = ([], 12) from HR.out.trans (if_pos hg))
    clear hgr hd hg HR
    go_enter Tryz.func40, Tryz.ntmps40
    go_upto_region 1 with fail
    rw [← HW.out]
    go_wp2_with fail
    refine (HGR.out _).mono ?_
    rintro e w1 ⟨rfl, hb1⟩
    have HB1 := Lib.hid (HB0.out.trans (hb1.mono HB0.out.size))
    clear hb1 c0 c1 c2 c3
    go_wp2
    refine bodyPost_ret (results_tmp2 rfl _ _ _) rfl ?_
    rw [HE.out]
    exact ⟨⟨.slice none 0 0, rfl, World.ownsRow_nil _ _ _ _⟩, HB1.out⟩
end Go.Proofs.YtpkeikbiblfidaaGreatDoor

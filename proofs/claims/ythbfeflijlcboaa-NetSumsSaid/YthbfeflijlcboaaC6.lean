/-
  The document's net: in, At, Send, off.
-/
import Derived.Test.YthbfeflijlcboaaC5
import Derived.Deep.Cut
namespace Go.Proofs.Ythbfeflijlcboaa
open Go.RowKit
set_option linter.unusedVariables false
set_option linter.unusedSimpArgs false

set_option maxRecDepth 20000 in
set_option maxHeartbeats 400000 in
theorem rin_any (p : Nat) (i : Int) (a : Option Addr) (n c : Nat) (w : World) (hc : w.cell? ⟨p, 0, none⟩ = some (.slice a n c)) :
    Calls Try.prog 33 #[.pointer (some ⟨p, 0, none⟩), .int .i64 i] w fun e w' => e = .returned (.bool (decide (0 ≤ i ∧ i < (n : Int)))) ∧ w' = w := by
  go_enter Try.func33, Try.ntmps33
  by_cases h : 0 ≤ i ∧ i < (n : Int)
  · have h1 : 0 ≤ i := h.1
    have h2 : i < (n : Int) := h.2
    rw [decide_eq_true h]
    clear h
    go_wp2
    go_ret
    exact ⟨rfl, rfl⟩
  · rw [decide_eq_false h]
    by_cases h1 : 0 ≤ i
    · have h2 : ¬ i < (n : Int) := by omega
      clear h
      go_wp2
      go_ret
      exact ⟨rfl, rfl⟩
    · clear h
      go_wp2
      go_ret
      exact ⟨rfl, rfl⟩

set_option maxRecDepth 20000 in
set_option maxHeartbeats 400000 in
theorem rat_any (B p : Nat) (v : Value) (S : NS) (i : Int) (w : World) (h : RN w B p v S) :
    Calls Try.prog 23 #[.pointer (some ⟨p, 0, none⟩), .int .i64 i] w fun e w' => e = .returned (pkE (S.at' i)) ∧ Below w.heap.size w w' := by
  obtain ⟨c0, c1, c2, c3, hf⟩ := RN.cells h
  obtain ⟨a, c, rfl, hle, hcm, hg⟩ := owns_shape1 (Nt.own h)
  have hcx : (c : Int) ≤ 9223372036854775807 := by unfold maxLen at hcm; omega
  have hal : Below w.heap.size w (w.alloc (.cells #[.int .i64 0, .string noBytes] 41)) := (Below.refl _ _).alloc (Nat.le_refl _) _
  have c0' := (hal.cell (p := ⟨p, 0, none⟩) (Nt.lt h)).trans c0
  have hfa := rin_any p i a S.L.length c _ c0'
  have HFA := Lib.hid hfa
  have HAL := Lib.hid hal
  by_cases hs : S.has i
  · obtain ⟨k, rfl, hk⟩ := has_nat hs
    obtain ⟨g, rfl, hgo, _, hgl⟩ := hg (by omega)
    have ha : S.at' (k : Int) = (wAt S.L k, 0) := by unfold NS.at'; rw [if_pos hs]; rfl
    rw [ha]
    obtain ⟨e1, e2⟩ := puts_at S.L k hk
    have d0 := owns_cell (Nt.own h) hgo _ _ e1
    have d1 := owns_cell (Nt.own h) hgo _ _ e2
    have d0' := (hal.cell (p := ⟨g, k * 2, none⟩) hgl).trans d0
    have d1' := (hal.cell (p := ⟨g, k * 2 + 1, none⟩) hgl).trans d1
    have i1 : (0 : Int) ≤ (k : Int) := by omega
    have i2 : (k : Int) < (S.L.length : Int) := by omega
    rw [decide_eq_true (And.intro i1 i2)] at HFA
    generalize wAt S.L k = W at *
    obtain ⟨x, s⟩ := W
    generalize S.L.length = n at *
    clear h c0 c1 c2 c3 hf hg hgo hgl e1 e2 d0 d1 ha hs hfa hal
    have q0 := (pk_new w x s).1
    have q1 := (pk_new w x s).2
    have HB := Lib.hid ((Below.refl w.heap.size w).alloc (Nat.le_refl _) (.cells #[.int .i64 x, .string s] 41))
    go_enter Try.func23, Try.ntmps23
    go_wp2_with fail
    refine HFA.out.mono ?_
    rintro e w1 ⟨rfl, hw1⟩; obtain rfl := hw1.symm; clear hw1
    go_wp2
    refine bodyPost_ret (by simp [results, Try.results23, go_sem, q0, q1]; try rfl) rfl ?_
    exact ⟨rfl, HB.out⟩
  · have ha : S.at' i = ((0, noBytes), 3) := by unfold NS.at'; rw [if_neg hs]
    rw [ha]
    have hs' : ¬ (0 ≤ i ∧ i < (S.L.length : Int)) := hs
    rw [decide_eq_false hs'] at HFA
    clear h c0 c1 c2 c3 hf hg ha hs hs' hfa hal
    generalize S.L.length = n at *
    have q0 := (pk_new w 0 noBytes).1
    have q1 := (pk_new w 0 noBytes).2
    unfold noBytes at HFA q0 q1 c0' HAL
    go_enter Try.func23, Try.ntmps23
    go_wp2_with fail
    refine HFA.out.mono ?_
    rintro e w1 ⟨rfl, hw1⟩; obtain rfl := hw1.symm; clear hw1
    go_wp2
    refine bodyPost_ret (by simp [results, Try.results23, go_sem, q0, q1]; try rfl) rfl ?_
    exact ⟨rfl, HAL.out⟩

set_option maxRecDepth 20000 in
set_option maxHeartbeats 1000000 in
theorem rsend_any (B p : Nat) (v : Value) (S : NS) (to' : Int) (s : ByteArray) (w : World) (N : Nat) (h : RN w B p v S) (hB : B ≤ w.heap.size) (hok : S.ok N) (hN : N ≤ 1000000) :
    Calls Try.prog 22 #[.pointer (some ⟨p, 0, none⟩), .int .i64 to', .string s] w fun e w' => e = .returned (.int .i64 (S.send to' s).1) ∧ NP 30 rF w B p v (S.send to' s).2 w' := by
  have hca := hok.came
  have hfew := hok.few
  have hlen := hok.len
  have wk : IntKind.i64.wrap ((S.sent : Int) + 1) = (S.sent : Int) + 1 := IntWalk.i64_in _ (by omega)
  have wl : IntKind.i64.wrap ((S.lost : Int) + 1) = (S.lost : Int) + 1 := IntWalk.i64_in _ (by omega)
  obtain ⟨c0, c1, c2, c3, hf⟩ := RN.cells h
  have H := Lib.hid h
  by_cases ht : to' = 0 ∨ to' = 1
  · have hn1 : RN (w.setCell ⟨p, 1, none⟩ (.int .i64 ((S.sent : Int) + 1))) B p v ⟨S.L, S.sent + 1, S.came, S.lost⟩ := by
      refine Nt.head h (by decide) (gb_setCell (World.grownBy.refl _ _)) ?_ rfl
      refine (blk_setCell h.blk).trans ?_
      simp [rF]
    have hfr1 : Fr (ft p v) w (w.setCell ⟨p, 1, none⟩ (.int .i64 ((S.sent : Int) + 1))) := (Fr.refl _ _).set (.inl (.inl rfl))
    obtain ⟨a, c, rfl, hle, hcm, hg⟩ := owns_shape1 (Nt.own hn1)
    obtain ⟨d0, d1, d2, d3, df⟩ := RN.cells hn1
    by_cases h60 : 60 ≤ S.L.length
    · have hu : S.send to' s = (11, ⟨S.L, S.sent + 1, S.came, S.lost + 1⟩) := by unfold NS.send; rw [if_pos ht, if_pos h60]
      rw [hu]
      have hn4 : RN ((w.setCell ⟨p, 1, none⟩ (.int .i64 ((S.sent : Int) + 1))).setCell ⟨p, 3, none⟩ (.int .i64 ((S.lost : Int) + 1))) B p (.slice a S.L.length c) ⟨S.L, S.sent + 1, S.came, S.lost + 1⟩ := by
        refine Nt.head hn1 (by decide) (gb_setCell (World.grownBy.refl _ _)) ?_ rfl
        refine (blk_setCell hn1.blk).trans ?_
        simp [rF]
      have HROW := Lib.hid (show NPv 30 rF w B p (.slice a S.L.length c) (.slice a S.L.length c) ⟨S.L, S.sent + 1, S.came, S.lost + 1⟩ _ from ⟨hn4, hfr1.set (.inl (.inl rfl)), fun k hk => .inl hk⟩)
      have j1 : (60 : Int) ≤ (S.L.length : Int) := by omega
      clear hu hn1 hfr1 d1 d2 hn4 hg h c0 c2 c3 hok hca hfew hlen
      rcases ht with rfl | rfl
      · go_enter Try.func22, Try.ntmps22
        go_wp2
        go_ret
        exact ⟨rfl, HROW.out.np⟩
      · go_enter Try.func22, Try.ntmps22
        go_wp2
        go_ret
        exact ⟨rfl, HROW.out.np⟩
    · have hu : S.send to' s = (0, ⟨S.L ++ [(to', s)], S.sent + 1, S.came, S.lost⟩) := by unfold NS.send; rw [if_pos ht, if_neg h60]
      rw [hu]
      have j1 : ¬ (60 : Int) ≤ (S.L.length : Int) := by omega
      obtain ⟨w1, hw1⟩ : ∃ w1, w1 = w.setCell ⟨p, 1, none⟩ (.int .i64 ((S.sent : Int) + 1)) := ⟨_, rfl⟩
      have d0e := d0
      rw [← hw1] at hn1 hfr1 d0 d1 d2 d3 df
      have hs1 : w1.heap.size = w.heap.size := by rw [hw1]; simp [World.setCell]
      obtain ⟨i0, hi, hz0, hz1, hz2⟩ := info_parts Try.infoPk
      have how := Nt.own hn1
      have HN := Lib.hid hn1
      have HF := Lib.hid hfr1
      have HW := Lib.hid hw1
      have hbs : B ≤ w1.heap.size := by omega
      have hB1 := Lib.hid hbs
      have HH : ∀ v5 w5, w5.ownsRow B 41 2 v5 (S.L.length + 1) (puts S.L ++ puts [(to', s)]) → (w1.alloc (.cells #[.int .i64 to', .string s] 41)).grownBy w5 (Value.slice a S.L.length c).ownBlock → (v5.ownBlock = (Value.slice a S.L.length c).ownBlock ∨ v5.ownBlock = some (w1.alloc (.cells #[.int .i64 to', .string s] 41)).heap.size) →
          w5.cell? ⟨p, 0, none⟩ = some (.slice a S.L.length c) ∧ (∀ i, w5.frozen? ⟨p, i, none⟩ = false) ∧ NP 30 rF w B p (.slice a S.L.length c) ⟨S.L ++ [(to', s)], S.sent + 1, S.came, S.lost⟩ (w5.setCell ⟨p, 0, none⟩ v5) := fun v5 w5 how5 hg5 hat5 => by
        rw [← puts_append] at how5
        obtain ⟨hb, hn⟩ := app_end (c := 0) (S2 := ⟨S.L ++ [(to', s)], S.sent + 1, S.came, S.lost⟩) HN.out (by decide) HF.out (by simpa using how5) hg5 hat5 (by simp [rF])
        exact ⟨by rw [cell_of_blk hb]; rfl, fun i => free_of_blk hb i, hn.np⟩
      have HE := Lib.hid HH
      clear HH hu hn1 hfr1 d1 d2 d3 hg h c0 c2 c3 hok hca hfew hw1 hs1
      rcases ht with rfl | rfl
      · go_enter Try.func22, Try.ntmps22
        go_upto_region 7 with fail
        rw [← HW.out]
        go_wp2_with (at_builtin; refine wpList_append_own_at _ (o := ⟨some 44, _, _, _, _, _⟩) rfl (.tmp 39) (.tmp 43) 28 rfl B 41 i0 _ 2 24 Try.underlying28 hi hz0 hz1 hz2 rfl (by omega) (.slice a S.L.length c) S.L.length _ rfl (how.alloc _) ⟨w1.heap.size, 0, none⟩ 1 1 (puts [(0, s)]) rfl rfl (put_cells w1 0 s) (puts_one _) (by unfold maxLen; omega) (by omega) (by simp; exact Nat.le_succ_of_le hB1.out) ?_)
        intro v5 w5 how5 hg5 _ hat5
        obtain ⟨k5, f5, hend⟩ := HE.out v5 w5 how5 hg5 (by simpa using hat5)
        have HEND := Lib.hid hend
        obtain ⟨a5, n5, rfl, _, _, _⟩ := owns_shape1 how5
        clear how5 hg5 hat5 hend
        go_wp2
        go_ret
        exact ⟨rfl, HEND.out⟩
      · go_enter Try.func22, Try.ntmps22
        go_upto_region 7 with fail
        rw [← HW.out]
        go_wp2_with (at_builtin; refine wpList_append_own_at _ (o := ⟨some 44, _, _, _, _, _⟩) rfl (.tmp 39) (.tmp 43) 28 rfl B 41 i0 _ 2 24 Try.underlying28 hi hz0 hz1 hz2 rfl (by omega) (.slice a S.L.length c) S.L.length _ rfl (how.alloc _) ⟨w1.heap.size, 0, none⟩ 1 1 (puts [(1, s)]) rfl rfl (put_cells w1 1 s) (puts_one _) (by unfold maxLen; omega) (by omega) (by simp; exact Nat.le_succ_of_le hB1.out) ?_)
        intro v5 w5 how5 hg5 _ hat5
        obtain ⟨k5, f5, hend⟩ := HE.out v5 w5 how5 hg5 (by simpa using hat5)
        have HEND := Lib.hid hend
        obtain ⟨a5, n5, rfl, _, _, _⟩ := owns_shape1 how5
        clear how5 hg5 hat5 hend
        go_wp2
        go_ret
        exact ⟨rfl, HEND.out⟩
  · have hu : S.send to' s = (2, S) := by unfold NS.send; rw [if_neg ht]
    rw [hu]
    have t0 : (to' == 0) = false := by simp; omega
    have t1 : (to' == 1) = false := by simp; omega
    have t2 : (to' != 0) = true := by simp; omega
    have t3 : (to' != 1) = true := by simp; omega
    clear ht hu h c0 c1 c2 c3 hf
    go_enter Try.func22, Try.ntmps22
    go_wp2
    go_ret
    exact ⟨rfl, NP.same H.out⟩
end Go.Proofs.Ythbfeflijlcboaa


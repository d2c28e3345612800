/-
  The document's net: off, Take, Lose.
-/
import Derived.Test.YthbfeflijlcboaaC6
namespace Go.Proofs.Ythbfeflijlcboaa
open Go.RowKit
set_option linter.unusedVariables false
set_option linter.unusedSimpArgs false

theorem owns_low {w : World} {B B' e size n : Nat} {v : Value} {xs : List Value} (h : w.ownsRow B e size v n xs) (hl : B' ≤ B) : w.ownsRow B' e size v n xs := by
  refine ⟨h.1, ?_⟩
  rcases h.2 with hn | ⟨g, cap, cur, rfl, hb, rest⟩
  · exact .inl hn
  · exact .inr ⟨g, cap, cur, rfl, by omega, rest⟩

/-- The slice in the head becomes another one, of blocks that are new. -/
theorem swap_end {ty : TypeId} {F : Value → NS → Array Value} {w w5 : World} {B p c : Nat} {v v5 : Value} {S1 S2 : NS} (h : Nt ty F w B p v S1) (hB : B ≤ w.heap.size) (hb : Below w.heap.size w w5)
    (how5 : w5.ownsRow w.heap.size 41 2 v5 S2.L.length (puts S2.L)) (hF : (F v S1).setIfInBounds c v5 = F v5 S2) :
    w5.heap[p]? = some (.cells (F v S1) ty (0, 0)) ∧ NPv ty F w B p v v5 S2 (w5.setCell ⟨p, c, none⟩ v5) := by
  have hpl := h.lt
  have hblk := (hb.block p hpl).trans h.blk
  have hlo := how5.lt
  refine ⟨hblk, ⟨?_, h.low, ?_⟩, (Fr.of_below hb).set (.inl (.inl rfl)), ?_⟩
  · exact (blk_setCell hblk).trans (by rw [hF])
  · refine owns_set_other (owns_low how5 hB) (fun e => ?_) _
    have := (hlo _ e).1; omega
  · rintro k (rfl | e2)
    · exact .inl (.inl rfl)
    · exact .inr (hlo _ e2).1

set_option maxRecDepth 20000 in
set_option maxHeartbeats 1000000 in
theorem roff_any (B p : Nat) (v : Value) (S : NS) (k : Nat) (w : World) (h : RN w B p v S) (hB : B ≤ w.heap.size) (hk : k < S.L.length) (hlen : S.L.length ≤ 60) :
    Calls Try.prog 34 #[.pointer (some ⟨p, 0, none⟩), .int .i64 (k : Int)] w fun e w' => e = .returned (.tuple #[]) ∧ NP 30 rF w B p v ⟨offL S.L k, S.sent, S.came, S.lost⟩ w' := by
  obtain ⟨c0, c1, c2, c3, hf⟩ := RN.cells h
  obtain ⟨a, c, rfl, hle, hcm, hg⟩ := owns_shape1 (Nt.own h)
  obtain ⟨g, rfl, hgo, _, hgl⟩ := hg (by omega)
  have hm' : (c : Int) ≤ 9223372036854775807 := by unfold maxLen at hcm; omega
  obtain ⟨i0, hi0, hz0, hz1, hz2⟩ := info_parts Try.infoPk
  obtain ⟨M, hM⟩ : ∃ M, M = (puts S.L).take (k * 2) := ⟨_, rfl⟩
  obtain ⟨news, hnews⟩ : ∃ news, news = (puts S.L).drop ((k + 1) * 2) := ⟨_, rfl⟩
  have hpl : (puts S.L).length = S.L.length * 2 := puts_length _
  have hMl : M.length = k * 2 := by rw [hM, List.length_take]; omega
  have hlen2 : news.length = (S.L.length - (k + 1)) * 2 := by rw [hnews, List.length_drop]; omega
  have hcell : ∀ w', Below w.heap.size w w' → ∀ (j : Nat) (u : Value), (puts S.L)[j]? = some u → w'.cell? ⟨g, j, none⟩ = some u := fun w' hb j u hj => (hb.cell (p := ⟨g, j, none⟩) hgl).trans (owns_cell (Nt.own h) hgo j u hj)
  have hMs : ∀ w', Below w.heap.size w w' → ∀ (j : Nat) (u : Value), M[j]? = some u → w'.cell? ((⟨g, 0, none⟩ : Addr).add j) = some u := fun w' hb j u hj => by
    rw [Addr.add_none, Nat.zero_add]
    refine hcell w' hb j u ?_
    rw [hM, List.getElem?_take] at hj
    split at hj
    · exact hj
    · cases hj
  obtain ⟨A, hA, hsrc⟩ : ∃ A : Addr, (if c = k + 1 then some (⟨g, 0, none⟩ : Addr) else some ⟨g, (k + 1) * 2, none⟩) = some A ∧ Hid (∀ w', Below w.heap.size w w' → ∀ t u, news[t]? = some u → w'.cell? (A.add t) = some u) := by
    by_cases hc : c = k + 1
    · refine ⟨⟨g, 0, none⟩, by simp [hc], Lib.hid fun w' hb t u hu => ?_⟩
      have h0 : news.length = 0 := by rw [hlen2]; omega
      rw [List.length_eq_zero_iff.1 h0] at hu
      simp at hu
    · refine ⟨⟨g, (k + 1) * 2, none⟩, by simp [hc], Lib.hid fun w' hb t u hu => ?_⟩
      rw [Addr.add_none]
      apply hcell w' hb
      rw [hnews, List.getElem?_drop] at hu
      exact hu
  have s1 := Lib.hid hlen2
  have s0 := Lib.hid hMl
  have s2 : Hid (∀ u ∈ news, u.oneCell' = true) := Lib.hid fun u hu => by rw [hnews] at hu; exact puts_one S.L u (List.mem_of_mem_drop hu)
  have s3 : Hid (∀ u ∈ M, u.oneCell' = true) := Lib.hid fun u hu => by rw [hM] at hu; exact puts_one S.L u (List.mem_of_mem_take hu)
  have s4 := Lib.hid hMs
  have H := Lib.hid h
  have HMN := Lib.hid (And.intro hM hnews)
  have wk : IntKind.i64.wrap ((k : Int) + 1) = (k : Int) + 1 := IntWalk.i64_in _ (by omega)
  have b0 : (0 : Int) ≤ (k : Int) := by omega
  have b3 : (k : Int) ≤ (S.L.length : Int) := by omega
  have b4 : (k : Int) ≤ (c : Int) := by omega
  have b1 : (0 : Int) ≤ (k : Int) + 1 := by omega
  have b2 : (k : Int) + 1 ≤ (S.L.length : Int) := by omega
  have hic : k ≤ c := by omega
  have hjc : k + 1 ≤ c := by omega
  have hpw : p < w.heap.size := Nt.lt h
  have HP := Lib.hid hpw
  clear hM hnews hMl hlen2 hcell hMs h c1 c2 c3 hg hpl hpw
  go_enter Try.func34, Try.ntmps34
  go_wp2_with (at_builtin; refine wpList_append_own_at _ (o := ⟨some 12, _, _, _, _, _⟩) rfl (.tmp 5) (.tmp 11) 28 rfl w.heap.size 41 i0 _ 2 24 Try.underlying28 hi0 hz0 hz1 hz2 rfl (by omega) (.slice none 0 0) 0 [] rfl (World.ownsRow_nil _ _ _ _) ⟨g, 0, none⟩ k c M rfl s0.out (s4.out _ (Below.refl _ _)) s3.out (by unfold maxLen; omega) (by omega) (Nat.le_refl _) ?_)
  intro v5 w5 how5 hg5 _ hat5
  have hb5 : Below w.heap.size w w5 := (Below.refl _ w).grown hg5 (Nat.le_refl _) (fun k e => by simp [Value.ownBlock] at e)
  have c5 : w5.cell? ⟨p, 0, none⟩ = some (.slice (some ⟨g, 0, none⟩) S.L.length c) := (hb5.cell (p := ⟨p, 0, none⟩) HP.out).trans c0
  obtain ⟨a5, n5, rfl, _, _, _⟩ := owns_shape1 how5
  have HB5 := Lib.hid hb5
  have HO5 := Lib.hid how5
  clear how5 hg5 hat5 hb5
  go_wp2_with (at_builtin; refine wpList_append_own_at _ (o := ⟨some 22, _, _, _, _, _⟩) rfl (.tmp 14) (.tmp 21) 28 rfl w.heap.size 41 i0 _ 2 24 Try.underlying28 hi0 hz0 hz1 hz2 rfl (by omega) (.slice a5 k n5) k _ rfl HO5.out A (S.L.length - (k + 1)) (c - (k + 1)) news rfl s1.out (hsrc.out _ HB5.out) s2.out (by unfold maxLen; omega) (by omega) HB5.out.size ?_)
  intro v6 w6 how6 hg6 _ hat6
  try rw [List.nil_append] at how6
  have hb6 : Below w.heap.size w w6 := HB5.out.grown hg6 HB5.out.size (fun k e => (HO5.out.lt k e).1)
  have hoff : M ++ news = puts (offL S.L k) := by rw [HMN.out.1, HMN.out.2, offL_puts]
  have hl6 : k + (S.L.length - (k + 1)) = (offL S.L k).length := by rw [offL_length (by omega)]; omega
  rw [hoff, hl6] at how6
  obtain ⟨hb, hn⟩ := swap_end (c := 0) (S2 := ⟨offL S.L k, S.sent, S.came, S.lost⟩) H.out (Nat.le_trans H.out.low (Nat.le_of_lt HP.out)) hb6 how6 (by simp [rF])
  have k6 : w6.cell? ⟨p, 0, none⟩ = some (.slice (some ⟨g, 0, none⟩) S.L.length c) := by rw [cell_of_blk hb]; rfl
  have f6 : ∀ i, w6.frozen? ⟨p, i, none⟩ = false := fun i => free_of_blk hb i
  obtain ⟨a6, n6, rfl, _, _, _⟩ := owns_shape1 how6
  have HEND := Lib.hid hn
  clear how6 hg6 hat6 hb6 hoff hl6 hn hb
  go_wp2
  refine bodyPost_end (results_none rfl _ _ _) rfl ?_
  exact ⟨rfl, HEND.out.np⟩

set_option maxRecDepth 20000 in
set_option maxHeartbeats 1000000 in
theorem rtake_any (B p : Nat) (v : Value) (S : NS) (i : Int) (w : World) (N : Nat) (h : RN w B p v S) (hok : S.ok N) (hN : N ≤ 1000000) :
    Calls Try.prog 24 #[.pointer (some ⟨p, 0, none⟩), .int .i64 i] w fun e w' => e = .returned (pkE (S.at' i)) ∧ NP 30 rF w B p v (S.take i) w' := by
  have hal : Below w.heap.size w (w.alloc (.cells #[.int .i64 0, .string ⟨#[]⟩] 41)) := (Below.refl _ _).alloc (Nat.le_refl _) _
  have h0 : RN _ B p v S := Nt.below h hal
  have hre := rat_any B p v S i _ h0
  have hca := hok.came
  have hlen := hok.len
  have HRE := Lib.hid hre
  have H := Lib.hid h
  have H0 := Lib.hid h0
  have hBw := Nat.le_trans h.low (Nat.le_of_lt (Nt.lt h))
  have wk : IntKind.i64.wrap ((S.came : Int) + 1) = (S.came : Int) + 1 := IntWalk.i64_in _ (by omega)
  clear hre h0 h hal hok hca
  by_cases hs : S.has i
  · obtain ⟨k, rfl, hk⟩ := has_nat hs
    have ha : S.at' (k : Int) = (wAt S.L k, 0) := by unfold NS.at'; rw [if_pos hs]; rfl
    have hk2 : S.take (k : Int) = ⟨offL S.L k, S.sent, S.came + 1, S.lost⟩ := by unfold NS.take; rw [if_pos hs]; rfl
    rw [ha] at HRE
    rw [ha, hk2]
    generalize wAt S.L k = W at *
    obtain ⟨x, s⟩ := W
    unfold pkE pkV at HRE
    clear hs ha hk2
    go_enter Try.func24, Try.ntmps24
    go_wp2_with fail
    refine HRE.out.mono ?_
    rintro e w1 ⟨rfl, hb1⟩
    have hn1 : RN w1 B p v S := Nt.below H0.out hb1
    have hs1 : w.heap.size < w1.heap.size := by have := hb1.size; simp at this; omega
    have hal2 : Below w1.heap.size w1 (w1.alloc (.cells #[.int .i64 x, .string s] 41)) := (Below.refl _ _).alloc (Nat.le_refl _) _
    have hn2 := hn1.below hal2
    have hb2 : Below w.heap.size w (w1.alloc (.cells #[.int .i64 x, .string s] 41)) := ((Below.refl _ _).alloc (Nat.le_refl _) _).trans ((hb1.trans (hal2.mono hb1.size)).mono (by simp))
    have hrb := ((hb1.trans (hal2.mono hb1.size)).block w.heap.size (by simp)).trans (heap_alloc_new w (.cells #[.int .i64 0, .string ⟨#[]⟩] 41))
    have hqb := heap_alloc_new w1 (.cells #[.int .i64 x, .string s] 41)
    have hs2 : (w1.alloc (.cells #[.int .i64 x, .string s] 41)).heap.size = w1.heap.size + 1 := by simp
    have hoff := roff_any B p v S k _ hn2 (Nat.le_trans hBw hb2.size) hk hlen
    have HOFF := Lib.hid hoff
    have HX := Lib.hid (And.intro hn2 (And.intro hb2 (And.intro hrb (And.intro hqb (And.intro hs1 hs2)))))
    clear hoff hn1 hn2 hb2 hrb hqb hal2 hb1 hs1 hs2
    go_wp2_with fail
    refine HOFF.out.mono ?_
    rintro e w3 ⟨rfl, v', hn3, hf3, ht3⟩
    obtain ⟨hn2, hb2, hrb, hqb, hs1, hs2⟩ := HX.out
    have hlw : ∀ b, w.heap.size ≤ b → ¬ ft p v b := fun b hb e => by have := (Nt.ft_low H.out b e).2; omega
    have hrb3 := (hf3.block w.heap.size (by omega) (hlw _ (Nat.le_refl _))).trans hrb
    have hqb3 := (hf3.block w1.heap.size (by omega) (hlw _ (by omega))).trans hqb
    have hfr : Fr (ft p v) w w3 := (Fr.of_below hb2).trans hf3 (fun i hi => .inl hi)
    have ht : ∀ j, ft p v' j → ft p v j ∨ w.heap.size ≤ j := fun j hj => by
      rcases ht3 j hj with e | e
      · exact .inl e
      · exact .inr (by omega)
    have hnr : ¬ ft p v' w.heap.size := fun e => by
      rcases ht3 _ e with e | e
      · exact hlw _ (Nat.le_refl _) e
      · omega
    have hpw : p < w.heap.size := (Nt.ft_low H.out p (.inl rfl)).2
    obtain ⟨c0, c1, c2, c3, hf⟩ := RN.cells hn3
    obtain ⟨w4, hw4⟩ : ∃ w4, w4 = w3.setCell ⟨p, 2, none⟩ (.int .i64 ((S.came : Int) + 1)) := ⟨_, rfl⟩
    have hb4r := (show w4.heap[w.heap.size]? = w3.heap[w.heap.size]? from by rw [hw4, Below.heap_setCell _ _ _ _ (by simp; omega)]).trans hrb3
    have hb4q := (show w4.heap[w1.heap.size]? = w3.heap[w1.heap.size]? from by rw [hw4, Below.heap_setCell _ _ _ _ (by simp; omega)]).trans hqb3
    have q0 : w4.cell? ⟨w1.heap.size, 0, none⟩ = some (.int .i64 x) := by rw [cell_of_blk hb4q]; rfl
    have q1 : w4.cell? ⟨w1.heap.size, 1, none⟩ = some (.string s) := by rw [cell_of_blk hb4q]; rfl
    have r0 : w4.cell? ⟨w.heap.size, 0, none⟩ = some (.int .i64 0) := by rw [cell_of_blk hb4r]; rfl
    have r1 : w4.cell? ⟨w.heap.size, 1, none⟩ = some (.string ⟨#[]⟩) := by rw [cell_of_blk hb4r]; rfl
    have rf : ∀ i, w4.frozen? ⟨w.heap.size, i, none⟩ = false := fun i => free_of_blk hb4r i
    have hb5 := blk_setCell (i := 1) (u := .string s) (blk_setCell (i := 0) (u := .int .i64 x) hb4r)
    have z0 : ((w4.setCell ⟨w.heap.size, 0, none⟩ (.int .i64 x)).setCell ⟨w.heap.size, 1, none⟩ (.string s)).cell? ⟨w.heap.size, 0, none⟩ = some (.int .i64 x) := by rw [cell_of_blk hb5]; rfl
    have z1 : ((w4.setCell ⟨w.heap.size, 0, none⟩ (.int .i64 x)).setCell ⟨w.heap.size, 1, none⟩ (.string s)).cell? ⟨w.heap.size, 1, none⟩ = some (.string s) := by rw [cell_of_blk hb5]; rfl
    have hn4 : RN w4 B p v' ⟨offL S.L k, S.sent, S.came + 1, S.lost⟩ := by
      refine Nt.head hn3 (by decide) (by rw [hw4]; exact gb_setCell (World.grownBy.refl _ _)) ?_ rfl
      rw [hw4]
      refine (blk_setCell hn3.blk).trans ?_
      simp [rF]
    have hrow : NPv 30 rF w B p v v' ⟨offL S.L k, S.sent, S.came + 1, S.lost⟩ w4 := ⟨hn4, by rw [hw4]; exact hfr.set (.inl (.inl rfl)), ht⟩
    have HROW := Lib.hid ((hrow.set (i := 0) (u := .int .i64 x) (Nat.le_refl _) hnr).set (i := 1) (u := .string s) (Nat.le_refl _) hnr)
    rw [hw4] at q0 q1 r0 r1 rf z0 z1 HROW
    have HZ := Lib.hid (And.intro z0 z1)
    clear z0 z1 hb5 hb4r hb4q hn4 hrow hw4 hpw hn2 hqb hrb hrb3 hqb3 hnr ht hfr hs1 hs2 hn3 hf3 ht3 c0 c1 c3 hb2 hlw
    go_wp2
    obtain ⟨z0, z1⟩ := HZ.out
    refine bodyPost_ret (by simp [results, Try.results24, go_sem, z0, z1]; try rfl) rfl ?_
    exact ⟨rfl, HROW.out.np⟩
  · have ha : S.at' i = ((0, noBytes), 3) := by unfold NS.at'; rw [if_neg hs]
    have hk2 : S.take i = S := by unfold NS.take; rw [if_neg hs]
    rw [ha] at HRE
    rw [ha, hk2]
    unfold pkE pkV noBytes at HRE
    unfold noBytes
    clear hs ha hk2
    go_enter Try.func24, Try.ntmps24
    go_wp2_with fail
    refine HRE.out.mono ?_
    rintro e w1 ⟨rfl, hb1⟩
    have hal2 : Below w1.heap.size w1 (w1.alloc (.cells #[.int .i64 0, .string ⟨#[]⟩] 41)) := (Below.refl _ _).alloc (Nat.le_refl _) _
    have hrb := ((hb1.trans (hal2.mono hb1.size)).block w.heap.size (by simp)).trans (heap_alloc_new w (.cells #[.int .i64 0, .string ⟨#[]⟩] 41))
    obtain ⟨q0, q1⟩ := pk_new w1 0 ⟨#[]⟩
    have hb2 : Below w.heap.size w (w1.alloc (.cells #[.int .i64 0, .string ⟨#[]⟩] 41)) := ((Below.refl _ _).alloc (Nat.le_refl _) _).trans ((hb1.trans (hal2.mono hb1.size)).mono (by simp))
    obtain ⟨w4, hw4⟩ : ∃ w4, w4 = w1.alloc (.cells #[.int .i64 0, .string ⟨#[]⟩] 41) := ⟨_, rfl⟩
    rw [← hw4] at hrb hb2
    have r0 : w4.cell? ⟨w.heap.size, 0, none⟩ = some (.int .i64 0) := by rw [cell_of_blk hrb]; rfl
    have r1 : w4.cell? ⟨w.heap.size, 1, none⟩ = some (.string ⟨#[]⟩) := by rw [cell_of_blk hrb]; rfl
    have rf : ∀ i, w4.frozen? ⟨w.heap.size, i, none⟩ = false := fun i => free_of_blk hrb i
    have hb5 := blk_setCell (i := 1) (u := .string ⟨#[]⟩) (blk_setCell (i := 0) (u := .int .i64 0) hrb)
    have z0 : ((w4.setCell ⟨w.heap.size, 0, none⟩ (.int .i64 0)).setCell ⟨w.heap.size, 1, none⟩ (.string ⟨#[]⟩)).cell? ⟨w.heap.size, 0, none⟩ = some (.int .i64 0) := by rw [cell_of_blk hb5]; rfl
    have z1 : ((w4.setCell ⟨w.heap.size, 0, none⟩ (.int .i64 0)).setCell ⟨w.heap.size, 1, none⟩ (.string ⟨#[]⟩)).cell? ⟨w.heap.size, 1, none⟩ = some (.string ⟨#[]⟩) := by rw [cell_of_blk hb5]; rfl
    have hlo : ∀ r, r = w.heap.size → ¬ ft p v r := fun r e hr => by have := (Nt.ft_low H.out r hr).2; omega
    have HROW := Lib.hid ((NPv.set (i := 1) (u := .string ⟨#[]⟩) (NPv.set (i := 0) (u := .int .i64 0) (show NPv 30 rF w B p v v S w4 from ⟨Nt.below H.out hb2, Fr.of_below hb2, fun k hk => .inl hk⟩) (Nat.le_refl _) (hlo _ rfl)) (Nat.le_refl _) (hlo _ rfl)).np)
    rw [hw4] at r0 r1 rf z0 z1 HROW
    have HZ := Lib.hid (And.intro z0 z1)
    clear z0 z1 hb5 hrb hb2 hal2 hb1 hlo hw4
    go_wp2
    obtain ⟨z0, z1⟩ := HZ.out
    refine bodyPost_ret (by simp [results, Try.results24, go_sem, z0, z1]; try rfl) rfl ?_
    exact ⟨rfl, HROW.out⟩

set_option maxRecDepth 20000 in
set_option maxHeartbeats 1000000 in
theorem rlose_any (B p : Nat) (v : Value) (S : NS) (i : Int) (w : World) (N : Nat) (h : RN w B p v S) (hok : S.ok N) (hN : N ≤ 1000000) :
    Calls Try.prog 25 #[.pointer (some ⟨p, 0, none⟩), .int .i64 i] w fun e w' => e = .returned (.int .i64 (S.lose i).1) ∧ NP 30 rF w B p v (S.lose i).2 w' := by
  obtain ⟨c0, c1, c2, c3, hf⟩ := RN.cells h
  have hca := hok.came
  have hlen := hok.len
  have hBw := Nat.le_trans h.low (Nat.le_of_lt (Nt.lt h))
  have H := Lib.hid h
  have wk : IntKind.i64.wrap ((S.lost : Int) + 1) = (S.lost : Int) + 1 := IntWalk.i64_in _ (by omega)
  obtain ⟨a, c, rfl, hle, hcm, hg⟩ := owns_shape1 (Nt.own h)
  have hin := rin_any p i a S.L.length c w c0
  have HIN := Lib.hid hin
  clear hok hca hin hg
  by_cases hs : S.has i
  · obtain ⟨k, rfl, hk⟩ := has_nat hs
    have hs' : 0 ≤ (k : Int) ∧ (k : Int) < (S.L.length : Int) := hs
    have hk2 : S.lose (k : Int) = (0, ⟨offL S.L k, S.sent, S.came, S.lost + 1⟩) := by unfold NS.lose; rw [if_pos hs]; rfl
    rw [hk2]
    rw [decide_eq_true hs'] at HIN
    have HOFF := Lib.hid (roff_any B p _ S k w h hBw hk hlen)
    clear hs hs' hk2 hk h c0 c1 c2 c3 hf
    go_enter Try.func25, Try.ntmps25
    go_wp2_with fail
    refine HIN.out.mono ?_
    rintro e w1 ⟨rfl, hw1⟩; obtain rfl := hw1.symm; clear hw1
    go_wp2_with fail
    refine HOFF.out.mono ?_
    rintro e w1 ⟨rfl, v', hn1, hf1, ht1⟩
    obtain ⟨c0, c1, c2, c3, hf⟩ := RN.cells hn1
    have hn4 : RN (w1.setCell ⟨p, 3, none⟩ (.int .i64 ((S.lost : Int) + 1))) B p v' ⟨offL S.L k, S.sent, S.came, S.lost + 1⟩ := by
      refine Nt.head hn1 (by decide) (gb_setCell (World.grownBy.refl _ _)) ?_ rfl
      refine (blk_setCell hn1.blk).trans ?_
      simp [rF]
    have HROW := Lib.hid (show NPv 30 rF w B p (.slice a S.L.length c) v' ⟨offL S.L k, S.sent, S.came, S.lost + 1⟩ _ from ⟨hn4, hf1.set (.inl (.inl rfl)), ht1⟩)
    clear hn4 hn1 hf1 ht1 c0 c1 c2
    go_wp2
    go_ret
    exact ⟨rfl, HROW.out.np⟩
  · have hs' : ¬ (0 ≤ i ∧ i < (S.L.length : Int)) := hs
    have hk2 : S.lose i = (3, S) := by unfold NS.lose; rw [if_neg hs]
    rw [hk2]
    rw [decide_eq_false hs'] at HIN
    clear hs hs' hk2 h c0 c1 c2 c3 hf
    go_enter Try.func25, Try.ntmps25
    go_wp2_with fail
    refine HIN.out.mono ?_
    rintro e w1 ⟨rfl, hw1⟩; obtain rfl := hw1.symm; clear hw1
    go_wp2
    go_ret
    exact ⟨rfl, NP.same H.out⟩
end Go.Proofs.Ythbfeflijlcboaa


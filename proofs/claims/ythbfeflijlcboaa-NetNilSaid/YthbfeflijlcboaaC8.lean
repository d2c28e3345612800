/-
  The document's net: Twice, Cut, Drop, Copy.
-/
import Derived.Test.YthbfeflijlcboaaC7
namespace Go.Proofs.Ythbfeflijlcboaa
open Go.RowKit
set_option linter.unusedVariables false
set_option linter.unusedSimpArgs false

theorem np_fr {ty : TypeId} {F : Value → NS → Array Value} {w w' : World} {B p : Nat} {v v' : Value} {S S' : NS} (h : NPv ty F w B p v v' S w') (ht : ty ≠ 41) (i : Nat) (u : Value) (hL : S'.L = S.L) (hF : (F v' S).setIfInBounds i u = F v' S') : NPv ty F w B p v v' S' (w'.setCell ⟨p, i, none⟩ u) := by
  refine ⟨Nt.head h.1 ht (gb_setCell (World.grownBy.refl _ _)) ?_ hL, h.2.1.set (.inl (.inl rfl)), h.2.2⟩
  exact (blk_setCell h.1.blk).trans (by rw [hF])

set_option maxRecDepth 20000 in
set_option maxHeartbeats 1000000 in
theorem rtwice_any (B p : Nat) (v : Value) (S : NS) (i : Int) (w : World) (N : Nat) (h : RN w B p v S) (hB : B ≤ w.heap.size) (hok : S.ok N) (hN : N ≤ 1000000) :
    Calls Try.prog 26 #[.pointer (some ⟨p, 0, none⟩), .int .i64 i] w fun e w' => e = .returned (.int .i64 (S.twice i).1) ∧ NP 30 rF w B p v (S.twice i).2 w' := by
  have hfew := hok.few
  have hlen := hok.len
  have wk : IntKind.i64.wrap ((S.sent : Int) + 1) = (S.sent : Int) + 1 := IntWalk.i64_in _ (by omega)
  obtain ⟨c0, c1, c2, c3, hf⟩ := RN.cells h
  obtain ⟨a, c, rfl, hle, hcm, hg⟩ := owns_shape1 (Nt.own h)
  have hfa := rin_any p i a S.L.length c w c0
  have HFA := Lib.hid hfa
  have H := Lib.hid h
  by_cases hs : S.has i
  · have hs' : 0 ≤ i ∧ i < (S.L.length : Int) := hs
    rw [decide_eq_true hs'] at HFA
    by_cases h60 : 60 ≤ S.L.length
    · have hu : S.twice i = (11, S) := by unfold NS.twice; rw [if_pos hs, if_pos h60]
      rw [hu]
      have j1 : (60 : Int) ≤ (S.L.length : Int) := by omega
      clear hu h c1 c2 c3 hf hg hs hs' h60 hok hfa
      go_enter Try.func26, Try.ntmps26
      go_wp2_with fail
      refine HFA.out.mono ?_
      rintro e w1 ⟨rfl, hw1⟩; obtain rfl := hw1.symm; clear hw1
      go_wp2
      go_ret
      exact ⟨rfl, NP.same H.out⟩
    · obtain ⟨k, rfl, hk⟩ := has_nat hs
      have hu : S.twice (k : Int) = (0, ⟨S.L ++ [wAt S.L k], S.sent + 1, S.came, S.lost⟩) := by unfold NS.twice; rw [if_pos hs, if_neg h60]; rfl
      rw [hu]
      have j1 : ¬ (60 : Int) ≤ (S.L.length : Int) := by omega
      obtain ⟨g, rfl, hgo, _, hgl⟩ := hg (by omega)
      obtain ⟨e1, e2⟩ := puts_at S.L k hk
      have g0 : w.drew.cell? ⟨g, k * 2, none⟩ = _ := owns_cell (Nt.own h) hgo _ _ e1
      have g1 : w.drew.cell? ⟨g, k * 2 + 1, none⟩ = _ := owns_cell (Nt.own h) hgo _ _ e2
      have hn1d := nt_drew h
      have d3' : w.drew.cell? ⟨p, 0, none⟩ = some (.slice (some ⟨g, 0, none⟩) S.L.length c) := c0
      obtain ⟨W, hW⟩ : ∃ W, W = wAt S.L k := ⟨_, rfl⟩
      rw [← hW] at g0 g1 ⊢
      obtain ⟨x, s⟩ := W
      obtain ⟨i0, hi, hz0, hz1, hz2⟩ := info_parts Try.infoPk
      have how := Nt.own hn1d
      have HN := Lib.hid hn1d
      have HF := Lib.hid ((Fr.refl (ft p (.slice (some ⟨g, 0, none⟩) S.L.length c)) w).drew)
      have d3'' : (w.alloc (.cells #[.int .i64 x, .string s] 41)).cell? ⟨p, 0, none⟩ = some (.slice (some ⟨g, 0, none⟩) S.L.length c) := (((Below.refl _ w).alloc (Nat.le_refl _) _).cell (p := ⟨p, 0, none⟩) (show p < w.drew.heap.size from Nt.lt HN.out)).trans d3'
      have i1 : (0 : Int) ≤ (k : Int) := by omega
      have i2 : (k : Int) < (S.L.length : Int) := by omega
      have hB1 := Lib.hid hB
      have HH : ∀ v5 w5, w5.ownsRow B 41 2 v5 (S.L.length + 1) (puts S.L ++ puts [(x, s)]) → (w.drew.alloc (.cells #[.int .i64 x, .string s] 41)).grownBy w5 (Value.slice (some ⟨g, 0, none⟩) S.L.length c).ownBlock → (v5.ownBlock = (Value.slice (some ⟨g, 0, none⟩) S.L.length c).ownBlock ∨ v5.ownBlock = some (w.drew.alloc (.cells #[.int .i64 x, .string s] 41)).heap.size) →
          w5.cell? ⟨p, 0, none⟩ = some (.slice (some ⟨g, 0, none⟩) S.L.length c) ∧ (∀ i, w5.frozen? ⟨p, i, none⟩ = false) ∧ (w5.setCell ⟨p, 0, none⟩ v5).cell? ⟨p, 1, none⟩ = some (.int .i64 (S.sent : Int)) ∧ (∀ i, (w5.setCell ⟨p, 0, none⟩ v5).frozen? ⟨p, i, none⟩ = false) ∧ NP 30 rF w B p (.slice (some ⟨g, 0, none⟩) S.L.length c) ⟨S.L ++ [(x, s)], S.sent + 1, S.came, S.lost⟩ ((w5.setCell ⟨p, 0, none⟩ v5).setCell ⟨p, 1, none⟩ (.int .i64 ((S.sent : Int) + 1))) := fun v5 w5 how5 hg5 hat5 => by
        rw [← puts_append] at how5
        obtain ⟨hb, hn⟩ := app_end (c := 0) (S2 := ⟨S.L ++ [(x, s)], S.sent, S.came, S.lost⟩) HN.out (by decide) HF.out (by simpa using how5) hg5 hat5 (by simp [rF])
        obtain ⟨_, k1, _, _, kf⟩ := RN.cells hn.1
        exact ⟨by rw [cell_of_blk hb]; rfl, fun i => free_of_blk hb i, k1, kf, (np_fr (S' := ⟨S.L ++ [(x, s)], S.sent + 1, S.came, S.lost⟩) hn (by decide) 1 (.int .i64 ((S.sent : Int) + 1)) rfl (by simp [rF])).np⟩
      have HE := Lib.hid HH
      clear HH hu hg h c1 c2 c3 hok hfew hn1d hs hs' hfa hgo hgl e1 e2 hk hW
      go_enter Try.func26, Try.ntmps26
      go_wp2_with fail
      refine HFA.out.mono ?_
      rintro e w2 ⟨rfl, hw1⟩; obtain rfl := hw1.symm; clear hw1
      go_wp2_with fail
      go_region_law (refine step_append_at (P := Try.prog) (o := ⟨some 28, _, _, _, _, _⟩) rfl (.tmp 19) (.tmp 27) 28 rfl B 41 i0 _ 2 24 Try.underlying28 hi hz0 hz1 hz2 rfl (by omega) (.slice (some ⟨g, 0, none⟩) S.L.length c) S.L.length _ (by rfl) (how.alloc _) ⟨w.heap.size, 0, none⟩ 1 1 (puts [(x, s)]) (by rfl) rfl (put_cells w.drew x s) (puts_one _) (by unfold maxLen; omega) (by omega) (by simp; exact Nat.le_succ_of_le hB1.out) ?_; intro v5 w5 how5 hg5 hat5; obtain ⟨k5, f5, k6, f6, hend⟩ := HE.out v5 w5 how5 hg5 hat5; have HEND := Lib.hid hend; obtain ⟨a5, n5, rfl, _, _, _⟩ := owns_shape1 how5; clear how5 hg5 hat5 hend)
      all_goals (
        go_wp2
        go_ret
        exact ⟨rfl, HEND.out⟩)
  · have hu : S.twice i = (3, S) := by unfold NS.twice; rw [if_neg hs]
    have hs' : ¬ (0 ≤ i ∧ i < (S.L.length : Int)) := hs
    rw [hu]
    rw [decide_eq_false hs'] at HFA
    clear hu h c0 c1 c2 c3 hf hg hs hs' hok hfa
    go_enter Try.func26, Try.ntmps26
    go_wp2_with fail
    refine HFA.out.mono ?_
    rintro e w1 ⟨rfl, hw1⟩; obtain rfl := hw1.symm; clear hw1
    go_wp2
    go_ret
    exact ⟨rfl, NP.same H.out⟩

theorem set_same {α : Type} {l : List α} {i : Nat} {a : α} (h : l[i]? = some a) : l.set i a = l := by
  apply List.ext_getElem?
  intro j
  rw [List.getElem?_set]
  split
  · rename_i e
    subst e
    split
    · exact h.symm
    · rename_i h2
      rw [List.getElem?_eq_none (by omega)] at h
      cases h
  · rfl

set_option maxRecDepth 20000 in
set_option maxHeartbeats 1000000 in
theorem rcut_any (B p : Nat) (v : Value) (S : NS) (i n : Int) (w : World) (h : RN w B p v S) (hlen : S.L.length ≤ 60) :
    Calls Try.prog 27 #[.pointer (some ⟨p, 0, none⟩), .int .i64 i, .int .i64 n] w fun e w' => e = .returned (.int .i64 (S.cut i n).1) ∧ NP 30 rF w B p v (S.cut i n).2 w' := by
  obtain ⟨c0, c1, c2, c3, hf⟩ := RN.cells h
  obtain ⟨a, c, rfl, hle, hcm, hg⟩ := owns_shape1 (Nt.own h)
  have hfa := rin_any p i a S.L.length c w c0
  have HFA := Lib.hid hfa
  have H := Lib.hid h
  by_cases hs : S.has i
  · have hs' : 0 ≤ i ∧ i < (S.L.length : Int) := hs
    rw [decide_eq_true hs'] at HFA
    obtain ⟨k, rfl, hk⟩ := has_nat hs
    obtain ⟨g, rfl, hgo, _, hgl⟩ := hg (by omega)
    obtain ⟨e1, e2⟩ := puts_at S.L k hk
    have g0 := owns_cell (Nt.own h) hgo _ _ e1
    have g1 := owns_cell (Nt.own h) hgo _ _ e2
    have i1 : (0 : Int) ≤ (k : Int) := by omega
    have i2 : (k : Int) < (S.L.length : Int) := by omega
    obtain ⟨W, hW⟩ : ∃ W, W = wAt S.L k := ⟨_, rfl⟩
    by_cases hn : n < 0 ∨ (W.2.size : Int) < n
    · have hu : S.cut (k : Int) n = (4, S) := by unfold NS.cut; rw [if_pos hs, if_pos (by rw [show (k : Int).toNat = k from rfl, ← hW]; exact hn)]
      rw [hu]
      rw [← hW] at g0 g1
      obtain ⟨x, s⟩ := W
      dsimp only at hn g0 g1
      have HB := Lib.hid ((Below.refl w.heap.size w).alloc (Nat.le_refl _) (.cells #[.int .i64 x, .string s] 41))
      have q0 := (pk_new w x s).1
      have q1 := (pk_new w x s).2
      clear hu h c1 c2 c3 hf hg hs hs' hfa hW hgo hgl hk e1 e2
      by_cases hn0 : n < 0
      · clear hn
        go_enter Try.func27, Try.ntmps27
        go_wp2_with fail
        refine HFA.out.mono ?_
        rintro e w1 ⟨rfl, hw1⟩; obtain rfl := hw1.symm; clear hw1
        go_wp2
        go_ret
        exact ⟨rfl, NP.belows H.out HB.out⟩
      · have hn1 : (s.size : Int) < n := by omega
        clear hn
        go_enter Try.func27, Try.ntmps27
        go_wp2_with fail
        refine HFA.out.mono ?_
        rintro e w1 ⟨rfl, hw1⟩; obtain rfl := hw1.symm; clear hw1
        go_wp2
        go_ret
        exact ⟨rfl, NP.belows H.out HB.out⟩
    · obtain ⟨m, rfl⟩ : ∃ m : Nat, n = (m : Int) := ⟨n.toNat, by omega⟩
      have hu : S.cut (k : Int) (m : Int) = (0, ⟨S.L.set k (W.1, cutB W.2 m), S.sent, S.came, S.lost⟩) := by
        unfold NS.cut
        rw [if_pos hs, if_neg (by rw [show (k : Int).toNat = k from rfl, ← hW]; exact hn)]
        show _ = _
        rw [hW]
        rfl
      rw [hu]
      rw [← hW] at g0 g1
      have hW1 : (wAt S.L k).1 = W.1 := by rw [hW]
      obtain ⟨x, s⟩ := W
      dsimp only at hn g0 g1 hu hW1 ⊢
      have j1 : ¬ (m : Int) < 0 := by omega
      have j2 : ¬ (s.size : Int) < (m : Int) := by omega
      have j3 : (m : Int) ≤ (s.size : Int) := by omega
      have j4 : m ≤ s.size := by omega
      have hbw : Below w.heap.size w (w.alloc (.cells #[.int .i64 x, .string s] 41)) := (Below.refl w.heap.size w).alloc (Nat.le_refl _) _
      have hnn : RN (w.alloc (.cells #[.int .i64 x, .string s] 41)) B p _ S := Nt.below h hbw
      have HNN := Lib.hid hnn
      have HBW := Lib.hid hbw
      obtain ⟨wa, hwa⟩ : ∃ wa, wa = (w.alloc (.cells #[.int .i64 x, .string s] 41)) := ⟨_, rfl⟩
      have q0 := (pk_new w x s).1
      have q1 := (pk_new w x s).2
      have p0 := (RN.cells hnn).1
      have gf : ∀ i, wa.drew.frozen? ⟨g, i, none⟩ = false := fun i => by rw [hwa]; exact owns_free hnn.own hgo i
      have gc0 : wa.drew.cell? ⟨g, k * 2, none⟩ = some (.int .i64 x) := by rw [hwa]; exact (hbw.cell (p := ⟨g, k * 2, none⟩) hgl).trans g0
      have gc1 : wa.drew.cell? ⟨g, k * 2 + 1, none⟩ = some (.string s) := by rw [hwa]; exact (hbw.cell (p := ⟨g, k * 2 + 1, none⟩) hgl).trans g1
      have q0d : wa.drew.cell? ⟨w.heap.size, 0, none⟩ = some (.int .i64 x) := by rw [hwa]; exact q0
      have q1d : wa.drew.cell? ⟨w.heap.size, 1, none⟩ = some (.string s) := by rw [hwa]; exact q1
      have p0d : wa.drew.cell? ⟨p, 0, none⟩ = some (.slice (some ⟨g, 0, none⟩) S.L.length c) := by rw [hwa]; exact p0
      have gc1' : wa.cell? ⟨g, k * 2 + 1, none⟩ = some (.string s) := gc1
      have gc0' : wa.cell? ⟨g, k * 2, none⟩ = some (.int .i64 x) := gc0
      have gf' : ∀ i, wa.frozen? ⟨g, i, none⟩ = false := gf
      have HWA := Lib.hid hwa
      have HGO := Lib.hid (And.intro hgo (And.intro hW1 hk))
      clear hu c1 c2 c3 hf hg hs hs' hfa hW hgl e1 e2 hn h hbw hnn hwa hgo hW1 hk
      go_enter Try.func27, Try.ntmps27
      go_wp2_with fail
      refine HFA.out.mono ?_
      rintro e w1 ⟨rfl, hw1⟩; obtain rfl := hw1.symm; clear hw1
      go_wp2_with fail
      rw [← HWA.out]
      clear q0 q1 p0 g0 g1 c0
      go_region
      all_goals (
        go_wp2
        go_ret
        obtain ⟨hgo, hW1, hk⟩ := HGO.out
        have hn := HNN.out
        have hb := HBW.out
        rw [← HWA.out] at hn hb
        have hgp : g ≠ p := fun e => Nt.ne hn (by decide) (by rw [hgo, e])
        have h1 := owns_set (owns_drew hn.own) hgo (.int .i64 x) (j := k * 2) (by rw [puts_length]; omega)
        have h2 := owns_set h1 hgo (.string (s.extract 0 m)) (j := k * 2 + 1) (by rw [List.length_set, puts_length]; omega)
        rw [set_same (show (puts S.L)[k * 2]? = some (.int .i64 x) from by rw [← hW1]; exact (puts_at S.L k hk).1), puts_set _ _ x _ hk hW1] at h2
        refine ⟨rfl, .slice (some ⟨g, 0, none⟩) S.L.length c, ⟨?_, hn.low, ?_⟩, (((Fr.of_below hb).drew).set (.inl (.inr hgo))).set (.inl (.inr hgo)), fun k hk => .inl hk⟩
        · exact (Below.heap_setCell _ _ _ _ (by simpa using fun e => hgp e.symm)).trans ((Below.heap_setCell _ _ _ _ (by simpa using fun e => hgp e.symm)).trans hn.blk)
        · rw [show (S.L.set k (x, cutB s m)).length = S.L.length from List.length_set]
          exact owns_kept h2 fun _ _ => rfl)
  · have hu : S.cut i n = (3, S) := by unfold NS.cut; rw [if_neg hs]
    have hs' : ¬ (0 ≤ i ∧ i < (S.L.length : Int)) := hs
    rw [hu]
    rw [decide_eq_false hs'] at HFA
    clear hu h c0 c1 c2 c3 hf hg hs hs' hfa
    go_enter Try.func27, Try.ntmps27
    go_wp2_with fail
    refine HFA.out.mono ?_
    rintro e w1 ⟨rfl, hw1⟩; obtain rfl := hw1.symm; clear hw1
    go_wp2
    go_ret
    exact ⟨rfl, NP.same H.out⟩

set_option maxRecDepth 20000 in
set_option maxHeartbeats 1000000 in
theorem rdrop_any (B p : Nat) (v : Value) (S : NS) (w : World) (N : Nat) (h : RN w B p v S) (hok : S.ok N) (hN : N ≤ 1000000) :
    Calls Try.prog 28 #[.pointer (some ⟨p, 0, none⟩)] w fun e w' => e = .returned (.tuple #[]) ∧ NP 30 rF w B p v S.drop w' := by
  have hca := hok.came
  have hlen := hok.len
  obtain ⟨c0, c1, c2, c3, hf⟩ := RN.cells h
  obtain ⟨a, c, rfl, hle, hcm, hg⟩ := owns_shape1 (Nt.own h)
  obtain ⟨m, hm⟩ : ∃ m : Int, m = (S.lost : Int) + (S.L.length : Int) := ⟨_, rfl⟩
  have wk : IntKind.i64.wrap ((S.lost : Int) + (S.L.length : Int)) = m := by rw [hm]; exact IntWalk.i64_in _ (by omega)
  have c0' : w.drew.cell? ⟨p, 0, none⟩ = some (.slice a S.L.length c) := c0
  have c3' : w.drew.cell? ⟨p, 3, none⟩ = some (.int .i64 (S.lost : Int)) := c3
  have hb := h.blk
  have hend : ∀ w1, w1.heap[p]? = w.heap[p]? → w.grownBy w1 (some p) → NP 30 rF w B p (.slice a S.L.length c) S.drop ((w1.setCell ⟨p, 3, none⟩ (.int .i64 m)).setCell ⟨p, 0, none⟩ (.slice none 0 0)) := fun w1 e hg1 => by
    refine ⟨.slice none 0 0, ⟨?_, Nt.low h, ?_⟩, ?_, ?_⟩
    · refine (blk_setCell (blk_setCell (e.trans hb))).trans ?_
      simp [rF, NS.drop, hm]
    · exact World.ownsRow_nil _ _ _ _
    · exact (fr_headN hg1 |>.set (.inl (.inl rfl))).set (.inl (.inl rfl))
    · rintro k (rfl | e)
      · exact .inl (.inl rfl)
      · simp [Value.ownBlock] at e
  have HE := Lib.hid hend
  have hf' : ∀ i, w.drew.frozen? ⟨p, i, none⟩ = false := fun i => hf i
  have HM := Lib.hid hm
  clear hend h hok hca hlen hb c1 c2 hg hm
  go_enter Try.func28, Try.ntmps28
  go_wp2
  go_region
  all_goals (
    go_wp2
    refine bodyPost_end (results_none rfl _ _ _) rfl ?_
    exact ⟨rfl, HE.out w.drew rfl (gb_drew (World.grownBy.refl _ _))⟩)

theorem owns_src0 {w : World} {B e size n : Nat} {xs : List Value} {g c : Nat} (h : w.ownsRow B e size (.slice (some ⟨g, 0, none⟩) n c) n xs) :
    ∀ (j : Nat) (u : Value), xs[j]? = some u → w.cell? ((⟨g, 0, none⟩ : Addr).add j) = some u := fun j u hj => h.cells (g := g) rfl j u hj

set_option maxRecDepth 20000 in
set_option maxHeartbeats 1000000 in
theorem rcopy_any (B p : Nat) (v : Value) (S : NS) (w : World) (h : RN w B p v S) (hlen : S.L.length ≤ 60) :
    Calls Try.prog 12 #[.pointer (some ⟨p, 0, none⟩)] w fun e w' => ∃ q v', e = .returned (.pointer (some ⟨q, 0, none⟩)) ∧ RN w' w.heap.size q v' S ∧ Below w.heap.size w w' := by
  obtain ⟨c0, c1, c2, c3, hf⟩ := RN.cells h
  have d0 : w.drew.cell? ⟨p, 0, none⟩ = _ := c0
  have d1 : w.drew.cell? ⟨p, 1, none⟩ = _ := c1
  have d2 : w.drew.cell? ⟨p, 2, none⟩ = _ := c2
  have d3 : w.drew.cell? ⟨p, 3, none⟩ = _ := c3
  have hpl := Nt.lt h
  have H := Lib.hid h
  obtain ⟨x0, hx0⟩ : ∃ x, x = (S.sent : Int) := ⟨_, rfl⟩
  obtain ⟨x1, hx1⟩ : ∃ x, x = (S.came : Int) := ⟨_, rfl⟩
  obtain ⟨x2, hx2⟩ : ∃ x, x = (S.lost : Int) := ⟨_, rfl⟩
  rw [← hx0] at d1
  rw [← hx1] at d2
  rw [← hx2] at d3
  have HX := Lib.hid (And.intro hx0 (And.intro hx1 hx2))
  obtain ⟨i0, hi, hz0, hz1, hz2⟩ := info_parts Try.infoPk
  have ho := owns_shape2 (Nt.own h)
  have HO := Lib.hid ho
  clear h c0 c1 c2 c3 hf hx0 hx1 hx2 ho
  go_enter Try.func12, Try.ntmps12
  go_wp2_with fail
  go_region
  go_wp2_with fail
  obtain ⟨C, hC⟩ : ∃ C : Array Value, C = #[.slice none 0 0, .int .i64 x0, .int .i64 x1, .int .i64 x2] := ⟨_, rfl⟩
  obtain ⟨q, hq⟩ : ∃ q, q = w.heap.size := ⟨_, rfl⟩
  obtain ⟨wa, hwa⟩ : ∃ wa, wa = (w.alloc (.cells C 30)).drew := ⟨_, rfl⟩
  rw [← hC, ← hq, ← hwa]
  have hba : Below w.heap.size w wa.drew := by rw [hwa]; exact (((Below.refl _ _).alloc (Nat.le_refl _) _).drew).drew
  have hnew : wa.drew.heap[q]? = some (.cells C 30 (0, 0)) := by rw [hwa, hq]; exact heap_alloc_new w _
  have hsz : wa.drew.heap.size = q + 1 := by rw [hwa, hq]; simp
  have f0 : wa.drew.cell? ⟨p, 0, none⟩ = some v := (hba.cell (p := ⟨p, 0, none⟩) hpl).trans d0
  have e0 : wa.drew.cell? ⟨q, 0, none⟩ = some (.slice none 0 0) := by rw [cell_of_blk hnew, hC]; rfl
  have g0 : ∀ i, wa.drew.frozen? ⟨q, i, none⟩ = false := fun i => free_of_blk hnew i
  have hend : ∀ v5 w5, w5.ownsRow w.heap.size 41 2 v5 S.L.length (puts S.L) → w5.heap[q]? = wa.drew.heap[q]? → Below w.heap.size w w5 → ∃ q' v', (Ending.returned (.pointer (some ⟨q, 0, none⟩)) : Ending) = .returned (.pointer (some ⟨q', 0, none⟩)) ∧ RN (w5.setCell ⟨q, 0, none⟩ v5) w.heap.size q' v' S ∧ Below w.heap.size w (w5.setCell ⟨q, 0, none⟩ v5) := fun v5 w5 how5 hq5 hb5 => by
    have hbk := hq5.trans hnew
    refine ⟨q, v5, rfl, ⟨(blk_setCell hbk).trans ?_, by omega, ?_⟩, Below.setCell hb5 (show w.heap.size ≤ (⟨q, 0, none⟩ : Addr).block from by rw [hq]; exact Nat.le_refl _) _⟩
    · obtain ⟨y0, y1, y2⟩ := HX.out
      rw [hC, y0, y1, y2]
      simp [rF]
    · refine owns_set_other how5 (fun e => ?_) _
      obtain ⟨cur, hcc⟩ := owns_type how5 e
      rw [hbk] at hcc
      simp at hcc
  have hsrc : ∀ g c, v = .slice (some ⟨g, 0, none⟩) S.L.length c → ∀ (j : Nat) (u : Value), (puts S.L)[j]? = some u → wa.drew.cell? ((⟨g, 0, none⟩ : Addr).add j) = some u := fun g c e j u hj => by
    have hn := Nt.below H.out hba
    have := hn.own
    rw [e] at this
    exact owns_src0 this j u hj
  have HSRC := Lib.hid hsrc
  have HE := Lib.hid hend
  have HBA := Lib.hid hba
  have HSZ := Lib.hid hsz
  have HQ := Lib.hid hq
  have HNEW := Lib.hid hnew
  have HC := Lib.hid hC
  have HWA := Lib.hid hwa
  have hpl2 : (puts S.L).length = S.L.length * 2 := puts_length _
  have HPL := Lib.hid hpl2
  clear hsrc hend hba hsz hq hnew hC hwa d0 d1 d2 d3 hpl2
  rcases HO.out with ⟨rfl, h0, h1⟩ | ⟨g, c, rfl⟩
  · have H01 := Lib.hid (And.intro h0 h1)
    clear h0 h1
    go_region
    all_goals (
      go_wp2
      go_ret
      obtain ⟨q', v', y1, y2, y3⟩ := HE.out (.slice none 0 0) wa.drew (by rw [H01.out.1, H01.out.2]; exact World.ownsRow_nil _ _ _ _) rfl HBA.out
      exact ⟨q', y1, ⟨v', Nt.kept y2 fun _ _ => rfl⟩, ⟨y3.os, y3.tape, y3.output, y3.size, y3.block⟩⟩)
  · go_region_law (refine step_append_at (P := Try.prog) (o := ⟨some 27, _, _, _, _, _⟩) rfl (.tmp 22) (.tmp 26) 28 rfl w.heap.size 41 i0 _ 2 24 Try.underlying28 hi hz0 hz1 hz2 rfl (by omega) (.slice none 0 0) 0 [] (by rfl) (World.ownsRow_nil _ _ _ _) ⟨g, 0, none⟩ S.L.length c (puts S.L) (by rfl) HPL.out (HSRC.out g c rfl) (puts_one _) (by unfold maxLen; omega) (by omega) HBA.out.size ?_; intro v5 w5 how5 hg5 hat5; have b5 := hg5.block q (by have := HSZ.out; show q < wa.drew.heap.size; omega) (by simp [Value.ownBlock]); have k5 : w5.cell? ⟨q, 0, none⟩ = some (.slice none 0 0) := (by rw [cell_of_blk (b5.trans HNEW.out), HC.out]; rfl); have f5 : ∀ i, w5.frozen? ⟨q, i, none⟩ = false := fun i => free_of_blk (b5.trans HNEW.out) i; obtain ⟨a5, n5, rfl, _, _, _⟩ := owns_shape1 how5)
    all_goals (
      rw [Nat.zero_add, List.nil_append] at how5
      have hb5 : Below w.heap.size w w5 := HBA.out.grown hg5 HBA.out.size (fun k e => by simp [Value.ownBlock] at e)
      have HEND := Lib.hid (HE.out _ w5 how5 b5 hb5)
      clear how5 hg5 hat5 b5 hb5
      go_wp2
      go_ret
      obtain ⟨q', v', y1, y2, y3⟩ := HEND.out
      exact ⟨q', v', y1, y2, y3⟩)
end Go.Proofs.Ythbfeflijlcboaa


/-
  The program's Send, Twice, Cut, Drop, Copy.
-/
import Derived.Test.YthbfeflijlcboaaC3
namespace Go.Proofs.Ythbfeflijlcboaa
open Go.RowKit
set_option linter.unusedVariables false
set_option linter.unusedSimpArgs false

/-- append onto a row of the call's own, as one step of a region that draws. -/
theorem step_append_at {P : Program} {w : World} {ops : Array Oper} {o : Oper} {a : Act} {K : Act → World → Prop} {Q : Exit → Act → World → Prop} {E : Prop} (hgd : o.guard = none) (s x : Operand) (t : TypeId)
    (ho : o.op = .call { callee := .builtin .append, args := #[s, x], argTypes := #[t, t] }) (base : Nat) (e : TypeId) (i : TypeInfo) (z : Value) (size bytes : Nat) (ht : P.underlying t = some (.slice e)) (hi : P.info? e = some i) (hz : i.zero = some z) (hsize : i.size = size) (hby : i.bytes = bytes) (hzs : z.cells.size = size) (hsz : 0 < size)
    (v : Value) (n : Nat) (xs : List Value) (hs : a.eval s = v) (hown : w.ownsRow base e size v n xs) (ad : Addr) (m c : Nat) (news : List Value) (hx : a.eval x = .slice (some ad) m c) (hl : news.length = m * size)
    (hnews : ∀ j u, news[j]? = some u → w.cell? (ad.add j) = some u) (h1 : ∀ u ∈ news, u.oneCell' = true) (h63 : n + m ≤ maxLen) (hbytes : (n + m) * bytes ≤ 140737488355328) (hbase : base ≤ w.heap.size)
    (h : ∀ v' w', w'.ownsRow base e size v' (n + m) (xs ++ news) → w.grownBy w' v.ownBlock → (v'.ownBlock = v.ownBlock ∨ v'.ownBlock = some w.heap.size) → K (a.put o.dst v') w') :
    if Region.wanted o (yielded ops a.tmps) = true then Oper.wp P o a w K Q else E := by
  have hw : Region.wanted o (yielded ops a.tmps) = true := by simp [Region.wanted, hgd]
  rw [if_pos hw]
  obtain ⟨v', w', hr, h2, h3, h4, h5⟩ := run_append_own_at (P := P) w base t o.type e i z size bytes ht hi hz hsize hby hzs hsz v n xs hown ad m c news hl hnews h1 h63 hbytes hbase
  unfold Oper.wp execOp
  simp only [ho, resolve, invoke, builtin, Sem.run_bind, Sem.run_pure, Result.andThen_ok, List.map_toArray, List.map_cons, List.map_nil, hs, hx, hr]
  exact h v' w' h2 h3 h5


theorem put_cells (w : World) (x : Int) (s : ByteArray) : ∀ (j : Nat) (u : Value), (puts [(x, s)])[j]? = some u →
    (w.alloc (.cells #[.int .i64 x, .string s] 41)).cell? ((⟨w.heap.size, 0, none⟩ : Addr).add j) = some u := by
  intro j u hj
  rw [Addr.add_none, cell_of_blk (heap_alloc_new w _), Nat.zero_add]
  simpa [puts] using hj

theorem nt_drew {ty : TypeId} {F : Value → NS → Array Value} {w : World} {B p : Nat} {v : Value} {S : NS} (h : Nt ty F w B p v S) : Nt ty F w.drew B p v S := ⟨h.blk, h.low, owns_drew h.own⟩
theorem np_drew {ty : TypeId} {F : Value → NS → Array Value} {w w' : World} {B p : Nat} {v v' : Value} {S : NS} (h : NPv ty F w B p v v' S w') : NPv ty F w B p v v' S w'.drew := ⟨nt_drew h.1, h.2.1.drew, h.2.2⟩

/-- The end of an append to the packets: c is the cell of the slice in the head. -/
theorem app_end {ty : TypeId} {F : Value → NS → Array Value} {w w1 w5 : World} {B p c : Nat} {v v5 : Value} {S1 S2 : NS} {o : Obj} (h : Nt ty F w1 B p v S1) (ht2 : ty ≠ 41) (hf : Fr (ft p v) w w1)
    (how5 : w5.ownsRow B 41 2 v5 S2.L.length (puts S2.L)) (hg5 : (w1.alloc o).grownBy w5 v.ownBlock) (hat : v5.ownBlock = v.ownBlock ∨ v5.ownBlock = some (w1.alloc o).heap.size) (hF : (F v S1).setIfInBounds c v5 = F v5 S2) :
    w5.heap[p]? = some (.cells (F v S1) ty (0, 0)) ∧ NPv ty F w B p v v5 S2 (w5.setCell ⟨p, c, none⟩ v5) := by
  have hpl := h.lt
  have hb5 : w5.heap[p]? = w1.heap[p]? := (hg5.block p (by simp; omega) (fun e => h.ne ht2 e.symm)).trans (Below.heap_alloc _ _ _ hpl)
  have hblk := hb5.trans h.blk
  have hne5 : v5.ownBlock ≠ some p := fun e5 => by
    obtain ⟨cur, hc⟩ := owns_type how5 e5
    rw [hblk] at hc
    simp at hc
    exact ht2 hc.2
  refine ⟨hblk, ⟨?_, h.low, ?_⟩, ?_, ?_⟩
  · exact (blk_setCell hblk).trans (by rw [hF])
  · exact owns_set_other how5 hne5 _
  · exact Fr.set (Fr.grown (hf.alloc o) hg5 fun k e2 => .inl (.inr e2)) (.inl (.inl rfl))
  · rintro k (rfl | e2)
    · exact .inl (.inl rfl)
    · rcases hat with h5 | h5
      · rw [h5] at e2; exact .inl (.inr e2)
      · rw [h5] at e2
        have := hf.size
        simp at e2
        exact .inr (by omega)

set_option maxRecDepth 20000 in
set_option maxHeartbeats 1000000 in
theorem send_any (B p : Nat) (v : Value) (S : NS) (to' : Int) (ba : Option Addr) (bn bc : Nat) (xs : List UInt8) (s : ByteArray) (w : World) (N : Nat) (h : PN w B p v S) (hB : B ≤ w.heap.size) (hok : S.ok N) (hN : N ≤ 1000000) (hrd : Rd w ba bn bc xs) (hs : s = ⟨xs.toArray⟩) (hbp : ∀ b off, ba = some ⟨b, off, none⟩ → 0 < bn → b ≠ p) :
    Calls Try.prog 18 #[.pointer (some ⟨p, 0, none⟩), .int .i64 to', .slice ba bn bc] w fun e w' => e = .returned (.int .i64 (S.send to' s).1) ∧ NP 53 pF w B p v (S.send to' s).2 w' := by
  have hca := hok.came
  have hfew := hok.few
  have hlen := hok.len
  have wk : IntKind.i64.wrap ((S.sent : Int) + 1) = (S.sent : Int) + 1 := IntWalk.i64_in _ (by omega)
  have wl : IntKind.i64.wrap ((S.lost : Int) + 1) = (S.lost : Int) + 1 := IntWalk.i64_in _ (by omega)
  obtain ⟨c0, c1, c2, c3, hf⟩ := PN.cells h
  have H := Lib.hid h
  by_cases ht : to' = 0 ∨ to' = 1
  · have hn1 : PN (w.setCell ⟨p, 0, none⟩ (.int .i64 ((S.sent : Int) + 1))) B p v ⟨S.L, S.sent + 1, S.came, S.lost⟩ := by
      refine Nt.head h (by decide) (gb_setCell (World.grownBy.refl _ _)) ?_ rfl
      refine (blk_setCell h.blk).trans ?_
      simp [pF]
    have hrd1 : Rd (w.setCell ⟨p, 0, none⟩ (.int .i64 ((S.sent : Int) + 1))) ba bn bc xs := hrd.kept0 (by simp [World.setCell]) (fun b off e h0 => Below.heap_setCell _ _ _ _ (fun e2 => by simp at e2; exact hbp b off e h0 e2))
    have hfr1 : Fr (ft p v) w (w.setCell ⟨p, 0, none⟩ (.int .i64 ((S.sent : Int) + 1))) := (Fr.refl _ _).set (.inl (.inl rfl))
    obtain ⟨a, c, rfl, hle, hcm, hg⟩ := owns_shape1 (Nt.own hn1)
    by_cases h60 : 60 ≤ S.L.length
    · have hu : S.send to' s = (11, ⟨S.L, S.sent + 1, S.came, S.lost + 1⟩) := by unfold NS.send; rw [if_pos ht, if_pos h60]
      rw [hu]
      obtain ⟨d0, d1, d2, d3, df⟩ := PN.cells hn1
      have hfu := full_any p a S.L.length c _ d3
      rw [decide_eq_true h60] at hfu
      have HFU := Lib.hid hfu
      have hn4 : PN ((w.setCell ⟨p, 0, none⟩ (.int .i64 ((S.sent : Int) + 1))).setCell ⟨p, 2, none⟩ (.int .i64 ((S.lost : Int) + 1))) B p (.slice a S.L.length c) ⟨S.L, S.sent + 1, S.came, S.lost + 1⟩ := by
        refine Nt.head hn1 (by decide) (gb_setCell (World.grownBy.refl _ _)) ?_ rfl
        refine (blk_setCell hn1.blk).trans ?_
        simp [pF]
      have HROW := Lib.hid (show NPv 53 pF w B p (.slice a S.L.length c) (.slice a S.L.length c) ⟨S.L, S.sent + 1, S.came, S.lost + 1⟩ _ from ⟨hn4, hfr1.set (.inl (.inl rfl)), fun k hk => .inl hk⟩)
      have hto : (to' != 0 && to' != 1) = false := by rcases ht with rfl | rfl <;> rfl
      clear hu hn1 hrd1 hfr1 hrd hs hbp d0 d1 d3 hn4 hg h c1 c2 c3 hok hca hfew hlen hfu
      rcases ht with rfl | rfl
      · go_enter Try.func18, Try.ntmps18
        go_wp2_with fail
        refine HFU.out.mono ?_
        rintro e w1 ⟨rfl, hw1⟩; obtain rfl := hw1.symm; clear hw1
        go_wp2
        go_ret
        exact ⟨rfl, HROW.out.np⟩
      · go_enter Try.func18, Try.ntmps18
        go_wp2_with fail
        refine HFU.out.mono ?_
        rintro e w1 ⟨rfl, hw1⟩; obtain rfl := hw1.symm; clear hw1
        go_wp2
        go_ret
        exact ⟨rfl, HROW.out.np⟩
    · have hu : S.send to' s = (0, ⟨S.L ++ [(to', s)], S.sent + 1, S.came, S.lost⟩) := by unfold NS.send; rw [if_pos ht, if_neg h60]
      rw [hu]
      obtain ⟨d0, d1, d2, d3, df⟩ := PN.cells hn1
      have hfu := full_any p a S.L.length c _ d3
      rw [decide_eq_false h60] at hfu
      have HFU := Lib.hid hfu
      obtain ⟨w1, hw1⟩ : ∃ w1, w1 = w.setCell ⟨p, 0, none⟩ (.int .i64 ((S.sent : Int) + 1)) := ⟨_, rfl⟩
      rw [← hw1] at hn1 hrd1 hfr1 HFU d0 d1 d2 d3 df
      have hs1 : w1.heap.size = w.heap.size := by rw [hw1]; simp [World.setCell]
      have hn1d := nt_drew hn1
      have d3' : w1.drew.cell? ⟨p, 3, none⟩ = some (.slice a S.L.length c) := d3
      have hcv : (convert 46 9 (.slice ba bn bc)).run Try.prog w1.drew = .ok (.string s) w1.drew := by rw [hs]; exact rd_string hrd1.drew
      obtain ⟨i0, hi, hz0, hz1, hz2⟩ := info_parts Try.infoPk
      have how := Nt.own hn1d
      have HN := Lib.hid hn1d
      have HF := Lib.hid hfr1.drew
      have HW := Lib.hid hw1
      have hbs : B ≤ w1.heap.size := by omega
      have d3'' : (w1.alloc (.cells #[.int .i64 to', .string s] 41)).cell? ⟨p, 3, none⟩ = some (.slice a S.L.length c) := (((Below.refl _ w1).alloc (Nat.le_refl _) _).cell (p := ⟨p, 3, none⟩) (show p < w1.drew.heap.size from Nt.lt HN.out)).trans d3'
      clear hu hn1 hrd1 hfr1 hrd hs hbp d0 d1 d2 d3 hg h c1 c2 c3 hok hca hfew hw1 hn1d hs1
      have hB1 := Lib.hid hbs
      have HH : ∀ v5 w5, w5.ownsRow B 41 2 v5 (S.L.length + 1) (puts S.L ++ puts [(to', s)]) → (w1.drew.alloc (.cells #[.int .i64 to', .string s] 41)).grownBy w5 (Value.slice a S.L.length c).ownBlock → (v5.ownBlock = (Value.slice a S.L.length c).ownBlock ∨ v5.ownBlock = some (w1.drew.alloc (.cells #[.int .i64 to', .string s] 41)).heap.size) →
          w5.cell? ⟨p, 3, none⟩ = some (.slice a S.L.length c) ∧ (∀ i, w5.frozen? ⟨p, i, none⟩ = false) ∧ NP 53 pF w B p (.slice a S.L.length c) ⟨S.L ++ [(to', s)], S.sent + 1, S.came, S.lost⟩ (w5.setCell ⟨p, 3, none⟩ v5) := fun v5 w5 how5 hg5 hat5 => by
        rw [← puts_append] at how5
        obtain ⟨hb, hn⟩ := app_end (c := 3) (S2 := ⟨S.L ++ [(to', s)], S.sent + 1, S.came, S.lost⟩) HN.out (by decide) HF.out (by simpa using how5) hg5 hat5 (by simp [pF])
        exact ⟨by rw [cell_of_blk hb]; rfl, fun i => free_of_blk hb i, hn.np⟩
      have HE := Lib.hid HH
      clear HH
      rcases ht with rfl | rfl
      · go_enter Try.func18, Try.ntmps18
        go_wp2_with fail
        rw [← HW.out]
        refine HFU.out.mono ?_
        rintro e w2 ⟨rfl, hw1⟩; obtain rfl := hw1.symm; clear hw1
        go_wp2
        go_region_law (refine step_append_at (P := Try.prog) (o := ⟨some 45, _, _, _, _, _⟩) rfl (.tmp 39) (.tmp 44) 28 rfl B 41 i0 _ 2 24 Try.underlying28 hi hz0 hz1 hz2 rfl (by omega) (.slice a S.L.length c) S.L.length _ (by rfl) (how.alloc _) ⟨w1.heap.size, 0, none⟩ 1 1 (puts [(0, s)]) (by rfl) rfl (put_cells w1.drew 0 s) (puts_one _) (by unfold maxLen; omega) (by omega) (by simp; exact Nat.le_succ_of_le hB1.out) ?_; intro v5 w5 how5 hg5 hat5; obtain ⟨k5, f5, hend⟩ := HE.out v5 w5 how5 hg5 hat5; have HEND := Lib.hid hend; obtain ⟨a5, n5, rfl, _, _, _⟩ := owns_shape1 how5; clear how5 hg5 hat5 hend)
        all_goals (
          go_wp2
          go_ret
          exact ⟨rfl, HEND.out⟩)
      · go_enter Try.func18, Try.ntmps18
        go_wp2_with fail
        rw [← HW.out]
        refine HFU.out.mono ?_
        rintro e w2 ⟨rfl, hw1⟩; obtain rfl := hw1.symm; clear hw1
        go_wp2
        go_region_law (refine step_append_at (P := Try.prog) (o := ⟨some 45, _, _, _, _, _⟩) rfl (.tmp 39) (.tmp 44) 28 rfl B 41 i0 _ 2 24 Try.underlying28 hi hz0 hz1 hz2 rfl (by omega) (.slice a S.L.length c) S.L.length _ (by rfl) (how.alloc _) ⟨w1.heap.size, 0, none⟩ 1 1 (puts [(1, s)]) (by rfl) rfl (put_cells w1.drew 1 s) (puts_one _) (by unfold maxLen; omega) (by omega) (by simp; exact Nat.le_succ_of_le hB1.out) ?_; intro v5 w5 how5 hg5 hat5; obtain ⟨k5, f5, hend⟩ := HE.out v5 w5 how5 hg5 hat5; have HEND := Lib.hid hend; obtain ⟨a5, n5, rfl, _, _, _⟩ := owns_shape1 how5; clear how5 hg5 hat5 hend)
        all_goals (
          go_wp2
          go_ret
          exact ⟨rfl, HEND.out⟩)
  · have hu : S.send to' s = (2, S) := by unfold NS.send; rw [if_neg ht]
    rw [hu]
    have t0 : (to' == 0) = false := by simp; omega
    have t1 : (to' == 1) = false := by simp; omega
    have t2 : (to' != 0) = true := by simp; omega
    have t3 : (to' != 1) = true := by simp; omega
    clear ht hu h c0 c1 c2 c3 hf hrd hs hbp
    go_enter Try.func18, Try.ntmps18
    go_wp2
    go_ret
    exact ⟨rfl, NP.same H.out⟩

set_option maxRecDepth 20000 in
set_option maxHeartbeats 400000 in
theorem send_nil (to' : Int) (v : Value) (w : World) : Calls Try.prog 18 #[.pointer none, .int .i64 to', v] w fun e w' => e = .returned (.int .i64 1) ∧ w' = w := by
  go_enter Try.func18, Try.ntmps18
  go_wp2
  go_ret
  exact ⟨rfl, rfl⟩

set_option maxRecDepth 20000 in
set_option maxHeartbeats 1000000 in
theorem twice_any (B p : Nat) (v : Value) (S : NS) (i : Int) (w : World) (N : Nat) (h : PN w B p v S) (hB : B ≤ w.heap.size) (hok : S.ok N) (hN : N ≤ 1000000) :
    Calls Try.prog 20 #[.pointer (some ⟨p, 0, none⟩), .int .i64 i] w fun e w' => e = .returned (.int .i64 (S.twice i).1) ∧ NP 53 pF w B p v (S.twice i).2 w' := by
  have hfew := hok.few
  have hlen := hok.len
  have wk : IntKind.i64.wrap ((S.sent : Int) + 1) = (S.sent : Int) + 1 := IntWalk.i64_in _ (by omega)
  obtain ⟨c0, c1, c2, c3, hf⟩ := PN.cells h
  obtain ⟨a, c, rfl, hle, hcm, hg⟩ := owns_shape1 (Nt.own h)
  have hfa := fault_any p i a S.L.length c w c3
  have hfu := full_any p a S.L.length c w c3
  have HFA := Lib.hid hfa
  have HFU := Lib.hid hfu
  have H := Lib.hid h
  by_cases hs : S.has i
  · have hs' : 0 ≤ i ∧ i < (S.L.length : Int) := hs
    rw [if_pos hs'] at HFA
    by_cases h60 : 60 ≤ S.L.length
    · have hu : S.twice i = (11, S) := by unfold NS.twice; rw [if_pos hs, if_pos h60]
      rw [hu]
      rw [decide_eq_true h60] at HFU
      clear hu h c0 c1 c2 c3 hf hg hs hs' h60 hok hfa hfu
      go_enter Try.func20, Try.ntmps20
      go_wp2_with fail
      refine HFA.out.mono ?_
      rintro e w1 ⟨rfl, hw1⟩; obtain rfl := hw1.symm; clear hw1
      go_wp2_with fail
      refine HFU.out.mono ?_
      rintro e w1 ⟨rfl, hw1⟩; obtain rfl := hw1.symm; clear hw1
      go_wp2
      go_ret
      exact ⟨rfl, NP.same H.out⟩
    · obtain ⟨k, rfl, hk⟩ := has_nat hs
      have hu : S.twice (k : Int) = (0, ⟨S.L ++ [wAt S.L k], S.sent + 1, S.came, S.lost⟩) := by unfold NS.twice; rw [if_pos hs, if_neg h60]; rfl
      rw [hu]
      rw [decide_eq_false h60] at HFU
      have hn1 : PN (w.setCell ⟨p, 0, none⟩ (.int .i64 ((S.sent : Int) + 1))) B p (.slice a S.L.length c) ⟨S.L, S.sent + 1, S.came, S.lost⟩ := by
        refine Nt.head h (by decide) (gb_setCell (World.grownBy.refl _ _)) ?_ rfl
        refine (blk_setCell h.blk).trans ?_
        simp [pF]
      have hfr1 : Fr (ft p (.slice a S.L.length c)) w (w.setCell ⟨p, 0, none⟩ (.int .i64 ((S.sent : Int) + 1))) := (Fr.refl _ _).set (.inl (.inl rfl))
      obtain ⟨g, rfl, hgo, _, hgl⟩ := hg (by omega)
      obtain ⟨e1, e2⟩ := puts_at S.L k hk
      obtain ⟨d0, d1, d2, d3, df⟩ := PN.cells hn1
      obtain ⟨w1, hw1⟩ : ∃ w1, w1 = w.setCell ⟨p, 0, none⟩ (.int .i64 ((S.sent : Int) + 1)) := ⟨_, rfl⟩
      rw [← hw1] at hn1 hfr1 d0 d1 d2 d3 df
      have g0 : w1.drew.cell? ⟨g, k * 2, none⟩ = _ := owns_cell (Nt.own hn1) hgo _ _ e1
      have g1 : w1.drew.cell? ⟨g, k * 2 + 1, none⟩ = _ := owns_cell (Nt.own hn1) hgo _ _ e2
      have hs1 : w1.heap.size = w.heap.size := by rw [hw1]; simp [World.setCell]
      have hn1d := nt_drew hn1
      have d3' : w1.drew.cell? ⟨p, 3, none⟩ = some (.slice (some ⟨g, 0, none⟩) S.L.length c) := d3
      obtain ⟨W, hW⟩ : ∃ W, W = wAt S.L k := ⟨_, rfl⟩
      rw [← hW] at g0 g1 ⊢
      obtain ⟨x, s⟩ := W
      obtain ⟨i0, hi, hz0, hz1, hz2⟩ := info_parts Try.infoPk
      have how := Nt.own hn1d
      have HN := Lib.hid hn1d
      have HF := Lib.hid hfr1.drew
      have HW := Lib.hid hw1
      have hbs : B ≤ w1.heap.size := by omega
      have d3'' : (w1.alloc (.cells #[.int .i64 x, .string s] 41)).cell? ⟨p, 3, none⟩ = some (.slice (some ⟨g, 0, none⟩) S.L.length c) := (((Below.refl _ w1).alloc (Nat.le_refl _) _).cell (p := ⟨p, 3, none⟩) (show p < w1.drew.heap.size from Nt.lt HN.out)).trans d3'
      have i1 : (0 : Int) ≤ (k : Int) := by omega
      have i2 : (k : Int) < (S.L.length : Int) := by omega
      have hB1 := Lib.hid hbs
      have HH : ∀ v5 w5, w5.ownsRow B 41 2 v5 (S.L.length + 1) (puts S.L ++ puts [(x, s)]) → (w1.drew.alloc (.cells #[.int .i64 x, .string s] 41)).grownBy w5 (Value.slice (some ⟨g, 0, none⟩) S.L.length c).ownBlock → (v5.ownBlock = (Value.slice (some ⟨g, 0, none⟩) S.L.length c).ownBlock ∨ v5.ownBlock = some (w1.drew.alloc (.cells #[.int .i64 x, .string s] 41)).heap.size) →
          w5.cell? ⟨p, 3, none⟩ = some (.slice (some ⟨g, 0, none⟩) S.L.length c) ∧ (∀ i, w5.frozen? ⟨p, i, none⟩ = false) ∧ NP 53 pF w B p (.slice (some ⟨g, 0, none⟩) S.L.length c) ⟨S.L ++ [(x, s)], S.sent + 1, S.came, S.lost⟩ (w5.setCell ⟨p, 3, none⟩ v5) := fun v5 w5 how5 hg5 hat5 => by
        rw [← puts_append] at how5
        obtain ⟨hb, hn⟩ := app_end (c := 3) (S2 := ⟨S.L ++ [(x, s)], S.sent + 1, S.came, S.lost⟩) HN.out (by decide) HF.out (by simpa using how5) hg5 hat5 (by simp [pF])
        exact ⟨by rw [cell_of_blk hb]; rfl, fun i => free_of_blk hb i, hn.np⟩
      have HE := Lib.hid HH
      clear HH hu hn1 hfr1 d0 d1 d2 d3 hg h c1 c2 c3 hok hfew hw1 hn1d hs1 hs hs' hfa hfu hgo hgl e1 e2 hk hW
      go_enter Try.func20, Try.ntmps20
      go_wp2_with fail
      refine HFA.out.mono ?_
      rintro e w2 ⟨rfl, hw1⟩; obtain rfl := hw1.symm; clear hw1
      go_wp2_with fail
      refine HFU.out.mono ?_
      rintro e w2 ⟨rfl, hw1⟩; obtain rfl := hw1.symm; clear hw1
      go_wp2_with fail
      rw [← HW.out]
      go_region_law (refine step_append_at (P := Try.prog) (o := ⟨some 36, _, _, _, _, _⟩) rfl (.tmp 27) (.tmp 35) 28 rfl B 41 i0 _ 2 24 Try.underlying28 hi hz0 hz1 hz2 rfl (by omega) (.slice (some ⟨g, 0, none⟩) S.L.length c) S.L.length _ (by rfl) (how.alloc _) ⟨w1.heap.size, 0, none⟩ 1 1 (puts [(x, s)]) (by rfl) rfl (put_cells w1.drew x s) (puts_one _) (by unfold maxLen; omega) (by omega) (by simp; exact Nat.le_succ_of_le hB1.out) ?_; intro v5 w5 how5 hg5 hat5; obtain ⟨k5, f5, hend⟩ := HE.out v5 w5 how5 hg5 hat5; have HEND := Lib.hid hend; obtain ⟨a5, n5, rfl, _, _, _⟩ := owns_shape1 how5; clear how5 hg5 hat5 hend)
      all_goals (
        go_wp2
        go_ret
        exact ⟨rfl, HEND.out⟩)
  · have hu : S.twice i = (3, S) := by unfold NS.twice; rw [if_neg hs]
    have hs' : ¬ (0 ≤ i ∧ i < (S.L.length : Int)) := hs
    rw [hu]
    rw [if_neg hs'] at HFA
    clear hu h c0 c1 c2 c3 hf hg hs hs' hok hfa hfu
    go_enter Try.func20, Try.ntmps20
    go_wp2_with fail
    refine HFA.out.mono ?_
    rintro e w1 ⟨rfl, hw1⟩; obtain rfl := hw1.symm; clear hw1
    go_wp2
    go_ret
    exact ⟨rfl, NP.same H.out⟩
end Go.Proofs.Ythbfeflijlcboaa


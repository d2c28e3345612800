/-
  The program's Take, Lose, Send, Twice, Cut, Drop, Copy.
-/
import Derived.Test.YthbfeflijlcboaaC2
namespace Go.Proofs.Ythbfeflijlcboaa
open Go.RowKit
set_option linter.unusedVariables false
set_option linter.unusedSimpArgs false

theorem NS.ok.came {S : NS} {N : Nat} (h : S.ok N) : S.came ≤ N ∧ S.lost ≤ N := by
  have := h.sum; have := h.few; omega

set_option maxRecDepth 20000 in
set_option maxHeartbeats 400000 in
theorem remove_nil (i : Int) (w : World) :
    Calls Try.prog 31 #[.pointer none, .int .i64 i] w fun e w' => e = .returned (pkE ((0, noBytes), 1)) ∧ Below w.heap.size w w' := by
  have hal : Below w.heap.size w (w.alloc (.cells #[.int .i64 0, .string ⟨#[]⟩] 41)) := (Below.refl _ _).alloc (Nat.le_refl _) _
  have HAT := Lib.hid (at_nil i (w.alloc (.cells #[.int .i64 0, .string ⟨#[]⟩] 41)))
  have HAL := Lib.hid hal
  unfold pkE pkV noBytes at HAT
  unfold noBytes
  go_enter Try.func31, Try.ntmps31
  go_wp2_with fail
  refine HAT.out.mono ?_
  rintro e w1 ⟨rfl, hb1⟩
  have hb1w := HAL.out.trans (hb1.mono HAL.out.size)
  have hal2 : Below w1.heap.size w1 (w1.alloc (.cells #[.int .i64 0, .string ⟨#[]⟩] 41)) := (Below.refl _ _).alloc (Nat.le_refl _) _
  have hrb := ((hb1.trans (hal2.mono hb1.size)).block w.heap.size (by simp)).trans (heap_alloc_new w (.cells #[.int .i64 0, .string ⟨#[]⟩] 41))
  obtain ⟨q0, q1⟩ := pk_new w1 0 ⟨#[]⟩
  have hb2 : Below w.heap.size w _ := hb1w.trans (hal2.mono hb1w.size)
  obtain ⟨w4, hw4⟩ : ∃ w4, w4 = w1.alloc (.cells #[.int .i64 0, .string ⟨#[]⟩] 41) := ⟨_, rfl⟩
  rw [← hw4] at hrb hb2
  have r0 : w4.cell? ⟨w.heap.size, 0, none⟩ = some (.int .i64 0) := by rw [cell_of_blk hrb]; rfl
  have r1 : w4.cell? ⟨w.heap.size, 1, none⟩ = some (.string ⟨#[]⟩) := by rw [cell_of_blk hrb]; rfl
  have rf : ∀ i, w4.frozen? ⟨w.heap.size, i, none⟩ = false := fun i => free_of_blk hrb i
  have hb5 := blk_setCell (i := 1) (u := .string ⟨#[]⟩) (blk_setCell (i := 0) (u := .int .i64 0) hrb)
  have z0 : ((w4.setCell ⟨w.heap.size, 0, none⟩ (.int .i64 0)).setCell ⟨w.heap.size, 1, none⟩ (.string ⟨#[]⟩)).cell? ⟨w.heap.size, 0, none⟩ = some (.int .i64 0) := by rw [cell_of_blk hb5]; rfl
  have z1 : ((w4.setCell ⟨w.heap.size, 0, none⟩ (.int .i64 0)).setCell ⟨w.heap.size, 1, none⟩ (.string ⟨#[]⟩)).cell? ⟨w.heap.size, 1, none⟩ = some (.string ⟨#[]⟩) := by rw [cell_of_blk hb5]; rfl
  have hend : Below w.heap.size w ((w4.setCell ⟨w.heap.size, 0, none⟩ (.int .i64 0)).setCell ⟨w.heap.size, 1, none⟩ (.string ⟨#[]⟩)) := Below.setCell (Below.setCell hb2 (show w.heap.size ≤ (⟨w.heap.size, 0, none⟩ : Addr).block from Nat.le_refl _) (.int .i64 0)) (show w.heap.size ≤ (⟨w.heap.size, 1, none⟩ : Addr).block from Nat.le_refl _) (.string ⟨#[]⟩)
  rw [hw4] at r0 r1 rf z0 z1 hend
  have HZ := Lib.hid (And.intro z0 (And.intro z1 hend))
  clear z0 z1 hb5 hrb hb2 hal2 hb1w hb1 hw4 hend
  go_wp2
  obtain ⟨z0, z1, hend⟩ := HZ.out
  refine bodyPost_ret (by simp [results, Try.results31, go_sem, z0, z1]; try rfl) rfl ?_
  exact ⟨rfl, hend⟩

/-- Where the result's cell lies behind an act. -/
theorem res_blk {ty : TypeId} {F : Value → NS → Array Value} {w w1 : World} {B p : Nat} {v v' : Value} {S : NS} {o : Obj} (h : Nt ty F w B p v S) (hf : Fr (ft p v) (w.alloc o) w1) (ht : ∀ k, ft p v' k → ft p v k ∨ (w.alloc o).heap.size ≤ k) :
    w1.heap[w.heap.size]? = some o ∧ ¬ ft p v' w.heap.size ∧ (∀ k, ft p v' k → ft p v k ∨ w.heap.size ≤ k) ∧ Fr (ft p v) w w1 ∧ w.heap.size < w1.heap.size := by
  have hn : ¬ ft p v w.heap.size := fun e => by have := (h.ft_low _ e).2; omega
  have hs := hf.size
  simp at hs
  refine ⟨(hf.block w.heap.size (by simp) hn).trans (heap_alloc_new w o), fun e => ?_, fun k hk => ?_, ?_, by omega⟩
  · rcases ht _ e with h1 | h1
    · exact hn h1
    · simp at h1; omega
  · rcases ht k hk with h1 | h1
    · exact .inl h1
    · simp at h1; exact .inr (by omega)
  · exact ((Fr.refl _ w).alloc o).trans hf (fun i hi => .inl hi)

set_option maxRecDepth 20000 in
set_option maxHeartbeats 1000000 in
theorem take_any (B p : Nat) (v : Value) (S : NS) (i : Int) (w : World) (N : Nat) (h : PN w B p v S) (hok : S.ok N) (hN : N ≤ 1000000) :
    Calls Try.prog 17 #[.pointer (some ⟨p, 0, none⟩), .int .i64 i] w fun e w' => e = .returned (pkE (S.at' i)) ∧ NP 53 pF w B p v (S.take i) w' := by
  have hal : Below w.heap.size w (w.alloc (.cells #[.int .i64 0, .string ⟨#[]⟩] 41)) := (Below.refl _ _).alloc (Nat.le_refl _) _
  have h0 : PN _ B p v S := Nt.below h hal
  have hre := remove_any B p v S i _ h0 hok.len
  have hca := hok.came
  have HRE := Lib.hid hre
  have H := Lib.hid h
  have wk : IntKind.i64.wrap ((S.came : Int) + 1) = (S.came : Int) + 1 := IntWalk.i64_in _ (by omega)
  have HCA := Lib.hid hca
  clear hre h0 h hal hok hca
  by_cases hs : S.has i
  · obtain ⟨k, rfl, hk⟩ := has_nat hs
    have ha : S.at' (k : Int) = (wAt S.L k, 0) := by unfold NS.at'; rw [if_pos hs]; rfl
    have ho : S.off (k : Int) = ⟨offL S.L k, S.sent, S.came, S.lost⟩ := by unfold NS.off; rw [if_pos hs]; rfl
    have hk2 : S.take (k : Int) = ⟨offL S.L k, S.sent, S.came + 1, S.lost⟩ := by unfold NS.take; rw [if_pos hs]; rfl
    rw [ha, ho] at HRE
    rw [ha, hk2]
    generalize wAt S.L k = W at *
    obtain ⟨x, s⟩ := W
    unfold pkE pkV at HRE
    clear hs ha ho hk2 hk
    go_enter Try.func17, Try.ntmps17
    go_wp2_with fail
    refine HRE.out.mono ?_
    rintro e w1 ⟨rfl, v', hn1, hf1, ht1⟩
    obtain ⟨hrb, hnr, ht, hfr, hs1⟩ := res_blk H.out hf1 ht1
    have hal2 : Below w1.heap.size w1 (w1.alloc (.cells #[.int .i64 x, .string s] 41)) := (Below.refl _ _).alloc (Nat.le_refl _) _
    have hrb2 := (hal2.block w.heap.size hs1).trans hrb
    have hqb := heap_alloc_new w1 (.cells #[.int .i64 x, .string s] 41)
    have hn2 := hn1.below hal2
    have hf2 := hfr.alloc (.cells #[.int .i64 x, .string s] 41)
    obtain ⟨w2, hw2⟩ : ∃ w2, w2 = w1.alloc (.cells #[.int .i64 x, .string s] 41) := ⟨_, rfl⟩
    rw [← hw2] at hrb2 hqb hn2 hf2
    obtain ⟨c0, c1, c2, c3, hf⟩ := PN.cells hn2
    have hpw : p < w.heap.size := ((Nt.ft_low H.out) p (.inl rfl)).2
    obtain ⟨w4, hw4⟩ : ∃ w4, w4 = w2.setCell ⟨p, 1, none⟩ (.int .i64 ((S.came : Int) + 1)) := ⟨_, rfl⟩
    have hb4r := (show w4.heap[w.heap.size]? = w2.heap[w.heap.size]? from by rw [hw4, Below.heap_setCell _ _ _ _ (by simp; omega)]).trans hrb2
    have hb4q := (show w4.heap[w1.heap.size]? = w2.heap[w1.heap.size]? from by rw [hw4, Below.heap_setCell _ _ _ _ (by simp; omega)]).trans hqb
    have q0 : w4.cell? ⟨w1.heap.size, 0, none⟩ = some (.int .i64 x) := by rw [cell_of_blk hb4q]; rfl
    have q1 : w4.cell? ⟨w1.heap.size, 1, none⟩ = some (.string s) := by rw [cell_of_blk hb4q]; rfl
    have r0 : w4.cell? ⟨w.heap.size, 0, none⟩ = some (.int .i64 0) := by rw [cell_of_blk hb4r]; rfl
    have r1 : w4.cell? ⟨w.heap.size, 1, none⟩ = some (.string ⟨#[]⟩) := by rw [cell_of_blk hb4r]; rfl
    have rf : ∀ i, w4.frozen? ⟨w.heap.size, i, none⟩ = false := fun i => free_of_blk hb4r i
    have hb5 := blk_setCell (i := 1) (u := .string s) (blk_setCell (i := 0) (u := .int .i64 x) hb4r)
    have z0 : ((w4.setCell ⟨w.heap.size, 0, none⟩ (.int .i64 x)).setCell ⟨w.heap.size, 1, none⟩ (.string s)).cell? ⟨w.heap.size, 0, none⟩ = some (.int .i64 x) := by rw [cell_of_blk hb5]; rfl
    have z1 : ((w4.setCell ⟨w.heap.size, 0, none⟩ (.int .i64 x)).setCell ⟨w.heap.size, 1, none⟩ (.string s)).cell? ⟨w.heap.size, 1, none⟩ = some (.string s) := by rw [cell_of_blk hb5]; rfl
    have hn4 : PN w4 B p v' ⟨offL S.L k, S.sent, S.came + 1, S.lost⟩ := by
      refine Nt.head hn2 (by decide) (by rw [hw4]; exact gb_setCell (World.grownBy.refl _ _)) ?_ rfl
      rw [hw4]
      refine (blk_setCell hn2.blk).trans ?_
      simp [pF]
    have hrow : NPv 53 pF w B p v v' ⟨offL S.L k, S.sent, S.came + 1, S.lost⟩ w4 := ⟨hn4, by rw [hw4]; exact hf2.set (.inl (.inl rfl)), ht⟩
    have HROW := Lib.hid ((hrow.set (i := 0) (u := .int .i64 x) (Nat.le_refl _) hnr).set (i := 1) (u := .string s) (Nat.le_refl _) hnr)
    rw [hw4] at q0 q1 r0 r1 rf z0 z1 HROW
    rw [hw2] at q0 q1 r0 r1 rf z0 z1 HROW c1 hf
    have HZ := Lib.hid (And.intro z0 z1)
    clear z0 z1 hb5 hb4r hb4q hn4 hrow hw4 hpw hw2 hf2 hn2 hqb hrb2 hal2 hrb hnr ht hfr hs1 hn1 hf1 ht1 c0 c2 c3
    go_wp2
    obtain ⟨z0, z1⟩ := HZ.out
    refine bodyPost_ret (by simp [results, Try.results17, go_sem, z0, z1]; try rfl) rfl ?_
    exact ⟨rfl, HROW.out.np⟩
  · have ha : S.at' i = ((0, noBytes), 3) := by unfold NS.at'; rw [if_neg hs]
    have ho : S.off i = S := by unfold NS.off; rw [if_neg hs]
    have hk2 : S.take i = S := by unfold NS.take; rw [if_neg hs]
    rw [ha, ho] at HRE
    rw [ha, hk2]
    unfold pkE pkV noBytes at HRE
    unfold noBytes
    clear hs ha ho hk2
    go_enter Try.func17, Try.ntmps17
    go_wp2_with fail
    refine HRE.out.mono ?_
    rintro e w1 ⟨rfl, v', hn1, hf1, ht1⟩
    obtain ⟨hrb, hnr, ht, hfr, hs1⟩ := res_blk H.out hf1 ht1
    have hal2 : Below w1.heap.size w1 (w1.alloc (.cells #[.int .i64 0, .string ⟨#[]⟩] 41)) := (Below.refl _ _).alloc (Nat.le_refl _) _
    have hrb2 := (hal2.block w.heap.size hs1).trans hrb
    have hn2 := hn1.below hal2
    have hf2 := hfr.alloc (.cells #[.int .i64 0, .string ⟨#[]⟩] 41)
    obtain ⟨q0, q1⟩ := pk_new w1 0 ⟨#[]⟩
    obtain ⟨w4, hw4⟩ : ∃ w4, w4 = w1.alloc (.cells #[.int .i64 0, .string ⟨#[]⟩] 41) := ⟨_, rfl⟩
    rw [← hw4] at hrb2 hn2 hf2
    have r0 : w4.cell? ⟨w.heap.size, 0, none⟩ = some (.int .i64 0) := by rw [cell_of_blk hrb2]; rfl
    have r1 : w4.cell? ⟨w.heap.size, 1, none⟩ = some (.string ⟨#[]⟩) := by rw [cell_of_blk hrb2]; rfl
    have rf : ∀ i, w4.frozen? ⟨w.heap.size, i, none⟩ = false := fun i => free_of_blk hrb2 i
    have hb5 := blk_setCell (i := 1) (u := .string ⟨#[]⟩) (blk_setCell (i := 0) (u := .int .i64 0) hrb2)
    have z0 : ((w4.setCell ⟨w.heap.size, 0, none⟩ (.int .i64 0)).setCell ⟨w.heap.size, 1, none⟩ (.string ⟨#[]⟩)).cell? ⟨w.heap.size, 0, none⟩ = some (.int .i64 0) := by rw [cell_of_blk hb5]; rfl
    have z1 : ((w4.setCell ⟨w.heap.size, 0, none⟩ (.int .i64 0)).setCell ⟨w.heap.size, 1, none⟩ (.string ⟨#[]⟩)).cell? ⟨w.heap.size, 1, none⟩ = some (.string ⟨#[]⟩) := by rw [cell_of_blk hb5]; rfl
    have hrow : NPv 53 pF w B p v v' S w4 := ⟨hn2, hf2, ht⟩
    have HROW := Lib.hid ((hrow.set (i := 0) (u := .int .i64 0) (Nat.le_refl _) hnr).set (i := 1) (u := .string ⟨#[]⟩) (Nat.le_refl _) hnr)
    rw [hw4] at r0 r1 rf z0 z1 HROW
    have HZ := Lib.hid (And.intro z0 z1)
    clear z0 z1 hb5 hrow hw4 hf2 hn2 hrb2 hal2 hrb hnr ht hfr hs1 hn1 hf1 ht1
    go_wp2
    obtain ⟨z0, z1⟩ := HZ.out
    refine bodyPost_ret (by simp [results, Try.results17, go_sem, z0, z1]; try rfl) rfl ?_
    exact ⟨rfl, HROW.out.np⟩

set_option maxRecDepth 20000 in
set_option maxHeartbeats 1000000 in
theorem lose_any (B p : Nat) (v : Value) (S : NS) (i : Int) (w : World) (N : Nat) (h : PN w B p v S) (hok : S.ok N) (hN : N ≤ 1000000) :
    Calls Try.prog 19 #[.pointer (some ⟨p, 0, none⟩), .int .i64 i] w fun e w' => e = .returned (.int .i64 (S.lose i).1) ∧ NP 53 pF w B p v (S.lose i).2 w' := by
  have hre := remove_any B p v S i _ h hok.len
  have hca := hok.came
  have HRE := Lib.hid hre
  have H := Lib.hid h
  have wk : IntKind.i64.wrap ((S.lost : Int) + 1) = (S.lost : Int) + 1 := IntWalk.i64_in _ (by omega)
  clear hre h hok hca
  by_cases hs : S.has i
  · obtain ⟨k, rfl, hk⟩ := has_nat hs
    have ha : S.at' (k : Int) = (wAt S.L k, 0) := by unfold NS.at'; rw [if_pos hs]; rfl
    have ho : S.off (k : Int) = ⟨offL S.L k, S.sent, S.came, S.lost⟩ := by unfold NS.off; rw [if_pos hs]; rfl
    have hk2 : S.lose (k : Int) = (0, ⟨offL S.L k, S.sent, S.came, S.lost + 1⟩) := by unfold NS.lose; rw [if_pos hs]; rfl
    rw [ha, ho] at HRE
    rw [hk2]
    generalize wAt S.L k = W at *
    obtain ⟨x, s⟩ := W
    unfold pkE pkV at HRE
    clear hs ha ho hk2 hk
    go_enter Try.func19, Try.ntmps19
    go_wp2_with fail
    refine HRE.out.mono ?_
    rintro e w1 ⟨rfl, v', hn1, hf1, ht1⟩
    have hal2 : Below w1.heap.size w1 (w1.alloc (.cells #[.int .i64 x, .string s] 41)) := (Below.refl _ _).alloc (Nat.le_refl _) _
    have hn2 := hn1.below hal2
    have hf2 := hf1.alloc (.cells #[.int .i64 x, .string s] 41)
    obtain ⟨c0, c1, c2, c3, hf⟩ := PN.cells hn2
    have hn4 : PN ((w1.alloc (.cells #[.int .i64 x, .string s] 41)).setCell ⟨p, 2, none⟩ (.int .i64 ((S.lost : Int) + 1))) B p v' ⟨offL S.L k, S.sent, S.came, S.lost + 1⟩ := by
      refine Nt.head hn2 (by decide) (gb_setCell (World.grownBy.refl _ _)) ?_ rfl
      refine (blk_setCell hn2.blk).trans ?_
      simp [pF]
    have HROW := Lib.hid (show NPv 53 pF w B p v v' ⟨offL S.L k, S.sent, S.came, S.lost + 1⟩ _ from ⟨hn4, hf2.set (.inl (.inl rfl)), ht1⟩)
    clear hn4 hn1 hf1 ht1 hn2 hf2 hal2 c0 c1 c3
    go_wp2
    go_ret
    exact ⟨rfl, HROW.out.np⟩
  · have ha : S.at' i = ((0, noBytes), 3) := by unfold NS.at'; rw [if_neg hs]
    have ho : S.off i = S := by unfold NS.off; rw [if_neg hs]
    have hk2 : S.lose i = (3, S) := by unfold NS.lose; rw [if_neg hs]
    rw [ha, ho] at HRE
    rw [hk2]
    unfold pkE pkV noBytes at HRE
    clear hs ha ho hk2
    go_enter Try.func19, Try.ntmps19
    go_wp2_with fail
    refine HRE.out.mono ?_
    rintro e w1 ⟨rfl, v', hn1, hf1, ht1⟩
    have hal2 : Below w1.heap.size w1 (w1.alloc (.cells #[.int .i64 0, .string ⟨#[]⟩] 41)) := (Below.refl _ _).alloc (Nat.le_refl _) _
    have HROW := Lib.hid (show NPv 53 pF w B p v v' S _ from ⟨hn1.below hal2, hf1.alloc (.cells #[.int .i64 0, .string ⟨#[]⟩] 41), ht1⟩)
    clear hal2 hn1 hf1 ht1
    go_wp2
    go_ret
    exact ⟨rfl, HROW.out.np⟩
end Go.Proofs.Ythbfeflijlcboaa


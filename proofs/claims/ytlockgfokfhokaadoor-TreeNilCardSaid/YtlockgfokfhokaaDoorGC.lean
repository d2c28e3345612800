/-
  Contract of the reference's Path.
-/
import Derived.Test.YtlockgfokfhokaaDoorGB
namespace Go.Proofs.YtlockgfokfhokaaDoor
open Go.RowKit
set_option linter.unusedVariables false
set_option linter.unusedSimpArgs false

set_option maxRecDepth 20000 in
set_option maxHeartbeats 1000000 in
theorem rpath_any (N F C U leaf : Int) (w : World) :
    Calls Tryd.prog 51 #[geo N F C U, .int .i64 leaf] w fun e w' => (∃ v, e = .returned v ∧ Lf w' w.heap.size v (path N F C U leaf)) ∧ Below w.heap.size w w' := by
  have hr := grright_any N F C U
  have hp := fun y => rparent_any N F C U y
  obtain ⟨i0, hi, hz0, hz1, hz2⟩ := info_parts Tryd.info3
  have hb0 := (Below.refl w.heap.size w).alloc (Nat.le_refl _) (gbox N F C U)
  by_cases hok : okG N F C U
  · have hd : decide (okG N F C U) = true := by simpa using hok
    rw [hd] at hr
    have hN := hok
    obtain ⟨N1, N2, -⟩ := hN
    by_cases hl : 0 ≤ leaf ∧ leaf < N
    · have hpath : path N F C U leaf = pl N.toNat F.toNat leaf.toNat (H N.toNat F.toNat + 1) := if_pos ⟨hok, hl⟩
      rw [hpath]
      obtain ⟨n, f, rfl, rfl, ho⟩ := ok_of hok
      obtain ⟨l1, l2⟩ := hl
      obtain ⟨x, rfl⟩ : ∃ x : Nat, leaf = x := ⟨leaf.toNat, by omega⟩
      simp only [Int.toNat_natCast]
      have hx : x < n := by omega
      have hH := (H_spec ho).2.2
      have hpp := fun k => parent_pth (k := k) ho hok hx
      have hpv0 : pv n f x 0 = (x : Int) := if_pos (Nat.zero_le _)
      have l3 : (x : Int) ≤ (n : Int) - 1 := by omega
      unfold geo at *
      clear hpath hok hd
      go_enter Tryd.func51, Tryd.ntmps51
      go_wp2_with fail
      refine (hr _).mono ?_
      rintro e w1 ⟨rfl, hb⟩
      have hb1 : Below (w.heap.size + 1) (w.alloc (gbox n f C U)) w1 := hb.mono (by simp)
      obtain ⟨c1, c2, c3, c4⟩ := gbox_cells hb1
      clear hb hr
      go_wp2
      simp only [show decide ((x : Int) < 0) = false from decide_eq_false (by omega), show decide (n ≤ x) = false from decide_eq_false (by omega), Bool.or_self]
      go_loopw [5, 6] (fun l y wr => ∃ i : Nat, i ≤ H n f + 1 ∧ y = .int .i64 (pv n f x i) ∧ wr.ownsRow (w.heap.size + 1) 3 1 l i (ivs (pl n f x i)) ∧ Below (w.heap.size + 1) (w.alloc (gbox n f C U)) wr) (fun _ y _ => pm (intOf y))
      case atStart => exact ⟨0, by omega, by rw [hpv0], World.ownsRow_nil _ _ _ _, hb1⟩
      case round =>
        obtain ⟨i, hi9, rfl, hown, hB⟩ := hrel
        have hbs : w.heap.size + 1 ≤ wr.heap.size := by have := hB.size; simpa using this
        by_cases hlt : i ≤ H n f
        · obtain ⟨e1, e2, e3⟩ := hpp i hlt
          have e4 : pv n f x i = (pth n f x i : Int) := if_pos hlt
          have hnx := pl_next n f x i
          rw [e4]
          generalize hnn : pv n f x (i + 1) = nxt at *
          have HNN := Lib.hid hnn
          clear hnn
          generalize pth n f x i = y at *
          have g1 : (0 : Int) ≤ (y : Int) := by omega
          have ho := hown.alloc (.cells #[.int .i64 (y : Int)] 3)
          have hB1 := hB.alloc hbs (.cells #[.int .i64 (y : Int)] 3)
          have HBS := Lib.hid (show w.heap.size + 1 ≤ (wr.alloc (.cells #[.int .i64 (y : Int)] 3)).heap.size by simp; omega)
          have HN := Lib.hid hnx
          have HPM := Lib.hid e3
          have HE := Lib.hid e4
          have hpy := hp (y : Int)
          rw [e1] at hpy
          clear hnx hB e1 e3 e4 hpp hp
          go_wp2_with (at_builtin; refine wpList_append_i (o := ⟨some 29, _, _, _, _, _⟩) rfl (.tmp 26) (.tmp 28) 46 rfl (w.heap.size + 1) i0 Tryd.underlying46 hi hz0 hz1 hz2 _ i _ rfl ho _ rfl rfl (by omega) HBS.out ?_)
          intro v' w5 hown5 hgrow
          rw [← HN.out] at hown5
          have hB5 := hB1.grown hgrow HBS.out (fun j hj => (hown.lt j hj).1)
          have hbs5 : w.heap.size + 1 ≤ w5.heap.size := by have := hB5.size; simpa using this
          clear hown ho hgrow hB1
          obtain ⟨k1, k2, k3, k4⟩ := gbox_cells hB5
          go_wp2_with fail
          refine (hpy _).mono ?_
          rintro e w6 ⟨rfl, hb6⟩
          have hown6 := hown5.kept (w' := w6) (row := none) ⟨hb6.os, hb6.tape, hb6.output, hb6.size, fun k hk _ => hb6.block k hk⟩ (by
            rcases h : v'.ownBlock with _ | g
            · exact .inl rfl
            · exact .inr (by simp))
          have hB6 := hB5.trans (hb6.mono hbs5)
          clear hown5 hB5 hb6 k1 k2 k3 k4 hpy
          go_wp2
          go_roundw
          case rel => exact ⟨i + 1, by omega, by rw [HNN.out], hown6, hB6⟩
          case measure => simp only [intOf]; exact HPM.out
        · have hi1 : i = H n f + 1 := by omega
          subst hi1
          have e4 : pv n f x (H n f + 1) = -1 := if_neg (by omega)
          rw [e4]
          have hf := lf_owns hown (by omega)
          have HF := Lib.hid (hf.mono (show w.heap.size ≤ w.heap.size + 1 by omega))
          have HB := Lib.hid (hb0.trans (hB.mono (show w.heap.size ≤ w.heap.size + 1 by omega)))
          clear hown hB hf e4
          go_wp2
          go_ret
          exact ⟨⟨_, rfl, HF.out⟩, HB.out⟩
    · have hpath : path N F C U leaf = [] := if_neg (fun h => hl h.2)
      rw [hpath]
      unfold geo at *
      clear hp hpath hok hd
      go_enter Tryd.func51, Tryd.ntmps51
      go_wp2_with fail
      refine (hr _).mono ?_
      rintro e w1 ⟨rfl, hb⟩
      have hb1 : Below (w.heap.size + 1) (w.alloc (gbox N F C U)) w1 := hb.mono (by simp)
      obtain ⟨c1, c2, c3, c4⟩ := gbox_cells hb1
      have HB := Lib.hid (hb0.trans (hb1.mono (by omega)))
      clear hb hb1 hr
      by_cases l1 : 0 ≤ leaf
      · have l2 : ¬ (leaf ≤ N - 1) := by omega
        clear hl
        go_wp2
        all_goals first
          | (exfalso
             have h9 : (!decide (leaf ≤ N - 1)) = false := by assumption
             simp at h9
             omega)
          | (go_ret
             exact ⟨⟨_, rfl, lf_nil _ _⟩, HB.out⟩)
      · clear hl
        go_wp2
        go_ret
        exact ⟨⟨_, rfl, lf_nil _ _⟩, HB.out⟩
  · have hd : decide (okG N F C U) = false := by simpa using hok
    have hpath : path N F C U leaf = [] := if_neg (fun h => hok h.1)
    rw [hd] at hr
    rw [hpath]
    unfold geo at *
    clear hp hpath hok hd
    go_enter Tryd.func51, Tryd.ntmps51
    go_wp2_with fail
    refine (hr _).mono ?_
    rintro e w1 ⟨rfl, hb⟩
    have hb1 : Below (w.heap.size + 1) (w.alloc (gbox N F C U)) w1 := hb.mono (by simp)
    have HB := Lib.hid (hb0.trans (hb1.mono (by omega)))
    clear hb hb1 hr
    go_wp2
    go_ret
    exact ⟨⟨_, rfl, lf_nil _ _⟩, HB.out⟩

end Go.Proofs.YtlockgfokfhokaaDoor


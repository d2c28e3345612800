/-
  Contract of the program's Path.
-/
import Derived.Test.YtlockgfokfhokaaDoorG8
namespace Go.Proofs.YtlockgfokfhokaaDoor
open Go.RowKit
set_option linter.unusedVariables false
set_option linter.unusedSimpArgs false

/-- The k-th node of a path, and -1 behind the root. -/
def pv (n f x k : Nat) : Int := if k ≤ H n f then (pth n f x k : Int) else -1
/-- The first i nodes of a path. -/
def pl (n f x i : Nat) : List Int := (List.range i).map (fun k => (pth n f x k : Int))
theorem pl_next (n f x i : Nat) : pl n f x (i + 1) = pl n f x i ++ [(pth n f x i : Int)] := by simp [pl, List.range_succ]
theorem pl_length (n f x i : Nat) : (pl n f x i).length = i := by simp [pl]
def pm (z : Int) : Nat := if z < 0 then 0 else 256 - z.toNat

theorem parent_pth {n f x k : Nat} {C U : Int} (h : Ok n f) (hok : okG n f C U) (hx : x < n) (hk : k ≤ H n f) :
    parent n f C U (pth n f x k) = pv n f x (k + 1) ∧ pth n f x k < 256 ∧ pm (pv n f x (k + 1)) < pm (pth n f x k) := by
  have hp := pth_lt h hx k
  have hs := @S_mono n f (k + 1) (H n f + 1) (by omega)
  have hs8 := S_le h
  have hin : okG (n : Int) (f : Int) C U ∧ 0 ≤ (pth n f x k : Int) ∧ (pth n f x k : Int) < (S n f (H n f + 1) : Nat) := ⟨hok, by omega, by omega⟩
  have e1 : parent n f C U (pth n f x k) = par n f (pth n f x k) := if_pos hin
  by_cases hk2 : k < H n f
  · have hq := pth_lt h hx (k + 1)
    have hs2 := @S_mono n f (k + 2) (H n f + 1) (by omega)
    have e3 : pv n f x (k + 1) = (pth n f x (k + 1) : Int) := if_pos hk2
    refine ⟨?_, by omega, ?_⟩
    · rw [e1, par_at hk2 hp.1 hp.2, e3]
      rfl
    · rw [e3]; unfold pm
      rw [if_neg (by omega), if_neg (by omega)]
      omega
  · obtain rfl : k = H n f := by omega
    have e3 : pv n f x (H n f + 1) = -1 := if_neg (by omega)
    refine ⟨?_, by omega, ?_⟩
    · rw [e1, par_top hp.1 hp.2, e3]
    · rw [e3]; unfold pm
      rw [if_pos (by omega), if_neg (by omega)]
      omega

set_option maxRecDepth 20000 in
set_option maxHeartbeats 1000000 in
theorem path_any (N F C U leaf : Int) (w : World) :
    Calls Tryd.prog 50 #[geo N F C U, .int .i64 leaf] w fun e w' => (∃ v, e = .returned v ∧ Lf w' w.heap.size v (path N F C U leaf)) ∧ Below w.heap.size w w' := by
  have hr := gright_any N F C U
  have hp := fun y => parent_any N F C U y
  obtain ⟨i0, hi, hz0, hz1, hz2⟩ := info_parts Tryd.info3
  have hb0 := (Below.refl w.heap.size w).alloc (Nat.le_refl _) (gbox N F C U)
  by_cases hok : okG N F C U
  · have hd : decide (okG N F C U) = true := by simpa using hok
    rw [hd] at hr
    have hN := hok
    obtain ⟨N1, N2, -⟩ := hN
    by_cases hl : 0 ≤ leaf ∧ leaf < N
    · have hpath : path N F C U leaf = pl N.toNat F.toNat leaf.toNat (H N.toNat F.toNat + 1) := if_pos ⟨hok, hl⟩
      rw [hpath]
      obtain ⟨n, f, rfl, rfl, ho⟩ := ok_of hok
      obtain ⟨l1, l2⟩ := hl
      obtain ⟨x, rfl⟩ : ∃ x : Nat, leaf = x := ⟨leaf.toNat, by omega⟩
      simp only [Int.toNat_natCast]
      have hx : x < n := by omega
      have hH := (H_spec ho).2.2
      have hpp := fun k => parent_pth (k := k) ho hok hx
      have hpv0 : pv n f x 0 = (x : Int) := if_pos (Nat.zero_le _)
      have l3 : (x : Int) ≤ (n : Int) - 1 := by omega
      unfold geo at *
      clear hpath hok hd
      go_enter Tryd.func50, Tryd.ntmps50
      go_wp2_with fail
      refine (hr _).mono ?_
      rintro e w1 ⟨rfl, hb⟩
      have hb1 : Below (w.heap.size + 1) (w.alloc (gbox n f C U)) w1 := hb.mono (by simp)
      obtain ⟨c1, c2, c3, c4⟩ := gbox_cells hb1
      have hwi := within_any (x : Int) 0 ((n : Int) - 1)
      have hwd : decide ((0 : Int) ≤ (x : Int) ∧ (x : Int) ≤ (n : Int) - 1) = true := by rw [decide_eq_true_iff]; omega
      rw [hwd] at hwi
      clear hb hr hwd
      go_wp2_with fail
      refine (hwi _).mono ?_
      rintro e w2 ⟨rfl, hw2⟩
      obtain rfl := hw2.symm
      clear hwi hw2
      go_wp2
      go_loopw [5, 6] (fun l y wr => ∃ i : Nat, i ≤ H n f + 1 ∧ y = .int .i64 (pv n f x i) ∧ wr.ownsRow (w.heap.size + 1) 3 1 l i (ivs (pl n f x i)) ∧ Below (w.heap.size + 1) (w.alloc (gbox n f C U)) wr) (fun _ y _ => pm (intOf y))
      case atStart => exact ⟨0, by omega, by rw [hpv0], World.ownsRow_nil _ _ _ _, hb1⟩
      case round =>
        obtain ⟨i, hi9, rfl, hown, hB⟩ := hrel
        have hbs : w.heap.size + 1 ≤ wr.heap.size := by have := hB.size; simpa using this
        by_cases hlt : i ≤ H n f
        · obtain ⟨e1, e2, e3⟩ := hpp i hlt
          have e4 : pv n f x i = (pth n f x i : Int) := if_pos hlt
          have hnx := pl_next n f x i
          rw [e4]
          generalize hnn : pv n f x (i + 1) = nxt at *
          have HNN := Lib.hid hnn
          clear hnn
          generalize pth n f x i = y at *
          have g1 : ((y : Int) != -1) = true := by rw [bne_iff_ne]; omega
          have ho := hown.alloc (.cells #[.int .i64 (y : Int)] 3)
          have hB1 := hB.alloc hbs (.cells #[.int .i64 (y : Int)] 3)
          have HBS := Lib.hid (show w.heap.size + 1 ≤ (wr.alloc (.cells #[.int .i64 (y : Int)] 3)).heap.size by simp; omega)
          have HN := Lib.hid hnx
          have HPM := Lib.hid e3
          have HE := Lib.hid e4
          have hpy := hp (y : Int)
          rw [e1] at hpy
          clear hnx hB e1 e3 e4 hpp hp
          go_wp2_with (at_builtin; refine wpList_append_i (o := ⟨some 27, _, _, _, _, _⟩) rfl (.tmp 24) (.tmp 26) 46 rfl (w.heap.size + 1) i0 Tryd.underlying46 hi hz0 hz1 hz2 _ i _ rfl ho _ rfl rfl (by omega) HBS.out ?_)
          intro v' w5 hown5 hgrow
          rw [← HN.out] at hown5
          have hB5 := hB1.grown hgrow HBS.out (fun j hj => (hown.lt j hj).1)
          have hbs5 : w.heap.size + 1 ≤ w5.heap.size := by have := hB5.size; simpa using this
          clear hown ho hgrow hB1
          obtain ⟨k1, k2, k3, k4⟩ := gbox_cells hB5
          go_wp2_with fail
          refine (hpy _).mono ?_
          rintro e w6 ⟨rfl, hb6⟩
          have hown6 := hown5.kept (w' := w6) (row := none) ⟨hb6.os, hb6.tape, hb6.output, hb6.size, fun k hk _ => hb6.block k hk⟩ (by
            rcases h : v'.ownBlock with _ | g
            · exact .inl rfl
            · exact .inr (by simp))
          have hB6 := hB5.trans (hb6.mono hbs5)
          clear hown5 hB5 hb6 k1 k2 k3 k4 hpy
          go_wp2
          go_roundw
          case rel => exact ⟨i + 1, by omega, by rw [HNN.out], hown6, hB6⟩
          case measure => simp only [intOf]; exact HPM.out
        · have hi1 : i = H n f + 1 := by omega
          subst hi1
          have e4 : pv n f x (H n f + 1) = -1 := if_neg (by omega)
          rw [e4]
          have hf := lf_owns hown (by omega)
          have HF := Lib.hid (hf.mono (show w.heap.size ≤ w.heap.size + 1 by omega))
          have HB := Lib.hid (hb0.trans (hB.mono (show w.heap.size ≤ w.heap.size + 1 by omega)))
          clear hown hB hf e4
          go_wp2
          go_ret
          exact ⟨⟨_, rfl, HF.out⟩, HB.out⟩
    · have hpath : path N F C U leaf = [] := if_neg (fun h => hl h.2)
      rw [hpath]
      unfold geo at *
      clear hp hpath hok hd
      go_enter Tryd.func50, Tryd.ntmps50
      go_wp2_with fail
      refine (hr _).mono ?_
      rintro e w1 ⟨rfl, hb⟩
      have hb1 : Below (w.heap.size + 1) (w.alloc (gbox N F C U)) w1 := hb.mono (by simp)
      obtain ⟨c1, c2, c3, c4⟩ := gbox_cells hb1
      have HB := Lib.hid (hb0.trans (hb1.mono (by omega)))
      clear hb hb1 hr
      by_cases l1 : 0 ≤ leaf
      · have l2 : ¬ (leaf ≤ N - 1) := by omega
        clear hl
        go_wp2
        all_goals first
          | (exfalso
             have h9 : (!decide (leaf ≤ N - 1)) = false := by assumption
             simp at h9
             omega)
          | (go_ret
             exact ⟨⟨_, rfl, lf_nil _ _⟩, HB.out⟩)
      · clear hl
        go_wp2
        go_ret
        exact ⟨⟨_, rfl, lf_nil _ _⟩, HB.out⟩
  · have hd : decide (okG N F C U) = false := by simpa using hok
    have hpath : path N F C U leaf = [] := if_neg (fun h => hok h.1)
    rw [hd] at hr
    rw [hpath]
    unfold geo at *
    clear hp hpath hok hd
    go_enter Tryd.func50, Tryd.ntmps50
    go_wp2_with fail
    refine (hr _).mono ?_
    rintro e w1 ⟨rfl, hb⟩
    have hb1 : Below (w.heap.size + 1) (w.alloc (gbox N F C U)) w1 := hb.mono (by simp)
    have HB := Lib.hid (hb0.trans (hb1.mono (by omega)))
    clear hb hb1 hr
    go_wp2
    go_ret
    exact ⟨⟨_, rfl, lf_nil _ _⟩, HB.out⟩

end Go.Proofs.YtlockgfokfhokaaDoor


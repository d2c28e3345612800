/-
  Contract of the reference's Children.
-/
import Derived.Test.YtlockgfokfhokaaDoorG9
namespace Go.Proofs.YtlockgfokfhokaaDoor
open Go.RowKit
set_option linter.unusedVariables false
set_option linter.unusedSimpArgs false

theorem children_in {n f : Nat} {C U node : Int} (h : Ok n f) (hok : okG n f C U) (i : Nat) (hi : i < H n f) (h1 : (S n f (i + 1) : Int) ≤ node) (h2 : node < (S n f (i + 2) : Int)) :
    ∃ x : Nat, node = x ∧ S n f (i + 1) ≤ x ∧ x ≤ 255 ∧ children n f C U node = rng (S n f i + (x - S n f (i + 1)) * f) (min f (q n f i - (x - S n f (i + 1)) * f)) := by
  have hm := @S_mono n f (i + 2) (H n f + 1) (by omega)
  have h8 := S_le h
  have hin : okG (n : Int) (f : Int) C U ∧ 0 ≤ node ∧ node < (S n f (H n f + 1) : Nat) := ⟨hok, by omega, by omega⟩
  have e : children n f C U node = ch n f node.toNat := if_pos hin
  obtain ⟨e1, e2⟩ := ch_at (n := n) (f := f) (x := node.toNat) (k := i) hi (by omega) (by omega)
  have e3 : S n f (i + 1) = S n f i + q n f i := rfl
  refine ⟨node.toNat, by omega, by omega, by omega, ?_⟩
  rw [e]
  unfold ch rng
  rw [e1, e2]
  congr 2
  omega

theorem children_out {n f : Nat} {C U node : Int} (h : Ok n f) (hno : ∀ i, i < H n f → ¬ ((S n f (i + 1) : Int) ≤ node ∧ node < (S n f (i + 2) : Int))) : children n f C U node = [] := by
  by_cases hin : okG (n : Int) (f : Int) C U ∧ 0 ≤ node ∧ node < (S n f (H n f + 1) : Nat)
  · have e : children n f C U node = ch n f node.toNat := if_pos hin
    have hl := lvl_spec (n := n) (f := f) (x := node.toNat) (by omega)
    rw [e]
    rcases Nat.eq_zero_or_pos (lvl n f node.toNat) with h0 | h0
    · refine ch_leaf ?_
      rw [h0] at hl
      exact hl.2.2
    · obtain ⟨k, hk⟩ : ∃ k, lvl n f node.toNat = k + 1 := ⟨lvl n f node.toNat - 1, by omega⟩
      rw [hk] at hl
      have l1 : S n f (k + 1) ≤ node.toNat := hl.2.1
      have l2 : node.toNat < S n f (k + 2) := hl.2.2
      exact absurd ⟨by omega, by omega⟩ (hno k (by omega))
  · exact if_neg hin

set_option maxRecDepth 20000 in
set_option maxHeartbeats 1000000 in
theorem rchildren_any (N F C U node : Int) (w : World) :
    Calls Tryd.prog 55 #[geo N F C U, .int .i64 node] w fun e w' => (∃ v, e = .returned v ∧ Lf w' w.heap.size v (children N F C U node)) ∧ Below w.heap.size w w' := by
  have hr := rlevels_any N F C U
  obtain ⟨i0, hi, hz0, hz1, hz2⟩ := info_parts Tryd.info3
  have hb0 := (Below.refl w.heap.size w).alloc (Nat.le_refl _) (gbox N F C U)
  by_cases hok : okG N F C U
  · obtain ⟨n, f, rfl, rfl, ho⟩ := ok_of hok
    have e : levels n f C U = lev n f (H n f) := if_pos hok
    rw [e] at hr
    have hin := fun i => children_in (node := node) ho hok i
    have hout := children_out (C := C) (U := U) (node := node) ho
    have hH := (H_spec ho).2.2
    have f1 := ho.f1
    have f2 := ho.f2
    have h8 := S_le ho
    have hq := lev_at n f (H n f)
    have hln := lev_length n f (H n f)
    have hq8 := q_le ho
    generalize children n f C U node = CH at *
    unfold geo at *
    clear e hok
    go_enter Tryd.func55, Tryd.ntmps55
    go_wp2_with fail
    refine (hr _).mono ?_
    rintro e w1 ⟨⟨v, rfl, a, nn, c, rfl, hri, -⟩, hb⟩
    have hb1 : Below (w.heap.size + 1) (w.alloc (gbox n f C U)) w1 := hb.mono (by simp)
    have hnn := hri.len
    rw [hln] at hnn
    subst hnn
    obtain ⟨b, off, rfl, hbl, hc⟩ := hri.at0 (by omega)
    obtain ⟨c1, c2, c3, c4⟩ := gbox_cells hb1
    have hsz : w.heap.size < w1.heap.size := by have := hb1.size; simp at this; omega
    have HB := Lib.hid (hb0.trans (hb1.mono (by omega)))
    clear hb hb1 hr hri hb0
    go_wp2
    go_loopw [7, 6] (fun y z wr => ∃ i : Nat, i ≤ H n f ∧ y = .int .i64 (i : Int) ∧ z = .int .i64 (S n f i : Int) ∧ (∀ j, j < i → ¬ ((S n f (j + 1) : Int) ≤ node ∧ node < (S n f (j + 2) : Int))) ∧ wr = w1) (fun y _ _ => H n f - (intOf y).toNat)
    case atStart => exact ⟨0, by omega, rfl, rfl, fun j hj => by omega, rfl⟩
    case round =>
      obtain ⟨i, hi9, rfl, rfl, hno, hw⟩ := hrel
      obtain rfl := hw.symm
      clear hw
      by_cases hlt : i < H n f
      · have k1 := hc i (by omega)
        have k2 := hc (i + 1) (by omega)
        rw [hq i (by omega)] at k1
        rw [hq (i + 1) (by omega)] at k2
        have i1 : (0 : Int) ≤ (i : Int) := by omega
        have i2 : (i : Int) + 1 < ((H n f : Nat) : Int) + 1 := by omega
        have i3 : (i : Int) < ((H n f : Nat) : Int) + 1 := by omega
        have s1 : S n f (i + 1) = S n f i + q n f i := rfl
        have s2 : S n f (i + 2) = S n f (i + 1) + q n f (i + 1) := rfl
        have hm := @S_mono n f (i + 2) (H n f + 1) (by omega)
        have hini := hin i hlt
        have hqi := hq8 i
        have hno2 : ¬ ((S n f (i + 1) : Int) ≤ node ∧ node < (S n f (i + 2) : Int)) → ∀ j, j < i + 1 → ¬ ((S n f (j + 1) : Int) ≤ node ∧ node < (S n f (j + 2) : Int)) := fun h j hj => by
          by_cases e : j = i
          · subst e; exact h
          · exact hno j (by omega)
        clear hno hin hout hc hq hln hq8
        rw [s1] at s2
        rw [s1, s2] at hini hno2
        rw [s2] at hm
        have HS1 := Lib.hid s1
        generalize hHH : H n f = M at *
        have HHH := Lib.hid hHH
        clear hHH s1 s2
        generalize q n f i = qi at *
        generalize q n f (i + 1) = qn at *
        have HN := Lib.hid hno2
        have HI := Lib.hid hini
        clear hno2 hini
        generalize hz : S n f i = z0 at *
        have HZ := Lib.hid hz
        clear hz
        by_cases h1 : (z0 : Int) + (qi : Int) ≤ node
        · by_cases h2 : node < (z0 : Int) + (qi : Int) + (qn : Int)
          · obtain ⟨x, rfl, hx1, hx2, hCH⟩ := HI.out (by omega) (by omega)
            clear HI HN HS1
            have hd : (x : Int) - ((z0 : Int) + (qi : Int)) = ((x - (z0 + qi) : Nat) : Int) := by omega
            have hd8 : x - (z0 + qi) ≤ 255 := by omega
            have hdf : (x - (z0 + qi)) * f ≤ 255 * 4 := Nat.mul_le_mul hd8 f2
            generalize x - (z0 + qi) = d at *
            have hmul : (d : Int) * (f : Int) = ((d * f : Nat) : Int) := (Int.natCast_mul d f).symm
            generalize d * f = D at *
            have hszr : w.heap.size ≤ w1.heap.size := Nat.le_of_lt hsz
            have HC := Lib.hid hCH
            clear hCH
            go_wp2
            go_loopw [10, 9] (fun y l w' => ∃ k : Nat, k ≤ f ∧ y = .int .i64 (k : Int) ∧ w'.ownsRow w1.heap.size 3 1 l (min k (qi - D)) (ivs (rng (z0 + D) (min k (qi - D)))) ∧ Below w1.heap.size w1 w') (fun y _ _ => f - (intOf y).toNat)
            case atStart => exact ⟨0, by omega, rfl, by simpa [rng, ivs] using World.ownsRow_nil _ _ _ _, Below.refl _ _⟩
            case round =>
              obtain ⟨k, hk9, rfl, hown, hBw⟩ := hrel
              have d2 : wr.cell? ⟨w.heap.size, 1, none⟩ = some (.int .i64 (f : Int)) := by rw [hBw.cell hsz]; exact c2
              have d3 : wr.cell? ⟨b, off + i, none⟩ = some (.int .i64 (qi : Int)) := by rw [hBw.cell hbl]; exact k1
              have HBw := Lib.hid hBw
              by_cases hkf : k < f
              · have j0 : (k : Int) < (f : Int) := by omega
                by_cases hkq : D + k < qi
                · have j1 : (D : Int) + (k : Int) < (qi : Int) := by omega
                  have e1 : min k (qi - D) = k := by omega
                  have e2 : min (k + 1) (qi - D) = k + 1 := by omega
                  have hnx := rng_next (z0 + D) k
                  have hcast : ((z0 + D + k : Nat) : Int) = (z0 : Int) + ((D : Int) + (k : Int)) := by omega
                  rw [hcast] at hnx
                  rw [e1] at hown
                  have ho := hown.alloc (.cells #[.int .i64 ((z0 : Int) + ((D : Int) + (k : Int)))] 3)
                  have hB1 := hBw.alloc hBw.size (.cells #[.int .i64 ((z0 : Int) + ((D : Int) + (k : Int)))] 3)
                  have HBS := Lib.hid (show w1.heap.size ≤ (wr.alloc (.cells #[.int .i64 ((z0 : Int) + ((D : Int) + (k : Int)))] 3)).heap.size by simp; have := hBw.size; omega)
                  have HN := Lib.hid hnx
                  have HE2 := Lib.hid e2
                  clear hnx hcast e1 e2 hBw
                  go_wp2_with (at_builtin; refine wpList_append_i (o := ⟨some 66, _, _, _, _, _⟩) rfl (.tmp 61) (.tmp 65) 46 rfl w1.heap.size i0 Tryd.underlying46 hi hz0 hz1 hz2 _ k _ rfl ho _ rfl rfl (by omega) HBS.out ?_)
                  intro v' w5 hown5 hgrow
                  rw [← HN.out] at hown5
                  have hB5 := hB1.grown hgrow HBS.out (fun j hj => (hown.lt j hj).1)
                  clear hown ho hgrow hB1 d2 d3
                  go_wp2
                  go_roundw
                  case rel => exact ⟨k + 1, by omega, by go_num, by rw [HE2.out]; exact hown5, hB5⟩
                  case measure => simp [intOf]; omega
                · have j1 : ¬ ((D : Int) + (k : Int) < (qi : Int)) := by omega
                  have e2 : min (k + 1) (qi - D) = min k (qi - D) := by omega
                  have HO := Lib.hid hown
                  have HE2 := Lib.hid e2
                  clear hown e2 hBw
                  go_wp2
                  go_roundw
                  case rel => exact ⟨k + 1, by omega, by go_num, by rw [HE2.out]; exact HO.out, HBw.out⟩
                  case measure => simp [intOf]; omega
              · obtain rfl : k = f := by omega
                have hfin := (lf_owns hown (by omega)).mono hszr
                rw [← HC.out] at hfin
                have HF := Lib.hid hfin
                have HBf := Lib.hid (HB.out.trans (hBw.mono hszr))
                clear hown hfin hBw
                go_wp2
                go_ret
                exact ⟨⟨_, rfl, HF.out⟩, HBf.out⟩
          · have HN2 := Lib.hid (HN.out (by omega))
            clear HI HN
            go_wp2
            go_roundw
            case rel => exact ⟨i + 1, by omega, by go_num, by rw [HS1.out]; go_num, HN2.out, by first | rfl | trivial⟩
            case measure => simp [intOf]; omega
        · have HN2 := Lib.hid (HN.out (by omega))
          clear HI HN
          go_wp2
          go_roundw
          case rel => exact ⟨i + 1, by omega, by go_num, by rw [HS1.out]; go_num, HN2.out, by first | rfl | trivial⟩
          case measure => simp [intOf]; omega
      · obtain rfl : i = H n f := by omega
        have hCH := hout hno
        clear hout hin hno
        go_wp2
        go_ret
        exact ⟨⟨_, rfl, by rw [hCH]; exact lf_nil _ _⟩, HB.out⟩
  · have e : levels N F C U = [] := if_neg hok
    have e2 : children N F C U node = [] := if_neg (fun h => hok h.1)
    rw [e] at hr
    rw [e2]
    unfold geo at *
    clear e e2 hok
    go_enter Tryd.func55, Tryd.ntmps55
    go_wp2_with fail
    refine (hr _).mono ?_
    rintro e w1 ⟨⟨v, rfl, a, nn, c, rfl, hri, -⟩, hb⟩
    have hb1 : Below w.heap.size w w1 := hb0.trans (hb.mono (by simp))
    have hnn := hri.len
    obtain rfl : nn = 0 := by simpa using hnn.symm
    clear hb hr hri hb0 hnn
    go_wp2
    go_loopw [7] (fun y wr => y = .int .i64 0 ∧ wr = w1) (fun _ _ => 0)
    case atStart => exact ⟨rfl, rfl⟩
    case round =>
      obtain ⟨rfl, rfl⟩ := hrel
      go_wp2
      go_ret
      exact ⟨⟨_, rfl, lf_nil _ _⟩, hb1⟩

end Go.Proofs.YtlockgfokfhokaaDoor


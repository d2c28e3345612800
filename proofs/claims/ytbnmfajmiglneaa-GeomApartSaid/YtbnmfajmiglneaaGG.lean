/-
  Contract of Ints; known.
-/
import Derived.Test.YtbnmfajmiglneaaGF
namespace Go.Proofs.Ytbnmfajmiglneaa
open Go.RowKit
set_option linter.unusedVariables false
set_option linter.unusedSimpArgs false

set_option maxHeartbeats 1000000 in
theorem ints_any (va vb : Value) (xs ys : List Int) (w : World) (ha : Li w va xs) (hb : Li w vb ys) :
    Calls Try.prog 9 #[va, vb] w fun e w' => e = .returned (.bool (decide (xs = ys))) ∧ Dr w w' := by
  obtain ⟨a, n, c, rfl, ha⟩ := ha
  obtain ⟨b, m, d, rfl, hb⟩ := hb
  have hn := ha.len
  have hm := hb.len
  have hnb := ha.big
  have hmb := hb.big
  go_enter Try.func9, Try.ntmps9
  by_cases hnm : n = m
  · subst hnm
    have HD := Lib.hid (show (∀ j : Nat, j < n → xs[j]?.getD 0 = ys[j]?.getD 0) → decide (xs = ys) = true from fun h => by
      rw [decide_eq_true_iff]
      apply List.ext_getElem?
      intro j
      by_cases hj : j < n
      · have := h j hj
        rw [List.getElem?_eq_getElem (by omega), List.getElem?_eq_getElem (by omega)] at this ⊢
        simpa using this
      · rw [List.getElem?_eq_none (by omega), List.getElem?_eq_none (by omega)])
    have HN := Lib.hid (show ∀ j : Nat, xs[j]?.getD 0 ≠ ys[j]?.getD 0 → decide (xs = ys) = false from fun j h => by
      rw [decide_eq_false_iff_not]
      intro e; exact h (by rw [e]))
    generalize decide (xs = ys) = B at *
    clear hn hm
    go_wp2
    go_loopw [5] (fun y wr => ∃ i : Nat, i ≤ n ∧ y = .int .i64 (i : Int) ∧ (∀ j, j < i → xs[j]?.getD 0 = ys[j]?.getD 0) ∧ Dr w wr) (fun y _ => n - (intOf y).toNat)
    case atStart => exact ⟨0, by omega, rfl, fun j hj => by omega, Dr.refl _⟩
    case round =>
      obtain ⟨i, hi, rfl, hall, hD⟩ := hrel
      by_cases hlt : i < n
      · obtain ⟨ba, oa, rfl, -, hca⟩ := (ha.later hD.below).at0 (by omega)
        obtain ⟨bb, ob, rfl, -, hcb⟩ := (hb.later hD.below).at0 (by omega)
        have k1 := hca i hlt
        have k2 := hcb i hlt
        have HDD := Lib.hid hD
        have hnx : xs[i]?.getD 0 = ys[i]?.getD 0 → ∀ j, j < i + 1 → xs[j]?.getD 0 = ys[j]?.getD 0 := fun h j hj => by
          by_cases e : j = i
          · subst e; exact h
          · exact hall j (by omega)
        have HX := Lib.hid hnx
        have HNI := Lib.hid (HN.out i)
        have i1 : (0 : Int) ≤ (i : Int) := by omega
        have i2 : (i : Int) < (n : Int) := by omega
        clear hca hcb hall hnx hD ha hb
        generalize hx : xs[i]?.getD 0 = x at *
        generalize hy : ys[i]?.getD 0 = y at *
        have HXX := Lib.hid hx
        have HYY := Lib.hid hy
        clear hx hy
        by_cases hxy : x = y
        · have hxy2 : (x == y) = true := by simpa using hxy
          have HXY := Lib.hid (HX.out hxy)
          subst hxy
          go_wp2
          go_quiet (fail)
          go_wp2
          go_roundw
          case rel => exact ⟨i + 1, by omega, by go_num, HXY.out, HDD.out.next _⟩
          case measure => simp [intOf]; omega
        · have hxy2 : (x == y) = false := by simpa using hxy
          have HB := Lib.hid (HNI.out hxy)
          clear hxy
          go_wp2
          go_quiet (fail)
          go_wp2
          go_ret
          exact ⟨by rw [HB.out]; rfl, HDD.out.next _⟩
      · obtain rfl : i = n := by omega
        have HB := Lib.hid (HD.out hall)
        clear hall ha hb
        go_wp2
        go_ret
        exact ⟨by rw [HB.out]; rfl, hD⟩
  · have HB := Lib.hid (show decide (xs = ys) = false by rw [decide_eq_false_iff_not]; intro e; subst e; omega)
    have h1 : ((n : Int) == (m : Int)) = false := by simpa using (show ¬ ((n : Int) = (m : Int)) by omega)
    clear hnm hn hm
    go_wp2
    go_ret
    exact ⟨by rw [HB.out]; rfl, Dr.refl _⟩

/-- A new block of ints is a list. -/
theorem li_new (w : World) (xs : List Int) (h : xs.length ≤ 1000) : Li (w.alloc (.cells (ivs xs).toArray 3)) (.slice (some ⟨w.heap.size, 0, none⟩) xs.length xs.length) xs := by
  refine ⟨_, _, _, rfl, rfl, Nat.le_refl _, by omega, by unfold maxLen; omega, fun _ => ⟨_, _, rfl, by simp, fun i hi => ?_⟩, fun e => by cases e⟩
  rw [World.cell?_alloc_at _ _ _ _ rfl]
  rw [Nat.zero_add]
  simp [ivs, List.getElem?_eq_getElem hi]

set_option maxHeartbeats 2000000 in
theorem known_any (w : World) :
    Calls Try.prog 24 #[] w fun e w' => e = .returned (.bool true) ∧ Below w.heap.size w w' := by
  have h1 := right_any 5 2 1 3
  rw [show decide (okG 5 2 1 3) = true from by decide] at h1
  have h2 := levels_any 5 2 1 3
  rw [show levels 5 2 1 3 = [5, 3, 2, 1] from by decide] at h2
  have h3 := children_any 5 2 1 3 7
  rw [show children 5 2 1 3 7 = [4] from by decide] at h3
  have h4 := parent_any 5 2 1 3 7
  rw [show parent 5 2 1 3 7 = 9 from by decide] at h4
  have h5 := size_any 5 2 1 3 0
  rw [show sizeOf' 5 2 1 3 0 = 24 from by decide] at h5
  have h6 := root_any 5 2 1 3
  rw [show ((nodes 5 2 1 3 - 1 : Nat) : Int) = 10 from by decide] at h6
  unfold geo at *
  go_enter Try.func24, Try.ntmps24
  have n1 := fun (W : World) => li_new W [5, 3, 2, 1] (by decide)
  have n2 := fun (W : World) => li_new W [4] (by decide)
  have hb0 := (Below.refl w.heap.size w).alloc (Nat.le_refl _) (gbox 5 2 1 3)
  go_wp2_with fail
  refine (h1 _).mono ?_
  rintro e w1 ⟨rfl, hb⟩
  have hB1 : Below (w.heap.size + 1) (w.alloc (gbox 5 2 1 3)) w1 := hb.mono (by simp)
  have hz1 : w.heap.size + 1 ≤ w1.heap.size := by have := hB1.size; simpa using this
  clear hb h1
  obtain ⟨c1, c2, c3, c4⟩ := gbox_cells hB1
  go_wp2_with fail
  refine (h2 _).mono ?_
  rintro e w2 ⟨⟨v2, rfl, hv2⟩, hb⟩
  have hB2 := hB1.trans (hb.mono hz1)
  have hz2 : w.heap.size + 1 ≤ w2.heap.size := Nat.le_trans hz1 hb.size
  clear hb h2 c1 c2 c3 c4
  obtain ⟨c1, c2, c3, c4⟩ := gbox_cells hB2
  have hl2 := hv2.li
  go_wp2_with fail
  refine (ints_any _ _ [5, 3, 2, 1] [5, 3, 2, 1] _ (hl2.later ((Below.refl _ _).alloc (Nat.le_refl _) _)) (n1 w2)).mono ?_
  rintro e w3 ⟨rfl, hd⟩
  have hB3 := (hB2.alloc hz2 _).trans (hd.below.mono (show w.heap.size + 1 ≤ (w2.alloc _).heap.size by simp; omega))
  have hz3 : w.heap.size + 1 ≤ w3.heap.size := by have := hB3.size; simpa using this
  clear hd hB1 hB2 hl2 hv2 n1 c1 c2 c3 c4 hz1 hz2
  obtain ⟨c1, c2, c3, c4⟩ := gbox_cells hB3
  go_wp2_with fail
  refine (h3 _).mono ?_
  rintro e w4 ⟨⟨v4, rfl, hv4⟩, hb⟩
  have hB4 := hB3.trans (hb.mono hz3)
  have hz4 : w.heap.size + 1 ≤ w4.heap.size := Nat.le_trans hz3 hb.size
  clear hb h3 c1 c2 c3 c4 hB3 hz3
  obtain ⟨c1, c2, c3, c4⟩ := gbox_cells hB4
  have hl4 := hv4.li
  go_wp2_with fail
  refine (ints_any _ _ [4] [4] _ (hl4.later ((Below.refl _ _).alloc (Nat.le_refl _) _)) (n2 w4)).mono ?_
  rintro e w5 ⟨rfl, hd⟩
  have hB5 := (hB4.alloc hz4 _).trans (hd.below.mono (show w.heap.size + 1 ≤ (w4.alloc _).heap.size by simp; omega))
  have hz5 : w.heap.size + 1 ≤ w5.heap.size := by have := hB5.size; simpa using this
  clear hd hB4 hl4 hv4 n2 c1 c2 c3 c4 hz4
  obtain ⟨c1, c2, c3, c4⟩ := gbox_cells hB5
  go_wp2_with fail
  refine (h4 _).mono ?_
  rintro e w6 ⟨rfl, hb⟩
  have hB6 := hB5.trans (hb.mono hz5)
  have hz6 : w.heap.size + 1 ≤ w6.heap.size := Nat.le_trans hz5 hb.size
  clear hb h4 c1 c2 c3 c4 hB5 hz5
  obtain ⟨c1, c2, c3, c4⟩ := gbox_cells hB6
  go_wp2_with fail
  refine (h5 _).mono ?_
  rintro e w7 ⟨rfl, hb⟩
  have hB7 := hB6.trans (hb.mono hz6)
  have hz7 : w.heap.size + 1 ≤ w7.heap.size := Nat.le_trans hz6 hb.size
  clear hb h5 c1 c2 c3 c4 hB6 hz6
  obtain ⟨c1, c2, c3, c4⟩ := gbox_cells hB7
  go_wp2_with fail
  refine (h6 _).mono ?_
  rintro e w8 ⟨rfl, hb⟩
  have hB8 := hb0.trans ((hB7.trans (hb.mono hz7)).mono (by omega))
  clear hb h6 c1 c2 c3 c4 hB7 hz7 hb0
  go_wp2
  go_ret
  exact ⟨rfl, hB8⟩

end Go.Proofs.Ytbnmfajmiglneaa

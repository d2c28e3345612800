/-
  Bytes are read as a frame (Get), whatever they are; a frame's bytes that are cut short, or of which one is another one.
-/
import Derived.Test.YtipegdfjpmlcbaaCFI
namespace Go.Proofs.Ytipegdfjpmlcbaa
open Go.RowKit
set_option linter.unusedVariables false
set_option linter.unusedSimpArgs false

theorem fget_any (a : Option Addr) (n c : Nat) (xs : List UInt8) (w : World) (hrd : Rd w a n c xs) :
    Calls Try.prog 12 #[.slice a n c] w fun e w' => GetR xs w e w' := by
  by_cases hn : n < 27
  · exact get_0 a n c xs w hrd hn
  · exact get_1 a n c xs w hrd hn

theorem sumB_length (x : FR) : (sumB x).length = 23 + (bodyP x).length := by simp [sumB, headB_length]
theorem frame_take (x : FR) : (frameB x).take (23 + (bodyP x).length) = sumB x := by unfold frameB; rw [← sumB_length]; exact List.take_left
theorem frame_drop (x : FR) : (frameB x).drop (23 + (bodyP x).length) = enc (addN 0 (sumB x)) 4 := by unfold frameB; rw [← sumB_length]; exact List.drop_left

/-- One byte is another one: no frame. -/
theorem frame_set (x : FR) (i : Nat) (u : UInt8) (hi : i < (frameB x).length) (hne : (frameB x)[i] ≠ u) : (getP ((frameB x).set i u)).2 ≠ 0 := by
  intro h0
  obtain ⟨y, hy⟩ : ∃ y, getP ((frameB x).set i u) = (y, 0) := ⟨_, Prod.ext rfl h0⟩
  obtain ⟨_, hb, _⟩ := get_back _ _ hy
  have l1 := frameB_length x
  have l2 := frameB_length y
  have l3 : (frameB y).length = (frameB x).length := by rw [hb]; simp
  have lb : (bodyP y).length = (bodyP x).length := by omega
  have ty := frame_take y
  have dy := frame_drop y
  rw [lb, hb] at ty dy
  by_cases hlt : i < 23 + (bodyP x).length
  · rw [List.take_set, frame_take] at ty
    rw [List.drop_set_of_lt hlt, frame_drop] at dy
    have hs : addN 0 (sumB x) = addN 0 (sumB y) := by
      have := congrArg numN dy
      rw [numN_enc (addN_lt _ _), numN_enc (addN_lt _ _)] at this
      exact this
    have hli : i < (sumB x).length := by rw [sumB_length]; exact hlt
    refine addN_set 0 (sumB x) i hli u ?_ (by rw [ty]; exact hs.symm)
    intro h
    apply hne
    rw [← h]
    simp only [frameB]
    rw [List.getElem_append_left hli]
  · rw [List.take_set, frame_take, List.set_eq_of_length_le (by rw [sumB_length]; omega)] at ty
    have he : frameB y = frameB x := by unfold frameB; rw [← ty]
    rw [hb] at he
    apply hne
    have := congrArg (fun l => l[i]?) he
    simp only [List.getElem?_set_self hi, List.getElem?_eq_getElem hi, Option.some.injEq] at this
    exact this.symm
/-- Cut short: no frame. -/
theorem frame_cut (x : FR) (hg : good x) (hf : x.fit) (n : Nat) (h : n < (frameB x).length) : (getP ((frameB x).take n)).2 = 7 := by
  have l1 := frameB_length x
  have ll : ((frameB x).take n).length = n := by rw [List.length_take]; omega
  by_cases hn : n < 27
  · unfold getP
    rw [if_pos (by omega)]
  · have hl : lenOf ((frameB x).take n) = (bodyP x).length := by
      have h2 : lenOf (frameB x) = (bodyP x).length := by
        have hfb : frameB x = headB x ++ (bodyP x ++ enc (addN 0 (sumB x)) 4) := by simp [frameB, sumB]
        rw [hfb]
        exact (head_frame x hg hf _).2
      rw [← h2]
      unfold lenOf
      rw [List.drop_take, List.take_take, Nat.min_eq_left (by omega)]
    unfold getP
    rw [if_neg (by omega), if_pos (by omega)]

/-- The fixed calls. -/
def fk1 : FR := ⟨7, 3, 2, 1, 0, 0, 0, 0, 0, [], []⟩
def fk2 : FR := ⟨7, 0, 0, 0, 0, 0, 0, 1, 0, [], []⟩
theorem good_fk1 : good fk1 := by decide
theorem bad_fk2 : ¬ good fk2 := by decide
theorem put_fk1 : putP fk1 = (frameB fk1, 0) := by unfold putP; rw [if_pos good_fk1]
theorem put_fk2 : (putP fk2).2 = 6 := by unfold putP; rw [if_neg bad_fk2]
theorem len_fk1 : (frameB fk1).length = 27 := by rw [frameB_length]; rfl
theorem get_fk1 : getP (frameB fk1) = (fk1, 0) := get_frame fk1 good_fk1 ⟨by decide, by decide, by decide⟩

/-- Get, with what it gives named. -/
theorem fget_ok (a : Option Addr) (n c : Nat) (xs : List UInt8) (w : World) (hrd : Rd w a n c xs) (x : FR) (k : Int) (h : getP xs = (x, k)) :
    Calls Try.prog 12 #[.slice a n c] w fun e w' => ∃ a' m' c' D, D = frC x (.slice a' m' c') ∧ e = .returned (.tuple #[.agg D, .int .i64 k]) ∧ Tx w' a' m' c' x.list ∧ Below w.heap.size w w' :=
  (fget_any a n c xs w hrd).mono fun e w' hh => by
    obtain ⟨V, he, ⟨a', m', c', rfl, ht⟩, hb⟩ := hh
    rw [h] at he ht
    exact ⟨a', m', c', _, rfl, he, ht, hb⟩
/-- A struct's place, made and written. -/
theorem new_row (w : World) (D : Array Value) : (w.alloc (.cells frZ 26)).heap[w.heap.size]? = some (.cells frZ 26 (0, 0)) ∧ ((w.alloc (.cells frZ 26)).setRow w.heap.size D).heap[w.heap.size]? = some (.cells D 26 (0, 0)) ∧ Below w.heap.size w ((w.alloc (.cells frZ 26)).setRow w.heap.size D) :=
  ⟨heap_alloc_new _ _, setRow_heap _ _ _ D _ _ (heap_alloc_new _ _), below_setRow ((Below.refl _ _).alloc (Nat.le_refl _) _) (Nat.le_refl _) D⟩
@[reducible] def ck1 : Array Value := #[.int .i64 7, .int .u64 3, .int .u64 2, .int .u32 1, .int .u32 0, .int .i64 0, .int .i64 0, .int .i64 0, .int .i64 0, .string ⟨#[]⟩, .slice none 0 0]
@[reducible] def ck2 : Array Value := #[.int .i64 7, .int .u64 0, .int .u64 0, .int .u32 0, .int .u32 0, .int .i64 0, .int .i64 0, .int .i64 1, .int .i64 0, .string ⟨#[]⟩, .slice none 0 0]
theorem frc_facts (x : FR) (a : Option Addr) (n c : Nat) : (Try.prog.info? 26).map (·.size) = some (frC x (.slice a n c)).size ∧ frZ.size = (frC x (.slice a n c)).size ∧ (frC x (.slice a n c)).all (·.oneCell') = true :=
  ⟨by kernel_rfl, rfl, frC_one _ _ _ _⟩

set_option maxRecDepth 20000 in
set_option maxHeartbeats 1000000 in
theorem known21_any (w : World) : Calls Try.prog 7 #[] w fun e w' => e = .returned (.bool true) ∧ Below w.heap.size w w' := by
  obtain ⟨W0, hW0⟩ : ∃ x, x = w.alloc (.cells ck1 26) := ⟨_, rfl⟩
  have hb0 : Below w.heap.size w W0 := by rw [hW0]; exact (Below.refl _ _).alloc (Nat.le_refl _) _
  have hbx0 : W0.heap[w.heap.size]? = some (.cells ck1 26 (0, 0)) := by rw [hW0]; exact heap_alloc_new _ _
  have hlt0 : w.heap.size < W0.heap.size := lt_of_block hbx0
  have hic : (Try.prog.info? 26).map (·.size) = some ck1.size := by kernel_rfl
  have hp1 := fput_any fk1 none 0 0 W0 (tx_nil _) (by decide) (by decide) (by decide) (by decide) (by decide) (by simp [fk1])
  rw [put_fk1, show frV fk1 (.slice none 0 0) = .agg ck1 from rfl] at hp1
  have hp2 := fun W => fput_any fk2 none 0 0 W (tx_nil _) (by decide) (by decide) (by decide) (by decide) (by decide) (by simp [fk2])
  simp only [put_fk2, show frV fk2 (.slice none 0 0) = .agg ck2 from rfl] at hp2
  have HKB := Lib.hid (show ∀ w', Below W0.heap.size W0 w' → w'.heap[w.heap.size]? = some (.cells ck1 26 (0, 0)) from fun w' hb => (hb.block _ hlt0).trans hbx0)
  have HW0 := Lib.hid hW0
  have HB0 := Lib.hid hb0
  have HP1 := Lib.hid hp1
  have HP2 := Lib.hid hp2
  unfold ck1 at HW0 HP1
  unfold ck2 at HP2
  clear hW0 hp1 hp2 hb0 hbx0 hlt0
  go_enter Try.func7, Try.ntmps7
  go_wp2_with fail
  rw [← HW0.out]
  with_reducible refine HP1.out.mono ?_
  rintro e w1 ⟨a1, m1, c1, rfl, hrd1, hb1⟩
  obtain rfl : m1 = 27 := hrd1.len.symm.trans len_fk1
  have HG1 := Lib.hid (fget_ok a1 27 c1 _ w1 hrd1 fk1 0 get_fk1)
  have HB1 := Lib.hid hb1
  clear hrd1 hb1
  go_wp2_with fail
  refine HG1.out.mono ?_
  rintro e w2 ⟨a2, n2, c2, D, hD, rfl, ht2, hb2⟩
  have HB2 := Lib.hid (HB1.out.trans (hb2.mono HB1.out.size))
  obtain ⟨hn2, hn3, hb3⟩ := new_row w2 D
  obtain ⟨q1, q2, q3⟩ := frc_facts fk1 a2 n2 c2
  rw [← hD] at q1 q2 q3
  have Q1 := Lib.hid q1
  have Q2 := Lib.hid q2
  have Q3 := Lib.hid q3
  have HFD := Lib.hid (show frV fk1 (.slice a2 n2 c2) = .agg D from by rw [hD]; rfl)
  have HT2 := Lib.hid (ht2.later hb3)
  have HN3 := Lib.hid hn3
  have HS3 := Lib.hid (show w2.heap.size < ((w2.alloc (.cells frZ 26)).setRow w2.heap.size D).heap.size from lt_of_block hn3)
  have HB3 := Lib.hid (HB2.out.trans (hb3.mono HB2.out.size))
  clear hD ht2 hb2 hb3 hn3 q1 q2 q3
  go_wp2_with (with_reducible refine wpList_store_row (o := ⟨none, _, _, _, _, _⟩) rfl 26 (.tmp 4) (.tmp 17) rfl w2.heap.size D rfl rfl 26 frZ hn2 Q1.out Q2.out Q3.out ?_)
  refine (HP2.out _).mono ?_
  rintro e w4 ⟨a4, m4, c4, rfl, _, hb4⟩
  have HB4 := Lib.hid (HB3.out.trans (hb4.mono HB3.out.size))
  have hx4 := HKB.out _ HB4.out
  have hn4 := (hb4.block _ HS3.out).trans HN3.out
  have hal := alike_any fk1 fk1 none a2 0 n2 0 c2 w4 (tx_nil _) (HT2.out.later hb4)
  rw [HFD.out, show frV fk1 (.slice none 0 0) = .agg ck1 from rfl, show decide (fk1 = fk1) = true from by decide] at hal
  have HAL := Lib.hid hal
  clear hal hb4 hn2
  go_wp2_with (first
    | (with_reducible refine wpList_load_row_w (o := ⟨some 32, _, _, _, _, _⟩) (by simp [Region.wanted, yielded, Act.put]) 26 (.tmp 1) rfl w.heap.size rfl 26 ck1 (0, 0) _ hx4 Try.underlying26 rfl hic ?_)
    | (with_reducible refine wpList_load_row_w (o := ⟨some 33, _, _, _, _, _⟩) (by simp [Region.wanted, yielded, Act.put]) 26 (.tmp 4) rfl w2.heap.size rfl 26 D (0, 0) _ hn4 Try.underlying26 rfl Q1.out ?_))
  refine HAL.out.mono ?_
  rintro e w5 ⟨rfl, hb5⟩
  have HB5 := Lib.hid (HB4.out.trans (hb5.mono HB4.out.size))
  have hx5 := HKB.out _ HB5.out
  have hal := alike_any fk1 fr0 none none 0 0 0 0 w5 (tx_nil _) (tx_nil _)
  rw [show frV fk1 (.slice none 0 0) = .agg ck1 from rfl, show frV fr0 (.slice none 0 0) = .agg frZ from rfl, show decide (fk1 = fr0) = false from by decide] at hal
  have HA2 := Lib.hid hal
  unfold frZ at HA2
  clear hal hb5 hx4 hn4
  go_wp2_with (with_reducible refine wpList_load_row_w (o := ⟨some 45, _, _, _, _, _⟩) (by simp [Region.wanted, yielded, Act.put]) 26 (.tmp 1) rfl w.heap.size rfl 26 ck1 (0, 0) _ hx5 Try.underlying26 rfl hic ?_)
  refine HA2.out.mono ?_
  rintro e w6 ⟨rfl, hb6⟩
  have HB6 := Lib.hid (HB5.out.trans (hb6.mono HB5.out.size))
  clear hb6
  go_wp2
  go_ret
  exact ⟨rfl, HB0.out.trans (HB6.out.mono HB0.out.size)⟩
end Go.Proofs.Ytipegdfjpmlcbaa


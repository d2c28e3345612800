/-
  slices.Delete of one packet; the program's remove, Take, Lose.
-/
import Derived.Test.YthbfeflijlcboaaC1
import Derived.Lib.SliceRun
import Derived.Laws.IdiomCopy
import Derived.Shelf.RegionOpenPlain
namespace Go.Proofs.Ythbfeflijlcboaa
open Go.RowKit
set_option linter.unusedVariables false
set_option linter.unusedSimpArgs false

def layA (cs : Array Value) (o : Nat) : List Value → Array Value
  | [] => cs
  | v :: r => layA (cs.setIfInBounds o v) (o + 1) r
theorem layA_list : ∀ (vs : List Value) (cs : Array Value) (o : Nat), o + vs.length ≤ cs.size → (layA cs o vs).toList = cs.toList.take o ++ vs ++ cs.toList.drop (o + vs.length)
  | [], cs, o, h => by simp [layA]
  | v :: r, cs, o, h => by
    simp only [List.length_cons] at h
    rw [layA, layA_list r _ _ (by simp; omega)]
    simp only [Array.toList_setIfInBounds, List.length_cons]
    have h1 : o < cs.toList.length := by simp; omega
    rw [List.take_set, List.drop_set_of_lt (by omega), List.take_add_one, List.getElem?_eq_getElem h1]
    simp only [Option.toList, List.append_assoc, List.cons_append, List.nil_append]
    rw [List.set_append_right _ _ (by simp; omega)]
    simp [show min o cs.size = o from by omega]
    rw [show o + 1 + r.length = o + (r.length + 1) from by omega]
theorem layA_size : ∀ (vs : List Value) (cs : Array Value) (o : Nat), (layA cs o vs).size = cs.size
  | [], cs, o => rfl
  | v :: r, cs, o => by rw [layA, layA_size r]; simp
theorem blk_setCells {b : Nat} {t : TypeId} : ∀ (vs : List Value) (o : Nat) {w : World} {cs : Array Value}, w.heap[b]? = some (.cells cs t (0, 0)) → (w.setCells b o vs).heap[b]? = some (.cells (layA cs o vs) t (0, 0))
  | [], o, w, cs, h => h
  | v :: r, o, w, cs, h => blk_setCells r (o + 1) (blk_setCell h)
theorem gb_setCells {w : World} {b : Nat} : ∀ (vs : List Value) (o : Nat) {w' : World}, w.grownBy w' (some b) → w.grownBy (w'.setCells b o vs) (some b)
  | [], o, w', h => h
  | v :: r, o, w', h => gb_setCells r (o + 1) (gb_setCell h)

theorem run_clear_pk (w : World) (ty : TypeId) (b o c : Nat) (hc : ∀ j, j < 2 → (w.cell? ⟨b, o + j, none⟩).isSome = true) (hf : ∀ j, j < 2 → w.frozen? ⟨b, o + j, none⟩ = false) :
    (Builtin.clear_ #[28] ty #[.slice (some ⟨b, o, none⟩) 1 c]).run Try.prog w = .ok (.tuple #[]) (w.setCells b o [.int .i64 0, .string noBytes]) := by
  obtain ⟨i0, hi, hz0, hz1, hz2⟩ := info_parts Try.infoPk
  have hv : ∀ w, (zeroValue 41).run Try.prog w = .ok (.agg #[.int .i64 0, .string noBytes]) w := fun w => by kernel_rfl
  have hzc : (Builtin.zeroCells (Value.agg #[.int .i64 0, .string noBytes]).cells 1).toList = [.int .i64 0, .string noBytes] := by kernel_rfl
  have hst := run_storeCells_cells (P := Try.prog) b o [.int .i64 0, .string noBytes] 0 w (by simpa using hc) (by simpa using hf) (by intro v hv'; simp at hv'; rcases hv' with rfl | rfl <;> rfl)
  simp only [Nat.add_zero] at hst
  simp [Builtin.clear_, run_underlying Try.underlying28, hv, hzc, hst]

theorem offL_puts (L : List (Int × ByteArray)) (i : Nat) : puts (offL L i) = (puts L).take (i * 2) ++ (puts L).drop ((i + 1) * 2) := by
  have h1 : ∀ (L : List (Int × ByteArray)) (i : Nat), puts (L.take i) = (puts L).take (i * 2) := by
    intro L
    induction L with
    | nil => intro i; simp [puts]
    | cons x L ih =>
      intro i
      cases i with
      | zero => simp [puts]
      | succ i =>
        have := ih i
        simp only [puts, List.take_succ_cons, List.flatMap_cons] at this ⊢
        rw [show (i + 1) * 2 = i * 2 + 2 from by omega]
        simp [this]
  have h2 : ∀ (L : List (Int × ByteArray)) (i : Nat), puts (L.drop i) = (puts L).drop (i * 2) := by
    intro L
    induction L with
    | nil => intro i; simp [puts]
    | cons x L ih =>
      intro i
      cases i with
      | zero => simp [puts]
      | succ i =>
        have := ih i
        simp only [puts, List.drop_succ_cons, List.flatMap_cons] at this ⊢
        rw [show (i + 1) * 2 = i * 2 + 2 from by omega]
        simp [this]
  rw [offL, puts_append, h1, h2]

set_option maxRecDepth 20000 in
set_option maxHeartbeats 2000000 in
theorem delete_any (B g n c i : Nat) (L : List (Int × ByteArray)) (w : World) (h : w.ownsRow B 41 2 (.slice (some ⟨g, 0, none⟩) n c) n (puts L)) (hi : i < n) :
    Calls Try.prog 35 #[.slice (some ⟨g, 0, none⟩) n c, .int .i64 (i : Int), .int .i64 ((i : Int) + 1)] w fun e w' => e = .returned (.slice (some ⟨g, 0, none⟩) (n - 1) c) ∧ w'.ownsRow B 41 2 (.slice (some ⟨g, 0, none⟩) (n - 1) c) (n - 1) (puts (offL L i)) ∧ w.grownBy w' (some g) := by
  obtain ⟨h1, h2⟩ := h
  rcases h2 with ⟨h2, _⟩ | ⟨g', cap', cur, hv, hB, hh, hle, hm, hcz, htk⟩
  · cases h2
  simp only [Value.slice.injEq, Option.some.injEq, Addr.mk.injEq] at hv
  obtain ⟨⟨rfl, -, -⟩, -, rfl⟩ := hv
  have hm' : (c : Int) ≤ 9223372036854775807 := by unfold maxLen at hm; omega
  have hLn : L.length = n := by rw [puts_length] at h1; omega
  obtain ⟨i0, hi0, hz0, hz1, hz2⟩ := info_parts Try.infoPk
  obtain ⟨news, hnews⟩ : ∃ news, news = (puts L).drop ((i + 1) * 2) := ⟨_, rfl⟩
  have hlen : news.length = (n - (i + 1)) * 2 := by rw [hnews, List.length_drop, h1]; omega
  have hcell : ∀ (j : Nat) (u : Value), (puts L)[j]? = some u → w.drew.cell? ⟨g, j, none⟩ = some u := fun j u hj => by
    rw [cell_of_blk (w := w.drew) hh]
    rw [← htk, List.getElem?_take] at hj
    split at hj
    · simpa using hj
    · cases hj
  obtain ⟨A, hA, hsrc⟩ : ∃ A : Addr, (if c = i + 1 then some (⟨g, 0, none⟩ : Addr) else some ⟨g, (i + 1) * 2, none⟩) = some A ∧ Hid (∀ t u, news[t]? = some u → w.drew.cell? (A.add t) = some u) := by
    by_cases hc : c = i + 1
    · refine ⟨⟨g, 0, none⟩, by simp [hc], Lib.hid fun t u hu => ?_⟩
      have h0 : news.length = 0 := by rw [hlen]; omega
      rw [List.length_eq_zero_iff.1 h0] at hu
      simp at hu
    · refine ⟨⟨g, (i + 1) * 2, none⟩, by simp [hc], Lib.hid fun t u hu => ?_⟩
      rw [Addr.add_none]
      apply hcell
      rw [hnews, List.getElem?_drop] at hu
      exact hu
  have s1 := Lib.hid hlen
  have s2 : Hid (∀ u ∈ news, u.oneCell' = true) := Lib.hid fun u hu => by rw [hnews] at hu; exact puts_one L u (List.mem_of_mem_drop hu)
  have s3 : Hid (∀ t, t < news.length → (w.drew.cell? ⟨g, 0 + i * 2 + t, none⟩).isSome = true ∧ w.drew.frozen? ⟨g, 0 + i * 2 + t, none⟩ = false) := Lib.hid fun t ht => by
    rw [hlen] at ht
    refine ⟨?_, free_of_blk (w := w.drew) hh _⟩
    rw [cell_of_blk (w := w.drew) hh, Array.getElem?_eq_getElem (by omega)]
    rfl
  obtain ⟨W1, hW1⟩ : ∃ W1, W1 = w.drew.setCells g (0 + i * 2) news := ⟨_, rfl⟩
  have hb1 : W1.heap[g]? = some (.cells (layA cur (0 + i * 2) news) 41 (0, 0)) := by rw [hW1]; exact blk_setCells news _ (w := w.drew) hh
  have hg1 : w.grownBy W1 (some g) := by rw [hW1]; exact gb_setCells news _ (gb_drew (World.grownBy.refl _ _))
  have hcl : ∀ ty, (Builtin.clear_ #[28] ty #[.slice (some ⟨g, (i + (n - (i + 1))) * 2, none⟩) (n - (i + (n - (i + 1)))) (c - (i + (n - (i + 1))))]).run Try.prog W1 = .ok (.tuple #[]) (W1.setCells g ((i + (n - (i + 1))) * 2) [.int .i64 0, .string noBytes]) := fun ty => by
    have e1 : n - (i + (n - (i + 1))) = 1 := by omega
    rw [e1]
    refine run_clear_pk W1 ty g _ _ (fun j hj => ?_) (fun j hj => free_of_blk hb1 _)
    rw [cell_of_blk hb1, Array.getElem?_eq_getElem (by rw [layA_size]; omega)]
    rfl
  have HW1 := Lib.hid (And.intro hW1 (And.intro hb1 hg1))
  have HH := Lib.hid (And.intro hh (And.intro hcz (And.intro htk (And.intro h1 hnews))))
  have mixed : Try.prog.follows Departure.mixedOrders = true := by kernel_rfl
  have b1 : (0 : Int) ≤ (i : Int) + 1 := by omega
  have b2 : (i : Int) + 1 ≤ (n : Int) := by omega
  have hic : i ≤ c := by omega
  have hjc : i + 1 ≤ c := by omega
  clear hW1 hb1 hg1 hh hcz htk h1 hnews hcell hlen hLn
  go_enter Try.func35, Try.ntmps35
  go_wp2_with fail
  go_region_law_o (refine step_append_room rfl (.tmp 22) (.tmp 25) 28 rfl 41 i0 2 Try.underlying28 hi0 hz1 g 0 i c (by simp [Act.eval, Act.put]) A (n - (i + 1)) (c - (i + 1)) news (by simp [Act.eval, Act.put]) s1.out hsrc.out s2.out (by omega) s3.out ?_; rw [← HW1.out.1])
  go_wp2
  go_ret
  obtain ⟨hh, hcz, htk, h1, hnews⟩ := HH.out
  obtain ⟨hW1, hb1, hg1⟩ := HW1.out
  have hlen := s1.out
  have e1 : i + (n - (i + 1)) = n - 1 := by omega
  rw [e1]
  refine ⟨rfl, ⟨?_, .inr ⟨g, c, _, rfl, hB, blk_setCells _ _ hb1, by omega, hm, ?_, ?_⟩⟩, gb_setCells _ _ hg1⟩
  · rw [offL_puts]
    simp only [List.length_append, List.length_take, List.length_drop, h1]
    omega
  · rw [layA_size, layA_size]; exact hcz
  · have f1 : 0 + i * 2 + news.length ≤ cur.size := by omega
    have f2 : (n - 1) * 2 + 2 ≤ (layA cur (0 + i * 2) news).size := by rw [layA_size]; omega
    rw [layA_list _ _ _ f2, layA_list _ _ _ f1, Nat.zero_add, offL_puts, ← hnews]
    have hcl2 : cur.toList.length = c * 2 := by simpa using hcz
    have e3 : (puts L).take (i * 2) = cur.toList.take (i * 2) := by rw [← htk, List.take_take, Nat.min_eq_left (by omega)]
    rw [e3]
    have e4 : (cur.toList.take (i * 2) ++ news).length = (n - 1) * 2 := by simp only [List.length_append, List.length_take, hlen]; omega
    rw [List.append_assoc, List.take_append_of_le_length (by rw [List.length_take, List.length_append, e4]; omega), List.take_take, Nat.min_self, List.take_append_of_le_length (by omega), ← e4, List.take_length]

/-- What an act leaves of a net, its slice told. -/
def NPv (ty : TypeId) (F : Value → NS → Array Value) (w : World) (B p : Nat) (v v' : Value) (S' : NS) (w' : World) : Prop := Nt ty F w' B p v' S' ∧ Fr (ft p v) w w' ∧ ∀ k, ft p v' k → ft p v k ∨ w.heap.size ≤ k
theorem NPv.np {ty : TypeId} {F : Value → NS → Array Value} {w w' : World} {B p : Nat} {v v' : Value} {S' : NS} (h : NPv ty F w B p v v' S' w') : NP ty F w B p v S' w' := ⟨v', h⟩
theorem NPv.set {ty : TypeId} {F : Value → NS → Array Value} {w w' : World} {B p r i : Nat} {v v' u : Value} {S' : NS} (h : NPv ty F w B p v v' S' w') (hr : w.heap.size ≤ r) (hn : ¬ ft p v' r) : NPv ty F w B p v v' S' (w'.setCell ⟨r, i, none⟩ u) :=
  ⟨h.1.kept fun k hk => Below.heap_setCell _ _ _ _ (fun e => hn (by simp at e; rw [← e]; exact hk)), h.2.1.set (.inr hr), h.2.2⟩
theorem NPv.row {w w1 : World} {B p g : Nat} {v v' : Value} {S S' : NS} (h : PN w B p v S) (hv : v.ownBlock = some g) (hv' : v'.ownBlock = some g) (how : w1.ownsRow B 41 2 v' S'.L.length (puts S'.L)) (hg : w.grownBy w1 (some g)) (hc : (S'.sent, S'.came, S'.lost) = (S.sent, S.came, S.lost)) :
    NPv 53 pF w B p v v' S' (w1.setCell ⟨p, 3, none⟩ v') := by
  have hne : v.ownBlock ≠ some p := Nt.ne h (by decide)
  have hgp : g ≠ p := fun e => hne (by rw [hv, e])
  have hb := (hg.block p (Nt.lt h) (fun e => hgp (by simpa using e.symm))).trans (Nt.blk h)
  simp only [Prod.mk.injEq] at hc
  obtain ⟨e1, e2, e3⟩ := hc
  refine ⟨⟨?_, Nt.low h, ?_⟩, ?_, ?_⟩
  · refine (blk_setCell hb).trans ?_
    simp [pF, e1, e2, e3]
  · exact owns_set_other how (by rw [hv']; simpa using hgp) _
  · exact Fr.set (Fr.grown (Fr.refl _ _) hg (fun k e => by cases e; exact .inl (.inr hv))) (.inl (.inl rfl))
  · rintro k (rfl | e)
    · exact .inl (.inl rfl)
    · exact .inl (.inr (by rw [hv, ← e, hv']))
theorem npv_below {ty : TypeId} {F : Value → NS → Array Value} {w w1 w2 : World} {B p : Nat} {v v' : Value} {S2 : NS} (hb : Below w.heap.size w w1) (h2 : NPv ty F w1 B p v v' S2 w2) : NPv ty F w B p v v' S2 w2 := by
  obtain ⟨hn, hf2, ht2⟩ := h2
  refine ⟨hn, (Fr.of_below hb).trans hf2 (fun i hi => .inl hi), fun k hk => ?_⟩
  rcases ht2 k hk with h | h
  · exact .inl h
  · have := hb.size; exact .inr (by omega)

theorem np_trans {ty : TypeId} {F : Value → NS → Array Value} {w w1 w2 : World} {B p : Nat} {v v1 : Value} {S2 : NS} (hl : ∀ k, ft p v k → k < w.heap.size) (hf : Fr (ft p v) w w1) (ht : ∀ k, ft p v1 k → ft p v k ∨ w.heap.size ≤ k) (h2 : NP ty F w1 B p v1 S2 w2) : NP ty F w B p v S2 w2 := by
  obtain ⟨v2, hn, hf2, ht2⟩ := h2
  refine ⟨v2, hn, hf.trans hf2 ht, fun k hk => ?_⟩
  rcases ht2 k hk with h | h
  · exact ht k h
  · have := hf.size; exact .inr (by omega)
theorem np_below {ty : TypeId} {F : Value → NS → Array Value} {w w1 w2 : World} {B p : Nat} {v : Value} {S2 : NS} (hb : Below w.heap.size w w1) (h2 : NP ty F w1 B p v S2 w2) : NP ty F w B p v S2 w2 := by
  obtain ⟨v2, hn, hf2, ht2⟩ := h2
  refine ⟨v2, hn, (Fr.of_below hb).trans hf2 (fun i hi => .inl hi), fun k hk => ?_⟩
  rcases ht2 k hk with h | h
  · exact .inl h
  · have := hb.size; exact .inr (by omega)

set_option maxRecDepth 20000 in
set_option maxHeartbeats 1000000 in
theorem remove_any (B p : Nat) (v : Value) (S : NS) (i : Int) (w : World) (h : PN w B p v S) (hl : S.L.length ≤ 60) :
    Calls Try.prog 31 #[.pointer (some ⟨p, 0, none⟩), .int .i64 i] w fun e w' => e = .returned (pkE (S.at' i)) ∧ NP 53 pF w B p v (S.off i) w' := by
  have hal : Below w.heap.size w (w.alloc (.cells #[.int .i64 0, .string ⟨#[]⟩] 41)) := (Below.refl _ _).alloc (Nat.le_refl _) _
  have h0 : PN _ B p v S := Nt.below h hal
  have hat := at_any B p v S i _ h0
  have HAT := Lib.hid hat
  have HAL := Lib.hid hal
  have H0 := Lib.hid h0
  have H := Lib.hid h
  clear hat hal h0 h
  by_cases hs : S.has i
  · obtain ⟨k, rfl, hk⟩ := has_nat hs
    have ha : S.at' (k : Int) = (wAt S.L k, 0) := by unfold NS.at'; rw [if_pos hs]; rfl
    have ho : S.off (k : Int) = ⟨offL S.L k, S.sent, S.came, S.lost⟩ := by unfold NS.off; rw [if_pos hs]; rfl
    rw [ha] at HAT ⊢
    rw [ho]
    generalize wAt S.L k = W at *
    obtain ⟨x, s⟩ := W
    unfold pkE pkV at HAT
    have hko := offL_length hk
    clear hs ha ho
    go_enter Try.func31, Try.ntmps31
    go_wp2_with fail
    refine HAT.out.mono ?_
    rintro e w1 ⟨rfl, hb1⟩
    have hb1w := HAL.out.trans (hb1.mono HAL.out.size)
    have hp1 : PN w1 B p v S := Nt.below H0.out hb1
    have hal2 : Below w1.heap.size w1 (w1.alloc (.cells #[.int .i64 x, .string s] 41)) := (Below.refl _ _).alloc (Nat.le_refl _) _
    have hp2 : PN _ B p v S := Nt.below hp1 hal2
    have hq := pk_new w1 x s
    have hr0 := ((hb1.trans (hal2.mono hb1.size)).cell (p := ⟨w.heap.size, 0, none⟩) (by simp)).trans (pk_new w 0 ⟨#[]⟩).1
    have hr1 := ((hb1.trans (hal2.mono hb1.size)).cell (p := ⟨w.heap.size, 1, none⟩) (by simp)).trans (pk_new w 0 ⟨#[]⟩).2
    have hrb := ((hb1.trans (hal2.mono hb1.size)).block w.heap.size (by simp)).trans (heap_alloc_new w (.cells #[.int .i64 0, .string ⟨#[]⟩] 41))
    have hqb := heap_alloc_new w1 (.cells #[.int .i64 x, .string s] 41)
    have hb2 : Below w.heap.size w _ := hb1w.trans (hal2.mono hb1w.size)
    have hs1 : w.heap.size < w1.heap.size := by have := hb1.size; simp at this; omega
    obtain ⟨w2, hw2⟩ : ∃ w2, w2 = w1.alloc (.cells #[.int .i64 x, .string s] 41) := ⟨_, rfl⟩
    rw [← hw2] at hp2 hq hr0 hr1 hrb hqb hb2
    obtain ⟨c0, c1, c2, c3, hf⟩ := hp2.cells
    obtain ⟨a, c, rfl, hle, hcm, hg⟩ := owns_shape1 (Nt.own hp2)
    obtain ⟨g, rfl, hgo, _, hgl⟩ := hg (by omega)
    have hdel := delete_any B g S.L.length c k S.L w2 (Nt.own hp2) hk
    have hgw : g < w.heap.size := ((Nt.ft_low H.out) g (.inr hgo)).2
    have hpw : p < w.heap.size := ((Nt.ft_low H.out) p (.inl rfl)).2
    have HDEL := Lib.hid hdel
    have wk : IntKind.i64.wrap ((k : Int) + 1) = (k : Int) + 1 := IntWalk.i64_in _ (by omega)
    have HX := Lib.hid (And.intro hp2 (And.intro hq (And.intro hr0 (And.intro hr1 (And.intro hrb (And.intro hqb (And.intro hb2 (And.intro hs1 (And.intro hgw (And.intro hpw (And.intro hgo hk)))))))))))
    have c3' := c3
    rw [hw2] at c3'
    have HW2 := Lib.hid hw2
    clear hw2 c3 c0 c1 c2 hp2 hq hr0 hr1 hrb hqb hb2 hs1 hgw hpw hdel hg hp1 hb1 hb1w hal2
    go_wp2_with fail
    rw [← HW2.out]
    refine HDEL.out.mono ?_
    rintro e w3 ⟨rfl, how, hg3⟩
    obtain ⟨hp2, hq, hr0, hr1, hrb, hqb, hb2, hs1, hgw, hpw, hgo, hk⟩ := HX.out
    have hn3 : ∀ b, b < w2.heap.size → b ≠ g → w3.heap[b]? = w2.heap[b]? := fun b h1 h2 => hg3.block b h1 (fun e => h2 (by simpa using e))
    have hb3p := (hn3 p (Nt.lt hp2) (fun e => Nt.ne hp2 (by decide) (by rw [e]; exact hgo))).trans (Nt.blk hp2)
    have hs2 : w2.heap.size = w1.heap.size + 1 := by rw [HW2.out]; simp
    have hb3r := (hn3 w.heap.size (by omega) (by omega)).trans hrb
    have hb3q := (hn3 w1.heap.size (by omega) (by omega)).trans hqb
    have hv' : (Value.slice (some ⟨g, 0, none⟩) (S.L.length - 1) c).ownBlock = some g := rfl
    rw [← hko] at how hv'
    have hrow := NPv.row (S' := ⟨offL S.L k, S.sent, S.came, S.lost⟩) hp2 hgo hv' how hg3 rfl
    rw [hko] at hrow
    have f3 : w3.cell? ⟨p, 3, none⟩ = some (.slice (some ⟨g, 0, none⟩) S.L.length c) := by rw [cell_of_blk hb3p]; rfl
    have ff : ∀ i, w3.frozen? ⟨p, i, none⟩ = false := fun i => free_of_blk hb3p i
    obtain ⟨w4, hw4⟩ : ∃ w4, w4 = w3.setCell ⟨p, 3, none⟩ (.slice (some ⟨g, 0, none⟩) (S.L.length - 1) c) := ⟨_, rfl⟩
    have hb4r := (show w4.heap[w.heap.size]? = w3.heap[w.heap.size]? from by rw [hw4, Below.heap_setCell _ _ _ _ (by simp; omega)]).trans hb3r
    have hb4q := (show w4.heap[w1.heap.size]? = w3.heap[w1.heap.size]? from by rw [hw4, Below.heap_setCell _ _ _ _ (by simp; omega)]).trans hb3q
    have q0 : w4.cell? ⟨w1.heap.size, 0, none⟩ = some (.int .i64 x) := by rw [cell_of_blk hb4q]; rfl
    have q1 : w4.cell? ⟨w1.heap.size, 1, none⟩ = some (.string s) := by rw [cell_of_blk hb4q]; rfl
    have r0 : w4.cell? ⟨w.heap.size, 0, none⟩ = some (.int .i64 0) := by rw [cell_of_blk hb4r]; rfl
    have r1 : w4.cell? ⟨w.heap.size, 1, none⟩ = some (.string ⟨#[]⟩) := by rw [cell_of_blk hb4r]; rfl
    have rf : ∀ i, w4.frozen? ⟨w.heap.size, i, none⟩ = false := fun i => free_of_blk hb4r i
    rw [← hw4] at hrow
    have HROW := Lib.hid (((npv_below hb2 hrow).set (i := 0) (u := .int .i64 x) (Nat.le_refl _) (by rintro (e | e); omega; simp [Value.ownBlock] at e; omega)).set (i := 1) (u := .string s) (Nat.le_refl _) (by rintro (e | e); omega; simp [Value.ownBlock] at e; omega))
    rw [hw4] at q0 q1 r0 r1 rf
    have hb5 := blk_setCell (i := 1) (u := .string s) (blk_setCell (i := 0) (u := .int .i64 x) hb4r)
    have z0 : ((w4.setCell ⟨w.heap.size, 0, none⟩ (.int .i64 x)).setCell ⟨w.heap.size, 1, none⟩ (.string s)).cell? ⟨w.heap.size, 0, none⟩ = some (.int .i64 x) := by rw [cell_of_blk hb5]; rfl
    have z1 : ((w4.setCell ⟨w.heap.size, 0, none⟩ (.int .i64 x)).setCell ⟨w.heap.size, 1, none⟩ (.string s)).cell? ⟨w.heap.size, 1, none⟩ = some (.string s) := by rw [cell_of_blk hb5]; rfl
    have HW4 := Lib.hid hw4
    rw [hw4] at z0 z1 HROW
    have HZ := Lib.hid (And.intro z0 z1)
    clear hp2 hq hr0 hr1 hrb hqb hb2 hs1 hgw hpw hgo hk hn3 hb3p hs2 hb3r hb3q hv' hrow hw4 hb4r hb4q hb5 z0 z1 how hg3
    go_wp2
    obtain ⟨z0, z1⟩ := HZ.out
    refine bodyPost_ret (by simp [results, Try.results31, go_sem, z0, z1]; try rfl) rfl ?_
    exact ⟨rfl, HROW.out.np⟩
  · have ha : S.at' i = ((0, noBytes), 3) := by unfold NS.at'; rw [if_neg hs]
    have ho : S.off i = S := by unfold NS.off; rw [if_neg hs]
    rw [ha] at HAT ⊢
    rw [ho]
    unfold pkE pkV noBytes at HAT
    unfold noBytes
    clear hs ha ho
    go_enter Try.func31, Try.ntmps31
    go_wp2_with fail
    refine HAT.out.mono ?_
    rintro e w1 ⟨rfl, hb1⟩
    have hb1w := HAL.out.trans (hb1.mono HAL.out.size)
    have hal2 : Below w1.heap.size w1 (w1.alloc (.cells #[.int .i64 0, .string ⟨#[]⟩] 41)) := (Below.refl _ _).alloc (Nat.le_refl _) _
    have hrb := ((hb1.trans (hal2.mono hb1.size)).block w.heap.size (by simp)).trans (heap_alloc_new w (.cells #[.int .i64 0, .string ⟨#[]⟩] 41))
    obtain ⟨q0, q1⟩ := pk_new w1 0 ⟨#[]⟩
    have hb2 : Below w.heap.size w _ := hb1w.trans (hal2.mono hb1w.size)
    obtain ⟨w4, hw4⟩ : ∃ w4, w4 = w1.alloc (.cells #[.int .i64 0, .string ⟨#[]⟩] 41) := ⟨_, rfl⟩
    rw [← hw4] at hrb hb2
    have r0 : w4.cell? ⟨w.heap.size, 0, none⟩ = some (.int .i64 0) := by rw [cell_of_blk hrb]; rfl
    have r1 : w4.cell? ⟨w.heap.size, 1, none⟩ = some (.string ⟨#[]⟩) := by rw [cell_of_blk hrb]; rfl
    have rf : ∀ i, w4.frozen? ⟨w.heap.size, i, none⟩ = false := fun i => free_of_blk hrb i
    have hb5 := blk_setCell (i := 1) (u := .string ⟨#[]⟩) (blk_setCell (i := 0) (u := .int .i64 0) hrb)
    have z0 : ((w4.setCell ⟨w.heap.size, 0, none⟩ (.int .i64 0)).setCell ⟨w.heap.size, 1, none⟩ (.string ⟨#[]⟩)).cell? ⟨w.heap.size, 0, none⟩ = some (.int .i64 0) := by rw [cell_of_blk hb5]; rfl
    have z1 : ((w4.setCell ⟨w.heap.size, 0, none⟩ (.int .i64 0)).setCell ⟨w.heap.size, 1, none⟩ (.string ⟨#[]⟩)).cell? ⟨w.heap.size, 1, none⟩ = some (.string ⟨#[]⟩) := by rw [cell_of_blk hb5]; rfl
    have hlo : ∀ r, r = w.heap.size → ¬ ft p v r := fun r e hr => by have := (Nt.ft_low H.out r hr).2; omega
    have HROW := Lib.hid ((NPv.set (i := 1) (u := .string ⟨#[]⟩) (NPv.set (i := 0) (u := .int .i64 0) (show NPv 53 pF w B p v v S w4 from ⟨Nt.below H.out hb2, Fr.of_below hb2, fun k hk => .inl hk⟩) (Nat.le_refl _) (hlo _ rfl)) (Nat.le_refl _) (hlo _ rfl)).np)
    rw [hw4] at r0 r1 rf z0 z1 HROW
    have HZ := Lib.hid (And.intro z0 z1)
    clear z0 z1 hb5 hrb hb2 hal2 hb1w hb1 hlo hw4
    go_wp2
    obtain ⟨z0, z1⟩ := HZ.out
    refine bodyPost_ret (by simp [results, Try.results31, go_sem, z0, z1]; try rfl) rfl ?_
    exact ⟨rfl, HROW.out⟩
end Go.Proofs.Ythbfeflijlcboaa


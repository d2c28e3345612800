/-
  Contracts of the document's own disk: Kept, Read, burn, Write, Flush, Fuse, Crash, Up.
-/
import Derived.Test.YtodcdefmoliegaaGreatDoorE6
namespace Go.Proofs.YtodcdefmoliegaaGreatDoor
open Go.RowKit
set_option linter.unusedVariables false
set_option linter.unusedSimpArgs false

/-- The document's own disk at block p. -/
def RD (w : World) (B p : Nat) (v1 v2 : Value) (S : DS) : Prop := Dk w B p 63 [.int .i64 S.left, .bool S.off, .int .i64 (S.did : Int)] v1 v2 S

theorem RD.lt {w B p v1 v2 S} (h : RD w B p v1 v2 S) : p < w.heap.size := Dk.lt h
theorem RD.foot_low {w B p v1 v2 S} (h : RD w B p v1 v2 S) : ∀ k, foot p v1 v2 k → B ≤ k ∧ k < w.heap.size := Dk.foot_low h
theorem RD.kept {w w' : World} {B p v1 v2 S} (h : RD w B p v1 v2 S) (hk : ∀ k, foot p v1 v2 k → w'.heap[k]? = w.heap[k]?) : RD w' B p v1 v2 S := Dk.kept h hk
theorem RD.fr {w w' : World} {A : Nat → Prop} {B p v1 v2 S} (h : RD w B p v1 v2 S) (hf : Fr A w w') (hd : ∀ k, foot p v1 v2 k → ¬ A k) : RD w' B p v1 v2 S := h.kept fun k hk => hf.block k (h.foot_low k hk).2 (hd k hk)
theorem RD.below {w w' : World} {B p v1 v2 S} (h : RD w B p v1 v2 S) (hb : Below w.heap.size w w') : RD w' B p v1 v2 S := h.kept fun k hk => hb.block k (h.foot_low k hk).2

def RP (w : World) (B p : Nat) (v1 v2 : Value) (S : DS) (w' : World) : Prop :=
  ∃ v1' v2', RD w' B p v1' v2' S ∧ Fr (foot p v1 v2) w w' ∧ ∀ k, foot p v1' v2' k → foot p v1 v2 k ∨ w.heap.size ≤ k
theorem RP.same {w : World} {B p v1 v2 S} (h : RD w B p v1 v2 S) : RP w B p v1 v2 S w := ⟨v1, v2, h, Fr.refl _ _, fun k hk => .inl hk⟩

theorem RD.cells {w B p v1 v2 S} (h : RD w B p v1 v2 S) : w.cell? ⟨p, 0, none⟩ = some v1 ∧ w.cell? ⟨p, 1, none⟩ = some v2 ∧ w.cell? ⟨p, 2, none⟩ = some (.int .i64 S.left) ∧
    w.cell? ⟨p, 3, none⟩ = some (.bool S.off) ∧ w.cell? ⟨p, 4, none⟩ = some (.int .i64 (S.did : Int)) ∧ (∀ i, w.frozen? ⟨p, i, none⟩ = false) := by
  have hb := Dk.blk h
  exact ⟨by rw [cell_of_blk hb]; rfl, by rw [cell_of_blk hb]; rfl, by rw [cell_of_blk hb]; rfl, by rw [cell_of_blk hb]; rfl, by rw [cell_of_blk hb]; rfl, fun i => free_of_blk hb i⟩

theorem RD.head {w w' : World} {B p v1 v2 v2' S S'} (h : RD w B p v1 v2 S) (hg : w.grownBy w' (some p)) {cs : Array Value} (hb : w'.heap[p]? = some (.cells cs 63 (0, 0)))
    (hcs : cs = #[v1, v2', .int .i64 S'.left, .bool S'.off, .int .i64 (S'.did : Int)]) (hL : S'.L = S.L) (hW : v2' = v2 ∧ S'.W = S.W ∨ v2' = .slice none 0 0 ∧ S'.W = []) : RD w' B p v1 v2' S' := by
  subst hcs
  exact Dk.head h hg (by decide) (by decide) hb hL hW

theorem RP.head {w w' : World} {B p v1 v2 v2' S'} (h' : RD w' B p v1 v2' S') (hg : w.grownBy w' (some p)) (hv : v2' = v2 ∨ v2' = .slice none 0 0) : RP w B p v1 v2 S' w' := by
  refine ⟨v1, v2', h', fr_head hg, ?_⟩
  rintro k (rfl | e | e)
  · exact .inl (.inl rfl)
  · exact .inl (.inr (.inl e))
  · rcases hv with rfl | rfl
    · exact .inl (.inr (.inr e))
    · simp [Value.ownBlock] at e

set_option maxRecDepth 20000 in
set_option maxHeartbeats 400000 in
theorem rkept_any (B p : Nat) (v1 v2 : Value) (S : DS) (at' : Int) (w : World) (h : RD w B p v1 v2 S) (hn : (S.L.length : Int) ≤ 1200) :
    Calls Tryz.prog 56 #[.pointer (some ⟨p, 0, none⟩), .int .i64 at'] w fun e w' => e = .returned (two (S.kept at')) ∧ w' = w := by
  obtain ⟨c0, c1, c2, c3, c4, hf⟩ := h.cells
  have ho1 : w.ownsRow B 9 1 v1 S.L.length (strs S.L) := Dk.own1 h
  obtain ⟨a, c, rfl, hle, hcm, hg⟩ := owns_shape1 ho1
  have hmx : (c : Int) ≤ 9223372036854775807 := by unfold maxLen at hcm; omega
  by_cases hs : S.has at'
  · obtain ⟨k, rfl, hk⟩ := has_nat hs
    obtain ⟨g, rfl, hgo, _, _⟩ := hg (by omega)
    have hcell := owns_cell ho1 hgo k _ (strs_at hk)
    have hkk : (S.kept (k : Int)) = (lAt S.L k, 0) := by unfold DS.kept; rw [if_pos hs]; rfl
    rw [hkk]
    generalize lAt S.L k = s at hcell ⊢
    have i1 : (0 : Int) ≤ (k : Int) := by omega
    have i2 : (k : Int) < (S.L.length : Int) := by omega
    clear ho1 h hkk hs c1 c2 c3 c4 hf hg hgo
    go_enter Tryz.func56, Tryz.ntmps56
    go_wp2
    refine bodyPost_ret (results_tmp2 rfl _ _ _) rfl ?_
    exact ⟨rfl, rfl⟩
  · have hkk : (S.kept at') = (noBytes, 3) := by unfold DS.kept; rw [if_neg hs]
    rw [hkk]
    have hd : at' < 0 ∨ (S.L.length : Int) ≤ at' := by unfold DS.has at hs; omega
    clear ho1 h hkk hs c1 c2 c3 c4 hf hg
    by_cases h0 : at' < 0
    · clear hd
      go_enter Tryz.func56, Tryz.ntmps56
      go_wp2
      refine bodyPost_ret (results_tmp2 rfl _ _ _) rfl ?_
      exact ⟨rfl, rfl⟩
    · have h1 : (S.L.length : Int) ≤ at' := by omega
      clear hd
      go_enter Tryz.func56, Tryz.ntmps56
      go_wp2
      refine bodyPost_ret (results_tmp2 rfl _ _ _) rfl ?_
      exact ⟨rfl, rfl⟩



set_option maxRecDepth 20000 in
set_option maxHeartbeats 400000 in
theorem rburn_out (B p : Nat) (v1 v2 : Value) (S : DS) (w : World) (h : RD w B p v1 v2 S) (hl : S.left = 0) :
    Calls Tryz.prog 30 #[.pointer (some ⟨p, 0, none⟩)] w fun e w' => e = .returned (.bool false) ∧ RD w' B p v1 v2 S.burnt ∧ w.grownBy w' (some p) := by
  obtain ⟨c0, c1, c2, c3, c4, hf⟩ := h.cells
  have hb := Dk.blk h
  rw [hl] at c2
  have H := Lib.hid h
  have HB := Lib.hid hb
  have hbt : S.burnt = { S with off := true, left := -1 } := by unfold DS.burnt; rw [if_pos hl]
  have HT := Lib.hid hbt
  clear h hb hbt
  go_enter Tryz.func30, Tryz.ntmps30
  go_wp2
  go_ret
  have g2 := gb_setCell (i := 2) (u := .int .i64 (-1)) (gb_setCell (i := 3) (u := .bool true) (World.grownBy.refl w (some p)))
  rw [HT.out]
  exact ⟨rfl, H.out.head g2 (blk_setCell (blk_setCell HB.out)) (by simp) rfl (.inl ⟨rfl, rfl⟩), g2⟩

set_option maxRecDepth 20000 in
set_option maxHeartbeats 400000 in
theorem rburn_go (B p : Nat) (v1 v2 : Value) (S : DS) (w : World) (h : RD w B p v1 v2 S) (hl : S.left ≠ 0) (hlo : -1 ≤ S.left) (hhi : S.left ≤ 9223372036854775807) (hd : (S.did : Int) ≤ 1000000) :
    Calls Tryz.prog 30 #[.pointer (some ⟨p, 0, none⟩)] w fun e w' => e = .returned (.bool true) ∧ RD w' B p v1 v2 S.burnt ∧ w.grownBy w' (some p) := by
  obtain ⟨c0, c1, c2, c3, c4, hf⟩ := h.cells
  have hb := Dk.blk h
  have H := Lib.hid h
  have HB := Lib.hid hb
  clear h hb
  obtain ⟨x, hx⟩ : ∃ x, x = S.left := ⟨_, rfl⟩
  obtain ⟨y, hy⟩ : ∃ y, y = (S.did : Int) := ⟨_, rfl⟩
  have hxo := hx
  have hy0 : 0 ≤ y := by omega
  rw [← hx] at c2 hl hlo hhi
  rw [← hy] at c4 hd
  have e1 : (x == 0) = false := by simpa using hl
  by_cases h0 : 0 < x
  · have hbt : S.burnt = { S with left := x - 1, did := S.did + 1 } := by
      unfold DS.burnt; rw [if_neg (by omega), if_pos (by omega), hx]
    have HT := Lib.hid hbt
    have HX := Lib.hid hx
    have HY := Lib.hid hy
    clear hbt hx hy hxo
    go_enter Tryz.func30, Tryz.ntmps30
    go_wp2
    go_ret
    have g2 := gb_setCell (i := 4) (u := .int .i64 (y + 1)) (gb_setCell (i := 2) (u := .int .i64 (x - 1)) (World.grownBy.refl w (some p)))
    rw [HT.out]
    refine ⟨rfl, H.out.head g2 (blk_setCell (blk_setCell HB.out)) ?_ rfl (.inl ⟨rfl, rfl⟩), g2⟩
    have := HY.out
    simp [this]
  · have hbt : S.burnt = { S with left := x, did := S.did + 1 } := by
      unfold DS.burnt; rw [if_neg (by omega), if_neg (by omega), hx]
    have HT := Lib.hid hbt
    have HX := Lib.hid hx
    have HY := Lib.hid hy
    clear hbt hx hy hxo
    go_enter Tryz.func30, Tryz.ntmps30
    go_wp2
    go_ret
    have g2 := gb_setCell (i := 4) (u := .int .i64 (y + 1)) (World.grownBy.refl w (some p))
    rw [HT.out]
    refine ⟨rfl, H.out.head g2 (blk_setCell HB.out) ?_ rfl (.inl ⟨rfl, rfl⟩), g2⟩
    have := HY.out
    have hX := HX.out
    simp [this, hX]

/-- The end of a write: behind the append. -/
theorem rwrite_end {w w1 w5 : World} {B p : Nat} {v1 v2 v1' v2' v5 : Value} {S : DS} {o : Obj} (h : RD w1 B p v1' v2' S.burnt) (ht : ∀ k, foot p v1' v2' k → foot p v1 v2 k ∨ w.heap.size ≤ k) (hfr : Fr (foot p v1 v2) w w1) (at' : Int) (data : ByteArray)
    (how5 : w5.ownsRow B 68 2 v5 (S.W.length + 1) (puts (S.W ++ [(at', data)]))) (hg5 : (w1.alloc o).grownBy w5 v2'.ownBlock) (hat : v5.ownBlock = v2'.ownBlock ∨ v5.ownBlock = some (w1.heap.size + 1)) :
    w5.cell? ⟨p, 1, none⟩ = some v2' ∧ (∀ i, w5.frozen? ⟨p, i, none⟩ = false) ∧ RP w B p v1 v2 ⟨S.burnt.L, S.W ++ [(at', data)], S.burnt.left, S.burnt.off, S.burnt.did⟩ (w5.setCell ⟨p, 1, none⟩ v5) := by
  have hpl := h.lt
  have hb5 : w5.heap[p]? = w1.heap[p]? := (hg5.block p (by simp; omega) (fun e => Dk.ne2 h (by decide) e.symm)).trans (Below.heap_alloc _ _ _ hpl)
  have d := h
  have hblk := hb5.trans (Dk.blk d)
  have hne5 : v5.ownBlock ≠ some p := fun e5 => by
    obtain ⟨cur, hc⟩ := owns_type how5 e5
    rw [hblk] at hc
    simp at hc
  refine ⟨by rw [cell_of_blk hblk]; rfl, fun i => free_of_blk hblk i, v1', v5, ⟨?_, Dk.low d, ?_, ?_⟩, ?_, ?_⟩
  · exact (blk_setCell hblk).trans (by simp)
  · show World.ownsRow _ _ _ _ _ S.burnt.L.length (strs S.burnt.L)
    refine owns_set_other ?_ (Dk.ne1 d (by decide)) _
    refine ((Dk.own1 d).alloc o).kept hg5 ?_
    cases h1 : v1'.ownBlock with
    | none => exact .inl rfl
    | some k => exact .inr fun e2 => Dk.ne12 d h1 e2.symm
  · refine owns_set_other ?_ hne5 _
    simpa using how5
  · refine Fr.set (Fr.grown (hfr.alloc o) hg5 fun k e2 => ?_) (ht p (.inl rfl))
    exact ht k (.inr (.inr e2))
  · rintro k (rfl | e2 | e2)
    · exact ht k (.inl rfl)
    · exact ht k (.inr (.inl e2))
    · rcases hat with h5 | h5
      · rw [h5] at e2; exact ht k (.inr (.inr e2))
      · rw [h5] at e2
        have := hfr.size
        simp at e2
        exact .inr (by omega)

theorem rflush_round {wr wa : World} {B p q g1 m : Nat} {v1 v2 : Value} {S' : DS} {x : Int} {sd : ByteArray} (h : RD wr B p v1 v2 S') (hwa : wa = wr.alloc (.cells #[.int .i64 x, .string sd] 68)) (hq : q = wr.heap.size)
    (hgo1 : v1.ownBlock = some g1) (hm : m < S'.L.length) {u : Value} (c0 : wr.cell? ⟨p, 0, none⟩ = some u) :
    wa.cell? ⟨q, 0, none⟩ = some (.int .i64 x) ∧ wa.cell? ⟨q, 1, none⟩ = some (.string sd) ∧ wa.cell? ⟨p, 0, none⟩ = some u ∧ wa.cell? ⟨g1, m, none⟩ = some (.string (lAt S'.L m)) ∧ wa.frozen? ⟨g1, m, none⟩ = false ∧
      (∀ w2 : World, w2.heap = wa.heap → w2.os = wa.os → w2.tape = wa.tape → w2.output = wa.output → RD (w2.setCell ⟨g1, m, none⟩ (.string sd)) B p v1 v2 ⟨S'.L.set m sd, S'.W, S'.left, S'.off, S'.did⟩ ∧ ∀ (A : Nat → Prop) (w : World), Fr A w wr → A g1 → Fr A w (w2.setCell ⟨g1, m, none⟩ (.string sd))) := by
  subst hwa hq
  have hk : RD (wr.alloc (.cells #[.int .i64 x, .string sd] 68)) B p v1 v2 S' := h.below ((Below.refl _ _).alloc (Nat.le_refl _) _)
  have hn := heap_alloc_new wr (.cells #[.int .i64 x, .string sd] 68)
  refine ⟨by rw [cell_of_blk hn]; rfl, by rw [cell_of_blk hn]; rfl, ?_, owns_cell (Dk.own1 hk) hgo1 m _ (strs_at hm), owns_free (Dk.own1 hk) hgo1 m, ?_⟩
  · rw [World.cell?_of_block (w := wr) (Below.heap_alloc _ _ _ h.lt)]; exact c0
  · intro w2 e1 e2 e3 e4
    have hk2 : RD w2 B p v1 v2 S' := hk.kept fun k _ => by rw [e1]
    refine ⟨?_, fun A w hfr hA => ?_⟩
    · have d := hk2
      refine ⟨?_, Dk.low d, ?_, ?_⟩
      · rw [Below.heap_setCell _ _ _ _ (fun e => Dk.ne1 d (by decide) (by rw [hgo1, e]))]; exact Dk.blk d
      · have := owns_set (Dk.own1 d) hgo1 (j := m) (.string sd) (by rw [strs_length]; exact hm)
        rw [strs_set] at this
        simpa using this
      · exact owns_set_other (Dk.own2 d) (Dk.ne12 d hgo1) _
    · refine Fr.set ⟨e2.trans hfr.os, e3.trans hfr.tape, e4.trans hfr.output, ?_, fun k hk hn => ?_⟩ (.inl hA)
      · rw [e1]; have := hfr.size; simp; omega
      · rw [e1, Below.heap_alloc _ _ _ (Nat.lt_of_lt_of_le hk hfr.size)]; exact hfr.block k hk hn

set_option maxRecDepth 20000 in
set_option maxHeartbeats 1000000 in
theorem rwrite_any (B p : Nat) (v1 v2 : Value) (S : DS) (at' : Int) (data : ByteArray) (w : World) (h : RD w B p v1 v2 S) (hB : B ≤ w.heap.size) (N : Nat) (hok : S.ok N) (hN : N ≤ 1000000) :
    Calls Tryz.prog 8 #[.pointer (some ⟨p, 0, none⟩), .int .i64 at', .string data] w fun e w' => e = .returned (.int .i64 (S.write at' data).1) ∧ RP w B p v1 v2 (S.write at' data).2 w' := by
  obtain ⟨c0, c1, c2, c3, c4, hf⟩ := h.cells
  obtain ⟨a, c, rfl, hle, hcm, hg⟩ := owns_shape1 (Dk.own1 h)
  have hr := rright_any data w
  have hd := hok.did; have hhi := hok.high; have hlo := hok.low; have hfew := hok.few; have hlen := hok.len
  have H := Lib.hid h
  have HR := Lib.hid hr
  clear hr h c1 c2 c4 hf hg
  cases ho : S.off with
  | true =>
    have hu : S.write at' data = (5, S) := by unfold DS.write; rw [if_pos ho]
    rw [hu]
    rw [ho] at c3
    clear hu
    go_enter Tryz.func8, Tryz.ntmps8
    go_wp2
    go_ret
    exact ⟨rfl, RP.same H.out⟩
  | false =>
    rw [ho] at c3
    by_cases hs : S.has at'
    · obtain ⟨k, rfl, hk⟩ := has_nat hs
      have i1 : (0 : Int) ≤ (k : Int) := by omega
      have i2 : (k : Int) < (S.L.length : Int) := by omega
      by_cases hz : data.size = 64
      · rw [decide_eq_true hz] at HR
        by_cases hl : S.left = 0
        · have hu : S.write k data = (5, S.burnt) := by unfold DS.write; rw [if_neg (by simp [ho]), if_pos hs, if_pos hz, if_pos hl]
          rw [hu]
          clear hu hz hs
          have hb := rburn_out B p _ v2 S w H.out hl
          have HB := Lib.hid hb
          clear hb hl
          go_enter Tryz.func8, Tryz.ntmps8
          go_wp2_with fail
          refine HR.out.mono ?_
          rintro e w1 ⟨rfl, hw1⟩; obtain rfl := hw1.symm; clear hw1
          go_wp2_with fail
          refine HB.out.mono ?_
          rintro e w1 ⟨rfl, hpp, hgp⟩
          go_wp2
          go_ret
          exact ⟨rfl, RP.head hpp hgp (.inl rfl)⟩
        · have hu : S.write k data = (0, ⟨S.burnt.L, S.W ++ [((k : Int), data)], S.burnt.left, S.burnt.off, S.burnt.did⟩) := by unfold DS.write; rw [if_neg (by simp [ho]), if_pos hs, if_pos hz, if_neg hl]
          rw [hu]
          clear hu hz hs
          have hb := rburn_go B p _ v2 S w H.out hl hlo hhi (by omega)
          have HB := Lib.hid hb
          clear hb hl
          go_enter Tryz.func8, Tryz.ntmps8
          go_wp2_with fail
          refine HR.out.mono ?_
          rintro e w1 ⟨rfl, hw1⟩; obtain rfl := hw1.symm; clear hw1
          go_wp2_with fail
          refine HB.out.mono ?_
          rintro e w1 ⟨rfl, hpd, hgp⟩
          have hfr : Fr (foot p (.slice a S.L.length c) v2) w w1 := fr_head hgp
          have hft : ∀ k, foot p (.slice a S.L.length c) v2 k → foot p (.slice a S.L.length c) v2 k ∨ w.heap.size ≤ k := fun k h => .inl h
          obtain ⟨c0, c1, c2, c3, c4, hf⟩ := hpd.cells
          obtain ⟨i0, hi, hz0, hz1, hz2⟩ := info_parts Tryz.infoPut
          have how := Dk.own2 hpd
          rw [burnt_W] at how
          have hbs : B ≤ w1.heap.size := Nat.le_trans hB hfr.size
          have HP := Lib.hid hpd
          have HF := Lib.hid hfr
          have HT := Lib.hid hft
          clear hpd hfr hft hgp c0 c2 c3 c4
          go_wp2_with (at_builtin; refine wpList_append_own_at _ (o := ⟨some 37, _, _, _, _, _⟩) rfl (.tmp 32) (.tmp 36) 59 rfl B 68 i0 _ 2 24 Tryz.underlying59 hi hz0 hz1 hz2 rfl (by omega) v2 S.W.length _ rfl (how.alloc _) ⟨w1.heap.size, 0, none⟩ 1 1 (puts [((k : Int), data)]) rfl rfl (put_cells w1 k data) (puts_one _) (by unfold maxLen; omega) (by omega) (by simp; omega) ?_)
          intro v5 w5 how5 hg5 _ hat5
          rw [← puts_append] at how5
          have hE := rwrite_end HP.out (HT.out) HF.out k data how5 hg5 (by rcases hat5 with h5 | h5; exact .inl h5; exact .inr (by rw [h5]))
          obtain ⟨hc1, hf5, hend⟩ := hE
          obtain ⟨a5, n5, rfl, _, _, _⟩ := owns_shape1 how5
          have HE := Lib.hid hend
          clear hend how5 hg5 hat5 how c1 hf
          go_wp2
          go_ret
          exact ⟨rfl, HE.out⟩
      · have hu : S.write k data = (4, S) := by unfold DS.write; rw [if_neg (by simp [ho]), if_pos hs, if_neg hz]
        rw [hu]
        rw [decide_eq_false hz] at HR
        clear hu hz hs
        go_enter Tryz.func8, Tryz.ntmps8
        go_wp2_with fail
        refine HR.out.mono ?_
        rintro e w1 ⟨rfl, hw1⟩; obtain rfl := hw1.symm; clear hw1
        go_wp2
        go_ret
        exact ⟨rfl, RP.same H.out⟩
    · have hu : S.write at' data = (3, S) := by unfold DS.write; rw [if_neg (by simp [ho]), if_neg hs]
      have hd2 : at' < 0 ∨ (S.L.length : Int) ≤ at' := by unfold DS.has at hs; omega
      rw [hu]
      clear hu hs
      by_cases h0 : at' < 0
      · clear hd2
        go_enter Tryz.func8, Tryz.ntmps8
        go_wp2
        go_ret
        exact ⟨rfl, RP.same H.out⟩
      · have h1 : (S.L.length : Int) ≤ at' := by omega
        clear hd2
        go_enter Tryz.func8, Tryz.ntmps8
        go_wp2
        go_ret
        exact ⟨rfl, RP.same H.out⟩

end Go.Proofs.YtodcdefmoliegaaGreatDoor


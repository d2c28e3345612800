/-
  Texts put together: E6, E7, E8, E9, EA, EB, EC.
-/
import Derived.Test.YtpkeikbiblfidaaGreatDoorME
/-
  The fixed calls (known); a disk that is not there.
-/
namespace Go.Proofs.YtpkeikbiblfidaaGreatDoor
open Go.RowKit
set_option linter.unusedVariables false
set_option linter.unusedSimpArgs false

theorem Bl.one (w : World) (b : Bool) : Bl (w.alloc (.cells #[.bool b] 4)) (some ⟨w.heap.size, 0, none⟩) 1 [b] :=
  ⟨rfl, by omega, fun _ => ⟨_, _, rfl, by simp, fun i hi => by
    obtain rfl : i = 0 := by omega
    exact World.cell?_alloc_at _ _ _ _ rfl⟩⟩

def kS1 : DS := ⟨[secOf 0, secOf 0], [(1, secOf 7)], -1, false, 1⟩
def kS2 : DS := ⟨[secOf 0, secOf 7], [], -1, true, 1⟩
def kS3 : DS := ⟨[secOf 0, secOf 7], [], -1, false, 1⟩
theorem k1 : (ds0 2).write 1 (secOf 7) = (0, kS1) := by
  simp [DS.write, ds0, DS.has, secOf_size, DS.burnt, kS1, List.replicate]
theorem k2 : kS1.crash [true] = kS2 := by
  simp [DS.crash, kS1, kS2, appK, wAt]
theorem k3 : kS2.up = (0, kS3) := by simp [DS.up, kS2, kS3]
theorem k4 : kS3.read 1 = (secOf 7, 0) := by
  simp [DS.read, kS3, DS.has, look, lAt]
theorem k5 : kS3.write 0 ⟨#[120]⟩ = (4, kS3) := by
  simp [DS.write, kS3, DS.has, ByteArray.size]



end Go.Proofs.YtpkeikbiblfidaaGreatDoor
/-
  Contracts of the document's own disk: Kept, Read, burn, Write, Flush, Fuse, Crash, Up.
-/
namespace Go.Proofs.YtpkeikbiblfidaaGreatDoor
open Go.RowKit
set_option linter.unusedVariables false
set_option linter.unusedSimpArgs false

/-- The document's own disk at block p. -/
def RD (w : World) (B p : Nat) (v1 v2 : Value) (S : DS) : Prop := Dk w B p 77 [.int .i64 S.left, .bool S.off, .int .i64 (S.did : Int)] v1 v2 S

theorem RD.lt {w B p v1 v2 S} (h : RD w B p v1 v2 S) : p < w.heap.size := Dk.lt h
theorem RD.foot_low {w B p v1 v2 S} (h : RD w B p v1 v2 S) : ∀ k, foot p v1 v2 k → B ≤ k ∧ k < w.heap.size := Dk.foot_low h
theorem RD.kept {w w' : World} {B p v1 v2 S} (h : RD w B p v1 v2 S) (hk : ∀ k, foot p v1 v2 k → w'.heap[k]? = w.heap[k]?) : RD w' B p v1 v2 S := Dk.kept h hk
theorem RD.fr {w w' : World} {A : Nat → Prop} {B p v1 v2 S} (h : RD w B p v1 v2 S) (hf : Fr A w w') (hd : ∀ k, foot p v1 v2 k → ¬ A k) : RD w' B p v1 v2 S := h.kept fun k hk => hf.block k (h.foot_low k hk).2 (hd k hk)
theorem RD.below {w w' : World} {B p v1 v2 S} (h : RD w B p v1 v2 S) (hb : Below w.heap.size w w') : RD w' B p v1 v2 S := h.kept fun k hk => hb.block k (h.foot_low k hk).2

def RP (w : World) (B p : Nat) (v1 v2 : Value) (S : DS) (w' : World) : Prop :=
  ∃ v1' v2', RD w' B p v1' v2' S ∧ Fr (foot p v1 v2) w w' ∧ ∀ k, foot p v1' v2' k → foot p v1 v2 k ∨ w.heap.size ≤ k
theorem RP.same {w : World} {B p v1 v2 S} (h : RD w B p v1 v2 S) : RP w B p v1 v2 S w := ⟨v1, v2, h, Fr.refl _ _, fun k hk => .inl hk⟩

theorem RD.cells {w B p v1 v2 S} (h : RD w B p v1 v2 S) : w.cell? ⟨p, 0, none⟩ = some v1 ∧ w.cell? ⟨p, 1, none⟩ = some v2 ∧ w.cell? ⟨p, 2, none⟩ = some (.int .i64 S.left) ∧
    w.cell? ⟨p, 3, none⟩ = some (.bool S.off) ∧ w.cell? ⟨p, 4, none⟩ = some (.int .i64 (S.did : Int)) ∧ (∀ i, w.frozen? ⟨p, i, none⟩ = false) := by
  have hb := Dk.blk h
  exact ⟨by rw [cell_of_blk hb]; rfl, by rw [cell_of_blk hb]; rfl, by rw [cell_of_blk hb]; rfl, by rw [cell_of_blk hb]; rfl, by rw [cell_of_blk hb]; rfl, fun i => free_of_blk hb i⟩

theorem RD.head {w w' : World} {B p v1 v2 v2' S S'} (h : RD w B p v1 v2 S) (hg : w.grownBy w' (some p)) {cs : Array Value} (hb : w'.heap[p]? = some (.cells cs 77 (0, 0)))
    (hcs : cs = #[v1, v2', .int .i64 S'.left, .bool S'.off, .int .i64 (S'.did : Int)]) (hL : S'.L = S.L) (hW : v2' = v2 ∧ S'.W = S.W ∨ v2' = .slice none 0 0 ∧ S'.W = []) : RD w' B p v1 v2' S' := by
  subst hcs
  exact Dk.head h hg (by decide) (by decide) hb hL hW

theorem RP.head {w w' : World} {B p v1 v2 v2' S'} (h' : RD w' B p v1 v2' S') (hg : w.grownBy w' (some p)) (hv : v2' = v2 ∨ v2' = .slice none 0 0) : RP w B p v1 v2 S' w' := by
  refine ⟨v1, v2', h', fr_head hg, ?_⟩
  rintro k (rfl | e | e)
  · exact .inl (.inl rfl)
  · exact .inl (.inr (.inl e))
  · rcases hv with rfl | rfl
    · exact .inl (.inr (.inr e))
    · simp [Value.ownBlock] at e

set_option maxRecDepth 20000 in
set_option maxHeartbeats 400000 in
theorem rkept_any (B p : Nat) (v1 v2 : Value) (S : DS) (at' : Int) (w : World) (h : RD w B p v1 v2 S) (hn : (S.L.length : Int) ≤ 1200) :
    Calls Tryz.prog 124 #[.pointer (some ⟨p, 0, none⟩), .int .i64 at'] w fun e w' => e = .returned (two (S.kept at')) ∧ w' = w := by
  obtain ⟨c0, c1, c2, c3, c4, hf⟩ := h.cells
  have ho1 : w.ownsRow B 9 1 v1 S.L.length (strs S.L) := Dk.own1 h
  obtain ⟨a, c, rfl, hle, hcm, hg⟩ := owns_shape1 ho1
  have hmx : (c : Int) ≤ 9223372036854775807 := by unfold maxLen at hcm; omega
  by_cases hs : S.has at'
  · obtain ⟨k, rfl, hk⟩ := has_nat hs
    obtain ⟨g, rfl, hgo, _, _⟩ := hg (by omega)
    have hcell := owns_cell ho1 hgo k _ (strs_at hk)
    have hkk : (S.kept (k : Int)) = (lAt S.L k, 0) := by unfold DS.kept; rw [if_pos hs]; rfl
    rw [hkk]
    generalize lAt S.L k = s at hcell ⊢
    have i1 : (0 : Int) ≤ (k : Int) := by omega
    have i2 : (k : Int) < (S.L.length : Int) := by omega
    clear ho1 h hkk hs c1 c2 c3 c4 hf hg hgo
    go_enter Tryz.func124, Tryz.ntmps124
    go_wp2
    refine bodyPost_ret (results_tmp2 rfl _ _ _) rfl ?_
    exact ⟨rfl, rfl⟩
  · have hkk : (S.kept at') = (noBytes, 3) := by unfold DS.kept; rw [if_neg hs]
    rw [hkk]
    have hd : at' < 0 ∨ (S.L.length : Int) ≤ at' := by unfold DS.has at hs; omega
    clear ho1 h hkk hs c1 c2 c3 c4 hf hg
    by_cases h0 : at' < 0
    · clear hd
      go_enter Tryz.func124, Tryz.ntmps124
      go_wp2
      refine bodyPost_ret (results_tmp2 rfl _ _ _) rfl ?_
      exact ⟨rfl, rfl⟩
    · have h1 : (S.L.length : Int) ≤ at' := by omega
      clear hd
      go_enter Tryz.func124, Tryz.ntmps124
      go_wp2
      refine bodyPost_ret (results_tmp2 rfl _ _ _) rfl ?_
      exact ⟨rfl, rfl⟩

set_option maxRecDepth 20000 in
set_option maxHeartbeats 400000 in
theorem rfuse_any (B p : Nat) (v1 v2 : Value) (S : DS) (n : Int) (w : World) (h : RD w B p v1 v2 S) :
    Calls Tryz.prog 55 #[.pointer (some ⟨p, 0, none⟩), .int .i64 n] w fun e w' => e = .returned (.tuple #[]) ∧ RP w B p v1 v2 (S.fuse n) w' := by
  obtain ⟨c0, c1, c2, c3, c4, hf⟩ := h.cells
  have hb := Dk.blk h
  have H := Lib.hid h
  have HB := Lib.hid hb
  clear h hb
  go_enter Tryz.func55, Tryz.ntmps55
  go_wp2
  refine bodyPost_end (results_none rfl _ _ _) rfl ?_
  refine ⟨rfl, RP.head (H.out.head (gb_setCell (World.grownBy.refl _ _)) (blk_setCell HB.out) ?_ rfl (.inl ⟨rfl, rfl⟩)) (gb_setCell (World.grownBy.refl _ _)) (.inl rfl)⟩
  simp [DS.fuse]
  split <;> omega

set_option maxRecDepth 20000 in
set_option maxHeartbeats 400000 in
theorem rup_any (B p : Nat) (v1 v2 : Value) (S : DS) (w : World) (h : RD w B p v1 v2 S) :
    Calls Tryz.prog 57 #[.pointer (some ⟨p, 0, none⟩)] w fun e w' => e = .returned (.int .i64 S.up.1) ∧ RP w B p v1 v2 S.up.2 w' := by
  obtain ⟨c0, c1, c2, c3, c4, hf⟩ := h.cells
  have hb := Dk.blk h
  have H := Lib.hid h
  have HB := Lib.hid hb
  clear h hb
  cases ho : S.off with
  | true =>
    rw [ho] at c3
    have hu : S.up = (0, { S with off := false, W := [], left := -1 }) := by unfold DS.up; rw [if_pos ho]
    rw [hu]
    clear hu
    go_enter Tryz.func57, Tryz.ntmps57
    go_wp2
    go_ret
    have g3 := gb_setCell (i := 2) (u := .int .i64 (-1)) (gb_setCell (i := 1) (u := .slice none 0 0) (gb_setCell (i := 3) (u := .bool false) (World.grownBy.refl w (some p))))
    exact ⟨rfl, RP.head (H.out.head g3 (blk_setCell (blk_setCell (blk_setCell HB.out))) (by simp) rfl (.inr ⟨rfl, rfl⟩)) g3 (.inr rfl)⟩
  | false =>
    rw [ho] at c3
    have hu : S.up = (21, S) := by unfold DS.up; rw [if_neg (by simp [ho])]
    rw [hu]
    clear hu
    go_enter Tryz.func57, Tryz.ntmps57
    go_wp2
    go_ret
    exact ⟨rfl, RP.same H.out⟩

set_option maxRecDepth 20000 in
set_option maxHeartbeats 400000 in
theorem rburn_out (B p : Nat) (v1 v2 : Value) (S : DS) (w : World) (h : RD w B p v1 v2 S) (hl : S.left = 0) :
    Calls Tryz.prog 111 #[.pointer (some ⟨p, 0, none⟩)] w fun e w' => e = .returned (.bool false) ∧ RD w' B p v1 v2 S.burnt ∧ w.grownBy w' (some p) := by
  obtain ⟨c0, c1, c2, c3, c4, hf⟩ := h.cells
  have hb := Dk.blk h
  rw [hl] at c2
  have H := Lib.hid h
  have HB := Lib.hid hb
  have hbt : S.burnt = { S with off := true, left := -1 } := by unfold DS.burnt; rw [if_pos hl]
  have HT := Lib.hid hbt
  clear h hb hbt
  go_enter Tryz.func111, Tryz.ntmps111
  go_wp2
  go_ret
  have g2 := gb_setCell (i := 2) (u := .int .i64 (-1)) (gb_setCell (i := 3) (u := .bool true) (World.grownBy.refl w (some p)))
  rw [HT.out]
  exact ⟨rfl, H.out.head g2 (blk_setCell (blk_setCell HB.out)) (by simp) rfl (.inl ⟨rfl, rfl⟩), g2⟩

set_option maxRecDepth 20000 in
set_option maxHeartbeats 400000 in
theorem rburn_go (B p : Nat) (v1 v2 : Value) (S : DS) (w : World) (h : RD w B p v1 v2 S) (hl : S.left ≠ 0) (hlo : -1 ≤ S.left) (hhi : S.left ≤ 9223372036854775807) (hd : (S.did : Int) ≤ 1000000) :
    Calls Tryz.prog 111 #[.pointer (some ⟨p, 0, none⟩)] w fun e w' => e = .returned (.bool true) ∧ RD w' B p v1 v2 S.burnt ∧ w.grownBy w' (some p) := by
  obtain ⟨c0, c1, c2, c3, c4, hf⟩ := h.cells
  have hb := Dk.blk h
  have H := Lib.hid h
  have HB := Lib.hid hb
  clear h hb
  obtain ⟨x, hx⟩ : ∃ x, x = S.left := ⟨_, rfl⟩
  obtain ⟨y, hy⟩ : ∃ y, y = (S.did : Int) := ⟨_, rfl⟩
  have hxo := hx
  have hy0 : 0 ≤ y := by omega
  rw [← hx] at c2 hl hlo hhi
  rw [← hy] at c4 hd
  have e1 : (x == 0) = false := by simpa using hl
  by_cases h0 : 0 < x
  · have hbt : S.burnt = { S with left := x - 1, did := S.did + 1 } := by
      unfold DS.burnt; rw [if_neg (by omega), if_pos (by omega), hx]
    have HT := Lib.hid hbt
    have HX := Lib.hid hx
    have HY := Lib.hid hy
    clear hbt hx hy hxo
    go_enter Tryz.func111, Tryz.ntmps111
    go_wp2
    go_ret
    have g2 := gb_setCell (i := 4) (u := .int .i64 (y + 1)) (gb_setCell (i := 2) (u := .int .i64 (x - 1)) (World.grownBy.refl w (some p)))
    rw [HT.out]
    refine ⟨rfl, H.out.head g2 (blk_setCell (blk_setCell HB.out)) ?_ rfl (.inl ⟨rfl, rfl⟩), g2⟩
    have := HY.out
    simp [this]
  · have hbt : S.burnt = { S with left := x, did := S.did + 1 } := by
      unfold DS.burnt; rw [if_neg (by omega), if_neg (by omega), hx]
    have HT := Lib.hid hbt
    have HX := Lib.hid hx
    have HY := Lib.hid hy
    clear hbt hx hy hxo
    go_enter Tryz.func111, Tryz.ntmps111
    go_wp2
    go_ret
    have g2 := gb_setCell (i := 4) (u := .int .i64 (y + 1)) (World.grownBy.refl w (some p))
    rw [HT.out]
    refine ⟨rfl, H.out.head g2 (blk_setCell HB.out) ?_ rfl (.inl ⟨rfl, rfl⟩), g2⟩
    have := HY.out
    have hX := HX.out
    simp [this, hX]

/-- The end of a write: behind the append. -/
theorem rwrite_end {w w1 w5 : World} {B p : Nat} {v1 v2 v1' v2' v5 : Value} {S : DS} {o : Obj} (h : RD w1 B p v1' v2' S.burnt) (ht : ∀ k, foot p v1' v2' k → foot p v1 v2 k ∨ w.heap.size ≤ k) (hfr : Fr (foot p v1 v2) w w1) (at' : Int) (data : ByteArray)
    (how5 : w5.ownsRow B 104 2 v5 (S.W.length + 1) (puts (S.W ++ [(at', data)]))) (hg5 : (w1.alloc o).grownBy w5 v2'.ownBlock) (hat : v5.ownBlock = v2'.ownBlock ∨ v5.ownBlock = some (w1.heap.size + 1)) :
    w5.cell? ⟨p, 1, none⟩ = some v2' ∧ (∀ i, w5.frozen? ⟨p, i, none⟩ = false) ∧ RP w B p v1 v2 ⟨S.burnt.L, S.W ++ [(at', data)], S.burnt.left, S.burnt.off, S.burnt.did⟩ (w5.setCell ⟨p, 1, none⟩ v5) := by
  have hpl := h.lt
  have hb5 : w5.heap[p]? = w1.heap[p]? := (hg5.block p (by simp; omega) (fun e => Dk.ne2 h (by decide) e.symm)).trans (Below.heap_alloc _ _ _ hpl)
  have d := h
  have hblk := hb5.trans (Dk.blk d)
  have hne5 : v5.ownBlock ≠ some p := fun e5 => by
    obtain ⟨cur, hc⟩ := owns_type how5 e5
    rw [hblk] at hc
    simp at hc
  refine ⟨by rw [cell_of_blk hblk]; rfl, fun i => free_of_blk hblk i, v1', v5, ⟨?_, Dk.low d, ?_, ?_⟩, ?_, ?_⟩
  · exact (blk_setCell hblk).trans (by simp)
  · show World.ownsRow _ _ _ _ _ S.burnt.L.length (strs S.burnt.L)
    refine owns_set_other ?_ (Dk.ne1 d (by decide)) _
    refine ((Dk.own1 d).alloc o).kept hg5 ?_
    cases h1 : v1'.ownBlock with
    | none => exact .inl rfl
    | some k => exact .inr fun e2 => Dk.ne12 d h1 e2.symm
  · refine owns_set_other ?_ hne5 _
    simpa using how5
  · refine Fr.set (Fr.grown (hfr.alloc o) hg5 fun k e2 => ?_) (ht p (.inl rfl))
    exact ht k (.inr (.inr e2))
  · rintro k (rfl | e2 | e2)
    · exact ht k (.inl rfl)
    · exact ht k (.inr (.inl e2))
    · rcases hat with h5 | h5
      · rw [h5] at e2; exact ht k (.inr (.inr e2))
      · rw [h5] at e2
        have := hfr.size
        simp at e2
        exact .inr (by omega)

theorem rflush_round {wr wa : World} {B p q g1 m : Nat} {v1 v2 : Value} {S' : DS} {x : Int} {sd : ByteArray} (h : RD wr B p v1 v2 S') (hwa : wa = wr.alloc (.cells #[.int .i64 x, .string sd] 104)) (hq : q = wr.heap.size)
    (hgo1 : v1.ownBlock = some g1) (hm : m < S'.L.length) {u : Value} (c0 : wr.cell? ⟨p, 0, none⟩ = some u) :
    wa.cell? ⟨q, 0, none⟩ = some (.int .i64 x) ∧ wa.cell? ⟨q, 1, none⟩ = some (.string sd) ∧ wa.cell? ⟨p, 0, none⟩ = some u ∧ wa.cell? ⟨g1, m, none⟩ = some (.string (lAt S'.L m)) ∧ wa.frozen? ⟨g1, m, none⟩ = false ∧
      (∀ w2 : World, w2.heap = wa.heap → w2.os = wa.os → w2.tape = wa.tape → w2.output = wa.output → RD (w2.setCell ⟨g1, m, none⟩ (.string sd)) B p v1 v2 ⟨S'.L.set m sd, S'.W, S'.left, S'.off, S'.did⟩ ∧ ∀ (A : Nat → Prop) (w : World), Fr A w wr → A g1 → Fr A w (w2.setCell ⟨g1, m, none⟩ (.string sd))) := by
  subst hwa hq
  have hk : RD (wr.alloc (.cells #[.int .i64 x, .string sd] 104)) B p v1 v2 S' := h.below ((Below.refl _ _).alloc (Nat.le_refl _) _)
  have hn := heap_alloc_new wr (.cells #[.int .i64 x, .string sd] 104)
  refine ⟨by rw [cell_of_blk hn]; rfl, by rw [cell_of_blk hn]; rfl, ?_, owns_cell (Dk.own1 hk) hgo1 m _ (strs_at hm), owns_free (Dk.own1 hk) hgo1 m, ?_⟩
  · rw [World.cell?_of_block (w := wr) (Below.heap_alloc _ _ _ h.lt)]; exact c0
  · intro w2 e1 e2 e3 e4
    have hk2 : RD w2 B p v1 v2 S' := hk.kept fun k _ => by rw [e1]
    refine ⟨?_, fun A w hfr hA => ?_⟩
    · have d := hk2
      refine ⟨?_, Dk.low d, ?_, ?_⟩
      · rw [Below.heap_setCell _ _ _ _ (fun e => Dk.ne1 d (by decide) (by rw [hgo1, e]))]; exact Dk.blk d
      · have := owns_set (Dk.own1 d) hgo1 (j := m) (.string sd) (by rw [strs_length]; exact hm)
        rw [strs_set] at this
        simpa using this
      · exact owns_set_other (Dk.own2 d) (Dk.ne12 d hgo1) _
    · refine Fr.set ⟨e2.trans hfr.os, e3.trans hfr.tape, e4.trans hfr.output, ?_, fun k hk hn => ?_⟩ (.inl hA)
      · rw [e1]; have := hfr.size; simp; omega
      · rw [e1, Below.heap_alloc _ _ _ (Nat.lt_of_lt_of_le hk hfr.size)]; exact hfr.block k hk hn

set_option maxRecDepth 20000 in
set_option maxHeartbeats 1000000 in
theorem rwrite_any (B p : Nat) (v1 v2 : Value) (S : DS) (at' : Int) (data : ByteArray) (w : World) (h : RD w B p v1 v2 S) (hB : B ≤ w.heap.size) (N : Nat) (hok : S.ok N) (hN : N ≤ 1000000) :
    Calls Tryz.prog 53 #[.pointer (some ⟨p, 0, none⟩), .int .i64 at', .string data] w fun e w' => e = .returned (.int .i64 (S.write at' data).1) ∧ RP w B p v1 v2 (S.write at' data).2 w' := by
  obtain ⟨c0, c1, c2, c3, c4, hf⟩ := h.cells
  obtain ⟨a, c, rfl, hle, hcm, hg⟩ := owns_shape1 (Dk.own1 h)
  have hr := rright_any data w
  have hd := hok.did; have hhi := hok.high; have hlo := hok.low; have hfew := hok.few; have hlen := hok.len
  have H := Lib.hid h
  have HR := Lib.hid hr
  clear hr h c1 c2 c4 hf hg
  cases ho : S.off with
  | true =>
    have hu : S.write at' data = (5, S) := by unfold DS.write; rw [if_pos ho]
    rw [hu]
    rw [ho] at c3
    clear hu
    go_enter Tryz.func53, Tryz.ntmps53
    go_wp2
    go_ret
    exact ⟨rfl, RP.same H.out⟩
  | false =>
    rw [ho] at c3
    by_cases hs : S.has at'
    · obtain ⟨k, rfl, hk⟩ := has_nat hs
      have i1 : (0 : Int) ≤ (k : Int) := by omega
      have i2 : (k : Int) < (S.L.length : Int) := by omega
      by_cases hz : data.size = 64
      · rw [decide_eq_true hz] at HR
        by_cases hl : S.left = 0
        · have hu : S.write k data = (5, S.burnt) := by unfold DS.write; rw [if_neg (by simp [ho]), if_pos hs, if_pos hz, if_pos hl]
          rw [hu]
          clear hu hz hs
          have hb := rburn_out B p _ v2 S w H.out hl
          have HB := Lib.hid hb
          clear hb hl
          go_enter Tryz.func53, Tryz.ntmps53
          go_wp2_with fail
          refine HR.out.mono ?_
          rintro e w1 ⟨rfl, hw1⟩; obtain rfl := hw1.symm; clear hw1
          go_wp2_with fail
          refine HB.out.mono ?_
          rintro e w1 ⟨rfl, hpp, hgp⟩
          go_wp2
          go_ret
          exact ⟨rfl, RP.head hpp hgp (.inl rfl)⟩
        · have hu : S.write k data = (0, ⟨S.burnt.L, S.W ++ [((k : Int), data)], S.burnt.left, S.burnt.off, S.burnt.did⟩) := by unfold DS.write; rw [if_neg (by simp [ho]), if_pos hs, if_pos hz, if_neg hl]
          rw [hu]
          clear hu hz hs
          have hb := rburn_go B p _ v2 S w H.out hl hlo hhi (by omega)
          have HB := Lib.hid hb
          clear hb hl
          go_enter Tryz.func53, Tryz.ntmps53
          go_wp2_with fail
          refine HR.out.mono ?_
          rintro e w1 ⟨rfl, hw1⟩; obtain rfl := hw1.symm; clear hw1
          go_wp2_with fail
          refine HB.out.mono ?_
          rintro e w1 ⟨rfl, hpd, hgp⟩
          have hfr : Fr (foot p (.slice a S.L.length c) v2) w w1 := fr_head hgp
          have hft : ∀ k, foot p (.slice a S.L.length c) v2 k → foot p (.slice a S.L.length c) v2 k ∨ w.heap.size ≤ k := fun k h => .inl h
          obtain ⟨c0, c1, c2, c3, c4, hf⟩ := hpd.cells
          obtain ⟨i0, hi, hz0, hz1, hz2⟩ := info_parts Tryz.infoPut
          have how := Dk.own2 hpd
          rw [burnt_W] at how
          have hbs : B ≤ w1.heap.size := Nat.le_trans hB hfr.size
          have HP := Lib.hid hpd
          have HF := Lib.hid hfr
          have HT := Lib.hid hft
          clear hpd hfr hft hgp c0 c2 c3 c4
          go_wp2_with (at_builtin; refine wpList_append_own_at _ (o := ⟨some 37, _, _, _, _, _⟩) rfl (.tmp 32) (.tmp 36) 75 rfl B 104 i0 _ 2 24 Tryz.underlying75 hi hz0 hz1 hz2 rfl (by omega) v2 S.W.length _ rfl (how.alloc _) ⟨w1.heap.size, 0, none⟩ 1 1 (puts [((k : Int), data)]) rfl rfl (put_cells w1 k data) (puts_one _) (by unfold maxLen; omega) (by omega) (by simp; omega) ?_)
          intro v5 w5 how5 hg5 _ hat5
          rw [← puts_append] at how5
          have hE := rwrite_end HP.out (HT.out) HF.out k data how5 hg5 (by rcases hat5 with h5 | h5; exact .inl h5; exact .inr (by rw [h5]))
          obtain ⟨hc1, hf5, hend⟩ := hE
          obtain ⟨a5, n5, rfl, _, _, _⟩ := owns_shape1 how5
          have HE := Lib.hid hend
          clear hend how5 hg5 hat5 how c1 hf
          go_wp2
          go_ret
          exact ⟨rfl, HE.out⟩
      · have hu : S.write k data = (4, S) := by unfold DS.write; rw [if_neg (by simp [ho]), if_pos hs, if_neg hz]
        rw [hu]
        rw [decide_eq_false hz] at HR
        clear hu hz hs
        go_enter Tryz.func53, Tryz.ntmps53
        go_wp2_with fail
        refine HR.out.mono ?_
        rintro e w1 ⟨rfl, hw1⟩; obtain rfl := hw1.symm; clear hw1
        go_wp2
        go_ret
        exact ⟨rfl, RP.same H.out⟩
    · have hu : S.write at' data = (3, S) := by unfold DS.write; rw [if_neg (by simp [ho]), if_neg hs]
      have hd2 : at' < 0 ∨ (S.L.length : Int) ≤ at' := by unfold DS.has at hs; omega
      rw [hu]
      clear hu hs
      by_cases h0 : at' < 0
      · clear hd2
        go_enter Tryz.func53, Tryz.ntmps53
        go_wp2
        go_ret
        exact ⟨rfl, RP.same H.out⟩
      · have h1 : (S.L.length : Int) ≤ at' := by omega
        clear hd2
        go_enter Tryz.func53, Tryz.ntmps53
        go_wp2
        go_ret
        exact ⟨rfl, RP.same H.out⟩

end Go.Proofs.YtpkeikbiblfidaaGreatDoor
/-
  Contracts of the document's own disk: Flush, Crash, Read, Puts.
-/
namespace Go.Proofs.YtpkeikbiblfidaaGreatDoor
open Go.RowKit
set_option linter.unusedVariables false
set_option linter.unusedSimpArgs false

theorem RD.own2 {w B p v1 v2 S} (h : RD w B p v1 v2 S) : w.ownsRow B 104 2 v2 S.W.length (puts S.W) := Dk.own2 h
theorem RD.own1 {w B p v1 v2 S} (h : RD w B p v1 v2 S) : w.ownsRow B 9 1 v1 S.L.length (strs S.L) := Dk.own1 h

set_option maxRecDepth 20000 in
set_option maxHeartbeats 1000000 in
theorem rflush_any (B p : Nat) (v1 v2 : Value) (S : DS) (w : World) (h : RD w B p v1 v2 S) (hB : B ≤ w.heap.size) (N : Nat) (hok : S.ok N) (hN : N ≤ 1000000) :
    Calls Tryz.prog 109 #[.pointer (some ⟨p, 0, none⟩)] w fun e w' => e = .returned (.int .i64 S.flush.1) ∧ RP w B p v1 v2 S.flush.2 w' := by
  obtain ⟨c0, c1, c2, c3, c4, hf⟩ := h.cells
  obtain ⟨a, c, rfl, hle, hcm, hg⟩ := owns_shape1 (Dk.own1 h)
  obtain ⟨a2, cc2, rfl, hle2, hcm2, hg2⟩ := owns_shape1 (Dk.own2 h)
  have hd := hok.did; have hhi := hok.high; have hlo := hok.low; have hfew := hok.few
  have H := Lib.hid h
  clear h c0 c1 c2 c4 hf
  cases ho : S.off with
  | true =>
    have hu : S.flush = (5, S) := by unfold DS.flush; rw [if_pos ho]
    rw [hu]
    rw [ho] at c3
    clear hu
    go_enter Tryz.func109, Tryz.ntmps109
    go_wp2
    go_ret
    exact ⟨rfl, RP.same H.out⟩
  | false =>
    rw [ho] at c3
    by_cases hl : S.left = 0
    · have hu : S.flush = (5, S.burnt) := by unfold DS.flush; rw [if_neg (by simp [ho]), if_pos hl]
      rw [hu]
      clear hu
      have hb := rburn_out B p _ _ S w H.out hl
      have HB := Lib.hid hb
      clear hb hl
      go_enter Tryz.func109, Tryz.ntmps109
      go_wp2_with fail
      refine HB.out.mono ?_
      rintro e w1 ⟨rfl, hpp, hgp⟩
      go_wp2
      go_ret
      exact ⟨rfl, RP.head hpp hgp (.inl rfl)⟩
    · have hu : S.flush = (0, ⟨appW S.L S.W S.W.length, [], S.burnt.left, S.burnt.off, S.burnt.did⟩) := by unfold DS.flush; rw [if_neg (by simp [ho]), if_neg hl]
      rw [hu]
      clear hu
      have hb := rburn_go B p _ _ S w H.out hl hlo hhi (by omega)
      have HB := Lib.hid hb
      clear hb hl
      go_enter Tryz.func109, Tryz.ntmps109
      go_wp2_with fail
      refine HB.out.mono ?_
      rintro e w1 ⟨rfl, hpd, hgp⟩
      have HP := Lib.hid hpd
      have HF := Lib.hid (fr_head (v1 := .slice a S.L.length c) (v2 := .slice a2 S.W.length cc2) hgp)
      clear hpd hgp c3
      go_wp2
      go_loopw [3] (fun i wr => ∃ k : Nat, k ≤ S.W.length ∧ i = .int .i64 k ∧ RD wr B p (.slice a S.L.length c) (.slice a2 S.W.length cc2) ⟨appW S.L S.W k, S.W, S.burnt.left, S.burnt.off, S.burnt.did⟩ ∧ Fr (foot p (.slice a S.L.length c) (.slice a2 S.W.length cc2)) w wr) (fun i _ => S.W.length - (intOf i).toNat)
      case atStart => exact ⟨0, by omega, rfl, by rw [show (⟨appW S.L S.W 0, S.W, S.burnt.left, S.burnt.off, S.burnt.did⟩ : DS) = S.burnt from by rw [show appW S.L S.W 0 = S.burnt.L from (burnt_L S).symm, ← burnt_W S]]; exact HP.out, HF.out⟩
      case round =>
        obtain ⟨k, hk, rfl, hpd, hfr⟩ := hrel
        by_cases hlt : k < S.W.length
        · have i1 : (k : Int) < (S.W.length : Int) := by omega
          obtain ⟨g2, rfl, hgo2, hB2, _⟩ := hg2 (by omega)
          obtain ⟨m, hm, hml⟩ := has_nat (hok.ats k hlt)
          obtain ⟨g1, rfl, hgo1, hB1, _⟩ := hg (by omega)
          have ho2 : wr.ownsRow B 104 2 (.slice (some ⟨g2, 0, none⟩) S.W.length cc2) S.W.length (puts S.W) := hpd.own2
          have e0 := owns_cell ho2 hgo2 _ _ (puts_at S.W k hlt).1
          have e1 := owns_cell ho2 hgo2 _ _ (puts_at S.W k hlt).2
          rw [hm] at e0
          obtain ⟨sd, hsd⟩ : ∃ sd, sd = (wAt S.W k).2 := ⟨_, rfl⟩
          rw [← hsd] at e1
          have hnx : appW S.L S.W (k + 1) = (appW S.L S.W k).set m sd := by show (appW S.L S.W k).set _ _ = _; rw [hm, hsd]; rfl
          have HNX := Lib.hid hnx
          clear hnx hsd
          obtain ⟨c0, c1, c2, c3, c4, hf⟩ := hpd.cells
          have HPD := Lib.hid hpd
          have HFR := Lib.hid hfr
          clear hpd hfr c2 c3 c4 ho2 hg hg2 H HP HF HB
          go_wp2
          obtain ⟨wa, hwa⟩ : ∃ wa, wa = wr.alloc (.cells #[.int .i64 (m : Int), .string sd] 104) := ⟨_, rfl⟩
          obtain ⟨q, hq⟩ : ∃ q, q = wr.heap.size := ⟨_, rfl⟩
          rw [← hwa, ← hq]
          obtain ⟨cb0, cb1, ca0, ctg, hft, hrest⟩ := rflush_round HPD.out hwa hq hgo1 (by rw [appW_length]; exact hml) c0
          generalize lAt (appW S.L S.W k) m = old at ctg
          have HR := Lib.hid hrest
          have HQ := Lib.hid hq
          have HWA := Lib.hid hwa
          have i2 : (0 : Int) ≤ (m : Int) := by omega
          have i3 : (m : Int) < (S.L.length : Int) := by omega
          clear hrest hwa hq e0 e1 c0 c1 hf
          go_region
          go_wp2
          go_roundw
          case rel =>
            obtain ⟨hp5, hf5⟩ := HR.out wa rfl rfl rfl rfl
            exact ⟨k + 1, by omega, by go_num, by rw [HNX.out]; exact hp5.kept fun _ _ => rfl, (hf5 _ _ HFR.out (.inr (.inl hgo1))).drew⟩
          case measure => simp [intOf]; omega
        · obtain rfl : k = S.W.length := by omega
          obtain ⟨c0, c1, c2, c3, c4, hf⟩ := hpd.cells
          have hblk := Dk.blk hpd
          have HPD := Lib.hid hpd
          have HFR := Lib.hid hfr
          have HBK := Lib.hid hblk
          clear hpd hfr c0 c2 c3 c4 hg hg2 H HP HF HB hblk
          go_wp2
          go_ret
          refine ⟨rfl, _, _, HPD.out.head (gb_setCell (World.grownBy.refl _ _)) (blk_setCell HBK.out) (by simp) rfl (.inr ⟨rfl, rfl⟩), HFR.out.set (.inl (.inl rfl)), ?_⟩
          rintro j (rfl | e | e)
          · exact .inl (.inl rfl)
          · exact .inl (.inr (.inl e))
          · simp [Value.ownBlock] at e

set_option maxRecDepth 20000 in
set_option maxHeartbeats 1000000 in
theorem rcrash_any (B p : Nat) (v1 v2 : Value) (S : DS) (ak : Option Addr) (nk ck : Nat) (K : List Bool) (w : World) (h : RD w B p v1 v2 S) (hB : B ≤ w.heap.size) (N : Nat) (hok : S.ok N) (hN : N ≤ 1000000)
    (hK : Bl w ak nk K) (hd : ∀ b off, ak = some ⟨b, off, none⟩ → 0 < nk → ¬ foot p v1 v2 b) :
    Calls Tryz.prog 42 #[.pointer (some ⟨p, 0, none⟩), .slice ak nk ck] w fun e w' => e = .returned (.tuple #[]) ∧ RP w B p v1 v2 (S.crash K) w' := by
  obtain ⟨a, c, rfl, hle, hcm, hg⟩ := owns_shape1 (Dk.own1 h)
  obtain ⟨a2, cc2, rfl, hle2, hcm2, hg2⟩ := owns_shape1 (Dk.own2 h)
  have hdid := hok.did; have hhi := hok.high; have hfew := hok.few
  have H := Lib.hid h
  have HK := Lib.hid hK
  have HD := Lib.hid hd
  have hbig := hK.big
  clear h hK hd
  unfold DS.crash
  go_enter Tryz.func42, Tryz.ntmps42
  go_wp2
  go_loopw [4] (fun i wr => ∃ k : Nat, k ≤ S.W.length ∧ k ≤ nk ∧ i = .int .i64 k ∧ RD wr B p (.slice a S.L.length c) (.slice a2 S.W.length cc2) ⟨appK S.L S.W K k, S.W, S.left, S.off, S.did⟩ ∧ Fr (foot p (.slice a S.L.length c) (.slice a2 S.W.length cc2)) w wr) (fun i _ => S.W.length - (intOf i).toNat)
  case atStart => exact ⟨0, by omega, by omega, rfl, H.out, Fr.refl _ _⟩
  case round =>
    obtain ⟨k, hk, hkn, rfl, hpd, hfr⟩ := hrel
    by_cases hlt : k < S.W.length ∧ k < nk
    · obtain ⟨hlt, hkk⟩ := hlt
      have i1 : (k : Int) < (S.W.length : Int) := by omega
      have i2 : (k : Int) < (nk : Int) := by omega
      obtain ⟨g2, rfl, hgo2, hB2, _⟩ := hg2 (by omega)
      obtain ⟨m, hm, hml⟩ := has_nat (hok.ats k hlt)
      obtain ⟨g1, rfl, hgo1, hB1, _⟩ := hg (by omega)
      have ho2 : wr.ownsRow B 104 2 (.slice (some ⟨g2, 0, none⟩) S.W.length cc2) S.W.length (puts S.W) := hpd.own2
      have e0 := owns_cell ho2 hgo2 _ _ (puts_at S.W k hlt).1
      have e1 := owns_cell ho2 hgo2 _ _ (puts_at S.W k hlt).2
      rw [hm] at e0
      obtain ⟨sd, hsd⟩ : ∃ sd, sd = (wAt S.W k).2 := ⟨_, rfl⟩
      rw [← hsd] at e1
      have hnx : appK S.L S.W K (k + 1) = if K[k]?.getD false = true then (appK S.L S.W K k).set m sd else appK S.L S.W K k := by
        show (if _ then List.set _ _ _ else _) = _
        rw [hm, hsd]; rfl
      have HNX := Lib.hid hnx
      have hbl := HK.out.fr hfr HD.out
      obtain ⟨c0, c1, c2, c3, c4, hf⟩ := hpd.cells
      have HPD := Lib.hid hpd
      have HFR := Lib.hid hfr
      obtain ⟨kb, hkb⟩ : ∃ kb, kb = K[k]?.getD false := ⟨_, rfl⟩
      have HKB := Lib.hid hkb
      clear hpd hfr c2 c3 c4 ho2 hg hg2 H hnx hsd
      obtain ⟨bk, ok, rfl, hbkl, hbc⟩ := hbl.at0 (by omega)
      have hcb := hbc k hkk
      rw [← hkb] at hcb
      have hcb2 : ∀ o, (wr.alloc o).cell? ⟨bk, ok + k, none⟩ = some (.bool kb) := fun o => by rw [World.cell?_of_block (w := wr) (Below.heap_alloc _ _ _ hbkl)]; exact hcb
      clear hbc hbl hkb
      cases kb with
      | true =>
        go_wp2
        obtain ⟨wa, hwa⟩ : ∃ wa, wa = wr.alloc (.cells #[.int .i64 (m : Int), .string sd] 104) := ⟨_, rfl⟩
        obtain ⟨q, hq⟩ : ∃ q, q = wr.heap.size := ⟨_, rfl⟩
        rw [← hwa, ← hq]
        obtain ⟨cb0, cb1, ca0, ctg, hft, hrest⟩ := rflush_round HPD.out hwa hq hgo1 (by rw [appK_length]; exact hml) c0
        generalize lAt (appK S.L S.W K k) m = old at ctg
        have HR := Lib.hid hrest
        have HQ := Lib.hid hq
        have HWA := Lib.hid hwa
        have i3 : (0 : Int) ≤ (m : Int) := by omega
        have i4 : (m : Int) < (S.L.length : Int) := by omega
        clear hrest hwa hq e0 e1 c0 c1 hf hcb hcb2
        go_region
        go_wp2
        go_roundw
        case rel =>
          obtain ⟨hp5, hf5⟩ := HR.out wa rfl rfl rfl rfl
          exact ⟨k + 1, by omega, by omega, by go_num, by rw [HNX.out, if_pos HKB.out.symm]; exact hp5.kept fun _ _ => rfl, (hf5 _ _ HFR.out (.inr (.inl hgo1))).drew⟩
        case measure => simp [intOf]; omega
      | false =>
        go_wp2
        go_roundw
        case rel => exact ⟨k + 1, by omega, by omega, by go_num, by rw [HNX.out, if_neg (by rw [← HKB.out]; simp)]; exact HPD.out.below ((Below.refl _ _).alloc (Nat.le_refl _) _), HFR.out.alloc _⟩
        case measure => simp [intOf]; omega
    · have hend : appK S.L S.W K S.W.length = appK S.L S.W K k := by
        rcases Nat.lt_or_ge k S.W.length with h1 | h1
        · exact appK_end _ _ _ _ _ (by rw [HK.out.len]; omega) (by omega)
        · rw [show S.W.length = k from by omega]
      obtain ⟨c0, c1, c2, c3, c4, hf⟩ := hpd.cells
      have hblk := Dk.blk hpd
      have HPD := Lib.hid hpd
      have HFR := Lib.hid hfr
      have HBK := Lib.hid hblk
      have HEND := Lib.hid hend
      have g3 := gb_setCell (i := 3) (u := .bool true) (gb_setCell (i := 2) (u := .int .i64 (-1)) (gb_setCell (i := 1) (u := .slice none 0 0) (World.grownBy.refl wr (some p))))
      have G3 := Lib.hid g3
      have hfin : ∀ w2 : World, w2 = ((wr.setCell ⟨p, 1, none⟩ (.slice none 0 0)).setCell ⟨p, 2, none⟩ (.int .i64 (-1))).setCell ⟨p, 3, none⟩ (.bool true) →
          RP w B p (.slice a S.L.length c) (.slice a2 S.W.length cc2) ⟨appK S.L S.W K S.W.length, [], -1, true, S.did⟩ w2 := by
        rintro w2 rfl
        refine ⟨_, _, HPD.out.head G3.out (blk_setCell (blk_setCell (blk_setCell HBK.out))) (by simp) HEND.out (.inr ⟨rfl, rfl⟩), HFR.out.grown G3.out (fun k e => by cases e; exact .inl (.inl rfl)), ?_⟩
        rintro j (rfl | e | e)
        · exact .inl (.inl rfl)
        · exact .inl (.inr (.inl e))
        · simp [Value.ownBlock] at e
      have HFIN := Lib.hid hfin
      clear hpd hfr c0 c4 hg hg2 H hblk hend g3 hfin
      by_cases h1 : k < S.W.length
      · have i1 : (k : Int) < (S.W.length : Int) := by omega
        have i2 : ¬ (k : Int) < (nk : Int) := by omega
        clear hlt
        go_wp2
        refine bodyPost_end (results_none rfl _ _ _) rfl ?_
        exact ⟨rfl, HFIN.out _ rfl⟩
      · have i1 : ¬ (k : Int) < (S.W.length : Int) := by omega
        clear hlt
        go_wp2
        refine bodyPost_end (results_none rfl _ _ _) rfl ?_
        exact ⟨rfl, HFIN.out _ rfl⟩

set_option maxRecDepth 20000 in
set_option maxHeartbeats 1000000 in
theorem rread_any (B p : Nat) (v1 v2 : Value) (S : DS) (at' : Int) (w : World) (h : RD w B p v1 v2 S) (hf' : S.W.length ≤ 1000000) (hl : (S.L.length : Int) ≤ 1200) :
    Calls Tryz.prog 83 #[.pointer (some ⟨p, 0, none⟩), .int .i64 at'] w fun e w' => e = .returned (two (S.read at')) ∧ w' = w := by
  obtain ⟨c0, c1, c2, c3, c4, hf⟩ := h.cells
  have ho2 : w.ownsRow B 104 2 v2 S.W.length (puts S.W) := Dk.own2 h
  obtain ⟨a2, cc2, rfl, hle2, hcm2, hg2⟩ := owns_shape1 ho2
  have hmx : (cc2 : Int) ≤ 9223372036854775807 := by unfold maxLen at hcm2; omega
  have hk := rkept_any B p v1 _ S at' w h hl
  cases ho : S.off with
  | true =>
    have hu : S.read at' = (noBytes, 5) := by unfold DS.read; rw [if_pos ho]
    rw [hu]
    rw [ho] at c3
    clear hu hk h ho2 hg2 c0 c1 c2 c4 hf
    go_enter Tryz.func83, Tryz.ntmps83
    go_wp2
    refine bodyPost_ret (results_tmp2 rfl _ _ _) rfl ?_
    exact ⟨rfl, rfl⟩
  | false =>
    rw [ho] at c3
    by_cases hs : S.has at'
    · have hu : S.read at' = (look S.W at' (lAt S.L at'.toNat) S.W.length, 0) := by unfold DS.read; rw [if_neg (by simp [ho]), if_pos hs]
      have hkk : S.kept at' = (lAt S.L at'.toNat, 0) := by unfold DS.kept; rw [if_pos hs]
      rw [hu]
      rw [hkk] at hk
      generalize lAt S.L at'.toNat = d0 at *
      have HK := Lib.hid hk
      have HO := Lib.hid ho2
      clear hu hkk hk h ho2 c0 c2 c4 hf hs
      unfold two at HK
      go_enter Tryz.func83, Tryz.ntmps83
      go_wp2_with fail
      refine HK.out.mono ?_
      rintro e w1 ⟨rfl, hw1⟩; obtain rfl := hw1.symm; clear hw1
      go_wp2
      go_loopw [8, 6] (fun i s wr => ∃ k : Nat, k ≤ S.W.length ∧ i = .int .i64 k ∧ s = .string (look S.W at' d0 k) ∧ wr = w) (fun i _ _ => S.W.length - (intOf i).toNat)
      case atStart => exact ⟨0, by omega, rfl, rfl, rfl⟩
      case round =>
        obtain ⟨k, hk, rfl, rfl, hwr⟩ := hrel
        subst hwr
        by_cases hlt : k < S.W.length
        · have i1 : (k : Int) < (S.W.length : Int) := by omega
          obtain ⟨g2, rfl, hgo2, hB2, _⟩ := hg2 (by omega)
          have e0 := owns_cell HO.out hgo2 _ _ (puts_at S.W k hlt).1
          have e1 := owns_cell HO.out hgo2 _ _ (puts_at S.W k hlt).2
          have hnx : look S.W at' d0 (k + 1) = if (wAt S.W k).1 = at' then (wAt S.W k).2 else look S.W at' d0 k := rfl
          have HNX := Lib.hid hnx
          clear hnx hg2
          generalize (wAt S.W k).1 = x1 at *
          generalize (wAt S.W k).2 = x2 at *
          by_cases hx : x1 = at'
          · have hx2 : (x1 == at') = true := by simpa using hx
            have HX := Lib.hid hx
            clear hx
            go_wp2
            go_roundw
            case rel => exact ⟨k + 1, by omega, by go_num, by rw [HNX.out, if_pos HX.out], trivial⟩
            case measure => simp [intOf]; omega
          · have hx2 : (x1 == at') = false := by simpa using hx
            have HX := Lib.hid hx
            clear hx
            go_wp2
            go_roundw
            case rel => exact ⟨k + 1, by omega, by go_num, by rw [HNX.out, if_neg HX.out], trivial⟩
            case measure => simp [intOf]; omega
        · obtain rfl : k = S.W.length := by omega
          go_wp2
          refine bodyPost_ret (results_tmp2 rfl _ _ _) rfl ?_
          exact ⟨rfl, rfl⟩
    · have hu : S.read at' = (noBytes, 3) := by unfold DS.read; rw [if_neg (by simp [ho]), if_neg hs]
      have hkk : S.kept at' = (noBytes, 3) := by unfold DS.kept; rw [if_neg hs]
      rw [hu]
      rw [hkk] at hk
      have HK := Lib.hid hk
      clear hu hkk hk h ho2 c0 c2 c4 hf hs hg2
      unfold two at HK
      go_enter Tryz.func83, Tryz.ntmps83
      go_wp2_with fail
      refine HK.out.mono ?_
      rintro e w1 ⟨rfl, hw1⟩; obtain rfl := hw1.symm; clear hw1
      go_wp2
      go_loopw [8, 6] (fun i s wr => i = .int .i64 0 ∧ s = .string noBytes ∧ wr = w) (fun _ _ _ => 0)
      case atStart => exact ⟨rfl, rfl, rfl⟩
      case round =>
        obtain ⟨rfl, rfl, hwr⟩ := hrel
        subst hwr
        by_cases h0 : 0 < S.W.length
        · have i1 : (0 : Int) < (S.W.length : Int) := by omega
          go_wp2
          refine bodyPost_ret (results_tmp2 rfl _ _ _) rfl ?_
          exact ⟨rfl, rfl⟩
        · have i1 : ¬ (0 : Int) < (S.W.length : Int) := by omega
          go_wp2
          refine bodyPost_ret (results_tmp2 rfl _ _ _) rfl ?_
          exact ⟨rfl, rfl⟩

theorem put_neq (x1 : Int) (x2 : ByteArray) (w : World) : (binOp .neq 104 (.agg #[.int .i64 x1, .string x2]) (.agg #[.int .i64 x1, .string x2])).run Tryz.prog w = .ok (.bool false) w := by
  go_simp

/-- Whether two lists of writes are alike. -/
theorem wlist_ext {W X : List (Int × ByteArray)} (hl : W.length = X.length) (h : ∀ i, i < W.length → wAt W i = wAt X i) : W = X := by
  apply List.ext_getElem hl
  intro i h1 h2
  have := h i h1
  simpa [wAt, List.getElem?_eq_getElem h1, List.getElem?_eq_getElem h2] using this

/-- The slice value reads as writes. -/
structure Wr (w : World) (v : Value) (W : List (Int × ByteArray)) : Prop where
  sh : ∃ a c, v = .slice a W.length c ∧ W.length ≤ c ∧ c ≤ maxLen ∧ W.length ≤ 1000000 ∧ (0 < W.length → ∃ g, a = some ⟨g, 0, none⟩ ∧ ∀ i, i < W.length → w.cell? ⟨g, i * 2, none⟩ = some (.int .i64 (wAt W i).1) ∧ w.cell? ⟨g, i * 2 + 1, none⟩ = some (.string (wAt W i).2))

theorem Wr.of_owns {w : World} {B : Nat} {v : Value} {W : List (Int × ByteArray)} (h : w.ownsRow B 104 2 v W.length (puts W)) (hf : W.length ≤ 1000000) : Wr w v W := by
  obtain ⟨a, c, rfl, h1, h2, h3⟩ := owns_shape1 h
  refine ⟨a, c, rfl, h1, h2, hf, fun h0 => ?_⟩
  obtain ⟨g, rfl, hgo, _, _⟩ := h3 h0
  exact ⟨g, rfl, fun i hi => ⟨owns_cell h hgo _ _ (puts_at W i hi).1, owns_cell h hgo _ _ (puts_at W i hi).2⟩⟩

set_option maxRecDepth 20000 in
set_option maxHeartbeats 1000000 in
theorem rputs_same (u v : Value) (W : List (Int × ByteArray)) (w : World) (hu : Wr w u W) (hv : Wr w v W) :
    Calls Tryz.prog 60 #[u, v] w fun e w' => e = .returned (.bool true) ∧ Below w.heap.size w w' := by
  obtain ⟨a, c, rfl, h1, h2, h3, h4⟩ := hu
  obtain ⟨a', c', rfl, k1, k2, k3, k4⟩ := hv
  have q1 : (c : Int) ≤ 9223372036854775807 := by unfold maxLen at h2; omega
  have q2 : (c' : Int) ≤ 9223372036854775807 := by unfold maxLen at k2; omega
  go_enter Tryz.func60, Tryz.ntmps60
  go_wp2
  go_loopw [5] (fun i wr => ∃ k : Nat, k ≤ W.length ∧ i = .int .i64 k ∧ Below w.heap.size w wr ∧ wr.heap = w.heap) (fun i _ => W.length - (intOf i).toNat)
  case atStart => exact ⟨0, by omega, rfl, Below.refl _ _, rfl⟩
  case round =>
    obtain ⟨k, hk, rfl, hB, hh⟩ := hrel
    by_cases hlt : k < W.length
    · have i1 : (k : Int) < (W.length : Int) := by omega
      have i0 : (0 : Int) ≤ (k : Int) := by omega
      obtain ⟨g, rfl, hc⟩ := h4 (by omega)
      obtain ⟨g', rfl, hc'⟩ := k4 (by omega)
      have hcell : ∀ ad, wr.cell? ad = w.cell? ad := fun ad => by unfold World.cell?; rw [hh]
      have d0 : wr.cell? ⟨g, k * 2, none⟩ = _ := (hcell _).trans (hc k hlt).1
      have d1 : wr.cell? ⟨g, k * 2 + 1, none⟩ = _ := (hcell _).trans (hc k hlt).2
      have d2 : wr.cell? ⟨g', k * 2, none⟩ = _ := (hcell _).trans (hc' k hlt).1
      have d3 : wr.cell? ⟨g', k * 2 + 1, none⟩ = _ := (hcell _).trans (hc' k hlt).2
      clear hcell hc hc' h4 k4
      generalize (wAt W k).1 = x1 at *
      generalize (wAt W k).2 = x2 at *
      have hq := put_neq x1 x2
      go_wp2
      go_region
      go_wp2
      go_roundw
      case rel => exact ⟨k + 1, by omega, by go_num, ⟨hB.os, hB.tape, hB.output, hB.size, hB.block⟩, hh⟩
      case measure => simp [intOf]; omega
    · obtain rfl : k = W.length := by omega
      go_wp2
      go_ret
      exact ⟨rfl, hB⟩

end Go.Proofs.YtpkeikbiblfidaaGreatDoor
/-
  Contracts of the document's own disk: New, Copy.
-/
namespace Go.Proofs.YtpkeikbiblfidaaGreatDoor
open Go.RowKit
set_option linter.unusedVariables false
set_option linter.unusedSimpArgs false

/-- append onto a row of the call's own, as one step of a region that draws. -/
theorem step_append_at {P : Program} {w : World} {ops : Array Oper} {o : Oper} {a : Act} {K : Act → World → Prop} {Q : Exit → Act → World → Prop} {E : Prop} (hgd : o.guard = none) (s x : Operand) (t : TypeId)
    (ho : o.op = .call { callee := .builtin .append, args := #[s, x], argTypes := #[t, t] }) (base : Nat) (e : TypeId) (i : TypeInfo) (z : Value) (size bytes : Nat) (ht : P.underlying t = some (.slice e)) (hi : P.info? e = some i) (hz : i.zero = some z) (hsize : i.size = size) (hby : i.bytes = bytes) (hzs : z.cells.size = size) (hsz : 0 < size)
    (v : Value) (n : Nat) (xs : List Value) (hs : a.eval s = v) (hown : w.ownsRow base e size v n xs) (ad : Addr) (m c : Nat) (news : List Value) (hx : a.eval x = .slice (some ad) m c) (hl : news.length = m * size)
    (hnews : ∀ j u, news[j]? = some u → w.cell? (ad.add j) = some u) (h1 : ∀ u ∈ news, u.oneCell' = true) (h63 : n + m ≤ maxLen) (hbytes : (n + m) * bytes ≤ 140737488355328) (hbase : base ≤ w.heap.size)
    (h : ∀ v' w', w'.ownsRow base e size v' (n + m) (xs ++ news) → w.grownBy w' v.ownBlock → (v'.ownBlock = v.ownBlock ∨ v'.ownBlock = some w.heap.size) → K (a.put o.dst v') w') :
    if Region.wanted o (yielded ops a.tmps) = true then Oper.wp P o a w K Q else E := by
  have hw : Region.wanted o (yielded ops a.tmps) = true := by simp [Region.wanted, hgd]
  rw [if_pos hw]
  obtain ⟨v', w', hr, h2, h3, h4, h5⟩ := run_append_own_at (P := P) w base t o.type e i z size bytes ht hi hz hsize hby hzs hsz v n xs hown ad m c news hl hnews h1 h63 hbytes hbase
  unfold Oper.wp execOp
  simp only [ho, resolve, invoke, builtin, Sem.run_bind, Sem.run_pure, Result.andThen_ok, List.map_toArray, List.map_cons, List.map_nil, hs, hx, hr]
  exact h v' w' h2 h3 h5

theorem step_call0 {P : Program} {ops : Array Oper} {w : World} {K : Act → World → Prop} {Q : Exit → Act → World → Prop} {E : Prop} {op : Oper} {a : Act} (hgd : op.guard = none) (f : FuncId) (hrun : ∀ args w, (callFunc f args).run P w = .ok (.enter f args) w)
    (ho : op.op = .call { callee := .value (.func f), args := #[], argTypes := #[] }) (r : Value) (C : World → Prop) (hc : Calls P f #[] w fun e w' => e = .returned r ∧ C w')
    (h : ∀ w', C w' → K (a.put op.dst r) w') : if Region.wanted op (yielded ops a.tmps) = true then Oper.wp P op a w K Q else E := by
  have hw : Region.wanted op (yielded ops a.tmps) = true := by simp [Region.wanted, hgd]
  rw [if_pos hw]
  have e : (execOp a.eval op).run P w = .ok (.enter f #[]) w := by
    obtain ⟨d, o2, t2, p2, af, g⟩ := op
    simp only at ho
    subst ho
    show (callFunc f (#[] ++ (#[] : Array Operand).map a.eval ++ #[])).run P w = _
    rw [hrun]
    simp
  unfold Oper.wp
  rw [e]
  exact hc.mono (by rintro e w' ⟨rfl, hC⟩; exact h w' hC)

theorem wp_append_at {P : Program} {w : World} {o : Oper} {a : Act} {K : Act → World → Prop} {Q : Exit → Act → World → Prop} (s x : Operand) (t : TypeId)
    (ho : o.op = .call { callee := .builtin .append, args := #[s, x], argTypes := #[t, t] }) (base : Nat) (e : TypeId) (i : TypeInfo) (z : Value) (size bytes : Nat) (ht : P.underlying t = some (.slice e)) (hi : P.info? e = some i) (hz : i.zero = some z) (hsize : i.size = size) (hby : i.bytes = bytes) (hzs : z.cells.size = size) (hsz : 0 < size)
    (v : Value) (n : Nat) (xs : List Value) (hs : a.eval s = v) (hown : w.ownsRow base e size v n xs) (ad : Addr) (m c : Nat) (news : List Value) (hx : a.eval x = .slice (some ad) m c) (hl : news.length = m * size)
    (hnews : ∀ j u, news[j]? = some u → w.cell? (ad.add j) = some u) (h1 : ∀ u ∈ news, u.oneCell' = true) (h63 : n + m ≤ maxLen) (hbytes : (n + m) * bytes ≤ 140737488355328) (hbase : base ≤ w.heap.size)
    (h : ∀ v' w', w'.ownsRow base e size v' (n + m) (xs ++ news) → w.grownBy w' v.ownBlock → (v'.ownBlock = v.ownBlock ∨ v'.ownBlock = some w.heap.size) → K (a.put o.dst v') w') :
    Oper.wp P o a w K Q := by
  obtain ⟨v', w', hr, h2, h3, h4, h5⟩ := run_append_own_at (P := P) w base t o.type e i z size bytes ht hi hz hsize hby hzs hsz v n xs hown ad m c news hl hnews h1 h63 hbytes hbase
  unfold Oper.wp execOp
  simp only [ho, resolve, invoke, builtin, Sem.run_bind, Sem.run_pure, Result.andThen_ok, List.map_toArray, List.map_cons, List.map_nil, hs, hx, hr]
  exact h v' w' h2 h3 h5

theorem strs_append (L M) : strs (L ++ M) = strs L ++ strs M := by simp [strs]
theorem str_cells (w : World) (s : ByteArray) : ∀ (j : Nat) (u : Value), (strs [s])[j]? = some u → (w.alloc (.cells #[.string s] 9)).cell? ((⟨w.heap.size, 0, none⟩ : Addr).add j) = some u := by
  intro j u hj
  rw [Addr.add_none, cell_of_blk (heap_alloc_new w _), Nat.zero_add]
  simpa [strs] using hj

set_option maxRecDepth 20000 in
set_option maxHeartbeats 1000000 in
theorem rnew_bad (n : Int) (w : World) (h : n < 1 ∨ 1200 < n) :
    Calls Tryz.prog 11 #[.int .i64 n] w fun e w' => e = .returned (.tuple #[.pointer none, .int .i64 2]) ∧ w' = w := by
  by_cases h1 : n < 1
  · go_enter Tryz.func11, Tryz.ntmps11
    go_wp2
    refine bodyPost_ret (results_tmp2 rfl _ _ _) rfl ?_
    exact ⟨rfl, rfl⟩
  · have h2 : 1200 < n := by omega
    clear h
    go_enter Tryz.func11, Tryz.ntmps11
    go_wp2
    refine bodyPost_ret (results_tmp2 rfl _ _ _) rfl ?_
    exact ⟨rfl, rfl⟩

theorem hfz5 {w w4 w5 : World} {B p : Nat} {v1 v2 : Value} {S : DS} {o : Obj} (h : RD w B p v1 v2 S) (hn : v1.ownBlock ≠ some p) (hb : Below w.heap.size w w4) (hg : (w4.alloc o).grownBy w5 v1.ownBlock) : w5.heap[p]? = w.heap[p]? := by
  have hl := h.lt
  rw [hg.block p (by have := hb.size; simp; omega) (fun e => hn e.symm), Below.heap_alloc _ _ _ (Nat.lt_of_lt_of_le hl hb.size)]
  exact hb.block p hl

theorem rnew_end {w0 w w4 w5 : World} {p : Nat} {v1 v5 : Value} {L L' : List ByteArray} {o : Obj} (h : RD w w0.heap.size p v1 (.slice none 0 0) ⟨L, [], -1, false, 0⟩) (h0 : Below w0.heap.size w0 w) (hb : Below w.heap.size w w4) (hg : (w4.alloc o).grownBy w5 v1.ownBlock)
    (how : w5.ownsRow w0.heap.size 9 1 v5 L'.length (strs L')) : RD (w5.setCell ⟨p, 0, none⟩ v5) w0.heap.size p v5 (.slice none 0 0) ⟨L', [], -1, false, 0⟩ ∧ Below w0.heap.size w0 (w5.setCell ⟨p, 0, none⟩ v5) := by
  have hn : v1.ownBlock ≠ some p := Dk.ne1 h (by decide)
  have hb5 := (hfz5 h hn hb hg).trans (Dk.blk h)
  have hn5 : v5.ownBlock ≠ some p := fun e => by
    obtain ⟨cur, hc⟩ := owns_type how e
    rw [hb5] at hc
    simp at hc
  have h4 : Below w0.heap.size w0 (w4.alloc o) := (h0.trans (hb.mono h0.size)).alloc (h0.trans (hb.mono h0.size)).size _
  refine ⟨⟨(blk_setCell hb5).trans (by simp), Dk.low h, owns_set_other how hn5 _, World.ownsRow_nil _ _ _ _⟩, ?_⟩
  exact (h4.grown hg h4.size (fun j hj => ((Dk.own1 h).lt j hj).1)).setCell (p := ⟨p, 0, none⟩) (Dk.low h) _

set_option maxRecDepth 20000 in
set_option maxHeartbeats 2000000 in
theorem rnew_any (n : Nat) (w : World) (h0 : 1 ≤ n) (h1 : n ≤ 1200) :
    Calls Tryz.prog 11 #[.int .i64 n] w fun e w' => ∃ p v1, e = .returned (.tuple #[.pointer (some ⟨p, 0, none⟩), .int .i64 0]) ∧ RD w' w.heap.size p v1 (.slice none 0 0) (ds0 n) ∧ Below w.heap.size w w' := by
  have i1 : (1 : Int) ≤ (n : Int) := by omega
  have i2 : (n : Int) ≤ 1200 := by omega
  obtain ⟨i0, hi, hz0, hz1, hz2⟩ := info_parts Tryz.info9
  go_enter Tryz.func11, Tryz.ntmps11
  go_wp2
  have hrd : RD (w.alloc (.cells #[.slice none 0 0, .slice none 0 0, .int .i64 (-1), .bool false, .int .i64 0] 77)) w.heap.size w.heap.size (.slice none 0 0) (.slice none 0 0) ⟨List.replicate 0 (secOf 0), [], -1, false, 0⟩ :=
    ⟨heap_alloc_new _ _, Nat.le_refl _, World.ownsRow_nil _ _ _ _, World.ownsRow_nil _ _ _ _⟩
  have hb : Below w.heap.size w (w.alloc (.cells #[.slice none 0 0, .slice none 0 0, .int .i64 (-1), .bool false, .int .i64 0] 77)) := (Below.refl _ _).alloc (Nat.le_refl _) _
  obtain ⟨p, hp⟩ : ∃ p, p = w.heap.size := ⟨_, rfl⟩
  rw [← hp] at hrd ⊢
  have HP := Lib.hid hp
  go_loopw [5] (fun i wr => ∃ (k : Nat) (v1 : Value), k ≤ n ∧ i = .int .i64 k ∧ RD wr w.heap.size p v1 (.slice none 0 0) ⟨List.replicate k (secOf 0), [], -1, false, 0⟩ ∧ Below w.heap.size w wr) (fun i _ => n - (intOf i).toNat)
  case atStart => exact ⟨0, _, by omega, rfl, by rw [← hp]; exact hrd, hb⟩
  case round =>
    clear hrd hb hp
    obtain ⟨k, v1, hk, rfl, hrd, hB⟩ := hrel
    by_cases hlt : k < n
    · have i3 : (k : Int) < (n : Int) := by omega
      have ho : wr.ownsRow w.heap.size 9 1 v1 k (strs (List.replicate k (secOf 0))) := by
        have := hrd.own1
        simp only [List.length_replicate] at this
        exact this
      obtain ⟨c0, c1, c2, c3, c4, hf⟩ := hrd.cells
      obtain ⟨a, c, rfl, hle, hcm, hg⟩ := owns_shape1 ho
      have HRD := Lib.hid hrd
      have HRDd : Hid (RD wr.drew w.heap.size p (.slice a k c) (.slice none 0 0) ⟨List.replicate k (secOf 0), [], -1, false, 0⟩) := Lib.hid (hrd.kept (w' := wr.drew) fun _ _ => rfl)
      have HB := Lib.hid hB
      have HO := Lib.hid ho
      have hrd2 := hrd
      clear hrd hB ho c1 c2 c3 c4 hg
      have hpl := HRD.out.lt
      have hcall := rzero_any wr.drew
      have hzc := fun w' (hb : Below wr.drew.heap.size wr.drew w') => (hb.cell (p := ⟨p, 0, none⟩) hpl).trans c0
      have hrw := fun w' (hb : Below wr.drew.heap.size wr.drew w') => owns_kept HO.out fun j hj => hb.block j (HO.out.lt j hj).2
      have HN1 := Lib.hid (Dk.ne1 hrd2 (by decide))
      have HC := Lib.hid hcall
      have HZ := Lib.hid hzc
      have HRW := Lib.hid hrw
      obtain ⟨z0, hz0'⟩ : ∃ z, z = secOf 0 := ⟨_, rfl⟩
      rw [← hz0'] at HC
      have HZ0 := Lib.hid hz0'
      clear hcall hzc hrw hz0'
      go_wp2_with fail
      go_region_law (first
        | (refine step_call0 (P := Tryz.prog) (op := ⟨some 24, _, _, _, _, _⟩) rfl 37 (enters_of Tryz.func37 (by kernel_rfl) rfl) rfl (.string z0) (fun w' => Below wr.drew.heap.size wr.drew w') HC.out ?_; intro w4 hb4; have c4 := HZ.out w4 hb4; have c4a := HZ.out _ (hb4.alloc hb4.size (.cells #[.string z0] 9)))
        | (refine step_append_at (P := Tryz.prog) (o := ⟨some 26, _, _, _, _, _⟩) rfl (.tmp 23) (.tmp 25) 49 rfl w.heap.size 9 i0 _ 1 16 Tryz.underlying49 hi hz0 hz1 hz2 rfl (by omega) _ _ _ (by rfl) ((HRW.out w4 hb4).alloc _) ⟨w4.heap.size, 0, none⟩ 1 1 (strs [z0]) (by rfl) rfl (str_cells w4 z0) (strs_one _) (by unfold maxLen; omega) (by omega) (by have h1 := hb4.size; have h2 := HB.out.size; have h3 : wr.drew.heap.size = wr.heap.size := rfl; simp; omega) ?_; intro v5 w5 how5 hg5 hat5; obtain ⟨a5, n5, rfl, _, _, _⟩ := owns_shape1 how5; have c5 := hg5.cell (HZ.out _ (hb4.alloc hb4.size _)) (fun e => HN1.out e.symm); have b5 := (hfz5 HRDd.out HN1.out hb4 hg5).trans (Dk.blk HRDd.out); have f5 := fun i => free_of_blk b5 i))
      all_goals (
        have hl2 : strs (List.replicate k (secOf 0)) ++ strs [z0] = strs (List.replicate (k + 1) (secOf 0)) := by rw [HZ0.out, ← strs_append, List.replicate_succ']
        rw [hl2] at how5
        have hend := rnew_end (L' := List.replicate (k + 1) (secOf 0)) HRDd.out (w0 := w) ⟨HB.out.os, HB.out.tape, HB.out.output, HB.out.size, HB.out.block⟩ hb4 hg5 (by rw [List.length_replicate]; exact how5)
        have HE := Lib.hid hend
        clear hend how5 hg5 hat5 hb4 c4 c5 b5 f5 hl2
        go_wp2
        go_roundw
        case rel => exact ⟨k + 1, _, by omega, by go_num, HE.out.1, HE.out.2⟩
        case measure => simp [intOf]; omega)
    · obtain rfl : k = n := by omega
      go_wp2
      refine bodyPost_ret (results_tmp2 rfl _ _ _) rfl ?_
      exact ⟨p, v1, rfl, hrd, hB⟩

theorem owns_src0 {w : World} {B e size n : Nat} {xs : List Value} {g c : Nat} (h : w.ownsRow B e size (.slice (some ⟨g, 0, none⟩) n c) n xs) : ∀ (j : Nat) (u : Value), xs[j]? = some u → w.cell? ((⟨g, 0, none⟩ : Addr).add j) = some u := h.cells rfl

theorem rcopy_step {w wa w5 : World} {q i : Nat} {v5 : Value} {C : Array Value} {e size n : Nat} {xs : List Value} (hB : Below w.heap.size w wa) (hq : q = w.heap.size) (hn : wa.heap[q]? = some (.cells C 77 (0, 0))) (he : e ≠ 77)
    (how : w5.ownsRow w.heap.size e size v5 n xs) (hg : wa.grownBy w5 none) :
    (w5.setCell ⟨q, i, none⟩ v5).heap[q]? = some (.cells (C.setIfInBounds i v5) 77 (0, 0)) ∧ (w5.setCell ⟨q, i, none⟩ v5).ownsRow w.heap.size e size v5 n xs ∧ Below w.heap.size w (w5.setCell ⟨q, i, none⟩ v5) ∧ q + 1 ≤ (w5.setCell ⟨q, i, none⟩ v5).heap.size ∧
    (∀ (B' e' size' n' : Nat) (u : Value) (ys : List Value), wa.ownsRow B' e' size' u n' ys → u.ownBlock ≠ some q → (w5.setCell ⟨q, i, none⟩ v5).ownsRow B' e' size' u n' ys) := by
  have hb5 := (hg.block q (lt_of_block hn) (by simp)).trans hn
  have hne : v5.ownBlock ≠ some q := fun e5 => by
    obtain ⟨cur, hc⟩ := owns_type how e5
    rw [hb5] at hc
    simp at hc
    exact he hc.2.symm
  refine ⟨blk_setCell hb5, owns_set_other how hne _, (hB.grown hg hB.size (fun j hj => by cases hj)).setCell (p := ⟨q, i, none⟩) (by show _ ≤ q; omega) _, by have := lt_of_block hb5; simp [World.setCell]; omega, fun B' e' size' n' u ys ho hu => ?_⟩
  exact owns_set_other (ho.kept hg (by cases hk : u.ownBlock with | none => exact .inl rfl | some k => exact .inr (by simp))) hu _

theorem gb_undrew {w w' : World} {row : Option Nat} (h : w.drew.grownBy w' row) : w.grownBy w' row := ⟨h.os, h.tape, h.output, h.size, h.block⟩


end Go.Proofs.YtpkeikbiblfidaaGreatDoor
/-
  An act to both disks (do).
-/
namespace Go.Proofs.YtpkeikbiblfidaaGreatDoor
open Go.RowKit
set_option linter.unusedVariables false
set_option linter.unusedSimpArgs false

/-- Both disks, in the same state; A: the blocks that are theirs. -/
def Two (w : World) (B p q : Nat) (A : Nat → Prop) (S : DS) : Prop :=
  ∃ v1 v2 u1 u2, PD w B p v1 v2 S ∧ RD w B q u1 u2 S ∧ (∀ k, foot p v1 v2 k → ¬ foot q u1 u2 k) ∧ ∀ k, A k ↔ foot p v1 v2 k ∨ foot q u1 u2 k

theorem Two.low {w B p q A S} (h : Two w B p q A S) : ∀ k, A k → B ≤ k ∧ k < w.heap.size := by
  obtain ⟨v1, v2, u1, u2, hp, hq, hd, hA⟩ := h
  intro k hk
  rcases (hA k).1 hk with h | h
  · exact hp.foot_low k h
  · exact hq.foot_low k h

theorem Two.kept {w w' : World} {B p q A S} (h : Two w B p q A S) (hk : ∀ k, A k → w'.heap[k]? = w.heap[k]?) : Two w' B p q A S := by
  obtain ⟨v1, v2, u1, u2, hp, hq, hd, hA⟩ := h
  exact ⟨v1, v2, u1, u2, hp.kept fun k h => hk k ((hA k).2 (.inl h)), hq.kept fun k h => hk k ((hA k).2 (.inr h)), hd, hA⟩
theorem Two.fr {w w' : World} {A' : Nat → Prop} {B p q A S} (h : Two w B p q A S) (hf : Fr A' w w') (hd : ∀ k, A k → ¬ A' k) : Two w' B p q A S := h.kept fun k hk => hf.block k (h.low k hk).2 (hd k hk)
theorem Two.below {w w' : World} {B p q A S} (h : Two w B p q A S) (hb : Below w.heap.size w w') : Two w' B p q A S := h.kept fun k hk => hb.block k (h.low k hk).2

/-- What an act leaves of both. -/
def TP (w : World) (B p q : Nat) (A : Nat → Prop) (S : DS) (w' : World) : Prop := ∃ A', Two w' B p q A' S ∧ Fr A w w' ∧ ∀ k, A' k → A k ∨ w.heap.size ≤ k

theorem TP.same {w w' : World} {B p q A S} (h : Two w B p q A S) (hb : Below w.heap.size w w') : TP w B p q A S w' := ⟨A, h.below hb, Fr.of_below hb, fun k hk => .inl hk⟩

/-- Behind the program's act the document's own disk is as it was. -/
theorem rd_after {w w1 : World} {B p q : Nat} {v1 v2 u1 u2 : Value} {S S' : DS} (hq : RD w B q u1 u2 S) (hd : ∀ k, foot p v1 v2 k → ¬ foot q u1 u2 k) (h : PP w B p v1 v2 S' w1) : RD w1 B q u1 u2 S := by
  obtain ⟨v1', v2', hp', hf, ht⟩ := h
  exact hq.fr hf fun k hk hk2 => hd k hk2 hk

theorem two_after {w w1 w2 : World} {B p q : Nat} {A : Nat → Prop} {v1 v2 u1 u2 : Value} {S S' : DS} (hq : RD w B q u1 u2 S) (hp : PD w B p v1 v2 S) (hd : ∀ k, foot p v1 v2 k → ¬ foot q u1 u2 k) (hA : ∀ k, A k ↔ foot p v1 v2 k ∨ foot q u1 u2 k)
    (h1 : PP w B p v1 v2 S' w1) (h2 : RP w1 B q u1 u2 S' w2) : TP w B p q A S' w2 := by
  obtain ⟨v1', v2', hp', hf, ht⟩ := h1
  obtain ⟨u1', u2', hq', hf2, ht2⟩ := h2
  have hd1 : ∀ k, foot p v1' v2' k → ¬ foot q u1 u2 k := fun k hk hk2 => by
    rcases ht k hk with h | h
    · exact hd k h hk2
    · have := (hq.foot_low k hk2).2; omega
  refine ⟨fun k => foot p v1' v2' k ∨ foot q u1' u2' k, ⟨v1', v2', u1', u2', hp'.fr hf2 hd1, hq', fun k hk hk2 => ?_, fun k => Iff.rfl⟩, ?_, ?_⟩
  · rcases ht2 k hk2 with h | h
    · exact hd1 k hk h
    · have := (hp'.foot_low k hk).2; omega
  · exact (hf.mono fun k hk => (hA k).2 (.inl hk)).trans hf2 fun k hk => .inl ((hA k).2 (.inr hk))
  · rintro k (hk | hk)
    · rcases ht k hk with h | h
      · exact .inl ((hA k).2 (.inl h))
      · exact .inr h
    · rcases ht2 k hk with h | h
      · exact .inl ((hA k).2 (.inr h))
      · have := hf.size; exact .inr (by omega)

theorem fr_cell {A : Nat → Prop} {w w' : World} (hf : Fr A w w') {b i : Nat} {u : Value} (hc : w.cell? ⟨b, i, none⟩ = some u) (hn : ¬ A b) : w'.cell? ⟨b, i, none⟩ = some u := by
  rw [World.cell?_of_block (w := w) (hf.block b (World.block_lt_of_cell? w _ hc) hn)]; exact hc

/-- An act: what is done, where, with which text, and what is kept. -/
structure AK where
  kind : Int
  at' : Int
  data : ByteArray
  ka : Option Addr
  kn : Nat
  kc : Nat
  K : List Bool

def AK.val (x : AK) : Value := .agg #[.int .i64 x.kind, .int .i64 x.at', .string x.data, .slice x.ka x.kn x.kc]

def DS.act (S : DS) (x : AK) : DS :=
  if x.kind.tmod 7 = 1 then (S.write x.at' x.data).2 else if x.kind.tmod 7 = 2 then S.flush.2 else if x.kind.tmod 7 = 3 then S.fuse x.at' else if x.kind.tmod 7 = 4 then S.crash x.K else if x.kind.tmod 7 = 5 then S.up.2 else S

theorem DS.ok.act {S : DS} {N : Nat} (h : S.ok N) (x : AK) (hx : x.at' ≤ 9223372036854775807) : (S.act x).ok (N + 1) := by
  unfold DS.act
  split
  · exact h.write _ _
  · split
    · exact h.flush
    · split
      · exact (h.fuse _ hx).mono (by omega)
      · split
        · exact (h.crash _).mono (by omega)
        · split
          · exact h.up.mono (by omega)
          · exact h.mono (by omega)

theorem pp_undrew {w w' : World} {B p : Nat} {v1 v2 : Value} {S : DS} (h : PP w.drew B p v1 v2 S w') : PP w B p v1 v2 S w' := by
  obtain ⟨a, b, c, d, e⟩ := h
  exact ⟨a, b, c, ⟨d.os, d.tape, d.output, d.size, d.block⟩, e⟩
theorem pp_fr {w w' : World} {B p : Nat} {v1 v2 : Value} {S : DS} (h : PP w B p v1 v2 S w') : Fr (foot p v1 v2) w w' := by
  obtain ⟨a, b, c, d, e⟩ := h
  exact d


end Go.Proofs.YtpkeikbiblfidaaGreatDoor
/-
  Whether both disks are alike; whether acts are few.
-/
namespace Go.Proofs.YtpkeikbiblfidaaGreatDoor
open Go.RowKit
set_option linter.unusedVariables false
set_option linter.unusedSimpArgs false

theorem has_of_lt {S : DS} {k : Nat} (h : k < S.L.length) : S.has (k : Int) := ⟨by omega, by omega⟩


/-- The slice value reads as acts, all below B. -/
structure Acts (w : World) (a : Option Addr) (n B : Nat) (X : Nat → AK) : Prop where
  big : n ≤ 9223372036854775807
  at0 : 0 < n → ∃ b off, a = some ⟨b, off, none⟩ ∧ b < B ∧ ∀ i, i < n → w.cell? ⟨b, off + i * 4, none⟩ = some (.int .i64 (X i).kind) ∧ w.cell? ⟨b, off + i * 4 + 1, none⟩ = some (.int .i64 (X i).at') ∧
    w.cell? ⟨b, off + i * 4 + 2, none⟩ = some (.string (X i).data) ∧ w.cell? ⟨b, off + i * 4 + 3, none⟩ = some (.slice (X i).ka (X i).kn (X i).kc)
  keep : ∀ i, i < n → Bl w (X i).ka (X i).kn (X i).K
  klow : ∀ i, i < n → ∀ b off, (X i).ka = some ⟨b, off, none⟩ → 0 < (X i).kn → b < B
  high : ∀ i, i < n → (X i).at' ≤ 9223372036854775807

theorem Acts.below {w w' : World} {a n B X} (h : Acts w a n B X) (hb : Below B w w') : Acts w' a n B X where
  big := h.big
  at0 := fun h0 => by
    obtain ⟨b, off, e, hl, hc⟩ := h.at0 h0
    refine ⟨b, off, e, hl, fun i hi => ?_⟩
    obtain ⟨c0, c1, c2, c3⟩ := hc i hi
    exact ⟨(hb.cell (by exact hl)).trans c0, (hb.cell (by exact hl)).trans c1, (hb.cell (by exact hl)).trans c2, (hb.cell (by exact hl)).trans c3⟩
  keep := fun i hi => (h.keep i hi).kept hb.size fun b off e h0 => hb.block b (h.klow i hi b off e h0)
  klow := h.klow
  high := h.high

/-- Whether acts are few, and their texts short. -/
def shortB (n : Nat) (X : Nat → AK) : Bool := decide (n ≤ 100 ∧ ∀ i, i < n → (X i).data.size ≤ 200)


end Go.Proofs.YtpkeikbiblfidaaGreatDoor
/-
  The walks of DiskPlays and DiskApart.
-/
namespace Go.Proofs.YtpkeikbiblfidaaGreatDoor
open Go.RowKit
set_option linter.unusedVariables false
set_option linter.unusedSimpArgs false

theorem RD.lowB {w B B' p v1 v2 S} (h : RD w B p v1 v2 S) (hl : B' ≤ B) : RD w B' p v1 v2 S := ⟨Dk.blk h, Nat.le_trans hl (Dk.low h), owns_low (Dk.own1 h) hl, owns_low (Dk.own2 h) hl⟩
theorem PD.lowB {w B B' p v1 v2 S} (h : PD w B p v1 v2 S) (hl : B' ≤ B) : PD w B' p v1 v2 S := by
  obtain ⟨fu, d, e⟩ := h
  exact ⟨fu, ⟨d.blk, Nat.le_trans hl d.low, owns_low d.own1 hl, owns_low d.own2 hl⟩, e⟩

theorem two_new {w1 w2 : World} {B p q : Nat} {v1 v2 u1 u2 : Value} {S : DS} (hp : PD w1 B p v1 v2 S) (hq : RD w2 w1.heap.size q u1 u2 S) (hb : Below w1.heap.size w1 w2) (hB : B ≤ w1.heap.size) : ∃ A, Two w2 B p q A S ∧ ∀ k, A k ↔ foot p v1 v2 k ∨ foot q u1 u2 k :=
  ⟨_, ⟨v1, v2, u1, u2, hp.below hb, hq.lowB hB, fun k h1 h2 => by
    have := (hp.foot_low k h1).2
    have := (hq.foot_low k h2).1
    omega, fun k => Iff.rfl⟩, fun k => Iff.rfl⟩

theorem TP.below {w w' w0 : World} {p q : Nat} {A : Nat → Prop} {S S' : DS} (h : TP w w0.heap.size p q A S' w') (h0 : Two w w0.heap.size p q A S) (hb : Below w0.heap.size w0 w) : Below w0.heap.size w0 w' := by
  obtain ⟨A', hT, hF, hl⟩ := h
  exact hb.trans (hF.below (fun k hk => (h0.low k hk).1) hb.size)


end Go.Proofs.YtpkeikbiblfidaaGreatDoor

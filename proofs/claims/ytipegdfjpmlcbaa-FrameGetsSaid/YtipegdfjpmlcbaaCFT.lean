/-
  The document's Get of a frame: the state while it reads.
-/
import Derived.Test.YtipegdfjpmlcbaaCFS
import Derived.Test.YtipegdfjpmlcbaaA8
namespace Go.Proofs.Ytipegdfjpmlcbaa
open Go.RowKit
set_option linter.unusedVariables false
set_option linter.unusedSimpArgs false

/-- The document's reader at q: what is left, and why it stopped. -/
def RQ (w : World) (q : Nat) (ys : List UInt8) (e : Int) : Prop := ∃ xs i, RS w q q xs i e ∧ restOf xs i e = ys
theorem RQ.frame {w w' : World} {q : Nat} {ys : List UInt8} {e : Int} (h : RQ w q ys e) (hs : w.heap.size ≤ w'.heap.size) (hb : ∀ k, k ≤ q → w'.heap[k]? = w.heap[k]?) : RQ w' q ys e := by
  obtain ⟨xs, i, hr, hd⟩ := h
  obtain ⟨a, n, cap, hbk, hrd, hi, hlB, hBq⟩ := hr.blk
  exact ⟨xs, i, ⟨a, n, cap, (hb q (Nat.le_refl _)).trans hbk, hrd.kept0 hs (fun b off e h0 => hb b (Nat.le_of_lt (hlB _ e h0))), hi, hlB, hBq⟩, hd⟩
theorem RQ.lt {w : World} {q : Nat} {ys : List UInt8} {e : Int} (h : RQ w q ys e) : q < w.heap.size := by
  obtain ⟨xs, i, hr, hd⟩ := h
  exact hr.lt
theorem RQ.new {w : World} {a : Option Addr} {n c : Nat} {b : List UInt8} (h : Rd w a n c b) : RQ (w.alloc (.cells #[.slice a n c, .int .i64 0, .int .i64 0] 57)) w.heap.size b 0 := by
  refine ⟨b, 0, ⟨a, n, c, heap_alloc_new w _, h.later ((Below.refl _ _).alloc (Nat.le_refl _) _), Nat.zero_le _, fun x e h0 => ?_, Nat.le_refl _⟩, rfl⟩
  obtain ⟨bb, off, ha, hlt, -⟩ := h.at0 h0
  rw [ha] at e
  cases e
  exact hlt
theorem rq_num {w : World} {q : Nat} {ys : List UInt8} {e : Int} (h : RQ w q ys e) (wd : Int) :
    Calls Try.prog 28 #[.pointer (some ⟨q, 0, none⟩), .int .i64 wd] w fun r w' => r = .returned (.int .u64 ((rnum ys e wd).1 : Int)) ∧ RQ w' q (rnum ys e wd).2.1 (rnum ys e wd).2.2 ∧ w.grownBy w' (some q) := by
  obtain ⟨xs, i, hr, rfl⟩ := h
  exact (rnum_any q q xs i e wd w hr).mono fun r w' ⟨h1, h2, i', h3, h4⟩ => ⟨h1, ⟨xs, i', h3, h4⟩, h2⟩
theorem rq_bytes {w : World} {q : Nat} {ys : List UInt8} {e : Int} (h : RQ w q ys e) (m : Int) :
    Calls Try.prog 29 #[.pointer (some ⟨q, 0, none⟩), .int .i64 m] w fun r w' => ∃ a n c, r = .returned (.slice a n c) ∧ Rd w' a n c (rbytes ys e m).1 ∧ RQ w' q (rbytes ys e m).2.1 (rbytes ys e m).2.2 ∧ w.grownBy w' (some q) := by
  obtain ⟨xs, i, hr, rfl⟩ := h
  exact (rbytes_any q q xs i e m w hr).mono fun r w' h => by
    obtain ⟨a, n, c, h1, h2, h3, i', h4, h5⟩ := h
    exact ⟨a, n, c, h1, h2, ⟨xs, i', h4, h5⟩, h3⟩

/-- Ahead of the frame's box: the result's place, the reader. -/
structure EP (w0 w : World) (q : Nat) (ys : List UInt8) : Prop where
  res : w.heap[w0.heap.size]? = some (.cells frZ 26 (0, 0))
  rd : RQ w q ys 0
  fq : w0.heap.size < q
  bel : Below w0.heap.size w0 w
/-- The result's place, the reader at q, the frame's box at g. -/
structure DP (w0 w : World) (q g : Nat) (f : FR) (lv : Value) (ys : List UInt8) (e : Int) : Prop where
  res : w.heap[w0.heap.size]? = some (.cells frZ 26 (0, 0))
  rd : RQ w q ys e
  box : w.heap[g]? = some (.cells (frC f lv) 26 (0, 0))
  fq : w0.heap.size < q
  fg : q < g
  own : w.ownsRow (g + 1) 9 1 lv f.list.length (tvs f.list)
  bel : Below w0.heap.size w0 w

section
variable {w0 w w' : World} {q g : Nat} {f f' : FR} {lv : Value} {ys ys' : List UInt8} {e e' : Int}
theorem EP.num (h : EP w0 w q ys) (k : Nat) (wi : Int) (hw : wi = (k : Int)) (h1 : 1 ≤ k) (h8 : k ≤ 8) (hl : k ≤ ys.length) :
    Calls Try.prog 28 #[.pointer (some ⟨q, 0, none⟩), .int .i64 wi] w fun r w' => r = .returned (.int .u64 (numN (ys.take k) : Int)) ∧ EP w0 w' q (ys.drop k) :=
  (rq_num h.rd wi).mono fun r w' hh => by
    rw [rnum_take ys k wi hw h1 h8 hl] at hh
    obtain ⟨he, hr, hg⟩ := hh
    have hf := h.fq
    exact ⟨he, ⟨(hg.block _ (lt_of_block h.res) (by simp; omega)).trans h.res, hr, hf, h.bel.grown hg h.bel.size (fun k e2 => by cases e2; omega)⟩⟩
theorem EP.begin (h : EP w0 w q ys) (f : FR) (hl : f.list = []) : DP w0 (w.alloc (.cells (frC f (.slice none 0 0)) 26)) q w.heap.size f (.slice none 0 0) ys 0 where
  res := (heap_alloc_old _ _ (lt_of_block h.res)).trans h.res
  rd := h.rd.frame (by simp) (fun k hk => heap_alloc_old _ _ (Nat.lt_of_le_of_lt hk h.rd.lt))
  box := heap_alloc_new _ _
  fq := h.fq
  fg := h.rd.lt
  own := by rw [hl]; exact World.ownsRow_nil _ _ _ _
  bel := h.bel.alloc h.bel.size _
theorem DP.gt (h : DP w0 w q g f lv ys e) {k : Nat} (hk : lv.ownBlock = some k) : g < k := (h.own.lt k hk).1
theorem DP.lt (h : DP w0 w q g f lv ys e) : g < w.heap.size := lt_of_block h.box
theorem DP.read (h : DP w0 w q g f lv ys e) (hr : RQ w' q ys' e') (hg : w.grownBy w' (some q)) : DP w0 w' q g f lv ys' e' where
  res := (hg.block _ (lt_of_block h.res) (fun e2 => by have := h.fq; simp at e2; omega)).trans h.res
  rd := hr
  box := (hg.block _ h.lt (fun e2 => by have := h.fg; simp at e2; omega)).trans h.box
  fq := h.fq
  fg := h.fg
  own := h.own.kept hg (.inr (fun e2 => by have := h.gt e2; have := h.fg; omega))
  bel := h.bel.grown hg h.bel.size (fun k e2 => by cases e2; have := h.fq; omega)
theorem DP.set (h : DP w0 w q g f lv ys e) (i : Nat) (u : Value) (hs : (frC f lv).setIfInBounds i u = frC f' lv) (hl : f'.list = f.list) : DP w0 (w.setCell ⟨g, i, none⟩ u) q g f' lv ys e where
  res := (Below.heap_setCell _ _ _ _ (by have := h.fq; have := h.fg; simp; omega)).trans h.res
  rd := h.rd.frame (by simp [World.setCell]) (fun k hk => Below.heap_setCell _ _ _ _ (by have := h.fg; simp; omega))
  box := (blk_setCell h.box).trans (by rw [hs])
  fq := h.fq
  fg := h.fg
  own := by rw [hl]; exact h.own.kept (gb_setCell (World.grownBy.refl _ _)) (.inr (fun e2 => by have := h.gt e2; omega))
  bel := Below.setCell h.bel (show w0.heap.size ≤ (⟨g, i, none⟩ : Addr).block from by have := h.fq; have := h.fg; simp; omega) u
theorem DP.later (h : DP w0 w q g f lv ys e) (hb : Below w.heap.size w w') : DP w0 w' q g f lv ys e where
  res := (hb.block _ (lt_of_block h.res)).trans h.res
  rd := h.rd.frame hb.size (fun k hk => hb.block k (Nat.lt_of_le_of_lt hk h.rd.lt))
  box := (hb.block _ h.lt).trans h.box
  fq := h.fq
  fg := h.fg
  own := owns_kept' h.own fun k hk => hb.block k (h.own.lt k hk).2
  bel := h.bel.trans (hb.mono h.bel.size)
theorem DP.cell (h : DP w0 w q g f lv ys e) (i : Nat) : w.cell? ⟨g, i, none⟩ = (frC f lv)[i]? := cell_of_blk h.box i
theorem DP.free (h : DP w0 w q g f lv ys e) (i : Nat) : w.frozen? ⟨g, i, none⟩ = false := free_of_blk h.box i
theorem DP.num (h : DP w0 w q g f lv ys e) (wd : Int) :
    Calls Try.prog 28 #[.pointer (some ⟨q, 0, none⟩), .int .i64 wd] w fun r w' => r = .returned (.int .u64 ((rnum ys e wd).1 : Int)) ∧ DP w0 w' q g f lv (rnum ys e wd).2.1 (rnum ys e wd).2.2 :=
  (rq_num h.rd wd).mono fun r w' hh => ⟨hh.1, h.read hh.2.1 hh.2.2⟩
theorem DP.num_ok (h : DP w0 w q g f lv ys 0) (k : Nat) (wi : Int) (hw : wi = (k : Int)) (h1 : 1 ≤ k) (h8 : k ≤ 8) (hl : k ≤ ys.length) :
    Calls Try.prog 28 #[.pointer (some ⟨q, 0, none⟩), .int .i64 wi] w fun r w' => r = .returned (.int .u64 (numN (ys.take k) : Int)) ∧ DP w0 w' q g f lv (ys.drop k) 0 := by
  have := h.num wi
  rw [rnum_take ys k wi hw h1 h8 hl] at this
  exact this
theorem DP.bytes (h : DP w0 w q g f lv ys e) (m : Int) :
    Calls Try.prog 29 #[.pointer (some ⟨q, 0, none⟩), .int .i64 m] w fun r w' => ∃ a n c, r = .returned (.slice a n c) ∧ Rd w' a n c (rbytes ys e m).1 ∧ DP w0 w' q g f lv (rbytes ys e m).2.1 (rbytes ys e m).2.2 :=
  (rq_bytes h.rd m).mono fun r w' hh => by
    obtain ⟨a, n, c, h1, h2, h3, h4⟩ := hh
    exact ⟨a, n, c, h1, h2, h.read h3 h4⟩
theorem DP.tx (h : DP w0 w q g f lv ys e) : ∃ a n c, lv = .slice a n c ∧ Tx w a n c f.list ∧ ∀ b off, a = some ⟨b, off, none⟩ → g < b := by
  have ho := h.own
  rcases ho.2 with ⟨rfl, hn⟩ | ⟨k, cap, cur, rfl, hb, hg, hle, hm, hcs, ht⟩
  · have : f.list = [] := List.eq_nil_of_length_eq_zero hn
    exact ⟨none, 0, 0, rfl, by rw [this]; exact tx_nil w, fun b off e => by cases e⟩
  · refine ⟨_, _, _, rfl, ⟨rfl, hle, hm, fun h0 => ⟨k, 0, rfl, lt_of_block hg, fun i hi => ?_⟩⟩, fun b off e => by cases e; exact hb⟩
    have := ho.cells (g := k) rfl i (strV (f.list[i]?.getD [])) (by simp [tvs, List.getElem?_eq_getElem hi])
    rw [Addr.add_none] at this
    exact this
end
end Go.Proofs.Ytipegdfjpmlcbaa


/-
  A frame that is being read out of a body: the state, step by step.
-/
import Derived.Test.YtipegdfjpmlcbaaCF3
import Derived.Laws.IdiomCopy
namespace Go.Proofs.Ytipegdfjpmlcbaa
open Go.RowKit
set_option linter.unusedVariables false
set_option linter.unusedSimpArgs false

theorem owns_kept' {w w' : World} {B e size n : Nat} {v : Value} {xs : List Value} (h : w.ownsRow B e size v n xs) (hk : ∀ k, v.ownBlock = some k → w'.heap[k]? = w.heap[k]?) : w'.ownsRow B e size v n xs := by
  refine ⟨h.1, ?_⟩
  rcases h.2 with hn | ⟨g, cap, cur, rfl, hb, hgg, rest⟩
  · exact .inl hn
  · exact .inr ⟨g, cap, cur, rfl, hb, by rw [hk g rfl]; exact hgg, rest⟩
theorem owns_type' {w : World} {B e size n : Nat} {v : Value} {xs : List Value} (h : w.ownsRow B e size v n xs) {k : Nat} (hk : v.ownBlock = some k) : ∃ cur, w.heap[k]? = some (.cells cur e (0, 0)) := by
  rcases h.2 with ⟨rfl, _⟩ | ⟨g, cap, cur, rfl, hb, hgg, _⟩
  · simp [Value.ownBlock] at hk
  · simp [Value.ownBlock] at hk
    subst hk
    exact ⟨cur, hgg⟩

def layA (cs : Array Value) (o : Nat) : List Value → Array Value
  | [] => cs
  | v :: r => layA (cs.setIfInBounds o v) (o + 1) r
theorem layA_list : ∀ (vs : List Value) (cs : Array Value) (o : Nat), o + vs.length ≤ cs.size → (layA cs o vs).toList = cs.toList.take o ++ vs ++ cs.toList.drop (o + vs.length)
  | [], cs, o, h => by simp [layA]
  | v :: r, cs, o, h => by
    simp only [List.length_cons] at h
    rw [layA, layA_list r _ _ (by simp; omega)]
    simp only [Array.toList_setIfInBounds, List.length_cons]
    have h1 : o < cs.toList.length := by simp; omega
    rw [List.take_set, List.drop_set_of_lt (by omega), List.take_add_one, List.getElem?_eq_getElem h1]
    simp only [Option.toList, List.append_assoc, List.cons_append, List.nil_append]
    rw [List.set_append_right _ _ (by simp; omega)]
    simp [show min o cs.size = o from by omega]
    rw [show o + 1 + r.length = o + (r.length + 1) from by omega]
theorem layA_size : ∀ (vs : List Value) (cs : Array Value) (o : Nat), (layA cs o vs).size = cs.size
  | [], cs, o => rfl
  | v :: r, cs, o => by rw [layA, layA_size r]; simp
theorem blk_setCells {b : Nat} {t : TypeId} : ∀ (vs : List Value) (o : Nat) {w : World} {cs : Array Value}, w.heap[b]? = some (.cells cs t (0, 0)) → (w.setCells b o vs).heap[b]? = some (.cells (layA cs o vs) t (0, 0))
  | [], o, w, cs, h => h
  | v :: r, o, w, cs, h => blk_setCells r (o + 1) (blk_setCell h)
theorem gb_setCells {w : World} {b : Nat} : ∀ (vs : List Value) (o : Nat) {w' : World}, w.grownBy w' (some b) → w.grownBy (w'.setCells b o vs) (some b)
  | [], o, w', h => h
  | v :: r, o, w', h => gb_setCells r (o + 1) (gb_setCell h)


def tvs (L : List (List UInt8)) : List Value := L.map strV

/-- The box of the frame at w0's end, the result's behind it, the reader at p. -/
structure OP (w0 w : World) (p : Nat) (f : FR) (lv : Value) (ys : List UInt8) (e : Int) : Prop where
  box : w.heap[w0.heap.size]? = some (.cells (frC f lv) 26 (0, 0))
  res : w.heap[w0.heap.size + 1]? = some (.cells (frC fr0 (.slice none 0 0)) 26 (0, 0))
  rd : RW w p ys e
  far : w0.heap.size + 2 ≤ p
  own : w.ownsRow w0.heap.size 9 1 lv f.list.length (tvs f.list)
  bel : Below w0.heap.size w0 w

section
variable {w0 w w' : World} {p : Nat} {f f' : FR} {lv lv' : Value} {ys ys' : List UInt8} {e e' : Int}
theorem frC_no_byte (f : FR) (a : Option Addr) (n c : Nat) (j : Nat) (z : Int) : (frC f (.slice a n c))[j]? ≠ some (.int .u8 z) := by
  unfold frC strV
  match j with
  | 0 => simp
  | 1 => simp
  | 2 => simp
  | 3 => simp
  | 4 => simp
  | 5 => simp
  | 6 => simp
  | 7 => simp
  | 8 => simp
  | 9 => simp
  | 10 => simp
  | j + 11 => simp
theorem OP.ne_box (h : OP w0 w p f lv ys e) : lv.ownBlock ≠ some w0.heap.size := fun e2 => by
  obtain ⟨cur, hc⟩ := owns_type' h.own e2
  rw [h.box] at hc
  simp at hc
theorem OP.ne_res (h : OP w0 w p f lv ys e) : lv.ownBlock ≠ some (w0.heap.size + 1) := fun e2 => by
  obtain ⟨cur, hc⟩ := owns_type' h.own e2
  rw [h.res] at hc
  simp at hc
theorem OP.ne_rd (h : OP w0 w p f lv ys e) : lv.ownBlock ≠ some p := fun e2 => by
  obtain ⟨cur, hc⟩ := owns_type' h.own e2
  obtain ⟨a, n, cap, hb, _⟩ := h.rd.blk
  rw [hb] at hc
  simp at hc
theorem OP.lt (h : OP w0 w p f lv ys e) : w0.heap.size + 1 < w.heap.size := lt_of_block h.res
/-- The reader was asked. -/
theorem OP.read (h : OP w0 w p f lv ys e) (hr : RW w' p ys' e') (hg : w.grownBy w' (some p)) : OP w0 w' p f lv ys' e' where
  box := (hg.block _ (by have := h.lt; omega) (fun e2 => by have := h.far; simp at e2; omega)).trans h.box
  res := (hg.block _ h.lt (fun e2 => by have := h.far; simp at e2; omega)).trans h.res
  rd := hr
  far := h.far
  own := h.own.kept hg (.inr h.ne_rd)
  bel := h.bel.grown hg h.bel.size (fun k e2 => by cases e2; have := h.far; omega)
/-- One field of the frame is another one. -/
theorem OP.set (h : OP w0 w p f lv ys e) (i : Nat) (u : Value) (hs : (frC f lv).setIfInBounds i u = frC f' lv) (hl : f'.list = f.list) : OP w0 (w.setCell ⟨w0.heap.size, i, none⟩ u) p f' lv ys e where
  box := (blk_setCell h.box).trans (by rw [hs])
  res := (Below.heap_setCell _ _ _ _ (by simp)).trans h.res
  rd := by
    obtain ⟨a, n, cap, hb, hr, hl⟩ := h.rd.blk
    have hf := h.far
    refine ⟨a, n, cap, (Below.heap_setCell _ _ _ _ (by simp; omega)).trans hb, hr.kept0 (by simp [World.setCell]) (fun b off e2 h0 => Below.heap_setCell _ _ _ _ (fun e3 => ?_)), hl⟩
    obtain ⟨b', off', e4, hlt, hc⟩ := hr.at0 h0
    rw [e2] at e4
    cases e4
    have h1 := hc 0 h0
    simp at e3
    subst e3
    rw [cell_of_blk h.box] at h1
    rcases h.own.2 with ⟨rfl, _⟩ | ⟨g, cap', cur, rfl, _⟩
    · exact frC_no_byte _ _ _ _ _ _ h1
    · exact frC_no_byte _ _ _ _ _ _ h1
  far := h.far
  own := by rw [hl]; exact h.own.kept (gb_setCell (World.grownBy.refl _ _)) (.inr h.ne_box)
  bel := Below.setCell h.bel (show w0.heap.size ≤ (⟨w0.heap.size, i, none⟩ : Addr).block from Nat.le_refl _) u
theorem OP.cell (h : OP w0 w p f lv ys e) (i : Nat) : w.cell? ⟨w0.heap.size, i, none⟩ = (frC f lv)[i]? := cell_of_blk h.box i
theorem OP.free (h : OP w0 w p f lv ys e) (i : Nat) : w.frozen? ⟨w0.heap.size, i, none⟩ = false := free_of_blk h.box i
theorem OP.frm (h : OP w0 w p f lv ys e) : Frm w f (frV f lv) := by
  have ho := h.own
  rcases ho.2 with ⟨rfl, hn⟩ | ⟨g, cap, cur, rfl, hb, hg, hle, hm, hcs, ht⟩
  · have : f.list = [] := List.eq_nil_of_length_eq_zero hn
    exact ⟨none, 0, 0, rfl, by rw [this]; exact tx_nil w⟩
  · refine ⟨_, _, _, rfl, ⟨rfl, hle, hm, fun h0 => ⟨g, 0, rfl, lt_of_block hg, fun i hi => ?_⟩⟩⟩
    have := ho.cells (g := g) rfl i (strV (f.list[i]?.getD [])) (by simp [tvs, List.getElem?_eq_getElem hi])
    rw [Addr.add_none] at this
    exact this
end

/-- The reader's calls, in this state. -/
theorem op_num {w0 w : World} {p : Nat} {f : FR} {lv : Value} {ys : List UInt8} {e : Int} (h : OP w0 w p f lv ys e) (wd : Int) :
    Calls Try.prog 27 #[.pointer (some ⟨p, 0, none⟩), .int .i64 wd] w fun r w' => r = .returned (.int .u64 ((rnum ys e wd).1 : Int)) ∧ OP w0 w' p f lv (rnum ys e wd).2.1 (rnum ys e wd).2.2 :=
  (num_any p ys e wd w h.rd).mono fun r w' hh => ⟨hh.1, h.read hh.2.1 hh.2.2⟩
theorem op_left {w0 w : World} {p : Nat} {f : FR} {lv : Value} {ys : List UInt8} {e : Int} (h : OP w0 w p f lv ys e) :
    Calls Try.prog 31 #[.pointer (some ⟨p, 0, none⟩)] w fun r w' => r = .returned (.int .i64 (ys.length : Int)) ∧ w' = w :=
  (left_any p ys e w h.rd).mono fun r w' hh => ⟨hh.1, hh.2.symm⟩
theorem op_why {w0 w : World} {p : Nat} {f : FR} {lv : Value} {ys : List UInt8} {e : Int} (h : OP w0 w p f lv ys e) :
    Calls Try.prog 34 #[.pointer (some ⟨p, 0, none⟩)] w fun r w' => r = .returned (.int .i64 e) ∧ w' = w :=
  (why_any p ys e w h.rd).mono fun r w' hh => ⟨hh.1, hh.2.symm⟩
theorem op_bytes {w0 w : World} {p : Nat} {f : FR} {lv : Value} {ys : List UInt8} {e : Int} (h : OP w0 w p f lv ys e) (m : Int) :
    Calls Try.prog 30 #[.pointer (some ⟨p, 0, none⟩), .int .i64 m] w fun r w' => ∃ a n c, r = .returned (.slice a n c) ∧ Rd w' a n c (rbytes ys e m).1 ∧ OP w0 w' p f lv (rbytes ys e m).2.1 (rbytes ys e m).2.2 :=
  (bytes_any p ys e m w h.rd).mono fun r w' hh => by
    obtain ⟨a, n, c, rfl, h1, _, h3, h4⟩ := hh
    exact ⟨a, n, c, rfl, h1, h.read h3 h4⟩
theorem rnum_lt (ys : List UInt8) (e : Int) (wd : Nat) (wi : Int) (hw : wi = (wd : Int)) : (rnum ys e wi).1 < 256 ^ wd := by
  subst hw
  unfold rnum
  split
  · exact Nat.pow_pos (by omega)
  split
  · exact Nat.pow_pos (by omega)
  split
  · exact Nat.pow_pos (by omega)
  · simp only [Int.toNat_natCast]
    exact num_take_lt ys wd

/-- The end: the frame, or nothing, in the result's place. -/
theorem op_res {w0 w : World} {p : Nat} {f : FR} {lv : Value} {ys : List UInt8} {e : Int} (h : OP w0 w p f lv ys e) (vs : List Value) (hv : vs.length = 11) :
    (w.setCells (w0.heap.size + 1) 0 vs).heap[w0.heap.size + 1]? = some (.cells vs.toArray 26 (0, 0)) ∧ Below w0.heap.size w0 (w.setCells (w0.heap.size + 1) 0 vs) ∧ (lv.ownBlock ≠ some (w0.heap.size + 1)) ∧ (w.setCells (w0.heap.size + 1) 0 vs).ownsRow w0.heap.size 9 1 lv f.list.length (tvs f.list) := by
  have hg : w.grownBy (w.setCells (w0.heap.size + 1) 0 vs) (some (w0.heap.size + 1)) := gb_setCells vs 0 (World.grownBy.refl _ _)
  refine ⟨?_, h.bel.grown hg h.bel.size (fun k e2 => by cases e2; omega), h.ne_res, h.own.kept hg (.inr h.ne_res)⟩
  rw [blk_setCells vs 0 h.res]
  have h11 : (frC fr0 (.slice none 0 0)).size = 11 := rfl
  have hl := layA_list vs (frC fr0 (.slice none 0 0)) 0 (by omega)
  have : layA (frC fr0 (.slice none 0 0)) 0 vs = vs.toArray := by
    apply Array.ext'
    rw [hl, List.drop_eq_nil_of_le (by simp [h11, hv])]
    simp
  rw [this]
/-- A frame's row stands. -/
theorem frm_own {w0 w : World} {f : FR} {lv : Value} (ho : w.ownsRow w0.heap.size 9 1 lv f.list.length (tvs f.list)) : Frm w f (frV f lv) := by
  rcases ho.2 with ⟨rfl, hn⟩ | ⟨g, cap, cur, rfl, hb, hg, hle, hm, hcs, ht⟩
  · have : f.list = [] := List.eq_nil_of_length_eq_zero hn
    exact ⟨none, 0, 0, rfl, by rw [this]; exact tx_nil w⟩
  · refine ⟨_, _, _, rfl, ⟨rfl, hle, hm, fun h0 => ⟨g, 0, rfl, lt_of_block hg, fun i hi => ?_⟩⟩⟩
    have := ho.cells (g := g) rfl i (strV (f.list[i]?.getD [])) (by simp [tvs, List.getElem?_eq_getElem hi])
    rw [Addr.add_none] at this
    exact this

def set11 (w : World) (b : Nat) (v0 v1 v2 v3 v4 v5 v6 v7 v8 v9 v10 : Value) : World := (((((((((((w.setCell ⟨b, 0, none⟩ v0).setCell ⟨b, 1, none⟩ v1).setCell ⟨b, 2, none⟩ v2).setCell ⟨b, 3, none⟩ v3).setCell ⟨b, 4, none⟩ v4).setCell ⟨b, 5, none⟩ v5).setCell ⟨b, 6, none⟩ v6).setCell ⟨b, 7, none⟩ v7).setCell ⟨b, 8, none⟩ v8).setCell ⟨b, 9, none⟩ v9).setCell ⟨b, 10, none⟩ v10)
/-- The result's place behind the end. -/
theorem op_end {w0 w : World} {p : Nat} {f : FR} {lv : Value} {ys : List UInt8} {e : Int} (h : OP w0 w p f lv ys e) (v0 v1 v2 v3 v4 v5 v6 v7 v8 v9 v10 : Value) :
    ((set11 w (w0.heap.size + 1) v0 v1 v2 v3 v4 v5 v6 v7 v8 v9 v10).cell? ⟨w0.heap.size + 1, 0, none⟩ = some v0 ∧ (set11 w (w0.heap.size + 1) v0 v1 v2 v3 v4 v5 v6 v7 v8 v9 v10).cell? ⟨w0.heap.size + 1, 1, none⟩ = some v1 ∧ (set11 w (w0.heap.size + 1) v0 v1 v2 v3 v4 v5 v6 v7 v8 v9 v10).cell? ⟨w0.heap.size + 1, 2, none⟩ = some v2 ∧ (set11 w (w0.heap.size + 1) v0 v1 v2 v3 v4 v5 v6 v7 v8 v9 v10).cell? ⟨w0.heap.size + 1, 3, none⟩ = some v3 ∧ (set11 w (w0.heap.size + 1) v0 v1 v2 v3 v4 v5 v6 v7 v8 v9 v10).cell? ⟨w0.heap.size + 1, 4, none⟩ = some v4 ∧ (set11 w (w0.heap.size + 1) v0 v1 v2 v3 v4 v5 v6 v7 v8 v9 v10).cell? ⟨w0.heap.size + 1, 5, none⟩ = some v5 ∧ (set11 w (w0.heap.size + 1) v0 v1 v2 v3 v4 v5 v6 v7 v8 v9 v10).cell? ⟨w0.heap.size + 1, 6, none⟩ = some v6 ∧ (set11 w (w0.heap.size + 1) v0 v1 v2 v3 v4 v5 v6 v7 v8 v9 v10).cell? ⟨w0.heap.size + 1, 7, none⟩ = some v7 ∧ (set11 w (w0.heap.size + 1) v0 v1 v2 v3 v4 v5 v6 v7 v8 v9 v10).cell? ⟨w0.heap.size + 1, 8, none⟩ = some v8 ∧ (set11 w (w0.heap.size + 1) v0 v1 v2 v3 v4 v5 v6 v7 v8 v9 v10).cell? ⟨w0.heap.size + 1, 9, none⟩ = some v9 ∧ (set11 w (w0.heap.size + 1) v0 v1 v2 v3 v4 v5 v6 v7 v8 v9 v10).cell? ⟨w0.heap.size + 1, 10, none⟩ = some v10) ∧ Below w0.heap.size w0 (set11 w (w0.heap.size + 1) v0 v1 v2 v3 v4 v5 v6 v7 v8 v9 v10) ∧ Frm (set11 w (w0.heap.size + 1) v0 v1 v2 v3 v4 v5 v6 v7 v8 v9 v10) f (frV f lv) := by
  have hh := op_res h [v0, v1, v2, v3, v4, v5, v6, v7, v8, v9, v10] rfl
  change (set11 w (w0.heap.size + 1) v0 v1 v2 v3 v4 v5 v6 v7 v8 v9 v10).heap[w0.heap.size + 1]? = _ ∧ Below w0.heap.size w0 (set11 w (w0.heap.size + 1) v0 v1 v2 v3 v4 v5 v6 v7 v8 v9 v10) ∧ _ ∧ (set11 w (w0.heap.size + 1) v0 v1 v2 v3 v4 v5 v6 v7 v8 v9 v10).ownsRow _ _ _ _ _ _ at hh
  obtain ⟨h1, h2, _, h4⟩ := hh
  refine ⟨⟨?_, ?_, ?_, ?_, ?_, ?_, ?_, ?_, ?_, ?_, ?_⟩, h2, frm_own h4⟩ <;> rw [cell_of_blk h1] <;> rfl
end Go.Proofs.Ytipegdfjpmlcbaa


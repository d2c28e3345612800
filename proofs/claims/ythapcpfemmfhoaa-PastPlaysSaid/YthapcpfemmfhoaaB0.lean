/-
  Slices of bytes that are read ('Rd'), rows of the call's own, and an append of bytes that are read.
-/
import Derived.Test.YthapcpfemmfhoaaRows
import Derived.WalkKit
import Derived.WalkSpells
import Derived.WalkLawsBesides
import Derived.Lib.Hide
import Derived.Laws.CopyOwn
import Derived.Laws.AppendOwnNone
import Derived.Deep.OwnRows
import Derived.WalkMore
import Derived.ScopeJumps
namespace Go.Proofs.Ythapcpfemmfhoaa
open Go.RowKit
set_option linter.unusedVariables false

/-- A scope with one label, to which the run jumps forward at most once: behind the jump it goes on with what stands at the label. -/
theorem wp_scope_once {P : Program} {a : Act} {w : World} {Q : Exit → Act → World → Prop} {c rest : Code} (l : Nat) (hf : findLabel c l = some rest)
    (first : c.wp P (Exit.jump l (fun a w => rest.wp P (Exit.noGoto Q) a w) Q) a w) : (Code.scope c).wp P Q a w :=
  wp_scope_jumps l (fun a w => rest.wp P (Exit.noGoto Q) a w) (fun _ _ => 0) hf first (fun a w hJ b k cs => by
    obtain ⟨e, a1, w1, hq, harr⟩ := hJ b k cs
    refine ⟨e, a1, w1, ?_, harr⟩
    cases e <;> first | exact hq | exact hq.elim)

/-- The slice value '.slice a n cap' reads in w as the bytes xs. -/
structure Rd (w : World) (a : Option Addr) (n cap : Nat) (xs : List UInt8) : Prop where
  len : xs.length = n
  le : n ≤ cap
  big : n ≤ 140737488355328
  cm : cap ≤ maxLen
  at0 : 0 < n → ∃ b off, a = some ⟨b, off, none⟩ ∧ b < w.heap.size ∧ ∀ i, i < n → w.cell? ⟨b, off + i, none⟩ = some (.int .u8 ((xs[i]?.getD 0).toNat : Int))
  nil : a = none → cap = 0

theorem Rd.part {w : World} {a : Option Addr} {n cap : Nat} {xs : List UInt8} (h : Rd w a n cap xs) {b off : Nat} (_ha : a = some ⟨b, off, none⟩) (i m : Nat) (hi : i + m ≤ n) (hb : b < w.heap.size)
    (hc : ∀ i, i < n → w.cell? ⟨b, off + i, none⟩ = some (.int .u8 ((xs[i]?.getD 0).toNat : Int))) :
    Rd w (some ⟨b, off + i, none⟩) m (cap - i) ((xs.drop i).take m) where
  len := by simp [h.len]; omega
  le := by have := h.le; omega
  big := by have := h.big; omega
  cm := by have := h.cm; omega
  at0 := fun hm => ⟨b, off + i, rfl, hb, fun j hj => by
    rw [Nat.add_assoc, hc (i + j) (by omega)]
    rw [List.getElem?_take_of_lt hj, List.getElem?_drop]⟩
  nil := fun e => by cases e

def bvs (xs : List UInt8) : List Value := xs.map fun x => Value.int .u8 (x.toNat : Int)
theorem bvs_length (xs : List UInt8) : (bvs xs).length = xs.length := by simp [bvs]
theorem bvs_append (xs ys : List UInt8) : bvs (xs ++ ys) = bvs xs ++ bvs ys := by simp [bvs]
theorem bvs_one (xs : List UInt8) : ∀ u ∈ bvs xs, u.oneCell' = true := by
  intro u hu; simp only [bvs, List.mem_map] at hu; obtain ⟨x, _, rfl⟩ := hu; rfl
theorem bvs_at (xs : List UInt8) (i : Nat) (h : i < xs.length) : (bvs xs)[i]? = some (.int .u8 ((xs[i]?.getD 0).toNat : Int)) := by
  simp [bvs, List.getElem?_eq_getElem h]

theorem Try.info5 : (Try.prog.info? 5).map (fun i => (i.zero, i.size, i.bytes)) = some (some (.int .u8 0), 1, 1) := by kernel_rfl

/-- A row of the call's own reads as bytes. -/
theorem rd_of_owns {w : World} {B g n cap : Nat} {xs : List UInt8} (h : w.ownsRow B 5 1 (.slice (some ⟨g, 0, none⟩) n cap) n (bvs xs)) (hb : n ≤ 140737488355328) :
    Rd w (some ⟨g, 0, none⟩) n cap xs := by
  have hl : xs.length = n := by have := h.1; simpa [bvs_length] using this
  have hlt := (h.lt g rfl).2
  have H := h
  obtain ⟨_, h2⟩ := h
  rcases h2 with ⟨h2, _⟩ | ⟨g', cap', cur, hv, _, hh, hle, hm, _, _⟩
  · cases h2
  · simp only [Value.slice.injEq, Option.some.injEq, Addr.mk.injEq] at hv
    obtain ⟨⟨rfl, -, -⟩, -, rfl⟩ := hv
    refine ⟨hl, hle, hb, hm, fun _ => ⟨g, 0, rfl, hlt, fun i hi => ?_⟩, fun e => by cases e⟩
    rw [Nat.zero_add]
    have := World.ownsRow.cellAt H i (by omega)
    rw [this, bvs_at xs i (by omega)]

theorem make_run (n : Nat) (h : n ≤ 140737488355328) (w : World) :
    (Instr.makeSlice 69 (.int .i64 (n : Int)) (.int .i64 ((n : Int) + 8))).run Try.prog w = .ok (.slice (some ⟨w.heap.size, 0, none⟩) n (n + 8)) (w.alloc (.cells (madeCells #[.int .u8 0] (n + 8)) 5)) := by
  obtain ⟨i, hi, hz, hs, hb⟩ := info_parts Try.info5
  have := run_make (P := Try.prog) w 69 5 i (.int .u8 0) Try.underlying69 hi hz .i64 .i64 n ((n : Int) + 8) (by omega) (by omega) (by rw [hb]; omega) (by omega)
  simp only [Int.toNat_natCast, hs, Nat.mul_one] at this
  rw [show ((n : Int) + 8).toNat = n + 8 from by omega] at this
  exact this

theorem Addr.add_none (b off j : Nat) : (⟨b, off, none⟩ : Addr).add j = ⟨b, off + j, none⟩ := by unfold Addr.add; split <;> simp_all

/-- What a slice reads as lies where the copy looks. -/
theorem Rd.src {w w' : World} {a : Option Addr} {n cap : Nat} {xs : List UInt8} (h : Rd w a n cap xs) (hb : Below w.heap.size w w') :
    0 < (bvs xs).length → ∃ ad, a = some ad ∧ ∀ j v, (bvs xs)[j]? = some v → w'.cell? (ad.add j) = some v := by
  intro h0
  rw [bvs_length, h.len] at h0
  obtain ⟨b, off, rfl, hlt, hc⟩ := h.at0 h0
  refine ⟨_, rfl, fun j v hj => ?_⟩
  have hjl : j < xs.length := by
    have := (List.getElem?_eq_some_iff.1 hj).1
    simpa [bvs_length] using this
  rw [bvs_at xs j hjl] at hj
  rw [Addr.add_none, hb.cell (by exact hlt), hc j (by rw [← h.len]; exact hjl), ← hj]

theorem owns_splice {w : World} {B g n cap : Nat} {xs : List UInt8} (hB : B ≤ g) (hl : xs.length = n) (hle : n ≤ cap) (hc : cap ≤ 140737488355328)
    (h : w.heap[g]? = some (.cells (splice (madeCells #[.int .u8 0] cap).toList 0 (bvs xs)).toArray 5 (0, 0))) :
    w.ownsRow B 5 1 (.slice (some ⟨g, 0, none⟩) n cap) n (bvs xs) := by
  refine ⟨by simp [bvs_length, hl], .inr ⟨g, cap, _, rfl, hB, h, hle, by unfold maxLen; omega, ?_, ?_⟩⟩
  · simp [splice, bvs_length, hl, size_madeCells]; omega
  · simp [splice, bvs_length, hl]

theorem one_cell (w : World) (x : UInt8) : ∀ (j : Nat) (u : Value), (bvs [x])[j]? = some u →
    (w.alloc (.cells #[.int .u8 (x.toNat : Int)] 5)).cell? ((⟨w.heap.size, 0, none⟩ : Addr).add j) = some u := by
  intro j u hj
  match j, hj with
  | 0, hj =>
    simp only [bvs, List.map_cons, List.map_nil, List.getElem?_cons_zero, Option.some.injEq] at hj
    subst hj
    rw [Addr.add_none]
    exact World.cell?_alloc_at _ _ _ _ rfl

/-- 'append(out, b...)': out the call's own (or nil), b whatever reads as bytes. -/
theorem wpList_append_rd {P : Program} {w : World} {ops : Array Oper} {rest : List Oper} {o : Oper} {a : Act} {Q : Exit → Act → World → Prop} (hgd : o.guard = none) (s x : Operand) (t : TypeId)
    (ho : o.op = .call { callee := .builtin .append, args := #[s, x], argTypes := #[t, t] })
    (base : Nat) (e : TypeId) (i : TypeInfo) (ht : P.underlying t = some (.slice e)) (hi : P.info? e = some i) (hz : i.zero = some (.int .u8 0))
    (hsize : i.size = 1) (hby : i.bytes = 1)
    (v : Value) (n : Nat) (xs : List UInt8) (hs : a.eval s = v) (hown : w.ownsRow base e 1 v n (bvs xs))
    (ao : Option Addr) (m c : Nat) (ys : List UInt8) (hx : a.eval x = .slice ao m c) (hrd : Rd w ao m c ys)
    (hbytes : n + m ≤ 140737488355328) (hbase : base ≤ w.heap.size)
    (h : ∀ v' w', w'.ownsRow base e 1 v' (n + m) (bvs (xs ++ ys)) → w.grownBy w' v.ownBlock → wpList P ops Q rest (a.put o.dst v') w') : wpList P ops Q (o :: rest) a w := by
  cases ao with
  | none =>
    have hc := hrd.nil rfl
    have hm : m = 0 := by have := hrd.le; omega
    subst hc; subst hm
    have hy : ys = [] := List.eq_nil_of_length_eq_zero hrd.len
    subst hy
    exact wpList_append_own_none hgd s x t ho base e i 1 ht hi v n (bvs xs) hs hown hx (h _ _ (by simpa using hown) (World.grownBy.refl _ _))
  | some ad =>
    refine wpList_append_own w hgd s x t ho base e i (.int .u8 0) 1 1 ht hi hz hsize hby rfl (by omega) v n (bvs xs) hs hown ad m c (bvs ys) hx (by simp [bvs_length, hrd.len]) ?_ (bvs_one _) (by unfold maxLen; omega) (by omega) hbase (fun v' w' h1 h2 _ => h v' w' (by rw [bvs_append]; exact h1) h2)
    intro j u hj
    have hjl : j < ys.length := by
      have := (List.getElem?_eq_some_iff.1 hj).1
      simpa [bvs_length] using this
    obtain ⟨ad', had, hc⟩ := hrd.src (Below.refl _ _) (by rw [bvs_length]; omega)
    cases had
    exact hc j u hj

/-- A new block of one byte. -/
theorem one_rd (w : World) (c : Int) (x : UInt8) (hc : c = (x.toNat : Int)) : Rd (w.alloc (.cells #[.int .u8 c] 5)) (some ⟨w.heap.size, 0, none⟩) 1 1 [x] := by
  subst hc
  refine ⟨rfl, Nat.le_refl _, by omega, by unfold maxLen; omega, fun _ => ⟨_, _, rfl, by simp, fun i hi => ?_⟩, fun e => by cases e⟩
  obtain rfl : i = 0 := by omega
  exact World.cell?_alloc_at _ _ _ _ rfl

/-- The shape of a value that owns a row. -/
theorem owns_shape {w : World} {B n : Nat} {v : Value} {xs : List UInt8} (h : w.ownsRow B 5 1 v n (bvs xs)) (hb : n ≤ 140737488355328) :
    ∃ a c, v = .slice a n c ∧ Rd w a n c xs ∧ ∀ b off sp, a = some ⟨b, off, sp⟩ → B ≤ b := by
  have H := h
  have hl : xs.length = n := by have := h.1; simpa [bvs_length] using this
  obtain ⟨_, h2⟩ := h
  rcases h2 with ⟨rfl, rfl⟩ | ⟨g, cap, cur, rfl, hB, hh, hle, hm, _, _⟩
  · exact ⟨none, 0, rfl, ⟨hl, Nat.le_refl _, by omega, by unfold maxLen; omega, fun h => by omega, fun _ => rfl⟩, fun _ _ _ e => by cases e⟩
  · exact ⟨_, _, rfl, rd_of_owns H hb, fun b off sp e => by cases e; exact hB⟩

theorem cell_of_blk {w : World} {p : Nat} {cs : Array Value} {t : TypeId} (h : w.heap[p]? = some (.cells cs t (0, 0))) (i : Nat) : w.cell? ⟨p, i, none⟩ = cs[i]? := by
  unfold World.cell?
  simp [h]

theorem free_of_blk {w : World} {p : Nat} {cs : Array Value} {t : TypeId} (h : w.heap[p]? = some (.cells cs t (0, 0))) (i : Nat) : w.frozen? ⟨p, i, none⟩ = false := by
  unfold World.frozen?
  simp only [h]
  simp

/-- Bytes that are read stay, where the block is kept. -/
theorem Rd.kept {w w' : World} {a : Option Addr} {n cap : Nat} {xs : List UInt8} (h : Rd w a n cap xs) (hs : w.heap.size ≤ w'.heap.size)
    (hb : ∀ b off, a = some ⟨b, off, none⟩ → w'.heap[b]? = w.heap[b]?) : Rd w' a n cap xs where
  len := h.len
  le := h.le
  big := h.big
  cm := h.cm
  at0 := fun h0 => by
    obtain ⟨b, off, ha, hlt, hc⟩ := h.at0 h0
    exact ⟨b, off, ha, by omega, fun i hi => by rw [World.cell?_of_block (w := w) (hb b off ha)]; exact hc i hi⟩
  nil := h.nil

theorem Rd.below {w w' : World} {B : Nat} {a : Option Addr} {n cap : Nat} {xs : List UInt8} (h : Rd w a n cap xs) (hb : Below B w w') (ha : ∀ b off, a = some ⟨b, off, none⟩ → b < B) : Rd w' a n cap xs :=
  h.kept hb.size fun b off e => hb.block b (ha b off e)

theorem blk_setCell {w : World} {b i : Nat} {cs : Array Value} {u : Value} {t : TypeId} (h : w.heap[b]? = some (.cells cs t (0, 0))) : (w.setCell ⟨b, i, none⟩ u).heap[b]? = some (.cells (cs.setIfInBounds i u) t (0, 0)) := by
  have hlt := lt_of_block h
  have h' : w.heap[b] = .cells cs t (0, 0) := by simpa [Array.getElem?_eq_getElem hlt] using h
  show (w.heap.modify b _)[b]? = _
  rw [Array.getElem?_eq_getElem (by simpa using hlt), Array.getElem_modify_self, h']
  rfl

theorem gb_setCell {w w' : World} {p i : Nat} {u : Value} (h : w.grownBy w' (some p)) : w.grownBy (w'.setCell ⟨p, i, none⟩ u) (some p) :=
  ⟨h.os, h.tape, h.output, by simpa [World.setCell] using h.size, fun k hk hne => by
    rw [Below.heap_setCell _ _ _ _ (fun e => hne (by rw [e]))]; exact h.block k hk hne⟩

theorem gb_drew {w w' : World} {row : Option Nat} (h : w.grownBy w' row) : w.grownBy w'.drew row := ⟨h.os, h.tape, h.output, h.size, h.block⟩

theorem gb_trans {a b c : World} {row : Option Nat} (h : a.grownBy b row) (k : b.grownBy c row) : a.grownBy c row :=
  ⟨k.os.trans h.os, k.tape.trans h.tape, k.output.trans h.output, Nat.le_trans h.size k.size, fun i hi hne => (k.block i (Nat.lt_of_lt_of_le hi h.size) hne).trans (h.block i hi hne)⟩

theorem rd_nil (w : World) : Rd w none 0 0 [] := ⟨rfl, Nat.le_refl _, by omega, by unfold maxLen; omega, fun h => by omega, fun _ => rfl⟩

theorem Rd.pre {w : World} {a : Option Addr} {n cap m : Nat} {xs : List UInt8} (h : Rd w a n cap xs) (hm : m ≤ n) : Rd w a m cap (xs.take m) where
  len := by simp [h.len]; omega
  le := Nat.le_trans hm h.le
  big := Nat.le_trans hm h.big
  cm := h.cm
  at0 := fun h0 => by
    obtain ⟨b, off, ha, hlt, hc⟩ := h.at0 (by omega)
    exact ⟨b, off, ha, hlt, fun i hi => by rw [hc i (by omega), List.getElem?_take_of_lt hi]⟩
  nil := h.nil

theorem Rd.suf {w : World} {a : Option Addr} {n cap m : Nat} {xs : List UInt8} (h : Rd w a n cap xs) (hm : m ≤ n) : Rd w (Option.map (fun x => x.add m) a) (n - m) (cap - m) (xs.drop m) where
  len := by simp [h.len]
  le := by have := h.le; omega
  big := by have := h.big; omega
  cm := by have := h.cm; omega
  at0 := fun h0 => by
    obtain ⟨b, off, rfl, hlt, hc⟩ := h.at0 (by omega)
    refine ⟨b, off + m, by simp [Addr.add_none], hlt, fun i hi => ?_⟩
    rw [Nat.add_assoc, hc (m + i) (by omega), List.getElem?_drop]
  nil := fun e => by
    have : a = none := by simpa using e
    have := h.nil this
    omega

theorem Rd.suf_end {w : World} {a : Option Addr} {n cap m : Nat} {xs : List UInt8} (h : Rd w a n cap xs) (hm : m ≤ n) (hc : cap = m) : Rd w a (n - m) 0 (xs.drop m) where
  len := by simp [h.len]
  le := by have := h.le; omega
  big := by have := h.big; omega
  cm := by unfold maxLen; omega
  at0 := fun h0 => by have := h.le; omega
  nil := fun _ => rfl

theorem add_block (x : Addr) (m : Nat) : (x.add m).block = x.block := by unfold Addr.add; split <;> rfl

theorem make_same (n : Nat) (h : n ≤ 140737488355328) (w : World) :
    (Instr.makeSlice 69 (.int .i64 (n : Int)) (.int .i64 (n : Int))).run Try.prog w = .ok (.slice (some ⟨w.heap.size, 0, none⟩) n n) (w.alloc (.cells (madeCells #[.int .u8 0] n) 5)) :=
  run_make_row' 69 5 (.int .u8 0) 1 Try.underlying69 Try.info5 rfl .i64 .i64 n (by omega) (by omega) w

theorem Rd.drew {w : World} {a : Option Addr} {n cap : Nat} {xs : List UInt8} (h : Rd w a n cap xs) : Rd w.drew a n cap xs := h.kept (Nat.le_refl _) fun _ _ _ => rfl

/-- Bytes that are read stay as they are where nothing that was there is written. -/
theorem Rd.later {w w' : World} {a : Option Addr} {n cap : Nat} {xs : List UInt8} (h : Rd w a n cap xs) (hb : Below w.heap.size w w') : Rd w' a n cap xs where
  len := h.len
  le := h.le
  big := h.big
  cm := h.cm
  at0 := fun h0 => by
    obtain ⟨b, off, ha, hlt, hc⟩ := h.at0 h0
    exact ⟨b, off, ha, Nat.lt_of_lt_of_le hlt hb.size, fun i hi => by rw [hb.cell (by exact hlt)]; exact hc i hi⟩
  nil := h.nil

theorem Rd.same {w w' : World} {a : Option Addr} {n cap : Nat} {xs : List UInt8} (h : Rd w a n cap xs) (hs : w'.heap = w.heap) : Rd w' a n cap xs :=
  h.kept (by rw [hs]; exact Nat.le_refl _) (fun _ _ _ => by rw [hs])

theorem gb_drewN (w : World) (k : Nat) (row : Option Nat) : w.grownBy (w.drewN k) row := ⟨rfl, rfl, rfl, Nat.le_refl _, fun _ _ _ => rfl⟩

theorem Rd.kept0 {w w' : World} {a : Option Addr} {n cap : Nat} {xs : List UInt8} (h : Rd w a n cap xs) (hs : w.heap.size ≤ w'.heap.size)
    (hb : ∀ b off, a = some ⟨b, off, none⟩ → 0 < n → w'.heap[b]? = w.heap[b]?) : Rd w' a n cap xs where
  len := h.len
  le := h.le
  big := h.big
  cm := h.cm
  at0 := fun h0 => by
    obtain ⟨b, off, ha, hlt, hc⟩ := h.at0 h0
    exact ⟨b, off, ha, by omega, fun i hi => by rw [World.cell?_of_block (w := w) (hb b off ha h0)]; exact hc i hi⟩
  nil := h.nil

theorem Rd.kept_set {w : World} {a : Option Addr} {n cap : Nat} {xs : List UInt8} (h : Rd w a n cap xs) {q j : Nat} {v : Value} (hl : ∀ x, a = some x → 0 < n → x.block < q) : Rd (w.setCell ⟨q, j, none⟩ v) a n cap xs :=
  h.kept0 (by simp [World.setCell]) (fun b off e h0 => Below.heap_setCell _ _ _ _ (fun e2 => by have := hl _ e h0; simp at this e2; omega))

theorem later_row {w0 w w' : World} {q : Nat} {a : Option Addr} {n cap : Nat} {xs : List UInt8} (h : Rd w a n cap xs) (hlow : ∀ x, a = some x → w0.heap.size ≤ x.block) (hg : w.grownBy w' (some q)) (hq : q < w0.heap.size) : Rd w' a n cap xs where
  len := h.len
  le := h.le
  big := h.big
  cm := h.cm
  at0 := fun h0 => by
    obtain ⟨b, off, ha, hlt, hc⟩ := h.at0 h0
    exact ⟨b, off, ha, Nat.lt_of_lt_of_le hlt hg.size, fun i hi => by
      rw [World.cell?_of_block (w := w) (hg.block b hlt (by have := hlow _ ha; simp at this ⊢; omega))]; exact hc i hi⟩
  nil := h.nil

end Go.Proofs.Ythapcpfemmfhoaa


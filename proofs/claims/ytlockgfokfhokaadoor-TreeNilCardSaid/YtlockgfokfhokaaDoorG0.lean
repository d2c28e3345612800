/-
  Slices of ints that are read ('Ri'), rows of the call's own, and an append of one int.
-/
import Derived.Test.YtlockgfokfhokaaDoorRows
import Derived.WalkKit
import Derived.WalkSpells
import Derived.WalkLawsBesides
import Derived.Lib.Hide
import Derived.Lib.MinMax
import Derived.Laws.CopyOwn
import Derived.Laws.AppendOwnNone
import Derived.Maps.AppendAt
import Derived.Deep.QuietTactic
import Derived.BigQuiet
import Derived.Deep.OwnRows
import Derived.WalkMore
import Derived.ScopeJumps
import Derived.IntWalk
namespace Go.Proofs.YtlockgfokfhokaaDoor
open Go.RowKit
set_option linter.unusedVariables false
set_option linter.unusedSimpArgs false

def ivs (xs : List Int) : List Value := xs.map fun x => Value.int .i64 x
theorem ivs_length (xs : List Int) : (ivs xs).length = xs.length := by simp [ivs]
theorem ivs_append (xs ys : List Int) : ivs (xs ++ ys) = ivs xs ++ ivs ys := by simp [ivs]
theorem ivs_at (xs : List Int) (i : Nat) (h : i < xs.length) : (ivs xs)[i]? = some (.int .i64 (xs[i]?.getD 0)) := by
  simp [ivs, List.getElem?_eq_getElem h]

theorem Tryd.info3 : (Tryd.prog.info? 3).map (fun i => (i.zero, i.size, i.bytes)) = some (some (.int .i64 0), 1, 8) := by kernel_rfl

/-- The slice value '.slice a n cap' reads in w as the ints xs. -/
structure Ri (w : World) (a : Option Addr) (n cap : Nat) (xs : List Int) : Prop where
  len : xs.length = n
  le : n ≤ cap
  big : n ≤ 140737488355328
  cm : cap ≤ maxLen
  at0 : 0 < n → ∃ b off, a = some ⟨b, off, none⟩ ∧ b < w.heap.size ∧ ∀ i, i < n → w.cell? ⟨b, off + i, none⟩ = some (.int .i64 (xs[i]?.getD 0))
  nil : a = none → cap = 0

theorem Addr.add_noneG (b off j : Nat) : (⟨b, off, none⟩ : Addr).add j = ⟨b, off + j, none⟩ := by unfold Addr.add; split <;> simp_all

theorem ri_of_owns {w : World} {B g n cap : Nat} {xs : List Int} (h : w.ownsRow B 3 1 (.slice (some ⟨g, 0, none⟩) n cap) n (ivs xs)) (hb : n ≤ 140737488355328) :
    Ri w (some ⟨g, 0, none⟩) n cap xs := by
  have hl : xs.length = n := by have := h.1; simpa [ivs_length] using this
  have hlt := (h.lt g rfl).2
  have H := h
  obtain ⟨_, h2⟩ := h
  rcases h2 with ⟨h2, _⟩ | ⟨g', cap', cur, hv, _, hh, hle, hm, _, _⟩
  · cases h2
  · simp only [Value.slice.injEq, Option.some.injEq, Addr.mk.injEq] at hv
    obtain ⟨⟨rfl, -, -⟩, -, rfl⟩ := hv
    refine ⟨hl, hle, hb, hm, fun _ => ⟨g, 0, rfl, hlt, fun i hi => ?_⟩, fun e => by cases e⟩
    rw [Nat.zero_add]
    have := World.ownsRow.cellAt H i (by omega)
    rw [this, ivs_at xs i (by omega)]

/-- The shape of a value that owns a row. -/
theorem iowns_shape {w : World} {B n : Nat} {v : Value} {xs : List Int} (h : w.ownsRow B 3 1 v n (ivs xs)) (hb : n ≤ 140737488355328) :
    ∃ a c, v = .slice a n c ∧ Ri w a n c xs ∧ ∀ b off sp, a = some ⟨b, off, sp⟩ → B ≤ b := by
  have H := h
  have hl : xs.length = n := by have := h.1; simpa [ivs_length] using this
  obtain ⟨_, h2⟩ := h
  rcases h2 with ⟨rfl, rfl⟩ | ⟨g, cap, cur, rfl, hB, hh, hle, hm, _, _⟩
  · exact ⟨none, 0, rfl, ⟨hl, Nat.le_refl _, by omega, by unfold maxLen; omega, fun h => by omega, fun _ => rfl⟩, fun _ _ _ e => by cases e⟩
  · exact ⟨_, _, rfl, ri_of_owns H hb, fun b off sp e => by cases e; exact hB⟩

theorem one_icell (w : World) (x : Int) : ∀ (j : Nat) (u : Value), (ivs [x])[j]? = some u →
    (w.alloc (.cells #[.int .i64 x] 3)).cell? ((⟨w.heap.size, 0, none⟩ : Addr).add j) = some u := by
  intro j u hj
  match j, hj with
  | 0, hj =>
    simp only [ivs, List.map_cons, List.map_nil, List.getElem?_cons_zero, Option.some.injEq] at hj
    subst hj
    rw [Addr.add_noneG]
    exact World.cell?_alloc_at _ _ _ _ rfl

theorem ivs_one (xs : List Int) : ∀ u ∈ ivs xs, u.oneCell' = true := by
  intro u hu; simp only [ivs, List.mem_map] at hu; obtain ⟨x, _, rfl⟩ := hu; rfl

/-- A new block of one int is a row of the call's own. -/
theorem one_owns (w : World) (B : Nat) (x : Int) (hB : B ≤ w.heap.size) : (w.alloc (.cells #[.int .i64 x] 3)).ownsRow B 3 1 (.slice (some ⟨w.heap.size, 0, none⟩) 1 1) 1 (ivs [x]) := by
  refine ⟨rfl, .inr ⟨w.heap.size, 1, #[.int .i64 x], rfl, hB, ?_, Nat.le_refl _, by unfold maxLen; omega, rfl, rfl⟩⟩
  exact heap_alloc_new _ _

theorem Ri.later {w w' : World} {a : Option Addr} {n cap : Nat} {xs : List Int} (h : Ri w a n cap xs) (hb : Below w.heap.size w w') : Ri w' a n cap xs where
  len := h.len
  le := h.le
  big := h.big
  cm := h.cm
  at0 := fun h0 => by
    obtain ⟨b, off, ha, hlt, hc⟩ := h.at0 h0
    exact ⟨b, off, ha, Nat.lt_of_lt_of_le hlt hb.size, fun i hi => by rw [hb.cell (by exact hlt)]; exact hc i hi⟩
  nil := h.nil

theorem ri_nil (w : World) : Ri w none 0 0 [] := ⟨rfl, Nat.le_refl _, by omega, by unfold maxLen; omega, fun h => by omega, fun _ => rfl⟩

theorem gb_drewNG (w : World) (k : Nat) (row : Option Nat) : w.grownBy (w.drewN k) row := ⟨rfl, rfl, rfl, Nat.le_refl _, fun _ _ _ => rfl⟩

/-- A value that is a list of ints. -/
def Li (w : World) (v : Value) (xs : List Int) : Prop := ∃ a n cap, v = .slice a n cap ∧ Ri w a n cap xs

theorem Li.later {w w' : World} {v : Value} {xs : List Int} (h : Li w v xs) (hb : Below w.heap.size w w') : Li w' v xs := by
  obtain ⟨a, n, c, rfl, h⟩ := h; exact ⟨a, n, c, rfl, h.later hb⟩
theorem li_owns {w : World} {B n : Nat} {v : Value} {xs : List Int} (h : w.ownsRow B 3 1 v n (ivs xs)) (hb : n ≤ 140737488355328) : Li w v xs := by
  obtain ⟨a, c, rfl, h, _⟩ := iowns_shape h hb; exact ⟨a, n, c, rfl, h⟩
theorem li_nil (w : World) : Li w (.slice none 0 0) [] := ⟨_, _, _, rfl, ri_nil w⟩

/-- 'append(out, x)': out the call's own (or nil), x in a new block. -/
theorem wpList_append_i {P : Program} {w w0 : World} {ops : Array Oper} {rest : List Oper} {o : Oper} {a : Act} {Q : Exit → Act → World → Prop} (hgd : o.guard = none) (s x : Operand) (t : TypeId)
    (ho : o.op = .call { callee := .builtin .append, args := #[s, x], argTypes := #[t, t] })
    (base : Nat) (i : TypeInfo) (ht : P.underlying t = some (.slice 3)) (hi : P.info? 3 = some i) (hz : i.zero = some (.int .i64 0))
    (hsize : i.size = 1) (hby : i.bytes = 8)
    (v : Value) (n : Nat) (xs : List Int) (hs : a.eval s = v) (hown : w.ownsRow base 3 1 v n (ivs xs))
    (y : Int) (hx : a.eval x = .slice (some ⟨w0.heap.size, 0, none⟩) 1 1) (hw : w = w0.alloc (.cells #[.int .i64 y] 3))
    (hbytes : n < 1000000) (hbase : base ≤ w.heap.size)
    (h : ∀ v' w', w'.ownsRow base 3 1 v' (n + 1) (ivs (xs ++ [y])) → w.grownBy w' v.ownBlock → wpList P ops Q rest (a.put o.dst v') w') : wpList P ops Q (o :: rest) a w := by
  subst hw
  refine wpList_append_own _ hgd s x t ho base 3 i (.int .i64 0) 1 8 ht hi hz hsize hby rfl (by omega) v n (ivs xs) hs hown ⟨w0.heap.size, 0, none⟩ 1 1 (ivs [y]) hx rfl ?_ (ivs_one _) (by unfold maxLen; omega) (by omega) hbase (fun v' w' h1 h2 _ => h v' w' (by rw [ivs_append]; exact h1) h2)
  exact one_icell w0 y

/-- The same, and where the new row lies. -/
theorem wpList_append_ia {P : Program} {w w0 : World} {ops : Array Oper} {rest : List Oper} {o : Oper} {a : Act} {Q : Exit → Act → World → Prop} (hgd : o.guard = none) (s x : Operand) (t : TypeId)
    (ho : o.op = .call { callee := .builtin .append, args := #[s, x], argTypes := #[t, t] })
    (base : Nat) (i : TypeInfo) (ht : P.underlying t = some (.slice 3)) (hi : P.info? 3 = some i) (hz : i.zero = some (.int .i64 0))
    (hsize : i.size = 1) (hby : i.bytes = 8)
    (v : Value) (n : Nat) (xs : List Int) (hs : a.eval s = v) (hown : w.ownsRow base 3 1 v n (ivs xs))
    (y : Int) (hx : a.eval x = .slice (some ⟨w0.heap.size, 0, none⟩) 1 1) (hw : w = w0.alloc (.cells #[.int .i64 y] 3))
    (hbytes : n < 1000000) (hbase : base ≤ w.heap.size)
    (h : ∀ v' w', w'.ownsRow base 3 1 v' (n + 1) (ivs (xs ++ [y])) → w.grownBy w' v.ownBlock → (v'.ownBlock = v.ownBlock ∨ v'.ownBlock = some w.heap.size) → wpList P ops Q rest (a.put o.dst v') w') : wpList P ops Q (o :: rest) a w := by
  subst hw
  refine wpList_append_own_at (w := w0.alloc (.cells #[.int .i64 y] 3)) hgd s x t ho base 3 i (.int .i64 0) 1 8 ht hi hz hsize hby rfl (by omega) v n (ivs xs) hs hown ⟨w0.heap.size, 0, none⟩ 1 1 (ivs [y]) hx rfl ?_ (ivs_one _) (by unfold maxLen; omega) (by omega) hbase (fun v' w' h1 h2 _ h4 => h v' w' (by rw [ivs_append]; exact h1) h2 h4)
  exact one_icell w0 y

/-- A fresh list of ints: its row lies from block B on. -/
def Lf (w : World) (B : Nat) (v : Value) (xs : List Int) : Prop := ∃ a n cap, v = .slice a n cap ∧ Ri w a n cap xs ∧ ∀ b off, a = some ⟨b, off, none⟩ → B ≤ b
theorem Lf.li {w : World} {B : Nat} {v : Value} {xs : List Int} (h : Lf w B v xs) : Li w v xs := by
  obtain ⟨a, n, c, h1, h2, _⟩ := h; exact ⟨a, n, c, h1, h2⟩
theorem Lf.mono {w : World} {B B' : Nat} {v : Value} {xs : List Int} (h : Lf w B v xs) (hB : B' ≤ B) : Lf w B' v xs := by
  obtain ⟨a, n, c, h1, h2, h3⟩ := h; exact ⟨a, n, c, h1, h2, fun b off e => Nat.le_trans hB (h3 b off e)⟩
theorem lf_owns {w : World} {B n : Nat} {v : Value} {xs : List Int} (h : w.ownsRow B 3 1 v n (ivs xs)) (hb : n ≤ 140737488355328) : Lf w B v xs := by
  obtain ⟨a, c, rfl, h, h3⟩ := iowns_shape h hb; exact ⟨a, n, c, rfl, h, fun b off e => h3 b off _ e⟩
theorem lf_nil (w : World) (B : Nat) : Lf w B (.slice none 0 0) [] := ⟨_, _, _, rfl, ri_nil w, fun _ _ e => by cases e⟩

theorem Ri.kept {w w' : World} {a : Option Addr} {n cap : Nat} {xs : List Int} (h : Ri w a n cap xs) (hs : w.heap.size ≤ w'.heap.size)
    (hb : ∀ b off, a = some ⟨b, off, none⟩ → b < w.heap.size → w'.heap[b]? = w.heap[b]?) : Ri w' a n cap xs where
  len := h.len
  le := h.le
  big := h.big
  cm := h.cm
  at0 := fun h0 => by
    obtain ⟨b, off, ha, hlt, hc⟩ := h.at0 h0
    exact ⟨b, off, ha, by omega, fun i hi => by rw [World.cell?_of_block (w := w) (hb b off ha hlt)]; exact hc i hi⟩
  nil := h.nil

/-- A list that is read stays as it is where another row grows. -/
theorem Ri.gb {w w' : World} {row : Option Nat} {a : Option Addr} {n cap : Nat} {xs : List Int} (h : Ri w a n cap xs) (hg : w.grownBy w' row)
    (hb : ∀ b off, a = some ⟨b, off, none⟩ → row ≠ some b) : Ri w' a n cap xs :=
  h.kept hg.size fun b off e hlt => hg.block b hlt (hb b off e).symm

end Go.Proofs.YtlockgfokfhokaaDoor


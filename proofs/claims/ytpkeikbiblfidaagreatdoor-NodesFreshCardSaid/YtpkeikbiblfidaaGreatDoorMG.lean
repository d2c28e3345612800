/-
  Texts put together: G0, G1, G2, G3, G4, G5, G6.
-/
import Derived.Test.YtpkeikbiblfidaaGreatDoorRows
import Derived.WalkKit
import Derived.WalkSpells
import Derived.WalkLawsBesides
import Derived.Lib.Hide
import Derived.Lib.MinMax
import Derived.Laws.CopyOwn
import Derived.Laws.AppendOwnNone
import Derived.Maps.AppendAt
import Derived.Deep.QuietTactic
import Derived.BigQuiet
import Derived.Deep.OwnRows
import Derived.WalkMore
import Derived.ScopeJumps
import Derived.IntWalk
/-
  Slices of ints that are read ('Ri'), rows of the call's own, and an append of one int.
-/
namespace Go.Proofs.YtpkeikbiblfidaaGreatDoor
open Go.RowKit
set_option linter.unusedVariables false
set_option linter.unusedSimpArgs false

def ivs (xs : List Int) : List Value := xs.map fun x => Value.int .i64 x
theorem ivs_length (xs : List Int) : (ivs xs).length = xs.length := by simp [ivs]
theorem ivs_append (xs ys : List Int) : ivs (xs ++ ys) = ivs xs ++ ivs ys := by simp [ivs]
theorem ivs_at (xs : List Int) (i : Nat) (h : i < xs.length) : (ivs xs)[i]? = some (.int .i64 (xs[i]?.getD 0)) := by
  simp [ivs, List.getElem?_eq_getElem h]

theorem Tryz.info3 : (Tryz.prog.info? 3).map (fun i => (i.zero, i.size, i.bytes)) = some (some (.int .i64 0), 1, 8) := by kernel_rfl

/-- The slice value '.slice a n cap' reads in w as the ints xs. -/
structure Ri (w : World) (a : Option Addr) (n cap : Nat) (xs : List Int) : Prop where
  len : xs.length = n
  le : n ≤ cap
  big : n ≤ 140737488355328
  cm : cap ≤ maxLen
  at0 : 0 < n → ∃ b off, a = some ⟨b, off, none⟩ ∧ b < w.heap.size ∧ ∀ i, i < n → w.cell? ⟨b, off + i, none⟩ = some (.int .i64 (xs[i]?.getD 0))
  nil : a = none → cap = 0

theorem Addr.add_noneG (b off j : Nat) : (⟨b, off, none⟩ : Addr).add j = ⟨b, off + j, none⟩ := by unfold Addr.add; split <;> simp_all

theorem ri_of_owns {w : World} {B g n cap : Nat} {xs : List Int} (h : w.ownsRow B 3 1 (.slice (some ⟨g, 0, none⟩) n cap) n (ivs xs)) (hb : n ≤ 140737488355328) :
    Ri w (some ⟨g, 0, none⟩) n cap xs := by
  have hl : xs.length = n := by have := h.1; simpa [ivs_length] using this
  have hlt := (h.lt g rfl).2
  have H := h
  obtain ⟨_, h2⟩ := h
  rcases h2 with ⟨h2, _⟩ | ⟨g', cap', cur, hv, _, hh, hle, hm, _, _⟩
  · cases h2
  · simp only [Value.slice.injEq, Option.some.injEq, Addr.mk.injEq] at hv
    obtain ⟨⟨rfl, -, -⟩, -, rfl⟩ := hv
    refine ⟨hl, hle, hb, hm, fun _ => ⟨g, 0, rfl, hlt, fun i hi => ?_⟩, fun e => by cases e⟩
    rw [Nat.zero_add]
    have := World.ownsRow.cellAt H i (by omega)
    rw [this, ivs_at xs i (by omega)]

/-- The shape of a value that owns a row. -/
theorem iowns_shape {w : World} {B n : Nat} {v : Value} {xs : List Int} (h : w.ownsRow B 3 1 v n (ivs xs)) (hb : n ≤ 140737488355328) :
    ∃ a c, v = .slice a n c ∧ Ri w a n c xs ∧ ∀ b off sp, a = some ⟨b, off, sp⟩ → B ≤ b := by
  have H := h
  have hl : xs.length = n := by have := h.1; simpa [ivs_length] using this
  obtain ⟨_, h2⟩ := h
  rcases h2 with ⟨rfl, rfl⟩ | ⟨g, cap, cur, rfl, hB, hh, hle, hm, _, _⟩
  · exact ⟨none, 0, rfl, ⟨hl, Nat.le_refl _, by omega, by unfold maxLen; omega, fun h => by omega, fun _ => rfl⟩, fun _ _ _ e => by cases e⟩
  · exact ⟨_, _, rfl, ri_of_owns H hb, fun b off sp e => by cases e; exact hB⟩

theorem one_icell (w : World) (x : Int) : ∀ (j : Nat) (u : Value), (ivs [x])[j]? = some u →
    (w.alloc (.cells #[.int .i64 x] 3)).cell? ((⟨w.heap.size, 0, none⟩ : Addr).add j) = some u := by
  intro j u hj
  match j, hj with
  | 0, hj =>
    simp only [ivs, List.map_cons, List.map_nil, List.getElem?_cons_zero, Option.some.injEq] at hj
    subst hj
    rw [Addr.add_noneG]
    exact World.cell?_alloc_at _ _ _ _ rfl

theorem ivs_one (xs : List Int) : ∀ u ∈ ivs xs, u.oneCell' = true := by
  intro u hu; simp only [ivs, List.mem_map] at hu; obtain ⟨x, _, rfl⟩ := hu; rfl

/-- A new block of one int is a row of the call's own. -/
theorem one_owns (w : World) (B : Nat) (x : Int) (hB : B ≤ w.heap.size) : (w.alloc (.cells #[.int .i64 x] 3)).ownsRow B 3 1 (.slice (some ⟨w.heap.size, 0, none⟩) 1 1) 1 (ivs [x]) := by
  refine ⟨rfl, .inr ⟨w.heap.size, 1, #[.int .i64 x], rfl, hB, ?_, Nat.le_refl _, by unfold maxLen; omega, rfl, rfl⟩⟩
  exact heap_alloc_new _ _

theorem Ri.later {w w' : World} {a : Option Addr} {n cap : Nat} {xs : List Int} (h : Ri w a n cap xs) (hb : Below w.heap.size w w') : Ri w' a n cap xs where
  len := h.len
  le := h.le
  big := h.big
  cm := h.cm
  at0 := fun h0 => by
    obtain ⟨b, off, ha, hlt, hc⟩ := h.at0 h0
    exact ⟨b, off, ha, Nat.lt_of_lt_of_le hlt hb.size, fun i hi => by rw [hb.cell (by exact hlt)]; exact hc i hi⟩
  nil := h.nil

theorem ri_nil (w : World) : Ri w none 0 0 [] := ⟨rfl, Nat.le_refl _, by omega, by unfold maxLen; omega, fun h => by omega, fun _ => rfl⟩

theorem gb_drewNG (w : World) (k : Nat) (row : Option Nat) : w.grownBy (w.drewN k) row := ⟨rfl, rfl, rfl, Nat.le_refl _, fun _ _ _ => rfl⟩

/-- A value that is a list of ints. -/
def Li (w : World) (v : Value) (xs : List Int) : Prop := ∃ a n cap, v = .slice a n cap ∧ Ri w a n cap xs

theorem Li.later {w w' : World} {v : Value} {xs : List Int} (h : Li w v xs) (hb : Below w.heap.size w w') : Li w' v xs := by
  obtain ⟨a, n, c, rfl, h⟩ := h; exact ⟨a, n, c, rfl, h.later hb⟩
theorem li_owns {w : World} {B n : Nat} {v : Value} {xs : List Int} (h : w.ownsRow B 3 1 v n (ivs xs)) (hb : n ≤ 140737488355328) : Li w v xs := by
  obtain ⟨a, c, rfl, h, _⟩ := iowns_shape h hb; exact ⟨a, n, c, rfl, h⟩
theorem li_nil (w : World) : Li w (.slice none 0 0) [] := ⟨_, _, _, rfl, ri_nil w⟩

/-- 'append(out, x)': out the call's own (or nil), x in a new block. -/
theorem wpList_append_i {P : Program} {w w0 : World} {ops : Array Oper} {rest : List Oper} {o : Oper} {a : Act} {Q : Exit → Act → World → Prop} (hgd : o.guard = none) (s x : Operand) (t : TypeId)
    (ho : o.op = .call { callee := .builtin .append, args := #[s, x], argTypes := #[t, t] })
    (base : Nat) (i : TypeInfo) (ht : P.underlying t = some (.slice 3)) (hi : P.info? 3 = some i) (hz : i.zero = some (.int .i64 0))
    (hsize : i.size = 1) (hby : i.bytes = 8)
    (v : Value) (n : Nat) (xs : List Int) (hs : a.eval s = v) (hown : w.ownsRow base 3 1 v n (ivs xs))
    (y : Int) (hx : a.eval x = .slice (some ⟨w0.heap.size, 0, none⟩) 1 1) (hw : w = w0.alloc (.cells #[.int .i64 y] 3))
    (hbytes : n < 1000000) (hbase : base ≤ w.heap.size)
    (h : ∀ v' w', w'.ownsRow base 3 1 v' (n + 1) (ivs (xs ++ [y])) → w.grownBy w' v.ownBlock → wpList P ops Q rest (a.put o.dst v') w') : wpList P ops Q (o :: rest) a w := by
  subst hw
  refine wpList_append_own _ hgd s x t ho base 3 i (.int .i64 0) 1 8 ht hi hz hsize hby rfl (by omega) v n (ivs xs) hs hown ⟨w0.heap.size, 0, none⟩ 1 1 (ivs [y]) hx rfl ?_ (ivs_one _) (by unfold maxLen; omega) (by omega) hbase (fun v' w' h1 h2 _ => h v' w' (by rw [ivs_append]; exact h1) h2)
  exact one_icell w0 y

/-- The same, and where the new row lies. -/
theorem wpList_append_ia {P : Program} {w w0 : World} {ops : Array Oper} {rest : List Oper} {o : Oper} {a : Act} {Q : Exit → Act → World → Prop} (hgd : o.guard = none) (s x : Operand) (t : TypeId)
    (ho : o.op = .call { callee := .builtin .append, args := #[s, x], argTypes := #[t, t] })
    (base : Nat) (i : TypeInfo) (ht : P.underlying t = some (.slice 3)) (hi : P.info? 3 = some i) (hz : i.zero = some (.int .i64 0))
    (hsize : i.size = 1) (hby : i.bytes = 8)
    (v : Value) (n : Nat) (xs : List Int) (hs : a.eval s = v) (hown : w.ownsRow base 3 1 v n (ivs xs))
    (y : Int) (hx : a.eval x = .slice (some ⟨w0.heap.size, 0, none⟩) 1 1) (hw : w = w0.alloc (.cells #[.int .i64 y] 3))
    (hbytes : n < 1000000) (hbase : base ≤ w.heap.size)
    (h : ∀ v' w', w'.ownsRow base 3 1 v' (n + 1) (ivs (xs ++ [y])) → w.grownBy w' v.ownBlock → (v'.ownBlock = v.ownBlock ∨ v'.ownBlock = some w.heap.size) → wpList P ops Q rest (a.put o.dst v') w') : wpList P ops Q (o :: rest) a w := by
  subst hw
  refine wpList_append_own_at (w := w0.alloc (.cells #[.int .i64 y] 3)) hgd s x t ho base 3 i (.int .i64 0) 1 8 ht hi hz hsize hby rfl (by omega) v n (ivs xs) hs hown ⟨w0.heap.size, 0, none⟩ 1 1 (ivs [y]) hx rfl ?_ (ivs_one _) (by unfold maxLen; omega) (by omega) hbase (fun v' w' h1 h2 _ h4 => h v' w' (by rw [ivs_append]; exact h1) h2 h4)
  exact one_icell w0 y

/-- A fresh list of ints: its row lies from block B on. -/
def Lf (w : World) (B : Nat) (v : Value) (xs : List Int) : Prop := ∃ a n cap, v = .slice a n cap ∧ Ri w a n cap xs ∧ ∀ b off, a = some ⟨b, off, none⟩ → B ≤ b
theorem Lf.li {w : World} {B : Nat} {v : Value} {xs : List Int} (h : Lf w B v xs) : Li w v xs := by
  obtain ⟨a, n, c, h1, h2, _⟩ := h; exact ⟨a, n, c, h1, h2⟩
theorem Lf.mono {w : World} {B B' : Nat} {v : Value} {xs : List Int} (h : Lf w B v xs) (hB : B' ≤ B) : Lf w B' v xs := by
  obtain ⟨a, n, c, h1, h2, h3⟩ := h; exact ⟨a, n, c, h1, h2, fun b off e => Nat.le_trans hB (h3 b off e)⟩
theorem lf_owns {w : World} {B n : Nat} {v : Value} {xs : List Int} (h : w.ownsRow B 3 1 v n (ivs xs)) (hb : n ≤ 140737488355328) : Lf w B v xs := by
  obtain ⟨a, c, rfl, h, h3⟩ := iowns_shape h hb; exact ⟨a, n, c, rfl, h, fun b off e => h3 b off _ e⟩
theorem lf_nil (w : World) (B : Nat) : Lf w B (.slice none 0 0) [] := ⟨_, _, _, rfl, ri_nil w, fun _ _ e => by cases e⟩

theorem Ri.kept {w w' : World} {a : Option Addr} {n cap : Nat} {xs : List Int} (h : Ri w a n cap xs) (hs : w.heap.size ≤ w'.heap.size)
    (hb : ∀ b off, a = some ⟨b, off, none⟩ → b < w.heap.size → w'.heap[b]? = w.heap[b]?) : Ri w' a n cap xs where
  len := h.len
  le := h.le
  big := h.big
  cm := h.cm
  at0 := fun h0 => by
    obtain ⟨b, off, ha, hlt, hc⟩ := h.at0 h0
    exact ⟨b, off, ha, by omega, fun i hi => by rw [World.cell?_of_block (w := w) (hb b off ha hlt)]; exact hc i hi⟩
  nil := h.nil

/-- A list that is read stays as it is where another row grows. -/
theorem Ri.gb {w w' : World} {row : Option Nat} {a : Option Addr} {n cap : Nat} {xs : List Int} (h : Ri w a n cap xs) (hg : w.grownBy w' row)
    (hb : ∀ b off, a = some ⟨b, off, none⟩ → row ≠ some b) : Ri w' a n cap xs :=
  h.kept hg.size fun b off e hlt => hg.block b hlt (hb b off e).symm

end Go.Proofs.YtpkeikbiblfidaaGreatDoor
/-
  Geometries: contracts of within, both Right.
-/
namespace Go.Proofs.YtpkeikbiblfidaaGreatDoor
open Go.RowKit
set_option linter.unusedVariables false
set_option linter.unusedSimpArgs false

/-- A geometry as a value. -/
def geo (N F C U : Int) : Value := .agg #[.int .i64 N, .int .i64 F, .int .i64 C, .int .i64 U]

/-- A geometry that is valid. -/
def okG (N F C U : Int) : Prop := 1 ≤ N ∧ N ≤ 128 ∧ 2 ≤ F ∧ F ≤ 4 ∧ 0 ≤ C ∧ C ≤ 64 ∧ 1 ≤ U ∧ U ≤ 320
instance (N F C U : Int) : Decidable (okG N F C U) := by unfold okG; infer_instance

set_option maxRecDepth 20000 in
set_option maxHeartbeats 400000 in
theorem within_any (n a b : Int) (w : World) :
    Calls Tryz.prog 114 #[.int .i64 n, .int .i64 a, .int .i64 b] w fun e w' => e = .returned (.bool (decide (a ≤ n ∧ n ≤ b))) ∧ w' = w := by
  go_enter Tryz.func114, Tryz.ntmps114
  go_wp2
  all_goals go_ret
  all_goals refine ⟨?_, rfl⟩
  · rename_i h
    by_cases h2 : n ≤ b <;> simp [h, h2]
  · rename_i h
    have : ¬ (a ≤ n) := by omega
    simp [this]

set_option maxRecDepth 20000 in
set_option maxHeartbeats 400000 in
theorem gright_any (N F C U : Int) (w : World) :
    Calls Tryz.prog 65 #[geo N F C U] w fun e w' => e = .returned (.bool (decide (okG N F C U))) ∧ Below w.heap.size w w' := by
  have hb := fun o => (Below.refl w.heap.size w).alloc (Nat.le_refl _) o
  go_enter Tryz.func65, Tryz.ntmps65
  unfold geo
  go_wp2
  all_goals go_ret
  all_goals refine ⟨congrArg (fun b => Ending.returned (Value.bool b)) ?_, hb _⟩
  · rw [decide_eq_decide]; unfold okG; omega
  all_goals (symm; rw [decide_eq_false_iff_not]; unfold okG; omega)

set_option maxRecDepth 20000 in
set_option maxHeartbeats 400000 in
theorem grright_any (N F C U : Int) (w : World) :
    Calls Tryz.prog 14 #[geo N F C U] w fun e w' => e = .returned (.bool (decide (okG N F C U))) ∧ Below w.heap.size w w' := by
  have hb := fun o => (Below.refl w.heap.size w).alloc (Nat.le_refl _) o
  go_enter Tryz.func14, Tryz.ntmps14
  unfold geo
  go_wp2
  all_goals go_ret
  all_goals refine ⟨congrArg (fun b => Ending.returned (Value.bool b)) ?_, hb _⟩
  · rw [decide_eq_decide]; unfold okG; omega
  all_goals (symm; rw [decide_eq_false_iff_not]; unfold okG; omega)

end Go.Proofs.YtpkeikbiblfidaaGreatDoor
/-
  Shapes of trees, over Nat: levels, nodes, parents, children, paths.
-/
namespace Go.Proofs.YtpkeikbiblfidaaGreatDoor
open Go.RowKit
set_option linter.unusedVariables false
set_option linter.unusedSimpArgs false

/-- How many nodes level i has. -/
def q (n f : Nat) : Nat → Nat
  | 0 => n
  | i + 1 => (q n f i + f - 1) / f

/-- How many nodes the first k levels have. -/
def S (n f : Nat) : Nat → Nat
  | 0 => 0
  | k + 1 => S n f k + q n f k

/-- The first level with one node. -/
def hI (n f : Nat) : Nat → Nat → Nat
  | 0, i => i
  | k + 1, i => if q n f i ≤ 1 then i else hI n f k (i + 1)
def H (n f : Nat) : Nat := hI n f 7 0

theorem hI_spec (n f : Nat) : ∀ k i, (∀ j, j < i → 1 < q n f j) → q n f (i + k) ≤ 1 → (∀ j, j < hI n f k i → 1 < q n f j) ∧ q n f (hI n f k i) ≤ 1 ∧ hI n f k i ≤ i + k
  | 0, i, h, h1 => ⟨h, h1, Nat.le_refl _⟩
  | k + 1, i, h, h1 => by
    unfold hI
    split
    · rename_i h2; exact ⟨h, h2, by omega⟩
    · rename_i h2
      have := hI_spec n f k (i + 1) (fun j hj => by
        by_cases e : j = i
        · subst e; omega
        · exact h j (by omega)) (by rw [show i + 1 + k = i + (k + 1) from by omega]; exact h1)
      exact ⟨this.1, this.2.1, by omega⟩

structure Ok (n f : Nat) : Prop where
  n1 : 1 ≤ n
  n2 : n ≤ 128
  f1 : 2 ≤ f
  f2 : f ≤ 4

theorem ceil_step {m f : Nat} (hf1 : 2 ≤ f) (hf2 : f ≤ 4) (hm : 1 ≤ m) : 1 ≤ (m + f - 1) / f ∧ 2 * ((m + f - 1) / f) ≤ m + 1 ∧ m ≤ f * ((m + f - 1) / f) := by
  rcases (by omega : f = 2 ∨ f = 3 ∨ f = 4) with rfl | rfl | rfl <;> omega

theorem q_pos {n f : Nat} (h : Ok n f) : ∀ i, 1 ≤ q n f i
  | 0 => h.n1
  | i + 1 => (ceil_step h.f1 h.f2 (q_pos h i)).1
theorem q_half {n f : Nat} (h : Ok n f) (i : Nat) : 2 * q n f (i + 1) ≤ q n f i + 1 := (ceil_step h.f1 h.f2 (q_pos h i)).2.1
theorem q_up {n f : Nat} (h : Ok n f) (i : Nat) : q n f i ≤ f * q n f (i + 1) := (ceil_step h.f1 h.f2 (q_pos h i)).2.2

theorem H_spec {n f : Nat} (h : Ok n f) : (∀ j, j < H n f → 1 < q n f j) ∧ q n f (H n f) = 1 ∧ H n f ≤ 7 := by
  have h0 : q n f 0 ≤ 128 := h.n2
  have h1 : 2 * q n f 1 ≤ q n f 0 + 1 := q_half h 0
  have h2 : 2 * q n f 2 ≤ q n f 1 + 1 := q_half h 1
  have h3 : 2 * q n f 3 ≤ q n f 2 + 1 := q_half h 2
  have h4 : 2 * q n f 4 ≤ q n f 3 + 1 := q_half h 3
  have h5 : 2 * q n f 5 ≤ q n f 4 + 1 := q_half h 4
  have h6 : 2 * q n f 6 ≤ q n f 5 + 1 := q_half h 5
  have h7 : 2 * q n f 7 ≤ q n f 6 + 1 := q_half h 6
  have hs := hI_spec n f 7 0 (fun j hj => by omega) (by show q n f (0 + 7) ≤ 1; rw [Nat.zero_add]; omega)
  have hp := q_pos h (H n f)
  refine ⟨hs.1, ?_, by have := hs.2.2; unfold H; omega⟩
  have := hs.2.1
  unfold H at hp ⊢
  omega

theorem q_le {n f : Nat} (h : Ok n f) : ∀ i, q n f i ≤ 128
  | 0 => h.n2
  | i + 1 => by have := q_half h i; have := q_le h i; omega

theorem S_mono {n f : Nat} : ∀ {j k : Nat}, j ≤ k → S n f j ≤ S n f k := by
  intro j k hjk
  induction k with
  | zero => obtain rfl : j = 0 := by omega
            exact Nat.le_refl _
  | succ k ih =>
    by_cases e : j = k + 1
    · subst e; exact Nat.le_refl _
    · have := ih (by omega)
      show _ ≤ S n f k + q n f k
      omega

theorem S_le {n f : Nat} (h : Ok n f) : S n f (H n f + 1) ≤ 255 := by
  have hh := (H_spec h).2.2
  have h0 : q n f 0 ≤ 128 := h.n2
  have h1 : 2 * q n f 1 ≤ q n f 0 + 1 := q_half h 0
  have h2 : 2 * q n f 2 ≤ q n f 1 + 1 := q_half h 1
  have h3 : 2 * q n f 3 ≤ q n f 2 + 1 := q_half h 2
  have h4 : 2 * q n f 4 ≤ q n f 3 + 1 := q_half h 3
  have h5 : 2 * q n f 5 ≤ q n f 4 + 1 := q_half h 4
  have h6 : 2 * q n f 6 ≤ q n f 5 + 1 := q_half h 5
  have h7 : 2 * q n f 7 ≤ q n f 6 + 1 := q_half h 6
  have h8 : S n f 8 ≤ 255 := by
    have hp := q_pos h 7
    show 0 + q n f 0 + q n f 1 + q n f 2 + q n f 3 + q n f 4 + q n f 5 + q n f 6 + q n f 7 ≤ 255
    omega
  exact Nat.le_trans (S_mono (by omega)) h8

/-- The level of a node is one. -/
theorem lvl_one {n f x j k : Nat} (h1 : S n f j ≤ x) (h2 : x < S n f (j + 1)) (h3 : S n f k ≤ x) (h4 : x < S n f (k + 1)) : j = k := by
  rcases Nat.lt_trichotomy j k with h | h | h
  · have := @S_mono n f (j + 1) k h; omega
  · exact h
  · have := @S_mono n f (k + 1) j h; omega

def lvlI (n f x : Nat) : Nat → Nat
  | 0 => 0
  | k + 1 => if S n f (k + 1) ≤ x then k + 1 else lvlI n f x k

theorem lvlI_spec {n f x : Nat} : ∀ k, x < S n f (k + 1) → lvlI n f x k ≤ k ∧ S n f (lvlI n f x k) ≤ x ∧ x < S n f (lvlI n f x k + 1)
  | 0, h => ⟨Nat.le_refl _, Nat.zero_le _, h⟩
  | k + 1, h => by
    unfold lvlI
    split
    · rename_i h1; exact ⟨Nat.le_refl _, h1, h⟩
    · rename_i h1
      have := lvlI_spec (n := n) (f := f) (x := x) k (Nat.lt_of_not_le h1)
      exact ⟨by omega, this.2⟩

/-- A node's level. -/
def lvl (n f x : Nat) : Nat := lvlI n f x (H n f)
theorem lvl_spec {n f x : Nat} (h : x < S n f (H n f + 1)) : lvl n f x ≤ H n f ∧ S n f (lvl n f x) ≤ x ∧ x < S n f (lvl n f x + 1) := lvlI_spec _ h

/-- How many nodes there are, how high, which is the root. -/
def nodes (N F C U : Int) : Nat := if okG N F C U then S N.toNat F.toNat (H N.toNat F.toNat + 1) else 0
def height (N F C U : Int) : Nat := if okG N F C U then H N.toNat F.toNat else 0
def levels (N F C U : Int) : List Int := if okG N F C U then (List.range (H N.toNat F.toNat + 1)).map (fun i => (q N.toNat F.toNat i : Int)) else []

/-- The parent of node x. -/
def par (n f x : Nat) : Int := if lvl n f x = H n f then -1 else ((S n f (lvl n f x + 1) + (x - S n f (lvl n f x)) / f : Nat) : Int)
/-- The children of node x: the first, and how many. -/
def chA (n f x : Nat) : Nat := S n f (lvl n f x - 1) + (x - S n f (lvl n f x)) * f
def chNG (n f x : Nat) : Nat := if lvl n f x = 0 then 0 else min f (S n f (lvl n f x) - chA n f x)
def ch (n f x : Nat) : List Int := (List.range (chNG n f x)).map (fun j => ((chA n f x + j : Nat) : Int))

def parent (N F C U node : Int) : Int := if okG N F C U ∧ 0 ≤ node ∧ node < (S N.toNat F.toNat (H N.toNat F.toNat + 1) : Nat) then par N.toNat F.toNat node.toNat else -1
def children (N F C U node : Int) : List Int := if okG N F C U ∧ 0 ≤ node ∧ node < (S N.toNat F.toNat (H N.toNat F.toNat + 1) : Nat) then ch N.toNat F.toNat node.toNat else []

/-- The k-th node of a leaf's path. -/
def pth (n f x : Nat) : Nat → Nat
  | 0 => x
  | k + 1 => S n f (k + 1) + (pth n f x k - S n f k) / f
def path (N F C U leaf : Int) : List Int := if okG N F C U ∧ 0 ≤ leaf ∧ leaf < N then (List.range (H N.toNat F.toNat + 1)).map (fun k => (pth N.toNat F.toNat leaf.toNat k : Int)) else []

theorem par_lt {n f x k : Nat} (h : Ok n f) (h1 : S n f k ≤ x) (h2 : x < S n f (k + 1)) :
    S n f (k + 1) ≤ S n f (k + 1) + (x - S n f k) / f ∧ S n f (k + 1) + (x - S n f k) / f < S n f (k + 2) := by
  have h3 : S n f (k + 2) = S n f (k + 1) + q n f (k + 1) := rfl
  have h4 : S n f (k + 1) = S n f k + q n f k := rfl
  have h5 := q_up h k
  have : (x - S n f k) / f < q n f (k + 1) := Nat.div_lt_of_lt_mul (by omega)
  rw [h3]
  exact ⟨Nat.le_add_right _ _, Nat.add_lt_add_left this _⟩

theorem pth_lt {n f x : Nat} (h : Ok n f) (hx : x < n) : ∀ k, S n f k ≤ pth n f x k ∧ pth n f x k < S n f (k + 1)
  | 0 => ⟨Nat.zero_le _, by show x < 0 + n; omega⟩
  | k + 1 => par_lt h (pth_lt h hx k).1 (pth_lt h hx k).2

theorem lvl_at {n f x k : Nat} (hk : k ≤ H n f) (h1 : S n f k ≤ x) (h2 : x < S n f (k + 1)) : lvl n f x = k := by
  have := lvl_spec (n := n) (f := f) (x := x) (Nat.lt_of_lt_of_le h2 (S_mono (by omega)))
  exact lvl_one this.2.1 this.2.2 h1 h2

theorem par_at {n f x k : Nat} (hk : k < H n f) (h1 : S n f k ≤ x) (h2 : x < S n f (k + 1)) : par n f x = ((S n f (k + 1) + (x - S n f k) / f : Nat) : Int) := by
  unfold par
  rw [lvl_at (by omega) h1 h2, if_neg (by omega)]
theorem par_top {n f x : Nat} (h1 : S n f (H n f) ≤ x) (h2 : x < S n f (H n f + 1)) : par n f x = -1 := by
  unfold par
  rw [lvl_at (Nat.le_refl _) h1 h2, if_pos rfl]

theorem ch_leaf {n f x : Nat} (h2 : x < S n f 1) : ch n f x = [] := by
  unfold ch chNG
  rw [lvl_at (Nat.zero_le _) (Nat.zero_le _) h2]
  rfl

theorem ch_at {n f x k : Nat} (hk : k < H n f) (h1 : S n f (k + 1) ≤ x) (h2 : x < S n f (k + 2)) :
    chA n f x = S n f k + (x - S n f (k + 1)) * f ∧ chNG n f x = min f (S n f (k + 1) - (S n f k + (x - S n f (k + 1)) * f)) := by
  have hl := lvl_at (k := k + 1) hk h1 h2
  unfold chNG chA
  rw [hl, if_neg (by omega)]
  exact ⟨rfl, rfl⟩

/-- y is a child of x just where x is the parent of y. -/
theorem family {n f x y : Nat} (h : Ok n f) (hx : x < S n f (H n f + 1)) (hy : y < S n f (H n f + 1)) :
    (chA n f x ≤ y ∧ y < chA n f x + chNG n f x) ↔ par n f y = (x : Int) := by
  obtain ⟨a1, a2, a3⟩ := lvl_spec hx
  obtain ⟨b1, b2, b3⟩ := lvl_spec hy
  have hf : 0 < f := by have := h.f1; omega
  generalize lvl n f x = a at *
  generalize lvl n f y = b at *
  constructor
  · rintro ⟨c1, c2⟩
    cases a with
    | zero =>
      have : chNG n f x = 0 := by unfold chNG; rw [lvl_at (Nat.zero_le _) a2 a3, if_pos rfl]
      omega
    | succ k =>
      obtain ⟨e1, e2⟩ := ch_at (by omega) a2 a3
      rw [e1, e2] at c2
      rw [e1] at c1
      have h5 : S n f k ≤ y := by omega
      have h6 : y < S n f (k + 1) := by omega
      rw [par_at (by omega) h5 h6]
      have h7 : (y - S n f k) / f = x - S n f (k + 1) := by
        apply Nat.div_eq_of_lt_le
        · omega
        · rw [Nat.add_mul, Nat.one_mul]; omega
      rw [h7]
      omega
  · intro hp
    by_cases hb : b = H n f
    · subst hb; rw [par_top b2 b3] at hp; omega
    · rw [par_at (by omega) b2 b3] at hp
      have hp' : S n f (b + 1) + (y - S n f b) / f = x := by omega
      have hlt := par_lt h b2 b3
      rw [hp'] at hlt
      obtain ⟨e1, e2⟩ := ch_at (k := b) (by omega) hlt.1 hlt.2
      have h8 : x - S n f (b + 1) = (y - S n f b) / f := by omega
      rw [e1, e2, h8]
      have h9 := Nat.div_mul_le_self (y - S n f b) f
      have h10 := Nat.lt_div_mul_add hf (a := y - S n f b)
      have h11 : S n f (b + 1) = S n f b + q n f b := rfl
      omega

end Go.Proofs.YtpkeikbiblfidaaGreatDoor
/-
  Contracts of both Levels.
-/
namespace Go.Proofs.YtpkeikbiblfidaaGreatDoor
open Go.RowKit
set_option linter.unusedVariables false
set_option linter.unusedSimpArgs false

/-- A geometry in a box. -/
def gbox (N F C U : Int) : Obj := .cells #[.int .i64 N, .int .i64 F, .int .i64 C, .int .i64 U] 23
theorem gbox_cells {w wr : World} {N F C U : Int} (h : Below (w.heap.size + 1) (w.alloc (gbox N F C U)) wr) :
    wr.cell? ⟨w.heap.size, 0, none⟩ = some (.int .i64 N) ∧ wr.cell? ⟨w.heap.size, 1, none⟩ = some (.int .i64 F) ∧ wr.cell? ⟨w.heap.size, 2, none⟩ = some (.int .i64 C) ∧ wr.cell? ⟨w.heap.size, 3, none⟩ = some (.int .i64 U) := by
  refine ⟨?_, ?_, ?_, ?_⟩ <;> (rw [h.cell (by simp)]; exact World.cell?_alloc_at _ _ _ _ rfl)
theorem gbox_alloc {w wr : World} {N F C U : Int} (h : Below (w.heap.size + 1) (w.alloc (gbox N F C U)) wr) (o : Obj) :
    (wr.alloc o).cell? ⟨w.heap.size, 0, none⟩ = some (.int .i64 N) ∧ (wr.alloc o).cell? ⟨w.heap.size, 1, none⟩ = some (.int .i64 F) ∧ (wr.alloc o).cell? ⟨w.heap.size, 2, none⟩ = some (.int .i64 C) ∧ (wr.alloc o).cell? ⟨w.heap.size, 3, none⟩ = some (.int .i64 U) :=
  gbox_cells (h.trans ((Below.refl _ _).alloc (by have := h.size; simpa using this) o))

theorem ok_of {N F C U : Int} (h : okG N F C U) : ∃ n f : Nat, N = n ∧ F = f ∧ Ok n f := by
  obtain ⟨h1, h2, h3, h4, _⟩ := h
  exact ⟨N.toNat, F.toNat, by omega, by omega, by constructor <;> omega⟩

/-- The levels up to the i-th. -/
def lev (n f i : Nat) : List Int := (List.range (i + 1)).map (fun i => (q n f i : Int))
theorem lev_next (n f i : Nat) : lev n f (i + 1) = lev n f i ++ [(q n f (i + 1) : Int)] := by simp [lev, List.range_succ]
theorem lev_length (n f i : Nat) : (lev n f i).length = i + 1 := by simp [lev]

set_option maxRecDepth 20000 in
set_option maxHeartbeats 400000 in
theorem levels_ok (n f : Nat) (C U : Int) (h : Ok n f) (hok : okG n f C U) (w : World) :
    Calls Tryz.prog 147 #[geo n f C U] w fun e w' => (∃ v, e = .returned v ∧ Lf w' w.heap.size v (lev n f (H n f))) ∧ Below w.heap.size w w' := by
  have hr := gright_any n f C U
  have hd : decide (okG n f C U) = true := by simpa using hok
  rw [hd] at hr
  obtain ⟨i0, hi, hz0, hz1, hz2⟩ := info_parts Tryz.info3
  obtain ⟨s1, s2, s3⟩ := H_spec h
  have hb0 := (Below.refl w.heap.size w).alloc (Nat.le_refl _) (gbox n f C U)
  unfold geo at hr ⊢
  go_enter Tryz.func147, Tryz.ntmps147
  go_wp2_with fail
  refine (hr _).mono ?_
  rintro e w1 ⟨rfl, hb⟩
  have hb1 : Below (w.heap.size + 1) (w.alloc (gbox n f C U)) w1 := hb.mono (by simp)
  obtain ⟨c1, c2, -, -⟩ := gbox_cells hb1
  have d1 := fun o => (gbox_alloc hb1 o).1
  have d2 := fun o => (gbox_alloc hb1 o).2.1
  have hsz : w.heap.size + 1 ≤ w1.heap.size := by have := hb1.size; simpa using this
  clear hb
  have hlen : ∀ i, (lev n f i).length = i + 1 := lev_length n f
  go_wp2
  go_loopw [3, 4] (fun l x wr => ∃ i : Nat, i ≤ H n f ∧ x = .int .i64 (q n f i : Int) ∧ wr.ownsRow (w.heap.size + 1) 3 1 l (i + 1) (ivs (lev n f i)) ∧ Below (w.heap.size + 1) (w.alloc (gbox n f C U)) wr) (fun _ x _ => (intOf x).toNat)
  case atStart =>
    refine ⟨0, by omega, rfl, one_owns w1 _ _ (by omega), hb1.alloc (by omega) _⟩
  case round =>
    obtain ⟨i, hi9, rfl, hown, hB⟩ := hrel
    have hqi := q_pos h i
    have hql := q_le h i
    have hst := ceil_step h.f1 h.f2 hqi
    have hf1 := h.f1
    have hf2 := h.f2
    have hq1 : (q n f i + f - 1) / f = q n f (i + 1) := rfl
    rw [hq1] at hst
    by_cases hlt : 1 < q n f i
    · have hi2 : i < H n f := by
        rcases Nat.lt_or_ge i (H n f) with g | g
        · exact g
        · obtain rfl : i = H n f := by omega
          omega
      obtain ⟨c1, c2, -, -⟩ := gbox_cells hB
      have HB := Lib.hid hB
      have hdv : ((q n f i : Int) + (f : Int) - 1) / (f : Int) = (q n f (i + 1) : Int) := by
        rw [show (q n f i : Int) + (f : Int) - 1 = ((q n f i + f - 1 : Nat) : Int) from by omega, ← hq1, Int.natCast_ediv]
      have HD := Lib.hid hdv
      clear hdv
      have ho := hown.alloc (.cells #[.int .i64 (((q n f i : Int) + (f : Int) - 1) / (f : Int))] 3)
      have hszr : w.heap.size + 1 ≤ wr.heap.size := by have := hB.size; simpa using this
      have HB1 := Lib.hid (hB.alloc hszr (.cells #[.int .i64 (((q n f i : Int) + (f : Int) - 1) / (f : Int))] 3))
      have HBS := Lib.hid (show w.heap.size + 1 ≤ (wr.alloc (.cells #[.int .i64 (((q n f i : Int) + (f : Int) - 1) / (f : Int))] 3)).heap.size by simp; omega)
      go_wp2_with (at_builtin; refine wpList_append_i (o := ⟨some 26, _, _, _, _, _⟩) rfl (.tmp 23) (.tmp 25) 34 rfl (w.heap.size + 1) i0 Tryz.underlying34 hi hz0 hz1 hz2 _ (i + 1) _ rfl ho _ rfl rfl (by omega) HBS.out ?_)
      intro v' w5 hown5 hgrow
      rw [HD.out, ← lev_next] at hown5
      have hB5 := HB1.out.grown hgrow HBS.out (fun j hj => (hown.lt j hj).1)
      have hl5 := hown5.1
      clear hown ho hgrow hB c1 c2
      obtain ⟨a, c, rfl, -, -⟩ := iowns_shape hown5 (by omega)
      go_wp2
      go_roundw
      case rel => exact ⟨i + 1, by omega, by rw [HD.out], hown5, hB5⟩
      case measure => simp only [intOf, HD.out]; omega
    · have hi2 : i = H n f := by
        rcases Nat.lt_or_ge i (H n f) with g | g
        · exact absurd (s1 i g) hlt
        · omega
      subst hi2
      obtain ⟨a, c, rfl, hri, hge⟩ := iowns_shape hown (by omega)
      go_wp2
      go_ret
      exact ⟨⟨_, rfl, _, _, _, rfl, hri, fun b off e => by have := hge b off _ e; omega⟩, (hb0.trans (hB.mono (by omega)))⟩

set_option maxRecDepth 20000 in
set_option maxHeartbeats 400000 in
theorem rlevels_ok (n f : Nat) (C U : Int) (h : Ok n f) (hok : okG n f C U) (w : World) :
    Calls Tryz.prog 113 #[geo n f C U] w fun e w' => (∃ v, e = .returned v ∧ Lf w' w.heap.size v (lev n f (H n f))) ∧ Below w.heap.size w w' := by
  have hr := grright_any n f C U
  have hd : decide (okG n f C U) = true := by simpa using hok
  rw [hd] at hr
  obtain ⟨i0, hi, hz0, hz1, hz2⟩ := info_parts Tryz.info3
  obtain ⟨s1, s2, s3⟩ := H_spec h
  have hb0 := (Below.refl w.heap.size w).alloc (Nat.le_refl _) (gbox n f C U)
  unfold geo at hr ⊢
  go_enter Tryz.func113, Tryz.ntmps113
  go_wp2_with fail
  refine (hr _).mono ?_
  rintro e w1 ⟨rfl, hb⟩
  have hb1 : Below (w.heap.size + 1) (w.alloc (gbox n f C U)) w1 := hb.mono (by simp)
  obtain ⟨c1, c2, -, -⟩ := gbox_cells hb1
  have d1 := fun o => (gbox_alloc hb1 o).1
  have d2 := fun o => (gbox_alloc hb1 o).2.1
  have hsz : w.heap.size + 1 ≤ w1.heap.size := by have := hb1.size; simpa using this
  clear hb
  have hlen : ∀ i, (lev n f i).length = i + 1 := lev_length n f
  go_wp2
  go_loopw [3, 4] (fun l x wr => ∃ i : Nat, i ≤ H n f ∧ x = .int .i64 (q n f i : Int) ∧ wr.ownsRow (w.heap.size + 1) 3 1 l (i + 1) (ivs (lev n f i)) ∧ Below (w.heap.size + 1) (w.alloc (gbox n f C U)) wr) (fun _ x _ => (intOf x).toNat)
  case atStart =>
    refine ⟨0, by omega, rfl, one_owns w1 _ _ (by omega), hb1.alloc (by omega) _⟩
  case round =>
    obtain ⟨i, hi9, rfl, hown, hB⟩ := hrel
    have hqi := q_pos h i
    have hql := q_le h i
    have hst := ceil_step h.f1 h.f2 hqi
    have hf1 := h.f1
    have hf2 := h.f2
    have hq1 : (q n f i + f - 1) / f = q n f (i + 1) := rfl
    rw [hq1] at hst
    by_cases hlt : 1 < q n f i
    · have hi2 : i < H n f := by
        rcases Nat.lt_or_ge i (H n f) with g | g
        · exact g
        · obtain rfl : i = H n f := by omega
          omega
      obtain ⟨c1, c2, -, -⟩ := gbox_cells hB
      have HB := Lib.hid hB
      have hdv : ((q n f i : Int) + (f : Int) - 1) / (f : Int) = (q n f (i + 1) : Int) := by
        rw [show (q n f i : Int) + (f : Int) - 1 = ((q n f i + f - 1 : Nat) : Int) from by omega, ← hq1, Int.natCast_ediv]
      have HD := Lib.hid hdv
      clear hdv
      have ho := hown.alloc (.cells #[.int .i64 (((q n f i : Int) + (f : Int) - 1) / (f : Int))] 3)
      have hszr : w.heap.size + 1 ≤ wr.heap.size := by have := hB.size; simpa using this
      have HB1 := Lib.hid (hB.alloc hszr (.cells #[.int .i64 (((q n f i : Int) + (f : Int) - 1) / (f : Int))] 3))
      have HBS := Lib.hid (show w.heap.size + 1 ≤ (wr.alloc (.cells #[.int .i64 (((q n f i : Int) + (f : Int) - 1) / (f : Int))] 3)).heap.size by simp; omega)
      go_wp2_with (at_builtin; refine wpList_append_i (o := ⟨some 26, _, _, _, _, _⟩) rfl (.tmp 23) (.tmp 25) 34 rfl (w.heap.size + 1) i0 Tryz.underlying34 hi hz0 hz1 hz2 _ (i + 1) _ rfl ho _ rfl rfl (by omega) HBS.out ?_)
      intro v' w5 hown5 hgrow
      rw [HD.out, ← lev_next] at hown5
      have hB5 := HB1.out.grown hgrow HBS.out (fun j hj => (hown.lt j hj).1)
      have hl5 := hown5.1
      clear hown ho hgrow hB c1 c2
      obtain ⟨a, c, rfl, -, -⟩ := iowns_shape hown5 (by omega)
      go_wp2
      go_roundw
      case rel => exact ⟨i + 1, by omega, by rw [HD.out], hown5, hB5⟩
      case measure => simp only [intOf, HD.out]; omega
    · have hi2 : i = H n f := by
        rcases Nat.lt_or_ge i (H n f) with g | g
        · exact absurd (s1 i g) hlt
        · omega
      subst hi2
      obtain ⟨a, c, rfl, hri, hge⟩ := iowns_shape hown (by omega)
      go_wp2
      go_ret
      exact ⟨⟨_, rfl, _, _, _, rfl, hri, fun b off e => by have := hge b off _ e; omega⟩, (hb0.trans (hB.mono (by omega)))⟩


set_option maxRecDepth 20000 in
set_option maxHeartbeats 400000 in
theorem levels_no (N F C U : Int) (hok : ¬ okG N F C U) (w : World) :
    Calls Tryz.prog 147 #[geo N F C U] w fun e w' => (∃ v, e = .returned v ∧ Lf w' w.heap.size v []) ∧ Below w.heap.size w w' := by
  have hr := gright_any N F C U
  have hd : decide (okG N F C U) = false := by simpa using hok
  rw [hd] at hr
  have hb0 := (Below.refl w.heap.size w).alloc (Nat.le_refl _) (gbox N F C U)
  unfold geo at hr ⊢
  go_enter Tryz.func147, Tryz.ntmps147
  go_wp2_with fail
  refine (hr _).mono ?_
  rintro e w1 ⟨rfl, hb⟩
  have hb1 : Below w.heap.size w w1 := hb0.trans (hb.mono (by simp))
  clear hb
  go_wp2
  go_ret
  exact ⟨⟨_, rfl, lf_nil _ _⟩, hb1⟩

set_option maxRecDepth 20000 in
set_option maxHeartbeats 400000 in
theorem rlevels_no (N F C U : Int) (hok : ¬ okG N F C U) (w : World) :
    Calls Tryz.prog 113 #[geo N F C U] w fun e w' => (∃ v, e = .returned v ∧ Lf w' w.heap.size v []) ∧ Below w.heap.size w w' := by
  have hr := grright_any N F C U
  have hd : decide (okG N F C U) = false := by simpa using hok
  rw [hd] at hr
  have hb0 := (Below.refl w.heap.size w).alloc (Nat.le_refl _) (gbox N F C U)
  unfold geo at hr ⊢
  go_enter Tryz.func113, Tryz.ntmps113
  go_wp2_with fail
  refine (hr _).mono ?_
  rintro e w1 ⟨rfl, hb⟩
  have hb1 : Below w.heap.size w w1 := hb0.trans (hb.mono (by simp))
  clear hb
  go_wp2
  go_ret
  exact ⟨⟨_, rfl, lf_nil _ _⟩, hb1⟩

/-- Levels, whatever the geometry. -/
theorem levels_any (N F C U : Int) (w : World) :
    Calls Tryz.prog 147 #[geo N F C U] w fun e w' => (∃ v, e = .returned v ∧ Lf w' w.heap.size v (levels N F C U)) ∧ Below w.heap.size w w' := by
  by_cases h : okG N F C U
  · obtain ⟨n, f, rfl, rfl, hh⟩ := ok_of h
    have : levels n f C U = lev n f (H n f) := by unfold levels; rw [if_pos h]; rfl
    rw [this]
    exact levels_ok n f C U hh h w
  · have : levels N F C U = [] := by unfold levels; rw [if_neg h]
    rw [this]
    exact levels_no N F C U h w

/-- Levels, whatever the geometry. -/
theorem rlevels_any (N F C U : Int) (w : World) :
    Calls Tryz.prog 113 #[geo N F C U] w fun e w' => (∃ v, e = .returned v ∧ Lf w' w.heap.size v (levels N F C U)) ∧ Below w.heap.size w w' := by
  by_cases h : okG N F C U
  · obtain ⟨n, f, rfl, rfl, hh⟩ := ok_of h
    have : levels n f C U = lev n f (H n f) := by unfold levels; rw [if_pos h]; rfl
    rw [this]
    exact rlevels_ok n f C U hh h w
  · have : levels N F C U = [] := by unfold levels; rw [if_neg h]
    rw [this]
    exact rlevels_no N F C U h w

end Go.Proofs.YtpkeikbiblfidaaGreatDoor
/-
  Contracts of both Nodes, Height, Root.
-/
namespace Go.Proofs.YtpkeikbiblfidaaGreatDoor
open Go.RowKit
set_option linter.unusedVariables false
set_option linter.unusedSimpArgs false

/-- The sum of the first i numbers. -/
def pre (xs : List Int) : Nat → Int
  | 0 => 0
  | i + 1 => pre xs i + xs[i]?.getD 0

theorem lev_at (n f h i : Nat) (hi : i ≤ h) : (lev n f h)[i]?.getD 0 = (q n f i : Int) := by
  simp [lev, List.getElem?_map, List.getElem?_range (show i < h + 1 by omega)]

theorem lev_pre (n f h : Nat) : ∀ i, i ≤ h + 1 → pre (lev n f h) i = (S n f i : Int)
  | 0, _ => rfl
  | i + 1, hi => by
    show pre _ i + _ = ((S n f i + q n f i : Nat) : Int)
    rw [lev_pre n f h i (by omega), lev_at n f h i (by omega)]
    omega

theorem levels_len (N F C U : Int) : (levels N F C U).length = if okG N F C U then H N.toNat F.toNat + 1 else 0 := by
  unfold levels; split <;> simp

theorem levels_pre (N F C U : Int) : (levels N F C U).length ≤ 8 ∧ (∀ i, i ≤ (levels N F C U).length → 0 ≤ pre (levels N F C U) i ∧ pre (levels N F C U) i ≤ 255) ∧ pre (levels N F C U) (levels N F C U).length = (nodes N F C U : Int) := by
  by_cases h : okG N F C U
  · obtain ⟨n, f, rfl, rfl, hh⟩ := ok_of h
    have e : levels n f C U = lev n f (H n f) := by unfold levels; rw [if_pos h]; rfl
    have e2 : nodes n f C U = S n f (H n f + 1) := by unfold nodes; rw [if_pos h]; rfl
    rw [e, lev_length, e2]
    refine ⟨by have := (H_spec hh).2.2; omega, fun i hi => ?_, lev_pre _ _ _ _ (by omega)⟩
    rw [lev_pre _ _ _ _ hi]
    have := @S_mono n f i (H n f + 1) hi
    have := S_le hh
    omega
  · have e : levels N F C U = [] := by unfold levels; rw [if_neg h]
    have e2 : nodes N F C U = 0 := by unfold nodes; rw [if_neg h]
    rw [e, e2]
    exact ⟨by simp, fun i hi => by obtain rfl : i = 0 := by simpa using hi
                                   exact ⟨Int.le_refl _, by show (0 : Int) ≤ 255; omega⟩, rfl⟩

set_option maxRecDepth 20000 in
set_option maxHeartbeats 400000 in
theorem nodes_any (N F C U : Int) (w : World) :
    Calls Tryz.prog 116 #[geo N F C U] w fun e w' => e = .returned (.int .i64 (nodes N F C U : Int)) ∧ Below w.heap.size w w' := by
  have hr := levels_any N F C U
  obtain ⟨p1, p2, p3⟩ := levels_pre N F C U
  rw [← p3]
  clear p3
  generalize levels N F C U = xs at *
  have hb0 := (Below.refl w.heap.size w).alloc (Nat.le_refl _) (gbox N F C U)
  unfold geo at hr ⊢
  go_enter Tryz.func116, Tryz.ntmps116
  go_wp2_with fail
  refine (hr _).mono ?_
  rintro e w1 ⟨⟨v, rfl, a, n, c, rfl, hri, -⟩, hb⟩
  have hb1 : Below w.heap.size w w1 := hb0.trans (hb.mono (by simp))
  clear hb
  have hl := hri.len
  have hle := hri.le
  go_wp2
  go_loopw [9, 3] (fun x s wr => ∃ i : Nat, i ≤ n ∧ x = .int .i64 (i : Int) ∧ s = .int .i64 (pre xs i) ∧ wr = w1) (fun x _ _ => n - (intOf x).toNat)
  case atStart => exact ⟨0, by omega, rfl, rfl, rfl⟩
  case round =>
    obtain ⟨i, hi, rfl, rfl, rfl⟩ := hrel
    have hp := p2 i (by omega)
    by_cases hlt : i < n
    · have i0 : (i : Int) < (n : Int) := by omega
      have i1 : (0 : Int) ≤ (i : Int) := by omega
      have hp1 := p2 (i + 1) (by omega)
      have he : pre xs (i + 1) = pre xs i + xs[i]?.getD 0 := rfl
      rw [he] at hp1
      obtain ⟨b, off, rfl, hbl, hc⟩ := hri.at0 (by omega)
      have hci := hc i hlt
      generalize xs[i]?.getD 0 = y at *
      have HE := Lib.hid he
      clear he hc
      go_wp2
      go_roundw
      case rel => exact ⟨i + 1, by omega, by go_num, by rw [HE.out], by first | trivial | rfl⟩
      case measure => simp [intOf]; omega
    · obtain rfl : i = n := by omega
      go_wp2
      go_ret
      exact ⟨by rw [hl]; rfl, hb1⟩

set_option maxRecDepth 20000 in
set_option maxHeartbeats 400000 in
theorem rnodes_any (N F C U : Int) (w : World) :
    Calls Tryz.prog 64 #[geo N F C U] w fun e w' => e = .returned (.int .i64 (nodes N F C U : Int)) ∧ Below w.heap.size w w' := by
  have hr := rlevels_any N F C U
  obtain ⟨p1, p2, p3⟩ := levels_pre N F C U
  rw [← p3]
  clear p3
  generalize levels N F C U = xs at *
  have hb0 := (Below.refl w.heap.size w).alloc (Nat.le_refl _) (gbox N F C U)
  unfold geo at hr ⊢
  go_enter Tryz.func64, Tryz.ntmps64
  go_wp2_with fail
  refine (hr _).mono ?_
  rintro e w1 ⟨⟨v, rfl, a, n, c, rfl, hri, -⟩, hb⟩
  have hb1 : Below w.heap.size w w1 := hb0.trans (hb.mono (by simp))
  clear hb
  have hl := hri.len
  have hle := hri.le
  go_wp2
  go_loopw [5, 3] (fun x s wr => ∃ i : Nat, i ≤ n ∧ x = .int .i64 (i : Int) ∧ s = .int .i64 (pre xs i) ∧ wr = w1) (fun x _ _ => n - (intOf x).toNat)
  case atStart => exact ⟨0, by omega, rfl, rfl, rfl⟩
  case round =>
    obtain ⟨i, hi, rfl, rfl, rfl⟩ := hrel
    have hp := p2 i (by omega)
    by_cases hlt : i < n
    · have i0 : (i : Int) < (n : Int) := by omega
      have i1 : (0 : Int) ≤ (i : Int) := by omega
      have hp1 := p2 (i + 1) (by omega)
      have he : pre xs (i + 1) = pre xs i + xs[i]?.getD 0 := rfl
      rw [he] at hp1
      obtain ⟨b, off, rfl, hbl, hc⟩ := hri.at0 (by omega)
      have hci := hc i hlt
      generalize xs[i]?.getD 0 = y at *
      have HE := Lib.hid he
      clear he hc
      go_wp2
      go_roundw
      case rel => exact ⟨i + 1, by omega, by go_num, by rw [HE.out], by first | trivial | rfl⟩
      case measure => simp [intOf]; omega
    · obtain rfl : i = n := by omega
      go_wp2
      go_ret
      exact ⟨by rw [hl]; rfl, hb1⟩


/-- One less, and 0 at least. -/
theorem max_less (k : Nat) : max ((k : Int) - 1) 0 = ((k - 1 : Nat) : Int) := by omega

set_option maxRecDepth 20000 in
set_option maxHeartbeats 400000 in
theorem height_any (N F C U : Int) (w : World) :
    Calls Tryz.prog 146 #[geo N F C U] w fun e w' => e = .returned (.int .i64 (height N F C U : Int)) ∧ Below w.heap.size w w' := by
  have hr := levels_any N F C U
  obtain ⟨p1, p2, p3⟩ := levels_pre N F C U
  have hh : height N F C U = (levels N F C U).length - 1 := by rw [levels_len]; unfold height; split <;> rfl
  rw [hh]
  generalize levels N F C U = xs at *
  have hb0 := (Below.refl w.heap.size w).alloc (Nat.le_refl _) (gbox N F C U)
  unfold geo at hr ⊢
  go_enter Tryz.func146, Tryz.ntmps146
  go_wp2_with fail
  refine (hr _).mono ?_
  rintro e w1 ⟨⟨v, rfl, a, n, c, rfl, hri, -⟩, hb⟩
  have hb1 : Below w.heap.size w w1 := hb0.trans (hb.mono (by simp))
  clear hb
  have hl := hri.len
  have hle := hri.le
  have HL := Lib.hid hl
  have n8 : n ≤ 8 := by omega
  clear hh hl p2 p3 hr p1
  go_wp2
  go_ret
  exact ⟨by rw [HL.out]; exact congrArg (fun x => Ending.returned (Value.int .i64 x)) (max_less n), hb1⟩

set_option maxRecDepth 20000 in
set_option maxHeartbeats 400000 in
theorem root_any (N F C U : Int) (w : World) :
    Calls Tryz.prog 71 #[geo N F C U] w fun e w' => e = .returned (.int .i64 ((nodes N F C U - 1 : Nat) : Int)) ∧ Below w.heap.size w w' := by
  have hr := nodes_any N F C U
  have hn : nodes N F C U ≤ 255 := by have := levels_pre N F C U; have := this.2.1 _ (Nat.le_refl _); omega
  generalize nodes N F C U = n at *
  have hb0 := (Below.refl w.heap.size w).alloc (Nat.le_refl _) (gbox N F C U)
  unfold geo at hr ⊢
  go_enter Tryz.func71, Tryz.ntmps71
  go_wp2_with fail
  refine (hr _).mono ?_
  rintro e w1 ⟨rfl, hb⟩
  have hb1 : Below w.heap.size w w1 := hb0.trans (hb.mono (by simp))
  clear hb
  go_wp2
  go_ret
  exact ⟨congrArg (fun x => Ending.returned (Value.int .i64 x)) (max_less n), hb1⟩


set_option maxRecDepth 20000 in
set_option maxHeartbeats 400000 in
theorem rroot_any (N F C U : Int) (w : World) :
    Calls Tryz.prog 107 #[geo N F C U] w fun e w' => e = .returned (.int .i64 ((nodes N F C U - 1 : Nat) : Int)) ∧ Below w.heap.size w w' := by
  have hr := rnodes_any N F C U
  have hn : nodes N F C U ≤ 255 := by have := levels_pre N F C U; have := this.2.1 _ (Nat.le_refl _); omega
  generalize nodes N F C U = n at *
  have hb0 := (Below.refl w.heap.size w).alloc (Nat.le_refl _) (gbox N F C U)
  unfold geo at hr ⊢
  go_enter Tryz.func107, Tryz.ntmps107
  go_wp2_with fail
  refine (hr _).mono ?_
  rintro e w1 ⟨rfl, hb⟩
  have hb1 : Below w.heap.size w w1 := hb0.trans (hb.mono (by simp))
  clear hb
  go_wp2
  go_ret
  exact ⟨congrArg (fun x => Ending.returned (Value.int .i64 x)) (max_less n), hb1⟩

end Go.Proofs.YtpkeikbiblfidaaGreatDoor
/-
  Contracts of starts and levelOf.
-/
namespace Go.Proofs.YtpkeikbiblfidaaGreatDoor
open Go.RowKit
set_option linter.unusedVariables false
set_option linter.unusedSimpArgs false

/-- The sums of the first numbers, up to the i-th. -/
def stt (xs : List Int) (i : Nat) : List Int := (List.range (i + 1)).map (pre xs)
theorem stt_next (xs : List Int) (i : Nat) : stt xs (i + 1) = stt xs i ++ [pre xs (i + 1)] := by simp [stt, List.range_succ]
theorem stt_length (xs : List Int) (i : Nat) : (stt xs i).length = i + 1 := by simp [stt]
theorem stt_at (xs : List Int) (m i : Nat) (hi : i ≤ m) : (stt xs m)[i]?.getD 0 = pre xs i := by
  simp [stt, List.getElem?_map, List.getElem?_range (show i < m + 1 by omega)]

set_option maxRecDepth 20000 in
set_option maxHeartbeats 400000 in
theorem starts_any (N F C U : Int) (w : World) :
    Calls Tryz.prog 144 #[geo N F C U] w fun e w' => (∃ v, e = .returned v ∧ Lf w' w.heap.size v (stt (levels N F C U) (levels N F C U).length)) ∧ Below w.heap.size w w' := by
  have hr := levels_any N F C U
  obtain ⟨p1, p2, p3⟩ := levels_pre N F C U
  clear p3
  generalize levels N F C U = xs at *
  obtain ⟨i0, hi, hz0, hz1, hz2⟩ := info_parts Tryz.info3
  have hb0 := (Below.refl w.heap.size w).alloc (Nat.le_refl _) (gbox N F C U)
  have hown0 := one_owns (w.alloc (gbox N F C U)) w.heap.size 0 (by simp)
  have hb00 := hb0.alloc (by simp) (.cells #[.int .i64 0] 3)
  have hc0 : ((w.alloc (gbox N F C U)).alloc (.cells #[.int .i64 0] 3)).heap.size = w.heap.size + 2 := by simp
  unfold geo at hr ⊢
  go_enter Tryz.func144, Tryz.ntmps144
  go_wp2_with fail
  refine (hr _).mono ?_
  rintro e w1 ⟨⟨v, rfl, a, n, c, rfl, hri, hfr⟩, hb⟩
  have hown1 : w1.ownsRow w.heap.size 3 1 (.slice (some ⟨w.heap.size + 1, 0, none⟩) 1 1) 1 (ivs [0]) := by
    have := hown0.kept (w' := w1) (row := none) ⟨hb.os, hb.tape, hb.output, hb.size, fun k hk _ => hb.block k hk⟩ (.inr (by simp [Value.ownBlock]))
    simpa using this
  have hb1 : Below w.heap.size w w1 := hb00.trans (hb.mono (by simp; omega))
  have hfr1 : ∀ b off, a = some ⟨b, off, none⟩ → w.heap.size + 2 ≤ b := fun b off e => by have := hfr b off e; simp at this; omega
  have hs1 : w.heap.size ≤ w1.heap.size := hb1.size
  clear hb hfr hb0 hb00 hc0 hown0 hr
  have hl := hri.len
  have hle := hri.le
  go_wp2
  go_loopw [10, 3] (fun x l wr => ∃ i : Nat, i ≤ n ∧ x = .int .i64 (i : Int) ∧ wr.ownsRow w.heap.size 3 1 l (i + 1) (ivs (stt xs i)) ∧ Ri wr a n c xs ∧ (∀ b off, a = some ⟨b, off, none⟩ → l.ownBlock ≠ some b) ∧ Below w.heap.size w wr) (fun x _ _ => n - (intOf x).toNat)
  case atStart => exact ⟨0, by omega, rfl, hown1, hri, fun b off e => by simp [Value.ownBlock]; have := hfr1 b off e; omega, hb1⟩
  case round =>
    obtain ⟨i, hi9, rfl, hown, hri, hsep, hB⟩ := hrel
    have hp := p2 i (by omega)
    by_cases hlt : i < n
    · have i00 : (i : Int) < (n : Int) := by omega
      have i1 : (0 : Int) ≤ (i : Int) := by omega
      have hp1 := p2 (i + 1) (by omega)
      have he : pre xs (i + 1) = pre xs i + xs[i]?.getD 0 := rfl
      have hnx := stt_next xs i
      have hls := stt_at xs i i (Nat.le_refl _)
      rw [he] at hp1 hnx
      obtain ⟨b, off, rfl, hbl, hc⟩ := hri.at0 (by omega)
      have hci := hc i hlt
      have hne := hsep b off rfl
      obtain ⟨al, cl, rfl, hrl, -⟩ := iowns_shape hown (by omega)
      obtain ⟨bl, offl, rfl, hbll, hcl⟩ := hrl.at0 (by omega)
      have hcli := hcl i (by omega)
      rw [hls] at hcli
      generalize xs[i]?.getD 0 = y at *
      generalize pre xs i = z at *
      have HB := Lib.hid hB
      have HS := Lib.hid hB.size
      have y1 : -9223372036854775808 ≤ z + y := by omega
      have y2 : z + y ≤ 9223372036854775807 := by omega
      clear he hc hcl hls hp hp1
      have ho := hown.alloc (.cells #[.int .i64 (z + y)] 3)
      have HB1 := Lib.hid (hB.alloc hB.size (.cells #[.int .i64 (z + y)] 3))
      have HBS := Lib.hid (show w.heap.size ≤ (wr.alloc (.cells #[.int .i64 (z + y)] 3)).heap.size by simp; have := hB.size; omega)
      have HR := Lib.hid (hri.later ((Below.refl _ _).alloc (Nat.le_refl _) (.cells #[.int .i64 (z + y)] 3)))
      clear hri hB
      go_wp2_with (at_builtin; refine wpList_append_ia (o := ⟨some 24, _, _, _, _, _⟩) rfl (.tmp 14) (.tmp 23) 34 rfl w.heap.size i0 Tryz.underlying34 hi hz0 hz1 hz2 _ (i + 1) _ rfl ho _ rfl rfl (by omega) HBS.out ?_)
      intro v' w5 hown5 hgrow hat
      rw [← hnx] at hown5
      have hB5 := HB1.out.grown hgrow HBS.out (fun j hj => (hown.lt j hj).1)
      have hr5 := HR.out.gb hgrow (fun b' off' e => by
        simp only [Option.some.injEq, Addr.mk.injEq] at e
        rw [← e.1]; exact hne)
      have hsep5 : ∀ b' off', some (⟨b, off, none⟩ : Addr) = some ⟨b', off', none⟩ → v'.ownBlock ≠ some b' := fun b' off' e h => by
        simp only [Option.some.injEq, Addr.mk.injEq] at e
        rcases hat with h2 | h2
        · rw [h2, ← e.1] at h; exact hne h
        · rw [h2] at h
          simp at h
          omega
      clear hown ho hgrow hat
      obtain ⟨al', cl', rfl, -, -⟩ := iowns_shape hown5 (by omega)
      go_wp2
      go_roundw
      case rel => exact ⟨i + 1, by omega, by go_num, hown5, hr5, hsep5, hB5⟩
      case measure => simp [intOf]; omega
    · obtain rfl : i = n := by omega
      obtain ⟨al, cl, rfl, hrl, hge⟩ := iowns_shape hown (by omega)
      go_wp2
      go_ret
      exact ⟨⟨_, rfl, _, _, _, rfl, by rw [hl]; exact hrl, fun b off e => hge b off _ e⟩, hB⟩

end Go.Proofs.YtpkeikbiblfidaaGreatDoor
/-
  Contract of levelOf.
-/
namespace Go.Proofs.YtpkeikbiblfidaaGreatDoor
open Go.RowKit
set_option linter.unusedVariables false
set_option linter.unusedSimpArgs false

/-- The first of k places from i on where x lies. -/
def lvo (p : Nat → Int) (x : Int) : Nat → Nat → Int
  | 0, _ => -1
  | k + 1, i => if p i ≤ x ∧ x ≤ p (i + 1) - 1 then (i : Int) else lvo p x k (i + 1)

theorem lvo_spec (p : Nat → Int) (x : Int) : ∀ k i, (lvo p x k i = -1 ∧ ∀ j, i ≤ j → j < i + k → ¬ (p j ≤ x ∧ x ≤ p (j + 1) - 1)) ∨ ∃ j : Nat, i ≤ j ∧ j < i + k ∧ lvo p x k i = (j : Int) ∧ p j ≤ x ∧ x ≤ p (j + 1) - 1
  | 0, i => .inl ⟨rfl, fun j h1 h2 => by omega⟩
  | k + 1, i => by
    unfold lvo
    split
    · rename_i h; exact .inr ⟨i, Nat.le_refl _, by omega, rfl, h.1, h.2⟩
    · rename_i h
      rcases lvo_spec p x k (i + 1) with ⟨h1, h2⟩ | ⟨j, h1, h2, h3⟩
      · refine .inl ⟨h1, fun j h3 h4 => ?_⟩
        by_cases e : j = i
        · subst e; exact h
        · exact h2 j (by omega) (by omega)
      · exact .inr ⟨j, by omega, by omega, h3⟩

/-- The same world, but for what was drawn. -/
def Dr (w w' : World) : Prop := ∃ k, w' = w.drewN k
theorem Dr.refl (w : World) : Dr w w := ⟨0, rfl⟩
theorem Dr.next {w w' : World} (h : Dr w w') (n : Nat) : Dr w (w'.drewN n) := by
  obtain ⟨k, rfl⟩ := h; exact ⟨_, World.drewN_drewN _ _ _⟩
theorem Dr.below {w w' : World} (h : Dr w w') : Below w.heap.size w w' := by
  obtain ⟨k, rfl⟩ := h; exact (Below.refl _ _).grown (gb_drewNG w k none) (Nat.le_refl _) (fun j h => by cases h)

set_option maxRecDepth 20000 in
set_option maxHeartbeats 400000 in
theorem levelOf_any (xs : List Int) (m : Nat) (hm : m ≤ 8) (hp : ∀ i, i ≤ m → 0 ≤ pre xs i ∧ pre xs i ≤ 255) (v : Value) (x : Int) (w : World) (hv : Li w v (stt xs m)) :
    Calls Tryz.prog 145 #[v, .int .i64 x] w fun e w' => e = .returned (.int .i64 (lvo (pre xs) x m 0)) ∧ Dr w w' := by
  obtain ⟨a, n, c, rfl, hri⟩ := hv
  have hl := hri.len
  rw [stt_length] at hl
  subst hl
  have hle := hri.le
  go_enter Tryz.func145, Tryz.ntmps145
  go_wp2
  go_loopw [9] (fun y wr => ∃ i : Nat, i ≤ m ∧ y = .int .i64 (i : Int) ∧ lvo (pre xs) x m 0 = lvo (pre xs) x (m - i) i ∧ Dr w wr) (fun y _ => m - (intOf y).toNat)
  case atStart => exact ⟨0, by omega, rfl, rfl, Dr.refl _⟩
  case round =>
    obtain ⟨i, hi9, rfl, hlv, hD⟩ := hrel
    have HD := Lib.hid hD
    by_cases hlt : i < m
    · have i00 : (i : Int) < (m : Int) := by omega
      have i1 : (0 : Int) ≤ (i : Int) := by omega
      have hp0 := hp i (by omega)
      have hp1 := hp (i + 1) (by omega)
      obtain ⟨b, off, rfl, hbl, hc⟩ := (hri.later hD.below).at0 (by omega)
      clear hD
      have hc1 := hc i (by omega)
      have hc2 := hc (i + 1) (by omega)
      rw [stt_at xs m i (by omega)] at hc1
      rw [stt_at xs m (i + 1) (by omega)] at hc2
      have hw := within_any x (pre xs i) (pre xs (i + 1) - 1)
      have hd : (m - i) = (m - (i + 1)) + 1 := by omega
      have hnx : lvo (pre xs) x (m - i) i = if pre xs i ≤ x ∧ x ≤ pre xs (i + 1) - 1 then (i : Int) else lvo (pre xs) x (m - (i + 1)) (i + 1) := by rw [hd]; rfl
      have i2 : (i : Int) < (m : Int) + 1 := by omega
      have i3 : (i : Int) + 1 < (m : Int) + 1 := by omega
      have i4 : (i : Int) + 1 ≤ 9223372036854775807 := by omega
      have i5 : (0 : Int) ≤ (i : Int) + 1 := by omega
      clear hc hd
      generalize pre xs i = z1 at *
      generalize pre xs (i + 1) = z2 at *
      obtain ⟨bq, hq⟩ : ∃ bq : Bool, decide (z1 ≤ x ∧ x ≤ z2 - 1) = bq := ⟨_, rfl⟩
      rw [hq] at hw
      have wr1 : IntKind.i64.wrap ((i : Int) + 1) = (i : Int) + 1 := IntWalk.i64_in _ (by omega)
      have wr2 : IntKind.i64.wrap (z2 - 1) = z2 - 1 := IntWalk.i64_in _ (by omega)
      have HQ := Lib.hid hq
      have HW := Lib.hid hw
      have HX := Lib.hid hnx
      have HV := Lib.hid hlv
      clear hq hnx hlv hw
      go_wp2_with fail
      go_quiet ((go_at_call 114; with_reducible exact Calls.quiet_of_same (HW.out _)))
      cases bq
      · have e1 : ¬ (z1 ≤ x ∧ x ≤ z2 - 1) := by simpa using HQ.out
        have E1 := Lib.hid e1
        clear e1
        go_wp2
        go_roundw
        case rel => exact ⟨i + 1, by omega, by go_num, by rw [HV.out, HX.out, if_neg E1.out], HD.out.next _⟩
        case measure => simp [intOf]; omega
      · have e1 : (z1 ≤ x ∧ x ≤ z2 - 1) := by simpa using HQ.out
        have E1 := Lib.hid e1
        clear e1
        go_wp2
        go_ret
        exact ⟨by rw [HV.out, HX.out, if_pos E1.out]; rfl, HD.out.next _⟩
    · obtain rfl : i = m := by omega
      rw [Nat.sub_self] at hlv
      go_wp2
      go_ret
      exact ⟨by rw [hlv]; rfl, hD⟩

end Go.Proofs.YtpkeikbiblfidaaGreatDoor

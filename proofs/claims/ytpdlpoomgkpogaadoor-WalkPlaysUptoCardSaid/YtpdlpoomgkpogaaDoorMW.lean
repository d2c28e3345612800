/-
  Texts put together: W0, W1, W2.
-/
import Derived.Test.YtpdlpoomgkpogaaDoorMV2
import Derived.Laws.AppendOwnNone
import Derived.Maps.AppendAt
import Derived.Deep.DeepCutAuto
/-
  Trees that are gone over level by level: lists alone.
-/
namespace Go.Proofs.YtpdlpoomgkpogaaDoor
open Go.RowKit
set_option linter.unusedVariables false
set_option linter.unusedSimpArgs false

section
variable (nx lf : Int → List Int)
/-- One after another: what is told, and how many are looked at; n: at most so many. -/
def bfs : Nat → List Int → List Int × Nat
  | 0, _ => ([], 0)
  | _ + 1, [] => ([], 0)
  | n + 1, k :: q => (lf k ++ (bfs n (q ++ nx k)).1, (bfs n (q ++ nx k)).2 + 1)
/-- It comes to its end. -/
def bdone : Nat → List Int → Prop
  | 0, q => q = []
  | _ + 1, [] => True
  | n + 1, k :: q => bdone n (q ++ nx k)
/-- Level by level. -/
def lvs : Nat → List Int → List Int × Nat
  | 0, _ => ([], 0)
  | d + 1, l => (l.flatMap lf ++ (lvs d (l.flatMap nx)).1, l.length + (lvs d (l.flatMap nx)).2)
/-- The d-th level below. -/
def below_ : Nat → List Int → List Int
  | 0, l => l
  | d + 1, l => below_ d (l.flatMap nx)

theorem bfs_nil : ∀ n, bfs nx lf n [] = ([], 0)
  | 0 => rfl
  | _ + 1 => rfl
theorem bdone_nil : ∀ n, bdone nx n []
  | 0 => rfl
  | _ + 1 => trivial
theorem bfs_level : ∀ (l rest : List Int) (n : Nat), bfs nx lf (l.length + n) (l ++ rest) = (l.flatMap lf ++ (bfs nx lf n (rest ++ l.flatMap nx)).1, l.length + (bfs nx lf n (rest ++ l.flatMap nx)).2)
  | [], rest, n => by simp
  | k :: l, rest, n => by
    have ih := bfs_level l (rest ++ nx k) n
    rw [show (k :: l).length + n = (l.length + n) + 1 from by simp; omega]
    show (lf k ++ (bfs nx lf (l.length + n) ((l ++ rest) ++ nx k)).1, (bfs nx lf (l.length + n) ((l ++ rest) ++ nx k)).2 + 1) = _
    rw [List.append_assoc, ih]
    simp only [List.flatMap_cons, List.append_assoc, List.length_cons, Prod.mk.injEq, true_and]
    omega
theorem bdone_level : ∀ (l rest : List Int) (n : Nat), bdone nx (l.length + n) (l ++ rest) ↔ bdone nx n (rest ++ l.flatMap nx)
  | [], rest, n => by simp
  | k :: l, rest, n => by
    have ih := bdone_level l (rest ++ nx k) n
    rw [show (k :: l).length + n = (l.length + n) + 1 from by simp; omega]
    show bdone nx (l.length + n) ((l ++ rest) ++ nx k) ↔ _
    rw [List.append_assoc, ih]
    simp only [List.flatMap_cons, List.append_assoc]
/-- Both ways tell the same. -/
theorem bfs_lvs : ∀ (d : Nat) (l : List Int), below_ nx d l = [] → ∃ n, bdone nx n l ∧ bfs nx lf n l = lvs nx lf d l
  | 0, l, h => by
    have : l = [] := h
    subst this
    exact ⟨0, rfl, rfl⟩
  | d + 1, l, h => by
    obtain ⟨n, h1, h2⟩ := bfs_lvs d (l.flatMap nx) h
    refine ⟨l.length + n, ?_, ?_⟩
    · have := (bdone_level nx l [] n).2 (by simpa using h1)
      simpa using this
    · have := bfs_level nx lf l [] n
      rw [List.append_nil, List.nil_append, h2] at this
      rw [this]
      rfl
theorem bfs_len : ∀ (n : Nat) (q : List Int), bdone nx n q → q.length ≤ (bfs nx lf n q).2
  | 0, q, h => by
    have : q = [] := h
    subst this
    exact Nat.zero_le _
  | _ + 1, [], _ => Nat.zero_le _
  | n + 1, k :: q, h => by
    have := bfs_len n (q ++ nx k) h
    show (k :: q).length ≤ (bfs nx lf n (q ++ nx k)).2 + 1
    rw [List.length_append] at this
    simp only [List.length_cons]
    omega
def geoS (b : Nat) : Nat → Nat
  | 0 => 0
  | d + 1 => 1 + b * geoS b d
theorem flat_len (b : Nat) (hb : ∀ k, (nx k).length ≤ b) : ∀ l : List Int, (l.flatMap nx).length ≤ l.length * b
  | [] => by simp
  | k :: l => by
    have := flat_len b hb l
    have h2 := hb k
    simp only [List.flatMap_cons, List.length_append, List.length_cons]
    rw [Nat.add_mul, Nat.one_mul]
    omega
theorem lvs_le (b : Nat) (hb : ∀ k, (nx k).length ≤ b) : ∀ (d : Nat) (l : List Int), (lvs nx lf d l).2 ≤ l.length * geoS b d
  | 0, l => by simp [lvs]
  | d + 1, l => by
    have ih := lvs_le b hb d (l.flatMap nx)
    have h2 : (l.flatMap nx).length * geoS b d ≤ l.length * b * geoS b d := Nat.mul_le_mul_right _ (flat_len nx b hb l)
    show l.length + (lvs nx lf d (l.flatMap nx)).2 ≤ l.length * (1 + b * geoS b d)
    rw [Nat.mul_add, Nat.mul_one, ← Nat.mul_assoc]
    omega
end

section
variable {N F C U : Int} {L O : List ByteArray}
/-- What is looked at behind a node of two trees. -/
def nxD (N F C U : Int) (L O : List ByteArray) (k : Int) : List Int := if lAt L k.toNat = lAt O k.toNat then [] else children N F C U k
/-- What a node tells. -/
def lfD (N : Int) (L O : List ByteArray) (k : Int) : List Int := if lAt L k.toNat ≠ lAt O k.toNat ∧ k < N then [k] else []

theorem nxD_cases (k : Int) : nxD N F C U L O k = [] ∨ nxD N F C U L O k = children N F C U k := by
  unfold nxD
  split
  · exact .inl rfl
  · exact .inr rfl
/-- A node of level j. -/
def InLv (n f j : Nat) (c : Int) : Prop := ∃ x : Nat, c = x ∧ S n f j ≤ x ∧ x < S n f (j + 1)
theorem children_lv {n f j : Nat} {C U : Int} (h : Ok n f) (hok : okG n f C U) (hj : j ≤ H n f) {c : Int} (hc : InLv n f j c) : (j = 0 ∧ children n f C U c = []) ∨ ∃ i, j = i + 1 ∧ ∀ y ∈ children n f C U c, InLv n f i y := by
  obtain ⟨x, rfl, h1, h2⟩ := hc
  have hm := @S_mono n f (j + 1) (H n f + 1) (by omega)
  have he : children n f C U (x : Int) = ch n f x := by
    unfold children
    rw [if_pos ⟨hok, by omega, by simp only [Int.toNat_natCast]; omega⟩]
    simp only [Int.toNat_natCast]
  rw [he]
  rcases j with _ | i
  · exact .inl ⟨rfl, ch_leaf h2⟩
  · refine .inr ⟨i, rfl, fun y hy => ?_⟩
    obtain ⟨e1, e2⟩ := ch_at (by omega) h1 h2
    unfold ch at hy
    obtain ⟨t, ht, rfl⟩ := List.mem_map.1 hy
    rw [List.mem_range, e2] at ht
    refine ⟨_, rfl, ?_, ?_⟩
    · rw [e1]; omega
    · rw [e1]
      have := Nat.min_le_right f (S n f (i + 1) - (S n f i + (x - S n f (i + 1)) * f))
      omega
theorem below_lv {n f : Nat} {C U : Int} (h : Ok n f) (hok : okG n f C U) : ∀ (j : Nat) (l : List Int), j ≤ H n f → (∀ c ∈ l, InLv n f j c) → below_ (nxD n f C U L O) (j + 1) l = []
  | 0, l, hj, hl => by
    show l.flatMap _ = []
    rw [List.flatMap_eq_nil_iff]
    intro c hc
    rcases nxD_cases (N := n) (F := f) (C := C) (U := U) (L := L) (O := O) c with e | e
    · exact e
    · rw [e]
      rcases children_lv h hok hj (hl c hc) with ⟨_, h1⟩ | ⟨i, h1, _⟩
      · exact h1
      · omega
  | j + 1, l, hj, hl => by
    show below_ _ (j + 1) (l.flatMap _) = []
    refine below_lv h hok j _ (by omega) fun y hy => ?_
    obtain ⟨c, hc, hy⟩ := List.mem_flatMap.1 hy
    rcases nxD_cases (N := n) (F := f) (C := C) (U := U) (L := L) (O := O) c with e | e
    · rw [e] at hy; cases hy
    · rw [e] at hy
      rcases children_lv h hok hj (hl c hc) with ⟨h1, _⟩ | ⟨i, h1, h2⟩
      · omega
      · obtain rfl : i = j := by omega
        exact h2 y hy
theorem root_lv {n f : Nat} (h : Ok n f) : InLv n f (H n f) ((S n f (H n f + 1) - 1 : Nat) : Int) := by
  have h1 := (H_spec h).2.1
  have e : S n f (H n f + 1) = S n f (H n f) + q n f (H n f) := rfl
  exact ⟨_, rfl, by omega, by omega⟩
/-- What Diff tells, and how many nodes it looks at. -/
def diffP (N F C U : Int) (L O : List ByteArray) : List Int × Nat := lvs (nxD N F C U L O) (lfD N L O) (height N F C U + 1) [((nodes N F C U - 1 : Nat) : Int)]
theorem diff_end (h : okG N F C U) : below_ (nxD N F C U L O) (height N F C U + 1) [((nodes N F C U - 1 : Nat) : Int)] = [] := by
  have hok := h
  obtain ⟨n, f, rfl, rfl, ho⟩ := ok_of h
  unfold height nodes
  rw [if_pos hok]
  simp only [Int.toNat_natCast]
  rw [if_pos hok]
  exact below_lv ho hok _ _ (Nat.le_refl _) fun c hc => by
    obtain rfl := List.mem_singleton.1 hc
    exact root_lv ho
theorem diff_small (h : okG N F C U) : (diffP N F C U L O).2 ≤ 21845 := by
  have hb : ∀ k, (nxD N F C U L O k).length ≤ 4 := fun k => by
    rcases nxD_cases (N := N) (F := F) (C := C) (U := U) (L := L) (O := O) k with e | e
    · rw [e]; exact Nat.zero_le _
    · rw [e]; exact children_len N F C U k
  have h1 := lvs_le (nxD N F C U L O) (lfD N L O) 4 hb (height N F C U + 1) [((nodes N F C U - 1 : Nat) : Int)]
  have hh : height N F C U ≤ 7 := by
    have hok := h
    obtain ⟨n, f, rfl, rfl, ho⟩ := ok_of h
    unfold height
    rw [if_pos hok]
    simp only [Int.toNat_natCast]
    exact (H_spec ho).2.2
  have hg : ∀ d, d ≤ 8 → geoS 4 d ≤ 21845 := by decide
  have h2 := hg (height N F C U + 1) (by omega)
  simp only [List.length_singleton, Nat.one_mul] at h1
  unfold diffP
  omega
end
end Go.Proofs.YtpdlpoomgkpogaaDoor
/-
  The program's Diff: what its closure does.
-/
namespace Go.Proofs.YtpdlpoomgkpogaaDoor
open Go.RowKit
set_option linter.unusedVariables false
set_option linter.unusedSimpArgs false

/-- What there is while two trees are gone over: the list, the leaves' box at lb and their row, all of the call's own but the box. -/
structure DI (w0 w : World) (lb : Nat) (s sv : Value) (lst lv : List Int) : Prop where
  rowL : w.ownsRow w0.heap.size 3 1 s lst.length (ivs lst)
  rowV : w.ownsRow w0.heap.size 3 1 sv lv.length (ivs lv)
  box : w.heap[lb]? = some (.cells #[sv] 78 (0, 0))
  apart : ∀ k, s.ownBlock = some k → sv.ownBlock ≠ some k
  fr : Fr (fun k => k = lb) w0 w
  low : lb < w0.heap.size
theorem DI.kept {w0 w w' : World} {lb : Nat} {s sv : Value} {lst lv : List Int} (h : DI w0 w lb s sv lst lv) (hb : Below w.heap.size w w') : DI w0 w' lb s sv lst lv where
  rowL := owns_kept h.rowL fun k hk => hb.block k (h.rowL.lt k hk).2
  rowV := owns_kept h.rowV fun k hk => hb.block k (h.rowV.lt k hk).2
  box := (hb.block lb (Nat.lt_of_lt_of_le h.low h.fr.size)).trans h.box
  apart := h.apart
  fr := h.fr.trans (Fr.of_below (A := fun _ => False) hb) fun i hi => hi.elim
  low := h.low
end Go.Proofs.YtpdlpoomgkpogaaDoor
/-
  The program's Diff: descend.
-/
namespace Go.Proofs.YtpdlpoomgkpogaaDoor
open Go.RowKit
set_option linter.unusedVariables false
set_option linter.unusedSimpArgs false

/-- What is still to come: i of the list are looked at. -/
structure DM (N F C U : Int) (L O : List ByteArray) (i n : Nat) (lst lv : List Int) : Prop where
  le : i ≤ lst.length
  done : bdone (nxD N F C U L O) n (lst.drop i)
  fst : lv ++ (bfs (nxD N F C U L O) (lfD N L O) n (lst.drop i)).1 = (diffP N F C U L O).1
  snd : i + (bfs (nxD N F C U L O) (lfD N L O) n (lst.drop i)).2 = (diffP N F C U L O).2
  rng : ∀ c ∈ lst, ∃ x : Nat, c = x ∧ x < nodes N F C U
theorem DM.start {N F C U : Int} {L O : List ByteArray} (h : okG N F C U) : ∃ n, DM N F C U L O 0 n [((nodes N F C U - 1 : Nat) : Int)] [] := by
  obtain ⟨n, h1, h2⟩ := bfs_lvs (nxD N F C U L O) (lfD N L O) _ _ (diff_end (L := L) (O := O) h)
  have hp := nodes_ge h
  refine ⟨n, Nat.zero_le _, h1, ?_, ?_, fun c hc => ?_⟩
  · rw [List.drop_zero, h2]; rfl
  · rw [List.drop_zero, h2, Nat.zero_add]; rfl
  · obtain rfl := List.mem_singleton.1 hc
    exact ⟨_, rfl, by omega⟩
theorem DM.len {N F C U : Int} {L O : List ByteArray} {i n : Nat} {lst lv : List Int} (h : DM N F C U L O i n lst lv) (hok : okG N F C U) : lst.length ≤ 21845 := by
  have h1 := bfs_len (nxD N F C U L O) (lfD N L O) n _ h.done
  have h2 := h.snd
  have h3 := diff_small (L := L) (O := O) hok
  rw [List.length_drop] at h1
  have := h.le
  omega
theorem DM.fin {N F C U : Int} {L O : List ByteArray} {i n : Nat} {lst lv : List Int} (h : DM N F C U L O i n lst lv) (he : i = lst.length) : (diffP N F C U L O).1 = lv ∧ (diffP N F C U L O).2 = i := by
  have h1 := h.fst
  have h2 := h.snd
  rw [he, List.drop_length, bfs_nil] at h1 h2
  simp only [List.append_nil, Nat.add_zero] at h1 h2
  exact ⟨h1.symm, by omega⟩
theorem DM.next {N F C U : Int} {L O : List ByteArray} {i n : Nat} {lst lv : List Int} (h : DM N F C U L O i n lst lv) (hi : i < lst.length) : i < (diffP N F C U L O).2 ∧ ∃ m, DM N F C U L O (i + 1) m (lst ++ nxD N F C U L O (lst[i]?.getD 0)) (lv ++ lfD N L O (lst[i]?.getD 0)) := by
  have hd : lst.drop i = lst[i]?.getD 0 :: lst.drop (i + 1) := by
    rw [List.drop_eq_getElem_cons hi, List.getElem?_eq_getElem hi]; rfl
  have h1 := h.done
  have h2 := h.fst
  have h3 := h.snd
  rw [hd] at h1 h2 h3
  rcases n with _ | n
  · exact absurd h1 (by simp [bdone])
  · have e : (lst ++ nxD N F C U L O (lst[i]?.getD 0)).drop (i + 1) = lst.drop (i + 1) ++ nxD N F C U L O (lst[i]?.getD 0) := List.drop_append_of_le_length (by omega)
    have h2' : lv ++ (lfD N L O (lst[i]?.getD 0) ++ (bfs (nxD N F C U L O) (lfD N L O) n (lst.drop (i + 1) ++ nxD N F C U L O (lst[i]?.getD 0))).1) = (diffP N F C U L O).1 := h2
    have h3' : i + ((bfs (nxD N F C U L O) (lfD N L O) n (lst.drop (i + 1) ++ nxD N F C U L O (lst[i]?.getD 0))).2 + 1) = (diffP N F C U L O).2 := h3
    refine ⟨by omega, n, by rw [List.length_append]; omega, by rw [e]; exact h1, by rw [e, List.append_assoc]; exact h2', by rw [e]; omega, fun c hc => ?_⟩
    rcases List.mem_append.1 hc with hc | hc
    · exact h.rng c hc
    · rcases nxD_cases (N := N) (F := F) (C := C) (U := U) (L := L) (O := O) (lst[i]?.getD 0) with e2 | e2
      · rw [e2] at hc; cases hc
      · rw [e2] at hc
        obtain ⟨x, hx, hxl⟩ := h.rng (lst[i]?.getD 0) (by rw [List.getElem?_eq_getElem hi]; exact List.getElem_mem hi)
        rw [hx] at hc
        obtain ⟨j, hj, hl⟩ := children_mem hc
        exact ⟨j, hj, by omega⟩

theorem lvs_fst (nx lf : Int → List Int) (h : ∀ k, (lf k).length ≤ 1) : ∀ (d : Nat) (l : List Int), (lvs nx lf d l).1.length ≤ (lvs nx lf d l).2
  | 0, l => Nat.le_refl _
  | d + 1, l => by
    have ih := lvs_fst nx lf h d (l.flatMap nx)
    have h2 := flat_len lf 1 h l
    show (l.flatMap lf ++ (lvs nx lf d (l.flatMap nx)).1).length ≤ l.length + (lvs nx lf d (l.flatMap nx)).2
    rw [List.length_append]
    omega
theorem lfD_le (N : Int) (L O : List ByteArray) (k : Int) : (lfD N L O k).length ≤ 1 := by unfold lfD; split <;> simp
theorem DM.few {N F C U : Int} {L O : List ByteArray} {i n : Nat} {lst lv : List Int} (h : DM N F C U L O i n lst lv) (hok : okG N F C U) : lv.length ≤ 21845 := by
  have h1 := congrArg List.length h.fst
  have h2 := lvs_fst (nxD N F C U L O) (lfD N L O) (lfD_le N L O) (height N F C U + 1) [((nodes N F C U - 1 : Nat) : Int)]
  have h3 := diff_small (L := L) (O := O) hok
  rw [List.length_append] at h1
  unfold diffP at h1 h3
  omega

/-- The list grows by a list that was read. -/
theorem DI.grow {w0 w w' : World} {lb : Nat} {s s' sv : Value} {lst lv ks : List Int} (h : DI w0 w lb s sv lst lv) (h1 : w'.ownsRow w0.heap.size 3 1 s' (lst.length + ks.length) (ivs lst ++ ivs ks)) (h2 : w.grownBy w' s.ownBlock) (h3 : s'.ownBlock = s.ownBlock ∨ s'.ownBlock = some w.heap.size) :
    DI w0 w' lb s' sv (lst ++ ks) lv := by
  have hl := h.low
  have hs := h.fr.size
  refine ⟨by rw [List.length_append, ivs_append]; exact h1, owns_kept h.rowV fun k hk => h2.block k (h.rowV.lt k hk).2 (fun e => h.apart k e.symm hk), (h2.block lb (by omega) fun e => by have := (h.rowL.lt lb e.symm).1; omega).trans h.box, fun k hk hk2 => ?_, h.fr.grown h2 fun j hj => .inr (h.rowL.lt j hj).1, hl⟩
  rcases h3 with h3 | h3
  · exact h.apart k (h3 ▸ hk) hk2
  · rw [h3] at hk
    cases hk
    have := (h.rowV.lt _ hk2).2
    omega

theorem jump_mono {P : Program} {c : Code} {l : Nat} {J J' : Act → World → Prop} {Q : Exit → Act → World → Prop} {a : Act} {w : World} (h : c.wp P (Exit.jump l J Q) a w) (hJ : ∀ a w, J a w → J' a w) : c.wp P (Exit.jump l J' Q) a w := by
  intro b k cs
  obtain ⟨e, a1, w1, hq, harr⟩ := h b k cs
  refine ⟨e, a1, w1, ?_, harr⟩
  cases e <;> first | exact hq | exact ⟨hq.1, hJ _ _ hq.2⟩
/-- A scope with one label, to which the run comes from above and by jumps back: what stands behind the label is walked once. -/
theorem wp_scope_pass {P : Program} {a : Act} {w : World} {Q : Exit → Act → World → Prop} {c rest : Code} (l : Nat) (J : Act → World → Prop) (μ : Act → World → Nat) (hf : findLabel c l = some (Code.skip.seq rest))
    (pass : ∀ a w, J a w → rest.wp P (Exit.jump l (fun a' w' => J a' w' ∧ μ a' w' < μ a w) Q) a w)
    (first : (∀ a w, J a w → rest.wp P (Exit.jump l J Q) a w) → c.wp P (Exit.jump l J Q) a w) : (Code.scope c).wp P Q a w :=
  wp_scope_jumps l J μ hf (first fun a w h => jump_mono (pass a w h) fun _ _ h => h.1) fun a w h => wp_seq (wp_skip (pass a w h))
end Go.Proofs.YtpdlpoomgkpogaaDoor

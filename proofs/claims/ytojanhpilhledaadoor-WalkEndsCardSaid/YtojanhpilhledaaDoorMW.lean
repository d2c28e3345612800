/-
  Texts put together: W0, W1, W2.
-/
import Derived.Test.YtojanhpilhledaaDoorMV2
import Derived.Laws.AppendOwnNone
import Derived.Maps.AppendAt
import Derived.Deep.DeepCutAuto
/-
  Trees that are gone over level by level: lists alone.
-/
namespace Go.Proofs.YtojanhpilhledaaDoor
open Go.RowKit
set_option linter.unusedVariables false
set_option linter.unusedSimpArgs false

section
variable (nx lf : Int → List Int)
/-- One after another: what is told, and how many are looked at; n: at most so many. -/
def bfs : Nat → List Int → List Int × Nat
  | 0, _ => ([], 0)
  | _ + 1, [] => ([], 0)
  | n + 1, k :: q => (lf k ++ (bfs n (q ++ nx k)).1, (bfs n (q ++ nx k)).2 + 1)
/-- It comes to its end. -/
def bdone : Nat → List Int → Prop
  | 0, q => q = []
  | _ + 1, [] => True
  | n + 1, k :: q => bdone n (q ++ nx k)
/-- Level by level. -/
def lvs : Nat → List Int → List Int × Nat
  | 0, _ => ([], 0)
  | d + 1, l => (l.flatMap lf ++ (lvs d (l.flatMap nx)).1, l.length + (lvs d (l.flatMap nx)).2)
/-- The d-th level below. -/
def below_ : Nat → List Int → List Int
  | 0, l => l
  | d + 1, l => below_ d (l.flatMap nx)

theorem bfs_nil : ∀ n, bfs nx lf n [] = ([], 0)
  | 0 => rfl
  | _ + 1 => rfl
theorem bdone_nil : ∀ n, bdone nx n []
  | 0 => rfl
  | _ + 1 => trivial
theorem bfs_level : ∀ (l rest : List Int) (n : Nat), bfs nx lf (l.length + n) (l ++ rest) = (l.flatMap lf ++ (bfs nx lf n (rest ++ l.flatMap nx)).1, l.length + (bfs nx lf n (rest ++ l.flatMap nx)).2)
  | [], rest, n => by simp
  | k :: l, rest, n => by
    have ih := bfs_level l (rest ++ nx k) n
    rw [show (k :: l).length + n = (l.length + n) + 1 from by simp; omega]
    show (lf k ++ (bfs nx lf (l.length + n) ((l ++ rest) ++ nx k)).1, (bfs nx lf (l.length + n) ((l ++ rest) ++ nx k)).2 + 1) = _
    rw [List.append_assoc, ih]
    simp only [List.flatMap_cons, List.append_assoc, List.length_cons, Prod.mk.injEq, true_and]
    omega
theorem bdone_level : ∀ (l rest : List Int) (n : Nat), bdone nx (l.length + n) (l ++ rest) ↔ bdone nx n (rest ++ l.flatMap nx)
  | [], rest, n => by simp
  | k :: l, rest, n => by
    have ih := bdone_level l (rest ++ nx k) n
    rw [show (k :: l).length + n = (l.length + n) + 1 from by simp; omega]
    show bdone nx (l.length + n) ((l ++ rest) ++ nx k) ↔ _
    rw [List.append_assoc, ih]
    simp only [List.flatMap_cons, List.append_assoc]
/-- Both ways tell the same. -/
theorem bfs_lvs : ∀ (d : Nat) (l : List Int), below_ nx d l = [] → ∃ n, bdone nx n l ∧ bfs nx lf n l = lvs nx lf d l
  | 0, l, h => by
    have : l = [] := h
    subst this
    exact ⟨0, rfl, rfl⟩
  | d + 1, l, h => by
    obtain ⟨n, h1, h2⟩ := bfs_lvs d (l.flatMap nx) h
    refine ⟨l.length + n, ?_, ?_⟩
    · have := (bdone_level nx l [] n).2 (by simpa using h1)
      simpa using this
    · have := bfs_level nx lf l [] n
      rw [List.append_nil, List.nil_append, h2] at this
      rw [this]
      rfl
theorem bfs_len : ∀ (n : Nat) (q : List Int), bdone nx n q → q.length ≤ (bfs nx lf n q).2
  | 0, q, h => by
    have : q = [] := h
    subst this
    exact Nat.zero_le _
  | _ + 1, [], _ => Nat.zero_le _
  | n + 1, k :: q, h => by
    have := bfs_len n (q ++ nx k) h
    show (k :: q).length ≤ (bfs nx lf n (q ++ nx k)).2 + 1
    rw [List.length_append] at this
    simp only [List.length_cons]
    omega
def geoS (b : Nat) : Nat → Nat
  | 0 => 0
  | d + 1 => 1 + b * geoS b d
theorem flat_len (b : Nat) (hb : ∀ k, (nx k).length ≤ b) : ∀ l : List Int, (l.flatMap nx).length ≤ l.length * b
  | [] => by simp
  | k :: l => by
    have := flat_len b hb l
    have h2 := hb k
    simp only [List.flatMap_cons, List.length_append, List.length_cons]
    rw [Nat.add_mul, Nat.one_mul]
    omega
theorem lvs_le (b : Nat) (hb : ∀ k, (nx k).length ≤ b) : ∀ (d : Nat) (l : List Int), (lvs nx lf d l).2 ≤ l.length * geoS b d
  | 0, l => by simp [lvs]
  | d + 1, l => by
    have ih := lvs_le b hb d (l.flatMap nx)
    have h2 : (l.flatMap nx).length * geoS b d ≤ l.length * b * geoS b d := Nat.mul_le_mul_right _ (flat_len nx b hb l)
    show l.length + (lvs nx lf d (l.flatMap nx)).2 ≤ l.length * (1 + b * geoS b d)
    rw [Nat.mul_add, Nat.mul_one, ← Nat.mul_assoc]
    omega
end

section
variable {N F C U : Int} {L O : List ByteArray}
/-- What is looked at behind a node of two trees. -/
def nxD (N F C U : Int) (L O : List ByteArray) (k : Int) : List Int := if lAt L k.toNat = lAt O k.toNat then [] else children N F C U k
/-- What a node tells. -/
def lfD (N : Int) (L O : List ByteArray) (k : Int) : List Int := if lAt L k.toNat ≠ lAt O k.toNat ∧ k < N then [k] else []

theorem nxD_cases (k : Int) : nxD N F C U L O k = [] ∨ nxD N F C U L O k = children N F C U k := by
  unfold nxD
  split
  · exact .inl rfl
  · exact .inr rfl
/-- A node of level j. -/
def InLv (n f j : Nat) (c : Int) : Prop := ∃ x : Nat, c = x ∧ S n f j ≤ x ∧ x < S n f (j + 1)
theorem children_lv {n f j : Nat} {C U : Int} (h : Ok n f) (hok : okG n f C U) (hj : j ≤ H n f) {c : Int} (hc : InLv n f j c) : (j = 0 ∧ children n f C U c = []) ∨ ∃ i, j = i + 1 ∧ ∀ y ∈ children n f C U c, InLv n f i y := by
  obtain ⟨x, rfl, h1, h2⟩ := hc
  have hm := @S_mono n f (j + 1) (H n f + 1) (by omega)
  have he : children n f C U (x : Int) = ch n f x := by
    unfold children
    rw [if_pos ⟨hok, by omega, by simp only [Int.toNat_natCast]; omega⟩]
    simp only [Int.toNat_natCast]
  rw [he]
  rcases j with _ | i
  · exact .inl ⟨rfl, ch_leaf h2⟩
  · refine .inr ⟨i, rfl, fun y hy => ?_⟩
    obtain ⟨e1, e2⟩ := ch_at (by omega) h1 h2
    unfold ch at hy
    obtain ⟨t, ht, rfl⟩ := List.mem_map.1 hy
    rw [List.mem_range, e2] at ht
    refine ⟨_, rfl, ?_, ?_⟩
    · rw [e1]; omega
    · rw [e1]
      have := Nat.min_le_right f (S n f (i + 1) - (S n f i + (x - S n f (i + 1)) * f))
      omega
theorem below_lv {n f : Nat} {C U : Int} (h : Ok n f) (hok : okG n f C U) : ∀ (j : Nat) (l : List Int), j ≤ H n f → (∀ c ∈ l, InLv n f j c) → below_ (nxD n f C U L O) (j + 1) l = []
  | 0, l, hj, hl => by
    show l.flatMap _ = []
    rw [List.flatMap_eq_nil_iff]
    intro c hc
    rcases nxD_cases (N := n) (F := f) (C := C) (U := U) (L := L) (O := O) c with e | e
    · exact e
    · rw [e]
      rcases children_lv h hok hj (hl c hc) with ⟨_, h1⟩ | ⟨i, h1, _⟩
      · exact h1
      · omega
  | j + 1, l, hj, hl => by
    show below_ _ (j + 1) (l.flatMap _) = []
    refine below_lv h hok j _ (by omega) fun y hy => ?_
    obtain ⟨c, hc, hy⟩ := List.mem_flatMap.1 hy
    rcases nxD_cases (N := n) (F := f) (C := C) (U := U) (L := L) (O := O) c with e | e
    · rw [e] at hy; cases hy
    · rw [e] at hy
      rcases children_lv h hok hj (hl c hc) with ⟨h1, _⟩ | ⟨i, h1, h2⟩
      · omega
      · obtain rfl : i = j := by omega
        exact h2 y hy
theorem root_lv {n f : Nat} (h : Ok n f) : InLv n f (H n f) ((S n f (H n f + 1) - 1 : Nat) : Int) := by
  have h1 := (H_spec h).2.1
  have e : S n f (H n f + 1) = S n f (H n f) + q n f (H n f) := rfl
  exact ⟨_, rfl, by omega, by omega⟩
/-- What Diff tells, and how many nodes it looks at. -/
def diffP (N F C U : Int) (L O : List ByteArray) : List Int × Nat := lvs (nxD N F C U L O) (lfD N L O) (height N F C U + 1) [((nodes N F C U - 1 : Nat) : Int)]
theorem diff_end (h : okG N F C U) : below_ (nxD N F C U L O) (height N F C U + 1) [((nodes N F C U - 1 : Nat) : Int)] = [] := by
  have hok := h
  obtain ⟨n, f, rfl, rfl, ho⟩ := ok_of h
  unfold height nodes
  rw [if_pos hok]
  simp only [Int.toNat_natCast]
  rw [if_pos hok]
  exact below_lv ho hok _ _ (Nat.le_refl _) fun c hc => by
    obtain rfl := List.mem_singleton.1 hc
    exact root_lv ho
theorem diff_small (h : okG N F C U) : (diffP N F C U L O).2 ≤ 21845 := by
  have hb : ∀ k, (nxD N F C U L O k).length ≤ 4 := fun k => by
    rcases nxD_cases (N := N) (F := F) (C := C) (U := U) (L := L) (O := O) k with e | e
    · rw [e]; exact Nat.zero_le _
    · rw [e]; exact children_len N F C U k
  have h1 := lvs_le (nxD N F C U L O) (lfD N L O) 4 hb (height N F C U + 1) [((nodes N F C U - 1 : Nat) : Int)]
  have hh : height N F C U ≤ 7 := by
    have hok := h
    obtain ⟨n, f, rfl, rfl, ho⟩ := ok_of h
    unfold height
    rw [if_pos hok]
    simp only [Int.toNat_natCast]
    exact (H_spec ho).2.2
  have hg : ∀ d, d ≤ 8 → geoS 4 d ≤ 21845 := by decide
  have h2 := hg (height N F C U + 1) (by omega)
  simp only [List.length_singleton, Nat.one_mul] at h1
  unfold diffP
  omega
end
end Go.Proofs.YtojanhpilhledaaDoor
/-
  The program's Diff: what its closure does.
-/
namespace Go.Proofs.YtojanhpilhledaaDoor
open Go.RowKit
set_option linter.unusedVariables false
set_option linter.unusedSimpArgs false

/-- What there is while two trees are gone over: the list, the leaves' box at lb and their row, all of the call's own but the box. -/
structure DI (w0 w : World) (lb : Nat) (s sv : Value) (lst lv : List Int) : Prop where
  rowL : w.ownsRow w0.heap.size 3 1 s lst.length (ivs lst)
  rowV : w.ownsRow w0.heap.size 3 1 sv lv.length (ivs lv)
  box : w.heap[lb]? = some (.cells #[sv] 46 (0, 0))
  apart : ∀ k, s.ownBlock = some k → sv.ownBlock ≠ some k
  fr : Fr (fun k => k = lb) w0 w
  low : lb < w0.heap.size
theorem DI.kept {w0 w w' : World} {lb : Nat} {s sv : Value} {lst lv : List Int} (h : DI w0 w lb s sv lst lv) (hb : Below w.heap.size w w') : DI w0 w' lb s sv lst lv where
  rowL := owns_kept h.rowL fun k hk => hb.block k (h.rowL.lt k hk).2
  rowV := owns_kept h.rowV fun k hk => hb.block k (h.rowV.lt k hk).2
  box := (hb.block lb (Nat.lt_of_lt_of_le h.low h.fr.size)).trans h.box
  apart := h.apart
  fr := h.fr.trans (Fr.of_below (A := fun _ => False) hb) fun i hi => hi.elim
  low := h.low

set_option maxRecDepth 20000 in
set_option maxHeartbeats 2000000 in
theorem tell_any (w0 : World) (lb : Nat) (s sv : Value) (lst lv : List Int) (k : Int) (w : World) (h : DI w0 w lb s sv lst lv) (hl : lv.length < 1000000) :
    Calls Tryd.prog 68 #[.int .i64 k, .pointer (some ⟨lb, 0, none⟩)] w fun e w' => e = .returned (.tuple #[]) ∧ ∃ sv', DI w0 w' lb s sv' lst (lv ++ [k]) := by
  obtain ⟨i0, hi, hz0, hz1, hz2⟩ := info_parts Tryd.info3
  have c0 : w.cell? ⟨lb, 0, none⟩ = some sv := by rw [cell_of_blk h.box]; rfl
  obtain ⟨a, c, rfl, _, _, _⟩ := owns_shape1 h.rowV
  have hal : Below w.heap.size w (w.alloc (.cells #[.int .i64 k] 3)) := (Below.refl _ _).alloc (Nat.le_refl _) _
  have hw0 := h.fr.size
  have H := Lib.hid (h.kept hal)
  have HH := Lib.hid h
  clear h hal
  go_enter Tryd.func68, Tryd.ntmps68
  go_wp2_with (at_builtin; refine wpList_append_ia (o := ⟨some 6, _, _, _, _, _⟩) rfl (.tmp 3) (.tmp 5) 46 rfl w0.heap.size i0 Tryd.underlying46 hi hz0 hz1 hz2 _ lv.length _ rfl H.out.rowV _ rfl rfl (by omega) (by simp; omega) ?_)
  intro v' w' h1 h2 h3
  obtain ⟨a', c', rfl, _, _, _⟩ := owns_shape1 h1
  have hn1 : (Value.slice a lv.length c).ownBlock ≠ some lb := fun e => by have := (HH.out.rowV.lt lb e).1; have := HH.out.low; omega
  have hn2 : (Value.slice a' (lv.length + 1) c').ownBlock ≠ some lb := fun e => by have := (h1.lt lb e).1; have := HH.out.low; omega
  have hlbl : lb < w.heap.size := by have := HH.out.low; omega
  have hbox : w'.heap[lb]? = some (.cells #[.slice a lv.length c] 46 (0, 0)) := (h2.block lb (by simp; omega) (fun e => hn1 e.symm)).trans H.out.box
  have d0 : w'.cell? ⟨lb, 0, none⟩ = some (.slice a lv.length c) := by rw [cell_of_blk hbox]; rfl
  have df : w'.frozen? ⟨lb, 0, none⟩ = false := free_of_blk hbox 0
  have hsb : ∀ j, s.ownBlock = some j → w'.heap[j]? = (w.alloc (.cells #[.int .i64 k] 3)).heap[j]? := fun j hj => h2.block j (by have := (HH.out.rowL.lt j hj).2; simp; omega) (fun e => HH.out.apart j hj e.symm)
  have hend : DI w0 (w'.setCell ⟨lb, 0, none⟩ (.slice a' (lv.length + 1) c')) lb s (.slice a' (lv.length + 1) c') lst (lv ++ [k]) := by
    refine ⟨owns_set_other (owns_kept H.out.rowL hsb) (fun e => by have := (HH.out.rowL.lt lb e).1; have := HH.out.low; omega) _, ?_, blk_setCell hbox, fun j hj hj2 => ?_, ?_, HH.out.low⟩
    · rw [List.length_append]
      exact owns_set_other h1 hn2 _
    · rcases h3 with h3 | h3
      · exact HH.out.apart j hj (h3 ▸ hj2)
      · rw [h3] at hj2
        cases hj2
        have := (HH.out.rowL.lt _ hj).2
        omega
    · exact ((H.out.fr.grown h2 (fun j hj => .inr (HH.out.rowV.lt j hj).1))).set (.inl rfl)
  have HE := Lib.hid hend
  clear hend hsb hbox h1 h2 h3 hn1 hn2 c0
  go_wp2
  refine bodyPost_end (results_none rfl _ _ _) rfl ?_
  exact ⟨rfl, _, HE.out⟩
end Go.Proofs.YtojanhpilhledaaDoor
/-
  The program's Diff: descend.
-/
namespace Go.Proofs.YtojanhpilhledaaDoor
open Go.RowKit
set_option linter.unusedVariables false
set_option linter.unusedSimpArgs false

/-- What is still to come: i of the list are looked at. -/
structure DM (N F C U : Int) (L O : List ByteArray) (i n : Nat) (lst lv : List Int) : Prop where
  le : i ≤ lst.length
  done : bdone (nxD N F C U L O) n (lst.drop i)
  fst : lv ++ (bfs (nxD N F C U L O) (lfD N L O) n (lst.drop i)).1 = (diffP N F C U L O).1
  snd : i + (bfs (nxD N F C U L O) (lfD N L O) n (lst.drop i)).2 = (diffP N F C U L O).2
  rng : ∀ c ∈ lst, ∃ x : Nat, c = x ∧ x < nodes N F C U
theorem DM.start {N F C U : Int} {L O : List ByteArray} (h : okG N F C U) : ∃ n, DM N F C U L O 0 n [((nodes N F C U - 1 : Nat) : Int)] [] := by
  obtain ⟨n, h1, h2⟩ := bfs_lvs (nxD N F C U L O) (lfD N L O) _ _ (diff_end (L := L) (O := O) h)
  have hp := nodes_ge h
  refine ⟨n, Nat.zero_le _, h1, ?_, ?_, fun c hc => ?_⟩
  · rw [List.drop_zero, h2]; rfl
  · rw [List.drop_zero, h2, Nat.zero_add]; rfl
  · obtain rfl := List.mem_singleton.1 hc
    exact ⟨_, rfl, by omega⟩
theorem DM.len {N F C U : Int} {L O : List ByteArray} {i n : Nat} {lst lv : List Int} (h : DM N F C U L O i n lst lv) (hok : okG N F C U) : lst.length ≤ 21845 := by
  have h1 := bfs_len (nxD N F C U L O) (lfD N L O) n _ h.done
  have h2 := h.snd
  have h3 := diff_small (L := L) (O := O) hok
  rw [List.length_drop] at h1
  have := h.le
  omega
theorem DM.fin {N F C U : Int} {L O : List ByteArray} {i n : Nat} {lst lv : List Int} (h : DM N F C U L O i n lst lv) (he : i = lst.length) : (diffP N F C U L O).1 = lv ∧ (diffP N F C U L O).2 = i := by
  have h1 := h.fst
  have h2 := h.snd
  rw [he, List.drop_length, bfs_nil] at h1 h2
  simp only [List.append_nil, Nat.add_zero] at h1 h2
  exact ⟨h1.symm, by omega⟩
theorem DM.next {N F C U : Int} {L O : List ByteArray} {i n : Nat} {lst lv : List Int} (h : DM N F C U L O i n lst lv) (hi : i < lst.length) : i < (diffP N F C U L O).2 ∧ ∃ m, DM N F C U L O (i + 1) m (lst ++ nxD N F C U L O (lst[i]?.getD 0)) (lv ++ lfD N L O (lst[i]?.getD 0)) := by
  have hd : lst.drop i = lst[i]?.getD 0 :: lst.drop (i + 1) := by
    rw [List.drop_eq_getElem_cons hi, List.getElem?_eq_getElem hi]; rfl
  have h1 := h.done
  have h2 := h.fst
  have h3 := h.snd
  rw [hd] at h1 h2 h3
  rcases n with _ | n
  · exact absurd h1 (by simp [bdone])
  · have e : (lst ++ nxD N F C U L O (lst[i]?.getD 0)).drop (i + 1) = lst.drop (i + 1) ++ nxD N F C U L O (lst[i]?.getD 0) := List.drop_append_of_le_length (by omega)
    have h2' : lv ++ (lfD N L O (lst[i]?.getD 0) ++ (bfs (nxD N F C U L O) (lfD N L O) n (lst.drop (i + 1) ++ nxD N F C U L O (lst[i]?.getD 0))).1) = (diffP N F C U L O).1 := h2
    have h3' : i + ((bfs (nxD N F C U L O) (lfD N L O) n (lst.drop (i + 1) ++ nxD N F C U L O (lst[i]?.getD 0))).2 + 1) = (diffP N F C U L O).2 := h3
    refine ⟨by omega, n, by rw [List.length_append]; omega, by rw [e]; exact h1, by rw [e, List.append_assoc]; exact h2', by rw [e]; omega, fun c hc => ?_⟩
    rcases List.mem_append.1 hc with hc | hc
    · exact h.rng c hc
    · rcases nxD_cases (N := N) (F := F) (C := C) (U := U) (L := L) (O := O) (lst[i]?.getD 0) with e2 | e2
      · rw [e2] at hc; cases hc
      · rw [e2] at hc
        obtain ⟨x, hx, hxl⟩ := h.rng (lst[i]?.getD 0) (by rw [List.getElem?_eq_getElem hi]; exact List.getElem_mem hi)
        rw [hx] at hc
        obtain ⟨j, hj, hl⟩ := children_mem hc
        exact ⟨j, hj, by omega⟩

theorem lvs_fst (nx lf : Int → List Int) (h : ∀ k, (lf k).length ≤ 1) : ∀ (d : Nat) (l : List Int), (lvs nx lf d l).1.length ≤ (lvs nx lf d l).2
  | 0, l => Nat.le_refl _
  | d + 1, l => by
    have ih := lvs_fst nx lf h d (l.flatMap nx)
    have h2 := flat_len lf 1 h l
    show (l.flatMap lf ++ (lvs nx lf d (l.flatMap nx)).1).length ≤ l.length + (lvs nx lf d (l.flatMap nx)).2
    rw [List.length_append]
    omega
theorem lfD_le (N : Int) (L O : List ByteArray) (k : Int) : (lfD N L O k).length ≤ 1 := by unfold lfD; split <;> simp
theorem DM.few {N F C U : Int} {L O : List ByteArray} {i n : Nat} {lst lv : List Int} (h : DM N F C U L O i n lst lv) (hok : okG N F C U) : lv.length ≤ 21845 := by
  have h1 := congrArg List.length h.fst
  have h2 := lvs_fst (nxD N F C U L O) (lfD N L O) (lfD_le N L O) (height N F C U + 1) [((nodes N F C U - 1 : Nat) : Int)]
  have h3 := diff_small (L := L) (O := O) hok
  rw [List.length_append] at h1
  unfold diffP at h1 h3
  omega

/-- The list grows by a list that was read. -/
theorem DI.grow {w0 w w' : World} {lb : Nat} {s s' sv : Value} {lst lv ks : List Int} (h : DI w0 w lb s sv lst lv) (h1 : w'.ownsRow w0.heap.size 3 1 s' (lst.length + ks.length) (ivs lst ++ ivs ks)) (h2 : w.grownBy w' s.ownBlock) (h3 : s'.ownBlock = s.ownBlock ∨ s'.ownBlock = some w.heap.size) :
    DI w0 w' lb s' sv (lst ++ ks) lv := by
  have hl := h.low
  have hs := h.fr.size
  refine ⟨by rw [List.length_append, ivs_append]; exact h1, owns_kept h.rowV fun k hk => h2.block k (h.rowV.lt k hk).2 (fun e => h.apart k e.symm hk), (h2.block lb (by omega) fun e => by have := (h.rowL.lt lb e.symm).1; omega).trans h.box, fun k hk hk2 => ?_, h.fr.grown h2 fun j hj => .inr (h.rowL.lt j hj).1, hl⟩
  rcases h3 with h3 | h3
  · exact h.apart k (h3 ▸ hk) hk2
  · rw [h3] at hk
    cases hk
    have := (h.rowV.lt _ hk2).2
    omega

theorem jump_mono {P : Program} {c : Code} {l : Nat} {J J' : Act → World → Prop} {Q : Exit → Act → World → Prop} {a : Act} {w : World} (h : c.wp P (Exit.jump l J Q) a w) (hJ : ∀ a w, J a w → J' a w) : c.wp P (Exit.jump l J' Q) a w := by
  intro b k cs
  obtain ⟨e, a1, w1, hq, harr⟩ := h b k cs
  refine ⟨e, a1, w1, ?_, harr⟩
  cases e <;> first | exact hq | exact ⟨hq.1, hJ _ _ hq.2⟩
/-- A scope with one label, to which the run comes from above and by jumps back: what stands behind the label is walked once. -/
theorem wp_scope_pass {P : Program} {a : Act} {w : World} {Q : Exit → Act → World → Prop} {c rest : Code} (l : Nat) (J : Act → World → Prop) (μ : Act → World → Nat) (hf : findLabel c l = some (Code.skip.seq rest))
    (pass : ∀ a w, J a w → rest.wp P (Exit.jump l (fun a' w' => J a' w' ∧ μ a' w' < μ a w) Q) a w)
    (first : (∀ a w, J a w → rest.wp P (Exit.jump l J Q) a w) → c.wp P (Exit.jump l J Q) a w) : (Code.scope c).wp P Q a w :=
  wp_scope_jumps l J μ hf (first fun a w h => jump_mono (pass a w h) fun _ _ h => h.1) fun a w h => wp_seq (wp_skip (pass a w h))

/-- What holds at the label. -/
def DJ (p q lb : Nat) (N F C U : Int) (L O : List ByteArray) (w : World) (a' : Act) (wr : World) : Prop :=
  ∃ (i n : Nat) (lst lv : List Int) (s sv : Value) (u9 u10 u11 u12 u13 u14 u15 u16 u17 u18 u19 u20 u21 u22 u23 u24 u25 u26 u27 u28 u29 u30 u31 u32 u33 u34 u35 u36 u37 u38 u39 u40 u41 u42 u43 u44 u45 u46 u47 u48 u49 u50 u51 u52 u53 u54 u55 u56 u57 u58 u59 u60 u61 u62 u63 u64 u65 : Value), a' = { tmps := List.toArray (.pointer (some ⟨p, 0, none⟩) :: .pointer (some ⟨q, 0, none⟩) :: .func (.func 68) #[] #[.pointer (some ⟨lb, 0, none⟩)] :: undef :: undef :: undef :: .int .i64 0 :: s :: .int .i64 (i : Int) :: u9 :: u10 :: u11 :: u12 :: u13 :: u14 :: u15 :: u16 :: u17 :: u18 :: u19 :: u20 :: u21 :: u22 :: u23 :: u24 :: u25 :: u26 :: u27 :: u28 :: u29 :: u30 :: u31 :: u32 :: u33 :: u34 :: u35 :: u36 :: u37 :: u38 :: u39 :: u40 :: u41 :: u42 :: u43 :: u44 :: u45 :: u46 :: u47 :: u48 :: u49 :: u50 :: u51 :: u52 :: u53 :: u54 :: u55 :: u56 :: u57 :: u58 :: u59 :: u60 :: u61 :: u62 :: u63 :: u64 :: u65 :: []), defers := [] } ∧ DI w wr lb s sv lst lv ∧ DM N F C U L O i n lst lv

set_option maxRecDepth 100000 in
set_option maxHeartbeats 8000000 in
theorem descend_any (B p q lb : Nat) (v v' : Value) (N F C U C' U' : Int) (L O : List ByteArray) (w : World) (h : PT w B p v N F C U L) (h' : PT w B q v' N F C' U' O)
    (hok : okG N F C U) (hL : L.length = nodes N F C U) (hO : O.length = nodes N F C U) (hlb : w.heap[lb]? = some (.cells #[.slice none 0 0] 46 (0, 0))) (hnp : ∀ k, tfoot p v k → k ≠ lb) (hnq : ∀ k, tfoot q v' k → k ≠ lb) :
    Calls Tryd.prog 67 #[.pointer (some ⟨p, 0, none⟩), .pointer (some ⟨q, 0, none⟩), .func (.func 68) #[] #[.pointer (some ⟨lb, 0, none⟩)]] w
      fun e w' => e = .returned (.int .i64 ((diffP N F C U L O).2 : Int)) ∧ (∃ sv, w'.heap[lb]? = some (.cells #[sv] 46 (0, 0)) ∧ w'.ownsRow w.heap.size 3 1 sv (diffP N F C U L O).1.length (ivs (diffP N F C U L O).1)) ∧ Fr (fun k => k = lb) w w' := by
  have HI := Lib.hid (info_parts Tryd.info3)
  have hroot := fun w => root_any N F C U w
  have hchild := fun k w => children_any N F C U k w
  unfold geo at hroot hchild
  have hpos := nodes_ge hok
  obtain ⟨n0, hm0⟩ := DM.start (L := L) (O := O) hok
  have hfree : ∀ w', Fr (fun k => k = lb) w w' → PT w' B p v N F C U L ∧ PT w' B q v' N F C' U' O := fun w' hf => ⟨h.frl hf hnp, h'.frl hf hnq⟩
  have HSH := Lib.hid (And.intro (h.shape (by omega)) (h'.shape (by omega)))
  have hlow := lt_of_block hlb
  have HR := Lib.hid hroot
  have HC := Lib.hid hchild
  have HM0 := Lib.hid hm0
  have HLB := Lib.hid (And.intro hlb hlow)
  have HFREE := Lib.hid hfree
  have HOK := Lib.hid hok
  have HLEN := Lib.hid (And.intro hL (And.intro hO hpos))
  have HCELLS := Lib.hid h.cells
  clear hroot hchild hm0 hlb hfree hnp hnq h h' hok hlow hL hO hpos
  obtain ⟨ga, cv, rfl, hga1, hga2, hga3, hga4, hga5⟩ := HSH.out.1
  obtain ⟨gb, co, rfl, hgb1, hgb2, hgb3, hgb4, hgb5⟩ := HSH.out.2
  clear hga1 hga2 hga3 hgb1 hgb2 hgb3 HSH
  have HNUM := Lib.hid (And.intro hga4 (And.intro hga5 (And.intro hgb4 hgb5)))
  clear hga4 hga5 hgb4 hgb5
  go_enter Tryd.func67, Tryd.ntmps67
  go_wp2
  refine wp_scope_pass 0 (DJ p q lb N F C U L O w) (fun a' _ => (diffP N F C U L O).2 - (intOf (a'.tmps.getD 8 undef)).toNat) rfl ?_ ?_
  · rintro a' wr ⟨i, n, lst, lv, s, sv, u9, u10, u11, u12, u13, u14, u15, u16, u17, u18, u19, u20, u21, u22, u23, u24, u25, u26, u27, u28, u29, u30, u31, u32, u33, u34, u35, u36, u37, u38, u39, u40, u41, u42, u43, u44, u45, u46, u47, u48, u49, u50, u51, u52, u53, u54, u55, u56, u57, u58, u59, u60, u61, u62, u63, u64, u65, rfl, hdi, hdm⟩
    clear HR HM0 HLB HCELLS
    have hll := hdm.len HOK.out
    obtain ⟨al, cl, rfl, hil, hlow⟩ := iowns_shape hdi.rowL (by omega)
    clear hlow
    have hcl : (cl : Int) ≤ 9223372036854775807 := by have := hil.cm; unfold maxLen at this; omega
    by_cases hlt : i < lst.length
    · have i1 : (0 : Int) ≤ (i : Int) := by omega
      have i2 : (i : Int) < (lst.length : Int) := by omega
      have i3 : ((i : Int) == (lst.length : Int)) = false := beq_eq_false_iff_ne.2 (by omega)
      obtain ⟨hlt2, m, hnx⟩ := hdm.next hlt
      obtain ⟨x, hx, hxl⟩ := hdm.rng (lst[i]?.getD 0) (by rw [List.getElem?_eq_getElem hlt]; exact List.getElem_mem hlt)
      obtain ⟨b, off, hal, hbl, hcc⟩ := hil.at0 (by omega)
      subst hal
      clear hbl
      have e0 := hcc i hlt
      rw [hx] at e0 hnx
      have hTd := (HFREE.out wr hdi.fr).1
      have hTd' := (HFREE.out wr hdi.fr).2
      have g4 := hTd.cells.2.2.2.2.1
      have k4 := hTd'.cells.2.2.2.2.1
      have e1 := hTd.at (g := ga) rfl (j := x) (by rw [HLEN.out.1]; exact hxl)
      have e2 := hTd'.at (g := gb) rfl (j := x) (by rw [HLEN.out.2.1]; exact hxl)
      have x0 : (0 : Int) ≤ (x : Int) := by omega
      have x1 : (x : Int) < (L.length : Int) := by rw [HLEN.out.1]; omega
      have x2 : (x : Int) < (O.length : Int) := by rw [HLEN.out.2.1]; omega
      have y1 := HNUM.out.1
      have y2 := HNUM.out.2.1
      have y3 := HNUM.out.2.2.1
      have y4 := HNUM.out.2.2.2
      have hnxe : nxD N F C U L O (x : Int) = if lAt L x = lAt O x then [] else children N F C U x := rfl
      have hlfe : lfD N L O (x : Int) = if lAt L x ≠ lAt O x ∧ (x : Int) < N then [(x : Int)] else [] := rfl
      obtain ⟨z1, hz1'⟩ : ∃ z, z = lAt L x := ⟨_, rfl⟩
      obtain ⟨z2, hz2'⟩ : ∃ z, z = lAt O x := ⟨_, rfl⟩
      rw [← hz1'] at e1 hnxe hlfe
      rw [← hz2'] at e2 hnxe hlfe
      have hgd := fun u v w => guard_txt .eql u v z1 z2 w
      obtain ⟨V1, hV1⟩ : ∃ V, V = Value.string z1 := ⟨_, rfl⟩
      obtain ⟨V2, hV2⟩ : ∃ V, V = Value.string z2 := ⟨_, rfl⟩
      rw [← hV1] at e1
      rw [← hV2] at e2
      simp only [← hV1, ← hV2] at hgd
      have HDI := Lib.hid (fun nq => hdi.kept (below_drewN (Below.refl _ _) nq))
      have HNX := Lib.hid hnx
      have HLV := Lib.hid (hdm.few HOK.out)
      obtain ⟨bq, hbq⟩ : ∃ bq, bq = decide (z1 = z2) := ⟨_, rfl⟩
      have hq : ∀ w, (binOp .eql 9 V1 V2).run Tryd.prog w = .ok (.bool bq) w := fun w => by rw [hV1, hV2, eql_txt, hbq]
      have HBQ := Lib.hid (And.intro hbq (And.intro hnxe hlfe))
      have HIL := Lib.hid (And.intro hll (And.intro hlt (And.intro hlt2 hxl)))
      have hwr : IntKind.i64.wrap ((i : Int) + 1) = (i : Int) + 1 := IntWalk.i64_in _ (by omega)
      obtain ⟨n1, hn1⟩ : ∃ k, k = lst.length := ⟨_, rfl⟩
      obtain ⟨n2, hn2⟩ : ∃ k, k = L.length := ⟨_, rfl⟩
      obtain ⟨n3, hn3⟩ : ∃ k, k = O.length := ⟨_, rfl⟩
      rw [← hn1] at i2 i3 ⊢
      rw [← hn2] at x1 y1 g4
      rw [← hn3] at x2 y3 k4
      have HNN := Lib.hid (And.intro hn1 (And.intro hn2 hn3))
      clear hcc hTd hTd' hdi hdm hnx hil hx hz1' hz2' hbq hnxe hlfe hV1 hV2 hn1 hn2 hn3 hll hlt hlt2 hxl
      go_wp2
      go_quiet (fail)
      obtain ⟨wq, hwq⟩ : ∃ wq, wq = wr.drewN nq := ⟨_, rfl⟩
      have HDQ := Lib.hid (HDI.out nq)
      rw [← hwq] at HDQ ⊢
      clear hwq HDI
      have hn1 := HNN.out.1
      subst hn1
      have hll := HIL.out.1
      have hlt2 := HIL.out.2.2.1
      clear e0 e1 e2 g4 k4 hq hgd x1 x2 y1 y2 y3 y4 hwr i3
      cases bq with
      | true =>
        have hst : z1 = z2 := of_decide_eq_true HBQ.out.1.symm
        have hnxe := HBQ.out.2.1
        have hlfe := HBQ.out.2.2
        rw [if_pos hst] at hnxe
        rw [if_neg (fun h => h.1 hst)] at hlfe
        have hn := HNX.out
        rw [hnxe, hlfe, List.append_nil, List.append_nil] at hn
        have HN := Lib.hid hn
        clear hn hnxe hlfe hst HNX HBQ
        go_wp2
        go_step3
        refine ⟨rfl, ⟨i + 1, m, lst, lv, _, sv, _, _, _, _, _, _, _, _, _, _, _, _, _, _, _, _, _, _, _, _, _, _, _, _, _, _, _, _, _, _, _, _, _, _, _, _, _, _, _, _, _, _, _, _, _, _, _, _, _, _, _, _, _, _, _, _, _, rfl, HDQ.out, HN.out⟩, ?_⟩
        simp [intOf]
        omega
      | false =>
        have hst : ¬ z1 = z2 := of_decide_eq_false HBQ.out.1.symm
        have hnxe := HBQ.out.2.1
        have hlfe := HBQ.out.2.2
        rw [if_neg hst] at hnxe
        have hks := children_len N F C U (x : Int)
        have hch := HC.out (x : Int)
        obtain ⟨ks, hks'⟩ : ∃ ks, ks = children N F C U (x : Int) := ⟨_, rfl⟩
        rw [← hks'] at hks hch hnxe
        have HCH := Lib.hid hch
        have hfc := (HFREE.out wq HDQ.out.fr).1.cells.1
        clear hks' hch HC
        by_cases hleaf : (x : Int) < N
        · rw [if_pos ⟨hst, hleaf⟩] at hlfe
          have hn := HNX.out
          rw [hnxe, hlfe] at hn
          have HN := Lib.hid hn
          have htl := tell_any w lb _ sv lst lv (x : Int) wq HDQ.out (by have := HLV.out; omega)
          have HTL := Lib.hid htl
          clear hn hnxe hlfe hst HNX htl HBQ
          go_wp2_with fail
          refine HTL.out.mono ?_
          rintro e wt ⟨rfl, sv2, hdi2⟩
          have HD2 := Lib.hid hdi2
          clear hdi2 HTL hfc
          obtain ⟨i0, hi, hz0, hz1, hz2⟩ := HI.out
          obtain ⟨t0, t1, t2, t3, _, _⟩ := (HFREE.out _ HD2.out.fr).1.cells
          go_wp2_with fail
          refine (HCH.out _).mono ?_
          rintro e wc ⟨⟨vc, rfl, ac, nc, cc, rfl, hri, hrl⟩, hbc⟩
          have HDC := Lib.hid (HD2.out.kept hbc)
          clear t0 t1 t2 t3 hrl hbc
          have hkl := hri.len
          subst hkl
          have hrow := HDC.out.rowL
          have hlow0 := HDC.out.fr.size
          rcases ac with _ | ad
          · have hcc := hri.nil rfl
            have hle := hri.le
            have hk0 : ks.length = 0 := by omega
            obtain rfl : ks = [] := List.eq_nil_of_length_eq_zero hk0
            subst hcc
            have hnn := HN.out
            rw [List.append_nil] at hnn
            have HN2 := Lib.hid hnn
            clear hnn hri hle hk0 HN
            go_wp2_with (at_builtin; refine wpList_append_own_none (o := ⟨some 65, _, _, _, _, _⟩) rfl (.tmp 58) (.tmp 64) 46 rfl w.heap.size 3 i0 1 Tryd.underlying46 hi _ lst.length (ivs lst) rfl hrow rfl ?_)
            go_wp2
            go_step3
            refine ⟨rfl, ⟨i + 1, m, lst, lv ++ [(x : Int)], _, _, _, _, _, _, _, _, _, _, _, _, _, _, _, _, _, _, _, _, _, _, _, _, _, _, _, _, _, _, _, _, _, _, _, _, _, _, _, _, _, _, _, _, _, _, _, _, _, _, _, _, _, _, _, _, _, _, _, rfl, HDC.out, HN2.out⟩, ?_⟩
            simp [intOf]
            omega
          · have hsrc : ∀ (j : Nat) (u : Value), (ivs ks)[j]? = some u → wc.cell? (ad.add j) = some u := fun j u hj => by
              have hjl : j < ks.length := by
                have := (List.getElem?_eq_some_iff.1 hj).1
                rwa [ivs_length] at this
              obtain ⟨b9, off9, he9, _, hc9⟩ := hri.at0 (by omega)
              cases he9
              rw [ivs_at _ _ hjl] at hj
              cases hj
              rw [Addr.add_noneG]
              exact hc9 j hjl
            have HSRC := Lib.hid hsrc
            clear hsrc hri
            go_wp2_with (at_builtin; refine wpList_append_own_at _ (o := ⟨some 65, _, _, _, _, _⟩) rfl (.tmp 58) (.tmp 64) 46 rfl w.heap.size 3 i0 (.int .i64 0) 1 8 Tryd.underlying46 hi hz0 hz1 hz2 rfl (by omega) _ lst.length (ivs lst) rfl hrow ad ks.length cc (ivs ks) rfl (by rw [ivs_length, Nat.mul_one]) HSRC.out (ivs_one _) (by unfold maxLen; omega) (by omega) (by omega) ?_)
            intro v5 w5 h1 h2 _ h3
            have HDG := Lib.hid (HDC.out.grow h1 h2 h3)
            obtain ⟨a5, c5, rfl, _, _, _⟩ := owns_shape1 h1
            clear h1 h2 h3
            go_wp2
            go_step3
            refine ⟨rfl, ⟨i + 1, m, lst ++ ks, lv ++ [(x : Int)], _, _, _, _, _, _, _, _, _, _, _, _, _, _, _, _, _, _, _, _, _, _, _, _, _, _, _, _, _, _, _, _, _, _, _, _, _, _, _, _, _, _, _, _, _, _, _, _, _, _, _, _, _, _, _, _, _, _, _, rfl, HDG.out, HN.out⟩, ?_⟩
            simp [intOf]
            omega
        · rw [if_neg (fun h => hleaf h.2)] at hlfe
          have hn := HNX.out
          rw [hnxe, hlfe, List.append_nil] at hn
          have HN := Lib.hid hn
          clear hn hnxe hlfe hst HNX HBQ
          have HD2 := HDQ
          go_upto_region 12 with fail
          obtain ⟨i0, hi, hz0, hz1, hz2⟩ := HI.out
          obtain ⟨t0, t1, t2, t3, _, _⟩ := (HFREE.out _ HD2.out.fr).1.cells
          go_wp2_with fail
          refine (HCH.out _).mono ?_
          rintro e wc ⟨⟨vc, rfl, ac, nc, cc, rfl, hri, hrl⟩, hbc⟩
          have HDC := Lib.hid (HD2.out.kept hbc)
          clear t0 t1 t2 t3 hrl hbc
          have hkl := hri.len
          subst hkl
          have hrow := HDC.out.rowL
          have hlow0 := HDC.out.fr.size
          rcases ac with _ | ad
          · have hcc := hri.nil rfl
            have hle := hri.le
            have hk0 : ks.length = 0 := by omega
            obtain rfl : ks = [] := List.eq_nil_of_length_eq_zero hk0
            subst hcc
            have hnn := HN.out
            rw [List.append_nil] at hnn
            have HN2 := Lib.hid hnn
            clear hnn hri hle hk0 HN
            go_wp2_with (at_builtin; refine wpList_append_own_none (o := ⟨some 65, _, _, _, _, _⟩) rfl (.tmp 58) (.tmp 64) 46 rfl w.heap.size 3 i0 1 Tryd.underlying46 hi _ lst.length (ivs lst) rfl hrow rfl ?_)
            go_wp2
            go_step3
            refine ⟨rfl, ⟨i + 1, m, lst, lv, _, _, _, _, _, _, _, _, _, _, _, _, _, _, _, _, _, _, _, _, _, _, _, _, _, _, _, _, _, _, _, _, _, _, _, _, _, _, _, _, _, _, _, _, _, _, _, _, _, _, _, _, _, _, _, _, _, _, _, rfl, HDC.out, HN2.out⟩, ?_⟩
            simp [intOf]
            omega
          · have hsrc : ∀ (j : Nat) (u : Value), (ivs ks)[j]? = some u → wc.cell? (ad.add j) = some u := fun j u hj => by
              have hjl : j < ks.length := by
                have := (List.getElem?_eq_some_iff.1 hj).1
                rwa [ivs_length] at this
              obtain ⟨b9, off9, he9, _, hc9⟩ := hri.at0 (by omega)
              cases he9
              rw [ivs_at _ _ hjl] at hj
              cases hj
              rw [Addr.add_noneG]
              exact hc9 j hjl
            have HSRC := Lib.hid hsrc
            clear hsrc hri
            go_wp2_with (at_builtin; refine wpList_append_own_at _ (o := ⟨some 65, _, _, _, _, _⟩) rfl (.tmp 58) (.tmp 64) 46 rfl w.heap.size 3 i0 (.int .i64 0) 1 8 Tryd.underlying46 hi hz0 hz1 hz2 rfl (by omega) _ lst.length (ivs lst) rfl hrow ad ks.length cc (ivs ks) rfl (by rw [ivs_length, Nat.mul_one]) HSRC.out (ivs_one _) (by unfold maxLen; omega) (by omega) (by omega) ?_)
            intro v5 w5 h1 h2 _ h3
            have HDG := Lib.hid (HDC.out.grow h1 h2 h3)
            obtain ⟨a5, c5, rfl, _, _, _⟩ := owns_shape1 h1
            clear h1 h2 h3
            go_wp2
            go_step3
            refine ⟨rfl, ⟨i + 1, m, lst ++ ks, lv, _, _, _, _, _, _, _, _, _, _, _, _, _, _, _, _, _, _, _, _, _, _, _, _, _, _, _, _, _, _, _, _, _, _, _, _, _, _, _, _, _, _, _, _, _, _, _, _, _, _, _, _, _, _, _, _, _, _, _, rfl, HDG.out, HN.out⟩, ?_⟩
            simp [intOf]
            omega
    · have he : i = lst.length := by have := hdm.le; omega
      have hfin := hdm.fin he
      subst he
      have HD := Lib.hid (And.intro hdi hfin)
      clear hdi hdm hfin hil
      go_wp2
      simp only [Exit.jump]
      go_ret
      exact ⟨by rw [HD.out.2.2]; rfl, ⟨sv, HD.out.1.box, by rw [HD.out.2.1]; exact HD.out.1.rowV⟩, HD.out.1.fr⟩
  · intro hp
    have HP := Lib.hid hp
    clear hp
    obtain ⟨c0, c1, c2, c3, c4, cf⟩ := HCELLS.out
    have j0 : ((L.length : Int) == 0) = false := beq_eq_false_iff_ne.2 (by rw [HLEN.out.1]; have := HLEN.out.2.2; omega)
    clear HCELLS cf
    go_wp2_with fail
    refine (HR.out _).mono ?_
    rintro e w1 ⟨rfl, hb⟩
    have hb2 : Below w.heap.size w (w1.alloc (.cells #[.int .i64 ((nodes N F C U - 1 : Nat) : Int)] 3)) := hb.alloc hb.size _
    have hrow := one_owns w1 w.heap.size ((nodes N F C U - 1 : Nat) : Int) hb.size
    have hdi : DI w (w1.alloc (.cells #[.int .i64 ((nodes N F C U - 1 : Nat) : Int)] 3)) lb (.slice (some ⟨w1.heap.size, 0, none⟩) 1 1) (.slice none 0 0) [((nodes N F C U - 1 : Nat) : Int)] [] :=
      ⟨hrow, World.ownsRow_nil _ _ _ _, (hb2.block lb HLB.out.2).trans HLB.out.1, fun k _ hk => by simp [Value.ownBlock] at hk, Fr.of_below hb2, HLB.out.2⟩
    have HD := Lib.hid hdi
    clear hb hb2 hrow hdi
    go_wp2
    go_step3
    rename_i kx
    refine kx _ _ (HP.out _ _ ⟨0, n0, _, [], _, _, _, _, _, _, _, _, _, _, _, _, _, _, _, _, _, _, _, _, _, _, _, _, _, _, _, _, _, _, _, _, _, _, _, _, _, _, _, _, _, _, _, _, _, _, _, _, _, _, _, _, _, _, _, _, _, _, _, rfl, HD.out, HM0.out⟩)
end Go.Proofs.YtojanhpilhledaaDoor

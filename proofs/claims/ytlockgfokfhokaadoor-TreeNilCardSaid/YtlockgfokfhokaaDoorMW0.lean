/-
  Texts put together: W0, W1, W2, W3, W4, W6, W5.
-/
import Derived.Test.YtlockgfokfhokaaDoorMV0
import Derived.Laws.AppendOwnNone
import Derived.Maps.AppendAt
import Derived.Deep.DeepCutAuto
import Derived.Test.YtlockgfokfhokaaDoorTie
import Derived.Test.YtlockgfokfhokaaDoorCards
import Derived.LaidMore
import Derived.OpenShut
import Derived.Stop.Joined
import Derived.SevenTiedAt
/-
  Trees that are gone over level by level: lists alone.
-/
namespace Go.Proofs.YtlockgfokfhokaaDoor
open Go.RowKit
set_option linter.unusedVariables false
set_option linter.unusedSimpArgs false

section
variable (nx lf : Int → List Int)
/-- One after another: what is told, and how many are looked at; n: at most so many. -/
def bfs : Nat → List Int → List Int × Nat
  | 0, _ => ([], 0)
  | _ + 1, [] => ([], 0)
  | n + 1, k :: q => (lf k ++ (bfs n (q ++ nx k)).1, (bfs n (q ++ nx k)).2 + 1)
/-- It comes to its end. -/
def bdone : Nat → List Int → Prop
  | 0, q => q = []
  | _ + 1, [] => True
  | n + 1, k :: q => bdone n (q ++ nx k)
/-- Level by level. -/
def lvs : Nat → List Int → List Int × Nat
  | 0, _ => ([], 0)
  | d + 1, l => (l.flatMap lf ++ (lvs d (l.flatMap nx)).1, l.length + (lvs d (l.flatMap nx)).2)
/-- The d-th level below. -/
def below_ : Nat → List Int → List Int
  | 0, l => l
  | d + 1, l => below_ d (l.flatMap nx)

theorem bfs_nil : ∀ n, bfs nx lf n [] = ([], 0)
  | 0 => rfl
  | _ + 1 => rfl
theorem bdone_nil : ∀ n, bdone nx n []
  | 0 => rfl
  | _ + 1 => trivial
theorem bfs_level : ∀ (l rest : List Int) (n : Nat), bfs nx lf (l.length + n) (l ++ rest) = (l.flatMap lf ++ (bfs nx lf n (rest ++ l.flatMap nx)).1, l.length + (bfs nx lf n (rest ++ l.flatMap nx)).2)
  | [], rest, n => by simp
  | k :: l, rest, n => by
    have ih := bfs_level l (rest ++ nx k) n
    rw [show (k :: l).length + n = (l.length + n) + 1 from by simp; omega]
    show (lf k ++ (bfs nx lf (l.length + n) ((l ++ rest) ++ nx k)).1, (bfs nx lf (l.length + n) ((l ++ rest) ++ nx k)).2 + 1) = _
    rw [List.append_assoc, ih]
    simp only [List.flatMap_cons, List.append_assoc, List.length_cons, Prod.mk.injEq, true_and]
    omega
theorem bdone_level : ∀ (l rest : List Int) (n : Nat), bdone nx (l.length + n) (l ++ rest) ↔ bdone nx n (rest ++ l.flatMap nx)
  | [], rest, n => by simp
  | k :: l, rest, n => by
    have ih := bdone_level l (rest ++ nx k) n
    rw [show (k :: l).length + n = (l.length + n) + 1 from by simp; omega]
    show bdone nx (l.length + n) ((l ++ rest) ++ nx k) ↔ _
    rw [List.append_assoc, ih]
    simp only [List.flatMap_cons, List.append_assoc]
/-- Both ways tell the same. -/
theorem bfs_lvs : ∀ (d : Nat) (l : List Int), below_ nx d l = [] → ∃ n, bdone nx n l ∧ bfs nx lf n l = lvs nx lf d l
  | 0, l, h => by
    have : l = [] := h
    subst this
    exact ⟨0, rfl, rfl⟩
  | d + 1, l, h => by
    obtain ⟨n, h1, h2⟩ := bfs_lvs d (l.flatMap nx) h
    refine ⟨l.length + n, ?_, ?_⟩
    · have := (bdone_level nx l [] n).2 (by simpa using h1)
      simpa using this
    · have := bfs_level nx lf l [] n
      rw [List.append_nil, List.nil_append, h2] at this
      rw [this]
      rfl
theorem bfs_len : ∀ (n : Nat) (q : List Int), bdone nx n q → q.length ≤ (bfs nx lf n q).2
  | 0, q, h => by
    have : q = [] := h
    subst this
    exact Nat.zero_le _
  | _ + 1, [], _ => Nat.zero_le _
  | n + 1, k :: q, h => by
    have := bfs_len n (q ++ nx k) h
    show (k :: q).length ≤ (bfs nx lf n (q ++ nx k)).2 + 1
    rw [List.length_append] at this
    simp only [List.length_cons]
    omega
def geoS (b : Nat) : Nat → Nat
  | 0 => 0
  | d + 1 => 1 + b * geoS b d
theorem flat_len (b : Nat) (hb : ∀ k, (nx k).length ≤ b) : ∀ l : List Int, (l.flatMap nx).length ≤ l.length * b
  | [] => by simp
  | k :: l => by
    have := flat_len b hb l
    have h2 := hb k
    simp only [List.flatMap_cons, List.length_append, List.length_cons]
    rw [Nat.add_mul, Nat.one_mul]
    omega
theorem lvs_le (b : Nat) (hb : ∀ k, (nx k).length ≤ b) : ∀ (d : Nat) (l : List Int), (lvs nx lf d l).2 ≤ l.length * geoS b d
  | 0, l => by simp [lvs]
  | d + 1, l => by
    have ih := lvs_le b hb d (l.flatMap nx)
    have h2 : (l.flatMap nx).length * geoS b d ≤ l.length * b * geoS b d := Nat.mul_le_mul_right _ (flat_len nx b hb l)
    show l.length + (lvs nx lf d (l.flatMap nx)).2 ≤ l.length * (1 + b * geoS b d)
    rw [Nat.mul_add, Nat.mul_one, ← Nat.mul_assoc]
    omega
end

section
variable {N F C U : Int} {L O : List ByteArray}
/-- What is looked at behind a node of two trees. -/
def nxD (N F C U : Int) (L O : List ByteArray) (k : Int) : List Int := if lAt L k.toNat = lAt O k.toNat then [] else children N F C U k
/-- What a node tells. -/
def lfD (N : Int) (L O : List ByteArray) (k : Int) : List Int := if lAt L k.toNat ≠ lAt O k.toNat ∧ k < N then [k] else []

theorem nxD_cases (k : Int) : nxD N F C U L O k = [] ∨ nxD N F C U L O k = children N F C U k := by
  unfold nxD
  split
  · exact .inl rfl
  · exact .inr rfl
/-- A node of level j. -/
def InLv (n f j : Nat) (c : Int) : Prop := ∃ x : Nat, c = x ∧ S n f j ≤ x ∧ x < S n f (j + 1)
theorem children_lv {n f j : Nat} {C U : Int} (h : Ok n f) (hok : okG n f C U) (hj : j ≤ H n f) {c : Int} (hc : InLv n f j c) : (j = 0 ∧ children n f C U c = []) ∨ ∃ i, j = i + 1 ∧ ∀ y ∈ children n f C U c, InLv n f i y := by
  obtain ⟨x, rfl, h1, h2⟩ := hc
  have hm := @S_mono n f (j + 1) (H n f + 1) (by omega)
  have he : children n f C U (x : Int) = ch n f x := by
    unfold children
    rw [if_pos ⟨hok, by omega, by simp only [Int.toNat_natCast]; omega⟩]
    simp only [Int.toNat_natCast]
  rw [he]
  rcases j with _ | i
  · exact .inl ⟨rfl, ch_leaf h2⟩
  · refine .inr ⟨i, rfl, fun y hy => ?_⟩
    obtain ⟨e1, e2⟩ := ch_at (by omega) h1 h2
    unfold ch at hy
    obtain ⟨t, ht, rfl⟩ := List.mem_map.1 hy
    rw [List.mem_range, e2] at ht
    refine ⟨_, rfl, ?_, ?_⟩
    · rw [e1]; omega
    · rw [e1]
      have := Nat.min_le_right f (S n f (i + 1) - (S n f i + (x - S n f (i + 1)) * f))
      omega
theorem below_lv {n f : Nat} {C U : Int} (h : Ok n f) (hok : okG n f C U) : ∀ (j : Nat) (l : List Int), j ≤ H n f → (∀ c ∈ l, InLv n f j c) → below_ (nxD n f C U L O) (j + 1) l = []
  | 0, l, hj, hl => by
    show l.flatMap _ = []
    rw [List.flatMap_eq_nil_iff]
    intro c hc
    rcases nxD_cases (N := n) (F := f) (C := C) (U := U) (L := L) (O := O) c with e | e
    · exact e
    · rw [e]
      rcases children_lv h hok hj (hl c hc) with ⟨_, h1⟩ | ⟨i, h1, _⟩
      · exact h1
      · omega
  | j + 1, l, hj, hl => by
    show below_ _ (j + 1) (l.flatMap _) = []
    refine below_lv h hok j _ (by omega) fun y hy => ?_
    obtain ⟨c, hc, hy⟩ := List.mem_flatMap.1 hy
    rcases nxD_cases (N := n) (F := f) (C := C) (U := U) (L := L) (O := O) c with e | e
    · rw [e] at hy; cases hy
    · rw [e] at hy
      rcases children_lv h hok hj (hl c hc) with ⟨h1, _⟩ | ⟨i, h1, h2⟩
      · omega
      · obtain rfl : i = j := by omega
        exact h2 y hy
theorem root_lv {n f : Nat} (h : Ok n f) : InLv n f (H n f) ((S n f (H n f + 1) - 1 : Nat) : Int) := by
  have h1 := (H_spec h).2.1
  have e : S n f (H n f + 1) = S n f (H n f) + q n f (H n f) := rfl
  exact ⟨_, rfl, by omega, by omega⟩
/-- What Diff tells, and how many nodes it looks at. -/
def diffP (N F C U : Int) (L O : List ByteArray) : List Int × Nat := lvs (nxD N F C U L O) (lfD N L O) (height N F C U + 1) [((nodes N F C U - 1 : Nat) : Int)]
theorem diff_end (h : okG N F C U) : below_ (nxD N F C U L O) (height N F C U + 1) [((nodes N F C U - 1 : Nat) : Int)] = [] := by
  have hok := h
  obtain ⟨n, f, rfl, rfl, ho⟩ := ok_of h
  unfold height nodes
  rw [if_pos hok]
  simp only [Int.toNat_natCast]
  rw [if_pos hok]
  exact below_lv ho hok _ _ (Nat.le_refl _) fun c hc => by
    obtain rfl := List.mem_singleton.1 hc
    exact root_lv ho
theorem diff_small (h : okG N F C U) : (diffP N F C U L O).2 ≤ 21845 := by
  have hb : ∀ k, (nxD N F C U L O k).length ≤ 4 := fun k => by
    rcases nxD_cases (N := N) (F := F) (C := C) (U := U) (L := L) (O := O) k with e | e
    · rw [e]; exact Nat.zero_le _
    · rw [e]; exact children_len N F C U k
  have h1 := lvs_le (nxD N F C U L O) (lfD N L O) 4 hb (height N F C U + 1) [((nodes N F C U - 1 : Nat) : Int)]
  have hh : height N F C U ≤ 7 := by
    have hok := h
    obtain ⟨n, f, rfl, rfl, ho⟩ := ok_of h
    unfold height
    rw [if_pos hok]
    simp only [Int.toNat_natCast]
    exact (H_spec ho).2.2
  have hg : ∀ d, d ≤ 8 → geoS 4 d ≤ 21845 := by decide
  have h2 := hg (height N F C U + 1) (by omega)
  simp only [List.length_singleton, Nat.one_mul] at h1
  unfold diffP
  omega
end
end Go.Proofs.YtlockgfokfhokaaDoor
/-
  The program's Diff: what its closure does.
-/
namespace Go.Proofs.YtlockgfokfhokaaDoor
open Go.RowKit
set_option linter.unusedVariables false
set_option linter.unusedSimpArgs false

/-- What there is while two trees are gone over: the list, the leaves' box at lb and their row, all of the call's own but the box. -/
structure DI (w0 w : World) (lb : Nat) (s sv : Value) (lst lv : List Int) : Prop where
  rowL : w.ownsRow w0.heap.size 3 1 s lst.length (ivs lst)
  rowV : w.ownsRow w0.heap.size 3 1 sv lv.length (ivs lv)
  box : w.heap[lb]? = some (.cells #[sv] 46 (0, 0))
  apart : ∀ k, s.ownBlock = some k → sv.ownBlock ≠ some k
  fr : Fr (fun k => k = lb) w0 w
  low : lb < w0.heap.size
theorem DI.kept {w0 w w' : World} {lb : Nat} {s sv : Value} {lst lv : List Int} (h : DI w0 w lb s sv lst lv) (hb : Below w.heap.size w w') : DI w0 w' lb s sv lst lv where
  rowL := owns_kept h.rowL fun k hk => hb.block k (h.rowL.lt k hk).2
  rowV := owns_kept h.rowV fun k hk => hb.block k (h.rowV.lt k hk).2
  box := (hb.block lb (Nat.lt_of_lt_of_le h.low h.fr.size)).trans h.box
  apart := h.apart
  fr := h.fr.trans (Fr.of_below (A := fun _ => False) hb) fun i hi => hi.elim
  low := h.low

set_option maxRecDepth 20000 in
set_option maxHeartbeats 2000000 in
theorem tell_any (w0 : World) (lb : Nat) (s sv : Value) (lst lv : List Int) (k : Int) (w : World) (h : DI w0 w lb s sv lst lv) (hl : lv.length < 1000000) :
    Calls Tryd.prog 53 #[.int .i64 k, .pointer (some ⟨lb, 0, none⟩)] w fun e w' => e = .returned (.tuple #[]) ∧ ∃ sv', DI w0 w' lb s sv' lst (lv ++ [k]) := by
  obtain ⟨i0, hi, hz0, hz1, hz2⟩ := info_parts Tryd.info3
  have c0 : w.cell? ⟨lb, 0, none⟩ = some sv := by rw [cell_of_blk h.box]; rfl
  obtain ⟨a, c, rfl, _, _, _⟩ := owns_shape1 h.rowV
  have hal : Below w.heap.size w (w.alloc (.cells #[.int .i64 k] 3)) := (Below.refl _ _).alloc (Nat.le_refl _) _
  have hw0 := h.fr.size
  have H := Lib.hid (h.kept hal)
  have HH := Lib.hid h
  clear h hal
  go_enter Tryd.func53, Tryd.ntmps53
  go_wp2_with (at_builtin; refine wpList_append_ia (o := ⟨some 6, _, _, _, _, _⟩) rfl (.tmp 3) (.tmp 5) 46 rfl w0.heap.size i0 Tryd.underlying46 hi hz0 hz1 hz2 _ lv.length _ rfl H.out.rowV _ rfl rfl (by omega) (by simp; omega) ?_)
  intro v' w' h1 h2 h3
  obtain ⟨a', c', rfl, _, _, _⟩ := owns_shape1 h1
  have hn1 : (Value.slice a lv.length c).ownBlock ≠ some lb := fun e => by have := (HH.out.rowV.lt lb e).1; have := HH.out.low; omega
  have hn2 : (Value.slice a' (lv.length + 1) c').ownBlock ≠ some lb := fun e => by have := (h1.lt lb e).1; have := HH.out.low; omega
  have hlbl : lb < w.heap.size := by have := HH.out.low; omega
  have hbox : w'.heap[lb]? = some (.cells #[.slice a lv.length c] 46 (0, 0)) := (h2.block lb (by simp; omega) (fun e => hn1 e.symm)).trans H.out.box
  have d0 : w'.cell? ⟨lb, 0, none⟩ = some (.slice a lv.length c) := by rw [cell_of_blk hbox]; rfl
  have df : w'.frozen? ⟨lb, 0, none⟩ = false := free_of_blk hbox 0
  have hsb : ∀ j, s.ownBlock = some j → w'.heap[j]? = (w.alloc (.cells #[.int .i64 k] 3)).heap[j]? := fun j hj => h2.block j (by have := (HH.out.rowL.lt j hj).2; simp; omega) (fun e => HH.out.apart j hj e.symm)
  have hend : DI w0 (w'.setCell ⟨lb, 0, none⟩ (.slice a' (lv.length + 1) c')) lb s (.slice a' (lv.length + 1) c') lst (lv ++ [k]) := by
    refine ⟨owns_set_other (owns_kept H.out.rowL hsb) (fun e => by have := (HH.out.rowL.lt lb e).1; have := HH.out.low; omega) _, ?_, blk_setCell hbox, fun j hj hj2 => ?_, ?_, HH.out.low⟩
    · rw [List.length_append]
      exact owns_set_other h1 hn2 _
    · rcases h3 with h3 | h3
      · exact HH.out.apart j hj (h3 ▸ hj2)
      · rw [h3] at hj2
        cases hj2
        have := (HH.out.rowL.lt _ hj).2
        omega
    · exact ((H.out.fr.grown h2 (fun j hj => .inr (HH.out.rowV.lt j hj).1))).set (.inl rfl)
  have HE := Lib.hid hend
  clear hend hsb hbox h1 h2 h3 hn1 hn2 c0
  go_wp2
  refine bodyPost_end (results_none rfl _ _ _) rfl ?_
  exact ⟨rfl, _, HE.out⟩
end Go.Proofs.YtlockgfokfhokaaDoor
/-
  The program's Diff: descend.
-/
namespace Go.Proofs.YtlockgfokfhokaaDoor
open Go.RowKit
set_option linter.unusedVariables false
set_option linter.unusedSimpArgs false

/-- What is still to come: i of the list are looked at. -/
structure DM (N F C U : Int) (L O : List ByteArray) (i n : Nat) (lst lv : List Int) : Prop where
  le : i ≤ lst.length
  done : bdone (nxD N F C U L O) n (lst.drop i)
  fst : lv ++ (bfs (nxD N F C U L O) (lfD N L O) n (lst.drop i)).1 = (diffP N F C U L O).1
  snd : i + (bfs (nxD N F C U L O) (lfD N L O) n (lst.drop i)).2 = (diffP N F C U L O).2
  rng : ∀ c ∈ lst, ∃ x : Nat, c = x ∧ x < nodes N F C U
theorem DM.start {N F C U : Int} {L O : List ByteArray} (h : okG N F C U) : ∃ n, DM N F C U L O 0 n [((nodes N F C U - 1 : Nat) : Int)] [] := by
  obtain ⟨n, h1, h2⟩ := bfs_lvs (nxD N F C U L O) (lfD N L O) _ _ (diff_end (L := L) (O := O) h)
  have hp := nodes_ge h
  refine ⟨n, Nat.zero_le _, h1, ?_, ?_, fun c hc => ?_⟩
  · rw [List.drop_zero, h2]; rfl
  · rw [List.drop_zero, h2, Nat.zero_add]; rfl
  · obtain rfl := List.mem_singleton.1 hc
    exact ⟨_, rfl, by omega⟩
theorem DM.len {N F C U : Int} {L O : List ByteArray} {i n : Nat} {lst lv : List Int} (h : DM N F C U L O i n lst lv) (hok : okG N F C U) : lst.length ≤ 21845 := by
  have h1 := bfs_len (nxD N F C U L O) (lfD N L O) n _ h.done
  have h2 := h.snd
  have h3 := diff_small (L := L) (O := O) hok
  rw [List.length_drop] at h1
  have := h.le
  omega
theorem DM.fin {N F C U : Int} {L O : List ByteArray} {i n : Nat} {lst lv : List Int} (h : DM N F C U L O i n lst lv) (he : i = lst.length) : (diffP N F C U L O).1 = lv ∧ (diffP N F C U L O).2 = i := by
  have h1 := h.fst
  have h2 := h.snd
  rw [he, List.drop_length, bfs_nil] at h1 h2
  simp only [List.append_nil, Nat.add_zero] at h1 h2
  exact ⟨h1.symm, by omega⟩
theorem DM.next {N F C U : Int} {L O : List ByteArray} {i n : Nat} {lst lv : List Int} (h : DM N F C U L O i n lst lv) (hi : i < lst.length) : i < (diffP N F C U L O).2 ∧ ∃ m, DM N F C U L O (i + 1) m (lst ++ nxD N F C U L O (lst[i]?.getD 0)) (lv ++ lfD N L O (lst[i]?.getD 0)) := by
  have hd : lst.drop i = lst[i]?.getD 0 :: lst.drop (i + 1) := by
    rw [List.drop_eq_getElem_cons hi, List.getElem?_eq_getElem hi]; rfl
  have h1 := h.done
  have h2 := h.fst
  have h3 := h.snd
  rw [hd] at h1 h2 h3
  rcases n with _ | n
  · exact absurd h1 (by simp [bdone])
  · have e : (lst ++ nxD N F C U L O (lst[i]?.getD 0)).drop (i + 1) = lst.drop (i + 1) ++ nxD N F C U L O (lst[i]?.getD 0) := List.drop_append_of_le_length (by omega)
    have h2' : lv ++ (lfD N L O (lst[i]?.getD 0) ++ (bfs (nxD N F C U L O) (lfD N L O) n (lst.drop (i + 1) ++ nxD N F C U L O (lst[i]?.getD 0))).1) = (diffP N F C U L O).1 := h2
    have h3' : i + ((bfs (nxD N F C U L O) (lfD N L O) n (lst.drop (i + 1) ++ nxD N F C U L O (lst[i]?.getD 0))).2 + 1) = (diffP N F C U L O).2 := h3
    refine ⟨by omega, n, by rw [List.length_append]; omega, by rw [e]; exact h1, by rw [e, List.append_assoc]; exact h2', by rw [e]; omega, fun c hc => ?_⟩
    rcases List.mem_append.1 hc with hc | hc
    · exact h.rng c hc
    · rcases nxD_cases (N := N) (F := F) (C := C) (U := U) (L := L) (O := O) (lst[i]?.getD 0) with e2 | e2
      · rw [e2] at hc; cases hc
      · rw [e2] at hc
        obtain ⟨x, hx, hxl⟩ := h.rng (lst[i]?.getD 0) (by rw [List.getElem?_eq_getElem hi]; exact List.getElem_mem hi)
        rw [hx] at hc
        obtain ⟨j, hj, hl⟩ := children_mem hc
        exact ⟨j, hj, by omega⟩

theorem lvs_fst (nx lf : Int → List Int) (h : ∀ k, (lf k).length ≤ 1) : ∀ (d : Nat) (l : List Int), (lvs nx lf d l).1.length ≤ (lvs nx lf d l).2
  | 0, l => Nat.le_refl _
  | d + 1, l => by
    have ih := lvs_fst nx lf h d (l.flatMap nx)
    have h2 := flat_len lf 1 h l
    show (l.flatMap lf ++ (lvs nx lf d (l.flatMap nx)).1).length ≤ l.length + (lvs nx lf d (l.flatMap nx)).2
    rw [List.length_append]
    omega
theorem lfD_le (N : Int) (L O : List ByteArray) (k : Int) : (lfD N L O k).length ≤ 1 := by unfold lfD; split <;> simp
theorem DM.few {N F C U : Int} {L O : List ByteArray} {i n : Nat} {lst lv : List Int} (h : DM N F C U L O i n lst lv) (hok : okG N F C U) : lv.length ≤ 21845 := by
  have h1 := congrArg List.length h.fst
  have h2 := lvs_fst (nxD N F C U L O) (lfD N L O) (lfD_le N L O) (height N F C U + 1) [((nodes N F C U - 1 : Nat) : Int)]
  have h3 := diff_small (L := L) (O := O) hok
  rw [List.length_append] at h1
  unfold diffP at h1 h3
  omega

/-- The list grows by a list that was read. -/
theorem DI.grow {w0 w w' : World} {lb : Nat} {s s' sv : Value} {lst lv ks : List Int} (h : DI w0 w lb s sv lst lv) (h1 : w'.ownsRow w0.heap.size 3 1 s' (lst.length + ks.length) (ivs lst ++ ivs ks)) (h2 : w.grownBy w' s.ownBlock) (h3 : s'.ownBlock = s.ownBlock ∨ s'.ownBlock = some w.heap.size) :
    DI w0 w' lb s' sv (lst ++ ks) lv := by
  have hl := h.low
  have hs := h.fr.size
  refine ⟨by rw [List.length_append, ivs_append]; exact h1, owns_kept h.rowV fun k hk => h2.block k (h.rowV.lt k hk).2 (fun e => h.apart k e.symm hk), (h2.block lb (by omega) fun e => by have := (h.rowL.lt lb e.symm).1; omega).trans h.box, fun k hk hk2 => ?_, h.fr.grown h2 fun j hj => .inr (h.rowL.lt j hj).1, hl⟩
  rcases h3 with h3 | h3
  · exact h.apart k (h3 ▸ hk) hk2
  · rw [h3] at hk
    cases hk
    have := (h.rowV.lt _ hk2).2
    omega

theorem jump_mono {P : Program} {c : Code} {l : Nat} {J J' : Act → World → Prop} {Q : Exit → Act → World → Prop} {a : Act} {w : World} (h : c.wp P (Exit.jump l J Q) a w) (hJ : ∀ a w, J a w → J' a w) : c.wp P (Exit.jump l J' Q) a w := by
  intro b k cs
  obtain ⟨e, a1, w1, hq, harr⟩ := h b k cs
  refine ⟨e, a1, w1, ?_, harr⟩
  cases e <;> first | exact hq | exact ⟨hq.1, hJ _ _ hq.2⟩
/-- A scope with one label, to which the run comes from above and by jumps back: what stands behind the label is walked once. -/
theorem wp_scope_pass {P : Program} {a : Act} {w : World} {Q : Exit → Act → World → Prop} {c rest : Code} (l : Nat) (J : Act → World → Prop) (μ : Act → World → Nat) (hf : findLabel c l = some (Code.skip.seq rest))
    (pass : ∀ a w, J a w → rest.wp P (Exit.jump l (fun a' w' => J a' w' ∧ μ a' w' < μ a w) Q) a w)
    (first : (∀ a w, J a w → rest.wp P (Exit.jump l J Q) a w) → c.wp P (Exit.jump l J Q) a w) : (Code.scope c).wp P Q a w :=
  wp_scope_jumps l J μ hf (first fun a w h => jump_mono (pass a w h) fun _ _ h => h.1) fun a w h => wp_seq (wp_skip (pass a w h))

/-- What holds at the label. -/
def DJ (p q lb : Nat) (N F C U : Int) (L O : List ByteArray) (w : World) (a' : Act) (wr : World) : Prop :=
  ∃ (i n : Nat) (lst lv : List Int) (s sv : Value) (u9 u10 u11 u12 u13 u14 u15 u16 u17 u18 u19 u20 u21 u22 u23 u24 u25 u26 u27 u28 u29 u30 u31 u32 u33 u34 u35 u36 u37 u38 u39 u40 u41 u42 u43 u44 u45 u46 u47 u48 u49 u50 u51 u52 u53 u54 u55 u56 u57 u58 u59 u60 u61 u62 u63 u64 u65 : Value), a' = { tmps := List.toArray (.pointer (some ⟨p, 0, none⟩) :: .pointer (some ⟨q, 0, none⟩) :: .func (.func 53) #[] #[.pointer (some ⟨lb, 0, none⟩)] :: undef :: undef :: undef :: .int .i64 0 :: s :: .int .i64 (i : Int) :: u9 :: u10 :: u11 :: u12 :: u13 :: u14 :: u15 :: u16 :: u17 :: u18 :: u19 :: u20 :: u21 :: u22 :: u23 :: u24 :: u25 :: u26 :: u27 :: u28 :: u29 :: u30 :: u31 :: u32 :: u33 :: u34 :: u35 :: u36 :: u37 :: u38 :: u39 :: u40 :: u41 :: u42 :: u43 :: u44 :: u45 :: u46 :: u47 :: u48 :: u49 :: u50 :: u51 :: u52 :: u53 :: u54 :: u55 :: u56 :: u57 :: u58 :: u59 :: u60 :: u61 :: u62 :: u63 :: u64 :: u65 :: []), defers := [] } ∧ DI w wr lb s sv lst lv ∧ DM N F C U L O i n lst lv

set_option maxRecDepth 100000 in
set_option maxHeartbeats 8000000 in
theorem descend_any (B p q lb : Nat) (v v' : Value) (N F C U C' U' : Int) (L O : List ByteArray) (w : World) (h : PT w B p v N F C U L) (h' : PT w B q v' N F C' U' O)
    (hok : okG N F C U) (hL : L.length = nodes N F C U) (hO : O.length = nodes N F C U) (hlb : w.heap[lb]? = some (.cells #[.slice none 0 0] 46 (0, 0))) (hnp : ∀ k, tfoot p v k → k ≠ lb) (hnq : ∀ k, tfoot q v' k → k ≠ lb) :
    Calls Tryd.prog 52 #[.pointer (some ⟨p, 0, none⟩), .pointer (some ⟨q, 0, none⟩), .func (.func 53) #[] #[.pointer (some ⟨lb, 0, none⟩)]] w
      fun e w' => e = .returned (.int .i64 ((diffP N F C U L O).2 : Int)) ∧ (∃ sv, w'.heap[lb]? = some (.cells #[sv] 46 (0, 0)) ∧ w'.ownsRow w.heap.size 3 1 sv (diffP N F C U L O).1.length (ivs (diffP N F C U L O).1)) ∧ Fr (fun k => k = lb) w w' := by
  have HI := Lib.hid (info_parts Tryd.info3)
  have hroot := fun w => root_any N F C U w
  have hchild := fun k w => children_any N F C U k w
  unfold geo at hroot hchild
  have hpos := nodes_ge hok
  obtain ⟨n0, hm0⟩ := DM.start (L := L) (O := O) hok
  have hfree : ∀ w', Fr (fun k => k = lb) w w' → PT w' B p v N F C U L ∧ PT w' B q v' N F C' U' O := fun w' hf => ⟨h.frl hf hnp, h'.frl hf hnq⟩
  have HSH := Lib.hid (And.intro (h.shape (by omega)) (h'.shape (by omega)))
  have hlow := lt_of_block hlb
  have HR := Lib.hid hroot
  have HC := Lib.hid hchild
  have HM0 := Lib.hid hm0
  have HLB := Lib.hid (And.intro hlb hlow)
  have HFREE := Lib.hid hfree
  have HOK := Lib.hid hok
  have HLEN := Lib.hid (And.intro hL (And.intro hO hpos))
  have HCELLS := Lib.hid h.cells
  clear hroot hchild hm0 hlb hfree hnp hnq h h' hok hlow hL hO hpos
  obtain ⟨ga, cv, rfl, hga1, hga2, hga3, hga4, hga5⟩ := HSH.out.1
  obtain ⟨gb, co, rfl, hgb1, hgb2, hgb3, hgb4, hgb5⟩ := HSH.out.2
  clear hga1 hga2 hga3 hgb1 hgb2 hgb3 HSH
  have HNUM := Lib.hid (And.intro hga4 (And.intro hga5 (And.intro hgb4 hgb5)))
  clear hga4 hga5 hgb4 hgb5
  go_enter Tryd.func52, Tryd.ntmps52
  go_wp2
  refine wp_scope_pass 0 (DJ p q lb N F C U L O w) (fun a' _ => (diffP N F C U L O).2 - (intOf (a'.tmps.getD 8 undef)).toNat) rfl ?_ ?_
  · rintro a' wr ⟨i, n, lst, lv, s, sv, u9, u10, u11, u12, u13, u14, u15, u16, u17, u18, u19, u20, u21, u22, u23, u24, u25, u26, u27, u28, u29, u30, u31, u32, u33, u34, u35, u36, u37, u38, u39, u40, u41, u42, u43, u44, u45, u46, u47, u48, u49, u50, u51, u52, u53, u54, u55, u56, u57, u58, u59, u60, u61, u62, u63, u64, u65, rfl, hdi, hdm⟩
    clear HR HM0 HLB HCELLS
    have hll := hdm.len HOK.out
    obtain ⟨al, cl, rfl, hil, hlow⟩ := iowns_shape hdi.rowL (by omega)
    clear hlow
    have hcl : (cl : Int) ≤ 9223372036854775807 := by have := hil.cm; unfold maxLen at this; omega
    by_cases hlt : i < lst.length
    · have i1 : (0 : Int) ≤ (i : Int) := by omega
      have i2 : (i : Int) < (lst.length : Int) := by omega
      have i3 : ((i : Int) == (lst.length : Int)) = false := beq_eq_false_iff_ne.2 (by omega)
      obtain ⟨hlt2, m, hnx⟩ := hdm.next hlt
      obtain ⟨x, hx, hxl⟩ := hdm.rng (lst[i]?.getD 0) (by rw [List.getElem?_eq_getElem hlt]; exact List.getElem_mem hlt)
      obtain ⟨b, off, hal, hbl, hcc⟩ := hil.at0 (by omega)
      subst hal
      clear hbl
      have e0 := hcc i hlt
      rw [hx] at e0 hnx
      have hTd := (HFREE.out wr hdi.fr).1
      have hTd' := (HFREE.out wr hdi.fr).2
      have g4 := hTd.cells.2.2.2.2.1
      have k4 := hTd'.cells.2.2.2.2.1
      have e1 := hTd.at (g := ga) rfl (j := x) (by rw [HLEN.out.1]; exact hxl)
      have e2 := hTd'.at (g := gb) rfl (j := x) (by rw [HLEN.out.2.1]; exact hxl)
      have x0 : (0 : Int) ≤ (x : Int) := by omega
      have x1 : (x : Int) < (L.length : Int) := by rw [HLEN.out.1]; omega
      have x2 : (x : Int) < (O.length : Int) := by rw [HLEN.out.2.1]; omega
      have y1 := HNUM.out.1
      have y2 := HNUM.out.2.1
      have y3 := HNUM.out.2.2.1
      have y4 := HNUM.out.2.2.2
      have hnxe : nxD N F C U L O (x : Int) = if lAt L x = lAt O x then [] else children N F C U x := rfl
      have hlfe : lfD N L O (x : Int) = if lAt L x ≠ lAt O x ∧ (x : Int) < N then [(x : Int)] else [] := rfl
      obtain ⟨z1, hz1'⟩ : ∃ z, z = lAt L x := ⟨_, rfl⟩
      obtain ⟨z2, hz2'⟩ : ∃ z, z = lAt O x := ⟨_, rfl⟩
      rw [← hz1'] at e1 hnxe hlfe
      rw [← hz2'] at e2 hnxe hlfe
      have hgd := fun u v w => guard_txt .eql u v z1 z2 w
      obtain ⟨V1, hV1⟩ : ∃ V, V = Value.string z1 := ⟨_, rfl⟩
      obtain ⟨V2, hV2⟩ : ∃ V, V = Value.string z2 := ⟨_, rfl⟩
      rw [← hV1] at e1
      rw [← hV2] at e2
      simp only [← hV1, ← hV2] at hgd
      have HDI := Lib.hid (fun nq => hdi.kept (below_drewN (Below.refl _ _) nq))
      have HNX := Lib.hid hnx
      have HLV := Lib.hid (hdm.few HOK.out)
      obtain ⟨bq, hbq⟩ : ∃ bq, bq = decide (z1 = z2) := ⟨_, rfl⟩
      have hq : ∀ w, (binOp .eql 9 V1 V2).run Tryd.prog w = .ok (.bool bq) w := fun w => by rw [hV1, hV2, eql_txt, hbq]
      have HBQ := Lib.hid (And.intro hbq (And.intro hnxe hlfe))
      have HIL := Lib.hid (And.intro hll (And.intro hlt (And.intro hlt2 hxl)))
      have hwr : IntKind.i64.wrap ((i : Int) + 1) = (i : Int) + 1 := IntWalk.i64_in _ (by omega)
      obtain ⟨n1, hn1⟩ : ∃ k, k = lst.length := ⟨_, rfl⟩
      obtain ⟨n2, hn2⟩ : ∃ k, k = L.length := ⟨_, rfl⟩
      obtain ⟨n3, hn3⟩ : ∃ k, k = O.length := ⟨_, rfl⟩
      rw [← hn1] at i2 i3 ⊢
      rw [← hn2] at x1 y1 g4
      rw [← hn3] at x2 y3 k4
      have HNN := Lib.hid (And.intro hn1 (And.intro hn2 hn3))
      clear hcc hTd hTd' hdi hdm hnx hil hx hz1' hz2' hbq hnxe hlfe hV1 hV2 hn1 hn2 hn3 hll hlt hlt2 hxl
      go_wp2
      go_quiet (fail)
      obtain ⟨wq, hwq⟩ : ∃ wq, wq = wr.drewN nq := ⟨_, rfl⟩
      have HDQ := Lib.hid (HDI.out nq)
      rw [← hwq] at HDQ ⊢
      clear hwq HDI
      have hn1 := HNN.out.1
      subst hn1
      have hll := HIL.out.1
      have hlt2 := HIL.out.2.2.1
      clear e0 e1 e2 g4 k4 hq hgd x1 x2 y1 y2 y3 y4 hwr i3
      cases bq with
      | true =>
        have hst : z1 = z2 := of_decide_eq_true HBQ.out.1.symm
        have hnxe := HBQ.out.2.1
        have hlfe := HBQ.out.2.2
        rw [if_pos hst] at hnxe
        rw [if_neg (fun h => h.1 hst)] at hlfe
        have hn := HNX.out
        rw [hnxe, hlfe, List.append_nil, List.append_nil] at hn
        have HN := Lib.hid hn
        clear hn hnxe hlfe hst HNX HBQ
        go_wp2
        go_step3
        refine ⟨rfl, ⟨i + 1, m, lst, lv, _, sv, _, _, _, _, _, _, _, _, _, _, _, _, _, _, _, _, _, _, _, _, _, _, _, _, _, _, _, _, _, _, _, _, _, _, _, _, _, _, _, _, _, _, _, _, _, _, _, _, _, _, _, _, _, _, _, _, _, rfl, HDQ.out, HN.out⟩, ?_⟩
        simp [intOf]
        omega
      | false =>
        have hst : ¬ z1 = z2 := of_decide_eq_false HBQ.out.1.symm
        have hnxe := HBQ.out.2.1
        have hlfe := HBQ.out.2.2
        rw [if_neg hst] at hnxe
        have hks := children_len N F C U (x : Int)
        have hch := HC.out (x : Int)
        obtain ⟨ks, hks'⟩ : ∃ ks, ks = children N F C U (x : Int) := ⟨_, rfl⟩
        rw [← hks'] at hks hch hnxe
        have HCH := Lib.hid hch
        have hfc := (HFREE.out wq HDQ.out.fr).1.cells.1
        clear hks' hch HC
        by_cases hleaf : (x : Int) < N
        · rw [if_pos ⟨hst, hleaf⟩] at hlfe
          have hn := HNX.out
          rw [hnxe, hlfe] at hn
          have HN := Lib.hid hn
          have htl := tell_any w lb _ sv lst lv (x : Int) wq HDQ.out (by have := HLV.out; omega)
          have HTL := Lib.hid htl
          clear hn hnxe hlfe hst HNX htl HBQ
          go_wp2_with fail
          refine HTL.out.mono ?_
          rintro e wt ⟨rfl, sv2, hdi2⟩
          have HD2 := Lib.hid hdi2
          clear hdi2 HTL hfc
          obtain ⟨i0, hi, hz0, hz1, hz2⟩ := HI.out
          obtain ⟨t0, t1, t2, t3, _, _⟩ := (HFREE.out _ HD2.out.fr).1.cells
          go_wp2_with fail
          refine (HCH.out _).mono ?_
          rintro e wc ⟨⟨vc, rfl, ac, nc, cc, rfl, hri, hrl⟩, hbc⟩
          have HDC := Lib.hid (HD2.out.kept hbc)
          clear t0 t1 t2 t3 hrl hbc
          have hkl := hri.len
          subst hkl
          have hrow := HDC.out.rowL
          have hlow0 := HDC.out.fr.size
          rcases ac with _ | ad
          · have hcc := hri.nil rfl
            have hle := hri.le
            have hk0 : ks.length = 0 := by omega
            obtain rfl : ks = [] := List.eq_nil_of_length_eq_zero hk0
            subst hcc
            have hnn := HN.out
            rw [List.append_nil] at hnn
            have HN2 := Lib.hid hnn
            clear hnn hri hle hk0 HN
            go_wp2_with (at_builtin; refine wpList_append_own_none (o := ⟨some 65, _, _, _, _, _⟩) rfl (.tmp 58) (.tmp 64) 46 rfl w.heap.size 3 i0 1 Tryd.underlying46 hi _ lst.length (ivs lst) rfl hrow rfl ?_)
            go_wp2
            go_step3
            refine ⟨rfl, ⟨i + 1, m, lst, lv ++ [(x : Int)], _, _, _, _, _, _, _, _, _, _, _, _, _, _, _, _, _, _, _, _, _, _, _, _, _, _, _, _, _, _, _, _, _, _, _, _, _, _, _, _, _, _, _, _, _, _, _, _, _, _, _, _, _, _, _, _, _, _, _, rfl, HDC.out, HN2.out⟩, ?_⟩
            simp [intOf]
            omega
          · have hsrc : ∀ (j : Nat) (u : Value), (ivs ks)[j]? = some u → wc.cell? (ad.add j) = some u := fun j u hj => by
              have hjl : j < ks.length := by
                have := (List.getElem?_eq_some_iff.1 hj).1
                rwa [ivs_length] at this
              obtain ⟨b9, off9, he9, _, hc9⟩ := hri.at0 (by omega)
              cases he9
              rw [ivs_at _ _ hjl] at hj
              cases hj
              rw [Addr.add_noneG]
              exact hc9 j hjl
            have HSRC := Lib.hid hsrc
            clear hsrc hri
            go_wp2_with (at_builtin; refine wpList_append_own_at _ (o := ⟨some 65, _, _, _, _, _⟩) rfl (.tmp 58) (.tmp 64) 46 rfl w.heap.size 3 i0 (.int .i64 0) 1 8 Tryd.underlying46 hi hz0 hz1 hz2 rfl (by omega) _ lst.length (ivs lst) rfl hrow ad ks.length cc (ivs ks) rfl (by rw [ivs_length, Nat.mul_one]) HSRC.out (ivs_one _) (by unfold maxLen; omega) (by omega) (by omega) ?_)
            intro v5 w5 h1 h2 _ h3
            have HDG := Lib.hid (HDC.out.grow h1 h2 h3)
            obtain ⟨a5, c5, rfl, _, _, _⟩ := owns_shape1 h1
            clear h1 h2 h3
            go_wp2
            go_step3
            refine ⟨rfl, ⟨i + 1, m, lst ++ ks, lv ++ [(x : Int)], _, _, _, _, _, _, _, _, _, _, _, _, _, _, _, _, _, _, _, _, _, _, _, _, _, _, _, _, _, _, _, _, _, _, _, _, _, _, _, _, _, _, _, _, _, _, _, _, _, _, _, _, _, _, _, _, _, _, _, rfl, HDG.out, HN.out⟩, ?_⟩
            simp [intOf]
            omega
        · rw [if_neg (fun h => hleaf h.2)] at hlfe
          have hn := HNX.out
          rw [hnxe, hlfe, List.append_nil] at hn
          have HN := Lib.hid hn
          clear hn hnxe hlfe hst HNX HBQ
          have HD2 := HDQ
          go_upto_region 12 with fail
          obtain ⟨i0, hi, hz0, hz1, hz2⟩ := HI.out
          obtain ⟨t0, t1, t2, t3, _, _⟩ := (HFREE.out _ HD2.out.fr).1.cells
          go_wp2_with fail
          refine (HCH.out _).mono ?_
          rintro e wc ⟨⟨vc, rfl, ac, nc, cc, rfl, hri, hrl⟩, hbc⟩
          have HDC := Lib.hid (HD2.out.kept hbc)
          clear t0 t1 t2 t3 hrl hbc
          have hkl := hri.len
          subst hkl
          have hrow := HDC.out.rowL
          have hlow0 := HDC.out.fr.size
          rcases ac with _ | ad
          · have hcc := hri.nil rfl
            have hle := hri.le
            have hk0 : ks.length = 0 := by omega
            obtain rfl : ks = [] := List.eq_nil_of_length_eq_zero hk0
            subst hcc
            have hnn := HN.out
            rw [List.append_nil] at hnn
            have HN2 := Lib.hid hnn
            clear hnn hri hle hk0 HN
            go_wp2_with (at_builtin; refine wpList_append_own_none (o := ⟨some 65, _, _, _, _, _⟩) rfl (.tmp 58) (.tmp 64) 46 rfl w.heap.size 3 i0 1 Tryd.underlying46 hi _ lst.length (ivs lst) rfl hrow rfl ?_)
            go_wp2
            go_step3
            refine ⟨rfl, ⟨i + 1, m, lst, lv, _, _, _, _, _, _, _, _, _, _, _, _, _, _, _, _, _, _, _, _, _, _, _, _, _, _, _, _, _, _, _, _, _, _, _, _, _, _, _, _, _, _, _, _, _, _, _, _, _, _, _, _, _, _, _, _, _, _, _, rfl, HDC.out, HN2.out⟩, ?_⟩
            simp [intOf]
            omega
          · have hsrc : ∀ (j : Nat) (u : Value), (ivs ks)[j]? = some u → wc.cell? (ad.add j) = some u := fun j u hj => by
              have hjl : j < ks.length := by
                have := (List.getElem?_eq_some_iff.1 hj).1
                rwa [ivs_length] at this
              obtain ⟨b9, off9, he9, _, hc9⟩ := hri.at0 (by omega)
              cases he9
              rw [ivs_at _ _ hjl] at hj
              cases hj
              rw [Addr.add_noneG]
              exact hc9 j hjl
            have HSRC := Lib.hid hsrc
            clear hsrc hri
            go_wp2_with (at_builtin; refine wpList_append_own_at _ (o := ⟨some 65, _, _, _, _, _⟩) rfl (.tmp 58) (.tmp 64) 46 rfl w.heap.size 3 i0 (.int .i64 0) 1 8 Tryd.underlying46 hi hz0 hz1 hz2 rfl (by omega) _ lst.length (ivs lst) rfl hrow ad ks.length cc (ivs ks) rfl (by rw [ivs_length, Nat.mul_one]) HSRC.out (ivs_one _) (by unfold maxLen; omega) (by omega) (by omega) ?_)
            intro v5 w5 h1 h2 _ h3
            have HDG := Lib.hid (HDC.out.grow h1 h2 h3)
            obtain ⟨a5, c5, rfl, _, _, _⟩ := owns_shape1 h1
            clear h1 h2 h3
            go_wp2
            go_step3
            refine ⟨rfl, ⟨i + 1, m, lst ++ ks, lv, _, _, _, _, _, _, _, _, _, _, _, _, _, _, _, _, _, _, _, _, _, _, _, _, _, _, _, _, _, _, _, _, _, _, _, _, _, _, _, _, _, _, _, _, _, _, _, _, _, _, _, _, _, _, _, _, _, _, _, rfl, HDG.out, HN.out⟩, ?_⟩
            simp [intOf]
            omega
    · have he : i = lst.length := by have := hdm.le; omega
      have hfin := hdm.fin he
      subst he
      have HD := Lib.hid (And.intro hdi hfin)
      clear hdi hdm hfin hil
      go_wp2
      simp only [Exit.jump]
      go_ret
      exact ⟨by rw [HD.out.2.2]; rfl, ⟨sv, HD.out.1.box, by rw [HD.out.2.1]; exact HD.out.1.rowV⟩, HD.out.1.fr⟩
  · intro hp
    have HP := Lib.hid hp
    clear hp
    obtain ⟨c0, c1, c2, c3, c4, cf⟩ := HCELLS.out
    have j0 : ((L.length : Int) == 0) = false := beq_eq_false_iff_ne.2 (by rw [HLEN.out.1]; have := HLEN.out.2.2; omega)
    clear HCELLS cf
    go_wp2_with fail
    refine (HR.out _).mono ?_
    rintro e w1 ⟨rfl, hb⟩
    have hb2 : Below w.heap.size w (w1.alloc (.cells #[.int .i64 ((nodes N F C U - 1 : Nat) : Int)] 3)) := hb.alloc hb.size _
    have hrow := one_owns w1 w.heap.size ((nodes N F C U - 1 : Nat) : Int) hb.size
    have hdi : DI w (w1.alloc (.cells #[.int .i64 ((nodes N F C U - 1 : Nat) : Int)] 3)) lb (.slice (some ⟨w1.heap.size, 0, none⟩) 1 1) (.slice none 0 0) [((nodes N F C U - 1 : Nat) : Int)] [] :=
      ⟨hrow, World.ownsRow_nil _ _ _ _, (hb2.block lb HLB.out.2).trans HLB.out.1, fun k _ hk => by simp [Value.ownBlock] at hk, Fr.of_below hb2, HLB.out.2⟩
    have HD := Lib.hid hdi
    clear hb hb2 hrow hdi
    go_wp2
    go_step3
    rename_i kx
    refine kx _ _ (HP.out _ _ ⟨0, n0, _, [], _, _, _, _, _, _, _, _, _, _, _, _, _, _, _, _, _, _, _, _, _, _, _, _, _, _, _, _, _, _, _, _, _, _, _, _, _, _, _, _, _, _, _, _, _, _, _, _, _, _, _, _, _, _, _, _, _, _, _, rfl, HD.out, HM0.out⟩)
end Go.Proofs.YtlockgfokfhokaaDoor
/-
  The program's Diff.
-/
namespace Go.Proofs.YtlockgfokfhokaaDoor
open Go.RowKit
set_option linter.unusedVariables false
set_option linter.unusedSimpArgs false

set_option maxRecDepth 20000 in
set_option maxHeartbeats 4000000 in
theorem tdiff_bad (B p q : Nat) (v v' : Value) (N F C U N' F' C' U' : Int) (L O : List ByteArray) (w : World) (h : PT w B p v N F C U L) (h' : PT w B q v' N' F' C' U' O) (hb : N ≠ N' ∨ F ≠ F') :
    Calls Tryd.prog 24 #[.pointer (some ⟨p, 0, none⟩), .pointer (some ⟨q, 0, none⟩)] w
      fun e w' => e = .returned (.tuple #[.slice none 0 0, .int .i64 0, .int .i64 12]) ∧ Below w.heap.size w w' := by
  have c0 := h.cells.1
  have c1 := h.cells.2.1
  have d0 := h'.cells.1
  have d1 := h'.cells.2.1
  clear h h'
  by_cases hN : N = N'
  · subst hN
    have hF : F ≠ F' := hb.resolve_left (fun h => h rfl)
    have e1 : (F == F') = false := by simpa using hF
    have e2 : (F != F') = true := by simp [bne, e1]
    clear hb hF
    go_enter Tryd.func24, Tryd.ntmps24
    go_wp2
    go_quiet (fail)
    go_wp2
    refine bodyPost_ret (by simp [results, Tryd.f24, go_sem]; try rfl) rfl ?_
    exact ⟨rfl, below_drewN (Below.refl _ _) _⟩
  · have e1 : (N == N') = false := by simpa using hN
    have e2 : (N != N') = true := by simp [bne, e1]
    clear hb hN
    go_enter Tryd.func24, Tryd.ntmps24
    go_wp2
    go_quiet (fail)
    go_wp2
    refine bodyPost_ret (by simp [results, Tryd.f24, go_sem]; try rfl) rfl ?_
    exact ⟨rfl, below_drewN (Below.refl _ _) _⟩

set_option maxRecDepth 20000 in
set_option maxHeartbeats 4000000 in
theorem tdiff_ok (B p q : Nat) (v v' : Value) (N F C U C' U' : Int) (L O : List ByteArray) (w : World) (h : PT w B p v N F C U L) (h' : PT w B q v' N F C' U' O)
    (hok : okG N F C U) (hL : L.length = nodes N F C U) (hO : O.length = nodes N F C U) :
    Calls Tryd.prog 24 #[.pointer (some ⟨p, 0, none⟩), .pointer (some ⟨q, 0, none⟩)] w
      fun e w' => ∃ sv, e = .returned (.tuple #[sv, .int .i64 ((diffP N F C U L O).2 : Int), .int .i64 0]) ∧ w'.ownsRow w.heap.size 3 1 sv (diffP N F C U L O).1.length (ivs (diffP N F C U L O).1) ∧ Below w.heap.size w w' := by
  have c0 := h.cells.1
  have c1 := h.cells.2.1
  have d0 := h'.cells.1
  have d1 := h'.cells.2.1
  have hde : ∀ nq, Calls Tryd.prog 52 #[.pointer (some ⟨p, 0, none⟩), .pointer (some ⟨q, 0, none⟩), .func (.func 53) #[] #[.pointer (some ⟨w.heap.size, 0, none⟩)]] ((w.drewN nq).alloc (.cells #[.slice none 0 0] 46))
      fun e w' => e = .returned (.int .i64 ((diffP N F C U L O).2 : Int)) ∧ (∃ sv, w'.heap[w.heap.size]? = some (.cells #[sv] 46 (0, 0)) ∧ w'.ownsRow w.heap.size 3 1 sv (diffP N F C U L O).1.length (ivs (diffP N F C U L O).1)) ∧ Below w.heap.size w w' := fun nq => by
    have hb : Below w.heap.size w ((w.drewN nq).alloc (.cells #[.slice none 0 0] 46)) := (below_drewN (Below.refl _ _) nq).alloc (by exact Nat.le_refl _) _
    have hz : ((w.drewN nq).alloc (.cells #[.slice none 0 0] 46)).heap.size = w.heap.size + 1 := World.size_alloc _ _
    refine (descend_any B p q w.heap.size v v' N F C U C' U' L O _ (h.below hb) (h'.below hb) hok hL hO (heap_alloc_new (w.drewN nq) _) (fun k hk e => by have := (h.foot_low k hk).2; omega) (fun k hk e => by have := (h'.foot_low k hk).2; omega)).mono ?_
    rintro e w' ⟨rfl, ⟨sv, h1, h2⟩, hf⟩
    refine ⟨rfl, ⟨sv, h1, ?_⟩, hb.trans (hf.below (fun k hk => by omega) (by omega))⟩
    refine ⟨h2.1, ?_⟩
    rcases h2.2 with hn | ⟨g, cap, cur, rfl, hbb, rest⟩
    · exact .inl hn
    · exact .inr ⟨g, cap, cur, rfl, by omega, rest⟩
  generalize diffP N F C U L O = D at *
  have HDE := Lib.hid hde
  clear h h' hde hok hL hO
  have e1 : (N != N) = false := by simp
  have e2 : (F != F) = false := by simp
  go_enter Tryd.func24, Tryd.ntmps24
  go_wp2
  go_quiet (fail)
  go_wp2_with fail
  refine (HDE.out _).mono ?_
  rintro e w1 ⟨rfl, ⟨sv, h1, h2⟩, hb⟩
  have k0 : w1.cell? ⟨w.heap.size, 0, none⟩ = some sv := by rw [cell_of_blk h1]; rfl
  obtain ⟨a, c, rfl, _, _, _⟩ := owns_shape1 h2
  have HX := Lib.hid (And.intro h2 hb)
  clear h1 h2 hb HDE
  go_wp2
  refine bodyPost_ret (by simp [results, Tryd.f24, go_sem]; try rfl) rfl ?_
  exact ⟨_, rfl, HX.out.1, HX.out.2⟩

set_option maxRecDepth 20000 in
set_option maxHeartbeats 1000000 in
theorem tdiff_nil (u : Value) (hu : u = .pointer none ∨ ∃ q, u = .pointer (some ⟨q, 0, none⟩)) (w : World) :
    Calls Tryd.prog 24 #[.pointer none, u] w fun e w' => e = .returned (.tuple #[.slice none 0 0, .int .i64 0, .int .i64 1]) ∧ Below w.heap.size w w' := by
  rcases hu with rfl | ⟨q, rfl⟩
  · go_enter Tryd.func24, Tryd.ntmps24
    go_wp2
    refine bodyPost_ret (by simp [results, Tryd.f24, go_sem]; try rfl) rfl ?_
    exact ⟨rfl, Below.refl _ _⟩
  · go_enter Tryd.func24, Tryd.ntmps24
    go_wp2
    refine bodyPost_ret (by simp [results, Tryd.f24, go_sem]; try rfl) rfl ?_
    exact ⟨rfl, Below.refl _ _⟩
set_option maxRecDepth 20000 in
set_option maxHeartbeats 1000000 in
theorem tdiff_other (p : Nat) (w : World) :
    Calls Tryd.prog 24 #[.pointer (some ⟨p, 0, none⟩), .pointer none] w fun e w' => e = .returned (.tuple #[.slice none 0 0, .int .i64 0, .int .i64 1]) ∧ Below w.heap.size w w' := by
  go_enter Tryd.func24, Tryd.ntmps24
  go_wp2
  refine bodyPost_ret (by simp [results, Tryd.f24, go_sem]; try rfl) rfl ?_
  exact ⟨rfl, Below.refl _ _⟩

/-- The program's trees that are not there. -/
theorem nil_digest (node : Int) (w : World) : Calls Tryd.prog 29 #[.pointer none, .int .i64 node] w fun e w' => e = .returned (.tuple #[.string ⟨#[]⟩, .int .i64 1]) ∧ Below w.heap.size w w' := by
  go_enter Tryd.func29, Tryd.ntmps29
  go_wp2
  refine bodyPost_ret (results_tmp2 rfl _ _ _) rfl ?_
  exact ⟨rfl, Below.refl _ _⟩
theorem nil_all (w : World) : Calls Tryd.prog 20 #[.pointer none] w fun e w' => e = .returned (.slice none 0 0) ∧ Below w.heap.size w w' := by
  go_enter Tryd.func20, Tryd.ntmps20
  go_wp2
  go_ret
  exact ⟨rfl, Below.refl _ _⟩
theorem nil_bad (w : World) : Calls Tryd.prog 23 #[.pointer none] w fun e w' => e = .returned (.slice none 0 0) ∧ Below w.heap.size w w' := by
  go_enter Tryd.func23, Tryd.ntmps23
  go_wp2
  go_ret
  exact ⟨rfl, Below.refl _ _⟩
theorem nil_copy (w : World) : Calls Tryd.prog 16 #[.pointer none] w fun e w' => e = .returned (.pointer none) ∧ Below w.heap.size w w' := by
  go_enter Tryd.func16, Tryd.ntmps16
  go_wp2
  go_ret
  exact ⟨rfl, Below.refl _ _⟩
theorem nil_set (leaf : Int) (s : ByteArray) (w : World) : Calls Tryd.prog 17 #[.pointer none, .int .i64 leaf, .string s] w fun e w' => e = .returned (.int .i64 1) ∧ Below w.heap.size w w' := by
  go_enter Tryd.func17, Tryd.ntmps17
  go_wp2
  go_ret
  exact ⟨rfl, Below.refl _ _⟩
set_option maxRecDepth 20000 in
theorem nil_geom (w : World) : Calls Tryd.prog 30 #[.pointer none] w fun e w' => e = .returned (geo 0 0 0 0) ∧ Below w.heap.size w w' := by
  unfold geo
  go_enter Tryd.func30, Tryd.ntmps30
  go_wp2
  refine bodyPost_ret (by simp [results, Tryd.f30, go_sem]; try rfl) rfl ?_
  exact ⟨rfl, (Below.refl _ w).alloc (Nat.le_refl _) _⟩
theorem bad_geo : ¬ okG 0 0 0 0 := by unfold okG; omega
set_option maxRecDepth 20000 in
theorem nil_root (w : World) : Calls Tryd.prog 31 #[.pointer none] w fun e w' => e = .returned (.string ⟨#[]⟩) ∧ Below w.heap.size w w' := by
  have g1 := nil_geom w
  have g2 := fun w => root_any 0 0 0 0 w
  have g3 := fun k w => nil_digest k w
  unfold geo at g1 g2
  have G1 := Lib.hid g1
  have G2 := Lib.hid g2
  have G3 := Lib.hid g3
  clear g1 g2 g3
  go_enter Tryd.func31, Tryd.ntmps31
  go_wp2_with fail
  refine G1.out.mono ?_
  rintro e w1 ⟨rfl, hb⟩
  have HB1 := Lib.hid hb
  clear hb G1
  go_wp2_with fail
  refine (G2.out _).mono ?_
  rintro e w2 ⟨rfl, hb⟩
  have HB2 := Lib.hid (HB1.out.trans (hb.mono HB1.out.size))
  clear hb G2 HB1
  go_wp2_with fail
  refine (G3.out _ _).mono ?_
  rintro e w3 ⟨rfl, hb⟩
  have HB3 := Lib.hid (HB2.out.trans (hb.mono HB2.out.size))
  clear hb G3 HB2
  go_wp2
  go_ret
  exact ⟨rfl, HB3.out⟩
end Go.Proofs.YtlockgfokfhokaaDoor
/-
  The fixed calls of the trees' statements; the walk of TreeNil.
-/
namespace Go.Proofs.YtlockgfokfhokaaDoor
open Go.RowKit
set_option linter.unusedVariables false
set_option linter.unusedSimpArgs false

theorem lvs_none (nx lf : Int → List Int) : ∀ d, lvs nx lf d [] = ([], 0)
  | 0 => rfl
  | d + 1 => by
    show ([] ++ (lvs nx lf d []).1, 0 + (lvs nx lf d []).2) = _
    rw [lvs_none nx lf d]
    rfl
theorem diff_same (N F C U : Int) (L : List ByteArray) : diffP N F C U L L = ([], 1) := by
  unfold diffP
  have e1 : ∀ k, nxD N F C U L L k = [] := fun k => if_pos rfl
  have e2 : ∀ k, lfD N L L k = [] := fun k => if_neg (fun h => h.1 rfl)
  show ([((nodes N F C U - 1 : Nat) : Int)].flatMap (lfD N L L) ++ (lvs _ _ _ ([((nodes N F C U - 1 : Nat) : Int)].flatMap (nxD N F C U L L))).1, 1 + (lvs _ _ _ ([((nodes N F C U - 1 : Nat) : Int)].flatMap (nxD N F C U L L))).2) = _
  simp [e1, e2, lvs_none]
theorem rs_two (w : World) (x y : ByteArray) : Rs (w.alloc (.cells #[.string x, .string y] 9)) (some ⟨w.heap.size, 0, none⟩) 2 2 [x, y] := by
  refine ⟨rfl, Nat.le_refl _, by unfold maxLen; omega, fun _ => ⟨w.heap.size, 0, rfl, by simp, fun i hi => ?_⟩⟩
  have hb : (w.alloc (.cells #[.string x, .string y] 9)).heap[w.heap.size]? = some (.cells #[.string x, .string y] 9 (0, 0)) := heap_alloc_new w _
  have hc : i = 0 ∨ i = 1 := by omega
  rcases hc with rfl | rfl <;> (rw [cell_of_blk hb]; rfl)

theorem kn_ok : okG 2 2 0 1 := by unfold okG; omega
theorem kn_nodes : nodes 2 2 0 1 = 3 := by decide +kernel
theorem kn_err : newErr 2 2 0 1 [secOf 0, secOf 1] = 0 := by
  unfold newErr
  rw [if_neg (fun h => h kn_ok), if_neg (by decide), if_pos]
  intro i hi
  have hc : i = 0 ∨ i = 1 := by have : i < 2 := hi; omega
  rcases hc with rfl | rfl <;> exact secOf_size _
theorem kn_tree : treeL 2 2 0 1 [secOf 0, secOf 1] = [leafB (secOf 0), leafB (secOf 1), nodeB [leafB (secOf 0), leafB (secOf 1)]] := by
  unfold treeL
  rw [kn_nodes]
  show growL 2 2 0 1 [leafB (secOf 0), leafB (secOf 1)] 1 = _
  show [leafB (secOf 0), leafB (secOf 1)] ++ [nodeB (kids [leafB (secOf 0), leafB (secOf 1)] (children 2 2 0 1 2))] = _
  rw [show children 2 2 0 1 2 = [0, 1] from by decide +kernel]
  rfl

theorem node_two (x y : ByteArray) (hx : x.size = 32) (hy : y.size = 32) (w : World) :
    Calls Tryd.prog 35 #[.slice (some ⟨w.heap.size, 0, none⟩) 2 2] (w.alloc (.cells #[.string x, .string y] 9)) fun e w' => e = .returned (.string (nodeB [x, y])) ∧ Below w.heap.size w w' := by
  have hj := jn_small [x, y] 32 (fun i hi => by
        have hc : i = 0 ∨ i = 1 := by have : i < 2 := hi; omega
        rcases hc with rfl | rfl
        · exact Nat.le_of_eq hx
        · exact Nat.le_of_eq hy) 2 (Nat.le_refl _)
  have hal : Below w.heap.size w (w.alloc (.cells #[.string x, .string y] 9)) := (Below.refl _ _).alloc (Nat.le_refl _) _
  have hres : Value.string (nodeB [x, y]) = strV (dig (1 :: jn (lAt [x, y]) 2)) := rfl
  rw [hres]
  refine (rnode_any (some ⟨w.heap.size, 0, none⟩) 2 2 (lAt [x, y]) _ (rs_two w x y).strs (by omega) (by omega)).mono ?_
  rintro e w' ⟨rfl, hb⟩
  exact ⟨rfl, hal.trans (hb.mono hal.size)⟩
theorem leaf_sec (x : UInt8) (w : World) : Calls Tryd.prog 32 #[.string (secOf x)] w fun e w' => e = .returned (.string (leafB (secOf x))) ∧ Below w.heap.size w w' := by
  have hz := secOf_size x
  generalize secOf x = s at *
  exact rleaf_any s w (by omega)
theorem new_two (w : World) (hK : Kon w) : ∃ l0 l1 : ByteArray, l0 = leafB (secOf 0) ∧ l1 = leafB (secOf 1) ∧
    Calls Tryd.prog 11 #[geo 2 2 0 1, .slice (some ⟨w.heap.size, 0, none⟩) 2 2] (w.alloc (.cells #[.string (secOf 0), .string (secOf 1)] 9)) fun e w' => ∃ p v, e = .returned (.tuple #[.pointer (some ⟨p, 0, none⟩), .int .i64 0]) ∧ PT w' w.heap.size p v 2 2 0 1 [l0, l1, nodeB [l0, l1]] ∧ Below w.heap.size w w' := by
  refine ⟨_, _, rfl, rfl, ?_⟩
  have hal : Below w.heap.size w (w.alloc (.cells #[.string (secOf 0), .string (secOf 1)] 9)) := (Below.refl _ _).alloc (Nat.le_refl _) _
  refine (tnew_any 2 2 0 1 _ 2 2 [secOf 0, secOf 1] _ (rs_two w _ _) (hK.below hal)).mono ?_
  rintro e w' h
  rw [kn_err, kn_tree] at h
  rcases h with ⟨_, p, v, rfl, hT, hb⟩ | ⟨h, _⟩
  · exact ⟨p, v, rfl, ⟨hT.blk, Nat.le_trans hal.size hT.low, towns_low hT.own hal.size, hT.ne⟩, hal.trans (hb.mono hal.size)⟩
  · exact absurd rfl h

set_option maxRecDepth 20000 in
set_option maxHeartbeats 1000000 in
theorem tknown_any (w : World) (hK : Kon w) :
    Calls Tryd.prog 10 #[] w fun e w' => e = .returned (.bool true) ∧ Below w.heap.size w w' := by
  have h1 := fun w => rzero_any w
  have h2 := fun w => rfill_any 1 1 rfl w
  have h3 := fun w => leaf_sec 0 w
  have h4 := fun w => leaf_sec 1 w
  have h5 := fun w hK => new_two w hK
  have s0 := leafB_size (secOf 0)
  have s1 := leafB_size (secOf 1)
  have hlb : ∃ l0 l1 : ByteArray, l0 = leafB (secOf 0) ∧ l1 = leafB (secOf 1) := ⟨_, _, rfl, rfl⟩
  obtain ⟨l0, l1, hl0, hl1⟩ := hlb
  rw [← hl0] at s0
  rw [← hl1] at s1
  simp only [← hl0] at h3
  simp only [← hl1] at h4
  have h6 : ∀ (w : World), Kon w → Calls Tryd.prog 11 #[geo 2 2 0 1, .slice (some ⟨w.heap.size, 0, none⟩) 2 2] (w.alloc (.cells #[.string (secOf 0), .string (secOf 1)] 9)) fun e w' => ∃ p v, e = .returned (.tuple #[.pointer (some ⟨p, 0, none⟩), .int .i64 0]) ∧ PT w' w.heap.size p v 2 2 0 1 [l0, l1, nodeB [l0, l1]] ∧ Below w.heap.size w w' := fun w hK => by
    obtain ⟨a, b, ha, hb, h⟩ := h5 w hK
    rw [← hl0] at ha
    rw [← hl1] at hb
    subst ha hb
    exact h
  have h7 := fun w => node_two l0 l1 s0 s1 w
  clear h5 hl0 hl1 s0 s1
  generalize secOf 0 = z0 at *
  generalize secOf 1 = z1 at *
  obtain ⟨nd, hnd⟩ : ∃ nd, nd = nodeB [l0, l1] := ⟨_, rfl⟩
  simp only [← hnd] at h6 h7
  clear hnd
  have hlen : ([l0, l1, nd] : List ByteArray).length = nodes 2 2 0 1 := by rw [kn_nodes]; rfl
  have hds := diff_same 2 2 0 1 [l0, l1, nd]
  unfold geo at h6
  have H1 := Lib.hid h1
  have H2 := Lib.hid h2
  have H3 := Lib.hid h3
  have H4 := Lib.hid h4
  have H6 := Lib.hid h6
  have H7 := Lib.hid h7
  have HK := Lib.hid hK
  have HLEN := Lib.hid (And.intro hlen hds)
  clear h1 h2 h3 h4 h6 h7 hK hlen hds
  have b0 : (w.alloc (.cells #[.int .i64 2, .int .i64 2, .int .i64 0, .int .i64 1] 23)).heap[w.heap.size]? = some (.cells #[.int .i64 2, .int .i64 2, .int .i64 0, .int .i64 1] 23 (0, 0)) := heap_alloc_new w _
  have hb0 : Below w.heap.size w (w.alloc (.cells #[.int .i64 2, .int .i64 2, .int .i64 0, .int .i64 1] 23)) := (Below.refl _ _).alloc (Nat.le_refl _) _
  have hl0 := lt_of_block b0
  go_enter Tryd.func10, Tryd.ntmps10
  go_upto_region 2 with fail
  obtain ⟨W0, hW0⟩ : ∃ W, W = w.alloc (.cells #[.int .i64 2, .int .i64 2, .int .i64 0, .int .i64 1] 23) := ⟨_, rfl⟩
  rw [← hW0] at b0 hb0 hl0 ⊢
  have HB0 := Lib.hid hb0
  have HBX := Lib.hid (And.intro b0 hl0)
  clear hW0 b0 hb0 hl0
  go_wp2_with fail
  refine (H1.out _).mono ?_
  rintro e w1 ⟨rfl, hb⟩
  have HB1 := Lib.hid hb
  clear hb
  go_wp2_with fail
  refine (H3.out _).mono ?_
  rintro e w2 ⟨rfl, hb⟩
  have HB2 := Lib.hid (HB1.out.trans (hb.mono HB1.out.size))
  clear hb HB1 H3
  go_wp2_with fail
  refine (H2.out _).mono ?_
  rintro e w3 ⟨rfl, hb⟩
  have HB3 := Lib.hid (HB2.out.trans (hb.mono HB2.out.size))
  clear hb HB2
  go_wp2_with fail
  refine (H4.out _).mono ?_
  rintro e w4 ⟨rfl, hb⟩
  have HB4 := Lib.hid (HB3.out.trans (hb.mono HB3.out.size))
  clear hb HB3 H4
  go_upto_region 4 with fail
  have HBA := Lib.hid (HB0.out.trans (HB4.out.mono HB0.out.size))
  have hkp : ∀ w', Below w4.drew.heap.size w4.drew w' → (w'.cell? ⟨w.heap.size, 0, none⟩ = some (.int .i64 2) ∧ w'.cell? ⟨w.heap.size, 1, none⟩ = some (.int .i64 2) ∧ w'.cell? ⟨w.heap.size, 2, none⟩ = some (.int .i64 0) ∧ w'.cell? ⟨w.heap.size, 3, none⟩ = some (.int .i64 1)) := fun w' hb => by
    have hb1 : Below w4.heap.size w4 w' := (Below.refl _ w4).drew.trans hb
    have hx : w'.heap[w.heap.size]? = some (.cells #[.int .i64 2, .int .i64 2, .int .i64 0, .int .i64 1] 23 (0, 0)) := by
      rw [hb1.block _ (Nat.lt_of_lt_of_le HBX.out.2 HB4.out.size), HB4.out.block _ HBX.out.2]
      exact HBX.out.1
    refine ⟨?_, ?_, ?_, ?_⟩ <;> (rw [cell_of_blk hx]; rfl)
  have HKP := Lib.hid hkp
  clear hkp
  have hG : Below w4.drew.heap.size w4.drew w4.drew := Below.refl _ _
  go_region_held3 (fun w' => (w'.cell? ⟨w.heap.size, 0, none⟩ = some (.int .i64 2) ∧ w'.cell? ⟨w.heap.size, 1, none⟩ = some (.int .i64 2) ∧ w'.cell? ⟨w.heap.size, 2, none⟩ = some (.int .i64 0) ∧ w'.cell? ⟨w.heap.size, 3, none⟩ = some (.int .i64 1)))
    (first | exact HKP.out _ hG | exact HKP.out _ (hG.alloc hG.size _))
    (first
    | (go_at_call 33; with_reducible refine (H1.out _).mono ?_; rintro r wz ⟨rfl, hb⟩; replace hG := hG.trans (hb.mono hG.size); clear hb)
    | (go_at_call 34; with_reducible refine (H2.out _).mono ?_; rintro r wf ⟨rfl, hb⟩; replace hG := hG.trans (hb.mono hG.size); clear hb)
    | (go_at_call 11; with_reducible refine (H6.out _ (HK.out.below (HBA.out.drew.trans (hG.mono HBA.out.drew.size)))).mono ?_; rintro r wn ⟨p, v, rfl, hT, hb⟩; replace hG := hG.trans (hb.mono hG.size); have HT := Lib.hid hT; have HSZ := Lib.hid hb.size; clear hb hT))
  rename_i hHeld
  clear hHeld HKP
  have HBN := Lib.hid (HBA.out.drew.trans (hG.mono HBA.out.drew.size))
  clear hG HBA
  go_wp2_with fail
  refine (tcopy_any _ p v 2 2 0 1 [l0, l1, nd] _ HT.out (by simp) (by simp)).mono ?_
  rintro e w5 ⟨q, v', rfl, hT', hb⟩
  have HU := Lib.hid (show PT w5 wf.heap.size q v' 2 2 0 1 [l0, l1, nd] from ⟨hT'.blk, Nat.le_trans HSZ.out hT'.low, towns_low hT'.own HSZ.out, hT'.ne⟩)
  have HT5 := Lib.hid (HT.out.below hb)
  have HB5 := Lib.hid (HBN.out.trans (hb.mono HBN.out.size))
  clear hb hT' HSZ HT HBN
  go_wp2_with fail
  have hdf := tdiff_ok _ p q v v' 2 2 0 1 0 1 [l0, l1, nd] [l0, l1, nd] w5 HT5.out HU.out kn_ok HLEN.out.1 HLEN.out.1
  rw [HLEN.out.2] at hdf
  refine hdf.mono ?_
  clear hdf
  rintro e w6 ⟨sv, rfl, how, hb⟩
  obtain ⟨a6, c6, rfl, _, _, _⟩ := owns_shape1 how
  clear how
  have HT6 := Lib.hid (HT5.out.below hb)
  have HB6 := Lib.hid (HB5.out.trans (hb.mono HB5.out.size))
  clear hb HU HT5 HB5
  have hrt : Calls Tryd.prog 31 #[.pointer (some ⟨p, 0, none⟩)] w6 fun e w' => e = .returned (.string nd) ∧ Below w6.heap.size w6 w' := troot_any _ p v 2 2 0 1 [l0, l1, nd] w6 HT6.out (by simp) HLEN.out.1 (by simp)
  have HRT := Lib.hid hrt
  clear hrt
  go_wp2_with fail
  refine HRT.out.mono ?_
  rintro e w7 ⟨rfl, hb⟩
  have HT7 := Lib.hid (HT6.out.below hb)
  have HB7 := Lib.hid (HB6.out.trans (hb.mono HB6.out.size))
  clear hb HRT HT6 HB6
  go_wp2_with fail
  refine (H7.out _).mono ?_
  rintro e w8 ⟨rfl, hb⟩
  have HT8 := Lib.hid (HT7.out.below hb)
  have HB8 := Lib.hid (HB7.out.trans (hb.mono HB7.out.size))
  clear hb HT7 HB7
  go_wp2_with fail
  refine (tall_any _ p v 2 2 0 1 [l0, l1, nd] w8 HT8.out (by simp) (by simp)).mono ?_
  rintro e w9 ⟨sv, rfl, how, hb⟩
  obtain ⟨a9, c9, rfl, _, _, _⟩ := owns_shape1 how
  clear how
  have HB9 := Lib.hid (HB8.out.trans (hb.mono HB8.out.size))
  clear hb HT8 HB8
  go_wp2
  go_ret
  exact ⟨rfl, HB9.out⟩
end Go.Proofs.YtlockgfokfhokaaDoor
/-
  The walk of TreeNil.
-/
namespace Go.Proofs.YtlockgfokfhokaaDoor
open Go.RowKit
set_option linter.unusedVariables false
set_option linter.unusedSimpArgs false

set_option maxRecDepth 20000 in
set_option maxHeartbeats 1000000 in
theorem treenil_walk (node : Int) (s : ByteArray) (w : World) (hK : Kon w) :
    Calls Tryd.prog 8 #[.int .i64 node, .string s] w fun e w' => e = .returned (.bool true) ∧ Below w.heap.size w w' := by
  have h1 := fun w => nil_digest node w
  have h2 := fun w => tdiff_nil (.pointer none) (.inl rfl) w
  have h3 := fun w => nil_geom w
  have h4 := fun w => nil_root w
  have h5 := fun w => nil_all w
  have h6 := fun w => nil_set node s w
  have h7 := fun w => nil_bad w
  have h8 := fun w => nil_copy w
  have h9 := fun w hK => tknown_any w hK
  unfold geo at h3
  have H1 := Lib.hid h1
  have H2 := Lib.hid h2
  have H3 := Lib.hid h3
  have H4 := Lib.hid h4
  have H5 := Lib.hid h5
  have H6 := Lib.hid h6
  have H7 := Lib.hid h7
  have H8 := Lib.hid h8
  have H9 := Lib.hid h9
  have HK := Lib.hid hK
  clear h1 h2 h3 h4 h5 h6 h7 h8 h9 hK
  go_enter Tryd.func8, Tryd.ntmps8
  go_wp2_with fail
  refine (H1.out _).mono ?_
  rintro e w1 ⟨rfl, hb⟩
  have HB1 := Lib.hid hb
  clear hb
  go_wp2_with fail
  refine (H2.out _).mono ?_
  rintro e w2 ⟨rfl, hb⟩
  have HB2 := Lib.hid (HB1.out.trans (hb.mono HB1.out.size))
  clear hb HB1
  go_wp2_with fail
  refine (H3.out _).mono ?_
  rintro e w3 ⟨rfl, hb⟩
  have HB3 := Lib.hid (HB2.out.trans (hb.mono HB2.out.size))
  clear hb HB2
  go_wp2_with fail
  refine (H4.out _).mono ?_
  rintro e w4 ⟨rfl, hb⟩
  have HB4 := Lib.hid (HB3.out.trans (hb.mono HB3.out.size))
  clear hb HB3
  go_wp2_with fail
  refine (H5.out _).mono ?_
  rintro e w5 ⟨rfl, hb⟩
  have HB5 := Lib.hid (HB4.out.trans (hb.mono HB4.out.size))
  clear hb HB4
  go_wp2_with fail
  refine (H6.out _).mono ?_
  rintro e w6 ⟨rfl, hb⟩
  have HB6 := Lib.hid (HB5.out.trans (hb.mono HB5.out.size))
  clear hb HB5
  go_wp2_with fail
  refine (H7.out _).mono ?_
  rintro e w7 ⟨rfl, hb⟩
  have HB7 := Lib.hid (HB6.out.trans (hb.mono HB6.out.size))
  clear hb HB6
  go_wp2_with fail
  refine (H8.out _).mono ?_
  rintro e w8 ⟨rfl, hb⟩
  have HB8 := Lib.hid (HB7.out.trans (hb.mono HB7.out.size))
  clear hb HB7
  go_wp2_with fail
  refine (H9.out _ (HK.out.below HB8.out)).mono ?_
  rintro e w9 ⟨rfl, hb⟩
  have HB9 := Lib.hid (HB8.out.trans (hb.mono HB8.out.size))
  clear hb HB8
  go_wp2
  go_ret
  exact ⟨rfl, HB9.out⟩
end Go.Proofs.YtlockgfokfhokaaDoor
/-
  The package-level table of sha, for tree: what the row's condition gives the walks; the world of the witness; the card's last step.
-/
namespace Go.Proofs.YtlockgfokfhokaaDoor
open Go.ChangeShapes Go.WideShapes Go.ChangeAt Go.RowKit
set_option linter.unusedVariables false

def laidR : List (String × DataW Unit) := [("pentimento/sha.rounds", Rows.laid_pentimento_sha_rounds)]
theorem gR : Tryd.prog.globalNamed "pentimento/sha.rounds" = some 0 := by kernel_rfl
theorem tR : (Tryd.prog.globals[0]?).map (·.type) = some 96 := by kernel_rfl

/-- The door's own heap meets the condition. -/
theorem door_met (os : Os) (args : Array Value) : laidMetH Tryd.prog laidR ((World.doorLaid Tryd.prog 400 os).forCall (fun _ _ => 0) ⟨#[], args, []⟩).memory :=
  laidMetH_of_parts3 (fuel := 8) (laidMet_of_run' 8 (by kernel_rfl) (by kernel_rfl)) (by kernel_rfl) (by kernel_rfl)

theorem rounds_list : (Rows.laid_pentimento_sha_rounds : DataW Unit) = .agg (kon.map fun (n : Nat) => .lit (.int .u32 (n : Int))) := by rfl

theorem of_laid {W : World} (h : laidMetH Tryd.prog laidR W) : Kon W := by
  rw [MakeChecks.laidMetH_plain _ _ _ (by kernel_rfl)] at h
  obtain ⟨ps, ⟨g0, t0, cs0, f0, p0, q0, hg0, ht0, hv0, hd0, _, _⟩, _, _⟩ := h
  obtain rfl := Option.some.inj (gR.symm.trans hg0)
  obtain rfl := Option.some.inj (tR.symm.trans ht0)
  obtain ⟨xs, m1, rfl, hx1, hlen, hn3, hel⟩ := DataW.trod_array Tryd.underlying96 hd0
  have c3 : Tryd.prog.cellsOf 86 = 1 := by kernel_rfl
  intro j hj
  have h0 := hel j hj
  rw [c3, Nat.mul_one] at h0
  have hjx : j < xs.length := by omega
  rw [List.getElem?_eq_getElem hjx] at h0
  obtain ⟨k, e1, e2, _⟩ := DataW.trod_int Tryd.underlying86 h0
  have hx2 := congrArg Prod.fst hx1
  simp only [rounds_list, DataW.agg.injEq] at hx2
  have hjk : j < kon.length := hj
  have hx3 := congrArg (fun l => l[j]?) hx2
  simp only [List.getElem?_map, List.getElem?_eq_getElem hjx, List.getElem?_eq_getElem hjk, Option.map_some, e2, Option.some.injEq, DataW.lit.injEq, Lit.int.injEq, true_and] at hx3
  have := World.var?_cell hg0 hv0 j
  rw [this]
  have e3 : cs0[j]? = some (.int .u32 k) := by
    have e4 := congrArg (fun l => l[0]?) e1
    simpa using e4
  rw [e3, ← hx3]
  simp [konAt, List.getD, List.getElem?_eq_getElem hjk]
end Go.Proofs.YtlockgfokfhokaaDoor

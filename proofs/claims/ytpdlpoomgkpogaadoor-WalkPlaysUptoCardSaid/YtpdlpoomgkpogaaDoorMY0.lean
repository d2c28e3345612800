/-
  Texts put together: Y0.
-/
import Derived.Test.YtpdlpoomgkpogaaDoorMX0
import Derived.Test.YtpdlpoomgkpogaaDoorMU
/-
  What Set makes of a tree; trees of sectors are told by their leaves and by their children.
-/
namespace Go.Proofs.YtpdlpoomgkpogaaDoor
open Go.RowKit
set_option linter.unusedVariables false
set_option linter.unusedSimpArgs false

/-- The nodes ks, one after another, get the digests of their children. -/
def upL (N F C U : Int) (L : List ByteArray) : List Int → List ByteArray
  | [] => L
  | k :: ks => upL N F C U (L.set k.toNat (nodeB (kids L (children N F C U k)))) ks
theorem upL_snoc (N F C U : Int) : ∀ (ks : List Int) (L : List ByteArray) (k : Int), upL N F C U L (ks ++ [k]) = (upL N F C U L ks).set k.toNat (nodeB (kids (upL N F C U L ks) (children N F C U k)))
  | [], L, k => rfl
  | x :: ks, L, k => upL_snoc N F C U ks _ k
theorem upL_length (N F C U : Int) : ∀ (ks : List Int) (L : List ByteArray), (upL N F C U L ks).length = L.length
  | [], L => rfl
  | x :: ks, L => by rw [upL, upL_length]; simp
def setErr (N F C U leaf : Int) (s : ByteArray) : Int := if path N F C U leaf = [] then 3 else if s.size ≠ 64 then 4 else 0
def setL (N F C U : Int) (L : List ByteArray) (leaf : Int) (s : ByteArray) : List ByteArray :=
  if setErr N F C U leaf s ≠ 0 then L else upL N F C U (L.set leaf.toNat (leafB s)) ((path N F C U leaf).drop 1)

theorem lAt_set {L : List ByteArray} {j i : Nat} {s : ByteArray} (hj : j < L.length) : lAt (L.set j s) i = if i = j then s else lAt L i := by
  unfold lAt
  rw [List.getElem?_set]
  by_cases h : j = i
  · subst h; simp [hj]
  · rw [if_neg h, if_neg fun e => h (Eq.symm e)]
theorem kids_congr {L M : List ByteArray} {ks : List Int} (h : ∀ c ∈ ks, lAt L c.toNat = lAt M c.toNat) : kids L ks = kids M ks := by
  unfold kids
  exact List.map_congr_left h

theorem path_mem {N F C U leaf : Int} {k : Int} (h : k ∈ path N F C U leaf) : ∃ x : Nat, k = x ∧ x < nodes N F C U := by
  unfold path at h
  split at h
  · rename_i hh
    obtain ⟨hok, h0, h1⟩ := hh
    obtain ⟨n, f, rfl, rfl, ho⟩ := ok_of hok
    simp only [Int.toNat_natCast, List.mem_map, List.mem_range] at h
    obtain ⟨j, hj, rfl⟩ := h
    have hp := pth_lt ho (x := leaf.toNat) (by omega) j
    have hm := @S_mono n f (j + 1) (H n f + 1) (by omega)
    refine ⟨_, rfl, ?_⟩
    unfold nodes
    rw [if_pos hok]
    simp only [Int.toNat_natCast]
    omega
  · simp at h
theorem path_ok {N F C U leaf : Int} (h : path N F C U leaf ≠ []) : okG N F C U ∧ 0 ≤ leaf ∧ leaf < N := by
  unfold path at h
  split at h
  · assumption
  · exact absurd rfl h
theorem path_none {N F C U leaf : Int} (h : path N F C U leaf = []) : ¬ (okG N F C U ∧ 0 ≤ leaf ∧ leaf < N) := by
  intro hh
  unfold path at h
  rw [if_pos hh] at h
  simp at h
theorem path_len (N F C U leaf : Int) : (path N F C U leaf).length ≤ 8 := by
  unfold path
  split
  · rename_i hh
    obtain ⟨n, f, rfl, rfl, ho⟩ := ok_of hh.1
    have := (H_spec ho).2.2
    simp only [Int.toNat_natCast, List.length_map, List.length_range]
    omega
  · simp

/-- Numbers that rise, all of them digests that there are: each of ks gets in the end the digest of its children as they are in the end. -/
theorem upL_at {N F C U : Int} : ∀ (ks : List Int) (L : List ByteArray), ks.Pairwise (· < ·) → (∀ k ∈ ks, ∃ x : Nat, k = x ∧ x < L.length) →
    (∀ j : Nat, (j : Int) ∉ ks → lAt (upL N F C U L ks) j = lAt L j) ∧ (∀ j : Nat, (j : Int) ∈ ks → lAt (upL N F C U L ks) j = nodeB (kids (upL N F C U L ks) (children N F C U j)))
  | [], L, _, _ => ⟨fun j _ => rfl, fun j h => by simp at h⟩
  | k :: ks, L, hp, hk => by
    obtain ⟨x, rfl, hx⟩ := hk _ (List.mem_cons_self ..)
    obtain ⟨hp1, hp2⟩ := List.pairwise_cons.1 hp
    obtain ⟨ih1, ih2⟩ := upL_at ks (L.set x (nodeB (kids L (children N F C U x)))) hp2 (fun k' h' => by
      obtain ⟨y, e, hy⟩ := hk _ (List.mem_cons_of_mem _ h')
      exact ⟨y, e, by rw [List.length_set]; exact hy⟩)
    have hnot : (x : Int) ∉ ks := fun h => by have := hp1 _ h; omega
    have e : upL N F C U L ((x : Int) :: ks) = upL N F C U (L.set x (nodeB (kids L (children N F C U x)))) ks := rfl
    rw [e]
    refine ⟨fun j hj => ?_, fun j hj => ?_⟩
    · rw [List.mem_cons, not_or] at hj
      rw [ih1 j hj.2, lAt_set hx, if_neg (by omega)]
    · rcases List.mem_cons.1 hj with hj | hj
      · obtain rfl : j = x := by omega
        rw [ih1 j hnot, lAt_set hx, if_pos rfl]
        congr 1
        refine kids_congr fun c hc => ?_
        obtain ⟨y, rfl, hy⟩ := children_mem hc
        have hy2 : (y : Int) ∉ ks := fun h => by have := hp1 _ h; omega
        rw [Int.toNat_natCast, ih1 y hy2, lAt_set hx, if_neg (by omega)]
      · exact ih2 j hj

theorem path_rises {N F C U leaf : Int} : (path N F C U leaf).Pairwise (· < ·) := by
  unfold path
  split
  · rename_i hh
    obtain ⟨hok, h0, h1⟩ := hh
    obtain ⟨n, f, rfl, rfl, ho⟩ := ok_of hok
    simp only [Int.toNat_natCast]
    rw [List.pairwise_map]
    refine List.Pairwise.imp (R := (· < ·)) ?_ List.pairwise_lt_range
    intro a b hab
    have ha := pth_lt ho (x := leaf.toNat) (by omega) a
    have hb := pth_lt ho (x := leaf.toNat) (by omega) b
    have hm := @S_mono n f (a + 1) b (by omega)
    omega
  · exact List.Pairwise.nil

/-- A list of digests is the tree of sectors Ss. -/
structure TOf (N F C U : Int) (Ss L : List ByteArray) : Prop where
  ok : okG N F C U
  sl : (Ss.length : Int) = N
  len : L.length = nodes N F C U
  leaf : ∀ j, j < Ss.length → lAt L j = leafB (lAt Ss j)
  node : ∀ k, Ss.length ≤ k → k < nodes N F C U → lAt L k = nodeB (kids L (children N F C U k))
theorem growL_at {N F C U : Int} {base : List ByteArray} : ∀ i, (∀ j, j < base.length → lAt (growL N F C U base i) j = lAt base j) ∧ (∀ j, base.length ≤ j → j < base.length + i → lAt (growL N F C U base i) j = nodeB (kids (growL N F C U base i) (children N F C U j)))
  | 0 => ⟨fun j _ => rfl, fun j h1 h2 => by omega⟩
  | i + 1 => by
    obtain ⟨ih1, ih2⟩ := growL_at (N := N) (F := F) (C := C) (U := U) (base := base) i
    have hl := growL_length N F C U base i
    have hk : ∀ j : Nat, j ≤ base.length + i → kids (growL N F C U base (i + 1)) (children N F C U j) = kids (growL N F C U base i) (children N F C U j) := fun j hj =>
      kids_app fun c hc => by obtain ⟨y, e, hy⟩ := children_mem hc; exact ⟨y, e, by omega⟩
    refine ⟨fun j hj => ?_, fun j h1 h2 => ?_⟩
    · rw [← ih1 j hj]
      exact lAt_append_lt (by omega)
    · rw [hk j (by omega)]
      rcases Nat.lt_or_ge j (base.length + i) with h | h
      · rw [← ih2 j h1 h]
        exact lAt_append_lt (by omega)
      · obtain rfl : j = base.length + i := by omega
        have e := @lAt_append_eq (growL N F C U base i) (nodeB (kids (growL N F C U base i) (children N F C U ((base.length + i : Nat) : Int))))
        rw [hl] at e
        exact e
theorem map_at (Ss : List ByteArray) {j : Nat} (h : j < Ss.length) : lAt (Ss.map leafB) j = leafB (lAt Ss j) := by
  unfold lAt
  rw [List.getElem?_map, List.getElem?_eq_getElem h]
  rfl
theorem tof_tree {N F C U : Int} {Ss : List ByteArray} (hok : okG N F C U) (hl : (Ss.length : Int) = N) : TOf N F C U Ss (treeL N F C U Ss) := by
  have hn := nodes_pos hok
  obtain ⟨g1, g2⟩ := growL_at (N := N) (F := F) (C := C) (U := U) (base := Ss.map leafB) (nodes N F C U - Ss.length)
  rw [List.length_map] at g1 g2
  refine ⟨hok, hl, ?_, fun j hj => ?_, fun k h1 h2 => g2 k h1 (by omega)⟩
  · unfold treeL
    rw [growL_length, List.length_map]
    omega
  · exact (g1 j hj).trans (map_at Ss hj)
theorem TOf.uniq {N F C U : Int} {Ss L M : List ByteArray} (h : TOf N F C U Ss L) (h' : TOf N F C U Ss M) : L = M := by
  have key : ∀ k : Nat, k < nodes N F C U → lAt L k = lAt M k := by
    intro k
    induction k using Nat.strongRecOn with
    | _ k ih =>
      intro hk
      rcases Nat.lt_or_ge k Ss.length with h1 | h1
      · rw [h.leaf k h1, h'.leaf k h1]
      · rw [h.node k h1 hk, h'.node k h1 hk]
        congr 1
        refine kids_congr fun c hc => ?_
        obtain ⟨y, rfl, hy⟩ := children_mem hc
        exact ih y hy (by omega)
  exact slist_ext (by rw [h.len, h'.len]) fun i hi => key i (by rw [← h.len]; exact hi)

theorem setErr_ok {N F C U leaf : Int} {s : ByteArray} (h : setErr N F C U leaf s = 0) : path N F C U leaf ≠ [] ∧ s.size = 64 := by
  unfold setErr at h
  split at h
  · exact absurd h (by omega)
  · split at h
    · exact absurd h (by omega)
    · rename_i h1 h2; exact ⟨h1, by simpa using h2⟩
theorem setL_length (N F C U : Int) (L : List ByteArray) (leaf : Int) (s : ByteArray) : (setL N F C U L leaf s).length = L.length := by
  unfold setL
  split
  · rfl
  · rw [upL_length, List.length_set]
/-- What holds of all digests holds behind Set. -/
theorem upL_size {N F C U : Int} {K : Nat} (hK : 32 ≤ K) : ∀ (ks : List Int) (L : List ByteArray), (∀ k ∈ ks, ∃ x : Nat, k = x ∧ x < L.length) → (∀ i, i < L.length → (lAt L i).size ≤ K) → ∀ i, i < (upL N F C U L ks).length → (lAt (upL N F C U L ks) i).size ≤ K
  | [], L, _, h => h
  | k :: ks, L, hk, h => by
    obtain ⟨x, rfl, hx⟩ := hk _ (List.mem_cons_self ..)
    refine upL_size hK ks _ (fun k' h' => ?_) (fun i hi => ?_)
    · obtain ⟨y, e, hy⟩ := hk _ (List.mem_cons_of_mem _ h')
      exact ⟨y, e, by rw [List.length_set]; exact hy⟩
    · rw [List.length_set] at hi
      rw [Int.toNat_natCast, lAt_set hx]
      split
      · rw [nodeB_size]; exact hK
      · exact h i hi
theorem setL_size {N F C U : Int} {K : Nat} (hK : 32 ≤ K) {L : List ByteArray} (hl : L.length = nodes N F C U) (leaf : Int) (s : ByteArray) (h : ∀ i, i < L.length → (lAt L i).size ≤ K) : ∀ i, i < (setL N F C U L leaf s).length → (lAt (setL N F C U L leaf s) i).size ≤ K := by
  unfold setL
  split
  · exact h
  · rename_i he
    have he' : setErr N F C U leaf s = 0 := by simpa using he
    obtain ⟨hp, hs⟩ := setErr_ok he'
    obtain ⟨hok, h0, h1⟩ := path_ok hp
    have hn := nodes_pos hok
    refine upL_size hK _ _ (fun k hk => ?_) (fun i hi => ?_)
    · obtain ⟨x, e, hx⟩ := path_mem (List.mem_of_mem_drop hk)
      exact ⟨x, e, by rw [List.length_set]; omega⟩
    · rw [List.length_set] at hi
      rw [lAt_set (by omega)]
      split
      · rw [leafB_size]; exact hK
      · exact h i hi

/-- The tree of sectors, of which one is set, is the tree of the sectors that there are then. -/
theorem TOf.set {N F C U : Int} {Ss L : List ByteArray} (h : TOf N F C U Ss L) {leaf : Int} {s : ByteArray} (he : setErr N F C U leaf s = 0) : 0 ≤ leaf ∧ leaf < N ∧ TOf N F C U (Ss.set leaf.toNat s) (setL N F C U L leaf s) := by
  obtain ⟨hp, hs⟩ := setErr_ok he
  obtain ⟨hok, h0, h1⟩ := path_ok hp
  have hn := nodes_pos hok
  have hlen := h.len
  have hsl := h.sl
  obtain ⟨n, f, rfl, rfl, ho⟩ := ok_of hok
  obtain ⟨x, rfl⟩ : ∃ x : Nat, leaf = x := ⟨leaf.toNat, by omega⟩
  have hx : x < n := by omega
  have hin : okG (n : Int) (f : Int) C U ∧ 0 ≤ (x : Int) ∧ (x : Int) < (n : Int) := ⟨hok, h0, h1⟩
  have hpe : path n f C U x = (List.range (H n f + 1)).map (fun k => (pth n f x k : Int)) := by unfold path; rw [if_pos hin]; rfl
  have hpd : (path n f C U x).drop 1 = (List.range (H n f)).map (fun k => (pth n f x (k + 1) : Int)) := by
    rw [hpe, List.range_succ_eq_map]
    simp [List.map_map, Function.comp_def]
  have hne : setL n f C U L x s = upL n f C U (L.set x (leafB s)) ((path n f C U x).drop 1) := by unfold setL; rw [if_neg (fun hh => hh he)]; rfl
  have hnd : nodes n f C U = S n f (H n f + 1) := if_pos hok
  have hp0 : ∀ k, 1 ≤ k → n ≤ pth n f x k := fun k hk => by
    have h3 := (pth_lt ho hx k).1
    have hm := @S_mono n f 1 k hk
    have : S n f 1 = 0 + n := rfl
    omega
  obtain ⟨u1, u2⟩ := upL_at (N := n) (F := f) (C := C) (U := U) ((path n f C U x).drop 1) (L.set x (leafB s)) (List.Pairwise.sublist (List.drop_sublist 1 _) path_rises) (fun k hk => by
    obtain ⟨y, e, hy⟩ := path_mem (List.mem_of_mem_drop hk)
    exact ⟨y, e, by rw [List.length_set]; omega⟩)
  rw [hne]
  rw [Int.toNat_natCast]
  have hin3 : ∀ j : Nat, (j : Int) ∈ (path n f C U x).drop 1 ↔ ∃ k, k < H n f ∧ pth n f x (k + 1) = j := fun j => by
    rw [hpd]
    simp only [List.mem_map, List.mem_range]
    constructor
    · rintro ⟨k, hk, e⟩; exact ⟨k, hk, by omega⟩
    · rintro ⟨k, hk, e⟩; exact ⟨k, hk, by omega⟩
  have hxp : ∀ j : Nat, j < n → (j : Int) ∉ (path n f C U x).drop 1 := fun j hj hh => by
    obtain ⟨k, hk, e⟩ := (hin3 j).1 hh
    have := hp0 (k + 1) (by omega)
    omega
  refine ⟨h0, h1, hok, by rw [List.length_set]; exact hsl, by rw [upL_length, List.length_set]; exact hlen, fun j hj => ?_, fun k hk1 hk2 => ?_⟩
  · rw [List.length_set] at hj
    rw [u1 j (hxp j (by omega)), lAt_set (by omega), lAt_set (by omega)]
    split
    · rfl
    · exact h.leaf j hj
  · rw [List.length_set] at hk1
    by_cases hm : (k : Int) ∈ (path n f C U x).drop 1
    · exact u2 k hm
    · rw [u1 k hm, lAt_set (by omega), if_neg (by omega), h.node k hk1 hk2]
      congr 1
      refine kids_congr fun c hc => ?_
      obtain ⟨i, hi, hic⟩ := List.getElem_of_mem hc
      have hpar := parent_child (node := c) hk2 hi (by rw [List.getElem?_eq_getElem hi]; exact hic)
      obtain ⟨y, rfl, hy⟩ := children_mem hc
      rw [Int.toNat_natCast]
      have hyp : ∀ i, i ≤ H n f → pth n f x i ≠ y := fun i hi e => by
        have hl := pth_lt ho hx i
        have hiy : okG (n : Int) (f : Int) C U ∧ 0 ≤ (y : Int) ∧ (y : Int) < (S n f (H n f + 1) : Nat) := ⟨hok, by omega, by omega⟩
        have e3 : parent n f C U (y : Int) = par n f y := if_pos hiy
        rw [e3] at hpar
        rcases Nat.lt_or_ge i (H n f) with hlt | hge
        · have hpa := par_at (n := n) (f := f) (x := y) hlt (by omega) (by omega)
          rw [hpa] at hpar
          apply hm
          refine (hin3 k).2 ⟨i, hlt, ?_⟩
          have e4 : pth n f x (i + 1) = S n f (i + 1) + (pth n f x i - S n f i) / f := rfl
          rw [e4, e]
          omega
        · obtain rfl : i = H n f := by omega
          have hpt := par_top (n := n) (f := f) (x := y) (by omega) (by omega)
          rw [hpt] at hpar
          omega
      have hy1 : (y : Int) ∉ (path n f C U x).drop 1 := fun hh => by
        obtain ⟨i, hi, e⟩ := (hin3 y).1 hh
        exact hyp (i + 1) (by omega) e
      have hy2 : y ≠ x := fun e => hyp 0 (Nat.zero_le _) (by rw [e]; rfl)
      rw [u1 y hy1, lAt_set (by omega), if_neg hy2]

/-- No node of a tree of sectors is bad. -/
theorem badUp_none {N F C U : Int} {L : List ByteArray} {n : Nat} : ∀ m, (∀ j, j < m → lAt L (n + j) = nodeB (kids L (children N F C U ((n + j : Nat) : Int)))) → badUp N F C U L n m = []
  | 0, _ => rfl
  | m + 1, h => by
    rw [badUp_same (h m (by omega))]
    exact badUp_none m fun j hj => h j (by omega)
theorem TOf.bad {N F C U : Int} {Ss L : List ByteArray} (h : TOf N F C U Ss L) : badL N F C U L = [] := by
  have hsl := h.sl
  have hlen := h.len
  unfold badL
  refine badUp_none _ fun j hj => ?_
  exact h.node (N.toNat + j) (by omega) (by omega)
end Go.Proofs.YtpdlpoomgkpogaaDoor

/-
  Texts put together: ZB.
-/
import Derived.Test.YtojanhpilhledaaDoorMZA
import Derived.Test.YtojanhpilhledaaDoorMY3
import Derived.Test.YtojanhpilhledaaDoorMW2
/-
  A walk that is answered from a tree of sectors: what it finds, level by level.
-/
namespace Go.Proofs.YtojanhpilhledaaDoor
open Go.RowKit
set_option linter.unusedVariables false
set_option linter.unusedSimpArgs false

/-- Nodes as they are found. -/
def LW (O : List ByteArray) (l : List Int) : FL := l.map fun k => (k, lAt O k.toNat)
theorem LW_app (O : List ByteArray) (a b : List Int) : LW O (a ++ b) = LW O a ++ LW O b := List.map_append
theorem LW_nil {O : List ByteArray} {l : List Int} (h : LW O l = []) : l = [] := List.map_eq_nil_iff.1 h

section
variable {n f : Nat} {C U : Int} {L O : List ByteArray}
theorem flat_df (g : Int → List Int) (hg : ∀ c, df L O c = false → g c = []) (l : List Int) : (l.filter (df L O)).flatMap g = l.flatMap g := by
  induction l with
  | nil => rfl
  | cons c l ih =>
    cases h : df L O c
    · rw [List.filter_cons_of_neg (by simp [h]), List.flatMap_cons, hg c h, ih]; rfl
    · rw [List.filter_cons_of_pos h, List.flatMap_cons, List.flatMap_cons, ih]
theorem nxD_no (c : Int) (h : df L O c = false) : nxD n f C U L O c = [] := if_pos (by simpa [df] using h)
theorem lfD_no (c : Int) (h : df L O c = false) : lfD n L O c = [] := if_neg fun e => e.1 (by simpa [df] using h)
/-- Those that do not differ tell nothing. -/
theorem lvs_df (d : Nat) (a b c : List Int) : (lvs (nxD n f C U L O) (lfD n L O) (d + 1) (a ++ b.filter (df L O) ++ c)).1 = (lvs (nxD n f C U L O) (lfD n L O) (d + 1) (a ++ b ++ c)).1 ∧
    (lvs (nxD n f C U L O) (lfD n L O) (d + 1) (a ++ b.filter (df L O) ++ c)).2 + b.length = (lvs (nxD n f C U L O) (lfD n L O) (d + 1) (a ++ b ++ c)).2 + (b.filter (df L O)).length := by
  have e1 : (a ++ b.filter (df L O) ++ c).flatMap (nxD n f C U L O) = (a ++ b ++ c).flatMap (nxD n f C U L O) := by
    simp only [List.flatMap_append, flat_df _ nxD_no]
  have e2 : (a ++ b.filter (df L O) ++ c).flatMap (lfD n L O) = (a ++ b ++ c).flatMap (lfD n L O) := by
    simp only [List.flatMap_append, flat_df _ lfD_no]
  refine ⟨?_, ?_⟩
  · show _ ++ _ = _ ++ _
    rw [e1, e2]
  · show _ + (lvs _ _ d _).2 + _ = _ + (lvs _ _ d _).2 + _
    rw [e1]
    simp only [List.length_append]
    omega
/-- Rising within a level: at most so many are looked at as the tree has nodes up to there. -/
theorem lv_len {j : Nat} {l : List Int} (hl : ∀ c ∈ l, InLv n f j c) (hp : l.Pairwise (· < ·)) : l.length ≤ S n f (j + 1) - S n f j := by
  have key : ∀ (l : List Int) (a b : Nat), (∀ c ∈ l, ∃ x : Nat, c = x ∧ a ≤ x ∧ x < b) → l.Pairwise (· < ·) → l.length ≤ b - a := by
    intro l
    induction l with
    | nil => intros; exact Nat.zero_le _
    | cons c l ih =>
      intro a b h hp
      obtain ⟨x, rfl, h1, h2⟩ := h c (List.mem_cons_self ..)
      rw [List.pairwise_cons] at hp
      have := ih (x + 1) b (fun y hy => by
        obtain ⟨z, rfl, h3, h4⟩ := h y (List.mem_cons_of_mem _ hy)
        have := hp.1 _ hy
        exact ⟨z, rfl, by omega, h4⟩) hp.2
      rw [List.length_cons]
      omega
  exact key l _ _ hl hp
theorem lvs_nodes (ho : Ok n f) (hok : okG n f C U) : ∀ (j : Nat) (l : List Int), j ≤ H n f → (∀ c ∈ l, InLv n f j c) → l.Pairwise (· < ·) → (lvs (nxD n f C U L O) (lfD n L O) (j + 1) l).2 ≤ S n f (j + 1)
  | 0, l, hj, hl, hp => by
    have := lv_len hl hp
    show l.length + 0 ≤ _
    omega
  | j + 1, l, hj, hl, hp => by
    have ih := lvs_nodes ho hok j (l.flatMap (nxD n f C U L O)) (by omega) (next_lv ho hok hj hl) (by
      rw [nxD_flat]
      exact kids_rise ho hok hj (fun c hc => hl c (List.mem_filter.1 hc).1) (List.Pairwise.sublist List.filter_sublist hp))
    have h1 := lv_len hl hp
    have h2 := @S_mono n f (j + 1) (j + 1 + 1) (by omega)
    show l.length + (lvs _ _ (j + 1) _).2 ≤ _
    omega
theorem diff_nodes (ho : Ok n f) (hok : okG n f C U) : (diffP n f C U L O).2 ≤ nodes n f C U := by
  have hnd : nodes n f C U = S n f (H n f + 1) := if_pos hok
  have hht : height n f C U = H n f := if_pos hok
  have := lvs_nodes (L := L) (O := O) ho hok (H n f) [((nodes n f C U - 1 : Nat) : Int)] (Nat.le_refl _) (fun c hc => by
    obtain rfl := List.mem_singleton.1 hc
    rw [hnd]
    exact root_lv ho) (List.pairwise_singleton ..)
  unfold diffP
  rw [hht]
  omega
end

/-- A walk that was answered from O so far: X are the nodes of level j + 1 that await their children, Y those of level j that were found. -/
structure WJ (n f : Nat) (C U : Int) (L O : List ByteArray) (s : WS) (got : List Int) (j : Nat) (X Y : List Int) : Prop where
  hj : X ≠ [] → j + 1 ≤ H n f
  hj2 : j ≤ H n f
  bot : j = 0 → ∃ W, Y = got ++ W ∧ s.asks = LW O X ∧ s.wants = LW O W
  top : j ≠ 0 → got = [] ∧ s.asks = LW O (X ++ Y) ∧ s.wants = []
  xs : ∀ c ∈ X, InLv n f (j + 1) c ∧ df L O c = true
  ys : ∀ c ∈ Y, InLv n f j c ∧ df L O c = true
  out : (lvs (nxD n f C U L O) (lfD n L O) (j + 1) (Y ++ X.flatMap (nxD n f C U L O))).1 = (diffP n f C U L O).1
  told : s.told + 1 + (lvs (nxD n f C U L O) (lfD n L O) (j + 1) (Y ++ X.flatMap (nxD n f C U L O))).2 = (diffP n f C U L O).2 + Y.length
  steps : s.asked + s.came + s.asks.length + s.wants.length ≤ s.told + 1
  came : s.came = got.length
def WI (n f : Nat) (C U : Int) (L O : List ByteArray) (s : WS) (got : List Int) : Prop := ∃ j X Y, WJ n f C U L O s got j X Y

section
variable {n f : Nat} {C U : Int} {L O : List ByteArray} {s : WS} {got : List Int}
theorem WI.room (ho : Ok n f) (hok : okG n f C U) (h : WI n f C U L O s got) : s.told + 1 ≤ nodes n f C U := by
  obtain ⟨j, X, Y, h⟩ := h
  have h1 := diff_nodes (L := L) (O := O) ho hok
  have h2 := h.told
  have h3 : Y.length ≤ (lvs (nxD n f C U L O) (lfD n L O) (j + 1) (Y ++ X.flatMap (nxD n f C U L O))).2 := by
    show _ ≤ (Y ++ X.flatMap _).length + _
    rw [List.length_append]
    omega
  omega
theorem WI.done (h : WI n f C U L O s got) (ha : s.asks = []) (hw : s.wants = []) : got = (diffP n f C U L O).1 ∧ s.told + 1 = (diffP n f C U L O).2 := by
  obtain ⟨j, X, Y, h⟩ := h
  rcases Nat.eq_zero_or_pos j with rfl | hj
  · obtain ⟨W, rfl, h1, h2⟩ := h.bot rfl
    obtain rfl := LW_nil (h1.symm.trans ha)
    obtain rfl := LW_nil (h2.symm.trans hw)
    have ho := h.out
    have ht := h.told
    simp only [List.append_nil, List.flatMap_nil] at ho ht
    have e : lvs (nxD n f C U L O) (lfD n L O) (0 + 1) got = (got.flatMap (lfD n L O) ++ [], got.length + 0) := rfl
    rw [e] at ho ht
    have hy := h.ys
    rw [List.append_nil] at hy
    simp only [List.append_nil] at ho
    rw [lfD_leaf fun c hc => (hy c hc).1, List.filter_eq_self.2 fun c hc => (hy c hc).2] at ho
    exact ⟨ho, by simp only at ht; omega⟩
  · obtain ⟨hg, h1, h2⟩ := h.top (by omega)
    have h3 := LW_nil (h1.symm.trans ha)
    obtain ⟨rfl, rfl⟩ := List.append_eq_nil_iff.1 h3
    have ho := h.out
    have ht := h.told
    simp only [List.append_nil, List.flatMap_nil, lvs_none, List.length_nil] at ho ht
    exact ⟨hg.trans ho, ht⟩
theorem WI.want (h : WI n f C U L O s got) (ha : s.asks = []) {k : Int} {d : ByteArray} {q : FL} (hw : s.wants = (k, d) :: q) :
    (∃ x : Nat, k = x ∧ x < n) ∧ d = lAt O k.toNat ∧ WI n f C U L O { s with wants := s.wants.drop 1, came := s.came + 1 } (got ++ [k]) := by
  obtain ⟨j, X, Y, h⟩ := h
  rcases Nat.eq_zero_or_pos j with rfl | hj
  · obtain ⟨W, rfl, h1, h2⟩ := h.bot rfl
    obtain rfl := LW_nil (h1.symm.trans ha)
    cases W with
    | nil => rw [h2] at hw; cases hw
    | cons c W =>
      rw [h2] at hw
      unfold LW at hw
      rw [List.map_cons, List.cons.injEq] at hw
      obtain ⟨e, -⟩ := hw
      cases e
      obtain ⟨x, rfl, hx1, hx2⟩ := (h.ys k (by simp)).1
      have h0 : S n f (0 + 1) = 0 + n := rfl
      refine ⟨⟨x, rfl, by omega⟩, rfl, 0, [], got ++ [(x : Int)] ++ W, ?_⟩
      have ea : got ++ [(x : Int)] ++ W = got ++ (x : Int) :: W := by simp
      have hst := h.steps
      rw [h2] at hst
      refine ⟨fun e => absurd rfl e, h.hj2, fun _ => ⟨W, rfl, ha, ?_⟩, fun e => absurd rfl e, fun c hc => (by cases hc), ?_, ?_, ?_, ?_, ?_⟩
      · show s.wants.drop 1 = _
        rw [h2]; rfl
      · rw [ea]; exact h.ys
      · rw [ea]; exact h.out
      · rw [ea]; exact h.told
      · show s.asked + (s.came + 1) + s.asks.length + (s.wants.drop 1).length ≤ s.told + 1
        rw [h2, List.length_drop]
        simp only [LW, List.length_map, List.length_cons] at hst ⊢
        omega
      · show s.came + 1 = _
        rw [h.came, List.length_append]; rfl
  · obtain ⟨-, -, h2⟩ := h.top (by omega)
    rw [h2] at hw; cases hw
/-- Where children are awaited, those of a node X's first. -/
theorem WI.ask1 (ho : Ok n f) (h : WI n f C U L O s got) (ha : s.asks ≠ []) : ∃ j x X Y, WJ n f C U L O s got j (x :: X) Y := by
  obtain ⟨j, X, Y, h⟩ := h
  cases X with
  | cons x X => exact ⟨j, x, X, Y, h⟩
  | nil =>
    rcases Nat.eq_zero_or_pos j with rfl | hj
    · obtain ⟨W, rfl, h1, h2⟩ := h.bot rfl
      exact absurd h1 ha
    · obtain ⟨i, rfl⟩ : ∃ i, j = i + 1 := ⟨j - 1, by omega⟩
      obtain ⟨hg, h1, h2⟩ := h.top (by omega)
      have hout := h.out
      have htold := h.told
      simp only [List.flatMap_nil, List.append_nil, List.nil_append] at hout htold h1
      have e : lvs (nxD n f C U L O) (lfD n L O) (i + 1 + 1) Y = (Y.flatMap (lfD n L O) ++ (lvs (nxD n f C U L O) (lfD n L O) (i + 1) (Y.flatMap (nxD n f C U L O))).1, Y.length + (lvs (nxD n f C U L O) (lfD n L O) (i + 1) (Y.flatMap (nxD n f C U L O))).2) := rfl
      rw [e, lfD_top ho.n1 fun c hc => (h.ys c hc).1, List.nil_append] at hout
      rw [e] at htold
      simp only at hout htold
      cases Y with
      | nil => exact absurd h1 ha
      | cons y Y =>
        refine ⟨i, y, Y, [], fun _ => h.hj2, by have := h.hj2; omega, fun _ => ⟨[], by rw [hg]; rfl, h1, h2⟩, fun _ => ⟨hg, by rw [List.append_nil]; exact h1, h2⟩, h.ys, fun c hc => (by cases hc), ?_, ?_, h.steps, h.came⟩
        · rw [List.nil_append]; exact hout
        · rw [List.nil_append]; simp only [List.length_nil]; omega
/-- The first i children of a node are gone over. -/
theorem fnd_all (s : WS) (ks : List Int) (i : Nat) (hi : i ≤ ks.length) :
    ((∀ c ∈ ks, c < (n : Int)) → (fndS n L s ks (kids O ks) i).asks = s.asks ∧ (fndS n L s ks (kids O ks) i).wants = s.wants ++ LW O ((ks.take i).filter (df L O))) ∧
    ((∀ c ∈ ks, ¬ c < (n : Int)) → (fndS n L s ks (kids O ks) i).wants = s.wants ∧ (fndS n L s ks (kids O ks) i).asks = s.asks ++ LW O ((ks.take i).filter (df L O))) := by
  induction i with
  | zero => exact ⟨fun _ => ⟨rfl, by simp [fndS, LW]⟩, fun _ => ⟨rfl, by simp [fndS, LW]⟩⟩
  | succ i ih =>
    obtain ⟨ih1, ih2⟩ := ih (by omega)
    have hlt : i < ks.length := by omega
    have e1 : ks[i]?.getD 0 = ks[i] := by rw [List.getElem?_eq_getElem hlt]; rfl
    have e2 : lAt (kids O ks) i = lAt O (ks[i]).toNat := by
      unfold lAt kids
      rw [List.getElem?_map, List.getElem?_eq_getElem hlt]
      rfl
    have e3 : ks.take (i + 1) = ks.take i ++ [ks[i]] := by rw [List.take_add_one, List.getElem?_eq_getElem hlt]; rfl
    have e4 : fndS n L s ks (kids O ks) (i + 1) = findS n L (fndS n L s ks (kids O ks) i) ks[i] (lAt O (ks[i]).toNat) := by
      show findS n L _ (ks[i]?.getD 0) (lAt (kids O ks) i) = _
      rw [e1, e2]
    rw [e4, e3, List.filter_append, LW_app]
    have hm := List.getElem_mem hlt
    generalize ks[i] = c at *
    unfold findS
    by_cases hd : lAt L c.toNat = lAt O c.toNat
    · rw [if_pos hd, List.filter_cons_of_neg (by simpa [df] using hd)]
      simp only [List.filter_nil, LW, List.map_nil, List.append_nil]
      exact ⟨ih1, ih2⟩
    · rw [if_neg hd, List.filter_cons_of_pos (by simpa [df] using hd)]
      refine ⟨fun h => ?_, fun h => ?_⟩
      · rw [if_pos (h c hm)]
        exact ⟨(ih1 h).1, by rw [(ih1 h).2, List.append_assoc]; rfl⟩
      · rw [if_neg (h c hm)]
        exact ⟨(ih2 h).1, by rw [(ih2 h).2, List.append_assoc]; rfl⟩
theorem WI.ask (ho : Ok n f) (hok : okG n f C U) (h : WI n f C U L O s got) {k : Int} {d : ByteArray} {q : FL} (ha : s.asks = (k, d) :: q) :
    (∃ x : Nat, k = x ∧ n ≤ x ∧ x < nodes n f C U) ∧ d = lAt O k.toNat ∧ WI n f C U L O (nodesS n f C U L s k (kids O (children n f C U k))) got := by
  obtain ⟨j, x, X, Y, h⟩ := h.ask1 ho (by rw [ha]; exact fun e => by cases e)
  have hj := h.hj (by simp)
  have hq : s.asks = (x, lAt O x.toNat) :: (if j = 0 then LW O X else LW O (X ++ Y)) := by
    rcases Nat.eq_zero_or_pos j with rfl | hj
    · obtain ⟨W, -, h1, -⟩ := h.bot rfl
      rw [h1]; rfl
    · rw [if_neg (by omega), (h.top (by omega)).2.1]; rfl
  rw [ha, List.cons.injEq] at hq
  obtain ⟨e, hq⟩ := hq
  cases e
  obtain ⟨hkl, hkd⟩ := h.xs k (List.mem_cons_self ..)
  have hnd : nodes n f C U = S n f (H n f + 1) := if_pos hok
  refine ⟨?_, rfl, j, X, Y ++ (children n f C U k).filter (df L O), ?_⟩
  · obtain ⟨x, rfl, h1, h2⟩ := hkl
    have m1 := @S_mono n f 1 (j + 1) (by omega)
    have m2 := @S_mono n f (j + 1 + 1) (H n f + 1) (by omega)
    have h0 : S n f 1 = 0 + n := rfl
    exact ⟨x, rfl, by omega, by omega⟩
  · have hch : ∀ c ∈ children n f C U k, InLv n f j c := fun c hc => by
      rcases children_lv ho hok hj hkl with ⟨h1, _⟩ | ⟨i, h1, h2⟩
      · omega
      · obtain rfl : i = j := by omega
        exact h2 c hc
    have hnx : nxD n f C U L O k = children n f C U k := if_neg (by simpa [df] using hkd)
    have hout := h.out
    have htold := h.told
    rw [List.flatMap_cons, hnx, ← List.append_assoc] at hout htold
    obtain ⟨d1, d2⟩ := lvs_df (n := n) (f := f) (C := C) (U := U) (L := L) (O := O) j Y (children n f C U k) (X.flatMap (nxD n f C U L O))
    obtain ⟨f1, f2⟩ := fnd_all (n := n) (L := L) (O := O) (cutA s) (children n f C U k) _ (Nat.le_refl _)
    rw [List.take_length] at f1 f2
    have hln := fndS_len n L (cutA s) (children n f C U k) (kids O (children n f C U k)) (children n f C U k).length
    have hca : (cutA s).asks = q := by unfold cutA; rw [ha]; rfl
    have hcw : (cutA s).wants = s.wants := rfl
    have hcc : (fndS n L (cutA s) (children n f C U k) (kids O (children n f C U k)) (children n f C U k).length).came = s.came := hln.2.2.2
    have hst := h.steps
    rw [ha, List.length_cons] at hst
    rw [hca, hcw] at hln
    rw [hca, hcw] at f1 f2
    refine ⟨fun _ => hj, h.hj2, fun hj0 => ?_, fun hj0 => ?_, fun c hc => h.xs c (List.mem_cons_of_mem _ hc), fun c hc => ?_, d1.trans hout, ?_, ?_, hcc.trans h.came⟩
    · subst hj0
      obtain ⟨W, hY, -, h2⟩ := h.bot rfl
      obtain ⟨g1, g2⟩ := f1 (fun c hc => by
        obtain ⟨x, rfl, h3, h4⟩ := hch c hc
        have h0 : S n f (0 + 1) = 0 + n := rfl
        omega)
      refine ⟨W ++ (children n f C U k).filter (df L O), by rw [hY, List.append_assoc], ?_, ?_⟩
      · show (fndS _ _ _ _ _ _).asks = _
        rw [g1, hq]; rfl
      · show (fndS _ _ _ _ _ _).wants = _
        rw [g2, h2, LW_app]
    · obtain ⟨hg, -, h2⟩ := h.top hj0
      obtain ⟨g1, g2⟩ := f2 (fun c hc => by
        obtain ⟨x, rfl, h3, h4⟩ := hch c hc
        have h0 : S n f 1 = 0 + n := rfl
        have m1 := @S_mono n f 1 j (by omega)
        omega)
      refine ⟨hg, ?_, ?_⟩
      · show (fndS _ _ _ _ _ _).asks = _
        rw [g2, hq, if_neg hj0, ← LW_app, List.append_assoc]
      · show (fndS _ _ _ _ _ _).wants = _
        rw [g1, h2]
    · rcases List.mem_append.1 hc with hc | hc
      · exact h.ys c hc
      · obtain ⟨hc1, hc2⟩ := List.mem_filter.1 hc
        exact ⟨hch c hc1, hc2⟩
    · show s.told + (kids O (children n f C U k)).length + 1 + _ = _
      rw [kids_length, List.length_append]
      omega
    · show s.asked + 1 + (fndS _ _ _ _ _ _).came + (fndS _ _ _ _ _ _).asks.length + (fndS _ _ _ _ _ _).wants.length ≤ s.told + (kids O (children n f C U k)).length + 1
      rw [hcc, kids_length]
      have := hln.1
      omega
/-- The root is gone over. -/
theorem WI.init (ho : Ok n f) (hok : okG n f C U) : WI n f C U L O (findS n L ⟨[], [], 0, 0, 0⟩ ((nodes n f C U - 1 : Nat) : Int) (lAt O (nodes n f C U - 1))) [] := by
  have hnd : nodes n f C U = S n f (H n f + 1) := if_pos hok
  have hht : height n f C U = H n f := if_pos hok
  have hlv : InLv n f (H n f) ((nodes n f C U - 1 : Nat) : Int) := by rw [hnd]; exact root_lv ho
  have hdp : diffP n f C U L O = lvs (nxD n f C U L O) (lfD n L O) (H n f + 1) [((nodes n f C U - 1 : Nat) : Int)] := by unfold diffP; rw [hht]
  obtain ⟨d1, d2⟩ := lvs_df (n := n) (f := f) (C := C) (U := U) (L := L) (O := O) (H n f) [] [((nodes n f C U - 1 : Nat) : Int)] []
  rw [List.append_nil, List.append_nil, List.nil_append, List.nil_append, ← hdp] at d1 d2
  refine ⟨H n f, [], [((nodes n f C U - 1 : Nat) : Int)].filter (df L O), ?_⟩
  generalize hr : ((nodes n f C U - 1 : Nat) : Int) = r at *
  have hrt : r.toNat = nodes n f C U - 1 := by rw [← hr]; rfl
  have hos : H n f = 0 → r < (n : Int) := fun e => by
    obtain ⟨x, rfl, h1, h2⟩ := hlv
    rw [e] at h2
    have h0 : S n f (0 + 1) = 0 + n := rfl
    omega
  have hos2 : H n f ≠ 0 → ¬ r < (n : Int) := fun e => by
    obtain ⟨x, rfl, h1, h2⟩ := hlv
    have h0 : S n f 1 = 0 + n := rfl
    have m1 := @S_mono n f 1 (H n f) (by omega)
    omega
  have hlen : ([r].filter (df L O)).length ≤ 1 := List.length_filter_le _ _
  have hfs : findS n L ⟨[], [], 0, 0, 0⟩ r (lAt O (nodes n f C U - 1)) = if H n f = 0 then ⟨[], LW O ([r].filter (df L O)), 0, 0, 0⟩ else ⟨LW O ([r].filter (df L O)), [], 0, 0, 0⟩ := by
    rw [← hrt]
    unfold findS
    by_cases hd : lAt L r.toNat = lAt O r.toNat
    · rw [if_pos hd, List.filter_cons_of_neg (by simpa [df] using hd)]
      split <;> rfl
    · rw [if_neg hd, List.filter_cons_of_pos (by simpa [df] using hd)]
      by_cases e : H n f = 0
      · rw [if_pos (hos e), if_pos e]; rfl
      · rw [if_neg (hos2 e), if_neg e]; rfl
  rw [hfs]
  have hys : ∀ c ∈ [r].filter (df L O), InLv n f (H n f) c ∧ df L O c = true := fun c hc => by
    obtain ⟨h1, h2⟩ := List.mem_filter.1 hc
    obtain rfl := List.mem_singleton.1 h1
    exact ⟨hlv, h2⟩
  refine ⟨fun e => absurd rfl e, Nat.le_refl _, fun e => ?_, fun e => ?_, fun c hc => (by cases hc), hys, ?_, ?_, ?_, ?_⟩
  · rw [if_pos e]; exact ⟨_, rfl, rfl, rfl⟩
  · rw [if_neg e]; exact ⟨rfl, rfl, rfl⟩
  · rw [List.flatMap_nil, List.append_nil]; exact d1
  · rw [List.flatMap_nil, List.append_nil]
    have : (if H n f = 0 then (⟨[], LW O ([r].filter (df L O)), 0, 0, 0⟩ : WS) else ⟨LW O ([r].filter (df L O)), [], 0, 0, 0⟩).told = 0 := by split <;> rfl
    rw [this]
    simp only [List.length_singleton] at d2
    omega
  · split
    · simp only [LW, List.length_map, List.length_nil]; omega
    · simp only [LW, List.length_map, List.length_nil]; omega
  · split <;> rfl
end
end Go.Proofs.YtojanhpilhledaaDoor

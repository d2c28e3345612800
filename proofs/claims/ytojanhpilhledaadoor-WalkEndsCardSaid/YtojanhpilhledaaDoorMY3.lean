/-
  Texts put together: Y3.
-/
import Derived.Test.YtojanhpilhledaaDoorMY0
/-
  What Diff finds of two trees, level by level: how much it looks at, that it rises, and what was not found.
-/
namespace Go.Proofs.YtojanhpilhledaaDoor
open Go.RowKit
set_option linter.unusedVariables false
set_option linter.unusedSimpArgs false

section
variable {n f : Nat} {C U : Int} {L O : List ByteArray}
/-- Two trees differ in a node. -/
abbrev df (L O : List ByteArray) (k : Int) : Bool := decide (lAt L k.toNat ≠ lAt O k.toNat)
theorem lfD_top (hn : 1 ≤ n) {j : Nat} {l : List Int} (hl : ∀ c ∈ l, InLv n f (j + 1) c) : l.flatMap (lfD n L O) = [] := by
  rw [List.flatMap_eq_nil_iff]
  intro c hc
  obtain ⟨x, rfl, h1, h2⟩ := hl c hc
  have hm := @S_mono n f 1 (j + 1) (by omega)
  have h0 : S n f 1 = 0 + n := rfl
  exact if_neg fun h => by have := h.2; omega
theorem lfD_leaf {l : List Int} (hl : ∀ c ∈ l, InLv n f 0 c) : l.flatMap (lfD n L O) = l.filter (df L O) := by
  induction l with
  | nil => rfl
  | cons c l ih =>
    rw [List.flatMap_cons, ih fun c' h' => hl c' (List.mem_cons_of_mem _ h')]
    obtain ⟨x, rfl, h1, h2⟩ := hl c (List.mem_cons_self ..)
    have h0 : S n f (0 + 1) = 0 + n := rfl
    unfold lfD
    by_cases hd : lAt L (x : Int).toNat = lAt O (x : Int).toNat
    · rw [if_neg fun h => h.1 hd, List.filter_cons_of_neg (by simpa [df] using hd)]
      rfl
    · rw [if_pos ⟨hd, by omega⟩, List.filter_cons_of_pos (by simpa [df] using hd)]
      rfl
theorem nxD_flat (l : List Int) : l.flatMap (nxD n f C U L O) = (l.filter (df L O)).flatMap (children n f C U) := by
  induction l with
  | nil => rfl
  | cons c l ih =>
    rw [List.flatMap_cons, ih]
    unfold nxD
    by_cases hd : lAt L c.toNat = lAt O c.toNat
    · rw [if_pos hd, List.filter_cons_of_neg (by simpa [df] using hd)]
      rfl
    · rw [if_neg hd, List.filter_cons_of_pos (by simpa [df] using hd), List.flatMap_cons]
theorem next_lv (h : Ok n f) (hok : okG n f C U) {j : Nat} (hj : j + 1 ≤ H n f) {l : List Int} (hl : ∀ c ∈ l, InLv n f (j + 1) c) : ∀ y ∈ l.flatMap (nxD n f C U L O), InLv n f j y := by
  intro y hy
  rw [nxD_flat] at hy
  obtain ⟨c, hc, hy⟩ := List.mem_flatMap.1 hy
  rcases children_lv h hok hj (hl c (List.mem_filter.1 hc).1) with ⟨h1, _⟩ | ⟨i, h1, h2⟩
  · omega
  · obtain rfl : i = j := by omega
    exact h2 y hy
theorem kids_rise (h : Ok n f) (hok : okG n f C U) {j : Nat} (hj : j + 1 ≤ H n f) {l : List Int} (hl : ∀ c ∈ l, InLv n f (j + 1) c) (hp : l.Pairwise (· < ·)) : (l.flatMap (children n f C U)).Pairwise (· < ·) := by
  have he : ∀ c, InLv n f (j + 1) c → ∃ x : Nat, c = x ∧ children n f C U c = rng (S n f j + (x - S n f (j + 1)) * f) (min f (q n f j - (x - S n f (j + 1)) * f)) ∧ S n f (j + 1) ≤ x := fun c hc => by
    obtain ⟨x, rfl, h1, h2⟩ := hc
    replace h2 : x < S n f (j + 2) := h2
    obtain ⟨y, e, h3, -, h4⟩ := children_in (node := (x : Int)) h hok j (by omega) (by omega) (by omega)
    obtain rfl : x = y := by omega
    exact ⟨x, rfl, h4, h1⟩
  rw [List.pairwise_flatMap]
  refine ⟨fun c hc => ?_, ?_⟩
  · obtain ⟨x, rfl, e, -⟩ := he c (hl c hc)
    rw [e]
    unfold rng
    rw [List.pairwise_map]
    exact List.Pairwise.imp (fun h => by omega) List.pairwise_lt_range
  · refine List.Pairwise.imp_of_mem (R := (· < ·)) (fun {a b} ha hb hab => ?_) hp
    obtain ⟨x, rfl, e1, hx⟩ := he a (hl a ha)
    obtain ⟨y, rfl, e2, hy⟩ := he b (hl b hb)
    rw [e1, e2]
    intro u hu v hv
    unfold rng at hu hv
    obtain ⟨i, hi, rfl⟩ := List.mem_map.1 hu
    obtain ⟨k, hk, rfl⟩ := List.mem_map.1 hv
    rw [List.mem_range] at hi hk
    have h1 : i < f := by omega
    have h2 : (x - S n f (j + 1) + 1) * f ≤ (y - S n f (j + 1)) * f := Nat.mul_le_mul_right _ (by omega)
    rw [Nat.add_mul, Nat.one_mul] at h2
    omega
theorem flat_ge (g : Int → List Int) : ∀ l : List Int, (∀ c ∈ l, 1 ≤ (g c).length) → l.length ≤ (l.flatMap g).length
  | [], _ => Nat.zero_le _
  | c :: l, h => by
    have ih := flat_ge g l fun c' h' => h c' (List.mem_cons_of_mem _ h')
    have := h c (List.mem_cons_self ..)
    rw [List.flatMap_cons, List.length_append, List.length_cons]
    omega
/-- A node of two trees of sectors, not a leaf, differs only where one of its children does. -/
theorem kid_differs {Ss Us : List ByteArray} (h : TOf n f C U Ss L) (h' : TOf n f C U Us O) {c : Int} {x : Nat} (hc : c = x) (h1 : n ≤ x) (h2 : x < nodes n f C U) (hd : df L O c = true) : 1 ≤ ((children n f C U c).filter (df L O)).length := by
  subst hc
  have hs := h.sl
  have hs' := h'.sl
  rcases Nat.eq_zero_or_pos ((children n f C U (x : Int)).filter (df L O)).length with h0 | h0
  · exfalso
    have hnil := List.eq_nil_of_length_eq_zero h0
    rw [List.filter_eq_nil_iff] at hnil
    have : lAt L x = lAt O x := by
      rw [h.node x (by omega) h2, h'.node x (by omega) h2]
      congr 1
      unfold kids
      exact List.map_congr_left fun c hc => by simpa [df] using hnil c hc
    simp only [df, Int.toNat_natCast, decide_eq_true_eq] at hd
    exact hd this
  · exact h0
end

/-- Level j and what is below: of two trees of sectors as many leaves are told as nodes of the level differ, or more; at most so many are looked at. -/
theorem diff_count {n f : Nat} {C U : Int} {L O Ss Us : List ByteArray} (ho : Ok n f) (hok : okG n f C U) (h : TOf n f C U Ss L) (h' : TOf n f C U Us O) : ∀ (j : Nat) (l : List Int), j ≤ H n f → (∀ c ∈ l, InLv n f j c) →
    (l.filter (df L O)).length ≤ (lvs (nxD n f C U L O) (lfD n L O) (j + 1) l).1.length ∧ (lvs (nxD n f C U L O) (lfD n L O) (j + 1) l).2 ≤ l.length + f * j * (lvs (nxD n f C U L O) (lfD n L O) (j + 1) l).1.length
  | 0, l, hj, hl => by
    have e : lvs (nxD n f C U L O) (lfD n L O) (0 + 1) l = (l.flatMap (lfD n L O) ++ [], l.length + 0) := rfl
    rw [e, lfD_leaf hl]
    simp
  | j + 1, l, hj, hl => by
    obtain ⟨ih1, ih2⟩ := diff_count ho hok h h' j (l.flatMap (nxD n f C U L O)) (by omega) (next_lv ho hok hj hl)
    have e : lvs (nxD n f C U L O) (lfD n L O) (j + 1 + 1) l = (l.flatMap (lfD n L O) ++ (lvs (nxD n f C U L O) (lfD n L O) (j + 1) (l.flatMap (nxD n f C U L O))).1, l.length + (lvs (nxD n f C U L O) (lfD n L O) (j + 1) (l.flatMap (nxD n f C U L O))).2) := rfl
    rw [e, lfD_top ho.n1 hl, List.nil_append]
    generalize lvs (nxD n f C U L O) (lfD n L O) (j + 1) (l.flatMap (nxD n f C U L O)) = r at *
    have hS := @S_mono n f (j + 1 + 1) (H n f + 1) (by omega)
    have hm := @S_mono n f 1 (j + 1) (by omega)
    have h0 : S n f 1 = 0 + n := rfl
    have hnd : nodes n f C U = S n f (H n f + 1) := if_pos hok
    have hD : (l.filter (df L O)).length ≤ ((l.flatMap (nxD n f C U L O)).filter (df L O)).length := by
      rw [nxD_flat, List.filter_flatMap]
      refine flat_ge _ _ fun c hc => ?_
      obtain ⟨hc1, hc2⟩ := List.mem_filter.1 hc
      obtain ⟨x, hx, h1, h2⟩ := hl c hc1
      exact kid_differs h h' hx (by omega) (by omega) hc2
    have hF : (l.flatMap (nxD n f C U L O)).length ≤ (l.filter (df L O)).length * f := by
      rw [nxD_flat]
      refine flat_len' _ f _ fun c hc => ?_
      obtain ⟨hc1, hc2⟩ := List.mem_filter.1 hc
      obtain ⟨x, rfl, h1, h2⟩ := hl c hc1
      replace h2 : x < S n f (j + 2) := h2
      obtain ⟨y, e, h3, -, h4⟩ := children_in (node := (x : Int)) ho hok j (by omega) (by omega) (by omega)
      rw [h4, rng_length]
      omega
    have hq : (l.filter (df L O)).length * f ≤ f * r.1.length := by rw [Nat.mul_comm]; exact Nat.mul_le_mul_left _ (by omega)
    refine ⟨by show _ ≤ r.1.length; omega, ?_⟩
    have e2 : f * (j + 1) * r.1.length = f * r.1.length + f * j * r.1.length := by rw [Nat.mul_add, Nat.mul_one, Nat.add_mul]; omega
    show l.length + r.2 ≤ l.length + f * (j + 1) * r.1.length
    rw [e2]
    omega
where
  flat_len' (g : Int → List Int) (b : Nat) : ∀ l : List Int, (∀ c ∈ l, (g c).length ≤ b) → (l.flatMap g).length ≤ l.length * b
    | [], _ => by simp
    | c :: l, h => by
      have := flat_len' g b l fun c' h' => h c' (List.mem_cons_of_mem _ h')
      have h2 := h c (List.mem_cons_self ..)
      simp only [List.flatMap_cons, List.length_append, List.length_cons]
      rw [Nat.add_mul, Nat.one_mul]
      omega

/-- Leaves are told rising, each of which differs; a leaf below that is not told has a node above it, or is one, that does not differ, right above one that does. -/
theorem diff_rise {n f : Nat} {C U : Int} {L O : List ByteArray} (ho : Ok n f) (hok : okG n f C U) : ∀ (j : Nat) (l : List Int), j ≤ H n f → (∀ c ∈ l, InLv n f j c) → l.Pairwise (· < ·) →
    (lvs (nxD n f C U L O) (lfD n L O) (j + 1) l).1.Pairwise (· < ·) ∧ (∀ c ∈ (lvs (nxD n f C U L O) (lfD n L O) (j + 1) l).1, InLv n f 0 c ∧ lAt L c.toNat ≠ lAt O c.toNat) ∧
    (∀ x : Nat, x < n → (pth n f x j : Int) ∈ l → (x : Int) ∉ (lvs (nxD n f C U L O) (lfD n L O) (j + 1) l).1 → lAt L x = lAt O x ∨ ∃ k, k < j ∧ lAt L (pth n f x (k + 1)) = lAt O (pth n f x (k + 1)) ∧ lAt L (pth n f x k) ≠ lAt O (pth n f x k))
  | 0, l, hj, hl, hp => by
    have e : lvs (nxD n f C U L O) (lfD n L O) (0 + 1) l = (l.flatMap (lfD n L O) ++ [], l.length + 0) := rfl
    rw [e, lfD_leaf hl, List.append_nil]
    refine ⟨List.Pairwise.sublist List.filter_sublist hp, fun c hc => ?_, fun x hx hm hno => ?_⟩
    · obtain ⟨h1, h2⟩ := List.mem_filter.1 hc
      exact ⟨hl c h1, by simpa [df] using h2⟩
    · refine .inl ?_
      have hm' : (x : Int) ∈ l := hm
      by_cases hd : lAt L x = lAt O x
      · exact hd
      · exact absurd (List.mem_filter.2 ⟨hm', by simpa [df] using hd⟩) hno
  | j + 1, l, hj, hl, hp => by
    have hlv : ∀ y ∈ l.flatMap (nxD n f C U L O), InLv n f j y := next_lv ho hok hj hl
    have hpw : (l.flatMap (nxD n f C U L O)).Pairwise (· < ·) := by
      rw [nxD_flat]
      exact kids_rise ho hok hj (fun c hc => hl c (List.mem_filter.1 hc).1) (List.Pairwise.sublist List.filter_sublist hp)
    obtain ⟨ih1, ih2, ih3⟩ := diff_rise (L := L) (O := O) ho hok j (l.flatMap (nxD n f C U L O)) (by omega) hlv hpw
    have e : lvs (nxD n f C U L O) (lfD n L O) (j + 1 + 1) l = (l.flatMap (lfD n L O) ++ (lvs (nxD n f C U L O) (lfD n L O) (j + 1) (l.flatMap (nxD n f C U L O))).1, l.length + (lvs (nxD n f C U L O) (lfD n L O) (j + 1) (l.flatMap (nxD n f C U L O))).2) := rfl
    rw [e, lfD_top ho.n1 hl, List.nil_append]
    refine ⟨ih1, ih2, fun x hx hm hno => ?_⟩
    by_cases hd : lAt L (pth n f x (j + 1)) = lAt O (pth n f x (j + 1))
    · -- the topmost pair, or none: go down from here
      have key : ∀ i, i ≤ j + 1 → lAt L (pth n f x i) = lAt O (pth n f x i) → lAt L x = lAt O x ∨ ∃ k, k < i ∧ lAt L (pth n f x (k + 1)) = lAt O (pth n f x (k + 1)) ∧ lAt L (pth n f x k) ≠ lAt O (pth n f x k) := by
        intro i
        induction i with
        | zero => exact fun _ h => .inl h
        | succ i ih =>
          intro hi h
          by_cases h2 : lAt L (pth n f x i) = lAt O (pth n f x i)
          · rcases ih (by omega) h2 with h3 | ⟨k, h3, h4⟩
            · exact .inl h3
            · exact .inr ⟨k, by omega, h4⟩
          · exact .inr ⟨i, by omega, h, h2⟩
      exact key (j + 1) (Nat.le_refl _) hd
    · have hmem : (pth n f x j : Int) ∈ l.flatMap (nxD n f C U L O) := by
        rw [nxD_flat]
        refine List.mem_flatMap.2 ⟨_, List.mem_filter.2 ⟨hm, by simpa [df] using hd⟩, ?_⟩
        have p1 := pth_lt ho hx j
        have p2 := pth_lt ho hx (j + 1)
        have m1 := @S_mono n f (j + 1) (H n f + 1) (by omega)
        have m2 := @S_mono n f (j + 1 + 1) (H n f + 1) (by omega)
        have hpar := par_at (n := n) (f := f) (x := pth n f x j) (k := j) (by omega) p1.1 p1.2
        have hfam := (family ho (x := pth n f x (j + 1)) (y := pth n f x j) (by omega) (by omega)).2 (by rw [hpar]; rfl)
        have hce : children n f C U (pth n f x (j + 1) : Int) = ch n f (pth n f x (j + 1)) := by
          unfold children
          rw [if_pos ⟨hok, by omega, by simp only [Int.toNat_natCast]; omega⟩]
          simp only [Int.toNat_natCast]
        rw [hce]
        unfold ch
        exact List.mem_map.2 ⟨pth n f x j - chA n f (pth n f x (j + 1)), List.mem_range.2 (by omega), by omega⟩
      rcases ih3 x hx hmem hno with h3 | ⟨k, h3, h4⟩
      · exact .inl h3
      · exact .inr ⟨k, by omega, h4⟩

/-- What Diff tells of two trees of sectors: leaves that rise, each with another digest; at most so many are looked at; a leaf that is not told has one digest, or two texts above it have. -/
theorem diff_tells {N F C U : Int} {L O Ss Us : List ByteArray} (h : TOf N F C U Ss L) (h' : TOf N F C U Us O) :
    (diffP N F C U L O).1.Pairwise (· < ·) ∧ (∀ c ∈ (diffP N F C U L O).1, ∃ x : Nat, c = x ∧ (x : Int) < N ∧ lAt L x ≠ lAt O x) ∧
    ((diffP N F C U L O).2 : Int) ≤ 1 + F * (height N F C U : Int) * ((diffP N F C U L O).1.length : Int) ∧
    (∀ x : Nat, (x : Int) < N → (x : Int) ∉ (diffP N F C U L O).1 → lAt L x = lAt O x ∨ ∃ k : Nat, N ≤ (k : Int) ∧ k < nodes N F C U ∧ lAt L k = lAt O k ∧ kids L (children N F C U k) ≠ kids O (children N F C U k)) := by
  have hok := h.ok
  obtain ⟨n, f, rfl, rfl, ho⟩ := ok_of hok
  have hnd : nodes n f C U = S n f (H n f + 1) := if_pos hok
  have hht : height n f C U = H n f := if_pos hok
  have hroot : ∀ c ∈ [((nodes n f C U - 1 : Nat) : Int)], InLv n f (H n f) c := fun c hc => by
    obtain rfl := List.mem_singleton.1 hc
    rw [hnd]
    exact root_lv ho
  obtain ⟨r1, r2, r3⟩ := diff_rise (L := L) (O := O) ho hok (H n f) _ (Nat.le_refl _) hroot (List.pairwise_singleton ..)
  have hc := (diff_count ho hok h h' (H n f) _ (Nat.le_refl _) hroot).2
  have hdp : diffP n f C U L O = lvs (nxD n f C U L O) (lfD n L O) (H n f + 1) [((nodes n f C U - 1 : Nat) : Int)] := by unfold diffP; rw [hht]
  rw [← hdp] at r1 r2 r3 hc
  refine ⟨r1, fun c hc => ?_, ?_, fun x hx hno => ?_⟩
  · obtain ⟨⟨x, rfl, -, h2⟩, h3⟩ := r2 c hc
    have h0 : S n f (0 + 1) = 0 + n := rfl
    exact ⟨x, rfl, by omega, h3⟩
  · rw [hht]
    have e : (f : Int) * (H n f : Int) * ((diffP n f C U L O).1.length : Int) = ((f * H n f * (diffP n f C U L O).1.length : Nat) : Int) := by push_cast; rfl
    rw [e]
    simp only [List.length_singleton] at hc
    omega
  · have hx' : x < n := by omega
    have ptop : (pth n f x (H n f) : Int) ∈ [((nodes n f C U - 1 : Nat) : Int)] := by
      have p1 := pth_lt ho hx' (H n f)
      have hq := (H_spec ho).2.1
      have e : S n f (H n f + 1) = S n f (H n f) + q n f (H n f) := rfl
      rw [List.mem_singleton]
      omega
    rcases r3 x hx' ptop hno with h3 | ⟨k, h3, h4, h5⟩
    · exact .inl h3
    · refine .inr ⟨pth n f x (k + 1), ?_, ?_, h4, fun e => ?_⟩
      · have p1 := pth_lt ho hx' (k + 1)
        have m1 := @S_mono n f 1 (k + 1) (by omega)
        have h0 : S n f 1 = 0 + n := rfl
        omega
      · have p1 := pth_lt ho hx' (k + 1)
        have m1 := @S_mono n f (k + 1 + 1) (H n f + 1) (by omega)
        omega
      · have p1 := pth_lt ho hx' k
        have p2 := pth_lt ho hx' (k + 1)
        have m1 := @S_mono n f (k + 1) (H n f + 1) (by omega)
        have m2 := @S_mono n f (k + 1 + 1) (H n f + 1) (by omega)
        have hpar := par_at (n := n) (f := f) (x := pth n f x k) (k := k) (by omega) p1.1 p1.2
        have hfam := (family ho (x := pth n f x (k + 1)) (y := pth n f x k) (by omega) (by omega)).2 (by rw [hpar]; rfl)
        have hce : children n f C U (pth n f x (k + 1) : Int) = ch n f (pth n f x (k + 1)) := by
          unfold children
          rw [if_pos ⟨hok, by omega, by simp only [Int.toNat_natCast]; omega⟩]
          simp only [Int.toNat_natCast]
        have hmem : (pth n f x k : Int) ∈ children n f C U (pth n f x (k + 1) : Int) := by
          rw [hce]
          unfold ch
          exact List.mem_map.2 ⟨pth n f x k - chA n f (pth n f x (k + 1)), List.mem_range.2 (by omega), by omega⟩
        have := List.map_inj_left.1 e _ hmem
        rw [Int.toNat_natCast] at this
        exact h5 this
end Go.Proofs.YtojanhpilhledaaDoor

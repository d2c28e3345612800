/-
  Texts put together: NE, NF.
-/
import Derived.Test.YtpkeikbiblfidaaGreatDoorMN4
/-
  Behind Full all nodes are as they should be (P20.3).
-/
namespace Go.Proofs.YtpkeikbiblfidaaGreatDoor
open Go.RowKit
set_option linter.unusedVariables false
set_option linter.unusedSimpArgs false

/-! ### All nodes are marked -/
theorem ch_some {n f x : Nat} (h : Ok n f) (hx : x < S n f (H n f + 1)) (hn : n ≤ x) : 0 < chNG n f x := by
  obtain ⟨a1, a2, a3⟩ := lvl_spec hx
  obtain ⟨a, ha⟩ : ∃ a, a = lvl n f x := ⟨_, rfl⟩
  rw [← ha] at a1 a2 a3
  cases a with
  | zero =>
    have : S n f (0 + 1) = 0 + n := rfl
    omega
  | succ k =>
    obtain ⟨e1, e2⟩ := ch_at (by omega) a2 a3
    rw [e2]
    have h3 : S n f (k + 1 + 1) = S n f (k + 1) + q n f (k + 1) := rfl
    have h4 : S n f (k + 1) = S n f k + q n f k := rfl
    have h5 : q n f (k + 1) = (q n f k + f - 1) / f := rfl
    have h6 := Nat.div_mul_le_self (q n f k + f - 1) f
    rw [← h5] at h6
    have h7 := q_pos h k
    have h7' := q_pos h (k + 1)
    have h8 := h.f1
    have h9 : (x - S n f (k + 1)) * f ≤ (q n f (k + 1) - 1) * f := Nat.mul_le_mul_right _ (by omega)
    have h10 : (q n f (k + 1) - 1) * f = q n f (k + 1) * f - f := by rw [Nat.sub_mul, Nat.one_mul]
    exact Nat.lt_min.2 ⟨by omega, by omega⟩
theorem every_leaf {N : Int} (k : Nat) (hk : (k : Int) < N) : leafM (everyL N) (everyL N).length k = true := by
  unfold leafM
  rw [List.take_length, List.any_eq_true]
  exact ⟨k, by unfold everyL; exact List.mem_map.2 ⟨k, List.mem_range.2 (by omega), rfl⟩, by simp⟩
theorem children_some {N F C U : Int} (hok : okG N F C U) (k : Nat) (hk : k < nodes N F C U) (hN : N ≤ (k : Int)) : 0 < (children N F C U k).length := by
  obtain ⟨n, f, rfl, rfl, ho⟩ := ok_of hok
  obtain ⟨hr, hn⟩ := top_root ho hok
  have e : nodes n f C U = S n f (H n f + 1) := by unfold nodes; rw [if_pos hok]; simp
  have hx : k < S n f (H n f + 1) := by omega
  unfold children
  rw [if_pos ⟨hok, by omega, by simp only [Int.toNat_natCast]; omega⟩]
  simp only [Int.toNat_natCast, ch, List.length_map, List.length_range]
  exact ch_some ho hx (by omega)
theorem all_marked {N F C U : Int} (hok : okG N F C U) (k : Nat) : k < nodes N F C U → ∀ i, k ≤ i → mkN (prN N F C U) (leafM (everyL N) (everyL N).length) i k = true := by
  induction k using Nat.strongRecOn with
  | ind k ih =>
    intro hk i hi
    by_cases hN : (k : Int) < N
    · exact mkN_mono (i := 0) (Nat.zero_le _) (every_leaf k hN)
    · have hc := children_some hok k hk (by omega)
      obtain ⟨c, hcv⟩ : ∃ c, c = (children N F C U k)[0]?.getD 0 := ⟨_, rfl⟩
      have hmem : c ∈ children N F C U k := by rw [hcv, List.getElem?_eq_getElem hc]; exact List.getElem_mem hc
      obtain ⟨j, rfl, hj⟩ := children_mem hmem
      have hp := parent_child hk hc hcv.symm
      have hpr : prN N F C U j = k := by unfold prN; rw [hp]; simp
      have h1 := ih j hj (by omega) j (Nat.le_refl _)
      refine mkN_mono (i := j + 1) (by omega) ?_
      rw [mkN_next, h1, hpr]
      simp
theorem markP_all {N F C U : Int} (hok : okG N F C U) (k : Nat) (hk : k < nodes N F C U) : markP N F C U (everyL N) k = true := all_marked hok k hk _ (by omega)

/-! ### What is reckoned -/
theorem nlAt_set {L : List ByteArray} {k j : Nat} {s : ByteArray} (hk : k < L.length) : lAt (L.set k s) j = if j = k then s else lAt L j := by
  unfold lAt
  rw [List.getElem?_set]
  by_cases h : k = j
  · subst h; simp [hk]
  · rw [if_neg h, if_neg (fun e => h e.symm)]
theorem kids_set {N F C U : Int} {L : List ByteArray} {k j : Nat} {s : ByteArray} (hk : k < L.length) (hj : j ≤ k) : kids (L.set k s) (children N F C U j) = kids L (children N F C U j) := by
  unfold kids
  refine List.map_congr_left fun c hc => ?_
  obtain ⟨i, rfl, hi⟩ := children_mem hc
  rw [nlAt_set hk, if_neg (by simp; omega)]
theorem hashR_set {N F C U : Int} {D : DS} {L : List ByteArray} {k j : Nat} {s : ByteArray} (hk : k < L.length) (hj : j ≤ k) : hashR N F C U D (L.set k s) j = hashR N F C U D L j := by
  unfold hashR
  rw [kids_set hk hj]
theorem runE_back {σ : Type} {f : Nat → σ → σ × Int} {s t : σ} {k : Nat} (h : runE f s (k + 1) = (t, 0)) : ∃ u, runE f s k = (u, 0) ∧ f k u = (t, 0) := by
  by_cases h0 : (runE f s k).2 = 0
  · refine ⟨(runE f s k).1, Prod.ext rfl h0, ?_⟩
    rw [← h, runE_next (t := (runE f s k).1) (Prod.ext rfl h0)]
  · rw [runE_stop h0 (Nat.le_succ _)] at h
    rw [h] at h0
    exact absurd rfl h0
theorem cmp_inv {N F C U : Int} {m : Nat → Bool} {D : DS} {L0 : List ByteArray} {n : Nat} (hm : ∀ k, k < n → m k = true) (hl : L0.length = n) : ∀ k, k ≤ n → ∀ L, cmpL N F C U m D L0 k = (L, 0) → L.length = n ∧ ∀ j, j < k → lAt L j = (hashR N F C U D L j).1 ∧ (hashR N F C U D L j).2 = 0
  | 0, _, L, h => by
    obtain rfl : L0 = L := congrArg Prod.fst h
    exact ⟨hl, fun j hj => by omega⟩
  | k + 1, hk, L, h => by
    obtain ⟨L1, h1, h2⟩ := runE_back h
    obtain ⟨i1, i2⟩ := cmp_inv hm hl k (by omega) L1 h1
    obtain ⟨s, e, hse⟩ : ∃ s e, hashR N F C U D L1 k = (s, e) := ⟨_, _, rfl⟩
    rw [cmpF_on (hm k (by omega)) hse] at h2
    have hk1 : k < L1.length := by omega
    by_cases he : e = 0
    · subst he
      rw [if_neg (by simp)] at h2
      obtain rfl : L1.set k s = L := congrArg Prod.fst h2
      refine ⟨by rw [List.length_set]; exact i1, fun j hj => ?_⟩
      rw [hashR_set hk1 (by omega), nlAt_set hk1]
      by_cases hjk : j = k
      · subst hjk; rw [if_pos rfl, hse]; exact ⟨rfl, rfl⟩
      · rw [if_neg hjk]; exact i2 j (by omega)
    · rw [if_pos he] at h2
      exact absurd (congrArg Prod.snd h2) he

/-! ### What is written is read -/
theorem look_front {W : List (Int × ByteArray)} {y : Int × ByteArray} {x : Int} {d : ByteArray} : ∀ n, n ≤ W.length → look (W ++ [y]) x d n = look W x d n
  | 0, _ => rfl
  | n + 1, h => by
    have e : wAt (W ++ [y]) n = wAt W n := by unfold wAt; rw [List.getElem?_append_left (by omega)]
    show (if _ then _ else _) = (if _ then _ else _)
    rw [e, look_front n (by omega)]
theorem write_shape {S : DS} {a : Int} {d : ByteArray} (h : (S.write a d).1 = 0) : S.off = false ∧ S.has a ∧ (S.write a d).2.L = S.L ∧ (S.write a d).2.W = S.W ++ [(a, d)] ∧ (S.write a d).2.off = false := by
  unfold DS.write at h ⊢
  split at h
  · cases h
  · rename_i h1
    split at h
    · rename_i h2
      split at h
      · rename_i h3
        split at h
        · cases h
        · rename_i h4
          rw [if_neg h1, if_pos h2, if_pos h3, if_neg h4]
          unfold DS.burnt
          rw [if_neg h4]
          refine ⟨by simpa using h1, h2, rfl, rfl, by simpa using h1⟩
      · cases h
    · cases h
theorem read_on {S : DS} (h : S.off = false) (x : Int) : S.read x = if 0 ≤ x ∧ x < (S.L.length : Int) then (look S.W x (lAt S.L x.toNat) S.W.length, 0) else (noBytes, 3) := by
  unfold DS.read
  rw [h, if_neg (by simp)]
  by_cases hx : S.has x
  · rw [if_pos hx, if_pos (show 0 ≤ x ∧ x < (S.L.length : Int) from hx)]
  · rw [if_neg hx, if_neg (show ¬ (0 ≤ x ∧ x < (S.L.length : Int)) from hx)]
theorem read_write {S : DS} {a : Int} {d : ByteArray} (h : (S.write a d).1 = 0) (x : Int) : (S.write a d).2.read x = if x = a then (d, 0) else S.read x := by
  obtain ⟨h1, h2, h3, h4, h5⟩ := write_shape h
  rw [read_on h5, read_on h1, h3, h4, List.length_append]
  have e : wAt (S.W ++ [(a, d)]) S.W.length = (a, d) := by simp [wAt]
  have e2 : ∀ dd, look (S.W ++ [(a, d)]) x dd (S.W.length + 1) = if a = x then d else look S.W x dd S.W.length := fun dd => by
    show (if (wAt (S.W ++ [(a, d)]) S.W.length).1 = x then (wAt (S.W ++ [(a, d)]) S.W.length).2 else look (S.W ++ [(a, d)]) x dd S.W.length) = _
    rw [e, look_front _ (Nat.le_refl _)]
  rw [show S.W.length + [(a, d)].length = S.W.length + 1 from rfl, e2]
  by_cases hx : x = a
  · subst hx
    rw [if_pos rfl, if_pos rfl, if_pos (show 0 ≤ x ∧ x < (S.L.length : Int) from h2)]
  · have hax : ¬ a = x := fun e => hx e.symm
    simp only [if_neg hax, if_neg hx]
theorem appW_look {L : List ByteArray} {W : List (Int × ByteArray)} {x : Int} (hx : 0 ≤ x) (hxl : x < (L.length : Int)) (hw : ∀ i, i < W.length → 0 ≤ (wAt W i).1 ∧ (wAt W i).1 < (L.length : Int)) : ∀ n, n ≤ W.length → lAt (appW L W n) x.toNat = look W x (lAt L x.toNat) n
  | 0, _ => rfl
  | n + 1, h => by
    show lAt ((appW L W n).set (wAt W n).1.toNat (wAt W n).2) x.toNat = (if (wAt W n).1 = x then (wAt W n).2 else look W x _ n)
    have h1 := hw n (by omega)
    rw [nlAt_set (by rw [appW_length]; omega), appW_look hx hxl hw n (by omega)]
    by_cases he : (wAt W n).1 = x
    · rw [if_pos (by rw [he]), if_pos he]
    · rw [if_neg (fun e => he (by omega)), if_neg he]
theorem read_flush {S : DS} {M : Nat} (hok : S.ok M) (h : S.flush.1 = 0) (x : Int) : S.flush.2.read x = S.read x := by
  unfold DS.flush at h ⊢
  split at h
  · cases h
  · rename_i h1
    split at h
    · cases h
    · rename_i h2
      rw [if_neg h1, if_neg h2]
      have h1' : S.off = false := by simpa using h1
      have hb : S.burnt.off = false := by unfold DS.burnt; rw [if_neg h2]; exact h1'
      rw [read_on (S := ⟨appW S.L S.W S.W.length, [], S.burnt.left, S.burnt.off, S.burnt.did⟩) hb, read_on h1']
      dsimp only
      rw [appW_length]
      by_cases hx : 0 ≤ x ∧ x < (S.L.length : Int)
      · rw [if_pos hx, if_pos hx]
        refine Prod.ext ?_ rfl
        exact appW_look hx.1 hx.2 (fun i hi => hok.ats i hi) _ (Nat.le_refl _)
      · rw [if_neg hx, if_neg hx]

theorem sav_inv {N F C U : Int} {m : Nat → Bool} {L : List ByteArray} {D : DS} (hok : okG N F C U) (hm : ∀ k, k < nodes N F C U → m k = true) : ∀ k, k ≤ nodes N F C U → ∀ T, savL N F C U m L D k = (T, 0) → (∀ x, T.read x = if 6 + N ≤ x ∧ x < 6 + N + k then (nodeRec (x - (6 + N)).toNat (lAt L (x - (6 + N)).toNat), 0) else D.read x) ∧ ∀ j, j < k → (lAt L j).size = 32
  | 0, _, T, h => by
    obtain rfl : D = T := congrArg Prod.fst h
    exact ⟨fun x => by rw [if_neg (by omega)], fun j hj => by omega⟩
  | k + 1, hk, T, h => by
    obtain ⟨T1, h1, h2⟩ := runE_back h
    obtain ⟨i1, i2⟩ := sav_inv hok hm k (by omega) T1 h1
    rw [savF_on (hm k (by omega))] at h2
    have e1 : (putNP N F C U T1 k (lAt L k)).1 = 0 := congrArg Prod.snd h2
    have e2 : (putNP N F C U T1 k (lAt L k)).2 = T := congrArg Prod.fst h2
    have hna : nodeAt N F C U k = 6 + N + k := by unfold nodeAt; rw [if_pos ⟨hok, by omega, by omega⟩]
    have hN := hok.1
    unfold putNP at e1 e2
    rw [if_neg (by rw [hna]; omega)] at e1 e2
    by_cases hs : (lAt L k).size = 32
    · rw [if_neg (by simpa using hs)] at e1 e2
      rw [hna] at e1 e2
      refine ⟨fun x => ?_, fun j hj => ?_⟩
      · rw [← e2, read_write e1, i1 x]
        by_cases hx : x = 6 + N + (k : Int)
        · subst hx
          rw [if_pos rfl, if_pos (by omega)]
          rw [show (6 + N + (k : Int) - (6 + N)).toNat = k from by omega]
          simp
        · rw [if_neg hx]
          by_cases hr : 6 + N ≤ x ∧ x < 6 + N + (k : Int)
          · rw [if_pos hr, if_pos (by omega)]
          · rw [if_neg hr, if_neg (by omega)]
      · rcases Nat.lt_or_ge j k with h3 | h3
        · exact i2 j h3
        · obtain rfl : j = k := by omega
          exact hs
    · rw [if_pos (by simpa using hs)] at e1
      cases e1
end Go.Proofs.YtpkeikbiblfidaaGreatDoor
/-
  Behind Mend nothing is found (P20.3).
-/
namespace Go.Proofs.YtpkeikbiblfidaaGreatDoor
open Go.RowKit
set_option linter.unusedVariables false
set_option linter.unusedSimpArgs false

theorem oth_all {N F C U : Int} {m : Nat → Bool} {D : DS} (hm : ∀ k, k < nodes N F C U → m k = true) : ∀ k, k ≤ nodes N F C U → othL N F C U m D k = (List.replicate (nodes N F C U) noBytes, 0)
  | 0, _ => rfl
  | k + 1, h => (runE_next (oth_all hm k (by omega))).trans (othF_mark (hm k (by omega)))
/-- What Full leaves, where it comes to its end. -/
structure Fresh (N F C U : Int) (D E : DS) (L : List ByteArray) : Prop where
  len : L.length = nodes N F C U
  right : ∀ j, j < nodes N F C U → lAt L j = (hashR N F C U D L j).1 ∧ (hashR N F C U D L j).2 = 0
  reads : ∀ x, E.read x = if 6 + N ≤ x ∧ x < 6 + N + (nodes N F C U : Nat) then (nodeRec (x - (6 + N)).toNat (lAt L (x - (6 + N)).toNat), 0) else D.read x
  small : ∀ j, j < nodes N F C U → (lAt L j).size = 32
theorem full_fresh {N F C U : Int} {D : DS} {M : Nat} (hok : okG N F C U) (hD : D.ok M) (h : (fullP N F C U D).1.2 = 0) : ∃ L, Fresh N F C U D (fullP N F C U D).2 L ∧ (fullP N F C U D).1.1 = (lAt L (nodes N F C U - 1)).data.toList := by
  have hm : ∀ k, k < nodes N F C U → markP N F C U (everyL N) k = true := fun k hk => markP_all hok k hk
  have hin : ∀ x ∈ everyL N, 0 ≤ x ∧ x < N := fun x hx => by
    obtain ⟨i, hi, rfl⟩ := List.mem_map.1 hx
    have := List.mem_range.1 hi
    omega
  have hne : everyL N ≠ [] := by
    have hN := hok.1
    intro e
    have := congrArg List.length e
    simp [everyL] at this
    omega
  have ho := oth_all (D := D) hm (nodes N F C U) (Nat.le_refl _)
  unfold fullP rehP at h ⊢
  rw [if_neg (by simpa using hok), if_neg (by simpa using hin), if_neg hne, ho] at h ⊢
  dsimp only at h ⊢
  rw [if_neg (show ¬ (0 : Int) ≠ 0 by simp)] at h ⊢
  obtain ⟨L, e, hLe⟩ : ∃ L e, cmpL N F C U (markP N F C U (everyL N)) D (List.replicate (nodes N F C U) noBytes) (nodes N F C U) = (L, e) := ⟨_, _, rfl⟩
  rw [hLe] at h ⊢
  dsimp only at h ⊢
  by_cases he : e = 0
  · subst he
    rw [if_neg (show ¬ (0 : Int) ≠ 0 by simp)] at h ⊢
    obtain ⟨c1, c2⟩ := cmp_inv hm (by simp) (nodes N F C U) (Nat.le_refl _) L hLe
    have hsok := savL_ok hD N F C U (markP N F C U (everyL N)) L (nodes N F C U)
    obtain ⟨T, f, hTf⟩ : ∃ T f, savL N F C U (markP N F C U (everyL N)) L D (nodes N F C U) = (T, f) := ⟨_, _, rfl⟩
    rw [hTf] at h hsok ⊢
    dsimp only at h hsok ⊢
    by_cases hf : f = 0
    · subst hf
      rw [if_neg (show ¬ (0 : Int) ≠ 0 by simp)] at h ⊢
      obtain ⟨s1, s2⟩ := sav_inv hok hm (nodes N F C U) (Nat.le_refl _) T hTf
      by_cases hz : T.flush.1 = 0
      · rw [if_neg (by simpa using hz)]
        refine ⟨L, ⟨c1, c2, fun x => ?_, s2⟩, rfl⟩
        dsimp only
        rw [read_flush hsok hz, s1]
      · rw [if_pos hz] at h
        exact absurd h hz
    · rw [if_pos hf] at h
      exact absurd h hf
  · rw [if_pos he] at h
    exact absurd h he

theorem getP_fresh {N F C U : Int} {D E : DS} {L : List ByteArray} (hok : okG N F C U) (h : Fresh N F C U D E L) (k : Nat) (hk : k < nodes N F C U) : getP N F C U E k = ((lAt L k).data.toList, 0) := by
  have hN := hok.1
  have hn := nodes_le N F C U
  have hna : nodeAt N F C U k = 6 + N + k := by unfold nodeAt; rw [if_pos ⟨hok, by omega, by omega⟩]
  have hs := h.small k hk
  have hsl : (lAt L k).data.toList.length = 32 := by rw [Array.length_toList]; exact hs
  unfold getP
  have hr := h.reads (6 + N + (k : Int))
  rw [if_pos (by omega), show (6 + N + (k : Int) - (6 + N)).toNat = k from by omega] at hr
  rw [hna, if_neg (by omega), hr]
  dsimp only
  rw [if_neg (by simp)]
  have hb : (enc k 2 ++ (lAt L k).data.toList).length = 34 := by rw [List.length_append, enc_length, hsl]
  have e1 := recL_kind 6 (enc k 2 ++ (lAt L k).data.toList) (by omega) (by omega) (by omega)
  have e2 := recL_1 6 (enc k 2 ++ (lAt L k).data.toList) (by omega)
  have e3 : ((recL 6 (enc k 2 ++ (lAt L k).data.toList)).take (2 + nb (recL 6 (enc k 2 ++ (lAt L k).data.toList)) 1)).drop 2 = enc k 2 ++ (lAt L k).data.toList := by
    rw [e2]
    have h60 := recL_take 6 (enc k 2 ++ (lAt L k).data.toList) (by omega)
    have := pre60_body 6 (enc k 2 ++ (lAt L k).data.toList)
    rw [← h60, List.take_take, Nat.min_eq_left (by omega)] at this
    exact this
  have e4 : openP 6 (nodeRec k (lAt L k)).data.toList = (enc k 2 ++ (lAt L k).data.toList, 0) := by
    unfold nodeRec openP
    simp only [List.toList_toArray]
    rw [e1, if_neg (by simp), if_neg (by simp), e3]
  rw [e4]
  unfold getB
  rw [if_neg (by simp)]
  dsimp only
  have e5 : (enc k 2 ++ (lAt L k).data.toList).drop 2 = (lAt L k).data.toList := by
    rw [List.drop_append_of_le_length (by rw [enc_length]; omega), List.drop_of_length_le (by rw [enc_length]; omega)]; rfl
  have e6 : (enc k 2 ++ (lAt L k).data.toList).take 2 = enc k 2 := by
    rw [List.take_append_of_le_length (by rw [enc_length]; omega), List.take_of_length_le (by rw [enc_length]; omega)]
  rw [e5, e6, enc_num, Nat.mod_eq_of_lt (by omega), if_pos ⟨hsl, rfl⟩]

theorem bytes_back (s : ByteArray) : (⟨s.data.toList.toArray⟩ : ByteArray) = s := by cases s; simp
theorem kidL_fresh {N F C U : Int} {D E : DS} {L : List ByteArray} (hok : okG N F C U) (h : Fresh N F C U D E L) {k : Nat} (hk : k < nodes N F C U) : ∀ i, i ≤ (children N F C U k).length → kidL N F C U E (children N F C U k) i = (kids L ((children N F C U k).take i), 0)
  | 0, _ => rfl
  | i + 1, hi => by
    have hc : i < (children N F C U k).length := by omega
    have hmem : (children N F C U k)[i]?.getD 0 ∈ children N F C U k := by rw [List.getElem?_eq_getElem hc]; exact List.getElem_mem hc
    obtain ⟨j, hj, hjk⟩ := children_mem hmem
    have hg := getP_fresh hok h j (by omega)
    rw [← hj] at hg
    refine (runE_next (kidL_fresh hok h hk i (by omega))).trans ?_
    rw [kidF_ok hg, kids_take hc, bytes_back, hj]
    simp

theorem wrong_fresh {N F C U : Int} {D E : DS} {L : List ByteArray} (hok : okG N F C U) (h : Fresh N F C U D E L) {k : Nat} (hk : k < nodes N F C U) : wrongB N F C U E k = false := by
  have hN := hok.1
  obtain ⟨r1, r2⟩ := h.right k hk
  unfold wrongB
  rw [getP_fresh hok h k hk]
  dsimp only
  rw [if_neg (by simp), bytes_back]
  refine decide_eq_false fun ⟨_, hne⟩ => hne ?_
  rw [r1]
  unfold hashR expR
  by_cases hkN : (k : Int) < N
  · rw [if_pos hkN, if_pos hkN]
    unfold hashR at r2
    rw [if_pos hkN] at r2
    by_cases hz : (D.read (dataAt N F C U k)).2 = 0
    · rw [if_neg (by simpa using hz)]
      dsimp only
      have hda : dataAt N F C U k = 6 + (k : Int) := by unfold dataAt; rw [if_pos ⟨hok, by omega, hkN⟩]
      rw [h.reads, if_neg (by rw [hda]; omega)]
    · rw [if_pos hz] at r2
      exact absurd r2 hz
  · rw [if_neg hkN, if_neg hkN]
    have e := kidL_fresh hok h hk _ (Nat.le_refl _)
    rw [List.take_length] at e
    rw [e]
    rfl

/-- Behind Mend nothing is found. -/
theorem mend_clean {N F C U : Int} {D : DS} {M : Nat} (hD : D.ok M) (h : (mendP N F C U D).1.2 = 0) : findP N F C U (mendP N F C U D).2 [] = ([], 0) := by
  unfold mendP at h ⊢
  by_cases h1 : (findP N F C U D []).2 = 0
  · rw [if_neg (by simpa using h1)] at h ⊢
    by_cases h2 : (fullP N F C U D).1.2 = 0
    · rw [if_neg (by simpa using h2)]
      dsimp only
      by_cases hok : okG N F C U
      · obtain ⟨L, hF, -⟩ := full_fresh hok hD h2
        have hrd : (rdE D (N.toNat + nodes N F C U)).2 = 0 := by
          unfold findP at h1
          rw [if_neg (by simpa using hok)] at h1
          by_cases hz : (rdE D (N.toNat + nodes N F C U)).2 = 0
          · exact hz
          · rw [if_pos hz] at h1; exact h1
        have hN := hok.1
        have hall := rdE_ok hrd
        have hre : ∀ K, K ≤ N.toNat + nodes N F C U → rdE (fullP N F C U D).2 K = ((), 0) := fun K => by
          induction K with
          | zero => intro _; rfl
          | succ K ih =>
            intro hK
            refine (runE_next (ih (by omega))).trans (Prod.ext rfl ?_)
            show ((fullP N F C U D).2.read (6 + (K : Int))).2 = 0
            rw [hF.reads]
            split
            · rfl
            · exact hall K (by omega)
        unfold findP
        rw [if_neg (by simpa using hok), hre _ (Nat.le_refl _), if_neg (by simp)]
        refine Prod.ext ?_ rfl
        show findK N F C U _ _ _ = []
        unfold findK
        rw [List.map_eq_nil_iff, List.filter_eq_nil_iff]
        intro k hk
        rw [wrong_fresh hok hF (List.mem_range.1 hk)]
        simp
      · unfold findP at h1
        rw [if_pos hok] at h1
        cases h1
    · rw [if_pos h2] at h
      exact absurd h h2
  · rw [if_pos h1] at h
    exact absurd h h1
end Go.Proofs.YtpkeikbiblfidaaGreatDoor

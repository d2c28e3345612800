/-
  Texts put together: NI, NJ, NK.
-/
import Derived.Test.YtpkeikbiblfidaaGreatDoorMNE
import Derived.Test.YtpkeikbiblfidaaGreatDoorMNA
/-
  Full comes to its end where no fuse burns; leaves that are others (P20.4).
-/
namespace Go.Proofs.YtpkeikbiblfidaaGreatDoor
open Go.RowKit
set_option linter.unusedVariables false
set_option linter.unusedSimpArgs false

theorem write_on {S : DS} (h : S.off = false) (hl : S.left = -1) (a : Int) (d : ByteArray) : (S.write a d).2.off = false ∧ (S.write a d).2.left = -1 ∧ (S.write a d).2.L = S.L := by
  have hb : S.burnt.off = false ∧ S.burnt.left = -1 ∧ S.burnt.L = S.L := by
    unfold DS.burnt
    rw [hl, if_neg (by decide), if_neg (by decide)]
    exact ⟨h, rfl, rfl⟩
  unfold DS.write
  rw [h, if_neg (by simp)]
  split
  · split
    · rw [hl, if_neg (by decide)]
      exact hb
    · exact ⟨h, hl, rfl⟩
  · exact ⟨h, hl, rfl⟩
theorem write_done {S : DS} (h : S.off = false) (hl : S.left = -1) {a : Int} {d : ByteArray} (ha : S.has a) (hd : d.size = 64) : (S.write a d).1 = 0 := by
  unfold DS.write
  rw [h, if_neg (by simp), if_pos ha, if_pos hd, hl, if_neg (by decide)]
theorem read_done {S : DS} (h : S.off = false) {x : Int} (h0 : 0 ≤ x) (h1 : x < (S.L.length : Int)) : (S.read x).2 = 0 := by
  rw [read_on h, if_pos ⟨h0, h1⟩]
theorem cmp_done {N F C U : Int} {m : Nat → Bool} {D : DS} {L0 : List ByteArray} (hok : okG N F C U) (h : D.off = false) (hl : 6 + N ≤ (D.L.length : Int)) : ∀ k, (cmpL N F C U m D L0 k).2 = 0
  | 0 => rfl
  | k + 1 => by
    have ih := cmp_done (m := m) (L0 := L0) hok h hl k
    have e : cmpL N F C U m D L0 (k + 1) = cmpF N F C U m D k (cmpL N F C U m D L0 k).1 := runE_next (Prod.ext rfl ih)
    rw [e]
    unfold cmpF
    split
    · rfl
    · split
      · rename_i hk
        have hda : dataAt N F C U k = 6 + (k : Int) := by unfold dataAt; rw [if_pos ⟨hok, by omega, hk⟩]
        have hr : (D.read (dataAt N F C U k)).2 = 0 := read_done h (by omega) (by omega)
        rw [if_neg (by simpa using hr)]
      · rfl
theorem nodeRec_size (k : Nat) (s : ByteArray) (h : s.size = 32) : (nodeRec k s).size = 64 := by
  have hsl : s.data.toList.length = 32 := by rw [Array.length_toList]; exact h
  have := recL_length 6 (enc k 2 ++ s.data.toList) (by rw [List.length_append, enc_length]; omega)
  unfold nodeRec
  show (List.toArray _).size = 64
  rw [List.size_toArray]
  exact this
theorem sav_done {N F C U : Int} {m : Nat → Bool} {L : List ByteArray} {D : DS} (hok : okG N F C U) (h : D.off = false) (hf : D.left = -1) (hl : 6 + N + (nodes N F C U : Nat) ≤ (D.L.length : Int)) (h32 : ∀ j, j < nodes N F C U → (lAt L j).size = 32) : ∀ k, k ≤ nodes N F C U → (savL N F C U m L D k).2 = 0 ∧ (savL N F C U m L D k).1.off = false ∧ (savL N F C U m L D k).1.left = -1 ∧ (savL N F C U m L D k).1.L = D.L
  | 0, _ => ⟨rfl, h, hf, rfl⟩
  | k + 1, hk => by
    obtain ⟨i0, i1, i2, i3⟩ := sav_done (m := m) hok h hf hl h32 k (by omega)
    have e : savL N F C U m L D (k + 1) = savF N F C U m L k (savL N F C U m L D k).1 := runE_next (Prod.ext rfl i0)
    rw [e]
    obtain ⟨T, hT⟩ : ∃ T, T = (savL N F C U m L D k).1 := ⟨_, rfl⟩
    rw [← hT] at i1 i2 i3 ⊢
    cases hm : m k with
    | false => rw [savF_off hm]; exact ⟨rfl, i1, i2, i3⟩
    | true =>
      rw [savF_on hm]
      have hN := hok.1
      have hna : nodeAt N F C U k = 6 + N + k := by unfold nodeAt; rw [if_pos ⟨hok, by omega, by omega⟩]
      unfold putNP
      rw [hna, if_neg (by omega), if_neg (by have := h32 k (by omega); simpa using this)]
      obtain ⟨w1, w2, w3⟩ := write_on i1 i2 (6 + N + (k : Int)) (nodeRec (k : Int).toNat (lAt L k))
      exact ⟨write_done i1 i2 (by unfold DS.has; rw [i3]; omega) (nodeRec_size _ _ (h32 k (by omega))), w1, w2, w3.trans i3⟩
theorem flush_done {S : DS} (h : S.off = false) (hl : S.left = -1) : S.flush.1 = 0 ∧ S.flush.2.off = false ∧ S.flush.2.left = -1 ∧ S.flush.2.L.length = S.L.length := by
  unfold DS.flush
  rw [h, if_neg (by simp), hl, if_neg (by decide)]
  unfold DS.burnt
  rw [hl, if_neg (by decide), if_neg (by decide)]
  exact ⟨rfl, h, rfl, appW_length _ _ _⟩
theorem hashR_32 (N F C U : Int) (D : DS) (L : List ByteArray) (k : Nat) (h : (hashR N F C U D L k).2 = 0) : (hashR N F C U D L k).1.size = 32 := by
  unfold hashR at h ⊢
  split at h
  · rename_i hk
    rw [if_pos hk]
    split at h
    · rename_i hz; exact absurd h hz
    · rename_i hz
      rw [if_neg hz]
      exact hleafB_size _
  · rename_i hk
    rw [if_neg hk]
    exact hnodeB_size _
theorem full_done {N F C U : Int} {D : DS} (hok : okG N F C U) (h : D.off = false) (hf : D.left = -1) (hl : 6 + N + (nodes N F C U : Nat) ≤ (D.L.length : Int)) : (fullP N F C U D).1.2 = 0 ∧ (fullP N F C U D).2.off = false ∧ (fullP N F C U D).2.left = -1 ∧ (fullP N F C U D).2.L.length = D.L.length := by
  have hm : ∀ k, k < nodes N F C U → markP N F C U (everyL N) k = true := fun k hk => markP_all hok k hk
  have hin : ∀ x ∈ everyL N, 0 ≤ x ∧ x < N := fun x hx => by
    obtain ⟨i, hi, rfl⟩ := List.mem_map.1 hx
    have := List.mem_range.1 hi
    omega
  have hN := hok.1
  have hne : everyL N ≠ [] := by
    intro e
    have := congrArg List.length e
    simp [everyL] at this
    omega
  have ho := oth_all (D := D) hm (nodes N F C U) (Nat.le_refl _)
  unfold fullP rehP
  rw [if_neg (by simpa using hok), if_neg (by simpa using hin), if_neg hne, ho]
  dsimp only
  rw [if_neg (show ¬ (0 : Int) ≠ 0 by simp)]
  have hc := cmp_done (m := markP N F C U (everyL N)) (L0 := List.replicate (nodes N F C U) noBytes) hok h (by omega) (nodes N F C U)
  obtain ⟨L, e, hLe⟩ : ∃ L e, cmpL N F C U (markP N F C U (everyL N)) D (List.replicate (nodes N F C U) noBytes) (nodes N F C U) = (L, e) := ⟨_, _, rfl⟩
  rw [hLe] at hc ⊢
  dsimp only at hc ⊢
  subst hc
  rw [if_neg (show ¬ (0 : Int) ≠ 0 by simp)]
  obtain ⟨c1, c2⟩ := cmp_inv hm (by simp) (nodes N F C U) (Nat.le_refl _) L hLe
  have h32 : ∀ j, j < nodes N F C U → (lAt L j).size = 32 := fun j hj => by
    rw [(c2 j hj).1]; exact hashR_32 _ _ _ _ _ _ _ (c2 j hj).2
  obtain ⟨s0, s1, s2, s3⟩ := sav_done (m := markP N F C U (everyL N)) (D := D) hok h hf hl h32 (nodes N F C U) (Nat.le_refl _)
  obtain ⟨f0, f1, f2, f3⟩ := flush_done s1 s2
  rw [if_neg (by simpa using s0), if_neg (by simpa using f0)]
  exact ⟨rfl, f1, f2, f3.trans (by rw [s3])⟩
end Go.Proofs.YtpkeikbiblfidaaGreatDoor
/-
  A tree that is right, and data sectors that are others: what is found (P20.4).
-/
namespace Go.Proofs.YtpkeikbiblfidaaGreatDoor
open Go.RowKit
set_option linter.unusedVariables false
set_option linter.unusedSimpArgs false

/-- A disk whose nodes have the records of L's digests. -/
structure Kept (N F C U : Int) (E : DS) (L : List ByteArray) : Prop where
  reads : ∀ x, 6 + N ≤ x → x < 6 + N + (nodes N F C U : Nat) → E.read x = (nodeRec (x - (6 + N)).toNat (lAt L (x - (6 + N)).toNat), 0)
  small : ∀ j, j < nodes N F C U → (lAt L j).size = 32
/-- The disk of which L was made. -/
def lessOf (E : DS) : DS := E
theorem getP_kept {N F C U : Int} {E : DS} {L : List ByteArray} (hok : okG N F C U) (h : Kept N F C U E L) (k : Nat) (hk : k < nodes N F C U) : getP N F C U E k = ((lAt L k).data.toList, 0) := by
  have hN := hok.1
  have hn := nodes_le N F C U
  have hna : nodeAt N F C U k = 6 + N + k := by unfold nodeAt; rw [if_pos ⟨hok, by omega, by omega⟩]
  have hs := h.small k hk
  have hsl : (lAt L k).data.toList.length = 32 := by rw [Array.length_toList]; exact hs
  unfold getP
  have hr := h.reads (6 + N + (k : Int)) (by omega) (by omega)
  rw [show (6 + N + (k : Int) - (6 + N)).toNat = k from by omega] at hr
  rw [hna, if_neg (by omega), hr]
  dsimp only
  rw [if_neg (by simp)]
  have hb : (enc k 2 ++ (lAt L k).data.toList).length = 34 := by rw [List.length_append, enc_length, hsl]
  have e1 := recL_kind 6 (enc k 2 ++ (lAt L k).data.toList) (by omega) (by omega) (by omega)
  have e2 := recL_1 6 (enc k 2 ++ (lAt L k).data.toList) (by omega)
  have e3 : ((recL 6 (enc k 2 ++ (lAt L k).data.toList)).take (2 + nb (recL 6 (enc k 2 ++ (lAt L k).data.toList)) 1)).drop 2 = enc k 2 ++ (lAt L k).data.toList := by
    rw [e2]
    have h60 := recL_take 6 (enc k 2 ++ (lAt L k).data.toList) (by omega)
    have := pre60_body 6 (enc k 2 ++ (lAt L k).data.toList)
    rw [← h60, List.take_take, Nat.min_eq_left (by omega)] at this
    exact this
  have e4 : openP 6 (nodeRec k (lAt L k)).data.toList = (enc k 2 ++ (lAt L k).data.toList, 0) := by
    unfold nodeRec openP
    simp only [List.toList_toArray]
    rw [e1, if_neg (by simp), if_neg (by simp), e3]
  rw [e4]
  unfold getB
  rw [if_neg (by simp)]
  dsimp only
  have e5 : (enc k 2 ++ (lAt L k).data.toList).drop 2 = (lAt L k).data.toList := by
    rw [List.drop_append_of_le_length (by rw [enc_length]; omega), List.drop_of_length_le (by rw [enc_length]; omega)]; rfl
  have e6 : (enc k 2 ++ (lAt L k).data.toList).take 2 = enc k 2 := by
    rw [List.take_append_of_le_length (by rw [enc_length]; omega), List.take_of_length_le (by rw [enc_length]; omega)]
  rw [e5, e6, enc_num, Nat.mod_eq_of_lt (by omega), if_pos ⟨hsl, rfl⟩]
theorem kidL_kept {N F C U : Int} {E : DS} {L : List ByteArray} (hok : okG N F C U) (h : Kept N F C U E L) {k : Nat} (hk : k < nodes N F C U) : ∀ i, i ≤ (children N F C U k).length → kidL N F C U E (children N F C U k) i = (kids L ((children N F C U k).take i), 0)
  | 0, _ => rfl
  | i + 1, hi => by
    have hc : i < (children N F C U k).length := by omega
    have hmem : (children N F C U k)[i]?.getD 0 ∈ children N F C U k := by rw [List.getElem?_eq_getElem hc]; exact List.getElem_mem hc
    obtain ⟨j, hj, hjk⟩ := children_mem hmem
    have hg := getP_kept hok h j (by omega)
    rw [← hj] at hg
    refine (runE_next (kidL_kept hok h hk i (by omega))).trans ?_
    rw [kidF_ok hg, kids_take hc, bytes_back, hj]
    simp
/-- Whether a data sector is told. -/
def odd0 (E : DS) (i : Nat) : Bool := !decide (leafB (secOf 0) = leafB (E.read (6 + (i : Int))).1)
theorem wrong_kept {N F C U : Int} {D E : DS} {L : List ByteArray} (hok : okG N F C U) (h : Kept N F C U E L) (hr : ∀ j, j < nodes N F C U → lAt L j = (hashR N F C U D L j).1 ∧ (hashR N F C U D L j).2 = 0) (hD : ∀ i : Nat, (i : Int) < N → D.read (6 + (i : Int)) = (secOf 0, 0)) (hE : ∀ i : Nat, (i : Int) < N → (E.read (6 + (i : Int))).2 = 0) {k : Nat} (hk : k < nodes N F C U) : wrongB N F C U E k = (decide ((k : Int) < N) && odd0 E k) := by
  have hN := hok.1
  obtain ⟨r1, r2⟩ := hr k hk
  unfold wrongB
  rw [getP_kept hok h k hk]
  dsimp only
  rw [if_neg (by simp), bytes_back, r1]
  unfold hashR expR
  by_cases hkN : (k : Int) < N
  · have hda : dataAt N F C U k = 6 + (k : Int) := by unfold dataAt; rw [if_pos ⟨hok, by omega, hkN⟩]
    rw [if_pos hkN, if_pos hkN, hda, hD k hkN, if_neg (by simp)]
    dsimp only
    rw [hE k hkN]
    unfold odd0
    simp [hkN]
  · rw [if_neg hkN, if_neg hkN]
    have e := kidL_kept hok h hk _ (Nat.le_refl _)
    rw [List.take_length] at e
    rw [e]
    simp [hkN]

/-- The numbers among the first k of which f says so. -/
def tellL (f : Nat → Bool) (k : Nat) : List Int := ((List.range k).filter f).map fun j : Nat => (j : Int)
theorem tellL_next (f : Nat → Bool) (k : Nat) : tellL f (k + 1) = tellL f k ++ (if f k = true then [(k : Int)] else []) := by
  unfold tellL
  rw [List.range_succ, List.filter_append, List.map_append]
  congr 1
  by_cases h : f k = true
  · rw [if_pos h]; simp [List.filter_cons, h]
  · rw [if_neg h]; simp [List.filter_cons, h]
theorem tellL_front (f : Nat → Bool) (i : Nat) : ∀ n, i ≤ n → ∃ G, tellL f n = tellL f i ++ G ∧ ∀ x ∈ G, (i : Int) ≤ x
  | 0, h => ⟨[], by obtain rfl : i = 0 := by omega
                    simp, fun x hx => by cases hx⟩
  | n + 1, h => by
    rcases Nat.lt_or_ge n i with h1 | h1
    · obtain rfl : i = n + 1 := by omega
      exact ⟨[], by simp, fun x hx => by cases hx⟩
    · obtain ⟨G, hG, hx⟩ := tellL_front f i n h1
      refine ⟨G ++ (if f n = true then [(n : Int)] else []), by rw [tellL_next, hG, List.append_assoc], fun x hx' => ?_⟩
      rcases List.mem_append.1 hx' with h2 | h2
      · exact hx x h2
      · split at h2
        · rw [List.mem_singleton.1 h2]; omega
        · cases h2
/-- Where number i is told, it stands behind those ahead of it. -/
theorem tellL_at (f : Nat → Bool) {i n : Nat} (h : i < n) : if f i = true then (tellL f i).length < (tellL f n).length ∧ (tellL f n)[(tellL f i).length]?.getD 0 = (i : Int) else (tellL f i).length < (tellL f n).length → (tellL f n)[(tellL f i).length]?.getD 0 ≠ (i : Int) := by
  obtain ⟨G, hG, hx⟩ := tellL_front f (i + 1) n h
  have hn := tellL_next f i
  split
  · rename_i hf
    rw [if_pos hf] at hn
    rw [hG, hn]
    refine ⟨by simp, ?_⟩
    rw [List.append_assoc, List.getElem?_append_right (Nat.le_refl _)]
    simp
  · rename_i hf
    rw [if_neg hf, List.append_nil] at hn
    rw [hG, hn]
    intro hl
    rw [List.length_append] at hl
    rw [List.getElem?_append_right (Nat.le_refl _), Nat.sub_self]
    have h0 : 0 < G.length := by omega
    rw [List.getElem?_eq_getElem h0]
    have := hx _ (List.getElem_mem h0)
    simp only [Option.getD_some]
    omega
theorem findK_tell {N F C U : Int} {E : DS} {f : Nat → Bool} {n k : Nat} (hN : N = (n : Int)) (hk : n ≤ k) (hw : ∀ j, j < k → wrongB N F C U E j = (decide ((j : Int) < N) && f j)) : findK N F C U E (docM N F C U [] ([] : List Int).length) k = tellL f n := by
  have h0 : ∀ j, docM N F C U [] ([] : List Int).length j = false := fun j => by simp [docM]
  have key : ∀ i, i ≤ k → findK N F C U E (docM N F C U [] ([] : List Int).length) i = tellL f (min i n) := fun i => by
    induction i with
    | zero => intro _; simp [findK, tellL]
    | succ i ih =>
      intro hi
      rw [findK_next, ih (by omega), h0, hw i (by omega)]
      by_cases hin : i < n
      · rw [show min (i + 1) n = i + 1 from Nat.min_eq_left (by omega), show min i n = i from Nat.min_eq_left (by omega), tellL_next]
        rw [show decide ((i : Int) < N) = true from decide_eq_true (by omega)]
        simp
      · rw [show min (i + 1) n = n from Nat.min_eq_right (by omega), show min i n = n from Nat.min_eq_right (by omega)]
        rw [show decide ((i : Int) < N) = false from decide_eq_false (by omega)]
        simp
  rw [key k (Nat.le_refl _), Nat.min_eq_right hk]
end Go.Proofs.YtpkeikbiblfidaaGreatDoor
/-
  twin of layer 20; the disk of ScrubTells.
-/
namespace Go.Proofs.YtpkeikbiblfidaaGreatDoor
open Go.RowKit
set_option linter.unusedVariables false
set_option linter.unusedSimpArgs false

theorem write_other {S : DS} (h : S.off = false) (hl : S.left = -1) {a x : Int} (d : ByteArray) (hx : x ≠ a) : (S.write a d).2.read x = S.read x := by
  by_cases hz : (S.write a d).1 = 0
  · rw [read_write hz, if_neg hx]
  · by_cases ha : S.has a
    · by_cases hd : d.size = 64
      · exact absurd (write_done h hl ha hd) hz
      · have e : S.write a d = (4, S) := by unfold DS.write; rw [h, if_neg (by simp), if_pos ha, if_neg hd]
        rw [e]
    · have e : S.write a d = (3, S) := by unfold DS.write; rw [h, if_neg (by simp), if_neg ha]
      rw [e]
theorem puts_on {S : DS} (h : S.off = false) (hl : S.left = -1) (X : Nat → PK) : ∀ k, (putsS S X k).off = false ∧ (putsS S X k).left = -1 ∧ (putsS S X k).L = S.L
  | 0 => ⟨h, hl, rfl⟩
  | k + 1 => by
    obtain ⟨i1, i2, i3⟩ := puts_on h hl X k
    obtain ⟨w1, w2, w3⟩ := write_on i1 i2 (X k).at' (X k).data
    exact ⟨w1, w2, w3.trans i3⟩
theorem puts_other {S : DS} (h : S.off = false) (hl : S.left = -1) (X : Nat → PK) {x : Int} : ∀ k, (∀ j, j < k → x ≠ (X j).at') → (putsS S X k).read x = S.read x
  | 0, _ => rfl
  | k + 1, hx => by
    obtain ⟨i1, i2, i3⟩ := puts_on h hl X k
    exact (write_other i1 i2 _ (hx k (by omega))).trans (puts_other h hl X k fun j hj => hx j (by omega))
theorem ds0_read (n : Nat) {x : Int} (h0 : 0 ≤ x) (h1 : x < (n : Int)) : (ds0 n).read x = (secOf 0, 0) := by
  rw [read_on rfl]
  have hl : (ds0 n).L.length = n := by simp [ds0]
  rw [hl, if_pos ⟨h0, h1⟩]
  show (lAt (List.replicate n (secOf 0)) x.toNat, 0) = _
  unfold lAt
  rw [List.getElem?_replicate, if_pos (by omega)]
  rfl

/-- What is found on a disk whose tree was right, behind writes to data sectors. -/
theorem tells_find {N F C U : Int} {n : Nat} (hok : okG N F C U) (hn : 6 + N + (nodes N F C U : Nat) ≤ (n : Int)) (h12 : n ≤ 1200) (X : Nat → PK) (l : Nat) (hX : ∀ k, (X k).at' = -1 ∨ 6 ≤ (X k).at' ∧ (X k).at' < 6 + N) : findP N F C U (putsS (fullP N F C U (ds0 n)).2 X l) [] = (tellL (odd0 (putsS (fullP N F C U (ds0 n)).2 X l)) N.toNat, 0) ∧ ∀ i : Nat, (i : Int) < N → ((putsS (fullP N F C U (ds0 n)).2 X l).read (6 + (i : Int))).2 = 0 := by
  have hN := hok.1
  have hl0 : (ds0 n).L.length = n := by simp [ds0]
  obtain ⟨f0, f1, f2, f3⟩ := full_done (D := ds0 n) hok rfl rfl (by rw [hl0]; exact hn)
  obtain ⟨L, hF, -⟩ := full_fresh hok (ds0_ok n h12) f0
  obtain ⟨p1, p2, p3⟩ := puts_on f1 f2 X l
  have hoth := fun x => puts_other (x := x) f1 f2 X l
  obtain ⟨S0, hS0⟩ : ∃ S, S = (fullP N F C U (ds0 n)).2 := ⟨_, rfl⟩
  rw [← hS0] at hF f3 p1 p2 p3 hoth ⊢
  obtain ⟨E, hE⟩ : ∃ E, E = putsS S0 X l := ⟨_, rfl⟩
  rw [← hE] at p1 p2 p3 hoth ⊢
  have hlen : E.L.length = n := by rw [p3, f3, hl0]
  have hrd : ∀ x : Int, 0 ≤ x → x < (n : Int) → (E.read x).2 = 0 := fun x h0 h1 => read_done p1 h0 (by rw [hlen]; exact h1)
  have hk : Kept N F C U E L := ⟨fun x h0 h1 => by
    rw [hoth x (fun j _ e => by rcases hX j with h | h <;> omega), hF.reads, if_pos ⟨h0, h1⟩], hF.small⟩
  have hdat : ∀ i : Nat, (i : Int) < N → (E.read (6 + (i : Int))).2 = 0 := fun i hi => hrd _ (by omega) (by omega)
  refine ⟨?_, hdat⟩
  have hw := fun j hj => wrong_kept hok hk hF.right (fun i hi => ds0_read n (by omega) (by omega)) hdat (k := j) hj
  have hre : ∀ K, K ≤ N.toNat + nodes N F C U → rdE E K = ((), 0) := fun K => by
    induction K with
    | zero => intro _; rfl
    | succ K ih =>
      intro hK
      exact (runE_next (ih (by omega))).trans (Prod.ext rfl (hrd _ (by omega) (by omega)))
  unfold findP
  rw [if_neg (by simpa using hok), hre _ (Nat.le_refl _), if_neg (by simp)]
  refine Prod.ext ?_ rfl
  have hle : N.toNat ≤ nodes N F C U := by
    obtain ⟨n', f, rfl, rfl, ho⟩ := ok_of hok
    have e : nodes n' f C U = S n' f (H n' f + 1) := by unfold nodes; rw [if_pos hok]; simp
    have e2 : S n' f 1 = 0 + n' := rfl
    have e3 := @S_mono n' f 1 (H n' f + 1) (by omega)
    simp only [Int.toNat_natCast]
    omega
  exact findK_tell (by omega) hle hw

/-! ### twin -/
theorem tw_nodes : nodes 1 2 0 1 = 1 ∧ dataAt 1 2 0 1 0 = 6 ∧ sizeOf' 1 2 0 1 1 = 10 := by decide +kernel
theorem tw_full (s : ByteArray) (hs : s.size = 64) : (fullP 1 2 0 1 ((fullP 1 2 0 1 (ds0 10)).2.write 6 s).2).1 = ((leafB s).data.toList, 0) := by
  have hok : okG 1 2 0 1 := by decide
  obtain ⟨f0, f1, f2, f3⟩ := full_done (D := ds0 10) hok rfl rfl (by rw [tw_nodes.1]; decide)
  have hk0 := (rehP_all (ds0_ok 10 (by omega)) (ds0_sz 10) 1 2 0 1 (everyL 1)).1
  change ((fullP 1 2 0 1 (ds0 10)).2).ok _ at hk0
  obtain ⟨S0, hS0⟩ : ∃ S, S = (fullP 1 2 0 1 (ds0 10)).2 := ⟨_, rfl⟩
  rw [← hS0] at f1 f2 f3 hk0 ⊢
  have hl : S0.L.length = 10 := by rw [f3]; simp [ds0]
  obtain ⟨w1, w2, w3⟩ := write_on f1 f2 6 s
  have hz := write_done f1 f2 (a := 6) (d := s) (by unfold DS.has; rw [hl]; omega) hs
  have hrd := read_write hz 6
  rw [if_pos rfl] at hrd
  obtain ⟨g0, -⟩ := full_done (D := (S0.write 6 s).2) hok w1 w2 (by rw [w3, hl, tw_nodes.1]; decide)
  obtain ⟨L, hF, hroot⟩ := full_fresh hok (hk0.write 6 s) g0
  refine Prod.ext ?_ g0
  rw [hroot, tw_nodes.1, (hF.right 0 (by rw [tw_nodes.1]; omega)).1]
  unfold hashR
  rw [if_pos (by decide)]
  rw [show ((0 : Nat) : Int) = 0 from rfl, tw_nodes.2.1, hrd, if_neg (by simp)]
end Go.Proofs.YtpkeikbiblfidaaGreatDoor

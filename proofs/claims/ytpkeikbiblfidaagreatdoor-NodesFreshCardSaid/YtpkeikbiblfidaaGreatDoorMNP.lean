/-
  Texts put together: NP, NQ, NR.
-/
import Derived.Test.YtpkeikbiblfidaaGreatDoorMNI
import Derived.Test.YtpkeikbiblfidaaGreatDoorMU2
import Derived.Test.YtpkeikbiblfidaaGreatDoorMOS
import Derived.Deep.RegionHeld3
import Derived.Deep.DeepCutAuto
/-
  Rehash of some leaves on a tree that was right but for these (P13.3).
-/
namespace Go.Proofs.YtpkeikbiblfidaaGreatDoor
open Go.RowKit
set_option linter.unusedVariables false
set_option linter.unusedSimpArgs false

theorem mk_stay {N F C U : Int} (hok : okG N F C U) {m : Nat → Bool} {c : Nat} : ∀ i, c ≤ i → i ≤ nodes N F C U - 1 → mkN (prN N F C U) m i c = mkN (prN N F C U) m c c
  | 0, h, _ => by obtain rfl : c = 0 := by omega
                  rfl
  | i + 1, h, hi => by
    rcases Nat.lt_or_ge i c with h1 | h1
    · obtain rfl : c = i + 1 := by omega
      rfl
    · rw [mkN_next, mk_stay hok i h1 (by omega)]
      have := (prN_lt hok (k := i) (by omega)).2.2
      rw [show decide (c = prN N F C U i) = false from decide_eq_false (by omega)]
      simp
theorem mark_up {N F C U : Int} (hok : okG N F C U) {l : List Int} {c : Nat} (hc : c < nodes N F C U - 1) (h : markP N F C U l c = true) : markP N F C U l (prN N F C U c) = true := by
  unfold markP at h ⊢
  rw [mk_stay hok _ (by omega) (Nat.le_refl _)] at h
  refine mkN_mono (i := c + 1) (by omega) ?_
  rw [mkN_next, h]
  simp
theorem mark_leaf {N F C U : Int} {l : List Int} {x : Nat} (h : (x : Int) ∈ l) : markP N F C U l x = true := by
  unfold markP
  refine mkN_mono (i := 0) (Nat.zero_le _) ?_
  show leafM l l.length x = true
  unfold leafM
  rw [List.take_length, List.any_eq_true]
  exact ⟨x, h, by simp⟩
theorem mark_child {N F C U : Int} (hok : okG N F C U) {l : List Int} {k : Nat} (hk : k < nodes N F C U) (h : markP N F C U l k = false) {c : Int} (hc : c ∈ children N F C U k) : markP N F C U l c.toNat = false := by
  obtain ⟨j, rfl, hj⟩ := children_mem hc
  obtain ⟨i, hi, he⟩ := List.getElem_of_mem hc
  have hp := parent_child (node := (j : Int)) hk hi (by rw [List.getElem?_eq_getElem hi, he]; rfl)
  have hpr : prN N F C U j = k := by unfold prN; rw [hp]; simp
  cases hm : markP N F C U l (j : Int).toNat with
  | false => rfl
  | true =>
    have := mark_up hok (by omega) hm
    simp only [Int.toNat_natCast] at this
    rw [hpr, h] at this
    cases this
theorem mark_none (N F C U : Int) (k : Nat) : markP N F C U [] k = false := by
  unfold markP
  have h : ∀ i j, mkN (prN N F C U) (leafM [] ([] : List Int).length) i j = false := fun i => by
    induction i with
    | zero => intro j; rfl
    | succ i ih => intro j; rw [mkN_next, ih, ih]; rfl
  exact h _ _

theorem oth_part {N F C U : Int} {m : Nat → Bool} {E : DS} {L0 : List ByteArray} (hok : okG N F C U) (h : Kept N F C U E L0) : ∀ k, k ≤ nodes N F C U → ∃ L, othL N F C U m E k = (L, 0) ∧ L.length = nodes N F C U ∧ ∀ j, j < k → m j = false → lAt L j = lAt L0 j
  | 0, _ => ⟨_, rfl, by simp, fun j hj => by omega⟩
  | k + 1, hk => by
    obtain ⟨L, h1, h2, h3⟩ := oth_part (m := m) hok h k (by omega)
    cases hm : m k with
    | true =>
      refine ⟨L, (runE_next h1).trans (othF_mark hm), h2, fun j hj hj2 => ?_⟩
      rcases Nat.lt_or_ge j k with h4 | h4
      · exact h3 j h4 hj2
      · obtain rfl : j = k := by omega
        rw [hm] at hj2; cases hj2
    | false =>
      refine ⟨L.set k (lAt L0 k), (runE_next h1).trans ((othF_ok hm (getP_kept hok h k (by omega))).trans (by rw [bytes_back])), by rw [List.length_set]; exact h2, fun j hj hj2 => ?_⟩
      rw [nlAt_set (by omega)]
      by_cases h4 : j = k
      · subst h4; rw [if_pos rfl]
      · rw [if_neg h4]; exact h3 j (by omega) hj2
theorem cmp_part {N F C U : Int} {m : Nat → Bool} {D : DS} {L0 : List ByteArray} {n : Nat} (hl : L0.length = n) : ∀ k, k ≤ n → ∀ L, cmpL N F C U m D L0 k = (L, 0) → L.length = n ∧ (∀ j, j < k → m j = true → lAt L j = (hashR N F C U D L j).1 ∧ (hashR N F C U D L j).2 = 0) ∧ ∀ j, m j = false → lAt L j = lAt L0 j
  | 0, _, L, h => by
    obtain rfl : L0 = L := congrArg Prod.fst h
    exact ⟨hl, fun j hj => by omega, fun j _ => rfl⟩
  | k + 1, hk, L, h => by
    obtain ⟨L1, h1, h2⟩ := runE_back h
    obtain ⟨i1, i2, i3⟩ := cmp_part hl k (by omega) L1 h1
    cases hm : m k with
    | false =>
      rw [cmpF_off hm] at h2
      obtain rfl : L1 = L := congrArg Prod.fst h2
      refine ⟨i1, fun j hj hj2 => ?_, i3⟩
      rcases Nat.lt_or_ge j k with h4 | h4
      · exact i2 j h4 hj2
      · obtain rfl : j = k := by omega
        rw [hm] at hj2; cases hj2
    | true =>
      obtain ⟨s, e, hse⟩ : ∃ s e, hashR N F C U D L1 k = (s, e) := ⟨_, _, rfl⟩
      rw [cmpF_on hm hse] at h2
      have hk1 : k < L1.length := by omega
      by_cases he : e = 0
      · subst he
        rw [if_neg (by simp)] at h2
        obtain rfl : L1.set k s = L := congrArg Prod.fst h2
        refine ⟨by rw [List.length_set]; exact i1, fun j hj hj2 => ?_, fun j hj => ?_⟩
        · rw [hashR_set hk1 (by omega), nlAt_set hk1]
          by_cases hjk : j = k
          · subst hjk; rw [if_pos rfl, hse]; exact ⟨rfl, rfl⟩
          · rw [if_neg hjk]; exact i2 j (by omega) hj2
        · rw [nlAt_set hk1, if_neg (fun e => by rw [e, hm] at hj; cases hj)]
          exact i3 j hj
      · rw [if_pos he] at h2
        exact absurd (congrArg Prod.snd h2) he
theorem sav_part {N F C U : Int} {m : Nat → Bool} {L : List ByteArray} {D : DS} (hok : okG N F C U) : ∀ k, k ≤ nodes N F C U → ∀ T, savL N F C U m L D k = (T, 0) → (∀ x, (∀ j : Nat, j < k → m j = true → x ≠ 6 + N + j) → T.read x = D.read x) ∧ ∀ j, j < k → m j = true → T.read (6 + N + j) = (nodeRec j (lAt L j), 0)
  | 0, _, T, h => by
    obtain rfl : D = T := congrArg Prod.fst h
    exact ⟨fun x _ => rfl, fun j hj => by omega⟩
  | k + 1, hk, T, h => by
    obtain ⟨T1, h1, h2⟩ := runE_back h
    obtain ⟨i1, i2⟩ := sav_part hok k (by omega) T1 h1
    cases hm : m k with
    | false =>
      rw [savF_off hm] at h2
      obtain rfl : T1 = T := congrArg Prod.fst h2
      refine ⟨fun x hx => i1 x fun j hj => hx j (by omega), fun j hj hj2 => ?_⟩
      rcases Nat.lt_or_ge j k with h4 | h4
      · exact i2 j h4 hj2
      · obtain rfl : j = k := by omega
        rw [hm] at hj2; cases hj2
    | true =>
      rw [savF_on hm] at h2
      have e1 : (putNP N F C U T1 k (lAt L k)).1 = 0 := congrArg Prod.snd h2
      have e2 : (putNP N F C U T1 k (lAt L k)).2 = T := congrArg Prod.fst h2
      have hna : nodeAt N F C U k = 6 + N + k := by unfold nodeAt; rw [if_pos ⟨hok, by omega, by omega⟩]
      have hN := hok.1
      unfold putNP at e1 e2
      rw [if_neg (by rw [hna]; omega)] at e1 e2
      by_cases hs : (lAt L k).size = 32
      · rw [if_neg (by simpa using hs)] at e1 e2
        rw [hna] at e1 e2
        refine ⟨fun x hx => ?_, fun j hj hj2 => ?_⟩
        · rw [← e2, read_write e1, if_neg (hx k (by omega) hm)]
          exact i1 x fun j hj => hx j (by omega)
        · rw [← e2, read_write e1]
          by_cases h4 : j = k
          · subst h4; rw [if_pos rfl]; simp
          · rw [if_neg (by omega)]; exact i2 j (by omega) hj2
      · rw [if_pos (by simpa using hs)] at e1
        cases e1
end Go.Proofs.YtpkeikbiblfidaaGreatDoor
/-
  Rehash of some leaves: what it tells and leaves (P13.3).
-/
namespace Go.Proofs.YtpkeikbiblfidaaGreatDoor
open Go.RowKit
set_option linter.unusedVariables false
set_option linter.unusedSimpArgs false

theorem nodes_le2 {N F C U : Int} (hok : okG N F C U) : N.toNat ≤ nodes N F C U := by
  obtain ⟨n', f, rfl, rfl, ho⟩ := ok_of hok
  have e : nodes n' f C U = S n' f (H n' f + 1) := by unfold nodes; rw [if_pos hok]; simp
  have e2 : S n' f 1 = 0 + n' := rfl
  have e3 := @S_mono n' f 1 (H n' f + 1) (by omega)
  simp only [Int.toNat_natCast]
  omega
/-- The root, and all digests, behind Rehash. -/
structure Reh (N F C U : Int) (E : DS) (r : (List UInt8 × Int) × DS) (L : List ByteArray) : Prop where
  len : L.length = nodes N F C U
  right : ∀ j, j < nodes N F C U → lAt L j = (hashR N F C U E L j).1
  root : r.1 = ((lAt L (nodes N F C U - 1)).data.toList, 0)
  kept : Kept N F C U r.2 L
  data : ∀ x, x < 6 + N → r.2.read x = E.read x
theorem reh_part {N F C U : Int} {E : DS} {L0 : List ByteArray} {M : Nat} {l : List Int} (hok : okG N F C U) (hE : E.ok M) (hon : E.off = false) (hle : E.left = -1) (hlen : 6 + N + (nodes N F C U : Nat) ≤ (E.L.length : Int)) (hl0 : L0.length = nodes N F C U) (hk : Kept N F C U E L0) (hin : ∀ x ∈ l, 0 ≤ x ∧ x < N)
    (hun : ∀ j, j < nodes N F C U → markP N F C U l j = false → lAt L0 j = (hashR N F C U E L0 j).1) : ∃ L, Reh N F C U E (rehP N F C U E l) L := by
  have hN := hok.1
  have hn1 := nodes_le1 hok
  by_cases hne : l = []
  · subst hne
    refine ⟨L0, hl0, fun j hj => hun j hj (mark_none _ _ _ _ j), ?_, ?_, ?_⟩
    · unfold rehP
      rw [if_neg (by simpa using hok), if_neg (by simp), if_pos rfl]
      exact getP_kept hok hk _ (by omega)
    · unfold rehP
      rw [if_neg (by simpa using hok), if_neg (by simp), if_pos rfl]
      exact hk
    · intro x _
      unfold rehP
      rw [if_neg (by simpa using hok), if_neg (by simp), if_pos rfl]
  · obtain ⟨m, hm⟩ : ∃ m, m = markP N F C U l := ⟨_, rfl⟩
    obtain ⟨L1, o1, o2, o3⟩ := oth_part (m := m) hok hk (nodes N F C U) (Nat.le_refl _)
    have hc := cmp_done (m := m) (L0 := L1) hok hon (by omega) (nodes N F C U)
    obtain ⟨L, e, hLe⟩ : ∃ L e, cmpL N F C U m E L1 (nodes N F C U) = (L, e) := ⟨_, _, rfl⟩
    rw [hLe] at hc
    dsimp only at hc
    subst hc
    obtain ⟨c1, c2, c3⟩ := cmp_part o2 (nodes N F C U) (Nat.le_refl _) L hLe
    have huL : ∀ j, j < nodes N F C U → m j = false → lAt L j = lAt L0 j := fun j hj h => (c3 j h).trans (o3 j hj h)
    have hkid : ∀ j, j < nodes N F C U → m j = false → hashR N F C U E L j = hashR N F C U E L0 j := fun j hj h => by
      unfold hashR
      rw [show kids L (children N F C U j) = kids L0 (children N F C U j) from List.map_congr_left fun c hcm => by
        have hmc := mark_child hok (l := l) hj (by rw [← hm]; exact h) hcm
        rw [← hm] at hmc
        obtain ⟨i, rfl, hi⟩ := children_mem hcm
        simp only [Int.toNat_natCast] at hmc ⊢
        exact huL i (by omega) hmc]
    have h32 : ∀ j, j < nodes N F C U → (lAt L j).size = 32 := fun j hj => by
      cases hmj : m j with
      | true => rw [(c2 j hj hmj).1]; exact hashR_32 _ _ _ _ _ _ _ (c2 j hj hmj).2
      | false => rw [huL j hj hmj]; exact hk.small j hj
    obtain ⟨s0, s1, s2, s3⟩ := sav_done (m := m) (D := E) hok hon hle hlen h32 (nodes N F C U) (Nat.le_refl _)
    have hsok := savL_ok hE N F C U m L (nodes N F C U)
    obtain ⟨T, f, hTf⟩ : ∃ T f, savL N F C U m L E (nodes N F C U) = (T, f) := ⟨_, _, rfl⟩
    rw [hTf] at s0 s1 s2 s3 hsok
    dsimp only at s0 s1 s2 s3 hsok
    subst s0
    obtain ⟨p1, p2⟩ := sav_part hok (nodes N F C U) (Nat.le_refl _) T hTf
    obtain ⟨f0, -⟩ := flush_done s1 s2
    have hfr := read_flush hsok f0
    have hre : rehP N F C U E l = (((lAt L (nodes N F C U - 1)).data.toList, 0), T.flush.2) := by
      unfold rehP
      rw [if_neg (by simpa using hok), if_neg (by simpa using hin), if_neg hne, ← hm, o1]
      dsimp only
      rw [if_neg (show ¬ (0 : Int) ≠ 0 by simp), hLe]
      dsimp only
      rw [if_neg (show ¬ (0 : Int) ≠ 0 by simp), hTf]
      dsimp only
      rw [if_neg (show ¬ (0 : Int) ≠ 0 by simp), if_neg (by simpa using f0)]
    rw [hre]
    refine ⟨L, c1, fun j hj => ?_, rfl, ⟨fun x h0 h1 => ?_, h32⟩, fun x hx => ?_⟩
    · cases hmj : m j with
      | true => exact (c2 j hj hmj).1
      | false => rw [huL j hj hmj, hkid j hj hmj]; exact hun j hj (by rw [← hm]; exact hmj)
    · show T.flush.2.read x = _
      rw [hfr]
      obtain ⟨j, hj⟩ : ∃ j : Nat, x = 6 + N + j := ⟨(x - (6 + N)).toNat, by omega⟩
      subst hj
      have hjn : j < nodes N F C U := by omega
      rw [show (6 + N + (j : Int) - (6 + N)).toNat = j from by omega]
      cases hmj : m j with
      | true => exact p2 j hjn hmj
      | false =>
        rw [p1 _ (fun i hi hmi e => by
          have : i = j := by omega
          subst this
          rw [hmj] at hmi; cases hmi)]
        have := hk.reads (6 + N + (j : Int)) h0 h1
        rw [show (6 + N + (j : Int) - (6 + N)).toNat = j from by omega] at this
        rw [this, huL j hjn hmj]
    · show T.flush.2.read x = _
      rw [hfr]
      exact p1 x fun j hj _ e => by omega
/-- All of such a tree. -/
theorem all_kept {N F C U : Int} {E : DS} {L : List ByteArray} (hok : okG N F C U) (hl : L.length = nodes N F C U) (h : Kept N F C U E L) : allP N F C U E = (L, 0) := by
  obtain ⟨L1, o1, o2, o3⟩ := oth_part (m := fun _ => false) hok h (nodes N F C U) (Nat.le_refl _)
  unfold allP
  rw [if_neg (by simpa using hok), o1]
  dsimp only
  rw [if_neg (by simp)]
  refine Prod.ext ?_ rfl
  refine slist_ext (by rw [o2, hl]) fun i hi => o3 i (by have hi : i < L1.length := hi; omega) rfl
end Go.Proofs.YtpkeikbiblfidaaGreatDoor
/-
  Rows of texts (for the document's New of trees).
-/
namespace Go.Proofs.YtpkeikbiblfidaaGreatDoor.Tv
open Go.RowKit Dg
set_option linter.unusedVariables false
set_option linter.unusedSimpArgs false

theorem nodes_pos {N F C U : Int} (h : okG N F C U) : N ≤ (nodes N F C U : Int) := by
  obtain ⟨n, f, rfl, rfl, ho⟩ := ok_of h
  unfold nodes
  rw [if_pos h]
  have := @S_mono n f 1 (H n f + 1) (by omega)
  have e : S n f 1 = n := by simp [S, q]
  simp only [Int.toNat_natCast]
  omega

theorem make_strs (n : Nat) (h : n ≤ 1000000) (w : World) :
    (Instr.makeSlice 49 (.int .i64 (n : Int)) (.int .i64 (n : Int))).run Tryz.prog w = .ok (.slice (some ⟨w.heap.size, 0, none⟩) n n) (w.alloc (.cells (madeCells #[.string noBytes] n) 9)) :=
  run_make_row' 49 9 (.string noBytes) 16 Tryz.underlying49 Tryz.info9 rfl .i64 .i64 n (by omega) (by omega) w
theorem made_row (n : Nat) (h : n ≤ 1000000) (w : World) (B : Nat) (hb : B ≤ w.heap.size) :
    (w.alloc (.cells (madeCells #[.string noBytes] n) 9)).ownsRow B 9 1 (.slice (some ⟨w.heap.size, 0, none⟩) n n) n (strs (List.replicate n noBytes)) := by
  refine ⟨by simp [strs], .inr ⟨w.heap.size, n, _, rfl, hb, heap_alloc_new w _, Nat.le_refl _, by unfold maxLen; omega, by rw [size_madeCells]; simp, ?_⟩⟩
  apply List.ext_getElem?
  intro i
  by_cases hi : i < n
  · rw [List.getElem?_take_of_lt (by omega)]
    simp [madeCells, strs, hi]
    rw [Nat.mod_one]
    rfl
  · rw [List.getElem?_eq_none (by simp [madeCells]; omega), List.getElem?_eq_none (by simp [strs]; omega)]

theorem set_blk {w : World} {p g j : Nat} {o : Obj} {u : Value} (h : w.heap[p]? = some o) (hne : g ≠ p) : (w.setCell ⟨g, j, none⟩ u).heap[p]? = some o :=
  (show (w.setCell ⟨g, j, none⟩ u).heap[p]? = w.heap[p]? by simp [World.setCell, Array.getElem?_modify]; intro e; exact absurd e hne).trans h
theorem GT.set {ty w B p v N F C U L} (h : GT ty w B p v N F C U L) {g j : Nat} (hg : v.ownBlock = some g) (hj : j < L.length) (s : ByteArray) :
    GT ty (w.setCell ⟨g, j, none⟩ (.string s)) B p v N F C U (L.set j s) := by
  have hne : g ≠ p := fun e => h.ne (by rw [hg, e])
  refine ⟨set_blk h.blk hne, h.low, ?_, h.ne⟩
  have := owns_set h.own hg (.string s) (j := j) (by rw [strs_length]; exact hj)
  rw [strs_set] at this
  rw [List.length_set]
  exact this
theorem GT.free {ty w B p v N F C U L} (h : GT ty w B p v N F C U L) {g : Nat} (hg : v.ownBlock = some g) (j : Nat) : w.frozen? ⟨g, j, none⟩ = false := owns_free h.own hg j
theorem GT.at {ty w B p v N F C U L} (h : GT ty w B p v N F C U L) {g : Nat} (hg : v.ownBlock = some g) {j : Nat} (hj : j < L.length) : w.cell? ⟨g, j, none⟩ = some (.string (lAt L j)) := owns_cell h.own hg j _ (strs_at hj)
theorem GT.shape {ty w B p v N F C U L} (h : GT ty w B p v N F C U L) (h0 : 0 < L.length) : ∃ g c, v = .slice (some ⟨g, 0, none⟩) L.length c ∧ v.ownBlock = some g ∧ B ≤ g ∧ g < w.heap.size ∧ L.length ≤ c ∧ (c : Int) ≤ 9223372036854775807 := by
  obtain ⟨a, c, rfl, hle, hm, hg⟩ := owns_shape1 h.own
  obtain ⟨g, rfl, hb, hB, hl⟩ := hg h0
  exact ⟨g, c, rfl, hb, hB, hl, hle, by unfold maxLen at hm; omega⟩
theorem below_row {w w0 : World} {n g j : Nat} {u : Value} (h : Below n w0 w) (hg : n ≤ g) : Below n w0 (w.setCell ⟨g, j, none⟩ u) := h.setCell (p := ⟨g, j, none⟩) hg u

theorem set_app {α : Type} (A : List α) (y x : α) (B : List α) : ∀ n, A.length = n → (A ++ y :: B).set n x = A ++ x :: B := by
  rintro n rfl
  induction A with
  | nil => rfl
  | cons a A ih => simp [ih]
/-- The leaves' digests as they come: k are there, of M nodes. -/
def leafL (Ss : List ByteArray) (M k : Nat) : List ByteArray := (Ss.take k).map leafB ++ List.replicate (M - k) noBytes
theorem leafL_length {Ss : List ByteArray} {M k : Nat} (h : k ≤ Ss.length) (hM : k ≤ M) : (leafL Ss M k).length = M := by simp [leafL]; omega
theorem leafL_set {Ss : List ByteArray} {M k : Nat} (h : k < Ss.length) (hM : k < M) : (leafL Ss M k).set k (leafB (lAt Ss k)) = leafL Ss M (k + 1) := by
  unfold leafL
  have e : List.replicate (M - k) noBytes = noBytes :: List.replicate (M - (k + 1)) noBytes := by rw [show M - k = (M - (k + 1)) + 1 from by omega]; rfl
  have e2 : ((Ss.take k).map leafB).length = k := by simp; omega
  rw [e, set_app _ _ _ _ k e2, List.take_add_one, List.map_append, List.append_assoc]
  congr 1
  unfold lAt
  rw [List.getElem?_eq_getElem h]
  rfl
/-- The nodes' digests as they come: m above the leaves are there. -/
def nodeL (N F C U : Int) (base : List ByteArray) (M m : Nat) : List ByteArray := growL N F C U base m ++ List.replicate (M - (base.length + m)) noBytes
theorem nodeL_length {N F C U : Int} {base : List ByteArray} {M m : Nat} (h : base.length + m ≤ M) : (nodeL N F C U base M m).length = M := by simp [nodeL, growL_length]; omega
theorem kids_app {L X : List ByteArray} {ks : List Int} (h : ∀ c ∈ ks, ∃ j : Nat, c = j ∧ j < L.length) : kids (L ++ X) ks = kids L ks := by
  unfold kids
  refine List.map_congr_left fun c hc => ?_
  obtain ⟨j, rfl, hj⟩ := h c hc
  simp only [Int.toNat_natCast]
  exact lAt_append_lt hj
theorem nodeL_set {N F C U : Int} {base : List ByteArray} {M m : Nat} (h : base.length + m < M) :
    (nodeL N F C U base M m).set (base.length + m) (nodeB (kids (nodeL N F C U base M m) (children N F C U ((base.length + m : Nat) : Int)))) = nodeL N F C U base M (m + 1) := by
  have hk : kids (nodeL N F C U base M m) (children N F C U ((base.length + m : Nat) : Int)) = kids (growL N F C U base m) (children N F C U ((base.length + m : Nat) : Int)) :=
    kids_app fun c hc => by rw [growL_length]; exact children_mem hc
  rw [hk]
  unfold nodeL
  have e : List.replicate (M - (base.length + m)) noBytes = noBytes :: List.replicate (M - (base.length + (m + 1))) noBytes := by rw [show M - (base.length + m) = (M - (base.length + (m + 1))) + 1 from by omega]; rfl
  rw [e, set_app _ _ _ _ _ (growL_length _ _ _ _ _ _)]
  show _ = (growL N F C U base m ++ [_]) ++ _
  rw [List.append_assoc]
  rfl
theorem leaf_node {N F C U : Int} {Ss : List ByteArray} {M : Nat} (h : Ss.length ≤ M) : leafL Ss M Ss.length = nodeL N F C U (Ss.map leafB) M 0 := by
  unfold leafL nodeL
  rw [List.take_length, List.length_map]
  rfl
theorem nodeL_small {N F C U : Int} {base : List ByteArray} {M m : Nat} (h : ∀ j, j < base.length → (lAt base j).size = 32) : ∀ i, i < (nodeL N F C U base M m).length → (lAt (nodeL N F C U base M m) i).size ≤ 1000 := by
  intro i hi
  unfold nodeL at *
  rcases Nat.lt_or_ge i (growL N F C U base m).length with h1 | h1
  · rw [lAt_append_lt h1, growL_size h m i h1]; omega
  · unfold lAt
    rw [List.getElem?_append_right h1]
    by_cases h2 : i - (growL N F C U base m).length < M - (base.length + m)
    · rw [List.getElem?_replicate_of_lt h2]; show noBytes.size ≤ 1000; exact Nat.zero_le _
    · rw [List.getElem?_eq_none (by simp; omega)]; show noBytes.size ≤ 1000; exact Nat.zero_le _
theorem kids_congr {L M : List ByteArray} {ks : List Int} (h : ∀ c ∈ ks, lAt L c.toNat = lAt M c.toNat) : kids L ks = kids M ks := by
  unfold kids
  exact List.map_congr_left h

/-- A list of digests is the tree of sectors Ss. -/
structure TOf (N F C U : Int) (Ss L : List ByteArray) : Prop where
  ok : okG N F C U
  sl : (Ss.length : Int) = N
  len : L.length = nodes N F C U
  leaf : ∀ j, j < Ss.length → lAt L j = leafB (lAt Ss j)
  node : ∀ k, Ss.length ≤ k → k < nodes N F C U → lAt L k = nodeB (kids L (children N F C U k))
theorem growL_at {N F C U : Int} {base : List ByteArray} : ∀ i, (∀ j, j < base.length → lAt (growL N F C U base i) j = lAt base j) ∧ (∀ j, base.length ≤ j → j < base.length + i → lAt (growL N F C U base i) j = nodeB (kids (growL N F C U base i) (children N F C U j)))
  | 0 => ⟨fun j _ => rfl, fun j h1 h2 => by omega⟩
  | i + 1 => by
    obtain ⟨ih1, ih2⟩ := growL_at (N := N) (F := F) (C := C) (U := U) (base := base) i
    have hl := growL_length N F C U base i
    have hk : ∀ j : Nat, j ≤ base.length + i → kids (growL N F C U base (i + 1)) (children N F C U j) = kids (growL N F C U base i) (children N F C U j) := fun j hj =>
      kids_app fun c hc => by obtain ⟨y, e, hy⟩ := children_mem hc; exact ⟨y, e, by omega⟩
    refine ⟨fun j hj => ?_, fun j h1 h2 => ?_⟩
    · rw [← ih1 j hj]
      exact lAt_append_lt (by omega)
    · rw [hk j (by omega)]
      rcases Nat.lt_or_ge j (base.length + i) with h | h
      · rw [← ih2 j h1 h]
        exact lAt_append_lt (by omega)
      · obtain rfl : j = base.length + i := by omega
        have e := @lAt_append_eq (growL N F C U base i) (nodeB (kids (growL N F C U base i) (children N F C U ((base.length + i : Nat) : Int))))
        rw [hl] at e
        exact e
theorem map_at (Ss : List ByteArray) {j : Nat} (h : j < Ss.length) : lAt (Ss.map leafB) j = leafB (lAt Ss j) := by
  unfold lAt
  rw [List.getElem?_map, List.getElem?_eq_getElem h]
  rfl
theorem tof_tree {N F C U : Int} {Ss : List ByteArray} (hok : okG N F C U) (hl : (Ss.length : Int) = N) : TOf N F C U Ss (treeL N F C U Ss) := by
  have hn := nodes_pos hok
  obtain ⟨g1, g2⟩ := growL_at (N := N) (F := F) (C := C) (U := U) (base := Ss.map leafB) (nodes N F C U - Ss.length)
  rw [List.length_map] at g1 g2
  refine ⟨hok, hl, ?_, fun j hj => ?_, fun k h1 h2 => g2 k h1 (by omega)⟩
  · unfold treeL
    rw [growL_length, List.length_map]
    omega
  · exact (g1 j hj).trans (map_at Ss hj)
theorem TOf.uniq {N F C U : Int} {Ss L M : List ByteArray} (h : TOf N F C U Ss L) (h' : TOf N F C U Ss M) : L = M := by
  have key : ∀ k : Nat, k < nodes N F C U → lAt L k = lAt M k := by
    intro k
    induction k using Nat.strongRecOn with
    | _ k ih =>
      intro hk
      rcases Nat.lt_or_ge k Ss.length with h1 | h1
      · rw [h.leaf k h1, h'.leaf k h1]
      · rw [h.node k h1 hk, h'.node k h1 hk]
        congr 1
        refine kids_congr fun c hc => ?_
        obtain ⟨y, rfl, hy⟩ := children_mem hc
        exact ih y hy (by omega)
  exact slist_ext (by rw [h.len, h'.len]) fun i hi => key i (by rw [← h.len]; exact hi)

end Go.Proofs.YtpkeikbiblfidaaGreatDoor.Tv

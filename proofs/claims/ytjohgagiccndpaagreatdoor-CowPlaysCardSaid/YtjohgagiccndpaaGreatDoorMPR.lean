/-
  Texts put together: PR, PS.
-/
import Derived.Test.YtjohgagiccndpaaGreatDoorMPH
import Derived.Test.YtjohgagiccndpaaGreatDoorMPJ
import Derived.Test.YtjohgagiccndpaaGreatDoorMP7
import Derived.Test.YtjohgagiccndpaaGreatDoorMR
import Derived.Test.YtjohgagiccndpaaGreatDoorMK
import Derived.Test.YtjohgagiccndpaaGreatDoorMF
/-
  RollBack: what any crash leaves of entries that were appended ahead of writes, and of Back: mathematics.
-/
namespace Go.Proofs.YtjohgagiccndpaaGreatDoor
open Go.RowKit
set_option linter.unusedVariables false
set_option linter.unusedSimpArgs false

/-! ### any part of what waits -/
theorem wAt_mem {W : List (Int × ByteArray)} {i : Nat} (h : i < W.length) : wAt W i ∈ W := by
  unfold wAt; rw [List.getElem?_eq_getElem h]; exact List.getElem_mem h
theorem appK_closed {G : List ByteArray → Prop} {L : List ByteArray} {W : List (Int × ByteArray)} (h0 : G L) (hc : ∀ x ∈ W, ∀ L, G L → G (L.set x.1.toNat x.2)) (K : List Bool) : ∀ n, n ≤ W.length → G (appK L W K n)
  | 0, _ => h0
  | n + 1, hn => by
    have ih := appK_closed h0 hc K n (by omega)
    unfold appK
    split
    · exact hc _ (wAt_mem (by omega)) _ ih
    · exact ih
theorem appW_closed {G : List ByteArray → Prop} {L : List ByteArray} {W : List (Int × ByteArray)} (h0 : G L) (hc : ∀ x ∈ W, ∀ L, G L → G (L.set x.1.toNat x.2)) : ∀ n, n ≤ W.length → G (appW L W n)
  | 0, _ => h0
  | n + 1, hn => by
    have ih := appW_closed h0 hc n (by omega)
    exact hc _ (wAt_mem (by omega)) _ ih
theorem appW_front {L : List ByteArray} {W X : List (Int × ByteArray)} : ∀ n, n ≤ W.length → appW L (W ++ X) n = appW L W n
  | 0, _ => rfl
  | n + 1, h => by
    show (appW L (W ++ X) n).set _ _ = (appW L W n).set _ _
    rw [appW_front n (by omega)]
    have e : wAt (W ++ X) n = wAt W n := by unfold wAt; rw [List.getElem?_append_left (by omega)]
    rw [e]
theorem appW_snoc (L : List ByteArray) (W : List (Int × ByteArray)) (x : Int × ByteArray) : appW L (W ++ [x]) (W ++ [x]).length = (appW L W W.length).set x.1.toNat x.2 := by
  rw [List.length_append]
  show (appW L (W ++ [x]) W.length).set _ _ = _
  rw [appW_front _ (Nat.le_refl _), wAt_append_eq]
theorem appW_at {L L0 : List ByteArray} {W : List (Int × ByteArray)} (h : ∀ x ∈ W, x.2 = lAt L0 x.1.toNat ∧ x.1.toNat < L.length) : ∀ n, n ≤ W.length → ∀ j, lAt (appW L W n) j = if ∃ i, i < n ∧ (wAt W i).1.toNat = j then lAt L0 j else lAt L j
  | 0, _, j => by rw [if_neg (by rintro ⟨i, hi, _⟩; omega)]; rfl
  | n + 1, hn, j => by
    have ih := appW_at h n (by omega) j
    have hx := h _ (wAt_mem (W := W) (i := n) (by omega))
    show lAt ((appW L W n).set (wAt W n).1.toNat (wAt W n).2) j = _
    by_cases e : (wAt W n).1.toNat = j
    · rw [if_pos ⟨n, by omega, e⟩, e, lAt_set_eq (by rw [appW_length]; rw [← e]; exact hx.2), hx.1, e]
    · rw [lAt_set_ne e, ih]
      by_cases h1 : ∃ i, i < n ∧ (wAt W i).1.toNat = j
      · obtain ⟨i, hi, he⟩ := h1
        rw [if_pos ⟨i, hi, he⟩, if_pos ⟨i, by omega, he⟩]
      · rw [if_neg h1, if_neg ?_]
        rintro ⟨i, hi, he⟩
        rcases Nat.lt_or_ge i n with h2 | h2
        · exact h1 ⟨i, h2, he⟩
        · obtain rfl : i = n := by omega
          exact e he

def Safe (G : List ByteArray → Prop) (S : DS) : Prop := ∀ K, G (appK S.L S.W K S.W.length)
theorem Safe.of {G : List ByteArray → Prop} {S : DS} (h0 : G S.L) (hc : ∀ x ∈ S.W, ∀ L, G L → G (L.set x.1.toNat x.2)) : Safe G S := fun K => appK_closed h0 hc K _ (Nat.le_refl _)
theorem Safe.imp {G G' : List ByteArray → Prop} {S : DS} (h : Safe G S) (hi : ∀ L, G L → G' L) : Safe G' S := fun K => hi _ (h K)
theorem crash_up (S : DS) (K : List Bool) : (S.crash K).up.2 = flat (appK S.L S.W K S.W.length) S.did := by simp [DS.crash, DS.up, flat]
theorem crash_up_len (S : DS) (K : List Bool) : (appK S.L S.W K S.W.length).length = S.L.length := appK_length _ _ _ _

/-- What a write leaves: nothing new; or it is down; or one more waits. -/
theorem write_three (S : DS) (at' : Int) (data : ByteArray) (hup : S.off = false) :
    ((S.write at' data).1 ≠ 0 ∧ (S.write at' data).2 = S) ∨ ((S.write at' data).1 ≠ 0 ∧ (S.write at' data).2.L = S.L ∧ (S.write at' data).2.W = S.W ∧ (S.write at' data).2.off = true ∧ S.left = 0) ∨
    ((S.write at' data).1 = 0 ∧ (S.write at' data).2.L = S.L ∧ (S.write at' data).2.W = S.W ++ [(at', data)] ∧ (S.write at' data).2.off = false ∧ S.has at' ∧ data.size = 64 ∧ S.left ≠ 0 ∧ (S.left = -1 → (S.write at' data).2.left = -1)) := by
  unfold DS.write
  rw [if_neg (by simp [hup])]
  by_cases hh : S.has at'
  · rw [if_pos hh]
    by_cases hs : data.size = 64
    · rw [if_pos hs]
      by_cases hl : S.left = 0
      · rw [if_pos hl]
        refine .inr (.inl ⟨by simp, burnt_L S, burnt_W S, ?_, hl⟩)
        unfold DS.burnt; rw [if_pos hl]
      · rw [if_neg hl]
        refine .inr (.inr ⟨rfl, burnt_L S, rfl, ?_, hh, hs, hl, fun h => ?_⟩)
        · show S.burnt.off = false
          unfold DS.burnt; rw [if_neg hl]; exact hup
        · show S.burnt.left = -1
          unfold DS.burnt; rw [if_neg hl, h]; simp
    · rw [if_neg hs]; exact .inl ⟨by simp, rfl⟩
  · rw [if_neg hh]; exact .inl ⟨by simp, rfl⟩
theorem flush_two (S : DS) (hup : S.off = false) :
    (S.flush.1 ≠ 0 ∧ S.flush.2.L = S.L ∧ S.flush.2.W = S.W ∧ S.flush.2.off = true ∧ S.left = 0) ∨
    (S.flush.1 = 0 ∧ S.flush.2.L = appW S.L S.W S.W.length ∧ S.flush.2.W = [] ∧ S.flush.2.off = false ∧ S.left ≠ 0 ∧ (S.left = -1 → S.flush.2.left = -1)) := by
  unfold DS.flush
  rw [if_neg (by simp [hup])]
  by_cases hl : S.left = 0
  · rw [if_pos hl]
    refine .inl ⟨by simp, burnt_L S, burnt_W S, ?_, hl⟩
    unfold DS.burnt; rw [if_pos hl]
  · rw [if_neg hl]
    refine .inr ⟨rfl, rfl, rfl, ?_, hl, fun h => ?_⟩
    · show S.burnt.off = false
      unfold DS.burnt; rw [if_neg hl]; exact hup
    · show S.burnt.left = -1
      unfold DS.burnt; rw [if_neg hl, h]; simp
theorem write_down (S : DS) (at' : Int) (data : ByteArray) (h : S.off = true) : S.write at' data = (5, S) := by unfold DS.write; rw [if_pos h]
theorem flush_down (S : DS) (h : S.off = true) : S.flush = (5, S) := by unfold DS.flush; rw [if_pos h]
theorem write_safe {G : List ByteArray → Prop} {S : DS} (h : Safe G S) {at' : Int} {data : ByteArray} (hc : data.size = 64 → ∀ L, G L → G (L.set at'.toNat data)) : Safe G (S.write at' data).2 := by
  cases hup : S.off with
  | true => rw [write_down _ _ _ hup]; exact h
  | false =>
    rcases write_three S at' data hup with ⟨_, e⟩ | ⟨_, e1, e2, _⟩ | ⟨_, e1, e2, _, _, hs, _⟩
    · rw [e]; exact h
    · intro K; rw [e1, e2]; exact h K
    · intro K
      rw [e1, e2, List.length_append]
      have hk : ∀ n, n ≤ S.W.length → appK S.L (S.W ++ [(at', data)]) K n = appK S.L S.W K n := fun n => by
        induction n with
        | zero => intro _; rfl
        | succ n ih =>
          intro hn
          unfold appK
          rw [ih (by omega)]
          have e : wAt (S.W ++ [(at', data)]) n = wAt S.W n := by unfold wAt; rw [List.getElem?_append_left (by omega)]
          rw [e]
      show G (if _ then _ else _)
      try simp only [List.length_singleton, List.length_nil, Nat.zero_add, Nat.add_eq, Nat.add_zero]
      rw [hk _ (Nat.le_refl _), wAt_append_eq]
      split
      · exact hc hs _ (h K)
      · exact h K
theorem appW_all (L : List ByteArray) (W : List (Int × ByteArray)) (m : Nat) : ∀ n, n ≤ m → appK L W (List.replicate m true) n = appW L W n
  | 0, _ => rfl
  | n + 1, h => by
    unfold appK
    rw [if_pos (by rw [List.getElem?_replicate, if_pos (by omega)]; rfl), appW_all L W m n (by omega)]
    rfl
theorem flush_safe {G : List ByteArray → Prop} {S : DS} (h : Safe G S) : Safe G S.flush.2 := by
  cases hup : S.off with
  | true => rw [flush_down _ hup]; exact h
  | false =>
    rcases flush_two S hup with ⟨_, e1, e2, _⟩ | ⟨_, e1, e2, _⟩
    · intro K; rw [e1, e2]; exact h K
    · intro K
      rw [e1, e2]
      show G (appW S.L S.W S.W.length)
      rw [← appW_all _ _ S.W.length _ (Nat.le_refl _)]
      exact h _

/-! ### what a disk with entries tells of the first contents -/
section
variable {N F C U : Int} {L0 : List ByteArray}
/-- The places that can be undone, as numbers. -/
def inP (N F C U : Int) (j : Nat) : Prop := mayP N F C U (j : Int)
structure RbK (N F C U : Int) (L0 : List ByteArray) (l : List En) (L : List ByteArray) : Prop where
  len : (L.length : Int) = 6 + N + (nodes N F C U : Int) + 2 * U
  sizes : ∀ i : Nat, i < L.length → (lAt L i).size = 64
  holds : Holds N F C U L 3 2 l
  olds : ∀ i, i < l.length → (eAt l i).old = lAt L0 (eAt l i).place.toNat
  out : ∀ j : Nat, mayP N F C U (j : Int) → (∀ i, i < l.length → (eAt l i).place ≠ (j : Int)) → lAt L j = lAt L0 j
/-- Any disk of which Back makes what was there. -/
def Good (N F C U : Int) (L0 : List ByteArray) (L : List ByteArray) : Prop := ∃ l, RbK N F C U L0 l L
/-- The first contents themselves, and no entry. -/
structure Home (N F C U : Int) (L0 L : List ByteArray) : Prop where
  len : (L.length : Int) = 6 + N + (nodes N F C U : Int) + 2 * U
  sizes : ∀ i : Nat, i < L.length → (lAt L i).size = 64
  all : ∀ j : Nat, mayP N F C U (j : Int) → lAt L j = lAt L0 j
  clear : lAt L (hIx N F C U 0) = secOf 0

theorem may_low {j : Nat} (ho : okG N F C U) (h : mayP N F C U (j : Int)) (k : Nat) : j ≠ hIx N F C U k ∧ j ≠ hIx N F C U k + 1 := by
  have := ho.1; have := h.2; unfold hIx; constructor <;> omega
theorem Holds.place {L : List ByteArray} {tag ep : Nat} {l : List En} (ho : okG N F C U) (h : Holds N F C U L tag ep l) {j : Nat} (hj : mayP N F C U (j : Int)) (s : ByteArray) : Holds N F C U (L.set j s) tag ep l := by
  refine ⟨h.few, fun i hi => ?_, fun hl => ?_⟩
  · obtain ⟨h1, h2, h3, h4, h5⟩ := h.ent i hi
    exact ⟨h1, h2, h3, by rw [lAt_set_ne (may_low ho hj i).1]; exact h4, by rw [lAt_set_ne (may_low ho hj i).2]; exact h5⟩
  · rw [lAt_set_ne (may_low ho hj _).1]; exact h.stop hl
/-- A write to a place of which there is an entry. -/
theorem RbK.place {l : List En} {L : List ByteArray} (ho : okG N F C U) (h : RbK N F C U L0 l L) {i : Nat} (hi : i < l.length) {s : ByteArray} (hs : s.size = 64) : RbK N F C U L0 l (L.set (eAt l i).place.toNat s) := by
  have hm := (h.holds.ent i hi).2.2.1
  obtain ⟨p, hp⟩ : ∃ p : Nat, (eAt l i).place = (p : Int) := ⟨(eAt l i).place.toNat, by have := hm.1; omega⟩
  rw [hp] at hm
  rw [hp, Int.toNat_natCast]
  refine ⟨by simpa using h.len, sizes_set h.sizes hs, h.holds.place ho hm s, h.olds, fun j hj hn => ?_⟩
  rw [lAt_set_ne (fun e => hn i hi (by rw [hp, e]))]
  exact h.out j hj hn
/-- The old sector of the next entry. -/
theorem RbK.old {l : List En} {L : List ByteArray} (ho : okG N F C U) (h : RbK N F C U L0 l L) {s : ByteArray} (hs : s.size = 64) : RbK N F C U L0 l (L.set (hIx N F C U l.length + 1) s) := by
  refine ⟨by simpa using h.len, sizes_set h.sizes hs, h.holds.old s, h.olds, fun j hj hn => ?_⟩
  rw [lAt_set_ne (fun e => (may_low ho hj _).2 e.symm)]
  exact h.out j hj hn
/-- Zero heads behind the entries. -/
def Zs (N F C U : Int) (L : List ByteArray) (n : Nat) : Prop := ∀ j : Nat, n ≤ j → (j : Int) < U → lAt L (hIx N F C U j) = secOf 0
theorem Zs.place {L : List ByteArray} {n : Nat} (ho : okG N F C U) (h : Zs N F C U L n) {j : Nat} (hj : mayP N F C U (j : Int)) (s : ByteArray) : Zs N F C U (L.set j s) n := fun k hk hu => by
  rw [lAt_set_ne (may_low ho hj k).1]; exact h k hk hu
theorem Zs.old {L : List ByteArray} {n m : Nat} (h : Zs N F C U L n) (s : ByteArray) : Zs N F C U (L.set (hIx N F C U m + 1) s) n := fun k hk hu => by
  rw [lAt_set_ne hIx_odd]; exact h k hk hu
theorem RbK.fresh {l : List En} {L : List ByteArray} (h : RbK N F C U L0 l L) (hz : Zs N F C U L l.length) : Fresh N F C U L 3 2 l := ⟨h.holds, hz, h.len, h.sizes⟩
/-- The head behind it: one entry more. -/
theorem RbK.head {l : List En} {L : List ByteArray} {p : Nat} (ho : okG N F C U) (h : RbK N F C U L0 l L) (hz : Zs N F C U L l.length) (hk : (l.length : Int) < U) (hm : mayP N F C U (p : Int)) (hn : ∀ i, i < l.length → (eAt l i).place ≠ (p : Int)) :
    RbK N F C U L0 (l ++ [⟨3, 2, (p : Int), lAt L p⟩]) ((L.set (hIx N F C U l.length + 1) (lAt L p)).set (hIx N F C U l.length) (headB 3 2 l.length p (sumN (lAt L p)))) ∧
    Zs N F C U ((L.set (hIx N F C U l.length + 1) (lAt L p)).set (hIx N F C U l.length) (headB 3 2 l.length p (sumN (lAt L p)))) (l ++ [(⟨3, 2, (p : Int), lAt L p⟩ : En)]).length := by
  have hf := (h.fresh hz).both hk hm ho.1
  refine ⟨⟨hf.len, hf.sizes, hf.holds, fun i hi => ?_, fun j hj hnj => ?_⟩, hf.zeros⟩
  · rw [List.length_append] at hi
    rcases Nat.lt_or_ge i l.length with h1 | h1
    · rw [eAt_append_lt h1]; exact h.olds i h1
    · obtain rfl : i = l.length := by simp at hi; omega
      rw [eAt_append_eq]
      dsimp only
      rw [Int.toNat_natCast]
      exact h.out p hm hn
  · rw [lAt_set_ne (fun e => (may_low ho hj _).1 e.symm), lAt_set_ne (fun e => (may_low ho hj _).2 e.symm)]
    refine h.out j hj fun i hi => ?_
    have := hnj i (by simp; omega)
    rwa [eAt_append_lt hi] at this

/-! ### entries, and writes behind them -/
/-- A disk that is up, with entries in memory and on it, and writes that wait. -/
structure Go1 (N F C U : Int) (L0 : List ByteArray) (S : DS) (l : List En) : Prop where
  up : S.off = false
  rb : RbK N F C U L0 l S.L
  zs : Zs N F C U S.L l.length
  wait : ∀ x ∈ S.W, x.2.size = 64 ∧ ∃ i, i < l.length ∧ (eAt l i).place = x.1
theorem Go1.closed {S : DS} {l : List En} (ho : okG N F C U) (h : Go1 N F C U L0 S l) : ∀ x ∈ S.W, ∀ L, (RbK N F C U L0 l L ∧ Zs N F C U L l.length) → RbK N F C U L0 l (L.set x.1.toNat x.2) ∧ Zs N F C U (L.set x.1.toNat x.2) l.length := fun x hx L hL => by
  obtain ⟨hs, i, hi, he⟩ := h.wait x hx
  have hm := (h.rb.holds.ent i hi).2.2.1
  obtain ⟨p, hp⟩ : ∃ p : Nat, x.1 = (p : Int) := ⟨x.1.toNat, by rw [← he]; have := hm.1; omega⟩
  refine ⟨by rw [← he]; exact hL.1.place ho hi hs, ?_⟩
  rw [hp, Int.toNat_natCast]
  exact hL.2.place ho (by rw [← hp, ← he]; exact hm) _
theorem Go1.safe {S : DS} {l : List En} (ho : okG N F C U) (h : Go1 N F C U L0 S l) : Safe (Good N F C U L0) S :=
  (Safe.of (G := fun L => RbK N F C U L0 l L ∧ Zs N F C U L l.length) ⟨h.rb, h.zs⟩ (h.closed ho)).imp fun L hL => ⟨l, hL.1⟩
theorem Go1.flushed {S : DS} {l : List En} (ho : okG N F C U) (h : Go1 N F C U L0 S l) : RbK N F C U L0 l (appW S.L S.W S.W.length) ∧ Zs N F C U (appW S.L S.W S.W.length) l.length :=
  appW_closed (G := fun L => RbK N F C U L0 l L ∧ Zs N F C U L l.length) ⟨h.rb, h.zs⟩ (h.closed ho) _ (Nat.le_refl _)
/-- What the first part comes to: up, or down and safe. -/
def Walk1 (N F C U : Int) (L0 : List ByteArray) (S : DS) (l : List En) : Prop := Go1 N F C U L0 S l ∨ (S.off = true ∧ Safe (Good N F C U L0) S)
theorem Walk1.safe {S : DS} {l : List En} (ho : okG N F C U) (h : Walk1 N F C U L0 S l) : Safe (Good N F C U L0) S := h.elim (fun h => h.safe ho) (fun h => h.2)
theorem Walk1.write {S : DS} {l : List En} (ho : okG N F C U) (h : Walk1 N F C U L0 S l) {place : Int} {data : ByteArray} (hp : S.off = false → ∃ i, i < l.length ∧ (eAt l i).place = place) : Walk1 N F C U L0 (S.write place data).2 l := by
  rcases h with h | ⟨h1, h2⟩
  · obtain ⟨i, hi, he⟩ := hp h.up
    rcases write_three S place data h.up with ⟨_, e⟩ | ⟨_, e1, e2, e3, _⟩ | ⟨_, e1, e2, e3, _, hs, _⟩
    · rw [e]; exact .inl h
    · exact .inr ⟨e3, fun K => by rw [e1, e2]; exact h.safe ho K⟩
    · refine .inl ⟨e3, by rw [e1]; exact h.rb, by rw [e1]; exact h.zs, fun x hx => ?_⟩
      rw [e2, List.mem_append, List.mem_singleton] at hx
      rcases hx with hx | rfl
      · exact h.wait x hx
      · exact ⟨hs, i, hi, he⟩
  · rw [write_down _ _ _ h1]; exact .inr ⟨h1, h2⟩
theorem look_out {W : List (Int × ByteArray)} {a : Int} {d : ByteArray} : ∀ n, n ≤ W.length → (∀ x ∈ W, x.1 ≠ a) → look W a d n = d
  | 0, _, _ => rfl
  | n + 1, hn, h => by
    unfold look
    rw [if_neg (h _ (wAt_mem (by omega)))]
    exact look_out n (by omega) h
/-- An append of a place of which there is no entry yet: up with one entry more, or as it was; or down. -/
theorem Walk1.append {S : DS} {l : List En} (ho : okG N F C U) (h : Walk1 N F C U L0 S l) {place : Int} (hn : ∀ i, i < l.length → (eAt l i).place ≠ place) :
    ((appP N F C U S (l.length : Int) 3 2 place).why = 0 ∧ (appP N F C U S (l.length : Int) 3 2 place).en.place = place ∧ Walk1 N F C U L0 (appP N F C U S (l.length : Int) 3 2 place).ds (l ++ [(appP N F C U S (l.length : Int) 3 2 place).en])) ∨
    ((appP N F C U S (l.length : Int) 3 2 place).why ≠ 0 ∧ Walk1 N F C U L0 (appP N F C U S (l.length : Int) 3 2 place).ds l) := by
  by_cases hc : 0 ≤ (l.length : Int) ∧ (l.length : Int) < U ∧ mayP N F C U place
  · obtain ⟨_, hk, hm⟩ := hc
    rcases h with h | ⟨h1, h2⟩
    · obtain ⟨p, rfl⟩ : ∃ p : Nat, place = (p : Int) := ⟨place.toNat, by have := hm.1; omega⟩
      have hL := h.rb.len
      have hN := ho.1
      have hpl : p < S.L.length := by have := hm.2; omega
      have hr : S.read (p : Int) = (lAt S.L p, 0) := by
        unfold DS.read
        rw [if_neg (by simp [h.up]), if_pos ⟨by omega, by omega⟩, Int.toNat_natCast, look_out _ (Nat.le_refl _) (fun x hx e => by
          obtain ⟨_, i, hi, he⟩ := h.wait x hx
          exact hn i hi (he.trans e))]
      have a1 : areaAt N F C U 1 (2 * (l.length : Int)) = ((hIx N F C U l.length : Nat) : Int) := by
        unfold areaAt hIx
        rw [if_pos ⟨ho, .inr rfl, by omega, by unfold sec; rw [if_neg (by omega)]; omega⟩]
        omega
      have a2 : areaAt N F C U 1 (2 * (l.length : Int) + 1) = ((hIx N F C U l.length + 1 : Nat) : Int) := by
        unfold areaAt hIx
        rw [if_pos ⟨ho, .inr rfl, by omega, by unfold sec; rw [if_neg (by omega)]; omega⟩]
        omega
      have hsz := h.rb.sizes p hpl
      obtain ⟨old, hold⟩ : ∃ old, old = lAt S.L p := ⟨_, rfl⟩
      have hsafe := h.safe ho
      have hw1 := write_three S ((hIx N F C U l.length + 1 : Nat) : Int) old h.up
      have happ : appP N F C U S (l.length : Int) 3 2 (p : Int) = (if (storeP S ((hIx N F C U l.length + 1 : Nat) : Int) old).1 ≠ 0 then ⟨(storeP S ((hIx N F C U l.length + 1 : Nat) : Int) old).1, noEn, (storeP S ((hIx N F C U l.length + 1 : Nat) : Int) old).2⟩ else
          if (storeP (storeP S ((hIx N F C U l.length + 1 : Nat) : Int) old).2 ((hIx N F C U l.length : Nat) : Int) (headB 3 2 l.length p (sumN old))).1 ≠ 0 then
            ⟨(storeP (storeP S ((hIx N F C U l.length + 1 : Nat) : Int) old).2 ((hIx N F C U l.length : Nat) : Int) (headB 3 2 l.length p (sumN old))).1, noEn, (storeP (storeP S ((hIx N F C U l.length + 1 : Nat) : Int) old).2 ((hIx N F C U l.length : Nat) : Int) (headB 3 2 l.length p (sumN old))).2⟩
          else ⟨0, ⟨3, 2, (p : Int), old⟩, (storeP (storeP S ((hIx N F C U l.length + 1 : Nat) : Int) old).2 ((hIx N F C U l.length : Nat) : Int) (headB 3 2 l.length p (sumN old))).2⟩) := by
        unfold appP
        rw [if_neg (fun h => h ho), if_neg (by omega), if_neg (fun h => h hm), hr, a1, a2, ← hold]
        simp only [ne_eq, not_true_eq_false, if_false, Int.toNat_natCast]
      rw [happ]
      have hfl := h.flushed ho
      obtain ⟨LF, hLF⟩ : ∃ LF, LF = appW S.L S.W S.W.length := ⟨_, rfl⟩
      rw [← hLF] at hfl
      have hFp : lAt LF p = old := by rw [hfl.1.out p hm hn, hold, h.rb.out p hm hn]
      -- the old sector
      obtain ⟨r1, S1, hS1⟩ : ∃ r S', storeP S ((hIx N F C U l.length + 1 : Nat) : Int) old = (r, S') := ⟨_, _, rfl⟩
      have k1 : (r1 ≠ 0 ∧ Walk1 N F C U L0 S1 l) ∨ (r1 = 0 ∧ S1.off = false ∧ S1.W = [] ∧ S1.L = LF.set (hIx N F C U l.length + 1) old) := by
        unfold storeP at hS1
        rcases hw1 with ⟨e0, e⟩ | ⟨e0, e1, e2, e3, _⟩ | ⟨e0, e1, e2, e3, _, hs, _⟩
        · rw [if_pos e0] at hS1
          obtain rfl : (S.write ((hIx N F C U l.length + 1 : Nat) : Int) old).1 = r1 := congrArg (·.1) hS1
          obtain rfl : (S.write ((hIx N F C U l.length + 1 : Nat) : Int) old).2 = S1 := congrArg (·.2) hS1
          exact .inl ⟨e0, by rw [e]; exact .inl h⟩
        · rw [if_pos e0] at hS1
          obtain rfl : (S.write ((hIx N F C U l.length + 1 : Nat) : Int) old).1 = r1 := congrArg (·.1) hS1
          obtain rfl : (S.write ((hIx N F C U l.length + 1 : Nat) : Int) old).2 = S1 := congrArg (·.2) hS1
          exact .inl ⟨e0, .inr ⟨e3, fun K => by rw [e1, e2]; exact hsafe K⟩⟩
        · rw [if_neg (fun h => h e0)] at hS1
          obtain ⟨T, hT⟩ : ∃ T, T = (S.write ((hIx N F C U l.length + 1 : Nat) : Int) old).2 := ⟨_, rfl⟩
          have hTs : Safe (fun L => RbK N F C U L0 l L ∧ Zs N F C U L l.length) T := by
            refine Safe.of (by rw [hT, e1]; exact ⟨h.rb, h.zs⟩) fun x hx L hL => ?_
            rw [hT, e2, List.mem_append, List.mem_singleton] at hx
            rcases hx with hx | rfl
            · exact h.closed ho x hx L hL
            · exact ⟨hL.1.old ho hs, hL.2.old _⟩
          rw [← hT] at hS1 e1 e2 e3
          rcases flush_two T e3 with ⟨f0, f1, f2, f3, _⟩ | ⟨f0, f1, f2, f3, _⟩
          · obtain rfl : T.flush.1 = r1 := congrArg (·.1) hS1
            obtain rfl : T.flush.2 = S1 := congrArg (·.2) hS1
            exact .inl ⟨f0, .inr ⟨f3, fun K => by rw [f1, f2]; exact ⟨l, (hTs K).1⟩⟩⟩
          · obtain rfl : T.flush.1 = r1 := congrArg (·.1) hS1
            obtain rfl : T.flush.2 = S1 := congrArg (·.2) hS1
            refine .inr ⟨f0, f3, f2, ?_⟩
            rw [f1, e1, e2, appW_snoc, ← hLF, Int.toNat_natCast]
      rw [hS1]
      dsimp only
      rcases k1 with ⟨e0, hw⟩ | ⟨e0, e1, e2, e3⟩
      · rw [if_pos e0]; exact .inr ⟨e0, hw⟩
      · rw [if_neg (fun h => h e0)]
        have hA : RbK N F C U L0 l S1.L ∧ Zs N F C U S1.L l.length := by rw [e3]; exact ⟨hfl.1.old ho (by rw [hold]; exact hsz), hfl.2.old _⟩
        have hH := hfl.1.head ho hfl.2 hk hm hn
        rw [hFp] at hH
        rw [← e3] at hH
        -- the head
        obtain ⟨r2, S2, hS2⟩ : ∃ r S', storeP S1 ((hIx N F C U l.length : Nat) : Int) (headB 3 2 l.length p (sumN old)) = (r, S') := ⟨_, _, rfl⟩
        have k2 : (r2 ≠ 0 ∧ Walk1 N F C U L0 S2 l) ∨ (r2 = 0 ∧ Go1 N F C U L0 S2 (l ++ [⟨3, 2, (p : Int), old⟩])) := by
          unfold storeP at hS2
          rcases write_three S1 ((hIx N F C U l.length : Nat) : Int) (headB 3 2 l.length p (sumN old)) e1 with ⟨g0, g⟩ | ⟨g0, g1, g2, g3, _⟩ | ⟨g0, g1, g2, g3, _, hs, _⟩
          · rw [if_pos g0] at hS2
            obtain rfl : (S1.write ((hIx N F C U l.length : Nat) : Int) (headB 3 2 l.length p (sumN old))).1 = r2 := congrArg (·.1) hS2
            obtain rfl : (S1.write ((hIx N F C U l.length : Nat) : Int) (headB 3 2 l.length p (sumN old))).2 = S2 := congrArg (·.2) hS2
            exact .inl ⟨g0, by rw [g]; exact .inl ⟨e1, hA.1, hA.2, fun x hx => by rw [e2] at hx; cases hx⟩⟩
          · rw [if_pos g0] at hS2
            obtain rfl : (S1.write ((hIx N F C U l.length : Nat) : Int) (headB 3 2 l.length p (sumN old))).1 = r2 := congrArg (·.1) hS2
            obtain rfl : (S1.write ((hIx N F C U l.length : Nat) : Int) (headB 3 2 l.length p (sumN old))).2 = S2 := congrArg (·.2) hS2
            refine .inl ⟨g0, .inr ⟨g3, fun K => ?_⟩⟩
            rw [g1, g2, e2]
            exact ⟨l, hA.1⟩
          · rw [if_neg (fun h => h g0)] at hS2
            obtain ⟨T, hT⟩ : ∃ T, T = (S1.write ((hIx N F C U l.length : Nat) : Int) (headB 3 2 l.length p (sumN old))).2 := ⟨_, rfl⟩
            rw [← hT] at hS2 g1 g2 g3
            rw [e2, List.nil_append] at g2
            rcases flush_two T g3 with ⟨f0, f1, f2, f3, _⟩ | ⟨f0, f1, f2, f3, _⟩
            · obtain rfl : T.flush.1 = r2 := congrArg (·.1) hS2
              obtain rfl : T.flush.2 = S2 := congrArg (·.2) hS2
              refine .inl ⟨f0, .inr ⟨f3, fun K => ?_⟩⟩
              rw [f1, f2, g1, g2]
              rcases appK_one S1.L (hIx N F C U l.length) (headB 3 2 l.length p (sumN old)) K with e | e
              · rw [List.length_singleton, e]; exact ⟨l, hA.1⟩
              · rw [List.length_singleton, e]; exact ⟨_, hH.1⟩
            · obtain rfl : T.flush.1 = r2 := congrArg (·.1) hS2
              obtain rfl : T.flush.2 = S2 := congrArg (·.2) hS2
              have hLe : T.flush.2.L = S1.L.set (hIx N F C U l.length) (headB 3 2 l.length p (sumN old)) := by
                rw [f1, g1, g2]; simp [appW, wAt]
              exact .inr ⟨f0, f3, by rw [hLe]; exact hH.1, by rw [hLe]; exact hH.2, fun x hx => by rw [f2] at hx; cases hx⟩
        rw [hS2]
        dsimp only
        rcases k2 with ⟨g0, hw⟩ | ⟨g0, hg⟩
        · rw [if_pos g0]; exact .inr ⟨g0, hw⟩
        · rw [if_neg (fun h => h g0)]
          exact .inl ⟨rfl, rfl, .inl hg⟩
    · have : appP N F C U S (l.length : Int) 3 2 place = ⟨5, noEn, S⟩ := by
        unfold appP
        rw [if_neg (fun h => h ho), if_neg (by omega), if_neg (fun h => h hm)]
        have hr : S.read place = (noBytes, 5) := by unfold DS.read; rw [if_pos h1]
        rw [hr, if_pos (by simp)]
      rw [this]
      exact .inr ⟨by simp, .inr ⟨h1, h2⟩⟩
  · obtain ⟨c, h1, h2⟩ := app_no (S := S) (k := (l.length : Int)) (tag := 3) (ep := 2) (place := place) ho hc
    rw [h2]
    exact .inr ⟨h1, h⟩

/-! ### Back -/
theorem snoc_ind {α : Type} {P : List α → Prop} (h0 : P []) (h1 : ∀ X x, P X → P (X ++ [x])) : ∀ (n : Nat) (X : List α), X.length = n → P X
  | 0, X, h => by rw [List.length_eq_zero_iff.1 h]; exact h0
  | n + 1, X, h => by
    have hne : X ≠ [] := fun e => by rw [e] at h; simp at h
    rw [← List.dropLast_concat_getLast hne]
    exact h1 _ _ (snoc_ind h0 h1 n _ (by rw [List.length_dropLast]; omega))
theorem wrL_safe {G : List ByteArray → Prop} : ∀ (X : List (Nat × En)) {S : DS}, Safe G S → (∀ x ∈ X, x.2.old.size = 64 → ∀ L, G L → G (L.set x.2.place.toNat x.2.old)) → Safe G (wrL S X).2 := by
  refine fun X => snoc_ind (P := fun X => ∀ {S : DS}, Safe G S → (∀ x ∈ X, x.2.old.size = 64 → ∀ L, G L → G (L.set x.2.place.toNat x.2.old)) → Safe G (wrL S X).2) ?_ ?_ X.length X rfl
  · intro S h _; exact h
  · intro X x ih S h hc
    rw [wrL_snoc]
    have ih' := ih h fun y hy => hc y (List.mem_append_left _ hy)
    split
    · exact ih'
    · exact write_safe ih' (hc x (by simp))
/-- Where all writes went well they all wait. -/
theorem wrL_wait : ∀ (X : List (Nat × En)) {S : DS}, S.off = false → S.W = [] → (wrL S X).1 = 0 → (wrL S X).2.off = false ∧ (wrL S X).2.L = S.L ∧ (wrL S X).2.W = X.map fun x => (x.2.place, x.2.old) := by
  refine fun X => snoc_ind (P := fun X => ∀ {S : DS}, S.off = false → S.W = [] → (wrL S X).1 = 0 → (wrL S X).2.off = false ∧ (wrL S X).2.L = S.L ∧ (wrL S X).2.W = X.map fun x => (x.2.place, x.2.old)) ?_ ?_ X.length X rfl
  · intro S h1 h2 _; exact ⟨h1, rfl, h2⟩
  · intro X x ih S h1 h2 h0
    rw [wrL_snoc] at h0 ⊢
    by_cases hb : (wrL S X).1 ≠ 0
    · rw [if_pos hb] at h0; exact absurd h0 hb
    · rw [if_neg hb] at h0 ⊢
      obtain ⟨i1, i2, i3⟩ := ih h1 h2 (by simpa using hb)
      rcases write_three (wrL S X).2 x.2.place x.2.old i1 with ⟨e0, _⟩ | ⟨e0, _⟩ | ⟨_, e1, e2, e3, _⟩
      · exact absurd h0 e0
      · exact absurd h0 e0
      · exact ⟨e3, by rw [e1, i2], by rw [e2, i3, List.map_append]; rfl⟩
/-- With no fuse, and all places there, they go well. -/
theorem wrL_well : ∀ (X : List (Nat × En)) {S : DS}, S.off = false → S.left = -1 → (∀ x ∈ X, S.has x.2.place ∧ x.2.old.size = 64) → (wrL S X).1 = 0 ∧ (wrL S X).2.off = false ∧ (wrL S X).2.left = -1 ∧ (wrL S X).2.L.length = S.L.length := by
  refine fun X => snoc_ind (P := fun X => ∀ {S : DS}, S.off = false → S.left = -1 → (∀ x ∈ X, S.has x.2.place ∧ x.2.old.size = 64) → (wrL S X).1 = 0 ∧ (wrL S X).2.off = false ∧ (wrL S X).2.left = -1 ∧ (wrL S X).2.L.length = S.L.length) ?_ ?_ X.length X rfl
  · intro S h1 h2 _; exact ⟨rfl, h1, h2, rfl⟩
  · intro X x ih S h1 h2 hc
    obtain ⟨i0, i1, i2, i3⟩ := ih h1 h2 fun y hy => hc y (List.mem_append_left _ hy)
    obtain ⟨hh, hs⟩ := hc x (by simp)
    rw [wrL_snoc, if_neg (fun h => h i0)]
    have hh' : (wrL S X).2.has x.2.place := by unfold DS.has at hh ⊢; rw [i3]; exact hh
    rcases write_three (wrL S X).2 x.2.place x.2.old i1 with ⟨e0, e⟩ | ⟨_, _, _, _, e⟩ | ⟨e0, e1, _, e3, _, _, _, e4⟩
    · exfalso
      refine e0 ?_
      unfold DS.write
      rw [if_neg (by simp [i1]), if_pos hh', if_pos hs, if_neg (by omega)]
    · omega
    · exact ⟨e0, e3, e4 i2, by rw [e1, i3]⟩
theorem upE_mem {X : List En} {x : Nat × En} (h : x ∈ upE X X.length) : ∃ i, i < X.length ∧ x.2 = eAt X i := by
  unfold upE at h
  simp only [List.mem_map, List.mem_range] at h
  obtain ⟨j, hj, rfl⟩ := h
  exact ⟨X.length - 1 - j, by omega, rfl⟩
theorem upE_all {X : List En} {i : Nat} (h : i < X.length) : ∃ x ∈ upE X X.length, x.2 = eAt X i := by
  unfold upE
  exact ⟨_, List.mem_map.2 ⟨X.length - 1 - i, by simp; omega, rfl⟩, by dsimp only; rw [show X.length - 1 - (X.length - 1 - i) = i from by omega]⟩
theorem Home.good {L : List ByteArray} (ho : okG N F C U) (h : Home N F C U L0 L) : Good N F C U L0 L :=
  ⟨[], h.len, h.sizes, ⟨by have := ho.2.2.2.2.2.2.1; simp; omega, fun i hi => by simp at hi, fun _ => h.clear⟩, fun i hi => by simp at hi, fun j hj _ => h.all j hj⟩
/-- Back of the entries that a disk tells, wherever it goes down. -/
theorem back_safe {L : List ByteArray} {l : List En} {m : Int} {did : Nat} (ho : okG N F C U) (h : RbK N F C U L0 l L) :
    Safe (Good N F C U L0) (backP N F C U ⟨L, [], m, false, did⟩ l).2 ∧ (m = -1 → (backP N F C U ⟨L, [], m, false, did⟩ l).1 = 0 ∧ ∃ L' did', (backP N F C U ⟨L, [], m, false, did⟩ l).2 = flat L' did' ∧ Home N F C U L0 L') := by
  obtain ⟨S, hS⟩ : ∃ S, S = (⟨L, [], m, false, did⟩ : DS) := ⟨_, rfl⟩
  have hSL : S.L = L := by rw [hS]
  have hSW : S.W = [] := by rw [hS]
  have hSo : S.off = false := by rw [hS]
  have hSm : S.left = m := by rw [hS]
  rw [← hS]
  have hsafe0 : Safe (RbK N F C U L0 l) S := fun K => by rw [hSL, hSW]; exact h
  have hw : Safe (RbK N F C U L0 l) (wrL S (upE l l.length)).2 := wrL_safe _ hsafe0 fun x hx hs L hL => by
    obtain ⟨i, hi, he⟩ := upE_mem hx
    rw [he] at hs ⊢
    exact hL.place ho hi hs
  have hhome : (wrL S (upE l l.length)).1 = 0 → (wrL S (upE l l.length)).2.flush.1 = 0 → ((wrL S (upE l l.length)).2.flush.2.L.length = L.length) ∧ (∀ j : Nat, mayP N F C U (j : Int) → lAt (wrL S (upE l l.length)).2.flush.2.L j = lAt L0 j) ∧ RbK N F C U L0 l (wrL S (upE l l.length)).2.flush.2.L ∧ (wrL S (upE l l.length)).2.flush.2.off = false ∧ (wrL S (upE l l.length)).2.flush.2.W = [] := fun g0 g1 => by
    obtain ⟨i1, i2, i3⟩ := wrL_wait _ hSo hSW g0
    rcases flush_two _ i1 with ⟨f0, _⟩ | ⟨_, f1, f2, f3, _⟩
    · exact absurd g1 f0
    · have hrb : RbK N F C U L0 l (wrL S (upE l l.length)).2.flush.2.L := by
        have := flush_safe hw []
        rw [f2] at this
        exact this
      refine ⟨by rw [f1, appW_length, i2, hSL], fun j hj => ?_, hrb, f3, f2⟩
      rw [f1, i2, i3, hSL, appW_at (L0 := L0) ?_ _ (Nat.le_refl _) j]
      · split
        · rfl
        · rename_i hne
          refine h.out j hj fun i hi he => hne ?_
          obtain ⟨x, hx, hxe⟩ := upE_all (X := l) hi
          obtain ⟨k, hk, hke⟩ := List.mem_iff_getElem.1 hx
          refine ⟨k, by simpa using hk, ?_⟩
          unfold wAt
          rw [List.getElem?_map, List.getElem?_eq_getElem hk]
          simp [hke, hxe, he]
      · intro y hy
        simp only [List.mem_map] at hy
        obtain ⟨x, hx, rfl⟩ := hy
        obtain ⟨i, hi, he⟩ := upE_mem hx
        dsimp only
        rw [he]
        have hm := (h.holds.ent i hi).2.2.1
        exact ⟨h.olds i hi, by have := h.len; have := hm.1; have := hm.2; have := ho.2.2.2.2.2.2.1; omega⟩
  -- Clear
  have hcl : ∀ T : DS, T.off = false → T.W = [] → (∀ j : Nat, mayP N F C U (j : Int) → lAt T.L j = lAt L0 j) → RbK N F C U L0 l T.L → Safe (Good N F C U L0) (clearP N F C U T).2 ∧ (T.left = -1 → (clearP N F C U T).1 = 0 ∧ ∃ L' did', (clearP N F C U T).2 = flat L' did' ∧ Home N F C U L0 L') := fun T h1 h2 h3 h4 => by
    have hn := ho.1
    have hu := ho.2.2.2.2.2.2.1
    have a1 : areaAt N F C U 1 0 = ((hIx N F C U 0 : Nat) : Int) := by
      unfold areaAt hIx
      rw [if_pos ⟨ho, .inr rfl, by omega, by unfold sec; rw [if_neg (by omega)]; omega⟩]
      omega
    have hcl0 : ∀ LL : List ByteArray, (RbK N F C U L0 l LL ∧ ∀ j : Nat, mayP N F C U (j : Int) → lAt LL j = lAt L0 j) → Home N F C U L0 (LL.set (hIx N F C U 0) (secOf 0)) := fun LL hLL => by
      refine ⟨by simpa using hLL.1.len, sizes_set hLL.1.sizes (secOf_size 0), fun j hj => ?_, lAt_set_eq (by have := hLL.1.len; unfold hIx; omega)⟩
      rw [lAt_set_ne (fun e => (may_low ho hj 0).1 e.symm)]
      exact hLL.2 j hj
    have hG : Safe (fun LL => (RbK N F C U L0 l LL ∧ ∀ j : Nat, mayP N F C U (j : Int) → lAt LL j = lAt L0 j) ∨ Home N F C U L0 LL) T := fun K => by rw [h2]; exact .inl ⟨h4, h3⟩
    have hset : ∀ LL : List ByteArray, ((RbK N F C U L0 l LL ∧ ∀ j : Nat, mayP N F C U (j : Int) → lAt LL j = lAt L0 j) ∨ Home N F C U L0 LL) → ((RbK N F C U L0 l (LL.set (hIx N F C U 0) (secOf 0)) ∧ ∀ j : Nat, mayP N F C U (j : Int) → lAt (LL.set (hIx N F C U 0) (secOf 0)) j = lAt L0 j) ∨ Home N F C U L0 (LL.set (hIx N F C U 0) (secOf 0))) := fun LL hLL => by
      rcases hLL with hLL | hLL
      · exact .inr (hcl0 LL hLL)
      · refine .inr ⟨by simpa using hLL.len, sizes_set hLL.sizes (secOf_size 0), fun j hj => ?_, lAt_set_eq (by have := hLL.len; unfold hIx; omega)⟩
        rw [lAt_set_ne (fun e => (may_low ho hj 0).1 e.symm)]
        exact hLL.all j hj
    have hs1 : Safe (fun LL => (RbK N F C U L0 l LL ∧ ∀ j : Nat, mayP N F C U (j : Int) → lAt LL j = lAt L0 j) ∨ Home N F C U L0 LL) (T.write ((hIx N F C U 0 : Nat) : Int) (secOf 0)).2 := write_safe hG fun _ LL hLL => by rw [Int.toNat_natCast]; exact hset LL hLL
    have himp : ∀ LL : List ByteArray, ((RbK N F C U L0 l LL ∧ ∀ j : Nat, mayP N F C U (j : Int) → lAt LL j = lAt L0 j) ∨ Home N F C U L0 LL) → Good N F C U L0 LL := fun LL hLL => hLL.elim (fun h => ⟨l, h.1⟩) (fun h => h.good ho)
    refine ⟨?_, fun hl => ?_⟩
    · unfold clearP
      rw [if_pos ho, a1]
      unfold storeP
      split
      · exact hs1.imp himp
      · exact (flush_safe hs1).imp himp
    · unfold clearP
      rw [if_pos ho, a1]
      have hT : T = flat T.L T.did := by cases T; simp at h1 h2 hl; simp [flat, h1, h2, hl]
      rw [hT, flat_store _ _ _ _ (by have := h4.len; unfold hIx; omega) (secOf_size 0)]
      exact ⟨rfl, _, _, rfl, hcl0 _ ⟨h4, h3⟩⟩
  unfold backP
  rw [if_pos ho]
  refine ⟨?_, fun hm => ?_⟩
  · by_cases g0 : (wrL S (upE l l.length)).1 = 0
    · rw [if_neg (fun h => h g0)]
      by_cases g1 : (wrL S (upE l l.length)).2.flush.1 = 0
      · rw [if_neg (fun h => h g1)]
        obtain ⟨_, k2, k3, k4, k5⟩ := hhome g0 g1
        exact (hcl _ k4 k5 k2 k3).1
      · rw [if_pos g1]
        exact (flush_safe hw).imp fun L hL => ⟨l, hL⟩
    · rw [if_pos g0]
      exact hw.imp fun L hL => ⟨l, hL⟩
  · have hwell := wrL_well (upE l l.length) hSo (by rw [hSm, hm]) fun x hx => by
      obtain ⟨i, hi, he⟩ := upE_mem hx
      have hm := (h.holds.ent i hi).2.2.1
      rw [he]
      refine ⟨⟨by have := hm.1; omega, by rw [hSL]; have := h.len; have := hm.2; have := ho.2.2.2.2.2.2.1; omega⟩, ?_⟩
      rw [← (h.holds.ent i hi).2.2.2.2]
      refine h.sizes _ ?_
      have := h.len; have := h.holds.few; have := ho.1; unfold hIx; omega
    obtain ⟨g0, g1, g2, g3⟩ := hwell
    rw [if_neg (fun h => h g0)]
    rcases flush_two _ g1 with ⟨_, _, _, _, f4⟩ | ⟨f0, f1, f2, f3, _, f5⟩
    · omega
    · rw [if_neg (fun h => h f0)]
      obtain ⟨_, k2, k3, k4, k5⟩ := hhome g0 f0
      exact (hcl _ k4 k5 k2 k3).2 (f5 g2)
/-- What a scan tells, whatever the fuse. -/
theorem scan_fuse (S : DS) (m : Int) (ep : Nat) : scanP N F C U (S.fuse m) ep = scanP N F C U S ep := by
  have e : ∀ x, (S.fuse m).read x = S.read x := fun x => rfl
  have e1 : hdAt N F C U (S.fuse m) = hdAt N F C U S := by funext k; unfold hdAt; rw [e]
  have e2 : olAt N F C U (S.fuse m) = olAt N F C U S := by funext k; unfold olAt; rw [e]
  have e3 : stepP N F C U (S.fuse m) ep = stepP N F C U S ep := by funext k; unfold stepP; rw [e1, e2]
  unfold scanP
  rw [e3]
theorem RbK.scan {l : List En} {L : List ByteArray} {did : Nat} (ho : okG N F C U) (h : RbK N F C U L0 l L) : scanP N F C U (flat L did) 1 = (l, 0) := scan_holds ho h.len h.holds (by omega) (by omega) (by omega)
theorem Home.scan {L : List ByteArray} {did : Nat} (ho : okG N F C U) (h : Home N F C U L0 L) : scanP N F C U (flat L did) 1 = ([], 0) := scan_clear ho h.len h.clear (by omega)
end
end Go.Proofs.YtjohgagiccndpaaGreatDoor
/-
  RollBack: a disk, a list of entries and other blocks that stay, act by act; the document's Head; the first contents.
-/
namespace Go.Proofs.YtjohgagiccndpaaGreatDoor
open Go.RowKit
set_option linter.unusedVariables false
set_option linter.unusedSimpArgs false

/-! ### a disk beside blocks that stay as they were in wq -/
structure SQ (Q : Nat → Prop) (wq w0 w : World) (p : Nat) (S : DS) : Prop where
  st : St Q w0 w p S
  old : ∀ k, Q k → w.heap[k]? = wq.heap[k]?
section
variable {Q : Nat → Prop} {wq w0 w w' : World} {n1 p bx : Nat} {S S' : DS} {l : List En} {v : Value} {o : Obj}
theorem SQ.size (h : SQ Q wq w0 w p S) : w0.heap.size ≤ w.heap.size := h.st.size
theorem SQ.fin (h : SQ Q wq w0 w p S) : Below w0.heap.size w0 w := h.st.fin
theorem SQ.below (h : SQ Q wq w0 w p S) (hb : Below w.heap.size w w') : SQ Q wq w0 w' p S := by
  obtain ⟨v1, v2, hp, h0, hq⟩ := h.st
  exact ⟨h.st.below hb, fun k hk => (hb.block k (hq k hk).1).trans (h.old k hk)⟩
theorem SQ.step (h : SQ Q wq w0 w p S) {f : FuncId} {args : Array Value} {R : Ending} (hc : ∀ v1 v2, PD w w0.heap.size p v1 v2 S → w0.heap.size ≤ w.heap.size → Calls Tryz.prog f args w fun e w' => e = R ∧ PP w w0.heap.size p v1 v2 S' w') :
    Calls Tryz.prog f args w fun e w' => e = R ∧ SQ Q wq w0 w' p S' := by
  refine (h.st.step fun v1 v2 hp hz _ => hc v1 v2 hp hz).mono ?_
  rintro e w' ⟨he, hst, hk⟩
  exact ⟨he, hst, fun k hq => (hk k hq).trans (h.old k hq)⟩
theorem SQ.read (h : SQ Q wq w0 w p S) {f : FuncId} {args : Array Value} {R : Ending → World → Prop} (hc : ∀ v1 v2, PD w w0.heap.size p v1 v2 S → Calls Tryz.prog f args w fun e w' => R e w' ∧ Below w.heap.size w w') :
    Calls Tryz.prog f args w fun e w' => R e w' ∧ SQ Q wq w0 w' p S ∧ Below w.heap.size w w' := by
  obtain ⟨v1, v2, hp, _, _⟩ := h.st
  refine (hc v1 v2 hp).mono ?_
  rintro e w' ⟨he, hb⟩
  exact ⟨he, h.below hb, hb⟩

/-- The same, and a list of entries in a row of its own. -/
structure KQ (Q : Nat → Prop) (wq w0 : World) (n1 : Nat) (w : World) (p : Nat) (S : DS) (l : List En) (v : Value) : Prop where
  st : St (fun k => ownB v k ∨ Q k) w0 w p S
  row : w.ownsRow n1 55 4 v l.length (ents l)
  old : ∀ k, Q k → w.heap[k]? = wq.heap[k]?
  apart : ∀ k, Q k → k < n1
  low : w0.heap.size ≤ n1
  lo2 : n1 ≤ w.heap.size
theorem KQ.sq (h : KQ Q wq w0 n1 w p S l v) : SQ Q wq w0 w p S := ⟨h.st.less fun k hk => .inr hk, h.old⟩
theorem KQ.size (h : KQ Q wq w0 n1 w p S l v) : w0.heap.size ≤ w.heap.size := h.st.size
theorem KQ.fin (h : KQ Q wq w0 n1 w p S l v) : Below w0.heap.size w0 w := h.st.fin
theorem KQ.es (h : KQ Q wq w0 n1 w p S l v) : ∃ a c, v = .slice a l.length c ∧ Es w a l.length c l := by
  obtain ⟨a, c, e, h1, _⟩ := es_of_owns h.row rfl
  exact ⟨a, c, e, h1⟩
theorem KQ.below (h : KQ Q wq w0 n1 w p S l v) (hb : Below w.heap.size w w') : KQ Q wq w0 n1 w' p S l v := by
  obtain ⟨v1, v2, hp, h0, hq⟩ := h.st
  exact ⟨h.st.below hb, owns_kept h.row fun k hk => hb.block k (h.row.lt k hk).2, fun k hk => (hb.block k (hq k (.inr hk)).1).trans (h.old k hk), h.apart, h.low, Nat.le_trans h.lo2 hb.size⟩
theorem KQ.step (h : KQ Q wq w0 n1 w p S l v) {f : FuncId} {args : Array Value} {R : Ending} (hc : ∀ v1 v2, PD w w0.heap.size p v1 v2 S → w0.heap.size ≤ w.heap.size → Calls Tryz.prog f args w fun e w' => e = R ∧ PP w w0.heap.size p v1 v2 S' w') :
    Calls Tryz.prog f args w fun e w' => e = R ∧ KQ Q wq w0 n1 w' p S' l v := by
  obtain ⟨v1, v2, hp, h0, hq⟩ := h.st
  refine (hc v1 v2 hp h0.size).mono ?_
  rintro e w' ⟨he, a, b, hp', hf, ht⟩
  refine ⟨he, ⟨⟨a, b, hp', h0.trans (hf.below (fun k hk => (hp.foot_low k hk).1) h0.size), fun k hk => ⟨Nat.lt_of_lt_of_le (hq k hk).1 hf.size, fun hx => ?_⟩⟩, owns_kept h.row fun k hk => hf.block k (hq k (.inl hk)).1 (hq k (.inl hk)).2, fun k hk => (hf.block k (hq k (.inr hk)).1 (hq k (.inr hk)).2).trans (h.old k hk), h.apart, h.low, Nat.le_trans h.lo2 hf.size⟩⟩
  rcases ht k hx with h1 | h1
  · exact (hq k hk).2 h1
  · have := (hq k hk).1; omega
theorem KQ.longer (h : KQ Q wq w0 n1 w p S l v) {tmp : Obj} {v' : Value} {x : En} (hown : w'.ownsRow n1 55 4 v' (l.length + 1) (ents l ++ ents [x])) (hg : (w.alloc tmp).grownBy w' v.ownBlock) (hat : v'.ownBlock = v.ownBlock ∨ v'.ownBlock = some (w.alloc tmp).heap.size) :
    KQ Q wq w0 n1 w' p S (l ++ [x]) v' := by
  have hb := (Below.refl w.heap.size w).alloc (Nat.le_refl _) tmp
  have h1 := h.below hb
  have hsz := hg.size
  obtain ⟨v1, v2, hp, h0, hq⟩ := h1.st
  refine ⟨⟨v1, v2, hp.kept fun k hk => hg.block k (hp.foot_low k hk).2 (fun e => (hq k (.inl e.symm)).2 hk), h0.grown hg h0.size (fun k e => Nat.le_trans h.low (h.row.lt k e).1), fun k hk => ?_⟩, ?_, fun k hk => ?_, h.apart, h.low, Nat.le_trans h1.lo2 hsz⟩
  · rcases hk with hk | hk
    · refine ⟨(hown.lt k hk).2, ?_⟩
      rcases hat with e | e
      · exact (hq k (.inl (by unfold ownB at hk ⊢; rw [← e]; exact hk))).2
      · unfold ownB at hk
        rw [hk] at e
        cases e
        exact fun hx => Nat.lt_irrefl _ (hp.foot_low _ hx).2
    · exact ⟨Nat.lt_of_lt_of_le (hq k (.inr hk)).1 hg.size, (hq k (.inr hk)).2⟩
  · rw [List.length_append, ents_append]
    exact hown
  · exact (hg.block k (hq k (.inr hk)).1 (fun e => by have := (h.row.lt k e.symm).1; have := h.apart k hk; omega)).trans (h1.old k hk)

/-- The same, and a box of four cells. -/
structure KQB (Q : Nat → Prop) (wq w0 : World) (n1 : Nat) (w : World) (p : Nat) (S : DS) (l : List En) (v : Value) (bx : Nat) (a b c d : Value) : Prop where
  st : St (fun k => (ownB v k ∨ Q k) ∨ k = bx) w0 w p S
  row : w.ownsRow n1 55 4 v l.length (ents l)
  old : ∀ k, Q k → w.heap[k]? = wq.heap[k]?
  apart : ∀ k, Q k → k < n1
  low : w0.heap.size ≤ n1
  lo2 : n1 ≤ w.heap.size
  box : Box4 w bx 55 a b c d
  nob : n1 ≤ bx ∧ ¬ ownB v bx
variable {a b c d : Value}
theorem KQB.kq (h : KQB Q wq w0 n1 w p S l v bx a b c d) : KQ Q wq w0 n1 w p S l v := ⟨h.st.less fun k hk => .inl hk, h.row, h.old, h.apart, h.low, h.lo2⟩
theorem KQB.fin (h : KQB Q wq w0 n1 w p S l v bx a b c d) : Below w0.heap.size w0 w := h.st.fin
theorem KQ.boxed (h : KQ Q wq w0 n1 w p S l v) (hW : w' = w.alloc (.cells #[a, b, c, d] 55)) (hx : bx = w.heap.size) : KQB Q wq w0 n1 w' p S l v bx a b c d := by
  subst hW hx
  have hb := (Below.refl w.heap.size w).alloc (Nat.le_refl _) (.cells #[a, b, c, d] 55)
  have h1 := h.below hb
  exact ⟨h.st.add hb (Nat.le_refl _) (by simp), h1.row, h1.old, h.apart, h.low, h1.lo2, heap_alloc_new w _, h.lo2, fun e => Nat.lt_irrefl _ (h.row.lt _ e).2⟩
theorem KQB.below (h : KQB Q wq w0 n1 w p S l v bx a b c d) (hb : Below w.heap.size w w') : KQB Q wq w0 n1 w' p S l v bx a b c d := by
  have h1 := h.kq.below hb
  exact ⟨h.st.below hb, h1.row, h1.old, h.apart, h.low, h1.lo2, (hb.block _ (lt_of_block h.box)).trans h.box, h.nob⟩
theorem KQB.set (h : KQB Q wq w0 n1 w p S l v bx a b c d) (a' b' c' d' : Value) : KQB Q wq w0 n1 (set4 w bx a' b' c' d') p S l v bx a' b' c' d' := by
  obtain ⟨v1, v2, hp, h0, hq⟩ := h.st
  have hn := h.nob
  have hl := h.low
  have hne : ∀ k, foot p v1 v2 k → k ≠ bx := fun k hk e => (hq bx (.inr rfl)).2 (e ▸ hk)
  refine ⟨⟨v1, v2, hp.kept fun k hk => set4_other (hne k hk), below_set4 h0 (by omega), fun k hk => by rw [set4_size]; exact hq k hk⟩, owns_kept h.row fun k hk => set4_other (fun e => hn.2 (e ▸ hk)), fun k hk => (set4_other (by have := h.apart k hk; omega)).trans (h.old k hk), h.apart, h.low, by rw [set4_size]; exact h.lo2, h.box.set _ _ _ _, hn⟩
theorem KQB.step (h : KQB Q wq w0 n1 w p S l v bx a b c d) {f : FuncId} {args : Array Value} {R : Ending} (hc : ∀ v1 v2, PD w w0.heap.size p v1 v2 S → w0.heap.size ≤ w.heap.size → Calls Tryz.prog f args w fun e w' => e = R ∧ PP w w0.heap.size p v1 v2 S' w') :
    Calls Tryz.prog f args w fun e w' => e = R ∧ KQB Q wq w0 n1 w' p S' l v bx a b c d ∧ ∀ a' b' c' d', KQB Q wq w0 n1 (set4 w' bx a' b' c' d') p S' l v bx a' b' c' d' := by
  obtain ⟨v1, v2, hp, h0, hq⟩ := h.st
  refine (hc v1 v2 hp h0.size).mono ?_
  rintro e w' ⟨he, u1, u2, hp', hf, ht⟩
  have hk : KQB Q wq w0 n1 w' p S' l v bx a b c d := by
    refine ⟨⟨u1, u2, hp', h0.trans (hf.below (fun k hk => (hp.foot_low k hk).1) h0.size), fun k hk => ⟨Nat.lt_of_lt_of_le (hq k hk).1 hf.size, fun hx => ?_⟩⟩, owns_kept h.row fun k hk => hf.block k (hq k (.inl (.inl hk))).1 (hq k (.inl (.inl hk))).2, fun k hk => (hf.block k (hq k (.inl (.inr hk))).1 (hq k (.inl (.inr hk))).2).trans (h.old k hk), h.apart, h.low, Nat.le_trans h.lo2 hf.size, (hf.block bx (hq bx (.inr rfl)).1 (hq bx (.inr rfl)).2).trans h.box, h.nob⟩
    rcases ht k hx with h1 | h1
    · exact (hq k hk).2 h1
    · have := (hq k hk).1; omega
  exact ⟨he, hk, fun a' b' c' d' => hk.set a' b' c' d'⟩
end

/-! ### what is found -/
theorem findE_two (X : List En) (place : Int) : (findE X place = none ∧ ∀ i, i < X.length → (eAt X i).place ≠ place) ∨ (∃ s i, findE X place = some s ∧ i < X.length ∧ (eAt X i).place = place) := by
  unfold findE
  cases h : X.find? (fun e => e.place == place) with
  | none =>
    refine .inl ⟨rfl, fun i hi he => ?_⟩
    have := List.find?_eq_none.1 h (X[i]) (List.getElem_mem hi)
    unfold eAt at he
    rw [List.getElem?_eq_getElem hi] at he
    simp at this
    exact this (by simpa using he)
  | some e =>
    obtain ⟨h1, i, hi, he, _⟩ := List.find?_eq_some_iff_getElem.1 h
    refine .inr ⟨e.old, i, rfl, hi, ?_⟩
    unfold eAt
    rw [List.getElem?_eq_getElem hi]
    simp only [Option.getD_some, he]
    simpa using h1

/-! ### the first contents -/
def byteOf (n : Nat) : UInt8 := UInt8.ofNat n
/-- The first k data sectors written. -/
def iniS (S : DS) : Nat → DS
  | 0 => S
  | k + 1 => ((iniS S k).write (6 + (k : Int)) (secOf (byteOf (k + 1)))).2
theorem ini_facts {L : List ByteArray} : ∀ (k : Nat), 6 + k ≤ L.length → (iniS (flat L 0) k).off = false ∧ (iniS (flat L 0) k).left = -1 ∧ (iniS (flat L 0) k).L = L ∧ (iniS (flat L 0) k).W.length = k ∧ (∀ x ∈ (iniS (flat L 0) k).W, x.2.size = 64 ∧ ∃ i : Nat, i < k ∧ x.1 = 6 + (i : Int))
  | 0, _ => ⟨rfl, rfl, rfl, rfl, fun x hx => by cases hx⟩
  | k + 1, hk => by
    obtain ⟨h1, h2, h3, h4, h5⟩ := ini_facts (L := L) k (by omega)
    rcases write_three (iniS (flat L 0) k) (6 + (k : Int)) (secOf (byteOf (k + 1))) h1 with ⟨e0, _⟩ | ⟨_, _, _, _, e⟩ | ⟨_, e1, e2, e3, _, _, _, e4⟩
    · exfalso
      refine e0 ?_
      unfold DS.write
      rw [if_neg (by simp [h1]), if_pos ⟨by omega, by rw [h3]; omega⟩, if_pos (secOf_size _), if_neg (by omega)]
    · omega
    · refine ⟨e3, e4 h2, e1.trans h3, ?_, fun x hx => ?_⟩
      · show ((iniS (flat L 0) k).write _ _).2.W.length = _
        rw [e2]; simp [h4]
      · have hx' : x ∈ ((iniS (flat L 0) k).write (6 + (k : Int)) (secOf (byteOf (k + 1)))).2.W := hx
        rw [e2, List.mem_append, List.mem_singleton] at hx'
        rcases hx' with hx' | rfl
        · obtain ⟨g1, i, hi, g2⟩ := h5 x hx'
          exact ⟨g1, i, by omega, g2⟩
        · exact ⟨secOf_size _, k, by omega, rfl⟩
theorem ini_ok {L : List ByteArray} (hl : L.length ≤ 1200) : ∀ k : Nat, (iniS (flat L 0) k).ok k
  | 0 => flat_ok' L 0 hl
  | k + 1 => (ini_ok hl k).write _ _
/-- Behind the flush: a disk on which nothing waits, with no entry. -/
theorem ini_flush {N F C U : Int} {n sz : Nat} (ho : okG N F C U) (hn : N = (n : Int)) (hsz : sz = 6 + n + nodes N F C U + 2 * U.toNat) :
    ∃ L0 did0, (iniS (flat (List.replicate sz (secOf 0)) 0) n).flush.2 = flat L0 did0 ∧ L0.length = sz ∧ (L0.length : Int) = 6 + N + (nodes N F C U : Int) + 2 * U ∧ (∀ i : Nat, i < L0.length → (lAt L0 i).size = 64) ∧ Zs N F C U L0 0 := by
  have hu := ho.2.2.2.2.2.2.1
  have hN := ho.1
  obtain ⟨h1, h2, h3, h4, h5⟩ := ini_facts (L := List.replicate sz (secOf 0)) n (by simp; omega)
  rcases flush_two _ h1 with ⟨_, _, _, _, e⟩ | ⟨_, e1, e2, e3, _, e4⟩
  · omega
  · obtain ⟨T, hT⟩ : ∃ T, T = (iniS (flat (List.replicate sz (secOf 0)) 0) n).flush.2 := ⟨_, rfl⟩
    rw [← hT] at e1 e2 e3 e4 ⊢
    have hG : (fun L : List ByteArray => L.length = sz ∧ (∀ i : Nat, i < L.length → (lAt L i).size = 64) ∧ Zs N F C U L 0) T.L := by
      rw [e1]
      refine appW_closed (G := fun L : List ByteArray => L.length = sz ∧ (∀ i : Nat, i < L.length → (lAt L i).size = 64) ∧ Zs N F C U L 0) ?_ (fun x hx L hL => ?_) _ (Nat.le_refl _)
      · rw [h3]
        refine ⟨by simp, fun i hi => by rw [lAt_rep (by simpa using hi)]; exact secOf_size 0, fun j _ hj => lAt_rep (by unfold hIx; omega)⟩
      · obtain ⟨g1, i, hi, g2⟩ := h5 x hx
        have ha : x.1.toNat = 6 + i := by rw [g2]; omega
        rw [ha]
        refine ⟨by simpa using hL.1, sizes_set hL.2.1 g1, fun j h0 hj => ?_⟩
        rw [lAt_set_ne (by unfold hIx; omega)]
        exact hL.2.2 j h0 hj
    refine ⟨T.L, T.did, ?_, hG.1, by rw [hG.1]; omega, hG.2.1, hG.2.2⟩
    have := e4 h2
    cases T
    simp at e2 e3 this
    simp [flat, e2, e3, this]
theorem go1_first {N F C U : Int} {L0 : List ByteArray} {did : Nat} (m : Int) (ho : okG N F C U) (hl : (L0.length : Int) = 6 + N + (nodes N F C U : Int) + 2 * U) (hs : ∀ i : Nat, i < L0.length → (lAt L0 i).size = 64) (hz : Zs N F C U L0 0) : Go1 N F C U L0 ((flat L0 did).fuse m) [] ∧ Go1 N F C U L0 (flat L0 did) [] := by
  have hr : RbK N F C U L0 [] L0 := ⟨hl, hs, ⟨by have := ho.2.2.2.2.2.2.1; simp; omega, fun i hi => by simp at hi, fun h => hz 0 (Nat.le_refl _) h⟩, fun i hi => by simp at hi, fun j _ _ => rfl⟩
  exact ⟨⟨rfl, hr, hz, fun x hx => by cases hx⟩, ⟨rfl, hr, hz, fun x hx => by cases hx⟩⟩
theorem look_small {W : List (Int × ByteArray)} {a : Int} {d : ByteArray} (hd : d.size ≤ 64) (h : ∀ x ∈ W, x.2.size = 64) : ∀ n, n ≤ W.length → (look W a d n).size ≤ 64
  | 0, _ => hd
  | n + 1, hn => by
    unfold look
    split
    · rw [h _ (wAt_mem (by omega))]; omega
    · exact look_small hd h n (by omega)
theorem read_small {S : DS} (h : S.off = true ∨ ((∀ i : Nat, i < S.L.length → (lAt S.L i).size = 64) ∧ ∀ x ∈ S.W, x.2.size = 64)) (x : Int) : (S.read x).1.size ≤ 140737488355328 := by
  unfold DS.read
  by_cases ho : S.off = true
  · rw [if_pos ho]; exact Nat.zero_le _
  · rw [if_neg ho]
    rcases h with h | ⟨h1, h2⟩
    · exact absurd h ho
    · split
      · rename_i hh
        obtain ⟨k, rfl, hk⟩ := has_nat hh
        have := look_small (W := S.W) (a := (k : Int)) (d := lAt S.L k) (by rw [h1 k (by omega)]; omega) h2 _ (Nat.le_refl _)
        simp only [Int.toNat_natCast]
        omega
      · exact Nat.zero_le _
theorem Walk1.small {N F C U : Int} {L0 : List ByteArray} {S : DS} {l : List En} (h : Walk1 N F C U L0 S l) (x : Int) : (S.read x).1.size ≤ 140737488355328 := by
  refine read_small ?_ x
  rcases h with h | h
  · exact .inr ⟨h.rb.sizes, fun x hx => (h.wait x hx).1⟩
  · exact .inl h.1
theorem app_len {N F C U : Int} (S : DS) (k : Int) (tag ep : Nat) (place : Int) : (appP N F C U S k tag ep place).ds.L.length = S.L.length := by
  have hs : ∀ (S : DS) (a : Int) (d : ByteArray), (storeP S a d).2.L.length = S.L.length := fun S a d => by
    have hw : (S.write a d).2.L.length = S.L.length := by
      cases hup : S.off with
      | true => rw [write_down _ _ _ hup]
      | false =>
        rcases write_three S a d hup with ⟨_, e⟩ | ⟨_, e, _⟩ | ⟨_, e, _⟩
        · rw [e]
        · rw [e]
        · rw [e]
    have hf : ∀ T : DS, T.flush.2.L.length = T.L.length := fun T => by
      cases hup : T.off with
      | true => rw [flush_down _ hup]
      | false =>
        rcases flush_two T hup with ⟨_, e, _⟩ | ⟨_, e, _⟩
        · rw [e]
        · rw [e, appW_length]
    unfold storeP
    split
    · exact hw
    · rw [hf, hw]
  unfold appP
  split
  · rfl
  · split
    · rfl
    · split
      · rfl
      · split
        · rfl
        · split
          · exact hs _ _ _
          · split
            · rw [hs, hs]
            · rw [hs, hs]
theorem wr_len (S : DS) (a : Int) (d : ByteArray) : (S.write a d).2.L.length = S.L.length := by
  cases hup : S.off with
  | true => rw [write_down _ _ _ hup]
  | false =>
    rcases write_three S a d hup with ⟨_, e⟩ | ⟨_, e, _⟩ | ⟨_, e, _⟩
    · rw [e]
    · rw [e]
    · rw [e]

/-! ### the document's Head -/
def hdBody (front : List UInt8) (k place sum : Nat) : List UInt8 := front ++ enc k 4 ++ enc place 4 ++ enc sum 4
set_option maxRecDepth 20000 in
set_option maxHeartbeats 2000000 in
theorem rhead_any (kind : Int) (front : List UInt8) (k place : Nat) (old : ByteArray) (w : World) (hk : k < 4294967296) (hp : place < 4294967296) (hf : front.length ≤ 100) (ho : old.size ≤ 140737488355328) :
    Calls Tryz.prog 36 #[.int .i64 kind, strV front, .int .i64 (k : Int), .int .i64 (place : Int), .string old] w fun e w' => e = .returned (strV (makeP kind (hdBody front k place (sumN old))).1) ∧ Below w.heap.size w w' := by
  have hsum : sumN old < 4294967296 := addN_lt _ _
  have t1 := fun w => text_any 4 k w (by omega) (by omega) (by omega)
  have t2 := fun w => text_any 4 place w (by omega) (by omega) (by omega)
  have t3 := fun w => text_any 4 (sumN old) w (by omega) (by omega) (by omega)
  rw [show ((4 : Nat) : Int) = 4 from rfl] at t1 t2 t3
  obtain ⟨V1, hV1⟩ : ∃ V, V = strV (enc k 4) := ⟨_, rfl⟩
  obtain ⟨V2, hV2⟩ : ∃ V, V = strV (enc place 4) := ⟨_, rfl⟩
  obtain ⟨V3, hV3⟩ : ∃ V, V = strV (enc (sumN old) 4) := ⟨_, rfl⟩
  obtain ⟨VF, hVF⟩ : ∃ V, V = strV front := ⟨_, rfl⟩
  obtain ⟨VA, hVA⟩ : ∃ V, V = strV (front ++ enc k 4) := ⟨_, rfl⟩
  obtain ⟨VB, hVB⟩ : ∃ V, V = strV (front ++ enc k 4 ++ enc place 4) := ⟨_, rfl⟩
  obtain ⟨bd, hbd⟩ : ∃ b, b = hdBody front k place (sumN old) := ⟨_, rfl⟩
  obtain ⟨VC, hVC⟩ : ∃ V, V = strV bd := ⟨_, rfl⟩
  have a1 : ∀ w, (binOp .add 9 VF V1).run Tryz.prog w = .ok VA w := fun w => by rw [hVF, hV1, hVA]; exact add_texts _ _ (by simp [enc_length]; omega) w
  have a2 : ∀ w, (binOp .add 9 VA V2).run Tryz.prog w = .ok VB w := fun w => by rw [hVA, hV2, hVB]; exact add_texts _ _ (by simp [enc_length]; omega) w
  have a3 : ∀ w, (binOp .add 9 VB V3).run Tryz.prog w = .ok VC w := fun w => by rw [hVB, hV3, hVC, hbd]; exact add_texts _ _ (by simp [enc_length]; omega) w
  have hmk := fun w => rmake_any kind ⟨bd.toArray⟩ w (by show (List.toArray bd).size ≤ _; rw [List.size_toArray, hbd]; simp [hdBody, enc_length]; omega)
  rw [show (⟨bd.toArray⟩ : ByteArray).data.toList = bd from rfl, show Value.string ⟨bd.toArray⟩ = strV bd from rfl, ← hVC] at hmk
  obtain ⟨R1, R2, hR⟩ : ∃ a b, makeP kind bd = (a, b) := ⟨_, _, rfl⟩
  rw [← hbd, hR]
  rw [hR] at hmk
  unfold tupV at hmk
  dsimp only at hmk ⊢
  obtain ⟨VR, hVR⟩ : ∃ V, V = strV R1 := ⟨_, rfl⟩
  rw [← hVR] at hmk ⊢
  rw [← hV1] at t1
  rw [← hV2] at t2
  rw [← hV3] at t3
  rw [← hVF]
  obtain ⟨sm, hsm⟩ : ∃ sm, sm = sumN old := ⟨_, rfl⟩
  rw [← hsm] at t3 hsum
  have c1 : IntKind.u64.wrap (k : Int) = (k : Int) := IntWalk.u64_in _ (by omega)
  have c2 : IntKind.u64.wrap (place : Int) = (place : Int) := IntWalk.u64_in _ (by omega)
  have c3 : IntKind.u64.wrap (sm : Int) = (sm : Int) := IntWalk.u64_in _ (by omega)
  have s1 : (0 : Int) ≤ (sm : Int) := by omega
  have s2 : (sm : Int) < 4294967296 := by omega
  have T1 := Lib.hid t1
  have T2 := Lib.hid t2
  have T3 := Lib.hid t3
  have HMK := Lib.hid hmk
  have HSM := Lib.hid hsm
  clear t1 t2 t3 hmk hV1 hV2 hV3 hVF hVA hVB hVC hbd hR hVR hsm hk hp hf
  go_enter Tryz.func36, Tryz.ntmps36
  go_wp2_with fail
  refine (T1.out _).mono ?_
  rintro e w1 ⟨rfl, hb⟩
  have HB1 := Lib.hid hb
  clear hb
  go_wp2_with fail
  refine (T2.out _).mono ?_
  rintro e w2 ⟨rfl, hb⟩
  have HB2 := Lib.hid (HB1.out.trans (hb.mono HB1.out.size))
  clear hb
  obtain ⟨cc, w3, hcv, hrd3, hb3⟩ := cv_rd old ho w2
  have hsu := rsum_any _ _ _ _ w3 hrd3
  rw [show addN 0 old.data.toList = sm from HSM.out.symm] at hsu
  have HSU := Lib.hid hsu
  have HB3 := Lib.hid (HB2.out.trans (hb3.mono HB2.out.size))
  clear hsu hrd3 hb3
  go_wp2_with fail
  refine HSU.out.mono ?_
  rintro e w4 ⟨rfl, rfl⟩
  go_wp2_with fail
  refine (T3.out _).mono ?_
  rintro e w5 ⟨rfl, hb⟩
  have HB5 := Lib.hid (HB3.out.trans (hb.mono HB3.out.size))
  clear hb
  go_wp2_with fail
  refine (HMK.out _).mono ?_
  rintro e w6 ⟨rfl, hb⟩
  have HB6 := Lib.hid (HB5.out.trans (hb.mono HB5.out.size))
  clear hb hcv
  go_wp2
  go_ret
  exact ⟨rfl, HB6.out⟩
theorem rhead_len (k : Nat) : (makeP 7 (hdBody [] 0 0 (sumN ⟨#[]⟩))).1.length = 64 := by decide +kernel
end Go.Proofs.YtjohgagiccndpaaGreatDoor

/-
  A disk: its state, its answers; how it lies in memory; frames.
-/
import Derived.Test.YthapcpfemmfhoaaE0
import Derived.Deep.DrawnRows
namespace Go.Proofs.Ythapcpfemmfhoaa
open Go.RowKit
set_option linter.unusedVariables false
set_option linter.unusedSimpArgs false

/-! ### the state -/
structure DS where
  L : List ByteArray
  W : List (Int × ByteArray)
  left : Int
  off : Bool
  did : Nat

def noBytes : ByteArray := ⟨#[]⟩
def wAt (W : List (Int × ByteArray)) (i : Nat) : Int × ByteArray := W[i]?.getD (0, noBytes)
def lAt (L : List ByteArray) (i : Nat) : ByteArray := L[i]?.getD noBytes

def look (W : List (Int × ByteArray)) (at' : Int) (d : ByteArray) : Nat → ByteArray
  | 0 => d
  | i + 1 => if (wAt W i).1 = at' then (wAt W i).2 else look W at' d i
def appW (L : List ByteArray) (W : List (Int × ByteArray)) : Nat → List ByteArray
  | 0 => L
  | i + 1 => (appW L W i).set (wAt W i).1.toNat (wAt W i).2
def appK (L : List ByteArray) (W : List (Int × ByteArray)) (K : List Bool) : Nat → List ByteArray
  | 0 => L
  | i + 1 => if K[i]?.getD false = true then (appK L W K i).set (wAt W i).1.toNat (wAt W i).2 else appK L W K i

theorem appW_length (L W i) : (appW L W i).length = L.length := by
  induction i with
  | zero => rfl
  | succ i ih => simp [appW, ih]
theorem appK_length (L W K i) : (appK L W K i).length = L.length := by
  induction i with
  | zero => rfl
  | succ i ih => unfold appK; split <;> simp [ih]
theorem appK_end (L W) (K : List Bool) (i j : Nat) (h : K.length ≤ i) (hij : i ≤ j) : appK L W K j = appK L W K i := by
  induction j with
  | zero => obtain rfl : i = 0 := by omega
            rfl
  | succ j ih =>
    rcases Nat.lt_or_ge j i with h1 | h1
    · obtain rfl : i = j + 1 := by omega
      rfl
    · have e : appK L W K (j + 1) = appK L W K j := by
        show (if K[j]?.getD false = true then _ else _) = _
        rw [List.getElem?_eq_none (by omega), if_neg (by simp)]
      rw [e]; exact ih h1

def DS.has (S : DS) (at' : Int) : Prop := 0 ≤ at' ∧ at' < (S.L.length : Int)
instance (S : DS) (at' : Int) : Decidable (S.has at') := inferInstanceAs (Decidable (_ ∧ _))
def DS.burnt (S : DS) : DS := if S.left = 0 then { S with off := true, left := -1 } else { S with left := if 0 < S.left then S.left - 1 else S.left, did := S.did + 1 }
def DS.kept (S : DS) (at' : Int) : ByteArray × Int := if S.has at' then (lAt S.L at'.toNat, 0) else (noBytes, 3)
def DS.read (S : DS) (at' : Int) : ByteArray × Int := if S.off = true then (noBytes, 5) else if S.has at' then (look S.W at' (lAt S.L at'.toNat) S.W.length, 0) else (noBytes, 3)
def DS.write (S : DS) (at' : Int) (data : ByteArray) : Int × DS :=
  if S.off = true then (5, S) else if S.has at' then (if data.size = 64 then (if S.left = 0 then (5, S.burnt) else (0, ⟨S.burnt.L, S.W ++ [(at', data)], S.burnt.left, S.burnt.off, S.burnt.did⟩)) else (4, S)) else (3, S)
def DS.flush (S : DS) : Int × DS := if S.off = true then (5, S) else if S.left = 0 then (5, S.burnt) else (0, ⟨appW S.L S.W S.W.length, [], S.burnt.left, S.burnt.off, S.burnt.did⟩)
def DS.fuse (S : DS) (n : Int) : DS := { S with left := if 0 ≤ n then n else -1 }
def DS.crash (S : DS) (K : List Bool) : DS := { S with L := appK S.L S.W K S.W.length, W := [], left := -1, off := true }
def DS.up (S : DS) : Int × DS := if S.off = true then (0, { S with off := false, W := [], left := -1 }) else (21, S)

structure DS.ok (S : DS) (N : Nat) : Prop where
  ats : ∀ i, i < S.W.length → S.has (wAt S.W i).1
  low : -1 ≤ S.left
  high : S.left ≤ 9223372036854775807
  few : S.W.length ≤ S.did
  did : S.did ≤ N
  len : S.L.length ≤ 1200

theorem wAt_append_lt {W : List (Int × ByteArray)} {x} {i : Nat} (h : i < W.length) : wAt (W ++ [x]) i = wAt W i := by
  unfold wAt; rw [List.getElem?_append_left h]
theorem wAt_append_eq {W : List (Int × ByteArray)} {x} : wAt (W ++ [x]) W.length = x := by
  unfold wAt; simp

theorem DS.ok.mono {S : DS} {N M : Nat} (h : S.ok N) (hl : N ≤ M) : S.ok M := ⟨h.ats, h.low, h.high, h.few, Nat.le_trans h.did hl, h.len⟩

theorem DS.ok.burnt {S : DS} {N : Nat} (h : S.ok N) : S.burnt.ok (N + 1) := by
  have h1 := h.low; have h2 := h.high; have h3 := h.few; have h4 := h.did
  unfold DS.burnt
  split
  · exact ⟨h.ats, by simp, by simp, h3, by simp; omega, h.len⟩
  · refine ⟨h.ats, ?_, ?_, by simp; omega, by simp; omega, h.len⟩
    · show -1 ≤ (if 0 < S.left then S.left - 1 else S.left); split <;> omega
    · show (if 0 < S.left then S.left - 1 else S.left) ≤ _; split <;> omega

theorem DS.ok.write {S : DS} {N : Nat} (h : S.ok N) (at' : Int) (data : ByteArray) : (S.write at' data).2.ok (N + 1) := by
  unfold DS.write
  split
  · exact h.mono (by omega)
  · split
    · rename_i hh
      split
      · split
        · exact h.burnt
        · rename_i hl
          have hb := h.burnt
          have e1 : S.burnt.W = S.W := by unfold DS.burnt; split <;> rfl
          have e2 : S.burnt.L = S.L := by unfold DS.burnt; split <;> rfl
          have e3 : S.burnt.did = S.did + 1 := by unfold DS.burnt; rw [if_neg hl]
          refine ⟨?_, hb.low, hb.high, ?_, hb.did, hb.len⟩
          · intro i hi
            show DS.has _ _
            unfold DS.has
            simp only [List.length_append, List.length_singleton] at hi ⊢
            rw [e2]
            rcases Nat.lt_or_ge i S.W.length with h1 | h1
            · rw [wAt_append_lt h1]; exact h.ats i h1
            · obtain rfl : i = S.W.length := by omega
              rw [wAt_append_eq]; exact hh
          · have := h.few
            simp [e3]; omega
      · exact h.mono (by omega)
    · exact h.mono (by omega)

theorem DS.ok.flush {S : DS} {N : Nat} (h : S.ok N) : S.flush.2.ok (N + 1) := by
  unfold DS.flush
  split
  · exact h.mono (by omega)
  · split
    · exact h.burnt
    · have hb := h.burnt
      exact ⟨fun i hi => by simp at hi, hb.low, hb.high, by simp, hb.did, by simp only [appW_length]; exact h.len⟩

theorem DS.ok.fuse {S : DS} {N : Nat} (h : S.ok N) (n : Int) (hn : n ≤ 9223372036854775807) : (S.fuse n).ok N :=
  ⟨h.ats, by show -1 ≤ (if 0 ≤ n then n else -1); split <;> omega, by show (if 0 ≤ n then n else -1) ≤ _; split <;> omega, h.few, h.did, h.len⟩
theorem DS.ok.crash {S : DS} {N : Nat} (h : S.ok N) (K : List Bool) : (S.crash K).ok N :=
  ⟨fun i hi => by simp [DS.crash] at hi, by simp [DS.crash], by simp [DS.crash], by simp [DS.crash], h.did, by simp only [DS.crash, appK_length]; exact h.len⟩
theorem DS.ok.up {S : DS} {N : Nat} (h : S.ok N) : S.up.2.ok N := by
  unfold DS.up
  split
  · exact ⟨fun i hi => by simp at hi, by simp, by simp, by simp, h.did, h.len⟩
  · exact h

/-! ### cells -/
def strs (L : List ByteArray) : List Value := L.map Value.string
def puts (W : List (Int × ByteArray)) : List Value := W.flatMap fun x => [.int .i64 x.1, .string x.2]
theorem strs_length (L) : (strs L).length = L.length := by simp [strs]
theorem puts_length : ∀ W, (puts W).length = W.length * 2
  | [] => rfl
  | x :: W => by
    have := puts_length W
    simp [puts] at this ⊢
    omega
theorem puts_append (W X) : puts (W ++ X) = puts W ++ puts X := by simp [puts]
theorem strs_at {L : List ByteArray} {i : Nat} (h : i < L.length) : (strs L)[i]? = some (.string (lAt L i)) := by
  simp [strs, lAt, List.getElem?_eq_getElem h]
theorem puts_at : ∀ (W : List (Int × ByteArray)) (i : Nat), i < W.length → (puts W)[i * 2]? = some (.int .i64 (wAt W i).1) ∧ (puts W)[i * 2 + 1]? = some (.string (wAt W i).2)
  | [], i, h => by simp at h
  | x :: W, 0, h => ⟨rfl, rfl⟩
  | x :: W, i + 1, h => by
    have := puts_at W i (by simpa using h)
    have e : puts (x :: W) = .int .i64 x.1 :: .string x.2 :: puts W := by simp [puts]
    rw [e, show (i + 1) * 2 = i * 2 + 2 from by omega, show i * 2 + 2 + 1 = i * 2 + 1 + 2 from by omega]
    exact this
theorem strs_one (L) : ∀ u ∈ strs L, u.oneCell' = true := by
  intro u hu; simp only [strs, List.mem_map] at hu; obtain ⟨x, _, rfl⟩ := hu; rfl
theorem puts_one (W) : ∀ u ∈ puts W, u.oneCell' = true := by
  intro u hu
  simp only [puts, List.mem_flatMap] at hu
  obtain ⟨x, _, hu⟩ := hu
  simp at hu
  rcases hu with rfl | rfl <;> rfl

theorem Try.info9 : (Try.prog.info? 9).map (fun i => (i.zero, i.size, i.bytes)) = some (some (.string noBytes), 1, 16) := by kernel_rfl

/-! ### frames -/
structure Fr (A : Nat → Prop) (w w' : World) : Prop where
  os : w'.os = w.os
  tape : w'.tape = w.tape
  output : w'.output = w.output
  size : w.heap.size ≤ w'.heap.size
  block : ∀ k, k < w.heap.size → ¬ A k → w'.heap[k]? = w.heap[k]?

theorem Fr.refl (A w) : Fr A w w := ⟨rfl, rfl, rfl, Nat.le_refl _, fun _ _ _ => rfl⟩
theorem Fr.trans {A A' : Nat → Prop} {a b c : World} (h : Fr A a b) (k : Fr A' b c) (hs : ∀ i, A' i → A i ∨ a.heap.size ≤ i) : Fr A a c :=
  ⟨k.os.trans h.os, k.tape.trans h.tape, k.output.trans h.output, Nat.le_trans h.size k.size, fun i hi hne =>
    (k.block i (Nat.lt_of_lt_of_le hi h.size) (fun e => by rcases hs i e with e | e; exact hne e; omega)).trans (h.block i hi hne)⟩
theorem Fr.mono {A A' : Nat → Prop} {w w' : World} (h : Fr A w w') (hs : ∀ i, A i → A' i) : Fr A' w w' := ⟨h.os, h.tape, h.output, h.size, fun i hi hn => h.block i hi fun e => hn (hs i e)⟩
theorem Fr.of_below {A : Nat → Prop} {w w' : World} (h : Below w.heap.size w w') : Fr A w w' := ⟨h.os, h.tape, h.output, h.size, fun k hk _ => h.block k hk⟩
theorem Fr.below {A : Nat → Prop} {B : Nat} {w w' : World} (h : Fr A w w') (hB : ∀ k, A k → B ≤ k) (hs : B ≤ w.heap.size) : Below B w w' :=
  ⟨h.os, h.tape, h.output, h.size, fun k hk => h.block k (by omega) fun e => by have := hB k e; omega⟩
theorem Fr.drew {A : Nat → Prop} {w w' : World} (h : Fr A w w') : Fr A w w'.drew := ⟨h.os, h.tape, h.output, h.size, h.block⟩
theorem Fr.drewN {A : Nat → Prop} {w w' : World} (h : Fr A w w') (n : Nat) : Fr A w (w'.drewN n) := ⟨h.os, h.tape, h.output, h.size, h.block⟩
theorem Fr.set {A : Nat → Prop} {w w' : World} (h : Fr A w w') {p i : Nat} {u : Value} (hp : A p ∨ w.heap.size ≤ p) : Fr A w (w'.setCell ⟨p, i, none⟩ u) :=
  ⟨h.os, h.tape, h.output, by simpa [World.setCell] using h.size, fun k hk hne => by
    rw [Below.heap_setCell _ _ _ _ (fun e => by simp at e; subst e; rcases hp with hp | hp; exact hne hp; omega)]; exact h.block k hk hne⟩
theorem Fr.alloc {A : Nat → Prop} {w w' : World} (h : Fr A w w') (o : Obj) : Fr A w (w'.alloc o) :=
  ⟨h.os, h.tape, h.output, by have := h.size; simp; omega, fun k hk hne => by rw [Below.heap_alloc _ _ _ (Nat.lt_of_lt_of_le hk h.size)]; exact h.block k hk hne⟩
theorem Fr.grown {A : Nat → Prop} {w w' w'' : World} {row : Option Nat} (h : Fr A w w') (g : w'.grownBy w'' row) (hr : ∀ k, row = some k → A k ∨ w.heap.size ≤ k) : Fr A w w'' :=
  ⟨g.os.trans h.os, g.tape.trans h.tape, g.output.trans h.output, Nat.le_trans h.size g.size, fun k hk hne =>
    (g.block k (Nat.lt_of_lt_of_le hk h.size) (fun e => by rcases hr k e.symm with e | e; exact hne e; omega)).trans (h.block k hk hne)⟩

/-! ### a disk in memory -/
def foot (p : Nat) (v1 v2 : Value) (k : Nat) : Prop := k = p ∨ v1.ownBlock = some k ∨ v2.ownBlock = some k


theorem owns_kept {w w' : World} {B e size n : Nat} {v : Value} {xs : List Value} (h : w.ownsRow B e size v n xs) (hk : ∀ k, v.ownBlock = some k → w'.heap[k]? = w.heap[k]?) : w'.ownsRow B e size v n xs := by
  refine ⟨h.1, ?_⟩
  rcases h.2 with hn | ⟨g, cap, cur, rfl, hb, hgg, rest⟩
  · exact .inl hn
  · exact .inr ⟨g, cap, cur, rfl, hb, by rw [hk g rfl]; exact hgg, rest⟩

theorem owns_type {w : World} {B e size n : Nat} {v : Value} {xs : List Value} (h : w.ownsRow B e size v n xs) {k : Nat} (hk : v.ownBlock = some k) : ∃ cur, w.heap[k]? = some (.cells cur e (0, 0)) := by
  rcases h.2 with ⟨rfl, _⟩ | ⟨g, cap, cur, rfl, hb, hgg, _⟩
  · simp [Value.ownBlock] at hk
  · simp [Value.ownBlock] at hk
    subst hk
    exact ⟨cur, hgg⟩



theorem owns_shape1 {w : World} {B n : Nat} {v : Value} {e size : Nat} {xs : List Value} (h : w.ownsRow B e size v n xs) : ∃ a c, v = .slice a n c ∧ n ≤ c ∧ c ≤ maxLen ∧ (0 < n → ∃ g, a = some ⟨g, 0, none⟩ ∧ v.ownBlock = some g ∧ B ≤ g ∧ g < w.heap.size) := by
  have H := h
  obtain ⟨_, h2⟩ := h
  rcases h2 with ⟨rfl, rfl⟩ | ⟨g, cap, cur, rfl, hB, hh, hle, hm, _, _⟩
  · exact ⟨none, 0, rfl, Nat.le_refl _, by unfold maxLen; omega, fun h => by omega⟩
  · exact ⟨_, _, rfl, hle, hm, fun _ => ⟨g, rfl, rfl, hB, (H.lt g rfl).2⟩⟩

/-- One cell of a row is another one. -/
theorem owns_set {w : World} {B e size n : Nat} {v : Value} {xs : List Value} (h : w.ownsRow B e size v n xs) {g j : Nat} (hg : v.ownBlock = some g) (u : Value) (hj : j < xs.length) :
    (w.setCell ⟨g, j, none⟩ u).ownsRow B e size v n (xs.set j u) := by
  obtain ⟨h1, h2⟩ := h
  refine ⟨by simpa using h1, ?_⟩
  rcases h2 with ⟨rfl, _⟩ | ⟨g', cap, cur, rfl, hB, hh, hle, hm, hc, ht⟩
  · simp [Value.ownBlock] at hg
  · simp [Value.ownBlock] at hg
    subst hg
    refine .inr ⟨g', cap, cur.setIfInBounds j u, rfl, hB, blk_setCell hh, hle, hm, by simpa using hc, ?_⟩
    rw [← ht]
    simp only [Array.toList_setIfInBounds]
    rw [List.take_set]

theorem owns_set_other {w : World} {B e size n : Nat} {v : Value} {xs : List Value} (h : w.ownsRow B e size v n xs) {g j : Nat} (hg : v.ownBlock ≠ some g) (u : Value) :
    (w.setCell ⟨g, j, none⟩ u).ownsRow B e size v n xs :=
  h.kept (gb_setCell (World.grownBy.refl _ _)) (.inr hg)

theorem owns_drew {w : World} {B e size n : Nat} {v : Value} {xs : List Value} (h : w.ownsRow B e size v n xs) : w.drew.ownsRow B e size v n xs := owns_kept h fun _ _ => rfl

theorem strs_set (L : List ByteArray) (j : Nat) (s : ByteArray) : (strs L).set j (.string s) = strs (L.set j s) := by simp [strs]

theorem owns_free {w : World} {B e size n : Nat} {v : Value} {xs : List Value} (h : w.ownsRow B e size v n xs) {g : Nat} (hg : v.ownBlock = some g) (j : Nat) : w.frozen? ⟨g, j, none⟩ = false := by
  obtain ⟨cur, hc⟩ := owns_type h hg
  exact free_of_blk hc j

theorem owns_cell {w : World} {B e size n : Nat} {v : Value} {xs : List Value} (h : w.ownsRow B e size v n xs) {g : Nat} (hg : v.ownBlock = some g) (j : Nat) (u : Value) (hu : xs[j]? = some u) : w.cell? ⟨g, j, none⟩ = some u := by
  have := h.cells hg j u hu
  rwa [Addr.add_none, Nat.zero_add] at this

end Go.Proofs.Ythapcpfemmfhoaa


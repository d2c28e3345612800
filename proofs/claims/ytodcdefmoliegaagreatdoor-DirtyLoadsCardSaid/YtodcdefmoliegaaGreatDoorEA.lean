/-
  An act to both disks (do).
-/
import Derived.Test.YtodcdefmoliegaaGreatDoorE9
namespace Go.Proofs.YtodcdefmoliegaaGreatDoor
open Go.RowKit
set_option linter.unusedVariables false
set_option linter.unusedSimpArgs false

/-- Both disks, in the same state; A: the blocks that are theirs. -/
def Two (w : World) (B p q : Nat) (A : Nat → Prop) (S : DS) : Prop :=
  ∃ v1 v2 u1 u2, PD w B p v1 v2 S ∧ RD w B q u1 u2 S ∧ (∀ k, foot p v1 v2 k → ¬ foot q u1 u2 k) ∧ ∀ k, A k ↔ foot p v1 v2 k ∨ foot q u1 u2 k

theorem Two.low {w B p q A S} (h : Two w B p q A S) : ∀ k, A k → B ≤ k ∧ k < w.heap.size := by
  obtain ⟨v1, v2, u1, u2, hp, hq, hd, hA⟩ := h
  intro k hk
  rcases (hA k).1 hk with h | h
  · exact hp.foot_low k h
  · exact hq.foot_low k h

theorem Two.kept {w w' : World} {B p q A S} (h : Two w B p q A S) (hk : ∀ k, A k → w'.heap[k]? = w.heap[k]?) : Two w' B p q A S := by
  obtain ⟨v1, v2, u1, u2, hp, hq, hd, hA⟩ := h
  exact ⟨v1, v2, u1, u2, hp.kept fun k h => hk k ((hA k).2 (.inl h)), hq.kept fun k h => hk k ((hA k).2 (.inr h)), hd, hA⟩
theorem Two.fr {w w' : World} {A' : Nat → Prop} {B p q A S} (h : Two w B p q A S) (hf : Fr A' w w') (hd : ∀ k, A k → ¬ A' k) : Two w' B p q A S := h.kept fun k hk => hf.block k (h.low k hk).2 (hd k hk)
theorem Two.below {w w' : World} {B p q A S} (h : Two w B p q A S) (hb : Below w.heap.size w w') : Two w' B p q A S := h.kept fun k hk => hb.block k (h.low k hk).2

/-- What an act leaves of both. -/
def TP (w : World) (B p q : Nat) (A : Nat → Prop) (S : DS) (w' : World) : Prop := ∃ A', Two w' B p q A' S ∧ Fr A w w' ∧ ∀ k, A' k → A k ∨ w.heap.size ≤ k

theorem TP.same {w w' : World} {B p q A S} (h : Two w B p q A S) (hb : Below w.heap.size w w') : TP w B p q A S w' := ⟨A, h.below hb, Fr.of_below hb, fun k hk => .inl hk⟩

/-- Behind the program's act the document's own disk is as it was. -/
theorem rd_after {w w1 : World} {B p q : Nat} {v1 v2 u1 u2 : Value} {S S' : DS} (hq : RD w B q u1 u2 S) (hd : ∀ k, foot p v1 v2 k → ¬ foot q u1 u2 k) (h : PP w B p v1 v2 S' w1) : RD w1 B q u1 u2 S := by
  obtain ⟨v1', v2', hp', hf, ht⟩ := h
  exact hq.fr hf fun k hk hk2 => hd k hk2 hk

theorem two_after {w w1 w2 : World} {B p q : Nat} {A : Nat → Prop} {v1 v2 u1 u2 : Value} {S S' : DS} (hq : RD w B q u1 u2 S) (hp : PD w B p v1 v2 S) (hd : ∀ k, foot p v1 v2 k → ¬ foot q u1 u2 k) (hA : ∀ k, A k ↔ foot p v1 v2 k ∨ foot q u1 u2 k)
    (h1 : PP w B p v1 v2 S' w1) (h2 : RP w1 B q u1 u2 S' w2) : TP w B p q A S' w2 := by
  obtain ⟨v1', v2', hp', hf, ht⟩ := h1
  obtain ⟨u1', u2', hq', hf2, ht2⟩ := h2
  have hd1 : ∀ k, foot p v1' v2' k → ¬ foot q u1 u2 k := fun k hk hk2 => by
    rcases ht k hk with h | h
    · exact hd k h hk2
    · have := (hq.foot_low k hk2).2; omega
  refine ⟨fun k => foot p v1' v2' k ∨ foot q u1' u2' k, ⟨v1', v2', u1', u2', hp'.fr hf2 hd1, hq', fun k hk hk2 => ?_, fun k => Iff.rfl⟩, ?_, ?_⟩
  · rcases ht2 k hk2 with h | h
    · exact hd1 k hk h
    · have := (hp'.foot_low k hk).2; omega
  · exact (hf.mono fun k hk => (hA k).2 (.inl hk)).trans hf2 fun k hk => .inl ((hA k).2 (.inr hk))
  · rintro k (hk | hk)
    · rcases ht k hk with h | h
      · exact .inl ((hA k).2 (.inl h))
      · exact .inr h
    · rcases ht2 k hk with h | h
      · exact .inl ((hA k).2 (.inr h))
      · have := hf.size; exact .inr (by omega)

theorem fr_cell {A : Nat → Prop} {w w' : World} (hf : Fr A w w') {b i : Nat} {u : Value} (hc : w.cell? ⟨b, i, none⟩ = some u) (hn : ¬ A b) : w'.cell? ⟨b, i, none⟩ = some u := by
  rw [World.cell?_of_block (w := w) (hf.block b (World.block_lt_of_cell? w _ hc) hn)]; exact hc

/-- An act: what is done, where, with which text, and what is kept. -/
structure AK where
  kind : Int
  at' : Int
  data : ByteArray
  ka : Option Addr
  kn : Nat
  kc : Nat
  K : List Bool

def AK.val (x : AK) : Value := .agg #[.int .i64 x.kind, .int .i64 x.at', .string x.data, .slice x.ka x.kn x.kc]

def DS.act (S : DS) (x : AK) : DS :=
  if x.kind.tmod 7 = 1 then (S.write x.at' x.data).2 else if x.kind.tmod 7 = 2 then S.flush.2 else if x.kind.tmod 7 = 3 then S.fuse x.at' else if x.kind.tmod 7 = 4 then S.crash x.K else if x.kind.tmod 7 = 5 then S.up.2 else S

theorem DS.ok.act {S : DS} {N : Nat} (h : S.ok N) (x : AK) (hx : x.at' ≤ 9223372036854775807) : (S.act x).ok (N + 1) := by
  unfold DS.act
  split
  · exact h.write _ _
  · split
    · exact h.flush
    · split
      · exact (h.fuse _ hx).mono (by omega)
      · split
        · exact (h.crash _).mono (by omega)
        · split
          · exact h.up.mono (by omega)
          · exact h.mono (by omega)

theorem pp_undrew {w w' : World} {B p : Nat} {v1 v2 : Value} {S : DS} (h : PP w.drew B p v1 v2 S w') : PP w B p v1 v2 S w' := by
  obtain ⟨a, b, c, d, e⟩ := h
  exact ⟨a, b, c, ⟨d.os, d.tape, d.output, d.size, d.block⟩, e⟩
theorem pp_fr {w w' : World} {B p : Nat} {v1 v2 : Value} {S : DS} (h : PP w B p v1 v2 S w') : Fr (foot p v1 v2) w w' := by
  obtain ⟨a, b, c, d, e⟩ := h
  exact d


end Go.Proofs.YtodcdefmoliegaaGreatDoor


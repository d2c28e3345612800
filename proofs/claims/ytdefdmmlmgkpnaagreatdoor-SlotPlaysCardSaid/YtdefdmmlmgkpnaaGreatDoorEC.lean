/-
  The walks of DiskPlays and DiskApart.
-/
import Derived.Test.YtdefdmmlmgkpnaaGreatDoorEB
namespace Go.Proofs.YtdefdmmlmgkpnaaGreatDoor
open Go.RowKit
set_option linter.unusedVariables false
set_option linter.unusedSimpArgs false

theorem RD.lowB {w B B' p v1 v2 S} (h : RD w B p v1 v2 S) (hl : B' ≤ B) : RD w B' p v1 v2 S := ⟨Dk.blk h, Nat.le_trans hl (Dk.low h), owns_low (Dk.own1 h) hl, owns_low (Dk.own2 h) hl⟩
theorem PD.lowB {w B B' p v1 v2 S} (h : PD w B p v1 v2 S) (hl : B' ≤ B) : PD w B' p v1 v2 S := by
  obtain ⟨fu, d, e⟩ := h
  exact ⟨fu, ⟨d.blk, Nat.le_trans hl d.low, owns_low d.own1 hl, owns_low d.own2 hl⟩, e⟩

theorem two_new {w1 w2 : World} {B p q : Nat} {v1 v2 u1 u2 : Value} {S : DS} (hp : PD w1 B p v1 v2 S) (hq : RD w2 w1.heap.size q u1 u2 S) (hb : Below w1.heap.size w1 w2) (hB : B ≤ w1.heap.size) : ∃ A, Two w2 B p q A S ∧ ∀ k, A k ↔ foot p v1 v2 k ∨ foot q u1 u2 k :=
  ⟨_, ⟨v1, v2, u1, u2, hp.below hb, hq.lowB hB, fun k h1 h2 => by
    have := (hp.foot_low k h1).2
    have := (hq.foot_low k h2).1
    omega, fun k => Iff.rfl⟩, fun k => Iff.rfl⟩

theorem TP.below {w w' w0 : World} {p q : Nat} {A : Nat → Prop} {S S' : DS} (h : TP w w0.heap.size p q A S' w') (h0 : Two w w0.heap.size p q A S) (hb : Below w0.heap.size w0 w) : Below w0.heap.size w0 w' := by
  obtain ⟨A', hT, hF, hl⟩ := h
  exact hb.trans (hF.below (fun k hk => (h0.low k hk).1) hb.size)


end Go.Proofs.YtdefdmmlmgkpnaaGreatDoor


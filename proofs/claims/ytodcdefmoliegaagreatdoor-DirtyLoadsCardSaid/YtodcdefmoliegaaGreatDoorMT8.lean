/-
  Texts put together: T8, T9, TA.
-/
import Derived.Test.YtodcdefmoliegaaGreatDoorMT4
import Derived.Test.YtodcdefmoliegaaGreatDoorEA
/-
  The document's own one sector, and Load.
-/
namespace Go.Proofs.YtodcdefmoliegaaGreatDoor
open Go.RowKit
set_option linter.unusedVariables false
set_option linter.unusedSimpArgs false

def oneV (r : CT × Int) : Value := .tuple #[.bool r.1.f, .int .u64 (r.1.n : Int), strV r.1.s, .int .i64 r.2]
end Go.Proofs.YtodcdefmoliegaaGreatDoor
/-
  The document's own Load.
-/
namespace Go.Proofs.YtodcdefmoliegaaGreatDoor
open Go.RowKit
set_option linter.unusedVariables false
set_option linter.unusedSimpArgs false

theorem slotP_form (kind : Int) (xs : List UInt8) : slotP kind xs = noCT ∨ (slotP kind xs).f = true := by
  unfold slotP
  split
  · exact .inr rfl
  · exact .inl rfl
theorem readP_form (S : DS) (at' kind : Int) : (readP S at' kind).1 = noCT ∨ (readP S at' kind).1.f = true := by
  unfold readP
  split
  · exact .inl rfl
  · exact slotP_form _ _
theorem readP_far {S : DS} {at' kind : Int} (hl : S.L.length ≤ 1200) (h : 1200 < at') : readP S at' kind = readP S (-1) kind ∧ (readP S (-1) kind).2 ≠ 0 := by
  have h1 : ¬ S.has at' := by unfold DS.has; omega
  have h2 : ¬ S.has (-1) := by unfold DS.has; omega
  have h3 : S.read at' = S.read (-1) := by unfold DS.read; rw [if_neg h1, if_neg h2]
  refine ⟨by unfold readP; rw [h3], fun h0 => h2 (readP_has h0)⟩
end Go.Proofs.YtodcdefmoliegaaGreatDoor
/-
  The document's own Save.
-/
namespace Go.Proofs.YtodcdefmoliegaaGreatDoor
open Go.RowKit
set_option linter.unusedVariables false
set_option linter.unusedSimpArgs false

theorem rp_below {w w1 w2 : World} {B p : Nat} {v1 v2 : Value} {S : DS} (hb : Below w.heap.size w w1) (h : RP w1 B p v1 v2 S w2) : RP w B p v1 v2 S w2 := by
  obtain ⟨a, b, hp, hf, ht⟩ := h
  refine ⟨a, b, hp, ⟨hf.os.trans hb.os, hf.tape.trans hb.tape, hf.output.trans hb.output, Nat.le_trans hb.size hf.size, fun i hi hn => (hf.block i (Nat.lt_of_lt_of_le hi hb.size) hn).trans (hb.block i hi)⟩, fun i hi => (ht i hi).elim .inl (fun h => .inr (Nat.le_trans hb.size h))⟩
theorem rp_after {w w1 : World} {B p : Nat} {v1 v2 : Value} {S : DS} (h : RD w B p v1 v2 S) (hb : Below w.heap.size w w1) : RP w B p v1 v2 S w1 := rp_below hb (RP.same (h.below hb))
end Go.Proofs.YtodcdefmoliegaaGreatDoor

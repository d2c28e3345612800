/-
  Texts put together: PW.
-/
import Derived.Test.YtpkeikbiblfidaaGreatDoorME2
/-
  What calls leave of a disk, one behind another.
-/
namespace Go.Proofs.YtpkeikbiblfidaaGreatDoor
open Go.RowKit
set_option linter.unusedVariables false
set_option linter.unusedSimpArgs false

theorem pp_trans {w w1 w2 : World} {B p : Nat} {v1 v2 : Value} {S1 S2 : DS} (h : PP w B p v1 v2 S1 w1) (k : ∀ a b, PD w1 B p a b S1 → PP w1 B p a b S2 w2) : PP w B p v1 v2 S2 w2 := by
  obtain ⟨a, b, hp, hf, ht⟩ := h
  obtain ⟨a2, b2, hp2, hf2, ht2⟩ := k a b hp
  exact ⟨a2, b2, hp2, hf.trans hf2 (fun i hi => ht i hi), fun i hi => (ht2 i hi).elim (ht i) (fun h => .inr (Nat.le_trans hf.size h))⟩
theorem pp_below {w w1 w2 : World} {B p : Nat} {v1 v2 : Value} {S : DS} (hb : Below w.heap.size w w1) (h : PP w1 B p v1 v2 S w2) : PP w B p v1 v2 S w2 := by
  obtain ⟨a, b, hp, hf, ht⟩ := h
  refine ⟨a, b, hp, ⟨hf.os.trans hb.os, hf.tape.trans hb.tape, hf.output.trans hb.output, Nat.le_trans hb.size hf.size, fun i hi hn => (hf.block i (Nat.lt_of_lt_of_le hi hb.size) hn).trans (hb.block i hi)⟩, fun i hi => (ht i hi).elim .inl (fun h => .inr (Nat.le_trans hb.size h))⟩
theorem pp_after {w w1 : World} {B p : Nat} {v1 v2 : Value} {S : DS} (h : PD w B p v1 v2 S) (hb : Below w.heap.size w w1) : PP w B p v1 v2 S w1 := pp_below hb (PP.same (h.below hb))
theorem pp_then {w w1 w2 : World} {B p : Nat} {v1 v2 : Value} {S : DS} (h : PP w B p v1 v2 S w1) (hb : Below w1.heap.size w1 w2) : PP w B p v1 v2 S w2 := pp_trans h fun a b hp => pp_after hp hb
theorem rp_trans {w w1 w2 : World} {B p : Nat} {v1 v2 : Value} {S1 S2 : DS} (h : RP w B p v1 v2 S1 w1) (k : ∀ a b, RD w1 B p a b S1 → RP w1 B p a b S2 w2) : RP w B p v1 v2 S2 w2 := by
  obtain ⟨a, b, hp, hf, ht⟩ := h
  obtain ⟨a2, b2, hp2, hf2, ht2⟩ := k a b hp
  exact ⟨a2, b2, hp2, hf.trans hf2 (fun i hi => ht i hi), fun i hi => (ht2 i hi).elim (ht i) (fun h => .inr (Nat.le_trans hf.size h))⟩
theorem rp_below {w w1 w2 : World} {B p : Nat} {v1 v2 : Value} {S : DS} (hb : Below w.heap.size w w1) (h : RP w1 B p v1 v2 S w2) : RP w B p v1 v2 S w2 := by
  obtain ⟨a, b, hp, hf, ht⟩ := h
  refine ⟨a, b, hp, ⟨hf.os.trans hb.os, hf.tape.trans hb.tape, hf.output.trans hb.output, Nat.le_trans hb.size hf.size, fun i hi hn => (hf.block i (Nat.lt_of_lt_of_le hi hb.size) hn).trans (hb.block i hi)⟩, fun i hi => (ht i hi).elim .inl (fun h => .inr (Nat.le_trans hb.size h))⟩
theorem rp_after {w w1 : World} {B p : Nat} {v1 v2 : Value} {S : DS} (h : RD w B p v1 v2 S) (hb : Below w.heap.size w w1) : RP w B p v1 v2 S w1 := rp_below hb (RP.same (h.below hb))
theorem rp_then {w w1 w2 : World} {B p : Nat} {v1 v2 : Value} {S : DS} (h : RP w B p v1 v2 S w1) (hb : Below w1.heap.size w1 w2) : RP w B p v1 v2 S w2 := rp_trans h fun a b hp => rp_after hp hb
theorem PP.size {w w1 : World} {B p : Nat} {v1 v2 : Value} {S : DS} (h : PP w B p v1 v2 S w1) : w.heap.size ≤ w1.heap.size := by obtain ⟨_, _, _, hf, _⟩ := h; exact hf.size
theorem RP.size {w w1 : World} {B p : Nat} {v1 v2 : Value} {S : DS} (h : RP w B p v1 v2 S w1) : w.heap.size ≤ w1.heap.size := by obtain ⟨_, _, _, hf, _⟩ := h; exact hf.size
/-- What the call changes of a disk leaves all else below. -/
theorem PP.old {w w1 : World} {B p : Nat} {v1 v2 : Value} {S : DS} (h : PP w B p v1 v2 S w1) (k : Nat) (hk : k < w.heap.size) (hn : ¬ foot p v1 v2 k) : w1.heap[k]? = w.heap[k]? := by obtain ⟨_, _, _, hf, _⟩ := h; exact hf.block k hk hn
theorem RP.old {w w1 : World} {B p : Nat} {v1 v2 : Value} {S : DS} (h : RP w B p v1 v2 S w1) (k : Nat) (hk : k < w.heap.size) (hn : ¬ foot p v1 v2 k) : w1.heap[k]? = w.heap[k]? := by obtain ⟨_, _, _, hf, _⟩ := h; exact hf.block k hk hn

end Go.Proofs.YtpkeikbiblfidaaGreatDoor

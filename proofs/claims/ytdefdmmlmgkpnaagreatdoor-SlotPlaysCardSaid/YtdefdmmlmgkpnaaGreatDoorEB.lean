/-
  Whether both disks are alike; whether acts are few.
-/
import Derived.Test.YtdefdmmlmgkpnaaGreatDoorEA
namespace Go.Proofs.YtdefdmmlmgkpnaaGreatDoor
open Go.RowKit
set_option linter.unusedVariables false
set_option linter.unusedSimpArgs false

theorem has_of_lt {S : DS} {k : Nat} (h : k < S.L.length) : S.has (k : Int) := ⟨by omega, by omega⟩


/-- The slice value reads as acts, all below B. -/
structure Acts (w : World) (a : Option Addr) (n B : Nat) (X : Nat → AK) : Prop where
  big : n ≤ 9223372036854775807
  at0 : 0 < n → ∃ b off, a = some ⟨b, off, none⟩ ∧ b < B ∧ ∀ i, i < n → w.cell? ⟨b, off + i * 4, none⟩ = some (.int .i64 (X i).kind) ∧ w.cell? ⟨b, off + i * 4 + 1, none⟩ = some (.int .i64 (X i).at') ∧
    w.cell? ⟨b, off + i * 4 + 2, none⟩ = some (.string (X i).data) ∧ w.cell? ⟨b, off + i * 4 + 3, none⟩ = some (.slice (X i).ka (X i).kn (X i).kc)
  keep : ∀ i, i < n → Bl w (X i).ka (X i).kn (X i).K
  klow : ∀ i, i < n → ∀ b off, (X i).ka = some ⟨b, off, none⟩ → 0 < (X i).kn → b < B
  high : ∀ i, i < n → (X i).at' ≤ 9223372036854775807

theorem Acts.below {w w' : World} {a n B X} (h : Acts w a n B X) (hb : Below B w w') : Acts w' a n B X where
  big := h.big
  at0 := fun h0 => by
    obtain ⟨b, off, e, hl, hc⟩ := h.at0 h0
    refine ⟨b, off, e, hl, fun i hi => ?_⟩
    obtain ⟨c0, c1, c2, c3⟩ := hc i hi
    exact ⟨(hb.cell (by exact hl)).trans c0, (hb.cell (by exact hl)).trans c1, (hb.cell (by exact hl)).trans c2, (hb.cell (by exact hl)).trans c3⟩
  keep := fun i hi => (h.keep i hi).kept hb.size fun b off e h0 => hb.block b (h.klow i hi b off e h0)
  klow := h.klow
  high := h.high

/-- Whether acts are few, and their texts short. -/
def shortB (n : Nat) (X : Nat → AK) : Bool := decide (n ≤ 100 ∧ ∀ i, i < n → (X i).data.size ≤ 200)


end Go.Proofs.YtdefdmmlmgkpnaaGreatDoor


/-
  Texts put together: Y4.
-/
import Derived.Test.YtpdlpoomgkpogaaDoorMU
import Derived.ProofKit
import Derived.OpenShut
import Derived.ChangeOld
import Derived.Below
import Derived.SizedLaws
import Derived.Deep.SlicePairs
import Derived.Deep.Strs
import Derived.Deep.Grids
/-
  Lists of texts, and of leaves with sectors, that came in: opened.
-/
namespace Go.Proofs.YtpdlpoomgkpogaaDoor
open Go.RowKit Go.ChangeShapes Go.WideShapes Go.ChangeAt
set_option linter.unusedVariables false
set_option linter.unusedSimpArgs false

set_option maxHeartbeats 1000000 in
set_option maxRecDepth 100000 in
theorem rs_open {H : Type} {enc : TypeId × Value → H} {W : World} {fuel : Nat} {cs : List Value} {x : DataW H × List MemPlace} (hf : DataW.trod enc Tryd.prog W 0 (fun _ => true) true fuel 24 cs = some x) {a : Option Addr} {len cap : Nat} (hcs : cs = [.slice a len cap]) :
    ∃ L, Rs W a len cap L := by
  rcases Deep.open_strs Tryd.underlying24 Tryd.underlying9 (by kernel_rfl) hf with ⟨hn, _⟩ | ⟨ad, l, c, m, Sx, hn, _, hl, hm, hmm, hx, hcell⟩
  · rw [hcs] at hn
    simp at hn
    obtain ⟨rfl, rfl, rfl⟩ := hn
    exact ⟨[], rs_nil W⟩
  · rw [hcs] at hn
    simp at hn
    obtain ⟨rfl, rfl, rfl⟩ := hn
    simp only [if_true] at hmm
    refine ⟨(List.range len).map Sx, by simp, by omega, by omega, fun h => ?_⟩
    have hc0 := (hcell 0 (by omega)).1
    obtain ⟨b, off, spot⟩ := ad
    have hspot : spot = none := by simpa [Addr.add] using World.cell?_spot hc0
    subst hspot
    have hbl := World.block_lt_of_cell? W _ hc0
    rw [Addr.add_none] at hbl
    refine ⟨b, off, rfl, hbl, fun i hi' => ?_⟩
    have h3 := (hcell i (by omega)).1
    rw [Addr.add_none] at h3
    rw [h3]
    unfold lAt
    rw [List.getElem?_map, List.getElem?_range hi']
    rfl

/-- The slice value reads as leaves with sectors. -/
structure Ps (w : World) (a : Option Addr) (n cap : Nat) (X : Nat → Int × ByteArray) : Prop where
  le : n ≤ cap
  cm : cap ≤ maxLen
  at0 : 0 < n → ∃ b off, a = some ⟨b, off, none⟩ ∧ b < w.heap.size ∧ ∀ i, i < n → w.cell? ⟨b, off + i * 2, none⟩ = some (.int .i64 (X i).1) ∧ w.cell? ⟨b, off + i * 2 + 1, none⟩ = some (.string (X i).2)
theorem Ps.later {w w' : World} {a : Option Addr} {n cap : Nat} {X} (h : Ps w a n cap X) (hb : Below w.heap.size w w') : Ps w' a n cap X where
  le := h.le
  cm := h.cm
  at0 := fun h0 => by
    obtain ⟨b, off, ha, hlt, hc⟩ := h.at0 h0
    exact ⟨b, off, ha, Nat.lt_of_lt_of_le hlt hb.size, fun i hi => ⟨by rw [hb.cell (by exact hlt)]; exact (hc i hi).1, by rw [hb.cell (by exact hlt)]; exact (hc i hi).2⟩⟩

def textOf : Value → ByteArray | .string s => s | _ => noBytes
def iOf : Value → Int | .int _ z => z | _ => 0
end Go.Proofs.YtpdlpoomgkpogaaDoor

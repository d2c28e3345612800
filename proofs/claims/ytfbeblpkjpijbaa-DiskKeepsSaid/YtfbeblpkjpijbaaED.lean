/-
  A list of acts that came in, opened.
-/
import Derived.Test.YtfbeblpkjpijbaaEC
import Derived.ProofKit
import Derived.OpenShut
import Derived.ChangeOld
import Derived.Below
import Derived.SizedLaws
import Derived.Deep.SlicePairs
import Derived.Deep.Grids
namespace Go.Proofs.Ytfbeblpkjpijbaa
open Go.RowKit Go.ChangeShapes Go.WideShapes Go.ChangeAt
set_option linter.unusedVariables false
set_option linter.unusedSimpArgs false

instance : Inhabited AK := ⟨⟨0, 0, noBytes, none, 0, 0, []⟩⟩

theorem bl_of_bools {W : World} {a : Addr} {len cap : Nat} {F : Nat → Bool} (hl : len ≤ cap) (hm : cap ≤ maxLen) (hc : ∀ i, i < cap → W.cell? (a.add i) = some (.bool (F i))) :
    Bl W (some a) len ((List.range len).map F) ∧ ∀ b off, some a = some (⟨b, off, none⟩ : Addr) → 0 < len → b < W.heap.size := by
  have hz : 0 < len → a.spot = none := fun h0 => by
    have := hc 0 (by omega)
    simpa [Addr.add] using World.cell?_spot this
  have hlt : 0 < len → a.block < W.heap.size := fun h0 => by
    have := World.block_lt_of_cell? W _ (hc 0 (by omega))
    rwa [add_block] at this
  refine ⟨⟨by simp, by unfold maxLen at hm; omega, fun h0 => ?_⟩, fun b off e h0 => by cases e; exact hlt h0⟩
  obtain ⟨b, off, sp⟩ := a
  obtain rfl : sp = none := hz h0
  refine ⟨b, off, rfl, hlt h0, fun i hi => ?_⟩
  have := hc i (by omega)
  rw [Addr.add_none] at this
  rw [this]
  simp [hi]

theorem acts_open {H : Type} {enc : TypeId × Value → H} {W : World} {fuel : Nat} {cs : List Value} {x : DataW H × List MemPlace} (hf : DataW.trod enc Try.prog W 0 (fun _ => true) true fuel 22 cs = some x) {a : Option Addr} {len cap : Nat} (hcs : cs = [.slice a len cap]) :
    ∃ X, Acts W a len W.heap.size X ∧ len ≤ cap ∧ cap ≤ maxLen := by
  have he := Try.underlying35
  have ce : Try.prog.cellsOf 35 = 4 := by kernel_rfl
  have c3 : Try.prog.cellsOf 3 = 1 := by kernel_rfl
  have c9 : Try.prog.cellsOf 9 = 1 := by kernel_rfl
  have cb : Try.prog.cellsOf 33 = 1 := by kernel_rfl
  rcases Go.Deep.open_slice Try.underlying22 hf with ⟨hn, _⟩ | ⟨ad, l, c, m, n, D, Pl, hn, _, hl, hm, hmm, _, hx⟩
  · rw [hcs] at hn
    simp at hn
    obtain ⟨rfl, rfl, rfl⟩ := hn
    exact ⟨fun _ => ⟨0, 0, noBytes, none, 0, 0, []⟩, ⟨by omega, fun h => by omega, fun i h => by omega, fun i h => by omega, fun i h => by omega⟩, by omega, by unfold maxLen; omega⟩
  · rw [hcs] at hn
    simp at hn
    obtain ⟨rfl, rfl, rfl⟩ := hn
    simp only [if_true] at hmm
    have hmm' := hmm.symm
    subst hmm'
    rw [ce] at hx
    have each : ∀ i, i < cap → ∃ y : AK, W.cell? (ad.add (i * 4)) = some (.int .i64 y.kind) ∧ W.cell? (ad.add (i * 4 + 1)) = some (.int .i64 y.at') ∧ W.cell? (ad.add (i * 4 + 2)) = some (.string y.data) ∧ W.cell? (ad.add (i * 4 + 3)) = some (.slice y.ka y.kn y.kc) ∧
        Bl W y.ka y.kn y.K ∧ (∀ b off, y.ka = some ⟨b, off, none⟩ → 0 < y.kn → b < W.heap.size) ∧ y.at' ≤ 9223372036854775807 := by
      intro i hi
      obtain ⟨cs', h1, h2⟩ := hx i hi
      obtain ⟨_, hlen, hcell⟩ := World.cells?_some h1
      obtain ⟨xs, k, _, _, _, hxl, hf⟩ := DataW.trod_struct he h2
      match xs, hxl, cs', hlen with
      | [y0, y1, y2, y3], _, [u0, u1, u2, u3], _ =>
        have g0 := hf 0 _ rfl
        have g1 := hf 1 _ rfl
        have g2 := hf 2 _ rfl
        have g3 := hf 3 _ rfl
        simp [c3, c9, cb] at g0 g1 g2 g3
        have e0 := hcell 0 (by omega)
        have e1 := hcell 1 (by omega)
        have e2 := hcell 2 (by omega)
        have e3 := hcell 3 (by omega)
        rw [Go.Deep.add_add] at e0 e1 e2 e3
        obtain ⟨n0, q0, _, w0⟩ := DataW.trod_int Try.underlying3 g0
        obtain ⟨n1, q1, _, w1⟩ := DataW.trod_int Try.underlying3 g1
        obtain ⟨s2, q2, _⟩ := DataW.trod_string Try.underlying9 g2
        simp at q0 q1 q2
        have hw1 : n1 ≤ 9223372036854775807 := by
          simp [Lit.wf, IntKind.max, IntKind.min, IntKind.signed, IntKind.bits] at w1
          omega
        rcases Go.Deep.open_bools Try.underlying33 Try.underlying4 (by kernel_rfl) g3 with ⟨q3, _⟩ | ⟨a3, l3, c3', F, q3, _, hl3, hm3, _, hc3⟩
        · simp at q3
          exact ⟨⟨n0, n1, s2, none, 0, 0, []⟩, by simpa [q0] using e0, by simpa [q1] using e1, by simpa [q2] using e2, by simpa [q3] using e3, ⟨rfl, Nat.zero_le _, fun h => by simp at h⟩, fun b off h => by simp at h, hw1⟩
        · simp at q3
          obtain ⟨hb1, hb2⟩ := bl_of_bools hl3 hm3 hc3
          exact ⟨⟨n0, n1, s2, some a3, l3, c3', (List.range l3).map F⟩, by simpa [q0] using e0, by simpa [q1] using e1, by simpa [q2] using e2, by simpa [q3] using e3, hb1, hb2, hw1⟩
    obtain ⟨X, hX⟩ := Go.Deep.choose_lt each
    refine ⟨X, ⟨by unfold maxLen at hm; omega, fun h0 => ?_, fun i hi => (hX i (by omega)).2.2.2.2.1, fun i hi => (hX i (by omega)).2.2.2.2.2.1, fun i hi => (hX i (by omega)).2.2.2.2.2.2⟩, hl, hm⟩
    obtain ⟨b, off, sp⟩ := ad
    obtain rfl : sp = none := by
      have := (hX 0 (by omega)).1
      simpa [Addr.add] using World.cell?_spot this
    have hb := World.block_lt_of_cell? W _ (hX 0 (by omega)).1
    rw [Addr.add_none] at hb
    refine ⟨b, off, rfl, hb, fun i hi => ?_⟩
    obtain ⟨h0, h1, h2, h3, _⟩ := hX i (by omega)
    simp only [Addr.add_none, ← Nat.add_assoc] at h0 h1 h2 h3
    exact ⟨h0, h1, h2, h3⟩

end Go.Proofs.Ytfbeblpkjpijbaa

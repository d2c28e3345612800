/-
  A list of a slot's acts that came in, opened.
-/
import Derived.Test.YtdefdmmlmgkpnaaGreatDoorTD
import Derived.ProofKit
import Derived.OpenShut
import Derived.ChangeOld
import Derived.Below
import Derived.SizedLaws
import Derived.Deep.SlicePairs
import Derived.Deep.Grids
namespace Go.Proofs.YtdefdmmlmgkpnaaGreatDoor
open Go.RowKit Go.ChangeShapes Go.WideShapes Go.ChangeAt
set_option linter.unusedVariables false
set_option linter.unusedSimpArgs false

instance : Inhabited SK := ⟨⟨0, 0, 0, 0, [], none, 0, 0, []⟩⟩

theorem pbl_of_bools {W : World} {a : Addr} {len cap : Nat} {F : Nat → Bool} (hl : len ≤ cap) (hm : cap ≤ maxLen) (hc : ∀ i, i < cap → W.cell? (a.add i) = some (.bool (F i))) :
    Bl W (some a) len ((List.range len).map F) ∧ ∀ b off, some a = some (⟨b, off, none⟩ : Addr) → 0 < len → b < W.heap.size := by
  have hz : 0 < len → a.spot = none := fun h0 => by
    have := hc 0 (by omega)
    simpa [Addr.add] using World.cell?_spot this
  have hlt : 0 < len → a.block < W.heap.size := fun h0 => by
    have := World.block_lt_of_cell? W _ (hc 0 (by omega))
    rwa [add_block] at this
  refine ⟨⟨by simp, by unfold maxLen at hm; omega, fun h0 => ?_⟩, fun b off e h0 => by cases e; exact hlt h0⟩
  obtain ⟨b, off, sp⟩ := a
  obtain rfl : sp = none := hz h0
  refine ⟨b, off, rfl, hlt h0, fun i hi => ?_⟩
  have := hc i (by omega)
  rw [Addr.add_none] at this
  rw [this]
  simp [hi]

set_option maxHeartbeats 1000000 in
set_option maxRecDepth 100000 in
theorem sacts_open {H : Type} {enc : TypeId × Value → H} {W : World} {fuel : Nat} {cs : List Value} {x : DataW H × List MemPlace} (hf : DataW.trod enc Tryz.prog W 0 (fun _ => true) true fuel 22 cs = some x) {a : Option Addr} {len cap : Nat} (hcs : cs = [.slice a len cap]) :
    ∃ X, SActs W a len W.heap.size X ∧ len ≤ cap ∧ cap ≤ maxLen := by
  have he := Tryz.underlying33
  have ce : Tryz.prog.cellsOf 33 = 6 := by kernel_rfl
  have c3 : Tryz.prog.cellsOf 3 = 1 := by kernel_rfl
  have c9 : Tryz.prog.cellsOf 9 = 1 := by kernel_rfl
  have cu : Tryz.prog.cellsOf 30 = 1 := by kernel_rfl
  have cb : Tryz.prog.cellsOf 31 = 1 := by kernel_rfl
  rcases Go.Deep.open_slice Tryz.underlying22 hf with ⟨hn, _⟩ | ⟨ad, l, c, m, n, D, Pl, hn, _, hl, hm, hmm, _, hx⟩
  · rw [hcs] at hn
    simp at hn
    obtain ⟨rfl, rfl, rfl⟩ := hn
    exact ⟨fun _ => ⟨0, 0, 0, 0, [], none, 0, 0, []⟩, ⟨by omega, fun h => by omega, fun i h => by omega, fun i h => by omega, fun i h => by omega⟩, by omega, by unfold maxLen; omega⟩
  · rw [hcs] at hn
    simp at hn
    obtain ⟨rfl, rfl, rfl⟩ := hn
    simp only [if_true] at hmm
    have hmm' := hmm.symm
    subst hmm'
    rw [ce] at hx
    have each : ∀ i, i < cap → ∃ y : SK, W.cell? (ad.add (i * 6)) = some (.int .i64 y.kind) ∧ W.cell? (ad.add (i * 6 + 1)) = some (.int .i64 y.at') ∧ W.cell? (ad.add (i * 6 + 2)) = some (.int .i64 y.rc) ∧ W.cell? (ad.add (i * 6 + 3)) = some (.int .u64 (y.seq : Int)) ∧ W.cell? (ad.add (i * 6 + 4)) = some (strV y.xs) ∧ W.cell? (ad.add (i * 6 + 5)) = some (.slice y.ka y.kn y.kc) ∧
        Bl W y.ka y.kn y.K ∧ (∀ b off, y.ka = some ⟨b, off, none⟩ → 0 < y.kn → b < W.heap.size) ∧ y.at' ≤ 9223372036854775807 ∧ y.seq < 18446744073709551616 := by
      intro i hi
      obtain ⟨cs', h1, h2⟩ := hx i hi
      obtain ⟨_, hlen, hcell⟩ := World.cells?_some h1
      obtain ⟨xs, k, _, _, _, hxl, hf⟩ := DataW.trod_struct he h2
      match xs, hxl, cs', hlen with
      | [y0, y1, y2, y3, y4, y5], _, [u0, u1, u2, u3, u4, u5], _ =>
        have g0 := hf 0 _ rfl
        have g1 := hf 1 _ rfl
        have g2 := hf 2 _ rfl
        have g3 := hf 3 _ rfl
        have g4 := hf 4 _ rfl
        have g5 := hf 5 _ rfl
        simp [c3, c9, cu, cb] at g0 g1 g2 g3 g4 g5
        have e0 := hcell 0 (by omega)
        have e1 := hcell 1 (by omega)
        have e2 := hcell 2 (by omega)
        have e3 := hcell 3 (by omega)
        have e4 := hcell 4 (by omega)
        have e5 := hcell 5 (by omega)
        rw [Go.Deep.add_add] at e0 e1 e2 e3 e4 e5
        obtain ⟨n0, q0, _, w0⟩ := DataW.trod_int Tryz.underlying3 g0
        obtain ⟨n1, q1, _, w1⟩ := DataW.trod_int Tryz.underlying3 g1
        obtain ⟨n2, q2, _, w2⟩ := DataW.trod_int Tryz.underlying3 g2
        obtain ⟨n3, q3, _, w3⟩ := DataW.trod_int Tryz.underlying30 g3
        obtain ⟨s4, q4, _⟩ := DataW.trod_string Tryz.underlying9 g4
        simp at q0 q1 q2 q3 q4
        have hw1 : n1 ≤ 9223372036854775807 := by
          simp [Lit.wf, IntKind.max, IntKind.min, IntKind.signed, IntKind.bits] at w1
          omega
        have hw3 : 0 ≤ n3 ∧ n3 < 18446744073709551616 := by
          have m0 : IntKind.u64.min = 0 := rfl
          have m1 : IntKind.u64.max = 18446744073709551615 := rfl
          simp [Lit.wf] at w3
          omega
        obtain ⟨sq, rfl⟩ : ∃ k : Nat, n3 = k := ⟨n3.toNat, by omega⟩
        obtain ⟨xs, rfl, _⟩ := bytes_of s4
        rcases Go.Deep.open_bools Tryz.underlying31 Tryz.underlying4 (by kernel_rfl) g5 with ⟨q5, _⟩ | ⟨a3, l3, c3', F, q5, _, hl3, hm3, _, hc3⟩
        · simp at q5
          exact ⟨⟨n0, n1, n2, sq, xs, none, 0, 0, []⟩, by simpa [q0] using e0, by simpa [q1] using e1, by simpa [q2] using e2, by simpa [q3] using e3, by simpa [q4, strV] using e4, by simpa [q5] using e5, ⟨rfl, Nat.zero_le _, fun h => by simp at h⟩, fun b off h => by simp at h, hw1, by show sq < _; omega⟩
        · simp at q5
          obtain ⟨hb1, hb2⟩ := pbl_of_bools hl3 hm3 hc3
          exact ⟨⟨n0, n1, n2, sq, xs, some a3, l3, c3', (List.range l3).map F⟩, by simpa [q0] using e0, by simpa [q1] using e1, by simpa [q2] using e2, by simpa [q3] using e3, by simpa [q4, strV] using e4, by simpa [q5] using e5, hb1, hb2, hw1, by show sq < _; omega⟩
    obtain ⟨X, hX⟩ := Go.Deep.choose_lt each
    refine ⟨X, ⟨by unfold maxLen at hm; omega, fun h0 => ?_, fun i hi => (hX i (by omega)).2.2.2.2.2.2.1, fun i hi => (hX i (by omega)).2.2.2.2.2.2.2.1, fun i hi => (hX i (by omega)).2.2.2.2.2.2.2.2⟩, hl, hm⟩
    obtain ⟨b, off, sp⟩ := ad
    obtain rfl : sp = none := by
      have := (hX 0 (by omega)).1
      simpa [Addr.add] using World.cell?_spot this
    have hb := World.block_lt_of_cell? W _ (hX 0 (by omega)).1
    rw [Addr.add_none] at hb
    refine ⟨b, off, rfl, hb, fun i hi => ?_⟩
    obtain ⟨h0, h1, h2, h3, h4, h5, _⟩ := hX i (by omega)
    simp only [Addr.add_none, ← Nat.add_assoc] at h0 h1 h2 h3 h4 h5
    exact ⟨h0, h1, h2, h3, h4, h5⟩

theorem plays_call (a : Option Addr) (l c : Nat) (X : Nat → SK) (w : World) (hA : SActs w a l w.heap.size X) (hlc : l ≤ c) (hcm : c ≤ maxLen) :
    Calls Tryz.prog 3 #[.slice a l c] w fun e w' => e = .returned (.bool true) ∧ Below w.heap.size w w' := splays_walk a l c X w hA hlc hcm

end Go.Proofs.YtdefdmmlmgkpnaaGreatDoor


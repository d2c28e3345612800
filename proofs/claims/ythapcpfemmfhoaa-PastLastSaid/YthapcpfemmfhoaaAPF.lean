/-
  Pasts: lists of texts and of acts that came in, opened.
-/
import Derived.Test.YthapcpfemmfhoaaAPD
import Derived.ProofKit
import Derived.OpenShut
import Derived.ChangeOld
import Derived.Below
import Derived.SizedLaws
import Derived.Deep.SlicePairs
import Derived.Deep.Strs
import Derived.Deep.Grids
namespace Go.Proofs.Ythapcpfemmfhoaa
namespace Ap
open Go.RowKit Go.ChangeShapes Go.WideShapes Go.ChangeAt
set_option linter.unusedVariables false
set_option linter.unusedSimpArgs false

set_option maxHeartbeats 1000000 in
set_option maxRecDepth 100000 in
theorem rs_field {H : Type} {enc : TypeId × Value → H} {W : World} {fuel : Nat} {cs : List Value} {x : DataW H × List MemPlace} (hf : DataW.trod enc Try.prog W 0 (fun _ => true) true fuel 22 cs = some x) :
    ∃ a len cap L, cs = [.slice a len cap] ∧ Rs W a len cap L := by
  rcases Deep.open_strs Try.underlying22 Try.underlying9 (by kernel_rfl) hf with ⟨hn, _⟩ | ⟨ad, l, c, m, Sx, hn, _, hl, hm, hmm, hx, hcell⟩
  · exact ⟨none, 0, 0, [], hn, rs_nil W⟩
  · simp only [if_true] at hmm
    refine ⟨some ad, l, c, (List.range l).map Sx, hn, by simp, by omega, by omega, fun h => ?_⟩
    have hc0 := (hcell 0 (by omega)).1
    obtain ⟨b, off, spot⟩ := ad
    have hspot : spot = none := by simpa [Addr.add] using World.cell?_spot hc0
    subst hspot
    have hbl := World.block_lt_of_cell? W _ hc0
    rw [Addr.add_none] at hbl
    refine ⟨b, off, rfl, hbl, fun i hi' => ?_⟩
    have h3 := (hcell i (by omega)).1
    rw [Addr.add_none] at h3
    rw [h3]
    unfold lAt
    rw [List.getElem?_map, List.getElem?_range hi']
    rfl

theorem rs_open {H : Type} {enc : TypeId × Value → H} {W : World} {fuel : Nat} {cs : List Value} {x : DataW H × List MemPlace} (hf : DataW.trod enc Try.prog W 0 (fun _ => true) true fuel 22 cs = some x) {a : Option Addr} {len cap : Nat} (hcs : cs = [.slice a len cap]) :
    ∃ L, Rs W a len cap L := by
  obtain ⟨a', l', c', L, e, h⟩ := rs_field hf
  rw [hcs] at e
  simp at e
  obtain ⟨rfl, rfl, rfl⟩ := e
  exact ⟨L, h⟩

/-- An act: what is done, to which sector, with which text and texts, and which epoch. -/
structure AC where
  kind : Int
  i : Int
  data : ByteArray
  la : Option Addr
  ln : Nat
  lc : Nat
  L : List ByteArray
  ep : Nat

instance : Inhabited AC := ⟨⟨0, 0, noBytes, none, 0, 0, [], 0⟩⟩

structure PActs (w : World) (a : Option Addr) (n B : Nat) (X : Nat → AC) : Prop where
  big : n ≤ 9223372036854775807
  at0 : 0 < n → ∃ b off, a = some ⟨b, off, none⟩ ∧ b < B ∧ ∀ i, i < n → w.cell? ⟨b, off + i * 5, none⟩ = some (.int .i64 (X i).kind) ∧ w.cell? ⟨b, off + i * 5 + 1, none⟩ = some (.int .i64 (X i).i) ∧ w.cell? ⟨b, off + i * 5 + 2, none⟩ = some (.string (X i).data) ∧ w.cell? ⟨b, off + i * 5 + 3, none⟩ = some (.slice (X i).la (X i).ln (X i).lc) ∧ w.cell? ⟨b, off + i * 5 + 4, none⟩ = some (.int .u64 ((X i).ep : Int))
  rs : ∀ i, i < n → Rs w (X i).la (X i).ln (X i).lc (X i).L
  low : ∀ i, i < n → ∀ b off, (X i).la = some ⟨b, off, none⟩ → 0 < (X i).ln → b < B
  high : ∀ i, i < n → (X i).ep < 18446744073709551616

theorem rs_low {w : World} {a : Option Addr} {n c : Nat} {L : List ByteArray} (h : Rs w a n c L) : ∀ b off, a = some ⟨b, off, none⟩ → 0 < n → b < w.heap.size := fun b off e h0 => by
  obtain ⟨b', off', e', hlt, _⟩ := h.at0 h0
  rw [e] at e'
  cases e'
  exact hlt

theorem rs_kept {w w' : World} {a : Option Addr} {n c : Nat} {L : List ByteArray} (h : Rs w a n c L) {B : Nat} (hb : Below B w w') (hl : ∀ b off, a = some ⟨b, off, none⟩ → 0 < n → b < B) : Rs w' a n c L where
  len := h.len
  le := h.le
  cm := h.cm
  at0 := fun h0 => by
    obtain ⟨b, off, ha, hlt, hc⟩ := h.at0 h0
    exact ⟨b, off, ha, Nat.lt_of_lt_of_le hlt hb.size, fun i hi => by rw [hb.cell (by exact hl b off ha h0)]; exact hc i hi⟩

theorem PActs.below {w w' : World} {a n B X} (h : PActs w a n B X) (hb : Below B w w') : PActs w' a n B X where
  big := h.big
  at0 := fun h0 => by
    obtain ⟨b, off, e, hl, hc⟩ := h.at0 h0
    refine ⟨b, off, e, hl, fun i hi => ?_⟩
    obtain ⟨d0, d1, d2, d3, d4⟩ := hc i hi
    exact ⟨(hb.cell (by exact hl)).trans d0, (hb.cell (by exact hl)).trans d1, (hb.cell (by exact hl)).trans d2, (hb.cell (by exact hl)).trans d3, (hb.cell (by exact hl)).trans d4⟩
  rs := fun i hi => rs_kept (h.rs i hi) hb (h.low i hi)
  low := h.low
  high := h.high

set_option maxHeartbeats 1000000 in
set_option maxRecDepth 100000 in
theorem pacts_open {H : Type} {enc : TypeId × Value → H} {W : World} {fuel : Nat} {cs : List Value} {x : DataW H × List MemPlace} (hf : DataW.trod enc Try.prog W 0 (fun _ => true) true fuel 23 cs = some x) {a : Option Addr} {len cap : Nat} (hcs : cs = [.slice a len cap]) :
    ∃ X, PActs W a len W.heap.size X ∧ len ≤ cap ∧ cap ≤ maxLen := by
  have he := Try.underlying32
  have ce : Try.prog.cellsOf 32 = 5 := by kernel_rfl
  have c3 : Try.prog.cellsOf 3 = 1 := by kernel_rfl
  have c9 : Try.prog.cellsOf 9 = 1 := by kernel_rfl
  have cu : Try.prog.cellsOf 30 = 1 := by kernel_rfl
  have cb : Try.prog.cellsOf 22 = 1 := by kernel_rfl
  rcases Go.Deep.open_slice Try.underlying23 hf with ⟨hn, _⟩ | ⟨ad, l, c, m, n, D, Pl, hn, _, hl, hm, hmm, _, hx⟩
  · rw [hcs] at hn
    simp at hn
    obtain ⟨rfl, rfl, rfl⟩ := hn
    exact ⟨fun _ => ⟨0, 0, noBytes, none, 0, 0, [], 0⟩, ⟨by omega, fun h => by omega, fun i h => by omega, fun i h => by omega, fun i h => by omega⟩, by omega, by unfold maxLen; omega⟩
  · rw [hcs] at hn
    simp at hn
    obtain ⟨rfl, rfl, rfl⟩ := hn
    simp only [if_true] at hmm
    have hmm' := hmm.symm
    subst hmm'
    rw [ce] at hx
    have each : ∀ i, i < cap → ∃ y : AC, (W.cell? (ad.add (i * 5)) = some (.int .i64 y.kind) ∧ W.cell? (ad.add (i * 5 + 1)) = some (.int .i64 y.i) ∧ W.cell? (ad.add (i * 5 + 2)) = some (.string y.data) ∧ W.cell? (ad.add (i * 5 + 3)) = some (.slice y.la y.ln y.lc) ∧ W.cell? (ad.add (i * 5 + 4)) = some (.int .u64 (y.ep : Int))) ∧ Rs W y.la y.ln y.lc y.L ∧ y.ep < 18446744073709551616 := by
      intro i hi
      obtain ⟨cs', h1, h2⟩ := hx i hi
      obtain ⟨_, hlen, hcell⟩ := World.cells?_some h1
      obtain ⟨xs, k, _, _, _, hxl, hf⟩ := DataW.trod_struct he h2
      match xs, hxl, cs', hlen with
      | [y0, y1, y2, y3, y4], _, [u0, u1, u2, u3, u4], _ =>
        have g0 := hf 0 _ rfl
        have g1 := hf 1 _ rfl
        have g2 := hf 2 _ rfl
        have g3 := hf 3 _ rfl
        have g4 := hf 4 _ rfl
        simp [c3, c9, cu, cb] at g0 g1 g2 g3 g4
        have e0 := hcell 0 (by omega)
        have e1 := hcell 1 (by omega)
        have e2 := hcell 2 (by omega)
        have e3 := hcell 3 (by omega)
        have e4 := hcell 4 (by omega)
        rw [Go.Deep.add_add] at e0 e1 e2 e3 e4
        obtain ⟨n0, q0, _, w0⟩ := DataW.trod_int Try.underlying3 g0
        obtain ⟨n1, q1, _, w1⟩ := DataW.trod_int Try.underlying3 g1
        obtain ⟨s2, q2, _⟩ := DataW.trod_string Try.underlying9 g2
        obtain ⟨a3, l3, c3', L3, q3, r3⟩ := rs_field g3
        obtain ⟨n4, q4, _, w4⟩ := DataW.trod_int Try.underlying30 g4
        simp at q0 q1 q2 q3 q4
        have hw4 : 0 ≤ n4 ∧ n4 < 18446744073709551616 := by
          have m0 : IntKind.u64.min = 0 := rfl
          have m1 : IntKind.u64.max = 18446744073709551615 := rfl
          simp [Lit.wf] at w4
          omega
        obtain ⟨z4, rfl⟩ : ∃ k : Nat, n4 = k := ⟨n4.toNat, by omega⟩
        exact ⟨⟨n0, n1, s2, a3, l3, c3', L3, z4⟩, ⟨by simpa [q0] using e0, by simpa [q1] using e1, by simpa [q2] using e2, by simpa [q3] using e3, by simpa [q4] using e4⟩, r3, by show z4 < _; omega⟩
    obtain ⟨X, hX⟩ := Go.Deep.choose_lt each
    refine ⟨X, ⟨by unfold maxLen at hm; omega, fun h0 => ?_, fun i hi => (hX i (by omega)).2.1, fun i hi => rs_low (hX i (by omega)).2.1, fun i hi => (hX i (by omega)).2.2⟩, hl, hm⟩
    obtain ⟨b, off, sp⟩ := ad
    obtain rfl : sp = none := by
      have := (hX 0 (by omega)).1.1
      simpa [Addr.add] using World.cell?_spot this
    have hb := World.block_lt_of_cell? W _ (hX 0 (by omega)).1.1
    rw [Addr.add_none] at hb
    refine ⟨b, off, rfl, hb, fun i hi => ?_⟩
    obtain ⟨⟨h0, h1, h2, h3, h4⟩, _⟩ := hX i (by omega)
    simp only [Addr.add_none, ← Nat.add_assoc] at h0 h1 h2 h3 h4
    exact ⟨h0, h1, h2, h3, h4⟩

end Ap
end Go.Proofs.Ythapcpfemmfhoaa


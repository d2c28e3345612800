/-
  SlotKeeps' arguments, opened.
-/
import Derived.Test.YtdefdmmlmgkpnaaDoorT6
import Derived.ProofKit
import Derived.OpenShut
import Derived.ChangeOld
import Derived.Below
import Derived.Deep.SlicePairs
import Derived.Deep.Grids
namespace Go.Proofs.YtdefdmmlmgkpnaaDoor
open Go.RowKit Go.ChangeShapes Go.WideShapes Go.ChangeAt
set_option linter.unusedVariables false
set_option linter.unusedSimpArgs false

theorem sbl_of_bools {W : World} {a : Addr} {len cap : Nat} {F : Nat → Bool} (hl : len ≤ cap) (hm : cap ≤ maxLen) (hc : ∀ i, i < cap → W.cell? (a.add i) = some (.bool (F i))) :
    Bl W (some a) len ((List.range len).map F) ∧ ∀ b off, some a = some (⟨b, off, none⟩ : Addr) → 0 < len → b < W.heap.size := by
  have hz : 0 < len → a.spot = none := fun h0 => by
    have := hc 0 (by omega)
    simpa [Addr.add] using World.cell?_spot this
  have hlt : 0 < len → a.block < W.heap.size := fun h0 => by
    have := World.block_lt_of_cell? W _ (hc 0 (by omega))
    rwa [add_block] at this
  refine ⟨⟨by simp, by unfold maxLen at hm; omega, fun h0 => ?_⟩, fun b off e h0 => by cases e; exact hlt h0⟩
  obtain ⟨b, off, sp⟩ := a
  obtain rfl : sp = none := hz h0
  refine ⟨b, off, rfl, hlt h0, fun i hi => ?_⟩
  have := hc i (by omega)
  rw [Addr.add_none] at this
  rw [this]
  simp [hi]

set_option maxRecDepth 100000 in
theorem open_crash {H : Type} {enc : TypeId × Value → H} {W : World} {r : Reach} {b0 : Nat} {v : Value} {d : DataW H} {ps : List MemPlace} (hval : Value.okWide Tryd.prog W r b0 25 v) (hd : DataW.Trod enc Tryd.prog W 0 (fun _ => true) true 25 v d ps) :
    ∃ f ak nk ck K, v = .agg #[.int .i64 f, .slice ak nk ck] ∧ Bl W ak nk K := by
  obtain ⟨cs, rfl, hsz⟩ := okWide_struct Tryd.underlying25 hval
  rw [show Tryd.prog.cellsOf 25 = 2 from by kernel_rfl] at hsz
  obtain ⟨l⟩ := cs
  match l, hsz with
  | [c0, c1], _ =>
  obtain ⟨fuel, hf⟩ := hd
  obtain ⟨xs, n, _, hx, _, hlen, hfs⟩ := DataW.trod_struct Tryd.underlying25 hf
  match xs, hlen with
  | [y0, y1], _ =>
  have h0 := hfs 0 _ rfl
  have h1 := hfs 1 _ rfl
  simp only [List.getElem?_cons_zero, List.getElem?_cons_succ] at h0 h1
  have k3 : Tryd.prog.cellsOf 3 = 1 := by kernel_rfl
  have kb : Tryd.prog.cellsOf 23 = 1 := by kernel_rfl
  obtain ⟨f, e0, rfl, w0⟩ := DataW.trod_int Tryd.underlying3 h0
  simp [Value.cells, k3] at e0
  subst e0
  rcases Go.Deep.open_bools Tryd.underlying23 Tryd.underlying4 (by kernel_rfl) h1 with ⟨q3, _⟩ | ⟨a3, l3, c3', F, q3, _, hl3, hm3, _, hc3⟩
  · simp [Value.cells, k3, kb] at q3
    subst q3
    exact ⟨f, none, 0, 0, [], rfl, ⟨rfl, Nat.zero_le _, fun h => by simp at h⟩⟩
  · simp [Value.cells, k3, kb] at q3
    subst q3
    exact ⟨f, some a3, l3, c3', _, rfl, (sbl_of_bools hl3 hm3 hc3).1⟩

theorem keeps_call (a0 : Int) (s t : ByteArray) (f : Int) (ak : Option Addr) (nk ck : Nat) (K : List Bool) (w : World) (h0 : (Lit.int .u64 a0).wf = true) (hs : s.size ≤ maxLen) (ht : t.size ≤ maxLen) (hK : Bl w ak nk K) :
    Calls Tryd.prog 3 #[.int .u64 a0, .string s, .string t, .agg #[.int .i64 f, .slice ak nk ck]] w fun e w' => e = .returned (.bool true) ∧ Below w.heap.size w w' := by
  have hr : 0 ≤ a0 ∧ a0 < 18446744073709551616 := by
    have m0 : IntKind.u64.min = 0 := rfl
    have m1 : IntKind.u64.max = 18446744073709551615 := rfl
    simp [Lit.wf] at h0
    omega
  obtain ⟨n, rfl⟩ : ∃ n : Nat, a0 = n := ⟨a0.toNat, by omega⟩
  obtain ⟨xs, rfl, _⟩ := bytes_of s
  obtain ⟨ys, rfl, _⟩ := bytes_of t
  unfold maxLen at hs ht
  rw [size_str] at hs ht
  exact skeeps_walk n xs ys f ak nk ck K w (by omega) (by omega) (by omega) hK

end Go.Proofs.YtdefdmmlmgkpnaaDoor


/-
  Texts put together: P9, PB.
-/
import Derived.Test.YtehjdaafadbbdaaMP7
import Derived.Test.YtehjdaafadbbdaaME2
import Derived.Test.YtehjdaafadbbdaaMG3
import Derived.ProofKit
import Derived.OpenShut
import Derived.ChangeOld
import Derived.Below
import Derived.SizedLaws
import Derived.Deep.SlicePairs
import Derived.Deep.Grids
/-
  RollTells' arguments, and its loops: what is written to two disks.
-/
namespace Go.Proofs.Ytehjdaafadbbdaa
open Go.RowKit
set_option linter.unusedVariables false
set_option linter.unusedSimpArgs false

/-- The slice value reads as places and texts. -/
structure Pts (w : World) (a : Option Addr) (n cap : Nat) (X : Nat → Int × ByteArray) : Prop where
  le : n ≤ cap
  cm : cap ≤ maxLen
  at0 : 0 < n → ∃ b off, a = some ⟨b, off, none⟩ ∧ b < w.heap.size ∧ ∀ i, i < n → w.cell? ⟨b, off + i * 2, none⟩ = some (.int .i64 (X i).1) ∧ w.cell? ⟨b, off + i * 2 + 1, none⟩ = some (.string (X i).2)
theorem Pts.later {w w' : World} {a : Option Addr} {n cap : Nat} {X} (h : Pts w a n cap X) (hb : Below w.heap.size w w') : Pts w' a n cap X where
  le := h.le
  cm := h.cm
  at0 := fun h0 => by
    obtain ⟨b, off, ha, hlt, hc⟩ := h.at0 h0
    exact ⟨b, off, ha, Nat.lt_of_lt_of_le hlt hb.size, fun i hi => ⟨by rw [hb.cell (by exact hlt)]; exact (hc i hi).1, by rw [hb.cell (by exact hlt)]; exact (hc i hi).2⟩⟩
/-- What is written, one after another, errors or not. -/
def putD (S : DS) (X : Nat → Int × ByteArray) : Nat → DS
  | 0 => S
  | k + 1 => ((putD S X k).write (X k).1 (X k).2).2
theorem putD_ok {S : DS} {M : Nat} (h : S.ok M) (X) : ∀ k, (putD S X k).ok (M + k)
  | 0 => h
  | k + 1 => (putD_ok h X k).write _ _
theorem write_len (S : DS) (at' : Int) (data : ByteArray) : (S.write at' data).2.L.length = S.L.length := by
  unfold DS.write
  split
  · rfl
  · split
    · split
      · split
        · unfold DS.burnt; split <;> rfl
        · show S.burnt.L.length = _; unfold DS.burnt; split <;> rfl
      · rfl
    · rfl
theorem putD_len (S : DS) (X) : ∀ k, (putD S X k).L.length = S.L.length
  | 0 => rfl
  | k + 1 => (write_len _ _ _).trans (putD_len S X k)
theorem flush_len (S : DS) : S.flush.2.L.length = S.L.length := by
  unfold DS.flush
  split
  · rfl
  · split
    · unfold DS.burnt; split <;> rfl
    · exact appW_length _ _ _
theorem storeP_len (S : DS) (at' : Int) (data : ByteArray) : (storeP S at' data).2.L.length = S.L.length := by
  unfold storeP
  split
  · exact write_len _ _ _
  · rw [flush_len, write_len]
theorem clearP_len (N F C U : Int) (S : DS) : (clearP N F C U S).2.L.length = S.L.length := by
  unfold clearP
  split
  · exact storeP_len _ _ _
  · rfl
theorem wrF_len : ∀ (l : List (Nat × En)) (r : Int × DS), (l.foldl (fun (r : Int × DS) x => if r.1 ≠ 0 then r else r.2.write x.2.place x.2.old) r).2.L.length = r.2.L.length
  | [], r => rfl
  | x :: l, r => by
    rw [List.foldl_cons, wrF_len l]
    split
    · rfl
    · exact write_len _ _ _
theorem backP_len (N F C U : Int) (S : DS) (X : List En) : (backP N F C U S X).2.L.length = S.L.length := by
  have hw : (wrL S (upE X X.length)).2.L.length = S.L.length := wrF_len _ _
  unfold backP
  split
  · split
    · exact hw
    · split
      · rw [flush_len]; exact hw
      · rw [clearP_len, flush_len]; exact hw
  · rfl
theorem findV_two (r : Option ByteArray) : ∃ s b, findV r = .tuple #[.string s, .bool b] := by
  cases r with
  | none => exact ⟨_, _, rfl⟩
  | some s => exact ⟨_, _, rfl⟩

set_option maxRecDepth 20000 in
set_option maxHeartbeats 2000000 in
theorem rolltells_far (N F C U : Int) (a1 : Option Addr) (l1 c1 : Nat) (a2 : Option Addr) (l2 c2 : Nat) (place : Int) (w : World) (hx : 30 < l1 ∨ 30 < l2) :
    Calls Try.prog 3 #[geo N F C U, .slice a1 l1 c1, .slice a2 l2 c2, .int .i64 place] w fun e w' => e = .returned (.bool true) ∧ Below w.heap.size w w' := by
  have HKN := Lib.hid (fun w => known16_any w)
  have HB0 := Lib.hid ((Below.refl w.heap.size w).alloc (Nat.le_refl _) (.cells #[.int .i64 N, .int .i64 F, .int .i64 C, .int .i64 U] 23))
  unfold geo
  by_cases h1 : 30 < l1
  · have h1' : (30 : Int) < (l1 : Int) := by omega
    clear hx
    go_enter Try.func3, Try.ntmps3
    go_wp2_with fail
    refine (HKN.out _).mono ?_
    rintro e w1 ⟨rfl, hb⟩
    have HB := Lib.hid (HB0.out.trans (hb.mono HB0.out.size))
    clear hb
    go_wp2
    go_ret
    exact ⟨rfl, HB.out⟩
  · have h1' : ¬ (30 : Int) < (l1 : Int) := by omega
    have h2' : (30 : Int) < (l2 : Int) := by omega
    clear hx
    go_enter Try.func3, Try.ntmps3
    go_wp2_with fail
    refine (HKN.out _).mono ?_
    rintro e w1 ⟨rfl, hb⟩
    have HB := Lib.hid (HB0.out.trans (hb.mono HB0.out.size))
    clear hb
    go_wp2
    go_ret
    exact ⟨rfl, HB.out⟩
end Go.Proofs.Ytehjdaafadbbdaa
/-
  RollTells' arguments, opened: places and texts, and entries.
-/
namespace Go.Proofs.Ytehjdaafadbbdaa
open Go.RowKit Go.ChangeShapes Go.WideShapes Go.ChangeAt
set_option linter.unusedVariables false
set_option linter.unusedSimpArgs false

def textOf : Value → ByteArray | .string s => s | _ => noBytes
def iOf : Value → Int | .int _ z => z | _ => 0
theorem u64_nat {z : Int} (h : (Lit.int .u64 z).wf = true) : ∃ n : Nat, z = n ∧ n < 18446744073709551616 := by
  have m0 : IntKind.u64.min = 0 := rfl
  have m1 : IntKind.u64.max = 18446744073709551615 := rfl
  simp [Lit.wf] at h
  exact ⟨z.toNat, by omega, by omega⟩

set_option maxHeartbeats 1000000 in
set_option maxRecDepth 100000 in
theorem pts_open {H : Type} {enc : TypeId × Value → H} {W : World} {fuel : Nat} {cs : List Value} {x : DataW H × List MemPlace} (hf : DataW.trod enc Try.prog W 0 (fun _ => true) true fuel 24 cs = some x) {a : Option Addr} {len cap : Nat} (hcs : cs = [.slice a len cap]) :
    ∃ X, Pts W a len cap X := by
  rcases Go.Deep.open_slice_pairs Try.underlying24 Try.underlying35 (by kernel_rfl) rfl rfl (by kernel_rfl) (by kernel_rfl) hf with ⟨hn, _⟩ | ⟨ad, l, c, m, n, V0, V1, D0, D1, P0, P1, hn, _, hl, hm, hmm, hx, hi⟩
  · rw [hcs] at hn
    simp at hn
    obtain ⟨rfl, rfl, rfl⟩ := hn
    exact ⟨fun _ => (0, noBytes), by omega, by unfold maxLen; omega, fun h => by omega⟩
  · rw [hcs] at hn
    simp at hn
    obtain ⟨rfl, rfl, rfl⟩ := hn
    simp only [if_true] at hmm
    refine ⟨fun i => (iOf (V0 i), textOf (V1 i)), by omega, by omega, fun h => ?_⟩
    obtain ⟨b, off, spot⟩ := ad
    have hc0 := (hi 0 (by omega)).1
    have hspot : spot = none := by simpa [Addr.add] using World.cell?_spot hc0
    subst hspot
    have hbl := World.block_lt_of_cell? W _ hc0
    rw [Addr.add_none] at hbl
    refine ⟨b, off, rfl, hbl, fun i hi' => ?_⟩
    obtain ⟨h1, h2, h3, h4⟩ := hi i (by omega)
    obtain ⟨k, e1, _, _⟩ := DataW.trod_int Try.underlying3 h3
    obtain ⟨s, e2, _⟩ := DataW.trod_string Try.underlying9 h4
    rw [Addr.add_none] at h1 h2
    simp only [List.cons.injEq, and_true] at e1 e2
    rw [e1] at h1
    rw [e2, ← Nat.add_assoc] at h2
    simp only [e1, e2, iOf, textOf]
    exact ⟨h1, h2⟩

set_option maxHeartbeats 1000000 in
set_option maxRecDepth 100000 in
theorem es_open {H : Type} {enc : TypeId × Value → H} {W : World} {fuel : Nat} {cs : List Value} {x : DataW H × List MemPlace} (hf : DataW.trod enc Try.prog W 0 (fun _ => true) true fuel 25 cs = some x) {a : Option Addr} {len cap : Nat} (hcs : cs = [.slice a len cap]) :
    ∃ X : List En, Es W a len cap X ∧ ∀ b off, a = some ⟨b, off, none⟩ → 0 < len → b < W.heap.size := by
  have he := Try.underlying39
  have ce : Try.prog.cellsOf 39 = 4 := by kernel_rfl
  have c3 : Try.prog.cellsOf 3 = 1 := by kernel_rfl
  have c9 : Try.prog.cellsOf 9 = 1 := by kernel_rfl
  have cu : Try.prog.cellsOf 37 = 1 := by kernel_rfl
  rcases Go.Deep.open_slice Try.underlying25 hf with ⟨hn, _⟩ | ⟨ad, l, c, m, n, D, Pl, hn, _, hl, hm, hmm, _, hx⟩
  · rw [hcs] at hn
    simp at hn
    obtain ⟨rfl, rfl, rfl⟩ := hn
    exact ⟨[], es_nil W, fun b off e => by cases e⟩
  · rw [hcs] at hn
    simp at hn
    obtain ⟨rfl, rfl, rfl⟩ := hn
    simp only [if_true] at hmm
    have hmm' := hmm.symm
    subst hmm'
    rw [ce] at hx
    have each : ∀ i, i < cap → ∃ y : En, W.cell? (ad.add (i * 4)) = some (.int .u64 (y.tag : Int)) ∧ W.cell? (ad.add (i * 4 + 1)) = some (.int .u64 (y.epoch : Int)) ∧ W.cell? (ad.add (i * 4 + 2)) = some (.int .i64 y.place) ∧ W.cell? (ad.add (i * 4 + 3)) = some (.string y.old) := by
      intro i hi
      obtain ⟨cs', h1, h2⟩ := hx i hi
      obtain ⟨_, hlen, hcell⟩ := World.cells?_some h1
      obtain ⟨xs, k, _, _, _, hxl, hf⟩ := DataW.trod_struct he h2
      match xs, hxl, cs', hlen with
      | [y0, y1, y2, y3], _, [u0, u1, u2, u3], _ =>
        have g0 := hf 0 _ rfl
        have g1 := hf 1 _ rfl
        have g2 := hf 2 _ rfl
        have g3 := hf 3 _ rfl
        simp [c3, c9, cu] at g0 g1 g2 g3
        have e0 := hcell 0 (by omega)
        have e1 := hcell 1 (by omega)
        have e2 := hcell 2 (by omega)
        have e3 := hcell 3 (by omega)
        rw [Go.Deep.add_add] at e0 e1 e2 e3
        obtain ⟨n0, q0, _, w0⟩ := DataW.trod_int Try.underlying37 g0
        obtain ⟨n1, q1, _, w1⟩ := DataW.trod_int Try.underlying37 g1
        obtain ⟨n2, q2, _, w2⟩ := DataW.trod_int Try.underlying3 g2
        obtain ⟨s3, q3, _⟩ := DataW.trod_string Try.underlying9 g3
        simp at q0 q1 q2 q3
        obtain ⟨m0, rfl, _⟩ := u64_nat w0
        obtain ⟨m1, rfl, _⟩ := u64_nat w1
        exact ⟨⟨m0, m1, n2, s3⟩, by simpa [q0] using e0, by simpa [q1] using e1, by simpa [q2] using e2, by simpa [q3] using e3⟩
    obtain ⟨X, hX⟩ := Go.Deep.choose_lt each
    have hbb : 0 < len → ∃ b off, ad = ⟨b, off, none⟩ ∧ b < W.heap.size := fun h0 => by
      obtain ⟨b, off, sp⟩ := ad
      obtain rfl : sp = none := by
        have := (hX 0 (by omega)).1
        simpa [Addr.add] using World.cell?_spot this
      have hb := World.block_lt_of_cell? W _ (hX 0 (by omega)).1
      rw [Addr.add_none] at hb
      exact ⟨b, off, rfl, hb⟩
    refine ⟨(List.range len).map X, ⟨by simp, hl, hm, fun h0 => ?_⟩, fun b off e h0 => ?_⟩
    · obtain ⟨b, off, rfl, hb⟩ := hbb h0
      refine ⟨b, off, rfl, hb, fun i hi => ?_⟩
      have ee : eAt ((List.range len).map X) i = X i := by unfold eAt; rw [List.getElem?_map, List.getElem?_range hi]; rfl
      rw [ee]
      obtain ⟨h0, h1, h2, h3⟩ := hX i (by omega)
      simp only [Addr.add_none, ← Nat.add_assoc] at h0 h1 h2 h3
      exact ⟨h0, h1, h2, h3⟩
    · obtain ⟨b', off', e', hb⟩ := hbb h0
      cases e
      cases e'
      exact hb
end Go.Proofs.Ytehjdaafadbbdaa

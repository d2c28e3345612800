/-
  A frame as an argument: opened; what its bulk tells.
-/
import Derived.Test.YtipegdfjpmlcbaaCFJ
import Derived.Test.YtipegdfjpmlcbaaRows
import Derived.ProofKit
import Derived.OpenShut
import Derived.ChangeOld
import Derived.Below
import Derived.Deep.Strs
namespace Go.Proofs.Ytipegdfjpmlcbaa
open Go.ChangeShapes Go.WideShapes Go.ChangeAt Go.RowKit
set_option linter.unusedVariables false
set_option linter.unusedSimpArgs false

theorem strV_of (s : ByteArray) : strV s.data.toList = .string s := by cases s; rfl
theorem bulk_texts {H : Type} (L : List (List UInt8)) : Rows.uptoBulkAll (L.map fun s => DataW.lit (H := H) (.string s)) = L.flatten.length + L.length := by
  induction L with
  | nil => rfl
  | cons s L ih =>
    simp only [List.map_cons, Rows.uptoBulkAll, Rows.uptoBulk, ih, List.flatten_cons, List.length_append, List.length_cons]
    omega
theorem flat_take (L : List (List UInt8)) (k : Nat) : ((L.take k).flatten).length ≤ L.flatten.length := by
  have h := congrArg (fun M => (List.flatten M).length) (List.take_append_drop k L)
  simp only [List.flatten_append, List.length_append] at h
  omega

set_option maxRecDepth 100000 in
theorem open_frame {H : Type} {enc : TypeId × Value → H} {W : World} {r : Reach} {b0 : Nat} {v : Value} {d : DataW H} {ps : List MemPlace} (hval : Value.okWide Try.prog W r b0 26 v) (hd : DataW.Trod enc Try.prog W 0 (fun _ => true) true 26 v d ps) :
    ∃ (f : FR) (a : Option Addr) (n c : Nat), v = frV f (.slice a n c) ∧ Tx W a n c f.list ∧ f.vol < 4294967296 ∧ f.fit ∧ f.data.length ≤ maxLen ∧ (∀ s ∈ f.list, s.length ≤ maxLen) ∧ f.data.length + f.list.flatten.length ≤ Rows.uptoBulk d := by
  obtain ⟨cs, rfl, hsz⟩ := okWide_struct Try.underlying26 hval
  rw [show Try.prog.cellsOf 26 = 11 from by kernel_rfl] at hsz
  obtain ⟨l⟩ := cs
  match l, hsz with
  | [c0, c1, c2, c3, c4, c5, c6, c7, c8, c9, c10], _ =>
  obtain ⟨fuel, hf⟩ := hd
  obtain ⟨xs, n, _, hx, _, hlen, hfs⟩ := DataW.trod_struct Try.underlying26 hf
  match xs, hlen with
  | [y0, y1, y2, y3, y4, y5, y6, y7, y8, y9, y10], _ =>
  have h0 := hfs 0 _ rfl
  have h1 := hfs 1 _ rfl
  have h2 := hfs 2 _ rfl
  have h3 := hfs 3 _ rfl
  have h4 := hfs 4 _ rfl
  have h5 := hfs 5 _ rfl
  have h6 := hfs 6 _ rfl
  have h7 := hfs 7 _ rfl
  have h8 := hfs 8 _ rfl
  have h9 := hfs 9 _ rfl
  have h10 := hfs 10 _ rfl
  simp only [List.getElem?_cons_zero, List.getElem?_cons_succ] at h0 h1 h2 h3 h4 h5 h6 h7 h8 h9 h10
  have k3 : Try.prog.cellsOf 3 = 1 := by kernel_rfl
  have k9 : Try.prog.cellsOf 9 = 1 := by kernel_rfl
  have k32 : Try.prog.cellsOf 23 = 1 := by kernel_rfl
  have k64 : Try.prog.cellsOf 22 = 1 := by kernel_rfl
  have ks : Try.prog.cellsOf 24 = 1 := by kernel_rfl
  obtain ⟨kd, e0, rfl, w0⟩ := DataW.trod_int Try.underlying3 h0
  obtain ⟨se, e1, rfl, w1⟩ := DataW.trod_int Try.underlying22 h1
  obtain ⟨ep, e2, rfl, w2⟩ := DataW.trod_int Try.underlying22 h2
  obtain ⟨sq, e3, rfl, w3⟩ := DataW.trod_int Try.underlying23 h3
  obtain ⟨vo, e4, rfl, w4⟩ := DataW.trod_int Try.underlying23 h4
  obtain ⟨nn, e5, rfl, w5⟩ := DataW.trod_int Try.underlying3 h5
  obtain ⟨ff, e6, rfl, w6⟩ := DataW.trod_int Try.underlying3 h6
  obtain ⟨ix, e7, rfl, w7⟩ := DataW.trod_int Try.underlying3 h7
  obtain ⟨co, e8, rfl, w8⟩ := DataW.trod_int Try.underlying3 h8
  obtain ⟨da, e9, rfl, w9⟩ := DataW.trod_string Try.underlying9 h9
  have hw1 : 0 ≤ se ∧ se ≤ 18446744073709551615 := by simp [Lit.wf, IntKind.max, IntKind.min, IntKind.signed, IntKind.bits] at w1; omega
  have hw2 : 0 ≤ ep ∧ ep ≤ 18446744073709551615 := by simp [Lit.wf, IntKind.max, IntKind.min, IntKind.signed, IntKind.bits] at w2; omega
  have hw3 : 0 ≤ sq ∧ sq ≤ 4294967295 := by simp [Lit.wf, IntKind.max, IntKind.min, IntKind.signed, IntKind.bits] at w3; omega
  have hw4 : 0 ≤ vo ∧ vo ≤ 4294967295 := by simp [Lit.wf, IntKind.max, IntKind.min, IntKind.signed, IntKind.bits] at w4; omega
  obtain ⟨se, rfl⟩ : ∃ m : Nat, se = (m : Int) := ⟨se.toNat, by omega⟩
  obtain ⟨ep, rfl⟩ : ∃ m : Nat, ep = (m : Int) := ⟨ep.toNat, by omega⟩
  obtain ⟨sq, rfl⟩ : ∃ m : Nat, sq = (m : Int) := ⟨sq.toNat, by omega⟩
  obtain ⟨vo, rfl⟩ : ∃ m : Nat, vo = (m : Int) := ⟨vo.toNat, by omega⟩
  simp [Value.cells, k3, k9, k32, k64] at e0 e1 e2 e3 e4 e5 e6 e7 e8 e9
  subst e0 e1 e2 e3 e4 e5 e6 e7 e8 e9
  have hdl : da.data.toList.length = da.size := by rw [Array.length_toList]; rfl
  rcases Deep.open_strs Try.underlying24 Try.underlying9 (by kernel_rfl) h10 with ⟨hn, hy⟩ | ⟨ad, ln, c, m, Sx, hn, _, hl, hm, hmm, hy, hcell⟩
  · simp [Value.cells, k3, k9, k32, k64, ks] at hn
    subst hn
    subst hy
    simp only [Prod.mk.injEq] at hx
    obtain ⟨rfl, rfl⟩ := hx
    refine ⟨⟨kd, se, ep, sq, vo, nn, ff, ix, co, da.data.toList, []⟩, none, 0, 0, ?_, tx_nil W, by simp only; omega, ⟨by simp only; omega, by simp only; omega, by simp only; omega⟩, by simp only; omega, fun s hs => by simp at hs, ?_⟩
    · simp [frV, strV_of]
    · simp [Rows.uptoBulk, Rows.uptoBulkAll]
      omega
  · simp [Value.cells, k3, k9, k32, k64, ks] at hn
    subst hn
    subst hy
    simp only [Prod.mk.injEq] at hx
    obtain ⟨rfl, rfl⟩ := hx
    simp only [if_true] at hmm
    have htx : Tx W (some ad) ln c ((List.range ln).map fun i => (Sx i).data.toList) := by
      refine ⟨by simp, by omega, by omega, fun h => ?_⟩
      have hc0 := (hcell 0 (by omega)).1
      obtain ⟨b, off, spot⟩ := ad
      have hspot : spot = none := by simpa [Addr.add] using World.cell?_spot hc0
      subst hspot
      have hbl := World.block_lt_of_cell? W _ hc0
      rw [Addr.add_none] at hbl
      refine ⟨b, off, rfl, hbl, fun i hi' => ?_⟩
      have h3 := (hcell i (by omega)).1
      rw [Addr.add_none] at h3
      rw [h3, List.getElem?_map, List.getElem?_range hi']
      simp [strV_of]
    refine ⟨⟨kd, se, ep, sq, vo, nn, ff, ix, co, da.data.toList, (List.range ln).map fun i => (Sx i).data.toList⟩, some ad, ln, c, ?_, htx, by simp only; omega, ⟨by simp only; omega, by simp only; omega, by simp only; omega⟩, by simp only; omega, fun s hs => ?_, ?_⟩
    · simp [frV, strV_of]
    · simp only [List.mem_map, List.mem_range] at hs
      obtain ⟨i, hi, rfl⟩ := hs
      have := (hcell i (by omega)).2
      rw [Array.length_toList]
      exact this
    · have hb := bulk_texts (H := H) ((List.range ln).map fun i => (Sx i).data.toList)
      rw [List.map_map] at hb
      simp only [List.map_cons, List.map_nil, Rows.uptoBulk, Rows.uptoBulkAll]
      simp only [Function.comp_def] at hb
      rw [hb]
      omega
end Go.Proofs.Ytipegdfjpmlcbaa


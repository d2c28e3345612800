/-
  Texts put together: HH, HI, HJ, HK.
-/
import Derived.Test.YtpkeikbiblfidaaGreatDoorMHG
import Derived.ProofKit
import Derived.OpenShut
import Derived.ChangeOld
import Derived.Below
import Derived.SizedLaws
import Derived.Deep.SlicePairs
import Derived.Deep.Grids
import Derived.ChangeSlices
/-
  alike and known of law13.
-/
namespace Go.Proofs.YtpkeikbiblfidaaGreatDoor
open Go.RowKit
set_option linter.unusedVariables false
set_option linter.unusedSimpArgs false

set_option maxRecDepth 20000 in
set_option maxHeartbeats 4000000 in
theorem alike13_any (B p q : Nat) (A : Nat → Prop) (S : DS) (w : World) (h : Two w B p q A S) (hW : S.W.length ≤ 1000000) (hL : (S.L.length : Int) ≤ 1200) :
    Calls Tryz.prog 13 #[.pointer (some ⟨p, 0, none⟩), .pointer (some ⟨q, 0, none⟩)] w fun e w' => e = .returned (.bool true) ∧ Below w.heap.size w w' := by
  obtain ⟨v1, v2, u1, u2, hp, hq, hd, hA⟩ := h
  have hbd : Below w.heap.size w w.drew := (Below.refl _ _).drew
  have hpd := hp.below hbd
  have hqd := hq.below hbd
  obtain ⟨fu, e, c0, c1, c2, c3, c4, c5, hf⟩ := hpd.cells
  obtain ⟨d0, d1, d2, d3, d4, hg⟩ := hqd.cells
  obtain ⟨a, c, rfl, hle, hcm, _⟩ := owns_shape1 hp.own1
  have hqo := hq.own1
  obtain ⟨a', c', rfl, hle', hcm', hg'⟩ := owns_shape1 hqo
  have hmx : (c' : Int) ≤ 9223372036854775807 := by unfold maxLen at hcm'; omega
  have h1 := len_any p a S.L.length c w.drew c0
  have h2 := down_any p S.off w.drew c2
  have h3 := done_any p _ w.drew c5
  have h4 := waits_any B p _ v2 S w.drew hpd hW
  have h5 : ∀ w4 v', w4.ownsRow w.drew.heap.size 104 2 v' S.W.length (puts S.W) → Below w.drew.heap.size w.drew w4 → Calls Tryz.prog 60 #[v', u2] w4 fun e w' => e = .returned (.bool true) ∧ Below w4.heap.size w4 w' := fun w4 v' ho hb =>
    rputs_same v' u2 S.W w4 (Wr.of_owns ho hW) (Wr.of_owns (hqd.below hb).own2 hW)
  have hkp : ∀ w4, Below w.drew.heap.size w.drew w4 → w4.cell? ⟨q, 0, none⟩ = some (.slice a' S.L.length c') ∧ w4.cell? ⟨q, 1, none⟩ = some u2 ∧ w4.cell? ⟨q, 3, none⟩ = some (.bool S.off) ∧ w4.cell? ⟨q, 4, none⟩ = some (.int .i64 (S.did : Int)) := fun w4 hb =>
    ⟨(hb.cell (p := ⟨q, 0, none⟩) hqd.lt).trans d0, (hb.cell (p := ⟨q, 1, none⟩) hqd.lt).trans d1, (hb.cell (p := ⟨q, 3, none⟩) hqd.lt).trans d3, (hb.cell (p := ⟨q, 4, none⟩) hqd.lt).trans d4⟩
  have hst : w.drew.cell? ⟨q, 0, none⟩ = some (.slice a' S.L.length c') ∧ w.drew.cell? ⟨q, 1, none⟩ = some u2 ∧ w.drew.cell? ⟨q, 3, none⟩ = some (.bool S.off) ∧ w.drew.cell? ⟨q, 4, none⟩ = some (.int .i64 (S.did : Int)) := hkp _ (Below.refl _ _)
  obtain ⟨a2, cc2, rfl, _, _, _⟩ := owns_shape1 hq.own2
  have H1 := Lib.hid h1
  have H2 := Lib.hid h2
  have H3 := Lib.hid h3
  have H4 := Lib.hid h4
  have H5 := Lib.hid h5
  have HKP := Lib.hid hkp
  have HST := Lib.hid hst
  have HP := Lib.hid hp
  have HQ := Lib.hid hq
  have HQO := Lib.hid hqo
  clear h1 h2 h3 h4 h5 hkp hst hp hq hpd hqd c0 c1 c2 c3 c4 c5 hf d0 d1 d2 d3 d4 hg e hbd hqo
  obtain ⟨of, hof⟩ : ∃ b, b = S.off := ⟨_, rfl⟩
  obtain ⟨dd, hdd⟩ : ∃ b, b = (S.did : Int) := ⟨_, rfl⟩
  rw [← hof] at H2 HKP HST
  rw [← hdd] at H3 HKP HST
  clear hof hdd
  go_enter Tryz.func13, Tryz.ntmps13
  go_wp2_with fail
  go_region_held3 (fun w' => w'.cell? ⟨q, 0, none⟩ = some (.slice a' S.L.length c') ∧ w'.cell? ⟨q, 1, none⟩ = some (.slice a2 S.W.length cc2) ∧ w'.cell? ⟨q, 3, none⟩ = some (.bool of) ∧ w'.cell? ⟨q, 4, none⟩ = some (.int .i64 dd))
    (first | exact HST.out | exact HKP.out _ hb4 | exact HKP.out _ (hb4.trans (hb5.mono hb4.size)))
    (first
    | (go_at_call 58; refine H1.out.mono ?_; rintro r w' ⟨rfl, rfl⟩)
    | (go_at_call 59; refine H2.out.mono ?_; rintro r w' ⟨rfl, rfl⟩)
    | (go_at_call 36; refine H3.out.mono ?_; rintro r w' ⟨rfl, rfl⟩)
    | (go_at_call 61; refine H4.out.mono ?_; rintro r w4 ⟨vw, rfl, how4, hb4⟩)
    | (go_at_call 60; refine (H5.out w4 vw how4 hb4).mono ?_; rintro r w5 ⟨rfl, hb5⟩))
  rename_i hHeld
  clear hHeld
  have hB5 : Below w.heap.size w w5 := by
    have hx := hb4.trans (hb5.mono hb4.size)
    exact ⟨hx.os, hx.tape, hx.output, hx.size, hx.block⟩
  have HB5 := Lib.hid hB5
  clear hB5 how4 hb4 hb5 H1 H2 H3 H4 H5 HKP HST
  go_wp2
  go_loopw [5] (fun i wr => ∃ k : Nat, k ≤ S.L.length ∧ i = .int .i64 k ∧ Below w.heap.size w wr) (fun i _ => S.L.length - (intOf i).toNat)
  case atStart => exact ⟨0, by omega, rfl, HB5.out⟩
  case round =>
    obtain ⟨k, hk, rfl, hB⟩ := hrel
    have hpw := HP.out.below hB
    have hqw := HQ.out.below hB
    obtain ⟨d0, d1, d2, d3, d4, hg⟩ := hqw.cells
    by_cases hlt : k < S.L.length
    · have i0 : (0 : Int) ≤ (k : Int) := by omega
      have i1 : (k : Int) < (S.L.length : Int) := by omega
      obtain ⟨g, rfl, hgo, _, _⟩ := hg' (by omega)
      have h1 := kept_any B p _ v2 S k wr hpw hL
      have hkk : S.kept (k : Int) = (lAt S.L k, 0) := by unfold DS.kept; rw [if_pos (has_of_lt hlt)]; rfl
      have h5 := owns_cell hqw.own1 hgo k _ (strs_at hlt)
      rw [hkk] at h1
      obtain ⟨s0, hs0⟩ : ∃ s, s = lAt S.L k := ⟨_, rfl⟩
      rw [← hs0] at h1 h5
      unfold two at h1
      have H1 := Lib.hid h1
      have HBr := Lib.hid hB
      clear h1 hkk hs0 hB hpw hqw d1 d2 d3 d4 hg
      go_wp2_with fail
      refine H1.out.mono ?_
      rintro e w1 ⟨rfl, hw1⟩; obtain rfl := hw1.symm; clear hw1
      go_wp2
      go_roundw
      case rel => exact ⟨k + 1, by omega, by go_num, HBr.out⟩
      case measure => simp [intOf]; omega
    · obtain rfl : k = S.L.length := by omega
      clear d1 d2 d3 d4 hg hpw hqw
      go_wp2
      go_ret
      exact ⟨rfl, hB⟩


end Go.Proofs.YtpkeikbiblfidaaGreatDoor
/-
  The fixed calls of layer 13.
-/
namespace Go.Proofs.YtpkeikbiblfidaaGreatDoor
open Go.RowKit
set_option linter.unusedVariables false
set_option linter.unusedSimpArgs false

theorem k13a : (fullP 1 2 0 1 (ds0 10)).1.2 = 0 ∧ (fullP 1 2 0 1 (ds0 10)).2.did = 2 ∧ sizeOf' 1 2 0 1 1 = 10 := by decide +kernel
theorem k13b : (fullP 1 2 0 1 (ds0 10)).1.1 = (leafB (secOf 0)).data.toList := by decide +kernel
theorem k13c : getP 1 2 0 1 (fullP 1 2 0 1 (ds0 10)).2 0 = ((leafB (secOf 0)).data.toList, 0) := by decide +kernel
theorem k13d : getP 1 2 0 1 (fullP 1 2 0 1 (ds0 10)).2 1 = ([], 3) := by decide +kernel

/-- A geometry's box, where the block is kept. -/
theorem geo_kept {w w' : World} {N F C U : Int} {b : Nat} (h : w.heap[b]? = some (.cells #[.int .i64 N, .int .i64 F, .int .i64 C, .int .i64 U] 23 (0, 0))) (e : w'.heap[b]? = w.heap[b]?) : w'.cell? ⟨b, 0, none⟩ = some (.int .i64 N) ∧ w'.cell? ⟨b, 1, none⟩ = some (.int .i64 F) ∧ w'.cell? ⟨b, 2, none⟩ = some (.int .i64 C) ∧ w'.cell? ⟨b, 3, none⟩ = some (.int .i64 U) := by
  have e := e.trans h
  refine ⟨?_, ?_, ?_, ?_⟩ <;> (rw [cell_of_blk e]; rfl)

set_option maxRecDepth 20000 in
set_option maxHeartbeats 8000000 in
theorem known13_any (w : World) (hK : Dg.Kon w) :
    Calls Tryz.prog 9 #[] w fun e w' => e = .returned (.bool true) ∧ Below w.heap.size w w' := by
  obtain ⟨W, hW⟩ : ∃ W, W = w.alloc (.cells #[.int .i64 1, .int .i64 2, .int .i64 0, .int .i64 1] 23) := ⟨_, rfl⟩
  have hb0 : Below w.heap.size w W := by rw [hW]; exact (Below.refl _ w).alloc (Nat.le_refl _) _
  have hs0 : W.heap.size = w.heap.size + 1 := by rw [hW]; exact World.size_alloc _ _
  have hg0 : W.heap[w.heap.size]? = some (.cells #[.int .i64 1, .int .i64 2, .int .i64 0, .int .i64 1] 23 (0, 0)) := by rw [hW]; exact heap_alloc_new w _
  have hsz := fun w => rsize_any 1 2 0 1 1 w
  rw [k13a.2.2] at hsz
  have hn := fun w => dnew_any 10 w (by omega) (by omega)
  rw [show ((10 : Nat) : Int) = 10 from rfl] at hn
  obtain ⟨c0, c1, c2, c3⟩ := geo_kept hg0 (w' := W) rfl
  have HSZ := Lib.hid hsz
  have HB0 := Lib.hid hb0
  have HS0 := Lib.hid hs0
  have HG0 := Lib.hid hg0
  have HN := Lib.hid hn
  have HW := Lib.hid hW
  have HK := Lib.hid hK
  unfold geo at HSZ
  clear hsz hb0 hs0 hg0 hn hW hK
  go_enter Tryz.func9, Tryz.ntmps9
  go_upto_region 2 with fail
  rw [← HW.out]
  go_wp2_with fail
  refine (HSZ.out _).mono ?_
  rintro e w1 ⟨rfl, hb1⟩
  have HB1 := Lib.hid hb1
  clear hb1 c0 c1 c2 c3 HSZ
  go_wp2_with fail
  refine (HN.out _).mono ?_
  rintro e w2 ⟨p, v1, rfl, hp2, hb2⟩
  have hB2 := HB1.out.trans (hb2.mono HB1.out.size)
  have hBw := HB0.out.trans (hB2.mono HB0.out.size)
  have hg2 := (hB2.block w.heap.size (by have := HS0.out; omega)).trans HG0.out
  obtain ⟨c0, c1, c2, c3⟩ := geo_kept hg2 (w' := w2) rfl
  have hfu := nfull_any w1.heap.size p v1 _ (ds0 10) 1 2 0 1 w2 hp2 hb2.size (HK.out.below hBw) 0 (ds0_ok 10 (by omega)) (by omega) (ds0_sz 10)
  rw [k13a.1, k13b, hstrV_data] at hfu
  obtain ⟨D3, hD3⟩ : ∃ D, D = (fullP 1 2 0 1 (ds0 10)).2 := ⟨_, rfl⟩
  have hk3 := k13a.2.1
  have hok3 := (rehP_all (ds0_ok 10 (by omega)) (ds0_sz 10) 1 2 0 1 (everyL 1)).1
  have hg3 := k13c
  have hg4 := k13d
  change ((fullP 1 2 0 1 (ds0 10)).2).ok _ at hok3
  rw [← hD3] at hfu hk3 hok3 hg3 hg4
  obtain ⟨Z, hZ⟩ : ∃ Z, Z = leafB (secOf 0) := ⟨_, rfl⟩
  rw [← hZ] at hfu hg3
  unfold geo at hfu
  have HFU := Lib.hid hfu
  have HP2 := Lib.hid hp2
  have HBW := Lib.hid hBw
  have HG2 := Lib.hid hg2
  have HX := Lib.hid (And.intro hk3 (And.intro hok3 (And.intro hg3 hg4)))
  have HZ := Lib.hid hZ
  have HBS := Lib.hid (show w.heap.size < w1.heap.size by have := HS0.out; have := HB1.out.size; omega)
  have HS2 := Lib.hid hb2.size
  clear hfu hD3 hk3 hok3 hg3 hg4 hZ hp2 hb2 hB2 hBw hg2 HN HB1
  go_wp2_with fail
  refine HFU.out.mono ?_
  rintro e w3 ⟨rfl, hpp⟩
  obtain ⟨x1, x2, hp3, hf3, _⟩ := hpp
  have hlo := HP2.out.foot_low
  have hg3 := (hf3.block w.heap.size (by have := HBS.out; have := HS2.out; omega) (fun hx => by have := (hlo _ hx).1; have := HBS.out; omega)).trans HG2.out
  obtain ⟨c0, c1, c2, c3⟩ := geo_kept hg3 (w' := w3) rfl
  have hB3 : Below w.heap.size w w3 := HBW.out.trans (hf3.below (fun k hk => by have := (hlo _ hk).1; have := HBS.out; omega) HBW.out.size)
  have hgt := nget_any w1.heap.size p x1 x2 D3 1 2 0 1 0 w3 hp3 _ HX.out.2.1 (by omega)
  rw [HX.out.2.2.1] at hgt
  dsimp only at hgt
  rw [hstrV_data] at hgt
  unfold geo at hgt
  have HGT := Lib.hid hgt
  have HP3 := Lib.hid hp3
  have HB3 := Lib.hid hB3
  have HG3 := Lib.hid hg3
  clear hgt hp3 hB3 hg3 hf3 hlo HFU
  go_wp2_with fail
  refine HGT.out.mono ?_
  rintro e w4 ⟨rfl, hb4⟩
  have hgt := nget_any w1.heap.size p x1 x2 D3 1 2 0 1 1 w4 (HP3.out.below hb4) _ HX.out.2.1 (by omega)
  rw [HX.out.2.2.2] at hgt
  dsimp only at hgt
  unfold geo at hgt
  have HGT2 := Lib.hid hgt
  have HG4 := Lib.hid ((hb4.block w.heap.size (lt_of_block HG3.out)).trans HG3.out)
  obtain ⟨c0, c1, c2, c3⟩ := geo_kept HG4.out (w' := w4) rfl
  have HP4 := Lib.hid (HP3.out.below hb4)
  have HB4 := Lib.hid (HB3.out.trans (hb4.mono HB3.out.size))
  clear hgt hb4 HGT
  go_wp2_with fail
  refine HGT2.out.mono ?_
  rintro e w5 ⟨rfl, hb5⟩
  have HP5 := Lib.hid (HP4.out.below hb5)
  have HB5 := Lib.hid (HB4.out.trans (hb5.mono HB4.out.size))
  clear hb5 c0 c1 c2 c3 HGT2
  have hze := fun w => rzero_any w
  have hle := fun w => Dg.rleaf_any (secOf 0) w (by rw [secOf_size]; omega)
  have hlz : Dg.strV (Dg.dig (0 :: (secOf 0).data.toList)) = Value.string Z := by rw [HZ.out]; rfl
  rw [hlz] at hle
  obtain ⟨V, hV⟩ : ∃ V, V = Value.string Z := ⟨_, rfl⟩
  have hgd := fun x y w => guard_txt .eql x y Z Z w
  have heq := fun w => eql_txt Z Z w
  obtain ⟨S0, hS0⟩ : ∃ s, s = secOf 0 := ⟨_, rfl⟩
  rw [← hS0] at hze hle
  simp only [← hV, decide_true] at hle hgd heq ⊢
  have HLE := Lib.hid hle
  have HZE := Lib.hid hze
  clear hle hze hV hlz hS0
  go_wp2_with fail
  refine (HZE.out _).mono ?_
  rintro e w6 ⟨rfl, hb6⟩
  have HP6 := Lib.hid (HP5.out.below hb6)
  have HB6 := Lib.hid (HB5.out.trans (hb6.mono HB5.out.size))
  clear hb6
  go_wp2_with fail
  refine (HLE.out _).mono ?_
  rintro e w7 ⟨rfl, hb7⟩
  have hp7 := HP6.out.below hb7
  have HB7 := Lib.hid (HB6.out.trans (hb7.mono HB6.out.size))
  obtain ⟨fu, _, _, _, _, _, _, d5, _⟩ := hp7.cells
  rw [HX.out.1] at d5
  have HDN := Lib.hid (done_any p _ w7 d5)
  clear hb7 hp7 d5
  go_wp2_with fail
  refine HDN.out.mono ?_
  rintro e w8 ⟨rfl, rfl⟩
  go_wp2
  go_ret
  exact ⟨rfl, HB7.out⟩
end Go.Proofs.YtpkeikbiblfidaaGreatDoor
/-
  The walk of NodesPlays.
-/
namespace Go.Proofs.YtpkeikbiblfidaaGreatDoor
open Go.RowKit
set_option linter.unusedVariables false
set_option linter.unusedSimpArgs false

/-- Whether a geometry is small. -/
def smallG (N C U : Int) : Bool := decide (N ≤ 20 ∧ C ≤ 20 ∧ U ≤ 60)
set_option maxRecDepth 20000 in
set_option maxHeartbeats 400000 in
theorem small13_any (N F C U : Int) (w : World) :
    Calls Tryz.prog 8 #[geo N F C U] w fun e w' => e = .returned (.bool (smallG N C U)) ∧ Below w.heap.size w w' := by
  have hb := fun o => (Below.refl w.heap.size w).alloc (Nat.le_refl _) o
  go_enter Tryz.func8, Tryz.ntmps8
  unfold geo
  go_wp2
  all_goals go_ret
  all_goals refine ⟨congrArg (fun b => Ending.returned (Value.bool b)) ?_, hb _⟩
  all_goals (unfold smallG; first | (rw [decide_eq_decide]; omega) | (symm; rw [decide_eq_false_iff_not]; omega) | (symm; rw [decide_eq_true_iff]; omega))

/-- The slice value reads as acts, all below B. -/
structure NActs (w : World) (a : Option Addr) (n B : Nat) (X : Nat → NK) : Prop where
  big : n ≤ 9223372036854775807
  at0 : 0 < n → ∃ b off, a = some ⟨b, off, none⟩ ∧ b < B ∧ ∀ i, i < n → w.cell? ⟨b, off + i * 5, none⟩ = some (.int .i64 (X i).kind) ∧ w.cell? ⟨b, off + i * 5 + 1, none⟩ = some (.int .i64 (X i).at') ∧ w.cell? ⟨b, off + i * 5 + 2, none⟩ = some (.string (X i).data) ∧ w.cell? ⟨b, off + i * 5 + 3, none⟩ = some (.slice (X i).la (X i).ln (X i).lc) ∧ w.cell? ⟨b, off + i * 5 + 4, none⟩ = some (.slice (X i).ka (X i).kn (X i).kc)
  keep : ∀ i, i < n → Bl w (X i).ka (X i).kn (X i).K
  klow : ∀ i, i < n → ∀ b off, (X i).ka = some ⟨b, off, none⟩ → 0 < (X i).kn → b < B
  leaf : ∀ i, i < n → (X i).ln ≤ 60 → Ri w (X i).la (X i).ln (X i).lc (X i).Lv
  lcap : ∀ i, i < n → (X i).ln ≤ (X i).lc ∧ (X i).lc ≤ maxLen
  llow : ∀ i, i < n → ∀ b off, (X i).la = some ⟨b, off, none⟩ → 0 < (X i).ln → b < B
  high : ∀ i, i < n → (X i).at' ≤ 9223372036854775807

theorem NActs.below {w w' : World} {a n B X} (h : NActs w a n B X) (hb : Below B w w') : NActs w' a n B X where
  big := h.big
  at0 := fun h0 => by
    obtain ⟨b, off, e, hl, hc⟩ := h.at0 h0
    refine ⟨b, off, e, hl, fun i hi => ?_⟩
    obtain ⟨d0, d1, d2, d3, d4⟩ := hc i hi
    exact ⟨(hb.cell (by exact hl)).trans d0, (hb.cell (by exact hl)).trans d1, (hb.cell (by exact hl)).trans d2, (hb.cell (by exact hl)).trans d3, (hb.cell (by exact hl)).trans d4⟩
  keep := fun i hi => (h.keep i hi).kept hb.size fun b off e h0 => hb.block b (h.klow i hi b off e h0)
  klow := h.klow
  lcap := h.lcap
  leaf := fun i hi h60 => ri_kept0 (h.leaf i hi h60) hb.size fun b off e h0 _ => hb.block b (h.llow i hi b off e h0)
  llow := h.llow
  high := h.high

set_option maxRecDepth 20000 in
set_option maxHeartbeats 8000000 in
theorem nplays_walk (N F C U : Int) (a : Option Addr) (l c : Nat) (X : Nat → NK) (w : World) (hA : NActs w a l w.heap.size X) (hlc : l ≤ c) (hcm : c ≤ maxLen) (hKn : Dg.Kon w) :
    Calls Tryz.prog 3 #[geo N F C U, .slice a l c] w fun e w' => e = .returned (.bool true) ∧ Below w.heap.size w w' := by
  have hcx : (c : Int) ≤ 9223372036854775807 := by unfold maxLen at hcm; omega
  have hlx : (l : Int) ≤ (c : Int) := by omega
  have HKN := Lib.hid (fun w1 (hb : Below w.heap.size w w1) => (known13_any w1 (hKn.below hb)).mono (R' := fun e w' => e = .returned (.bool true) ∧ Below w.heap.size w w') (fun e w' h => ⟨h.1, hb.trans (h.2.mono hb.size)⟩))
  obtain ⟨W, hW⟩ : ∃ W, W = w.alloc (.cells #[.int .i64 N, .int .i64 F, .int .i64 C, .int .i64 U] 23) := ⟨_, rfl⟩
  have hs0 : W.heap.size = w.heap.size + 1 := by rw [hW]; exact World.size_alloc _ _
  have hb0 : Below w.heap.size w W := by rw [hW]; exact (Below.refl _ w).alloc (Nat.le_refl _) _
  have hg0 : W.heap[w.heap.size]? = some (.cells #[.int .i64 N, .int .i64 F, .int .i64 C, .int .i64 U] 23 (0, 0)) := by rw [hW]; exact heap_alloc_new w _
  have hgc : ∀ w', Below W.heap.size W w' → w'.cell? ⟨w.heap.size, 0, none⟩ = some (.int .i64 N) ∧ w'.cell? ⟨w.heap.size, 1, none⟩ = some (.int .i64 F) ∧ w'.cell? ⟨w.heap.size, 2, none⟩ = some (.int .i64 C) ∧ w'.cell? ⟨w.heap.size, 3, none⟩ = some (.int .i64 U) := fun w' hb => geo_kept hg0 (hb.block _ (by omega))
  have hsm := fun w => small13_any N F C U w
  obtain ⟨sm, hsmv⟩ : ∃ b, b = smallG N C U := ⟨_, rfl⟩
  simp only [← hsmv] at hsm
  obtain ⟨c0, c1, c2, c3⟩ := hgc W (Below.refl _ _)
  have HA := Lib.hid (hA.below hb0)
  have HGC := Lib.hid hgc
  have HB0 := Lib.hid hb0
  have HW := Lib.hid hW
  have HS0 := Lib.hid hs0
  have HK := Lib.hid hKn
  unfold geo at hsm ⊢
  have HSM := Lib.hid hsm
  clear hA hgc hb0 hW hs0 hg0 hsm hsmv hKn
  cases sm with
  | false =>
    go_enter Tryz.func3, Tryz.ntmps3
    go_upto_region 1 with fail
    rw [← HW.out]
    go_wp2_with fail
    refine (HSM.out _).mono ?_
    rintro e w1 ⟨rfl, hb1⟩
    have HB1 := Lib.hid (HB0.out.trans (hb1.mono HB0.out.size))
    clear hb1
    go_wp2_with fail
    refine (HKN.out _ HB1.out).mono ?_
    rintro e w2 ⟨rfl, hb⟩
    go_wp2
    go_ret
    exact ⟨rfl, hb⟩
  | true =>
    by_cases h3 : (30 : Int) < (l : Int)
    · go_enter Tryz.func3, Tryz.ntmps3
      go_upto_region 1 with fail
      rw [← HW.out]
      go_wp2_with fail
      refine (HSM.out _).mono ?_
      rintro e w1 ⟨rfl, hb1⟩
      have HB1 := Lib.hid (HB0.out.trans (hb1.mono HB0.out.size))
      clear hb1
      go_wp2_with fail
      refine (HKN.out _ HB1.out).mono ?_
      rintro e w2 ⟨rfl, hb⟩
      go_wp2
      go_ret
      exact ⟨rfl, hb⟩
    have hl30 : l ≤ 30 := by omega
    have hn1 := fun w => dnew_any 80 w (by omega) (by omega)
    have hn2 := fun w => rnew_any 80 w (by omega) (by omega)
    rw [show ((80 : Nat) : Int) = 80 from rfl] at hn1 hn2
    have HN1 := Lib.hid hn1
    have HN2 := Lib.hid hn2
    clear hn1 hn2
    go_enter Tryz.func3, Tryz.ntmps3
    go_upto_region 1 with fail
    rw [← HW.out]
    go_wp2_with fail
    refine (HSM.out _).mono ?_
    rintro e w0 ⟨rfl, hbs⟩
    have HBS := Lib.hid hbs
    clear hbs c0 c1 c2 c3
    go_wp2_with fail
    refine (HN1.out _).mono ?_
    rintro e w1 ⟨p, v1, rfl, hp, hb1⟩
    have HP := Lib.hid hp
    have HB1 := Lib.hid hb1
    clear hp hb1
    go_wp2_with fail
    refine (HN2.out _).mono ?_
    rintro e w2 ⟨q, u1, rfl, hq, hb2⟩
    obtain ⟨A0, hT0, _⟩ := two_new HP.out hq hb2 HB1.out.size
    have HT0 := Lib.hid hT0
    have HB2 := Lib.hid (HB1.out.trans (hb2.mono HB1.out.size))
    clear hq hb2 hT0
    go_wp2
    go_loopw [9] (fun i wr => ∃ (k : Nat) (A : Nat → Prop) (S : DS), k ≤ l ∧ i = .int .i64 k ∧ Two wr w0.heap.size p q A S ∧ S.ok (256 * k) ∧ S.sz ∧ S.L.length = 80 ∧ Below w0.heap.size w0 wr) (fun i _ => l - (intOf i).toNat)
    case atStart => exact ⟨0, A0, ds0 80, by omega, rfl, HT0.out, ds0_ok 80 (by omega), ds0_sz 80, by simp [ds0], HB2.out⟩
    case round =>
      obtain ⟨k, A, S, hk, rfl, hT, hok, hsz, hlm, hB⟩ := hrel
      have hwW : Below W.heap.size W wr := HBS.out.trans (hB.mono HBS.out.size)
      have hwk : ∀ w', Below w0.heap.size w0 w' → Below w.heap.size w w' := fun w' hb => HB0.out.trans ((HBS.out.trans (hb.mono HBS.out.size)).mono HB0.out.size)
      by_cases hlt : k < l
      · have i0 : (0 : Int) ≤ (k : Int) := by omega
        have i1 : (k : Int) < (l : Int) := by omega
        have wr1 : IntKind.i64.wrap ((k : Int) + 1) = (k : Int) + 1 := IntWalk.i64_in _ (by omega)
        have hbm := hwW.mono HB0.out.size
        have hAw := HA.out.below hbm
        obtain ⟨b, off, rfl, hbl, hcl⟩ := hAw.at0 (by omega)
        obtain ⟨d0, d1, d2, d3, d4⟩ := hcl k hlt
        obtain ⟨c0, c1, c2, c3⟩ := HGC.out wr hwW
        have hd0 : Below wr.heap.size wr wr.drew := (Below.refl _ _).drew
        have hdo := fun (hdl : (X k).data.size ≤ 9223372036854775807) (h60 : (X k).ln ≤ 60) => ndo_any w0.heap.size p q A S N F C U (X k) wr.drew (hT.below hd0) hB.size (HK.out.below (hwk _ hB.drew)) (256 * k) hok (by omega) hsz hdl ((hAw.leaf k hlt h60).later hd0) (fun b' off' e h0 hf => by have h5 := hAw.llow k hlt b' off' e h0; have h6 := (hT.low _ hf).1; have h7 := HS0.out; have h8 := HBS.out.size; omega) ((hAw.keep k hlt).below hd0) (fun b' off' e h0 hf => by have h5 := hAw.klow k hlt b' off' e h0; have h6 := (hT.low _ hf).1; have h7 := HS0.out; have h8 := HBS.out.size; omega)
        obtain ⟨hok2, hsz2, hlm2⟩ := nact_all hok hsz N F C U (X k) (hAw.high k hlt)
        rw [hlm] at hlm2
        have hkp : ∀ w', Below w0.heap.size w0 w' → (w'.cell? ⟨w.heap.size, 0, none⟩ = some (.int .i64 N) ∧ w'.cell? ⟨w.heap.size, 1, none⟩ = some (.int .i64 F) ∧ w'.cell? ⟨w.heap.size, 2, none⟩ = some (.int .i64 C) ∧ w'.cell? ⟨w.heap.size, 3, none⟩ = some (.int .i64 U)) ∧ w'.cell? ⟨b, off + k * 5, none⟩ = some (.int .i64 (X k).kind) ∧ w'.cell? ⟨b, off + k * 5 + 1, none⟩ = some (.int .i64 (X k).at') ∧ w'.cell? ⟨b, off + k * 5 + 2, none⟩ = some (.string (X k).data) ∧ w'.cell? ⟨b, off + k * 5 + 3, none⟩ = some (.slice (X k).la (X k).ln (X k).lc) ∧ w'.cell? ⟨b, off + k * 5 + 4, none⟩ = some (.slice (X k).ka (X k).kn (X k).kc) := fun w' hb => by
          have hb' : Below W.heap.size W w' := HBS.out.trans (hb.mono HBS.out.size)
          obtain ⟨b2, off2, e2, hbl2, hcl2⟩ := (HA.out.below (hb'.mono HB0.out.size)).at0 (by omega)
          simp only [Option.some.injEq, Addr.mk.injEq] at e2
          obtain ⟨rfl, rfl, _⟩ := e2
          exact ⟨HGC.out w' hb', hcl2 k hlt⟩
        have HTT := Lib.hid (hT.below hd0)
        have HBB := Lib.hid hB
        have HOK := Lib.hid (And.intro (show (S.nact N F C U (X k)).ok (256 * (k + 1)) from hok2.mono (by omega)) (And.intro hsz2 hlm2))
        have HWK := Lib.hid hwk
        unfold NK.val geo at hdo
        have HDO := Lib.hid hdo
        have HKP := Lib.hid hkp
        have hcl3 : ((X k).lc : Int) ≤ 9223372036854775807 := by have := (hAw.lcap k hlt).2; unfold maxLen at this; omega
        have hcl4 : ((X k).ln : Int) ≤ ((X k).lc : Int) := by have := (hAw.lcap k hlt).1; omega
        clear hcl hAw hT hok hB hok2 hdo hlm hsz hsz2 hlm2 hbm hwk hkp hd0 hwW
        generalize S.nact N F C U (X k) = S' at HDO HOK
        generalize (X k).kind = x0 at *
        generalize (X k).at' = x1 at *
        generalize (X k).data = x5 at *
        generalize (X k).la = y6 at *
        generalize (X k).ln = y7 at *
        generalize (X k).lc = y8 at *
        generalize (X k).ka = x6 at *
        generalize (X k).kn = x7 at *
        generalize (X k).kc = x8 at *
        by_cases h200 : (200 : Int) < (x5.size : Int)
        · go_wp2_with fail
          refine (HKN.out _ (HWK.out _ HBB.out)).mono ?_
          rintro e w3 ⟨rfl, hb3⟩
          go_wp2
          go_ret
          exact ⟨rfl, hb3⟩
        by_cases h60 : (60 : Int) < (y7 : Int)
        · go_wp2_with fail
          refine (HKN.out _ (HWK.out _ HBB.out)).mono ?_
          rintro e w3 ⟨rfl, hb3⟩
          go_wp2
          go_ret
          exact ⟨rfl, hb3⟩
        have HDO2 := Lib.hid (HDO.out (by omega) (by omega))
        go_wp2_with fail
        go_region_held3 (fun w' : World => (w'.cell? ⟨w.heap.size, 0, none⟩ = some (.int .i64 N) ∧ w'.cell? ⟨w.heap.size, 1, none⟩ = some (.int .i64 F) ∧ w'.cell? ⟨w.heap.size, 2, none⟩ = some (.int .i64 C) ∧ w'.cell? ⟨w.heap.size, 3, none⟩ = some (.int .i64 U)) ∧ w'.cell? ⟨b, off + k * 5, none⟩ = some (.int .i64 x0) ∧ w'.cell? ⟨b, off + k * 5 + 1, none⟩ = some (.int .i64 x1) ∧ w'.cell? ⟨b, off + k * 5 + 2, none⟩ = some (.string x5) ∧ w'.cell? ⟨b, off + k * 5 + 3, none⟩ = some (.slice y6 y7 y8) ∧ w'.cell? ⟨b, off + k * 5 + 4, none⟩ = some (.slice x6 x7 x8)) (first | exact HKP.out _ HBB.out.drew | exact HKP.out _ hb3)
          (first | (go_at_call 12; refine HDO2.out.mono ?_; rintro e w3 ⟨rfl, htp⟩; have hb3 := TP.below htp HTT.out HBB.out.drew))
        all_goals (
          rename_i hHeld
          clear hHeld
          obtain ⟨A', hT', _, _⟩ := htp
          have HT' := Lib.hid hT'
          have HB3 := Lib.hid hb3
          clear hT' hb3
          go_wp2
          go_roundw
          case rel => exact ⟨k + 1, A', S', by omega, by first | rfl | go_num, HT'.out, HOK.out.1, HOK.out.2.1, HOK.out.2.2, HB3.out⟩
          case measure => simp [intOf]; omega)
      · have i1 : ¬ (k : Int) < (l : Int) := by omega
        have hal := alike13_any w0.heap.size p q A S wr hT (by have := hok.few; have := hok.did; omega) (by omega)
        have HAL := Lib.hid hal
        have HB' := Lib.hid hB
        have HWK := Lib.hid hwk
        clear hT hB hok hlm hsz hwk hal hwW
        go_wp2_with fail
        refine HAL.out.mono ?_
        rintro e w3 ⟨rfl, hb3⟩
        have HB3 := Lib.hid (HWK.out _ (HB'.out.trans (hb3.mono HB'.out.size)))
        clear hb3
        go_wp2_with fail
        refine (HKN.out _ HB3.out).mono ?_
        rintro e w4 ⟨rfl, hb4⟩
        go_wp2
        go_ret
        exact ⟨rfl, hb4⟩
end Go.Proofs.YtpkeikbiblfidaaGreatDoor
/-
  A list of acts of NodesPlays that came in, opened.
-/
namespace Go.Proofs.YtpkeikbiblfidaaGreatDoor
open Go.ChangeShapes Go.WideShapes Go.ChangeAt Go.RowKit
set_option linter.unusedVariables false
set_option linter.unusedSimpArgs false

instance : Inhabited NK := ⟨⟨0, 0, ⟨#[]⟩, none, 0, 0, [], none, 0, 0, []⟩⟩
theorem nbl_of_bools {W : World} {a : Addr} {len cap : Nat} {F : Nat → Bool} (hl : len ≤ cap) (hm : cap ≤ maxLen) (hc : ∀ i, i < cap → W.cell? (a.add i) = some (.bool (F i))) :
    Bl W (some a) len ((List.range len).map F) ∧ ∀ b off, some a = some (⟨b, off, none⟩ : Addr) → 0 < len → b < W.heap.size := by
  have hz : 0 < len → a.spot = none := fun h0 => by
    have := hc 0 (by omega)
    simpa [Addr.add] using World.cell?_spot this
  have hlt : 0 < len → a.block < W.heap.size := fun h0 => by
    have := World.block_lt_of_cell? W _ (hc 0 (by omega))
    rwa [add_block] at this
  refine ⟨⟨by simp, by unfold maxLen at hm; omega, fun h0 => ?_⟩, fun b off e h0 => by cases e; exact hlt h0⟩
  obtain ⟨b, off, sp⟩ := a
  obtain rfl : sp = none := hz h0
  refine ⟨b, off, rfl, hlt h0, fun i hi => ?_⟩
  have := hc i (by omega)
  rw [Addr.add_none] at this
  rw [this]
  simp [hi]

/-- A list of ints that came in, where it is short. -/
theorem nri_of_ints {w : World} {x : Addr} {l c : Nat} {zs : List Int} (hl : l ≤ c) (hm : c ≤ maxLen) (h60 : l ≤ 60) (hz : zs.length = c)
    (hcell : ∀ i, i < zs.length → w.cell? (x.add i) = some (.int .i64 (zs.getD i 0))) : Ri w (some x) l c (zs.take l) := by
  refine ⟨by simp; omega, hl, by omega, hm, fun h0 => ?_, fun e => by cases e⟩
  obtain ⟨b, off, spot⟩ := x
  have hc := hcell 0 (by omega)
  have hspot : spot = none := by simpa [Addr.add] using World.cell?_spot hc
  subst hspot
  have hb := World.block_lt_of_cell? w _ hc
  rw [Addr.add_none] at hb
  refine ⟨b, off, rfl, hb, fun i hi => ?_⟩
  have h1 := hcell i (by omega)
  rw [Addr.add_none] at h1
  rw [h1]
  have hi2 : i < zs.length := by omega
  have e1 : zs.getD i 0 = zs[i] := by simp [List.getD, List.getElem?_eq_getElem hi2]
  have e2 : (zs.take l)[i]?.getD 0 = zs[i] := by
    rw [List.getElem?_take_of_lt hi, List.getElem?_eq_getElem hi2]
    rfl
  rw [e1, e2]
theorem nri_low {w : World} {x : Addr} {l c : Nat} {zs : List Int} (hl : l ≤ c) (hz : zs.length = c) (hcell : ∀ i, i < zs.length → w.cell? (x.add i) = some (.int .i64 (zs.getD i 0))) : ∀ b off, some x = some (⟨b, off, none⟩ : Addr) → 0 < l → b < w.heap.size := fun b off e h0 => by
  cases e
  have := World.block_lt_of_cell? w _ (hcell 0 (by omega))
  rwa [add_block] at this

/-- The list of acts as it came in. -/
def Openeda13 (W : World) (a : Option Addr) (len cap : Nat) : Prop := ∃ X, NActs W a len W.heap.size X ∧ len ≤ cap ∧ cap ≤ maxLen

set_option maxHeartbeats 1000000 in
set_option maxRecDepth 100000 in
theorem acts_open13 {H : Type} {enc : TypeId × Value → H} {W : World} {fuel : Nat} {cs : List Value} {x : DataW H × List MemPlace} (hf : DataW.trod enc Tryz.prog W 0 (fun _ => true) true fuel 24 cs = some x) {a : Option Addr} {len cap : Nat} (hcs : cs = [.slice a len cap]) : Openeda13 W a len cap := by
  have he := Tryz.underlying37
  have ce : Tryz.prog.cellsOf 37 = 5 := by kernel_rfl
  have c3 : Tryz.prog.cellsOf 3 = 1 := by kernel_rfl
  have c9 : Tryz.prog.cellsOf 9 = 1 := by kernel_rfl
  have ci : Tryz.prog.cellsOf 34 = 1 := by kernel_rfl
  have cb : Tryz.prog.cellsOf 35 = 1 := by kernel_rfl
  rcases Go.Deep.open_slice Tryz.underlying24 hf with ⟨hn, _⟩ | ⟨ad, l, c, m, n, D, Pl, hn, _, hl, hm, hmm, _, hx⟩
  · rw [hcs] at hn
    simp at hn
    obtain ⟨rfl, rfl, rfl⟩ := hn
    exact ⟨fun _ => ⟨0, 0, ⟨#[]⟩, none, 0, 0, [], none, 0, 0, []⟩, ⟨by omega, fun h => by omega, fun i h => by omega, fun i h => by omega, fun i h => by omega, fun i h => by omega, fun i h => by omega, fun i h => by omega⟩, by omega, by unfold maxLen; omega⟩
  · rw [hcs] at hn
    simp at hn
    obtain ⟨rfl, rfl, rfl⟩ := hn
    simp only [if_true] at hmm
    have hmm' := hmm.symm
    subst hmm'
    rw [ce] at hx
    have each : ∀ i, i < cap → ∃ y : NK, (W.cell? (ad.add (i * 5)) = some (.int .i64 y.kind) ∧ W.cell? (ad.add (i * 5 + 1)) = some (.int .i64 y.at') ∧ W.cell? (ad.add (i * 5 + 2)) = some (.string y.data) ∧ W.cell? (ad.add (i * 5 + 3)) = some (.slice y.la y.ln y.lc) ∧ W.cell? (ad.add (i * 5 + 4)) = some (.slice y.ka y.kn y.kc)) ∧ Bl W y.ka y.kn y.K ∧ (∀ b off, y.ka = some ⟨b, off, none⟩ → 0 < y.kn → b < W.heap.size) ∧ (y.ln ≤ 60 → Ri W y.la y.ln y.lc y.Lv) ∧ (∀ b off, y.la = some ⟨b, off, none⟩ → 0 < y.ln → b < W.heap.size) ∧ (y.ln ≤ y.lc ∧ y.lc ≤ maxLen) ∧ y.at' ≤ 9223372036854775807 := by
      intro i hi
      obtain ⟨cs', h1, h2⟩ := hx i hi
      obtain ⟨_, hlen, hcell⟩ := World.cells?_some h1
      obtain ⟨xs, k, _, _, _, hxl, hf⟩ := DataW.trod_struct he h2
      match xs, hxl, cs', hlen with
      | [y0, y1, y2, y3, y4], _, [u0, u1, u2, u3, u4], _ =>
        have g0 := hf 0 _ rfl
        have g1 := hf 1 _ rfl
        have g2 := hf 2 _ rfl
        have g3 := hf 3 _ rfl
        have g4 := hf 4 _ rfl
        simp [c3, c9, ci, cb] at g0 g1 g2 g3 g4
        have e0 := hcell 0 (by omega)
        have e1 := hcell 1 (by omega)
        have e2 := hcell 2 (by omega)
        have e3 := hcell 3 (by omega)
        have e4 := hcell 4 (by omega)
        rw [Go.Deep.add_add] at e0 e1 e2 e3 e4
        obtain ⟨n0, q0, _, w0⟩ := DataW.trod_int Tryz.underlying3 g0
        obtain ⟨n1, q1, _, w1⟩ := DataW.trod_int Tryz.underlying3 g1
        obtain ⟨s2, q2, _⟩ := DataW.trod_string Tryz.underlying9 g2
        simp at q0 q1 q2
        have hw1 : n1 ≤ 9223372036854775807 := by
          simp [Lit.wf, IntKind.max, IntKind.min, IntKind.signed, IntKind.bits] at w1
          omega
        obtain ⟨la, ln, lc, Lv, q3, hL1, hL2, hL3⟩ : ∃ la ln lc Lv, u3 = .slice la ln lc ∧ (ln ≤ 60 → Ri W la ln lc Lv) ∧ (∀ b off, la = some ⟨b, off, none⟩ → 0 < ln → b < W.heap.size) ∧ (ln ≤ lc ∧ lc ≤ maxLen) := by
          rcases open_ints Tryz.underlying34 Tryz.underlying3 (by kernel_rfl) g3 with ⟨q3, _⟩ | ⟨a3, l3, c3', zs, q3, _, hl3, hm3, hz3, _, hc3, _⟩
          · simp at q3
            exact ⟨none, 0, 0, [], q3, fun _ => ri_nil W, fun b off e h0 => by omega, by omega, by unfold maxLen; omega⟩
          · simp at q3
            simp at hz3
            exact ⟨some a3, l3, c3', zs.take l3, q3, fun h60 => nri_of_ints hl3 hm3 h60 hz3 hc3, nri_low hl3 hz3 hc3, hl3, hm3⟩
        rcases Go.Deep.open_bools Tryz.underlying35 Tryz.underlying4 (by kernel_rfl) g4 with ⟨q4, _⟩ | ⟨a4, l4, c4', F, q4, _, hl4, hm4, _, hc4⟩
        · simp at q4
          exact ⟨⟨n0, n1, s2, la, ln, lc, Lv, none, 0, 0, []⟩, ⟨by simpa [q0] using e0, by simpa [q1] using e1, by simpa [q2] using e2, by simpa [q3] using e3, by simpa [q4] using e4⟩, ⟨rfl, Nat.zero_le _, fun h => by simp at h⟩, fun b off h => by simp at h, hL1, hL2, hL3, hw1⟩
        · simp at q4
          obtain ⟨hb1, hb2⟩ := nbl_of_bools hl4 hm4 hc4
          exact ⟨⟨n0, n1, s2, la, ln, lc, Lv, some a4, l4, c4', (List.range l4).map F⟩, ⟨by simpa [q0] using e0, by simpa [q1] using e1, by simpa [q2] using e2, by simpa [q3] using e3, by simpa [q4] using e4⟩, hb1, hb2, hL1, hL2, hL3, hw1⟩
    obtain ⟨X, hX⟩ := Go.Deep.choose_lt each
    refine ⟨X, ⟨by unfold maxLen at hm; omega, fun h0 => ?_, fun i hi => (hX i (by omega)).2.1, fun i hi => (hX i (by omega)).2.2.1, fun i hi => (hX i (by omega)).2.2.2.1, fun i hi => (hX i (by omega)).2.2.2.2.2.1, fun i hi => (hX i (by omega)).2.2.2.2.1, fun i hi => (hX i (by omega)).2.2.2.2.2.2⟩, hl, hm⟩
    obtain ⟨b, off, sp⟩ := ad
    obtain rfl : sp = none := by
      have := (hX 0 (by omega)).1.1
      simpa [Addr.add] using World.cell?_spot this
    have hb := World.block_lt_of_cell? W _ (hX 0 (by omega)).1.1
    rw [Addr.add_none] at hb
    refine ⟨b, off, rfl, hb, fun i hi => ?_⟩
    obtain ⟨⟨h0, h1, h2, h3, h4⟩, _⟩ := hX i (by omega)
    simp only [Addr.add_none, ← Nat.add_assoc] at h0 h1 h2 h3 h4
    exact ⟨h0, h1, h2, h3, h4⟩

theorem nodesplays_any (N F C U : Int) (a : Option Addr) (l c : Nat) (X : Nat → NK) (w : World) (h : NActs w a l w.heap.size X ∧ l ≤ c ∧ c ≤ maxLen) (hK : Dg.Kon w) :
    Calls Tryz.prog 3 #[geo N F C U, .slice a l c] w fun e w' => e = .returned (.bool true) ∧ Below w.heap.size w w' := nplays_walk N F C U a l c X w h.1 h.2.1 h.2.2 hK

end Go.Proofs.YtpkeikbiblfidaaGreatDoor

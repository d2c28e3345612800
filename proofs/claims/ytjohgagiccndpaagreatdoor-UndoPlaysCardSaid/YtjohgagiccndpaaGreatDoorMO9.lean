/-
  Texts put together: O9, PX.
-/
import Derived.Test.YtjohgagiccndpaaGreatDoorMO8
import Derived.Test.YtjohgagiccndpaaGreatDoorMPJ
import Derived.ProofKit
import Derived.OpenShut
import Derived.ChangeOld
import Derived.Below
import Derived.SizedLaws
import Derived.Deep.SlicePairs
import Derived.Deep.Grids
/-
  The walk of UndoPlays.
-/
namespace Go.Proofs.YtjohgagiccndpaaGreatDoor
open Go.RowKit
set_option linter.unusedVariables false
set_option linter.unusedSimpArgs false

/-- The slice value reads as acts, all below B. -/
structure UActs (w : World) (a : Option Addr) (n B : Nat) (X : Nat → UK) : Prop where
  big : n ≤ 9223372036854775807
  at0 : 0 < n → ∃ b off, a = some ⟨b, off, none⟩ ∧ b < B ∧ ∀ i, i < n → w.cell? ⟨b, off + i * 7, none⟩ = some (.int .i64 (X i).kind) ∧ w.cell? ⟨b, off + i * 7 + 1, none⟩ = some (.int .i64 (X i).k) ∧ w.cell? ⟨b, off + i * 7 + 2, none⟩ = some (.int .u64 ((X i).tag : Int)) ∧ w.cell? ⟨b, off + i * 7 + 3, none⟩ = some (.int .u64 ((X i).epoch : Int)) ∧ w.cell? ⟨b, off + i * 7 + 4, none⟩ = some (.int .i64 (X i).place) ∧ w.cell? ⟨b, off + i * 7 + 5, none⟩ = some (.string (X i).data) ∧ w.cell? ⟨b, off + i * 7 + 6, none⟩ = some (.slice (X i).ka (X i).kn (X i).kc)
  keep : ∀ i, i < n → Bl w (X i).ka (X i).kn (X i).K
  klow : ∀ i, i < n → ∀ b off, (X i).ka = some ⟨b, off, none⟩ → 0 < (X i).kn → b < B
  high : ∀ i, i < n → (X i).k ≤ 9223372036854775807 ∧ (X i).tag < 18446744073709551616 ∧ (X i).epoch < 18446744073709551616

theorem UActs.below {w w' : World} {a n B X} (h : UActs w a n B X) (hb : Below B w w') : UActs w' a n B X where
  big := h.big
  at0 := fun h0 => by
    obtain ⟨b, off, e, hl, hc⟩ := h.at0 h0
    refine ⟨b, off, e, hl, fun i hi => ?_⟩
    obtain ⟨d0, d1, d2, d3, d4, d5, d6⟩ := hc i hi
    exact ⟨(hb.cell (by exact hl)).trans d0, (hb.cell (by exact hl)).trans d1, (hb.cell (by exact hl)).trans d2, (hb.cell (by exact hl)).trans d3, (hb.cell (by exact hl)).trans d4, (hb.cell (by exact hl)).trans d5, (hb.cell (by exact hl)).trans d6⟩
  keep := fun i hi => (h.keep i hi).kept hb.size fun b off e h0 => hb.block b (h.klow i hi b off e h0)
  klow := h.klow
  high := h.high

set_option maxRecDepth 20000 in
set_option maxHeartbeats 8000000 in
theorem uplays_walk (N F C U n : Int) (a : Option Addr) (l c : Nat) (X : Nat → UK) (w : World) (hA : UActs w a l w.heap.size X) (hlc : l ≤ c) (hcm : c ≤ maxLen) :
    Calls Tryz.prog 3 #[geo N F C U, .int .i64 n, .slice a l c] w fun e w' => e = .returned (.bool true) ∧ Below w.heap.size w w' := by
  have hcx : (c : Int) ≤ 9223372036854775807 := by unfold maxLen at hcm; omega
  have hlx : (l : Int) ≤ (c : Int) := by omega
  have HKN := Lib.hid (fun w1 (hb : Below w.heap.size w w1) => (known15_any w1).mono (R' := fun e w' => e = .returned (.bool true) ∧ Below w.heap.size w w') (fun e w' h => ⟨h.1, hb.trans (h.2.mono hb.size)⟩))
  obtain ⟨W, hW⟩ : ∃ W, W = w.alloc (.cells #[.int .i64 N, .int .i64 F, .int .i64 C, .int .i64 U] 23) := ⟨_, rfl⟩
  have hs0 : W.heap.size = w.heap.size + 1 := by rw [hW]; exact World.size_alloc _ _
  have hb0 : Below w.heap.size w W := by rw [hW]; exact (Below.refl _ w).alloc (Nat.le_refl _) _
  have hgc : ∀ w', Below W.heap.size W w' → w'.cell? ⟨w.heap.size, 0, none⟩ = some (.int .i64 N) ∧ w'.cell? ⟨w.heap.size, 1, none⟩ = some (.int .i64 F) ∧ w'.cell? ⟨w.heap.size, 2, none⟩ = some (.int .i64 C) ∧ w'.cell? ⟨w.heap.size, 3, none⟩ = some (.int .i64 U) := fun w' hb => by
    have := gb_cells w N F C U w' (by unfold gbox; rw [← hW, ← hs0]; exact hb)
    exact this
  have HA := Lib.hid (hA.below hb0)
  have HGC := Lib.hid hgc
  have HB0 := Lib.hid hb0
  have HW := Lib.hid hW
  have HS0 := Lib.hid hs0
  clear hA hgc hb0 hW hs0
  unfold geo
  by_cases h1 : n < 1
  · go_enter Tryz.func3, Tryz.ntmps3
    go_wp2_with fail
    rw [← HW.out]
    refine (HKN.out _ HB0.out).mono ?_
    rintro e w1 ⟨rfl, hb⟩
    go_wp2
    go_ret
    exact ⟨rfl, hb⟩
  by_cases h2 : 120 < n
  · go_enter Tryz.func3, Tryz.ntmps3
    go_wp2_with fail
    rw [← HW.out]
    refine (HKN.out _ HB0.out).mono ?_
    rintro e w1 ⟨rfl, hb⟩
    go_wp2
    go_ret
    exact ⟨rfl, hb⟩
  by_cases h3 : (40 : Int) < (l : Int)
  · go_enter Tryz.func3, Tryz.ntmps3
    go_wp2_with fail
    rw [← HW.out]
    refine (HKN.out _ HB0.out).mono ?_
    rintro e w1 ⟨rfl, hb⟩
    go_wp2
    go_ret
    exact ⟨rfl, hb⟩
  obtain ⟨m, rfl⟩ : ∃ m : Nat, n = (m : Int) := ⟨n.toNat, by omega⟩
  have hm1 : 1 ≤ m := by omega
  have hm2 : m ≤ 120 := by omega
  have hl40 : l ≤ 40 := by omega
  have HN1 := Lib.hid (dnew_any m W hm1 (by omega))
  go_enter Tryz.func3, Tryz.ntmps3
  go_upto_region 3 with fail
  rw [← HW.out]
  clear h1 h2 h3
  go_wp2_with fail
  refine HN1.out.mono ?_
  rintro e w1 ⟨p, v1, rfl, hp, hb1⟩
  have HP := Lib.hid hp
  have HB1 := Lib.hid hb1
  have HN2 := Lib.hid (rnew_any m w1 hm1 (by omega))
  clear hp hb1
  go_wp2_with fail
  refine HN2.out.mono ?_
  rintro e w2 ⟨q, u1, rfl, hq, hb2⟩
  obtain ⟨A0, hT0, _⟩ := two_new HP.out hq hb2 HB1.out.size
  have HT0 := Lib.hid hT0
  have HB2 := Lib.hid (HB1.out.trans (hb2.mono HB1.out.size))
  clear hq hb2 hT0
  go_wp2
  go_loopw [11] (fun i wr => ∃ (k : Nat) (A : Nat → Prop) (S : DS), k ≤ l ∧ i = .int .i64 k ∧ Two wr W.heap.size p q A S ∧ S.ok (4 * k) ∧ S.sz ∧ S.L.length = m ∧ Below W.heap.size W wr) (fun i _ => l - (intOf i).toNat)
  case atStart => exact ⟨0, A0, ds0 m, by omega, rfl, HT0.out, ds0_ok m (by omega), ds0_sz m, by simp [ds0], HB2.out⟩
  case round =>
    obtain ⟨k, A, S, hk, rfl, hT, hok, hsz, hlm, hB⟩ := hrel
    have hwk : ∀ w', Below W.heap.size W w' → Below w.heap.size w w' := fun w' hb => HB0.out.trans (hb.mono HB0.out.size)
    by_cases hlt : k < l
    · have i0 : (0 : Int) ≤ (k : Int) := by omega
      have i1 : (k : Int) < (l : Int) := by omega
      have wr1 : IntKind.i64.wrap ((k : Int) + 1) = (k : Int) + 1 := IntWalk.i64_in _ (by omega)
      have hbm := hB.mono HB0.out.size
      have hAw := HA.out.below hbm
      obtain ⟨b, off, rfl, hbl, hcl⟩ := hAw.at0 (by omega)
      obtain ⟨d0, d1, d2, d3, d4, d5, d6⟩ := hcl k hlt
      obtain ⟨c0, c1, c2, c3⟩ := HGC.out wr hB
      have hd0 : Below wr.heap.size wr wr.drew := (Below.refl _ _).drew
      have hdo := udo_any W.heap.size p q A S N F C U (X k) wr.drew (hT.below hd0) hB.size (4 * k) hok (by omega) hsz (hAw.high k hlt).2.1 (hAw.high k hlt).2.2 ((hAw.keep k hlt).below hd0) (fun b' off' e h0 hf => by have h5 := hAw.klow k hlt b' off' e h0; have h6 := (hT.low _ hf).1; have h7 := HS0.out; omega)
      have hok2 := uact_ok hok N F C U (X k) (hAw.high k hlt).1
      have hsz2 := uact_sz hsz N F C U (X k)
      have hlm2 : (S.uact N F C U (X k)).L.length = m := (uact_len S N F C U (X k)).trans hlm
      have hkp : ∀ w', Below W.heap.size W w' → (w'.cell? ⟨w.heap.size, 0, none⟩ = some (.int .i64 N) ∧ w'.cell? ⟨w.heap.size, 1, none⟩ = some (.int .i64 F) ∧ w'.cell? ⟨w.heap.size, 2, none⟩ = some (.int .i64 C) ∧ w'.cell? ⟨w.heap.size, 3, none⟩ = some (.int .i64 U)) ∧ w'.cell? ⟨b, off + k * 7, none⟩ = some (.int .i64 (X k).kind) ∧ w'.cell? ⟨b, off + k * 7 + 1, none⟩ = some (.int .i64 (X k).k) ∧ w'.cell? ⟨b, off + k * 7 + 2, none⟩ = some (.int .u64 ((X k).tag : Int)) ∧ w'.cell? ⟨b, off + k * 7 + 3, none⟩ = some (.int .u64 ((X k).epoch : Int)) ∧ w'.cell? ⟨b, off + k * 7 + 4, none⟩ = some (.int .i64 (X k).place) ∧ w'.cell? ⟨b, off + k * 7 + 5, none⟩ = some (.string (X k).data) ∧ w'.cell? ⟨b, off + k * 7 + 6, none⟩ = some (.slice (X k).ka (X k).kn (X k).kc) := fun w' hb => by
        obtain ⟨b2, off2, e2, hbl2, hcl2⟩ := (HA.out.below (hb.mono HB0.out.size)).at0 (by omega)
        simp only [Option.some.injEq, Addr.mk.injEq] at e2
        obtain ⟨rfl, rfl, _⟩ := e2
        exact ⟨HGC.out w' hb, hcl2 k hlt⟩
      have HTT := Lib.hid (hT.below hd0)
      have HBB := Lib.hid hB
      have HOK := Lib.hid (And.intro hok2 (And.intro hsz2 hlm2))
      have HWK := Lib.hid hwk
      unfold UK.val geo at hdo
      have HDO := Lib.hid hdo
      have HKP := Lib.hid hkp
      clear hcl hAw hT hok hB hok2 hdo hlm hsz hsz2 hlm2 hbm hwk hkp hd0
      generalize S.uact N F C U (X k) = S' at HDO HOK
      generalize (X k).kind = x0 at *
      generalize (X k).k = x1 at *
      generalize ((X k).tag : Int) = x2 at *
      generalize ((X k).epoch : Int) = x3 at *
      generalize (X k).place = x4 at *
      generalize (X k).data = x5 at *
      generalize (X k).ka = x6 at *
      generalize (X k).kn = x7 at *
      generalize (X k).kc = x8 at *
      by_cases h200 : (200 : Int) < (x5.size : Int)
      · go_wp2_with fail
        refine (HKN.out _ (HWK.out _ HBB.out)).mono ?_
        rintro e w3 ⟨rfl, hb3⟩
        go_wp2
        go_ret
        exact ⟨rfl, hb3⟩
      go_wp2_with fail
      go_region_held3 (fun w' : World => (w'.cell? ⟨w.heap.size, 0, none⟩ = some (.int .i64 N) ∧ w'.cell? ⟨w.heap.size, 1, none⟩ = some (.int .i64 F) ∧ w'.cell? ⟨w.heap.size, 2, none⟩ = some (.int .i64 C) ∧ w'.cell? ⟨w.heap.size, 3, none⟩ = some (.int .i64 U)) ∧ w'.cell? ⟨b, off + k * 7, none⟩ = some (.int .i64 x0) ∧ w'.cell? ⟨b, off + k * 7 + 1, none⟩ = some (.int .i64 x1) ∧ w'.cell? ⟨b, off + k * 7 + 2, none⟩ = some (.int .u64 x2) ∧ w'.cell? ⟨b, off + k * 7 + 3, none⟩ = some (.int .u64 x3) ∧ w'.cell? ⟨b, off + k * 7 + 4, none⟩ = some (.int .i64 x4) ∧ w'.cell? ⟨b, off + k * 7 + 5, none⟩ = some (.string x5) ∧ w'.cell? ⟨b, off + k * 7 + 6, none⟩ = some (.slice x6 x7 x8)) (first | exact HKP.out wr HBB.out | exact HKP.out _ HBB.out.drew | exact HKP.out _ hb3)
        (first | (go_at_call 11; refine HDO.out.mono ?_; rintro e w3 ⟨rfl, htp⟩; have hb3 := TP.below htp HTT.out HBB.out.drew))
      all_goals (
        rename_i hHeld
        clear hHeld
        obtain ⟨A', hT', _, _⟩ := htp
        have HT' := Lib.hid hT'
        have HB3 := Lib.hid hb3
        clear hT' hb3
        go_wp2
        go_roundw
        case rel => exact ⟨k + 1, A', S', by omega, by first | rfl | go_num, HT'.out, HOK.out.1, HOK.out.2.1, HOK.out.2.2, HB3.out⟩
        case measure => simp [intOf]; omega)
    · have i1 : ¬ (k : Int) < (l : Int) := by omega
      have HT' := Lib.hid hT
      have HB' := Lib.hid hB
      have HOK := Lib.hid hok
      have HLM := Lib.hid hlm
      have HWK := Lib.hid hwk
      clear hT hB hok hlm hsz hwk
      go_wp2
      go_loopw [12] (fun i wq => ∃ j : Nat, j ≤ m ∧ i = .int .i64 j ∧ wq = wr) (fun i _ => m - (intOf i).toNat)
      case atStart => exact ⟨0, by omega, rfl, rfl⟩
      case round =>
        obtain ⟨j, hj, rfl, hwq⟩ := hrel
        subst hwq
        obtain ⟨v1, v2, u1, u2, hp, hq, hd, hA'⟩ := HT'.out
        have hqo := hq.own1
        obtain ⟨a', c', rfl, hle', hcm', hg'⟩ := owns_shape1 hqo
        obtain ⟨a2, cc2, rfl, _, _, _⟩ := owns_shape1 hq.own2
        have hmx : (c' : Int) ≤ 9223372036854775807 := by unfold maxLen at hcm'; omega
        have hlc' : (S.L.length : Int) ≤ (c' : Int) := by omega
        by_cases hjl : j < m
        · have j0 : (0 : Int) ≤ (j : Int) := by omega
          have j1 : (j : Int) < (m : Int) := by omega
          have hjS : j < S.L.length := by have := HLM.out; omega
          have j2 : (j : Int) < (S.L.length : Int) := by omega
          have wr1 : IntKind.i64.wrap ((j : Int) + 1) = (j : Int) + 1 := IntWalk.i64_in _ (by omega)
          obtain ⟨g, rfl, hgo, _, _⟩ := hg' (by omega)
          have h1 := kept_any W.heap.size p v1 v2 S j _ hp (by have := HLM.out; omega)
          have hkk : S.kept (j : Int) = (lAt S.L j, 0) := by unfold DS.kept; rw [if_pos (has_of_lt hjS)]; rfl
          have h5 := owns_cell hqo hgo j _ (strs_at hjS)
          obtain ⟨e0, e1, e2, e3, e4, hg⟩ := hq.cells
          rw [hkk] at h1
          obtain ⟨s0, hs0⟩ : ∃ s, s = lAt S.L j := ⟨_, rfl⟩
          rw [← hs0] at h1 h5
          unfold two at h1
          have H1 := Lib.hid h1
          clear h1 hkk hs0 hp hq hd hA' e1 e2 e3 e4 hg hqo
          go_wp2_with fail
          refine H1.out.mono ?_
          rintro e w3 ⟨rfl, hw3⟩; obtain rfl := hw3.symm; clear hw3
          go_wp2
          go_roundw
          case rel => exact ⟨j + 1, by omega, by go_num, by first | rfl | trivial⟩
          case measure => simp [intOf]; omega
        · obtain rfl : j = m := by omega
          clear hjl hj
          have j1 : ¬ ((j : Nat) : Int) < (j : Int) := by omega
          have hbd : Below wr.heap.size wr wr.drew := (Below.refl _ _).drew
          have hpd := hp.below hbd
          have hqd := hq.below hbd
          obtain ⟨fu, e, c0, c1, c2, c3, c4, c5, hf⟩ := hpd.cells
          obtain ⟨d0, d1, d2, d3, d4, hg⟩ := hqd.cells
          have hWl : S.W.length ≤ 1000000 := by have := HOK.out.few; have := HOK.out.did; omega
          have h3 := done_any p _ wr.drew c5
          have h4 := waits_any W.heap.size p _ v2 S wr.drew hpd hWl
          have h5 : ∀ w4 v', w4.ownsRow wr.drew.heap.size 98 2 v' S.W.length (puts S.W) → Below wr.drew.heap.size wr.drew w4 → Calls Tryz.prog 14 #[v', .slice a2 S.W.length cc2] w4 fun e w' => e = .returned (.bool true) ∧ Below w4.heap.size w4 w' := fun w4 v' ho hb =>
            rputs_same v' (.slice a2 S.W.length cc2) S.W w4 (Wr.of_owns ho hWl) (Wr.of_owns (hqd.below hb).own2 hWl)
          have hkp : ∀ w4, Below wr.drew.heap.size wr.drew w4 → w4.cell? ⟨q, 1, none⟩ = some (.slice a2 S.W.length cc2) ∧ w4.cell? ⟨q, 4, none⟩ = some (.int .i64 (S.did : Int)) := fun w4 hb =>
            ⟨(hb.cell (p := ⟨q, 1, none⟩) hqd.lt).trans d1, (hb.cell (p := ⟨q, 4, none⟩) hqd.lt).trans d4⟩
          have hst : wr.drew.cell? ⟨q, 1, none⟩ = some (.slice a2 S.W.length cc2) ∧ wr.drew.cell? ⟨q, 4, none⟩ = some (.int .i64 (S.did : Int)) := hkp _ (Below.refl _ _)
          have h6 := fun w5 (hb : Below wr.drew.heap.size wr.drew w5) => (known15_any w5).mono (R' := fun e w' => e = .returned (.bool true) ∧ Below wr.drew.heap.size wr.drew w') (fun e w' h => ⟨h.1, hb.trans (h.2.mono hb.size)⟩)
          have H3 := Lib.hid h3
          have H4 := Lib.hid h4
          have H5 := Lib.hid h5
          have H6 := Lib.hid h6
          have HKP := Lib.hid hkp
          have HST := Lib.hid hst
          have HBD := Lib.hid (HB'.out.drew)
          clear h3 h4 h5 h6 hkp hst hp hq hpd hqd c0 c1 c2 c3 c4 c5 hf d0 d1 d2 d3 d4 hg e hbd hqo hd hA' hg'
          obtain ⟨dd, hdd⟩ : ∃ b, b = (S.did : Int) := ⟨_, rfl⟩
          rw [← hdd] at H3 HKP HST
          clear hdd
          go_wp2_with fail
          go_region_held3 (fun w' : World => w'.cell? ⟨q, 1, none⟩ = some (.slice a2 S.W.length cc2) ∧ w'.cell? ⟨q, 4, none⟩ = some (.int .i64 dd))
            (first | exact HST.out | exact HKP.out _ hb4 | exact HKP.out _ hb5 | exact HKP.out _ hb6)
            (first
            | (go_at_call 13; refine H3.out.mono ?_; rintro r w' ⟨rfl, rfl⟩)
            | (go_at_call 15; refine H4.out.mono ?_; rintro r w4 ⟨vw, rfl, how4, hb4⟩)
            | (go_at_call 14; refine (H5.out w4 vw how4 hb4).mono ?_; rintro r w5 ⟨rfl, hb45⟩; have hb5 := hb4.trans (hb45.mono hb4.size))
            | (go_at_call 8; refine (H6.out _ hb5).mono ?_; rintro r w6 ⟨rfl, hb6⟩))
          all_goals (
            rename_i hHeld
            clear hHeld
            have HFIN := Lib.hid (HWK.out _ (HBD.out.trans (hb6.mono HBD.out.size)))
            clear hb6
            go_wp2
            go_ret
            exact ⟨rfl, HFIN.out⟩)
end Go.Proofs.YtjohgagiccndpaaGreatDoor
/-
  A list of acts of UndoPlays that came in, opened.
-/
namespace Go.Proofs.YtjohgagiccndpaaGreatDoor
open Go.RowKit Go.ChangeShapes Go.WideShapes Go.ChangeAt
set_option linter.unusedVariables false
set_option linter.unusedSimpArgs false

instance : Inhabited UK := ⟨⟨0, 0, 0, 0, 0, ⟨#[]⟩, none, 0, 0, []⟩⟩
theorem ubl_of_bools {W : World} {a : Addr} {len cap : Nat} {F : Nat → Bool} (hl : len ≤ cap) (hm : cap ≤ maxLen) (hc : ∀ i, i < cap → W.cell? (a.add i) = some (.bool (F i))) :
    Bl W (some a) len ((List.range len).map F) ∧ ∀ b off, some a = some (⟨b, off, none⟩ : Addr) → 0 < len → b < W.heap.size := by
  have hz : 0 < len → a.spot = none := fun h0 => by
    have := hc 0 (by omega)
    simpa [Addr.add] using World.cell?_spot this
  have hlt : 0 < len → a.block < W.heap.size := fun h0 => by
    have := World.block_lt_of_cell? W _ (hc 0 (by omega))
    rwa [add_block] at this
  refine ⟨⟨by simp, by unfold maxLen at hm; omega, fun h0 => ?_⟩, fun b off e h0 => by cases e; exact hlt h0⟩
  obtain ⟨b, off, sp⟩ := a
  obtain rfl : sp = none := hz h0
  refine ⟨b, off, rfl, hlt h0, fun i hi => ?_⟩
  have := hc i (by omega)
  rw [Addr.add_none] at this
  rw [this]
  simp [hi]

/-- The list of acts as it came in. -/
def Openeda15 (W : World) (a : Option Addr) (len cap : Nat) : Prop := ∃ X, UActs W a len W.heap.size X ∧ len ≤ cap ∧ cap ≤ maxLen

set_option maxHeartbeats 1000000 in
set_option maxRecDepth 100000 in
theorem acts_open15 {H : Type} {enc : TypeId × Value → H} {W : World} {fuel : Nat} {cs : List Value} {x : DataW H × List MemPlace} (hf : DataW.trod enc Tryz.prog W 0 (fun _ => true) true fuel 24 cs = some x) {a : Option Addr} {len cap : Nat} (hcs : cs = [.slice a len cap]) : Openeda15 W a len cap := by
  have he := Tryz.underlying36
  have ce : Tryz.prog.cellsOf 36 = 7 := by kernel_rfl
  have c3 : Tryz.prog.cellsOf 3 = 1 := by kernel_rfl
  have c9 : Tryz.prog.cellsOf 9 = 1 := by kernel_rfl
  have cu : Tryz.prog.cellsOf 33 = 1 := by kernel_rfl
  have cb : Tryz.prog.cellsOf 34 = 1 := by kernel_rfl
  rcases Go.Deep.open_slice Tryz.underlying24 hf with ⟨hn, _⟩ | ⟨ad, l, c, m, n, D, Pl, hn, _, hl, hm, hmm, _, hx⟩
  · rw [hcs] at hn
    simp at hn
    obtain ⟨rfl, rfl, rfl⟩ := hn
    exact ⟨fun _ => ⟨0, 0, 0, 0, 0, ⟨#[]⟩, none, 0, 0, []⟩, ⟨by omega, fun h => by omega, fun i h => by omega, fun i h => by omega, fun i h => by omega⟩, by omega, by unfold maxLen; omega⟩
  · rw [hcs] at hn
    simp at hn
    obtain ⟨rfl, rfl, rfl⟩ := hn
    simp only [if_true] at hmm
    have hmm' := hmm.symm
    subst hmm'
    rw [ce] at hx
    have each : ∀ i, i < cap → ∃ y : UK, (W.cell? (ad.add (i * 7)) = some (.int .i64 y.kind) ∧ W.cell? (ad.add (i * 7 + 1)) = some (.int .i64 y.k) ∧ W.cell? (ad.add (i * 7 + 2)) = some (.int .u64 (y.tag : Int)) ∧ W.cell? (ad.add (i * 7 + 3)) = some (.int .u64 (y.epoch : Int)) ∧ W.cell? (ad.add (i * 7 + 4)) = some (.int .i64 y.place) ∧ W.cell? (ad.add (i * 7 + 5)) = some (.string y.data) ∧ W.cell? (ad.add (i * 7 + 6)) = some (.slice y.ka y.kn y.kc)) ∧ Bl W y.ka y.kn y.K ∧ (∀ b off, y.ka = some ⟨b, off, none⟩ → 0 < y.kn → b < W.heap.size) ∧ y.k ≤ 9223372036854775807 ∧ y.tag < 18446744073709551616 ∧ y.epoch < 18446744073709551616 := by
      intro i hi
      obtain ⟨cs', h1, h2⟩ := hx i hi
      obtain ⟨_, hlen, hcell⟩ := World.cells?_some h1
      obtain ⟨xs, k, _, _, _, hxl, hf⟩ := DataW.trod_struct he h2
      match xs, hxl, cs', hlen with
      | [y0, y1, y2, y3, y4, y5, y6], _, [u0, u1, u2, u3, u4, u5, u6], _ =>
        have g0 := hf 0 _ rfl
        have g1 := hf 1 _ rfl
        have g2 := hf 2 _ rfl
        have g3 := hf 3 _ rfl
        have g4 := hf 4 _ rfl
        have g5 := hf 5 _ rfl
        have g6 := hf 6 _ rfl
        simp [c3, c9, cu, cb] at g0 g1 g2 g3 g4 g5 g6
        have e0 := hcell 0 (by omega)
        have e1 := hcell 1 (by omega)
        have e2 := hcell 2 (by omega)
        have e3 := hcell 3 (by omega)
        have e4 := hcell 4 (by omega)
        have e5 := hcell 5 (by omega)
        have e6 := hcell 6 (by omega)
        rw [Go.Deep.add_add] at e0 e1 e2 e3 e4 e5 e6
        obtain ⟨n0, q0, _, w0⟩ := DataW.trod_int Tryz.underlying3 g0
        obtain ⟨n1, q1, _, w1⟩ := DataW.trod_int Tryz.underlying3 g1
        obtain ⟨n2, q2, _, w2⟩ := DataW.trod_int Tryz.underlying33 g2
        obtain ⟨n3, q3, _, w3⟩ := DataW.trod_int Tryz.underlying33 g3
        obtain ⟨n4, q4, _, w4⟩ := DataW.trod_int Tryz.underlying3 g4
        obtain ⟨s5, q5, _⟩ := DataW.trod_string Tryz.underlying9 g5
        simp at q0 q1 q2 q3 q4 q5
        have hw1 : n1 ≤ 9223372036854775807 := by
          simp [Lit.wf, IntKind.max, IntKind.min, IntKind.signed, IntKind.bits] at w1
          omega
        have hw2 : 0 ≤ n2 ∧ n2 < 18446744073709551616 := by
          have m0 : IntKind.u64.min = 0 := rfl
          have m1 : IntKind.u64.max = 18446744073709551615 := rfl
          simp [Lit.wf] at w2
          omega
        obtain ⟨z2, rfl⟩ : ∃ k : Nat, n2 = k := ⟨n2.toNat, by omega⟩
        have hw3 : 0 ≤ n3 ∧ n3 < 18446744073709551616 := by
          have m0 : IntKind.u64.min = 0 := rfl
          have m1 : IntKind.u64.max = 18446744073709551615 := rfl
          simp [Lit.wf] at w3
          omega
        obtain ⟨z3, rfl⟩ : ∃ k : Nat, n3 = k := ⟨n3.toNat, by omega⟩
        rcases Go.Deep.open_bools Tryz.underlying34 Tryz.underlying4 (by kernel_rfl) g6 with ⟨q6, _⟩ | ⟨a3, l3, c3', F, q6, _, hl3, hm3, _, hc3⟩
        · simp at q6
          exact ⟨⟨n0, n1, z2, z3, n4, s5, none, 0, 0, []⟩, ⟨by simpa [q0] using e0, by simpa [q1] using e1, by simpa [q2] using e2, by simpa [q3] using e3, by simpa [q4] using e4, by simpa [q5] using e5, by simpa [q6] using e6⟩, ⟨rfl, Nat.zero_le _, fun h => by simp at h⟩, fun b off h => by simp at h, hw1, by show z2 < _; omega, by show z3 < _; omega⟩
        · simp at q6
          obtain ⟨hb1, hb2⟩ := ubl_of_bools hl3 hm3 hc3
          exact ⟨⟨n0, n1, z2, z3, n4, s5, some a3, l3, c3', (List.range l3).map F⟩, ⟨by simpa [q0] using e0, by simpa [q1] using e1, by simpa [q2] using e2, by simpa [q3] using e3, by simpa [q4] using e4, by simpa [q5] using e5, by simpa [q6] using e6⟩, hb1, hb2, hw1, by show z2 < _; omega, by show z3 < _; omega⟩
    obtain ⟨X, hX⟩ := Go.Deep.choose_lt each
    refine ⟨X, ⟨by unfold maxLen at hm; omega, fun h0 => ?_, fun i hi => (hX i (by omega)).2.1, fun i hi => (hX i (by omega)).2.2.1, fun i hi => (hX i (by omega)).2.2.2⟩, hl, hm⟩
    obtain ⟨b, off, sp⟩ := ad
    obtain rfl : sp = none := by
      have := (hX 0 (by omega)).1.1
      simpa [Addr.add] using World.cell?_spot this
    have hb := World.block_lt_of_cell? W _ (hX 0 (by omega)).1.1
    rw [Addr.add_none] at hb
    refine ⟨b, off, rfl, hb, fun i hi => ?_⟩
    obtain ⟨⟨h0, h1, h2, h3, h4, h5, h6⟩, _⟩ := hX i (by omega)
    simp only [Addr.add_none, ← Nat.add_assoc] at h0 h1 h2 h3 h4 h5 h6
    exact ⟨h0, h1, h2, h3, h4, h5, h6⟩

theorem undoplays_any (N F C U n : Int) (a : Option Addr) (l c : Nat) (X : Nat → UK) (w : World) (h : UActs w a l w.heap.size X ∧ l ≤ c ∧ c ≤ maxLen) :
    Calls Tryz.prog 3 #[geo N F C U, .int .i64 n, .slice a l c] w fun e w' => e = .returned (.bool true) ∧ Below w.heap.size w w' := uplays_walk N F C U n a l c X w h.1 h.2.1 h.2.2

end Go.Proofs.YtjohgagiccndpaaGreatDoor

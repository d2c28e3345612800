/-
  Whether both disks are alike; whether acts are few.
-/
import Derived.Test.YtfbeblpkjpijbaaEA
namespace Go.Proofs.Ytfbeblpkjpijbaa
open Go.RowKit
set_option linter.unusedVariables false
set_option linter.unusedSimpArgs false

theorem has_of_lt {S : DS} {k : Nat} (h : k < S.L.length) : S.has (k : Int) := ⟨by omega, by omega⟩

set_option maxRecDepth 20000 in
set_option maxHeartbeats 4000000 in
theorem alike_any (B p q : Nat) (A : Nat → Prop) (S : DS) (w : World) (h : Two w B p q A S) (hW : S.W.length ≤ 1000000) (hL : (S.L.length : Int) ≤ 1200) :
    Calls Try.prog 12 #[.pointer (some ⟨p, 0, none⟩), .pointer (some ⟨q, 0, none⟩)] w fun e w' => e = .returned (.bool true) ∧ Below w.heap.size w w' := by
  obtain ⟨v1, v2, u1, u2, hp, hq, hd, hA⟩ := h
  have hbd : Below w.heap.size w w.drew := (Below.refl _ _).drew
  have hpd := hp.below hbd
  have hqd := hq.below hbd
  obtain ⟨fu, e, c0, c1, c2, c3, c4, c5, hf⟩ := hpd.cells
  obtain ⟨d0, d1, d2, d3, d4, hg⟩ := hqd.cells
  obtain ⟨a, c, rfl, hle, hcm, _⟩ := owns_shape1 hp.own1
  have hqo := hq.own1
  obtain ⟨a', c', rfl, hle', hcm', hg'⟩ := owns_shape1 hqo
  have hmx : (c' : Int) ≤ 9223372036854775807 := by unfold maxLen at hcm'; omega
  have h1 := len_any p a S.L.length c w.drew c0
  have h2 := down_any p S.off w.drew c2
  have h3 := done_any p _ w.drew c5
  have h4 := waits_any B p _ v2 S w.drew hpd hW
  have h5 : ∀ w4 v', w4.ownsRow w.drew.heap.size 46 2 v' S.W.length (puts S.W) → Below w.drew.heap.size w.drew w4 → Calls Try.prog 37 #[v', u2] w4 fun e w' => e = .returned (.bool true) ∧ Below w4.heap.size w4 w' := fun w4 v' ho hb =>
    rputs_same v' u2 S.W w4 (Wr.of_owns ho hW) (Wr.of_owns (hqd.below hb).own2 hW)
  have hkp : ∀ w4, Below w.drew.heap.size w.drew w4 → w4.cell? ⟨q, 0, none⟩ = some (.slice a' S.L.length c') ∧ w4.cell? ⟨q, 1, none⟩ = some u2 ∧ w4.cell? ⟨q, 3, none⟩ = some (.bool S.off) ∧ w4.cell? ⟨q, 4, none⟩ = some (.int .i64 (S.did : Int)) := fun w4 hb =>
    ⟨(hb.cell (p := ⟨q, 0, none⟩) hqd.lt).trans d0, (hb.cell (p := ⟨q, 1, none⟩) hqd.lt).trans d1, (hb.cell (p := ⟨q, 3, none⟩) hqd.lt).trans d3, (hb.cell (p := ⟨q, 4, none⟩) hqd.lt).trans d4⟩
  have hst : w.drew.cell? ⟨q, 0, none⟩ = some (.slice a' S.L.length c') ∧ w.drew.cell? ⟨q, 1, none⟩ = some u2 ∧ w.drew.cell? ⟨q, 3, none⟩ = some (.bool S.off) ∧ w.drew.cell? ⟨q, 4, none⟩ = some (.int .i64 (S.did : Int)) := hkp _ (Below.refl _ _)
  obtain ⟨a2, cc2, rfl, _, _, _⟩ := owns_shape1 hq.own2
  have H1 := Lib.hid h1
  have H2 := Lib.hid h2
  have H3 := Lib.hid h3
  have H4 := Lib.hid h4
  have H5 := Lib.hid h5
  have HKP := Lib.hid hkp
  have HST := Lib.hid hst
  have HP := Lib.hid hp
  have HQ := Lib.hid hq
  have HQO := Lib.hid hqo
  clear h1 h2 h3 h4 h5 hkp hst hp hq hpd hqd c0 c1 c2 c3 c4 c5 hf d0 d1 d2 d3 d4 hg e hbd hqo
  obtain ⟨of, hof⟩ : ∃ b, b = S.off := ⟨_, rfl⟩
  obtain ⟨dd, hdd⟩ : ∃ b, b = (S.did : Int) := ⟨_, rfl⟩
  rw [← hof] at H2 HKP HST
  rw [← hdd] at H3 HKP HST
  clear hof hdd
  go_enter Try.func12, Try.ntmps12
  go_wp2_with fail
  go_region_held3 (fun w' => w'.cell? ⟨q, 0, none⟩ = some (.slice a' S.L.length c') ∧ w'.cell? ⟨q, 1, none⟩ = some (.slice a2 S.W.length cc2) ∧ w'.cell? ⟨q, 3, none⟩ = some (.bool of) ∧ w'.cell? ⟨q, 4, none⟩ = some (.int .i64 dd))
    (first | exact HST.out | exact HKP.out _ hb4 | exact HKP.out _ (hb4.trans (hb5.mono hb4.size)))
    (first
    | (go_at_call 21; refine H1.out.mono ?_; rintro r w' ⟨rfl, rfl⟩)
    | (go_at_call 24; refine H2.out.mono ?_; rintro r w' ⟨rfl, rfl⟩)
    | (go_at_call 25; refine H3.out.mono ?_; rintro r w' ⟨rfl, rfl⟩)
    | (go_at_call 13; refine H4.out.mono ?_; rintro r w4 ⟨vw, rfl, how4, hb4⟩)
    | (go_at_call 37; refine (H5.out w4 vw how4 hb4).mono ?_; rintro r w5 ⟨rfl, hb5⟩))
  rename_i hHeld
  clear hHeld
  have hB5 : Below w.heap.size w w5 := by
    have hx := hb4.trans (hb5.mono hb4.size)
    exact ⟨hx.os, hx.tape, hx.output, hx.size, hx.block⟩
  have HB5 := Lib.hid hB5
  clear hB5 how4 hb4 hb5 H1 H2 H3 H4 H5 HKP HST
  go_wp2
  go_loopw [5] (fun i wr => ∃ k : Nat, k ≤ S.L.length ∧ i = .int .i64 k ∧ Below w.heap.size w wr) (fun i _ => S.L.length - (intOf i).toNat)
  case atStart => exact ⟨0, by omega, rfl, HB5.out⟩
  case round =>
    obtain ⟨k, hk, rfl, hB⟩ := hrel
    have hpw := HP.out.below hB
    have hqw := HQ.out.below hB
    obtain ⟨d0, d1, d2, d3, d4, hg⟩ := hqw.cells
    by_cases hlt : k < S.L.length
    · have i0 : (0 : Int) ≤ (k : Int) := by omega
      have i1 : (k : Int) < (S.L.length : Int) := by omega
      obtain ⟨g, rfl, hgo, _, _⟩ := hg' (by omega)
      have h1 := kept_any B p _ v2 S k wr hpw hL
      have h2 := read_any B p _ v2 S k wr hpw hW (by omega)
      have h3 := fun w1 (hb : Below wr.heap.size wr w1) => rread_any B q _ _ S k w1 (hqw.below hb) hW hL
      have h4 := fun w1 (hb : Below wr.heap.size wr w1) => (hb.cell (p := ⟨q, 0, none⟩) hqw.lt).trans d0
      have h5 := fun w1 (hb : Below wr.heap.size wr w1) => owns_cell (hqw.below hb).own1 hgo k _ (strs_at hlt)
      have hkk : S.kept (k : Int) = (lAt S.L k, 0) := by unfold DS.kept; rw [if_pos (has_of_lt hlt)]; rfl
      rw [hkk] at h1
      obtain ⟨R, hR⟩ : ∃ R, R = S.read (k : Int) := ⟨_, rfl⟩
      rw [← hR] at h2
      simp only [← hR] at h3
      obtain ⟨R1, R2⟩ := R
      obtain ⟨s0, hs0⟩ : ∃ s, s = lAt S.L k := ⟨_, rfl⟩
      rw [← hs0] at h1
      simp only [← hs0] at h5
      unfold two at h1 h2 h3
      have H1 := Lib.hid h1
      have H2 := Lib.hid h2
      have H3 := Lib.hid h3
      have H4 := Lib.hid h4
      have H5 := Lib.hid h5
      have HBr := Lib.hid hB
      clear h1 h2 h3 h4 h5 hkk hR hs0 hB hpw hqw d1 d2 d3 d4 hg
      go_wp2_with fail
      refine H1.out.mono ?_
      rintro e w1 ⟨rfl, hw1⟩; obtain rfl := hw1.symm; clear hw1
      go_wp2_with fail
      refine H2.out.mono ?_
      rintro e w1 ⟨rfl, hb1⟩
      have h3 := H3.out w1 hb1
      have e0 := H4.out w1 hb1
      have e1 := H5.out w1 hb1
      have H6 := Lib.hid h3
      have HB1 := Lib.hid hb1
      clear h3 hb1
      go_wp2_with fail
      refine H6.out.mono ?_
      rintro e w2 ⟨rfl, hw1⟩; obtain rfl := hw1.symm; clear hw1
      go_wp2
      go_roundw
      case rel => exact ⟨k + 1, by omega, by go_num, HBr.out.trans (HB1.out.mono HBr.out.size)⟩
      case measure => simp [intOf]; omega
    · obtain rfl : k = S.L.length := by omega
      clear d1 d2 d3 d4 hg hpw hqw
      go_wp2
      go_ret
      exact ⟨rfl, hB⟩

/-- The slice value reads as acts, all below B. -/
structure Acts (w : World) (a : Option Addr) (n B : Nat) (X : Nat → AK) : Prop where
  big : n ≤ 9223372036854775807
  at0 : 0 < n → ∃ b off, a = some ⟨b, off, none⟩ ∧ b < B ∧ ∀ i, i < n → w.cell? ⟨b, off + i * 4, none⟩ = some (.int .i64 (X i).kind) ∧ w.cell? ⟨b, off + i * 4 + 1, none⟩ = some (.int .i64 (X i).at') ∧
    w.cell? ⟨b, off + i * 4 + 2, none⟩ = some (.string (X i).data) ∧ w.cell? ⟨b, off + i * 4 + 3, none⟩ = some (.slice (X i).ka (X i).kn (X i).kc)
  keep : ∀ i, i < n → Bl w (X i).ka (X i).kn (X i).K
  klow : ∀ i, i < n → ∀ b off, (X i).ka = some ⟨b, off, none⟩ → 0 < (X i).kn → b < B
  high : ∀ i, i < n → (X i).at' ≤ 9223372036854775807

theorem Acts.below {w w' : World} {a n B X} (h : Acts w a n B X) (hb : Below B w w') : Acts w' a n B X where
  big := h.big
  at0 := fun h0 => by
    obtain ⟨b, off, e, hl, hc⟩ := h.at0 h0
    refine ⟨b, off, e, hl, fun i hi => ?_⟩
    obtain ⟨c0, c1, c2, c3⟩ := hc i hi
    exact ⟨(hb.cell (by exact hl)).trans c0, (hb.cell (by exact hl)).trans c1, (hb.cell (by exact hl)).trans c2, (hb.cell (by exact hl)).trans c3⟩
  keep := fun i hi => (h.keep i hi).kept hb.size fun b off e h0 => hb.block b (h.klow i hi b off e h0)
  klow := h.klow
  high := h.high

/-- Whether acts are few, and their texts short. -/
def shortB (n : Nat) (X : Nat → AK) : Bool := decide (n ≤ 100 ∧ ∀ i, i < n → (X i).data.size ≤ 200)

set_option maxHeartbeats 1000000 in
theorem short_any (a : Option Addr) (n c B : Nat) (X : Nat → AK) (w : World) (h : Acts w a n B X) (hc : n ≤ c) (hcm : c ≤ maxLen) :
    Calls Try.prog 7 #[.slice a n c] w fun e w' => e = .returned (.bool (shortB n X)) ∧ w' = w := by
  have hbig := h.big
  have hcx : (c : Int) ≤ 9223372036854775807 := by unfold maxLen at hcm; omega
  obtain ⟨r, hr⟩ : ∃ r, r = shortB n X := ⟨_, rfl⟩
  rw [← hr]
  have HR := Lib.hid hr
  clear hr
  by_cases h100 : n ≤ 100
  · have i0 : ¬ (100 : Int) < (n : Int) := by omega
    go_enter Try.func7, Try.ntmps7
    go_wp2
    go_loopw [3] (fun i wr => ∃ k : Nat, k ≤ n ∧ i = .int .i64 k ∧ wr = w ∧ ∀ j, j < k → (X j).data.size ≤ 200) (fun i _ => n - (intOf i).toNat)
    case atStart => exact ⟨0, by omega, rfl, rfl, fun j hj => by omega⟩
    case round =>
      obtain ⟨k, hk, rfl, hwr, hall⟩ := hrel
      subst hwr
      have HALL := Lib.hid hall
      clear hall
      by_cases hlt : k < n
      · have i1 : (0 : Int) ≤ (k : Int) := by omega
        have i2 : (k : Int) < (n : Int) := by omega
        obtain ⟨b, off, rfl, hbl, hcl⟩ := h.at0 (by omega)
        have c2 := (hcl k hlt).2.2.1
        have HH := Lib.hid h
        clear hcl h
        by_cases h2 : (X k).data.size ≤ 200
        · have h2' : ¬ (200 : Int) < ((X k).data.size : Int) := by omega
          have H2 := Lib.hid h2
          clear h2
          generalize (X k).data = sx at c2 h2'
          go_wp2
          go_roundw
          case rel => exact ⟨k + 1, by omega, by go_num, trivial, fun j hj => by
            rcases Nat.lt_or_ge j k with h1 | h1
            · exact HALL.out j h1
            · obtain rfl : j = k := by omega
              exact H2.out⟩
          case measure => simp [intOf]; omega
        · have h2' : (200 : Int) < ((X k).data.size : Int) := by omega
          have hrf : r = false := HR.out.trans (by unfold shortB; exact decide_eq_false fun hh => h2 (hh.2 k hlt))
          subst hrf
          clear h2
          generalize (X k).data = sx at c2 h2'
          go_wp2
          go_ret
          exact ⟨rfl, rfl⟩
      · obtain rfl : k = n := by omega
        have hrt : r = true := HR.out.trans (by unfold shortB; exact decide_eq_true ⟨h100, HALL.out⟩)
        subst hrt
        go_wp2
        go_ret
        exact ⟨rfl, rfl⟩
  · have i0 : (100 : Int) < (n : Int) := by omega
    have hrf : r = false := HR.out.trans (by unfold shortB; exact decide_eq_false fun hh => h100 hh.1)
    subst hrf
    go_enter Try.func7, Try.ntmps7
    go_wp2
    go_ret
    exact ⟨rfl, rfl⟩

end Go.Proofs.Ytfbeblpkjpijbaa

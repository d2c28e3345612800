/-
  Whether both nets are alike; whether acts are few.
-/
import Derived.Test.YthbfeflijlcboaaC9
namespace Go.Proofs.Ythbfeflijlcboaa
open Go.RowKit
set_option linter.unusedVariables false
set_option linter.unusedSimpArgs false

theorem has_of_lt {S : NS} {k : Nat} (h : k < S.L.length) : S.has (k : Int) := ⟨by omega, by omega⟩

set_option maxRecDepth 20000 in
set_option maxHeartbeats 4000000 in
theorem alike_any (B p q : Nat) (A : Nat → Prop) (S : NS) (w : World) (h : Two w B p q A S) (hL : S.L.length ≤ 60) :
    Calls Try.prog 10 #[.pointer (some ⟨p, 0, none⟩), .pointer (some ⟨q, 0, none⟩)] w fun e w' => e = .returned (.bool true) ∧ Below w.heap.size w w' := by
  obtain ⟨v, u, hp, hq, hd, hA⟩ := h
  have hcn := counts_any B p v S w hp
  have hkp : ∀ w' : World, w'.heap = w.heap → w'.cell? ⟨p, 3, none⟩ = some v ∧ w'.cell? ⟨q, 0, none⟩ = some u ∧ w'.cell? ⟨q, 1, none⟩ = some (.int .i64 (S.sent : Int)) ∧ w'.cell? ⟨q, 2, none⟩ = some (.int .i64 (S.came : Int)) ∧ w'.cell? ⟨q, 3, none⟩ = some (.int .i64 (S.lost : Int)) := fun w' e => by
    obtain ⟨_, _, _, c3, _⟩ := PN.cells hp
    obtain ⟨d0, d1, d2, d3, _⟩ := RN.cells hq
    refine ⟨?_, ?_, ?_, ?_, ?_⟩ <;> rw [World.cell?_of_block (w := w) (by rw [e])] <;> assumption
  obtain ⟨a, c, rfl, hle, hcm, _⟩ := owns_shape1 (Nt.own hp)
  obtain ⟨a', c', rfl, hle', hcm', hg'⟩ := owns_shape1 (Nt.own hq)
  have hmx : (c' : Int) ≤ 9223372036854775807 := by unfold maxLen at hcm'; omega
  have hln := fun (w' : World) (e : w'.heap = w.heap) => len_any p a S.L.length c w' (hkp w' e).1
  obtain ⟨x0, hx0⟩ : ∃ x, x = (S.sent : Int) := ⟨_, rfl⟩
  obtain ⟨x1, hx1⟩ : ∃ x, x = (S.came : Int) := ⟨_, rfl⟩
  obtain ⟨x2, hx2⟩ : ∃ x, x = (S.lost : Int) := ⟨_, rfl⟩
  simp only [← hx0, ← hx1, ← hx2] at hkp hcn
  have HCN := Lib.hid hcn
  have HKP := Lib.hid hkp
  have HLN := Lib.hid hln
  have HP := Lib.hid hp
  have HQ := Lib.hid hq
  clear hcn hkp hln hp hq hx0 hx1 hx2
  go_enter Try.func10, Try.ntmps10
  go_wp2_with fail
  refine HCN.out.mono ?_
  rintro e w1 ⟨rfl, kk, hw1⟩
  have he1 : w1.heap = w.heap := by rw [hw1]; rfl
  have hst := HKP.out w1.drew he1
  have hl1 := HLN.out w1.drew he1
  have HB1 := Lib.hid (show Below w.heap.size w w1 from by rw [hw1]; exact ⟨rfl, rfl, rfl, Nat.le_refl _, fun _ _ => rfl⟩)
  have HST := Lib.hid hst.2
  have HL1 := Lib.hid hl1
  clear hst hl1 he1 hw1
  go_wp2_with fail
  go_region_held3 (fun w' => w'.cell? ⟨q, 0, none⟩ = some (.slice a' S.L.length c') ∧ w'.cell? ⟨q, 1, none⟩ = some (.int .i64 x0) ∧ w'.cell? ⟨q, 2, none⟩ = some (.int .i64 x1) ∧ w'.cell? ⟨q, 3, none⟩ = some (.int .i64 x2))
    (first | exact HST.out)
    (first
    | (go_at_call 14; refine HL1.out.mono ?_; rintro r w' ⟨rfl, rfl⟩))
  rename_i hHeld
  clear hHeld HL1 HST HKP HLN HCN
  have HB2 := Lib.hid (show Below w.heap.size w w1.drew from by have := HB1.out; exact ⟨this.os, this.tape, this.output, this.size, this.block⟩)
  go_wp2
  go_loopw [8] (fun i wr => ∃ k : Nat, k ≤ S.L.length ∧ i = .int .i64 k ∧ Below w.heap.size w wr) (fun i _ => S.L.length - (intOf i).toNat)
  case atStart => exact ⟨0, by omega, rfl, HB2.out⟩
  case round =>
    obtain ⟨k, hk, rfl, hB⟩ := hrel
    have hpw : PN wr B p _ S := Nt.below HP.out hB
    have hqw : RN wr B q _ S := Nt.below HQ.out hB
    obtain ⟨d0, d1, d2, d3, hg⟩ := RN.cells hqw
    by_cases hlt : k < S.L.length
    · have i0 : (0 : Int) ≤ (k : Int) := by omega
      have i1 : (k : Int) < (S.L.length : Int) := by omega
      obtain ⟨g, rfl, hgo, _, _⟩ := hg' (by omega)
      have h1 := at_any B p _ S k wr hpw
      have ha : S.at' (k : Int) = (wAt S.L k, 0) := by unfold NS.at'; rw [if_pos (has_of_lt hlt)]; rfl
      rw [ha] at h1
      obtain ⟨e1, e2⟩ := puts_at S.L k hlt
      obtain ⟨W, hW⟩ : ∃ W, W = wAt S.L k := ⟨_, rfl⟩
      rw [← hW] at h1 e1 e2
      obtain ⟨x, s⟩ := W
      unfold pkE pkV at h1
      dsimp only at h1 e1 e2
      have h4 := fun w1 (hb : Below wr.heap.size wr w1) => (hb.cell (p := ⟨q, 0, none⟩) (Nt.lt hqw)).trans d0
      have h5 := fun w1 (hb : Below wr.heap.size wr w1) => And.intro (owns_cell (Nt.own (Nt.below hqw hb)) hgo (k * 2) _ e1) (owns_cell (Nt.own (Nt.below hqw hb)) hgo (k * 2 + 1) _ e2)
      have H1 := Lib.hid h1
      have H4 := Lib.hid h4
      have H5 := Lib.hid h5
      have HBr := Lib.hid hB
      have qn := neq_pk x s
      have qg := guard_pk
      clear h1 h4 h5 ha e1 e2 hW hB hpw hqw d1 d2 d3 hg
      go_wp2_with fail
      refine H1.out.mono ?_
      rintro e w2 ⟨rfl, hb1⟩
      have hb2 : Below wr.heap.size wr (w2.alloc (.cells #[.int .i64 x, .string s] 41)) := hb1.trans (((Below.refl _ _).alloc (Nat.le_refl _) _).mono hb1.size)
      have c0 := H4.out _ hb2
      obtain ⟨c1, c2⟩ := H5.out _ hb2
      obtain ⟨z0, z1⟩ := pk_new w2 x s
      have HB3 := Lib.hid (HBr.out.trans (hb2.mono HBr.out.size))
      clear hb1 hb2
      go_wp2
      go_quiet (fail)
      go_wp2
      go_roundw
      case rel => exact ⟨k + 1, by omega, by go_num, ⟨HB3.out.os, HB3.out.tape, HB3.out.output, HB3.out.size, HB3.out.block⟩⟩
      case measure => simp [intOf]; omega
    · obtain rfl : k = S.L.length := by omega
      clear d1 d2 d3 hg hpw hqw
      go_wp2
      go_ret
      exact ⟨rfl, hB⟩

/-- The slice value reads as acts, all below B. -/
structure Acts (w : World) (a : Option Addr) (n B : Nat) (X : Nat → AK) : Prop where
  big : n ≤ 9223372036854775807
  at0 : 0 < n → ∃ b off, a = some ⟨b, off, none⟩ ∧ b < B ∧ ∀ i, i < n → w.cell? ⟨b, off + i * 5, none⟩ = some (.int .i64 (X i).kind) ∧ w.cell? ⟨b, off + i * 5 + 1, none⟩ = some (.int .i64 (X i).to') ∧
    w.cell? ⟨b, off + i * 5 + 2, none⟩ = some (.int .i64 (X i).i) ∧ w.cell? ⟨b, off + i * 5 + 3, none⟩ = some (.int .i64 (X i).n) ∧ w.cell? ⟨b, off + i * 5 + 4, none⟩ = some (.string (X i).b)

theorem Acts.below {w w' : World} {a n B X} (h : Acts w a n B X) (hb : Below B w w') : Acts w' a n B X where
  big := h.big
  at0 := fun h0 => by
    obtain ⟨b, off, e, hl, hc⟩ := h.at0 h0
    refine ⟨b, off, e, hl, fun i hi => ?_⟩
    obtain ⟨c0, c1, c2, c3, c4⟩ := hc i hi
    exact ⟨(hb.cell (by exact hl)).trans c0, (hb.cell (by exact hl)).trans c1, (hb.cell (by exact hl)).trans c2, (hb.cell (by exact hl)).trans c3, (hb.cell (by exact hl)).trans c4⟩

/-- Whether acts are few, and their texts short. -/
def shortB (n : Nat) (X : Nat → AK) : Bool := decide (n ≤ 150 ∧ ∀ i, i < n → (X i).b.size ≤ 200)

set_option maxRecDepth 20000 in
set_option maxHeartbeats 1000000 in
theorem short_any (a : Option Addr) (n c B : Nat) (X : Nat → AK) (w : World) (h : Acts w a n B X) (hc : n ≤ c) (hcm : c ≤ maxLen) :
    Calls Try.prog 6 #[.slice a n c] w fun e w' => e = .returned (.bool (shortB n X)) ∧ w' = w := by
  have hbig := h.big
  have hcx : (c : Int) ≤ 9223372036854775807 := by unfold maxLen at hcm; omega
  obtain ⟨r, hr⟩ : ∃ r, r = shortB n X := ⟨_, rfl⟩
  rw [← hr]
  have HR := Lib.hid hr
  clear hr
  by_cases h100 : n ≤ 150
  · have i0 : ¬ (150 : Int) < (n : Int) := by omega
    go_enter Try.func6, Try.ntmps6
    go_wp2
    go_loopw [3] (fun i wr => ∃ k : Nat, k ≤ n ∧ i = .int .i64 k ∧ wr = w ∧ ∀ j, j < k → (X j).b.size ≤ 200) (fun i _ => n - (intOf i).toNat)
    case atStart => exact ⟨0, by omega, rfl, rfl, fun j hj => by omega⟩
    case round =>
      obtain ⟨k, hk, rfl, hwr, hall⟩ := hrel
      subst hwr
      have HALL := Lib.hid hall
      clear hall
      by_cases hlt : k < n
      · have i1 : (0 : Int) ≤ (k : Int) := by omega
        have i2 : (k : Int) < (n : Int) := by omega
        obtain ⟨b, off, rfl, hbl, hcl⟩ := h.at0 (by omega)
        have c4 := (hcl k hlt).2.2.2.2
        have HH := Lib.hid h
        clear hcl h
        by_cases h2 : (X k).b.size ≤ 200
        · have h2' : ¬ (200 : Int) < ((X k).b.size : Int) := by omega
          have H2 := Lib.hid h2
          clear h2
          generalize (X k).b = sx at c4 h2'
          go_wp2
          go_roundw
          case rel => exact ⟨k + 1, by omega, by go_num, trivial, fun j hj => by
            rcases Nat.lt_or_ge j k with h1 | h1
            · exact HALL.out j h1
            · obtain rfl : j = k := by omega
              exact H2.out⟩
          case measure => simp [intOf]; omega
        · have h2' : (200 : Int) < ((X k).b.size : Int) := by omega
          have hrf : r = false := HR.out.trans (by unfold shortB; exact decide_eq_false fun hh => h2 (hh.2 k hlt))
          subst hrf
          clear h2
          generalize (X k).b = sx at c4 h2'
          go_wp2
          go_ret
          exact ⟨rfl, rfl⟩
      · obtain rfl : k = n := by omega
        have hrt : r = true := HR.out.trans (by unfold shortB; exact decide_eq_true ⟨h100, HALL.out⟩)
        subst hrt
        go_wp2
        go_ret
        exact ⟨rfl, rfl⟩
  · have i0 : (150 : Int) < (n : Int) := by omega
    have hrf : r = false := HR.out.trans (by unfold shortB; exact decide_eq_false fun hh => h100 hh.1)
    subst hrf
    go_enter Try.func6, Try.ntmps6
    go_wp2
    go_ret
    exact ⟨rfl, rfl⟩
end Go.Proofs.Ythbfeflijlcboaa


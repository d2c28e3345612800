/-
  The walks of NetPlays and NetSums.
-/
import Derived.Test.YthbfeflijlcboaaCB
namespace Go.Proofs.Ythbfeflijlcboaa
open Go.RowKit
set_option linter.unusedVariables false
set_option linter.unusedSimpArgs false

theorem pn_low {ty : TypeId} {F : Value → NS → Array Value} {w B B' p v S} (h : Nt ty F w B p v S) (hl : B' ≤ B) : Nt ty F w B' p v S := ⟨h.blk, Nat.le_trans hl h.low, owns_low h.own hl⟩

theorem two_new {w1 w2 : World} {B p q : Nat} {v u : Value} {S : NS} (hp : PN w1 B p v S) (hq : RN w2 w1.heap.size q u S) (hb : Below w1.heap.size w1 w2) (hB : B ≤ w1.heap.size) : ∃ A, Two w2 B p q A S ∧ ∀ k, A k ↔ ft p v k ∨ ft q u k :=
  ⟨_, ⟨v, u, Nt.below hp hb, pn_low hq hB, fun k h1 h2 => by
    have := (Nt.ft_low hp k h1).2
    have := (Nt.ft_low hq k h2).1
    omega, fun k => Iff.rfl⟩, fun k => Iff.rfl⟩

theorem TP.below {w w' w0 : World} {p q : Nat} {A : Nat → Prop} {S S' : NS} (h : TP w w0.heap.size p q A S' w') (h0 : Two w w0.heap.size p q A S) (hb : Below w0.heap.size w0 w) : Below w0.heap.size w0 w' := by
  obtain ⟨A', hT, hF, hl⟩ := h
  exact hb.trans (hF.below (fun k hk => (h0.low k hk).1) hb.size)

/-- The document's net is made. -/
theorem rn_new (w : World) : RN (w.alloc (.cells #[.slice none 0 0, .int .i64 0, .int .i64 0, .int .i64 0] 30)) w.heap.size w.heap.size (.slice none 0 0) ns0 :=
  ⟨heap_alloc_new _ _, Nat.le_refl _, World.ownsRow_nil _ _ _ _⟩

set_option maxRecDepth 20000 in
set_option maxHeartbeats 4000000 in
theorem sums_walk (a : Option Addr) (l c : Nat) (X : Nat → AK) (w : World) (hA : Acts w a l w.heap.size X) (hlc : l ≤ c) (hcm : c ≤ maxLen) :
    Calls Try.prog 4 #[.slice a l c] w fun e w' => e = .returned (.bool true) ∧ Below w.heap.size w w' := by
  have hs := short_any a l c w.heap.size X w hA hlc hcm
  have hcx : (c : Int) ≤ 9223372036854775807 := by unfold maxLen at hcm; omega
  have HA := Lib.hid hA
  have HS := Lib.hid hs
  have HKN := Lib.hid (fun w1 (hb : Below w.heap.size w w1) => (known_true w1).mono (R' := fun e w' => e = .returned (.bool true) ∧ Below w.heap.size w w') (fun e w' h => ⟨h.1, hb.trans (h.2.mono hb.size)⟩))
  clear hA hs
  by_cases hsh : shortB l X = true
  · have hl150 : l ≤ 150 := (of_decide_eq_true hsh).1
    have hsm : ∀ k, k < l → (X k).b.size ≤ 200 := (of_decide_eq_true hsh).2
    have HSM := Lib.hid hsm
    rw [hsh] at HS
    have HN := Lib.hid (new_any w)
    clear hsh hsm
    go_enter Try.func4, Try.ntmps4
    go_wp2_with fail
    refine HS.out.mono ?_
    rintro e w1 ⟨rfl, hw1⟩; obtain rfl := hw1.symm; clear hw1
    go_wp2_with fail
    refine HN.out.mono ?_
    rintro e w1 ⟨p, v, rfl, hp, hb1⟩
    have hal : Below w1.heap.size w1 (w1.alloc (.cells #[.slice none 0 0, .int .i64 0, .int .i64 0, .int .i64 0] 30)) := (Below.refl _ _).alloc (Nat.le_refl _) _
    obtain ⟨A0, hT0, _⟩ := two_new hp (rn_new w1) hal hb1.size
    have HT0 := Lib.hid hT0
    have HB2 := Lib.hid (hb1.trans (hal.mono hb1.size))
    clear hp hal hT0 hb1
    go_wp2
    go_loopw [5] (fun i wr => ∃ (k : Nat) (A : Nat → Prop) (S : NS), k ≤ l ∧ i = .int .i64 k ∧ Two wr w.heap.size p w1.heap.size A S ∧ S.ok k ∧ Below w.heap.size w wr) (fun i _ => l - (intOf i).toNat)
    case atStart => exact ⟨0, A0, ns0, by omega, rfl, HT0.out, ns0_ok, HB2.out⟩
    case round =>
      obtain ⟨k, A, S, hk, rfl, hT, hok, hB⟩ := hrel
      by_cases hlt : k < l
      · have i0 : (0 : Int) ≤ (k : Int) := by omega
        have i1 : (k : Int) < (l : Int) := by omega
        have hAw := HA.out.below hB
        obtain ⟨b, off, rfl, hbl, hcl⟩ := hAw.at0 (by omega)
        obtain ⟨c0, c1, c2, c3, c4⟩ := hcl k hlt
        have hdo := do_any w.heap.size p w1.heap.size A S (X k) wr hT hB.size k hok (by omega) (by have := HSM.out k hlt; omega)
        have hok2 := hok.act (X k)
        have HTT := Lib.hid hT
        have HBB := Lib.hid hB
        have HOK := Lib.hid hok2
        unfold AK.val at hdo
        have HDO := Lib.hid hdo
        clear hcl hAw hT hok hB hok2 hdo
        generalize S.act (X k) = S' at HDO HOK
        generalize (X k).kind = x0 at *
        generalize (X k).to' = x1 at *
        generalize (X k).i = x2 at *
        generalize (X k).n = x3 at *
        generalize (X k).b = x4 at *
        go_wp2_with fail
        refine HDO.out.mono ?_
        rintro e w3 ⟨rfl, htp⟩
        have hb3 := TP.below htp HTT.out HBB.out
        obtain ⟨A', hT', _, _⟩ := htp
        obtain ⟨v', u', hp', hq', hd', hA'⟩ := hT'
        have hcn := counts_any w.heap.size p v' S' w3 hp'
        obtain ⟨a', c', rfl, _, _, _⟩ := owns_shape1 (Nt.own hp')
        have hln := fun j => len_any p a' S'.L.length c' (w3.drewN j) ((PN.cells (show PN (w3.drewN j) w.heap.size p _ S' from Nt.kept hp' fun _ _ => rfl)).2.2.2.1)
        obtain ⟨y0, hy0⟩ : ∃ y : Int, y = (S'.sent : Int) := ⟨_, rfl⟩
        obtain ⟨y1, hy1⟩ : ∃ y : Int, y = (S'.came : Int) := ⟨_, rfl⟩
        obtain ⟨y2, hy2⟩ : ∃ y : Int, y = (S'.lost : Int) := ⟨_, rfl⟩
        obtain ⟨y3, hy3⟩ : ∃ y : Int, y = (S'.L.length : Int) := ⟨_, rfl⟩
        have hsum := HOK.out.sum
        have hfew := HOK.out.few
        have hlen := HOK.out.len
        rw [← hy0, ← hy1, ← hy2] at hcn
        simp only [← hy3] at hln
        have wa : IntKind.i64.wrap (y1 + y2) = y1 + y2 := IntWalk.i64_in _ (by omega)
        have wb : IntKind.i64.wrap (y1 + y2 + y3) = y0 := by rw [IntWalk.i64_in _ (by omega)]; omega
        have wc : ¬ (60 : Int) < y3 := by omega
        have HCN := Lib.hid hcn
        have HLN := Lib.hid hln
        have HT' := Lib.hid (show Two w3 w.heap.size p w1.heap.size A' S' from ⟨_, u', hp', hq', hd', hA'⟩)
        have HB3 := Lib.hid hb3
        clear hcn hln hp' hq' hd' hA' hb3 hy0 hy1 hy2 hy3 hsum hfew hlen
        go_wp2_with fail
        refine HCN.out.mono ?_
        rintro e w4 ⟨rfl, kk, hw4⟩
        subst hw4
        go_wp2_with fail
        refine (HLN.out kk).mono ?_
        rintro e w4 ⟨rfl, hw1⟩; obtain rfl := hw1.symm; clear hw1
        go_wp2_with fail
        refine (HLN.out kk).mono ?_
        rintro e w4 ⟨rfl, hw1⟩; obtain rfl := hw1.symm; clear hw1
        go_wp2
        go_roundw
        case rel => exact ⟨k + 1, A', S', by omega, by go_num, HT'.out.kept fun _ _ => rfl, HOK.out, ⟨HB3.out.os, HB3.out.tape, HB3.out.output, HB3.out.size, HB3.out.block⟩⟩
        case measure => simp [intOf]; omega
      · obtain rfl : k = l := by omega
        have HBB := Lib.hid hB
        clear hT hok hB
        go_wp2_with fail
        refine (HKN.out _ HBB.out).mono ?_
        rintro e w1 ⟨rfl, hb⟩
        go_wp2
        go_ret
        exact ⟨rfl, hb⟩
  · rw [Bool.not_eq_true] at hsh
    rw [hsh] at HS
    clear hsh
    go_enter Try.func4, Try.ntmps4
    go_wp2_with fail
    refine HS.out.mono ?_
    rintro e w1 ⟨rfl, hw1⟩; obtain rfl := hw1.symm; clear hw1
    go_wp2_with fail
    refine (HKN.out w (Below.refl _ _)).mono ?_
    rintro e w1 ⟨rfl, hb⟩
    go_wp2
    go_ret
    exact ⟨rfl, hb⟩

set_option maxRecDepth 20000 in
set_option maxHeartbeats 4000000 in
theorem plays_walk (a : Option Addr) (l c : Nat) (X : Nat → AK) (am : Option Addr) (lm cm : Nat) (Y : Nat → AK) (w : World) (hA : Acts w a l w.heap.size X) (hlc : l ≤ c) (hcm : c ≤ maxLen) (hM : Acts w am lm w.heap.size Y) (hlm : lm ≤ cm) (hcm2 : cm ≤ maxLen) :
    Calls Try.prog 3 #[.slice a l c, .slice am lm cm] w fun e w' => e = .returned (.bool true) ∧ Below w.heap.size w w' := by
  have hs := short_any a l c w.heap.size X w hA hlc hcm
  have hs2 := short_any am lm cm w.heap.size Y w hM hlm hcm2
  have hcx : (c : Int) ≤ 9223372036854775807 := by unfold maxLen at hcm; omega
  have hcx2 : (cm : Int) ≤ 9223372036854775807 := by unfold maxLen at hcm2; omega
  have HA := Lib.hid hA
  have HM := Lib.hid hM
  have HS := Lib.hid hs
  have HS2 := Lib.hid hs2
  have HKN := Lib.hid (fun w1 (hb : Below w.heap.size w w1) => (known_true w1).mono (R' := fun e w' => e = .returned (.bool true) ∧ Below w.heap.size w w') (fun e w' h => ⟨h.1, hb.trans (h.2.mono hb.size)⟩))
  clear hA hs hM hs2
  by_cases hsh : shortB l X = true
  · by_cases hsh2 : shortB lm Y = true
    · have hl150 : l ≤ 150 := (of_decide_eq_true hsh).1
      have hl150m : lm ≤ 150 := (of_decide_eq_true hsh2).1
      have HSM := Lib.hid (show ∀ k, k < l → (X k).b.size ≤ 200 from (of_decide_eq_true hsh).2)
      have HSM2 := Lib.hid (show ∀ k, k < lm → (Y k).b.size ≤ 200 from (of_decide_eq_true hsh2).2)
      rw [hsh] at HS
      rw [hsh2] at HS2
      have HN := Lib.hid (new_any w)
      clear hsh hsh2
      go_enter Try.func3, Try.ntmps3
      go_wp2_with fail
      refine HS.out.mono ?_
      rintro e w1 ⟨rfl, hw1⟩; obtain rfl := hw1.symm; clear hw1
      go_wp2_with fail
      refine HS2.out.mono ?_
      rintro e w1 ⟨rfl, hw1⟩; obtain rfl := hw1.symm; clear hw1
      go_wp2_with fail
      refine HN.out.mono ?_
      rintro e w1 ⟨p, v, rfl, hp, hb1⟩
      have hal : Below w1.heap.size w1 (w1.alloc (.cells #[.slice none 0 0, .int .i64 0, .int .i64 0, .int .i64 0] 30)) := (Below.refl _ _).alloc (Nat.le_refl _) _
      obtain ⟨A0, hT0, _⟩ := two_new hp (rn_new w1) hal hb1.size
      have HT0 := Lib.hid hT0
      have HB2 := Lib.hid (hb1.trans (hal.mono hb1.size))
      clear hp hal hT0 hb1
      go_wp2
      go_loopw [7] (fun i wr => ∃ (k : Nat) (A : Nat → Prop) (S : NS), k ≤ l ∧ i = .int .i64 k ∧ Two wr w.heap.size p w1.heap.size A S ∧ S.ok k ∧ Below w.heap.size w wr) (fun i _ => l - (intOf i).toNat)
      case atStart => exact ⟨0, A0, ns0, by omega, rfl, HT0.out, ns0_ok, HB2.out⟩
      case round =>
        obtain ⟨k, A, S, hk, rfl, hT, hok, hB⟩ := hrel
        by_cases hlt : k < l
        · have i0 : (0 : Int) ≤ (k : Int) := by omega
          have i1 : (k : Int) < (l : Int) := by omega
          have hAw := HA.out.below hB
          obtain ⟨b, off, rfl, hbl, hcl⟩ := hAw.at0 (by omega)
          obtain ⟨c0, c1, c2, c3, c4⟩ := hcl k hlt
          have hdo := do_any w.heap.size p w1.heap.size A S (X k) wr hT hB.size k hok (by omega) (by have := HSM.out k hlt; omega)
          have hok2 := hok.act (X k)
          have HTT := Lib.hid hT
          have HBB := Lib.hid hB
          have HOK := Lib.hid hok2
          unfold AK.val at hdo
          have HDO := Lib.hid hdo
          clear hcl hAw hT hok hB hok2 hdo
          generalize S.act (X k) = S' at HDO HOK
          generalize (X k).kind = x0 at *
          generalize (X k).to' = x1 at *
          generalize (X k).i = x2 at *
          generalize (X k).n = x3 at *
          generalize (X k).b = x4 at *
          go_wp2_with fail
          refine HDO.out.mono ?_
          rintro e w3 ⟨rfl, htp⟩
          have hb3 := TP.below htp HTT.out HBB.out
          obtain ⟨A', hT', _, _⟩ := htp
          have hal := alike_any w.heap.size p w1.heap.size A' S' w3 hT' HOK.out.len
          have HAL := Lib.hid hal
          have HT' := Lib.hid hT'
          have HB3 := Lib.hid hb3
          clear hal hT' hb3
          go_wp2_with fail
          refine HAL.out.mono ?_
          rintro e w4 ⟨rfl, hb4⟩
          have HB4 := Lib.hid hb4
          clear hb4
          go_wp2
          go_roundw
          case rel => exact ⟨k + 1, A', S', by omega, by go_num, HT'.out.below HB4.out, HOK.out, HB3.out.trans (HB4.out.mono HB3.out.size)⟩
          case measure => simp [intOf]; omega
        · obtain rfl : k = l := by omega
          obtain ⟨v1, u1, hp1, hq1, hd1, hA1⟩ := hT
          have hcp := copy_any w.heap.size p v1 S wr 0 hp1 hok.len
          have HCP := Lib.hid hcp
          have HBB := Lib.hid hB
          have HOK := Lib.hid hok
          have HT := Lib.hid (show Two wr w.heap.size p w1.heap.size A S from ⟨v1, u1, hp1, hq1, hd1, hA1⟩)
          have HQ1 := Lib.hid hq1
          clear hcp hp1 hq1 hd1 hA1 hok hB
          go_wp2_with fail
          refine HCP.out.mono ?_
          rintro e w5 ⟨p2, v2, rfl, hp2, hb5⟩
          have hrc := rcopy_any w.heap.size w1.heap.size u1 S w5 (Nt.below HQ1.out hb5) HOK.out.len
          have HRC := Lib.hid hrc
          have HP2 := Lib.hid hp2
          have HB5 := Lib.hid hb5
          clear hrc hp2 hb5
          go_wp2_with fail
          refine HRC.out.mono ?_
          rintro e w6 ⟨q2, u2, rfl, hq2, hb6⟩
          obtain ⟨A2, hT2, hA2⟩ := two_new (B := w.heap.size) (pn_low HP2.out (HBB.out.size)) hq2 hb6 (Nat.le_trans HBB.out.size HB5.out.size)
          have hb56 : Below wr.heap.size wr w6 := HB5.out.trans (hb6.mono HB5.out.size)
          have hT6 := HT.out.below hb56
          obtain ⟨sz, hsz⟩ : ∃ n, n = wr.heap.size := ⟨_, rfl⟩
          have hdis : ∀ j, A2 j → sz ≤ j := fun j hj => by
            rcases (hA2 j).1 hj with e | e
            · have := (Nt.ft_low HP2.out j e).1; omega
            · have := (Nt.ft_low hq2 j e).1; have := HB5.out.size; omega
          have HT2 := Lib.hid hT2
          have HT6 := Lib.hid (And.intro hT6 (show ∀ j, A j → j < sz from fun j hj => by rw [hsz]; exact (HT.out.low j hj).2))
          have HDS := Lib.hid hdis
          have HB6 := Lib.hid (HBB.out.trans (hb56.mono HBB.out.size))
          have HZ6 := Lib.hid (show sz ≤ w6.heap.size from by rw [hsz]; exact hb56.size)
          clear hT2 hT6 hdis hb56 hq2 hb6 hA2 hsz
          go_wp2
          go_loopw [10] (fun i wq => ∃ (j : Nat) (A' : Nat → Prop) (S' : NS), j ≤ lm ∧ i = .int .i64 j ∧ Two wq w.heap.size p2 q2 A' S' ∧ (∀ t, A' t → sz ≤ t) ∧ Two wq w.heap.size p w1.heap.size A S ∧ S'.ok (k + j) ∧ Below w.heap.size w wq ∧ sz ≤ wq.heap.size) (fun i _ => lm - (intOf i).toNat)
          case atStart => exact ⟨0, A2, S, by omega, rfl, HT2.out, HDS.out, HT6.out.1, HOK.out, HB6.out, HZ6.out⟩
          case round =>
            obtain ⟨j, A', S', hj, rfl, hT', hlow, hTo, hok', hB', hsz⟩ := hrel
            by_cases hlt2 : j < lm
            · have i0 : (0 : Int) ≤ (j : Int) := by omega
              have i1 : (j : Int) < (lm : Int) := by omega
              have hMw := HM.out.below hB'
              obtain ⟨b, off, rfl, hbl, hcl⟩ := hMw.at0 (by omega)
              obtain ⟨c0, c1, c2, c3, c4⟩ := hcl j hlt2
              have hdo := do_any w.heap.size p2 q2 A' S' (Y j) wr hT' hB'.size (k + j) hok' (by omega) (by have := HSM2.out j hlt2; omega)
              have hok2 := hok'.act (Y j)
              have HTT := Lib.hid hT'
              have HBB' := Lib.hid hB'
              have HOK' := Lib.hid hok2
              have HTO := Lib.hid hTo
              have HLOW := Lib.hid hlow
              have HSZ := Lib.hid hsz
              unfold AK.val at hdo
              have HDO := Lib.hid hdo
              clear hcl hMw hT' hok' hB' hok2 hdo hTo hlow hsz
              generalize S'.act (Y j) = S2 at HDO HOK'
              generalize (Y j).kind = x0 at *
              generalize (Y j).to' = x1 at *
              generalize (Y j).i = x2 at *
              generalize (Y j).n = x3 at *
              generalize (Y j).b = x4 at *
              go_wp2_with fail
              refine HDO.out.mono ?_
              rintro e w7 ⟨rfl, htp⟩
              have hb7 := TP.below htp HTT.out HBB'.out
              obtain ⟨A'', hT'', hF'', hl''⟩ := htp
              have hto := HTO.out.fr hF'' (fun t ht ht2 => by have := HT6.out.2 t ht; have := HLOW.out t ht2; omega)
              have hlo2 : ∀ t, A'' t → sz ≤ t := fun t ht => by
                rcases hl'' t ht with e | e
                · exact HLOW.out t e
                · have := HSZ.out; omega
              have hsz2 : sz ≤ w7.heap.size := Nat.le_trans HSZ.out hF''.size
              have HR := Lib.hid (And.intro hT'' (And.intro hlo2 (And.intro hto (And.intro hb7 hsz2))))
              clear hb7 hT'' hF'' hl'' hto hlo2 hsz2
              go_wp2
              go_roundw
              case rel => exact ⟨j + 1, A'', S2, by omega, by go_num, HR.out.1, HR.out.2.1, HR.out.2.2.1, HOK'.out, HR.out.2.2.2.1, HR.out.2.2.2.2⟩
              case measure => simp [intOf]; omega
            · obtain rfl : j = lm := by omega
              have hal1 := alike_any w.heap.size p w1.heap.size A S wr hTo HOK.out.len
              have HAL1 := Lib.hid hal1
              have HTT := Lib.hid hT'
              have HBB' := Lib.hid hB'
              have HOK' := Lib.hid hok'
              clear hal1 hT' hB' hok' hTo hlow hsz
              go_wp2_with fail
              refine HAL1.out.mono ?_
              rintro e w7 ⟨rfl, hb7⟩
              have hal2 := alike_any w.heap.size p2 q2 A' S' w7 (HTT.out.below hb7) HOK'.out.len
              have HAL2 := Lib.hid hal2
              have HB7 := Lib.hid (HBB'.out.trans (hb7.mono HBB'.out.size))
              clear hal2 hb7
              go_wp2_with fail
              refine HAL2.out.mono ?_
              rintro e w8 ⟨rfl, hb8⟩
              have HB8 := Lib.hid (HB7.out.trans (hb8.mono HB7.out.size))
              clear hb8
              go_wp2_with fail
              refine (HKN.out _ HB8.out).mono ?_
              rintro e w9 ⟨rfl, hb⟩
              go_wp2
              go_ret
              exact ⟨rfl, hb⟩
    · rw [Bool.not_eq_true] at hsh2
      rw [hsh] at HS
      rw [hsh2] at HS2
      clear hsh hsh2
      go_enter Try.func3, Try.ntmps3
      go_wp2_with fail
      refine HS.out.mono ?_
      rintro e w1 ⟨rfl, hw1⟩; obtain rfl := hw1.symm; clear hw1
      go_wp2_with fail
      refine HS2.out.mono ?_
      rintro e w1 ⟨rfl, hw1⟩; obtain rfl := hw1.symm; clear hw1
      go_wp2_with fail
      refine (HKN.out w (Below.refl _ _)).mono ?_
      rintro e w1 ⟨rfl, hb⟩
      go_wp2
      go_ret
      exact ⟨rfl, hb⟩
  · rw [Bool.not_eq_true] at hsh
    rw [hsh] at HS
    clear hsh
    go_enter Try.func3, Try.ntmps3
    go_wp2_with fail
    refine HS.out.mono ?_
    rintro e w1 ⟨rfl, hw1⟩; obtain rfl := hw1.symm; clear hw1
    go_wp2_with fail
    refine (HKN.out w (Below.refl _ _)).mono ?_
    rintro e w1 ⟨rfl, hb⟩
    go_wp2
    go_ret
    exact ⟨rfl, hb⟩
end Go.Proofs.Ythbfeflijlcboaa


/-
  The walks of DiskPlays and DiskApart.
-/
import Derived.Test.YtfbeblpkjpijbaaEB
namespace Go.Proofs.Ytfbeblpkjpijbaa
open Go.RowKit
set_option linter.unusedVariables false
set_option linter.unusedSimpArgs false

theorem RD.lowB {w B B' p v1 v2 S} (h : RD w B p v1 v2 S) (hl : B' ≤ B) : RD w B' p v1 v2 S := ⟨Dk.blk h, Nat.le_trans hl (Dk.low h), owns_low (Dk.own1 h) hl, owns_low (Dk.own2 h) hl⟩
theorem PD.lowB {w B B' p v1 v2 S} (h : PD w B p v1 v2 S) (hl : B' ≤ B) : PD w B' p v1 v2 S := by
  obtain ⟨fu, d, e⟩ := h
  exact ⟨fu, ⟨d.blk, Nat.le_trans hl d.low, owns_low d.own1 hl, owns_low d.own2 hl⟩, e⟩

theorem two_new {w1 w2 : World} {B p q : Nat} {v1 v2 u1 u2 : Value} {S : DS} (hp : PD w1 B p v1 v2 S) (hq : RD w2 w1.heap.size q u1 u2 S) (hb : Below w1.heap.size w1 w2) (hB : B ≤ w1.heap.size) : ∃ A, Two w2 B p q A S ∧ ∀ k, A k ↔ foot p v1 v2 k ∨ foot q u1 u2 k :=
  ⟨_, ⟨v1, v2, u1, u2, hp.below hb, hq.lowB hB, fun k h1 h2 => by
    have := (hp.foot_low k h1).2
    have := (hq.foot_low k h2).1
    omega, fun k => Iff.rfl⟩, fun k => Iff.rfl⟩

theorem TP.below {w w' w0 : World} {p q : Nat} {A : Nat → Prop} {S S' : DS} (h : TP w w0.heap.size p q A S' w') (h0 : Two w w0.heap.size p q A S) (hb : Below w0.heap.size w0 w) : Below w0.heap.size w0 w' := by
  obtain ⟨A', hT, hF, hl⟩ := h
  exact hb.trans (hF.below (fun k hk => (h0.low k hk).1) hb.size)

set_option maxRecDepth 20000 in
set_option maxHeartbeats 4000000 in
theorem plays_walk (n : Int) (a : Option Addr) (l c : Nat) (X : Nat → AK) (w : World) (hA : Acts w a l w.heap.size X) (hlc : l ≤ c) (hcm : c ≤ maxLen) :
    Calls Try.prog 3 #[.int .i64 n, .slice a l c] w fun e w' => e = .returned (.bool true) ∧ Below w.heap.size w w' := by
  have hs := short_any a l c w.heap.size X w hA hlc hcm
  have hcx : (c : Int) ≤ 9223372036854775807 := by unfold maxLen at hcm; omega
  have HA := Lib.hid hA
  have HS := Lib.hid hs
  have HKN := Lib.hid (fun w1 (hb : Below w.heap.size w w1) => (known_true w1).mono (R' := fun e w' => e = .returned (.bool true) ∧ Below w.heap.size w w') (fun e w' h => ⟨h.1, hb.trans (h.2.mono hb.size)⟩))
  clear hA hs
  by_cases hsh : shortB l X = true
  · have hl100 : l ≤ 100 := (of_decide_eq_true hsh).1
    rw [hsh] at HS
    clear hsh
    by_cases h40 : (40 : Int) < n
    · go_enter Try.func3, Try.ntmps3
      go_wp2_with fail
      refine HS.out.mono ?_
      rintro e w1 ⟨rfl, hw1⟩; obtain rfl := hw1.symm; clear hw1
      go_wp2_with fail
      refine (HKN.out w (Below.refl _ _)).mono ?_
      rintro e w1 ⟨rfl, hb⟩
      go_wp2
      go_ret
      exact ⟨rfl, hb⟩
    · by_cases h1 : n < 1
      · have HN1 := Lib.hid (new_bad n w (.inl h1))
        have HN2 := Lib.hid (rnew_bad n w (.inl h1))
        go_enter Try.func3, Try.ntmps3
        go_wp2_with fail
        refine HS.out.mono ?_
        rintro e w1 ⟨rfl, hw1⟩; obtain rfl := hw1.symm; clear hw1
        go_wp2_with fail
        refine HN1.out.mono ?_
        rintro e w1 ⟨rfl, hw1⟩; obtain rfl := hw1.symm; clear hw1
        go_wp2_with fail
        refine HN2.out.mono ?_
        rintro e w1 ⟨rfl, hw1⟩; obtain rfl := hw1.symm; clear hw1
        go_wp2
        go_loopw [9] (fun i wr => i = .int .i64 0 ∧ wr = w) (fun _ _ => 0)
        case atStart => exact ⟨rfl, rfl⟩
        case round =>
          obtain ⟨rfl, hwr⟩ := hrel
          subst hwr
          by_cases h0 : 0 < l
          · have i1 : (0 : Int) < (l : Int) := by omega
            go_wp2_with fail
            refine (HKN.out _ (Below.refl _ _)).mono ?_
            rintro e w1 ⟨rfl, hb⟩
            go_wp2
            go_ret
            exact ⟨rfl, hb⟩
          · have i1 : ¬ (0 : Int) < (l : Int) := by omega
            go_wp2_with fail
            refine (HKN.out _ (Below.refl _ _)).mono ?_
            rintro e w1 ⟨rfl, hb⟩
            go_wp2
            go_ret
            exact ⟨rfl, hb⟩
      · obtain ⟨m, rfl⟩ : ∃ m : Nat, n = (m : Int) := ⟨n.toNat, by omega⟩
        have hm1 : 1 ≤ m := by omega
        have hm2 : m ≤ 40 := by omega
        have HN1 := Lib.hid (new_any m w hm1 (by omega))
        clear h1
        go_enter Try.func3, Try.ntmps3
        go_wp2_with fail
        refine HS.out.mono ?_
        rintro e w1 ⟨rfl, hw1⟩; obtain rfl := hw1.symm; clear hw1
        go_wp2_with fail
        refine HN1.out.mono ?_
        rintro e w1 ⟨p, v1, rfl, hp, hb1⟩
        have HP := Lib.hid hp
        have HB1 := Lib.hid hb1
        have HN2 := Lib.hid (rnew_any m w1 hm1 (by omega))
        clear hp hb1
        go_wp2_with fail
        refine HN2.out.mono ?_
        rintro e w2 ⟨q, u1, rfl, hq, hb2⟩
        obtain ⟨A0, hT0, _⟩ := two_new HP.out hq hb2 HB1.out.size
        have HT0 := Lib.hid hT0
        have HB2 := Lib.hid (HB1.out.trans (hb2.mono HB1.out.size))
        clear hq hb2 hT0
        go_wp2
        go_loopw [9] (fun i wr => ∃ (k : Nat) (A : Nat → Prop) (S : DS), k ≤ l ∧ i = .int .i64 k ∧ Two wr w.heap.size p q A S ∧ S.ok k ∧ Below w.heap.size w wr) (fun i _ => l - (intOf i).toNat)
        case atStart => exact ⟨0, A0, ds0 m, by omega, rfl, HT0.out, ds0_ok m (by omega), HB2.out⟩
        case round =>
          obtain ⟨k, A, S, hk, rfl, hT, hok, hB⟩ := hrel
          by_cases hlt : k < l
          · have i0 : (0 : Int) ≤ (k : Int) := by omega
            have i1 : (k : Int) < (l : Int) := by omega
            have hAw := HA.out.below hB
            obtain ⟨b, off, rfl, hbl, hcl⟩ := hAw.at0 (by omega)
            obtain ⟨c0, c1, c2, c3⟩ := hcl k hlt
            have hdo := do_any w.heap.size p q A S (X k) wr hT hB.size k hok (by omega) (hAw.keep k hlt) (fun b' off' e h0 hf => by have := hAw.klow k hlt b' off' e h0; have := (hT.low _ hf).1; omega)
            have hok2 := hok.act (X k) (hAw.high k hlt)
            have HTT := Lib.hid hT
            have HBB := Lib.hid hB
            have HOK := Lib.hid hok2
            unfold AK.val at hdo
            have HDO := Lib.hid hdo
            clear hcl hAw hT hok hB hok2 hdo
            generalize S.act (X k) = S' at HDO HOK
            generalize (X k).kind = x0 at *
            generalize (X k).at' = x1 at *
            generalize (X k).data = x2 at *
            generalize (X k).ka = x3 at *
            generalize (X k).kn = x4 at *
            generalize (X k).kc = x5 at *
            go_wp2_with fail
            refine HDO.out.mono ?_
            rintro e w3 ⟨rfl, htp⟩
            have hb3 := TP.below htp HTT.out HBB.out
            obtain ⟨A', hT', _, _⟩ := htp
            have hal := alike_any w.heap.size p q A' S' w3 hT' (by have := HOK.out.few; have := HOK.out.did; omega) (by have := HOK.out.len; omega)
            have HAL := Lib.hid hal
            have HT' := Lib.hid hT'
            have HB3 := Lib.hid hb3
            clear hal hT' hb3
            go_wp2_with fail
            refine HAL.out.mono ?_
            rintro e w4 ⟨rfl, hb4⟩
            have HB4 := Lib.hid hb4
            clear hb4
            go_wp2
            go_roundw
            case rel => exact ⟨k + 1, A', S', by omega, by go_num, HT'.out.below HB4.out, HOK.out, HB3.out.trans (HB4.out.mono HB3.out.size)⟩
            case measure => simp [intOf]; omega
          · obtain rfl : k = l := by omega
            have HBB := Lib.hid hB
            clear hT hok hB
            go_wp2_with fail
            refine (HKN.out _ HBB.out).mono ?_
            rintro e w1 ⟨rfl, hb⟩
            go_wp2
            go_ret
            exact ⟨rfl, hb⟩
  · rw [Bool.not_eq_true] at hsh
    rw [hsh] at HS
    clear hsh
    go_enter Try.func3, Try.ntmps3
    go_wp2_with fail
    refine HS.out.mono ?_
    rintro e w1 ⟨rfl, hw1⟩; obtain rfl := hw1.symm; clear hw1
    go_wp2_with fail
    refine (HKN.out w (Below.refl _ _)).mono ?_
    rintro e w1 ⟨rfl, hb⟩
    go_wp2
    go_ret
    exact ⟨rfl, hb⟩

end Go.Proofs.Ytfbeblpkjpijbaa

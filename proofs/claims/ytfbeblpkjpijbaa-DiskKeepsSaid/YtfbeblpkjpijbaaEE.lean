/-
  The walk of DiskApart.
-/
import Derived.Test.YtfbeblpkjpijbaaEC
namespace Go.Proofs.Ytfbeblpkjpijbaa
open Go.RowKit
set_option linter.unusedVariables false
set_option linter.unusedSimpArgs false

theorem act_len (S : DS) (x : AK) : (S.act x).L.length = S.L.length := by
  unfold DS.act
  split
  · unfold DS.write
    split
    · rfl
    · split
      · split
        · split
          · rw [burnt_L]
          · show S.burnt.L.length = _
            rw [burnt_L]
        · rfl
      · rfl
  · split
    · unfold DS.flush
      split
      · rfl
      · split
        · rw [burnt_L]
        · exact appW_length _ _ _
    · split
      · rfl
      · split
        · exact appK_length _ _ _ _
        · split
          · unfold DS.up
            split <;> rfl
          · rfl

/-- The acts that are done, one behind the other. -/
structure AtAct (wr : World) (w : World) (p q : Nat) (A : Nat → Prop) (S : DS) (k m : Nat) : Prop where
  two : Two wr w.heap.size p q A S
  ok : S.ok k
  len : S.L.length = m
  old : Below w.heap.size w wr

set_option maxRecDepth 20000 in
set_option maxHeartbeats 4000000 in
theorem apart_walk (n : Int) (a : Option Addr) (l c : Nat) (X : Nat → AK) (a' : Option Addr) (l' c' : Nat) (X' : Nat → AK) (w : World) (hA : Acts w a l w.heap.size X) (hlc : l ≤ c) (hcm : c ≤ maxLen) (hA' : Acts w a' l' w.heap.size X') (hlc' : l' ≤ c') (hcm' : c' ≤ maxLen) :
    Calls Try.prog 5 #[.int .i64 n, .slice a l c, .slice a' l' c'] w fun e w' => e = .returned (.bool true) ∧ Below w.heap.size w w' := by
  have hs := short_any a l c w.heap.size X w hA hlc hcm
  have hs' := short_any a' l' c' w.heap.size X' w hA' hlc' hcm'
  have hcx : (c : Int) ≤ 9223372036854775807 := by unfold maxLen at hcm; omega
  have hcx' : (c' : Int) ≤ 9223372036854775807 := by unfold maxLen at hcm'; omega
  have HA := Lib.hid hA
  have HA' := Lib.hid hA'
  have HS := Lib.hid hs
  have HS' := Lib.hid hs'
  have HKN := Lib.hid (fun w1 (hb : Below w.heap.size w w1) => (known_true w1).mono (R' := fun e w' => e = .returned (.bool true) ∧ Below w.heap.size w w') (fun e w' h => ⟨h.1, hb.trans (h.2.mono hb.size)⟩))
  clear hA hs hA' hs'
  by_cases hsh : shortB l X = true
  · have hl100 : l ≤ 100 := (of_decide_eq_true hsh).1
    rw [hsh] at HS
    clear hsh
    by_cases hsh' : shortB l' X' = true
    · have hl100' : l' ≤ 100 := (of_decide_eq_true hsh').1
      rw [hsh'] at HS'
      clear hsh'
      by_cases hn1 : n < 1
      · go_enter Try.func5, Try.ntmps5
        go_wp2_with fail
        refine HS.out.mono ?_
        rintro e w1 ⟨rfl, hw1⟩; obtain rfl := hw1.symm; clear hw1
        go_wp2_with fail
        refine HS'.out.mono ?_
        rintro e w1 ⟨rfl, hw1⟩; obtain rfl := hw1.symm; clear hw1
        go_wp2_with fail
        refine (HKN.out w (Below.refl _ _)).mono ?_
        rintro e w1 ⟨rfl, hb⟩
        go_wp2
        go_ret
        exact ⟨rfl, hb⟩
      by_cases h40 : (40 : Int) < n
      · go_enter Try.func5, Try.ntmps5
        go_wp2_with fail
        refine HS.out.mono ?_
        rintro e w1 ⟨rfl, hw1⟩; obtain rfl := hw1.symm; clear hw1
        go_wp2_with fail
        refine HS'.out.mono ?_
        rintro e w1 ⟨rfl, hw1⟩; obtain rfl := hw1.symm; clear hw1
        go_wp2_with fail
        refine (HKN.out w (Below.refl _ _)).mono ?_
        rintro e w1 ⟨rfl, hb⟩
        go_wp2
        go_ret
        exact ⟨rfl, hb⟩
      obtain ⟨m, rfl⟩ : ∃ m : Nat, n = (m : Int) := ⟨n.toNat, by omega⟩
      have hm1 : 1 ≤ m := by omega
      have hm2 : m ≤ 40 := by omega
      have HN1 := Lib.hid (new_any m w hm1 (by omega))
      go_enter Try.func5, Try.ntmps5
      go_wp2_with fail
      refine HS.out.mono ?_
      rintro e w1 ⟨rfl, hw1⟩; obtain rfl := hw1.symm; clear hw1
      go_wp2_with fail
      refine HS'.out.mono ?_
      rintro e w1 ⟨rfl, hw1⟩; obtain rfl := hw1.symm; clear hw1
      go_wp2_with fail
      refine HN1.out.mono ?_
      rintro e w1 ⟨p, v1, rfl, hp, hb1⟩
      have HP := Lib.hid hp
      have HB1 := Lib.hid hb1
      have HN2 := Lib.hid (rnew_any m w1 hm1 (by omega))
      clear hp hb1
      go_wp2_with fail
      refine HN2.out.mono ?_
      rintro e w2 ⟨q, u1, rfl, hq, hb2⟩
      obtain ⟨A0, hT0, _⟩ := two_new HP.out hq hb2 HB1.out.size
      have H0 := Lib.hid (show AtAct w2 w p q A0 (ds0 m) 0 m from ⟨hT0, ds0_ok m (by omega), by simp [ds0], HB1.out.trans (hb2.mono HB1.out.size)⟩)
      clear hq hb2 hT0
      go_wp2
      go_loopw [11] (fun i wr => ∃ (k : Nat) (A : Nat → Prop) (S : DS), k ≤ l ∧ i = .int .i64 k ∧ AtAct wr w p q A S k m) (fun i _ => l - (intOf i).toNat)
      case atStart => exact ⟨0, A0, ds0 m, by omega, rfl, H0.out⟩
      case round =>
        obtain ⟨k, A, S, hk, rfl, hat⟩ := hrel
        by_cases hlt : k < l
        · have i0 : (0 : Int) ≤ (k : Int) := by omega
          have i1 : (k : Int) < (l : Int) := by omega
          have hAw := HA.out.below hat.old
          obtain ⟨b, off, rfl, hbl, hcl⟩ := hAw.at0 (by omega)
          obtain ⟨c0, c1, c2, c3⟩ := hcl k hlt
          have hdo := do_any w.heap.size p q A S (X k) wr hat.two hat.old.size k hat.ok (by omega) (hAw.keep k hlt) (fun b' off' e h0 hf => by have := hAw.klow k hlt b' off' e h0; have := (hat.two.low _ hf).1; omega)
          have hok2 := hat.ok.act (X k) (hAw.high k hlt)
          have hln2 := (act_len S (X k)).trans hat.len
          have HAT := Lib.hid hat
          have HOK := Lib.hid (And.intro hok2 hln2)
          unfold AK.val at hdo
          have HDO := Lib.hid hdo
          clear hcl hAw hat hok2 hln2 hdo
          generalize S.act (X k) = S' at HDO HOK
          generalize (X k).kind = x0 at *
          generalize (X k).at' = x1 at *
          generalize (X k).data = x2 at *
          generalize (X k).ka = x3 at *
          generalize (X k).kn = x4 at *
          generalize (X k).kc = x5 at *
          go_wp2_with fail
          refine HDO.out.mono ?_
          rintro e w3 ⟨rfl, htp⟩
          have hb3 := TP.below htp HAT.out.two HAT.out.old
          obtain ⟨A', hT', _, _⟩ := htp
          have HT' := Lib.hid (show AtAct w3 w p q A' S' (k + 1) m from ⟨hT', HOK.out.1, HOK.out.2, hb3⟩)
          clear hT' hb3
          go_wp2
          go_roundw
          case rel => exact ⟨k + 1, A', S', by omega, by go_num, HT'.out⟩
          case measure => simp [intOf]; omega
        · obtain rfl : k = l := by omega
          have i1 : ¬ (k : Int) < (k : Int) := by omega
          have HAT := Lib.hid hat
          obtain ⟨v1, v2, u1, u2, hp, hq, hd, hAA⟩ := hat.two
          have hW : S.W.length ≤ 1000000 := by have := hat.ok.few; have := hat.ok.did; omega
          have hL := hat.len
          have h1 := copy_any w.heap.size p v1 v2 S wr hp hW (by omega)
          have h2 := fun w1 (hb : Below wr.heap.size wr w1) => rcopy_any w.heap.size q u1 u2 S w1 (hq.below hb) hW (by omega) (by omega)
          have H1 := Lib.hid h1
          have H2 := Lib.hid h2
          clear h1 h2 hat hp hq hd hAA
          go_wp2_with fail
          refine H1.out.mono ?_
          rintro e w3 ⟨p', v1', v2', rfl, hp', hb3⟩
          have HP' := Lib.hid hp'
          have HB3 := Lib.hid hb3
          have H3 := Lib.hid (H2.out w3 hb3)
          clear hp' hb3
          go_wp2_with fail
          refine H3.out.mono ?_
          rintro e w4 ⟨q', u1', u2', rfl, hq', hb4⟩
          have hb34 := HB3.out.trans (hb4.mono HB3.out.size)
          obtain ⟨A1, hT1, hA1⟩ := two_new (HP'.out.lowB HAT.out.old.size) hq' hb4 (Nat.le_trans HAT.out.old.size HB3.out.size)
          have hdis : ∀ j, A j → ¬ A1 j := fun j hj hj1 => by
            have h5 := (HAT.out.two.low j hj).2
            have h6 := HB3.out.size
            rcases (hA1 j).1 hj1 with h | h
            · have := (HP'.out.foot_low j h).1; omega
            · have := (hq'.foot_low j h).1; omega
          have H5 := Lib.hid (show AtAct w4 w p q A S k m from ⟨HAT.out.two.below hb34, HAT.out.ok, HAT.out.len, HAT.out.old.trans (hb34.mono HAT.out.old.size)⟩)
          have H6 := Lib.hid (show AtAct w4 w p' q' A1 S (k + 0) m from ⟨hT1, HAT.out.ok, HAT.out.len, HAT.out.old.trans (hb34.mono HAT.out.old.size)⟩)
          have HDIS := Lib.hid hdis
          clear hT1 hA1 hdis hq' hb4 hb34
          go_wp2
          go_loopw [14] (fun i wr => ∃ (j : Nat) (A' : Nat → Prop) (S' : DS), j ≤ l' ∧ i = .int .i64 j ∧ AtAct wr w p q A S k m ∧ AtAct wr w p' q' A' S' (k + j) m ∧ ∀ x, A x → ¬ A' x) (fun i _ => l' - (intOf i).toNat)
          case atStart => exact ⟨0, A1, S, by omega, rfl, H5.out, H6.out, HDIS.out⟩
          case round =>
            obtain ⟨j, A', S', hj, rfl, hat1, hat2, hdis⟩ := hrel
            by_cases hlt2 : j < l'
            · have i0 : (0 : Int) ≤ (j : Int) := by omega
              have i2 : (j : Int) < (l' : Int) := by omega
              have hAw := HA'.out.below hat1.old
              obtain ⟨b, off, rfl, hbl, hcl⟩ := hAw.at0 (by omega)
              obtain ⟨c0, c1, c2, c3⟩ := hcl j hlt2
              have hdo := do_any w.heap.size p' q' A' S' (X' j) wr hat2.two hat2.old.size (k + j) hat2.ok (by omega) (hAw.keep j hlt2) (fun b' off' e h0 hf => by have := hAw.klow j hlt2 b' off' e h0; have := (hat2.two.low _ hf).1; omega)
              have hok2 := hat2.ok.act (X' j) (hAw.high j hlt2)
              have hln2 := (act_len S' (X' j)).trans hat2.len
              have HAT1 := Lib.hid hat1
              have HAT2 := Lib.hid hat2
              have HDI := Lib.hid hdis
              have HOK := Lib.hid (And.intro hok2 hln2)
              unfold AK.val at hdo
              have HDO := Lib.hid hdo
              clear hcl hAw hat1 hat2 hok2 hln2 hdo hdis
              generalize S'.act (X' j) = S2 at HDO HOK
              generalize (X' j).kind = x0 at *
              generalize (X' j).at' = x1 at *
              generalize (X' j).data = x2 at *
              generalize (X' j).ka = x3 at *
              generalize (X' j).kn = x4 at *
              generalize (X' j).kc = x5 at *
              go_wp2_with fail
              refine HDO.out.mono ?_
              rintro e w5 ⟨rfl, htp⟩
              have hb5 := TP.below htp HAT2.out.two HAT2.out.old
              obtain ⟨A2, hT2, hF2, hl2⟩ := htp
              have H7 := Lib.hid (show AtAct w5 w p' q' A2 S2 (k + (j + 1)) m from ⟨hT2, HOK.out.1, HOK.out.2, hb5⟩)
              have H8 := Lib.hid (show AtAct w5 w p q A S k m from ⟨HAT1.out.two.fr hF2 HDI.out, HAT1.out.ok, HAT1.out.len, hb5⟩)
              have H9 := Lib.hid (show ∀ x, A x → ¬ A2 x from fun x hx hx2 => by
                rcases hl2 x hx2 with h | h
                · exact HDI.out x hx h
                · have := (HAT1.out.two.low x hx).2; omega)
              clear hT2 hb5 hF2 hl2
              go_wp2
              go_roundw
              case rel => exact ⟨j + 1, A2, S2, by omega, by go_num, H8.out, H7.out, H9.out⟩
              case measure => simp [intOf]; omega
            · obtain rfl : j = l' := by omega
              have i2 : ¬ (j : Int) < (j : Int) := by omega
              have HAT1 := Lib.hid hat1
              have HAT2 := Lib.hid hat2
              have ha1 := alike_any w.heap.size p q A S wr hat1.two hW (by omega)
              have ha2 := fun w1 (hb : Below wr.heap.size wr w1) => alike_any w.heap.size p' q' A' S' w1 (hat2.two.below hb) (by have := hat2.ok.few; have := hat2.ok.did; omega) (by have := hat2.len; omega)
              have HA1 := Lib.hid ha1
              have HA2 := Lib.hid ha2
              clear ha1 ha2 hat1 hat2 hdis
              go_wp2_with fail
              refine HA1.out.mono ?_
              rintro e w5 ⟨rfl, hb5⟩
              have HB5 := Lib.hid hb5
              have H3 := Lib.hid (HA2.out w5 hb5)
              clear hb5
              go_wp2_with fail
              refine H3.out.mono ?_
              rintro e w6 ⟨rfl, hb6⟩
              have HB6 := Lib.hid ((HAT1.out.old.trans (HB5.out.mono HAT1.out.old.size)).trans (hb6.mono (HAT1.out.old.trans (HB5.out.mono HAT1.out.old.size)).size))
              clear hb6
              go_wp2_with fail
              refine (HKN.out w6 HB6.out).mono ?_
              rintro e w7 ⟨rfl, hb⟩
              go_wp2
              go_ret
              exact ⟨rfl, hb⟩
    · rw [Bool.not_eq_true] at hsh'
      rw [hsh'] at HS'
      clear hsh'
      go_enter Try.func5, Try.ntmps5
      go_wp2_with fail
      refine HS.out.mono ?_
      rintro e w1 ⟨rfl, hw1⟩; obtain rfl := hw1.symm; clear hw1
      go_wp2_with fail
      refine HS'.out.mono ?_
      rintro e w1 ⟨rfl, hw1⟩; obtain rfl := hw1.symm; clear hw1
      go_wp2_with fail
      refine (HKN.out w (Below.refl _ _)).mono ?_
      rintro e w1 ⟨rfl, hb⟩
      go_wp2
      go_ret
      exact ⟨rfl, hb⟩
  · rw [Bool.not_eq_true] at hsh
    rw [hsh] at HS
    clear hsh
    go_enter Try.func5, Try.ntmps5
    go_wp2_with fail
    refine HS.out.mono ?_
    rintro e w1 ⟨rfl, hw1⟩; obtain rfl := hw1.symm; clear hw1
    go_wp2_with fail
    refine (HKN.out w (Below.refl _ _)).mono ?_
    rintro e w1 ⟨rfl, hb⟩
    go_wp2
    go_ret
    exact ⟨rfl, hb⟩

end Go.Proofs.Ytfbeblpkjpijbaa

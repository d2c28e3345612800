/-
  Pasts: the document's Crash, New.
-/
import Derived.Test.YthapcpfemmfhoaaAP8
namespace Go.Proofs.Ythapcpfemmfhoaa
namespace Ap
open Go.RowKit
set_option linter.unusedVariables false
set_option linter.unusedSimpArgs false

set_option maxRecDepth 20000 in
set_option maxHeartbeats 2000000 in
theorem rcrash_any (p : Nat) (F : Nat → Prop) (S : PS) (af : Option Addr) (nf cf' : Nat) (Fs : List ByteArray) (w : World) (h : RM w p F S) (hfs : Rs w af nf cf' Fs) (hdis : ∀ b off, af = some ⟨b, off, none⟩ → 0 < nf → ¬ F b) (N : Nat) (hok : S.ok N) (hN : N ≤ 1000) :
    Calls Try.prog 15 #[.pointer (some ⟨p, 0, none⟩), .slice af nf cf'] w fun e w' => e = .returned (.int .i64 (S.crash Fs).1) ∧ RQ w F p (S.crash Fs).2 w' := by
  have hPM := h
  obtain ⟨v1, v2, v3, vs, xs, hi, hF, hl⟩ := h
  have hol := hok.l
  obtain ⟨a, c, a2, c2, a3, c3, rfl, hle, hcm, _, _, _, _, _, _, c0, _⟩ := hi.cells
  have hmx : (c : Int) ≤ 9223372036854775807 := by unfold maxLen at hcm; omega
  have hmf : (cf' : Int) ≤ 9223372036854775807 := by have := hfs.cm; unfold maxLen at this; omega
  have hfl := hfs.le
  have hfe := hfs.len
  by_cases hnl : nf = S.L.length
  · have HN := Lib.hid hnl
    have HE := Lib.hid (show (∀ k, k < nf → isIn (LAt S.L k) (lAt Fs k) = true) → ∀ w', (∃ vs', RI w' p (.slice a S.L.length c) v2 v3 vs' xs ⟨setsL S.L (fun j => [lAt Fs j]) S.L.length, S.E⟩ ∧ (∀ j, rf p (.slice a S.L.length c) v2 v3 vs' xs ⟨setsL S.L (fun j => [lAt Fs j]) S.L.length, S.E⟩ j → F j ∨ w.heap.size ≤ j) ∧ Fr F w w') → S.crash Fs = (0, ⟨Fs.map fun s => [s], S.E⟩) ∧ RQ w F p ⟨Fs.map fun s => [s], S.E⟩ w' from by
      rintro hall w' ⟨vs', h1, h2, h3⟩
      rw [setsL_crash _ _ (by omega)] at h1 h2
      refine ⟨by unfold PS.crash; rw [if_pos (by omega), if_pos (allIn_iff.mpr fun i hi => hall i (by omega))], fun j => F j ∨ (w.heap.size ≤ j ∧ j < w'.heap.size), ⟨_, _, _, _, _, h1, fun j hj => (h2 j hj).imp id fun e => ⟨e, h1.lt j hj⟩, ?_⟩, h3, ?_⟩
      · rintro j (e | e)
        · exact Nat.lt_of_lt_of_le (hl j e) h3.size
        · exact e.2
      · rintro j (e | e)
        · exact .inl e
        · exact .inr e.1)
    have HNO := Lib.hid (show ∀ k, k < nf → isIn (LAt S.L k) (lAt Fs k) = false → S.crash Fs = (10, S) from fun k hk hf => by
      unfold PS.crash
      rw [if_pos (by omega), if_neg]
      intro hall
      have := allIn_iff.mp hall k (by omega)
      rw [hf] at this; cases this)
    have HI := Lib.hid hi
    have HOK := Lib.hid hok
    have HF := Lib.hid hF
    have HL := Lib.hid hl
    have HFS := Lib.hid hfs
    have HDIS := Lib.hid hdis
    have HPM := Lib.hid hPM
    rw [← hnl] at HE HI HF c0 hle hol
    clear hi hok hF hl hfs hdis hPM hnl
    have hneq : ((nf : Int) != (nf : Int)) = false := by simp
    go_enter Try.func15, Try.ntmps15
    go_wp2
    go_loopw [5] (fun i wr => ∃ k : Nat, k ≤ nf ∧ i = .int .i64 k ∧ (∀ j, j < k → isIn (LAt S.L j) (lAt Fs j) = true) ∧ Below w.heap.size w wr) (fun i _ => nf - (intOf i).toNat)
    case atStart => exact ⟨0, by omega, rfl, fun j hj => by omega, Below.refl _ _⟩
    case round =>
      obtain ⟨k, hk, rfl, hall, hB⟩ := hrel
      by_cases hlt : k < nf
      · have i0 : (0 : Int) ≤ (k : Int) := by omega
        have i1 : (k : Int) < (nf : Int) := by omega
        obtain ⟨bf, off2, rfl, _, hcf⟩ := (HFS.out.later hB).at0 (by omega)
        have ef := hcf k hlt
        have hha := rhas_any p F S (k : Int) (lAt Fs k) wr (HPM.out.below hB) N HOK.out hN
        have hmy : S.may (k : Int) (lAt Fs k) = isIn (LAt S.L k) (lAt Fs k) := by unfold PS.may; rw [decide_eq_true ⟨by omega, by have := HN.out; omega⟩]; simp
        rw [hmy] at hha
        obtain ⟨sf, hsf⟩ : ∃ s, s = lAt Fs k := ⟨_, rfl⟩
        rw [← hsf] at ef hha
        obtain ⟨q, hq⟩ : ∃ q, q = isIn (LAt S.L k) sf := ⟨_, rfl⟩
        rw [← hq] at hha
        have HHA := Lib.hid hha
        have HQ := Lib.hid (And.intro hq hsf)
        have HALL := Lib.hid hall
        have HB := Lib.hid hB
        clear hha hq hsf hall hB hcf hmy
        cases q with
        | true =>
          go_wp2_with fail
          refine HHA.out.mono ?_
          rintro e w1 ⟨rfl, hb1⟩
          have HB1 := Lib.hid (HB.out.trans (hb1.mono HB.out.size))
          have HALL2 := Lib.hid (show ∀ j, j < k + 1 → isIn (LAt S.L j) (lAt Fs j) = true from fun j hj => by
            rcases Nat.lt_or_ge j k with h | h
            · exact HALL.out j h
            · obtain rfl : j = k := by omega
              rw [← HQ.out.2, ← HQ.out.1])
          clear hb1
          go_wp2
          go_roundw
          case rel => exact ⟨k + 1, by omega, by go_num, HALL2.out, HB1.out⟩
          case measure => simp [intOf]; omega
        | false =>
          have HX := Lib.hid (HNO.out k hlt (by rw [← HQ.out.2, ← HQ.out.1]))
          go_wp2_with fail
          refine HHA.out.mono ?_
          rintro e w1 ⟨rfl, hb1⟩
          have HB1 := Lib.hid (HB.out.trans (hb1.mono HB.out.size))
          clear hb1
          go_wp2
          go_ret
          exact ⟨by rw [HX.out]; rfl, by rw [HX.out]; exact RQ.below HPM.out HB1.out⟩
      · obtain rfl : k = nf := by omega
        have i1 : ¬ (k : Int) < (k : Int) := by omega
        have hri0 := HI.out.kept (w' := wr) (fun x hx => hB.block x (HI.out.lt x hx))
        have HRI0 := Lib.hid hri0
        have HFR0 := Lib.hid (show Fr F w wr from Fr.of_below hB)
        have HALL := Lib.hid hall
        have HB := Lib.hid hB
        clear hall hB hri0
        go_wp2
        go_loopw [6] (fun i wz => ∃ m : Nat, m ≤ k ∧ i = .int .i64 m ∧ ∃ vs', RI wz p (.slice a k c) v2 v3 vs' xs ⟨setsL S.L (fun j => [lAt Fs j]) m, S.E⟩ ∧ (∀ j, rf p (.slice a k c) v2 v3 vs' xs ⟨setsL S.L (fun j => [lAt Fs j]) m, S.E⟩ j → F j ∨ w.heap.size ≤ j) ∧ Fr F w wz) (fun i _ => k - (intOf i).toNat)
        case atStart => exact ⟨0, by omega, rfl, vs, HRI0.out, fun j hj => .inl (HF.out j hj), HFR0.out⟩
        case round =>
          obtain ⟨m, hm, rfl, vs', hri, hrf, hfr⟩ := hrel
          by_cases hlt2 : m < k
          · have i0 : (0 : Int) ≤ (m : Int) := by omega
            have i2 : (m : Int) < (k : Int) := by omega
            have hkk : m < (setsL S.L (fun j => [lAt Fs j]) m).length := by rw [setsL_length]; have := HN.out; omega
            obtain ⟨g, c', b, off, c2', e1, hle', hcm', hgo, c0r, ck, e2, hrs⟩ := hri.at hkk
            obtain ⟨ag, hag⟩ : a = some ⟨g, 0, none⟩ ∧ True := ⟨by simp at e1; exact e1.1, trivial⟩
            have hfz := HFS.out.fr hfr HDIS.out
            obtain ⟨bf, off2, af', hbl, hcf⟩ := hfz.at0 (by omega)
            have ef := hcf m hlt2
            obtain ⟨sf, hsf⟩ : ∃ s, s = lAt Fs m := ⟨_, rfl⟩
            rw [← hsf] at ef
            have efa : (wr.alloc (.cells #[.string sf] 9)).cell? ⟨bf, off2 + m, none⟩ = some (.string sf) := by rw [World.cell?_of_block (w := wr) (Below.heap_alloc wr _ _ hbl)]; exact ef
            have c0a : (wr.alloc (.cells #[.string sf] 9)).cell? ⟨p, 0, none⟩ = some (.slice a k c) := by rw [World.cell?_of_block (w := wr) (Below.heap_alloc wr _ _ (lt_of_block hri.blk))]; exact c0r
            have hstep : setsL S.L (fun j => [lAt Fs j]) (m + 1) = (setsL S.L (fun j => [lAt Fs j]) m).set m [sf] := by rw [hsf]; rfl
            obtain ⟨h1, h2, h3, h4, h5⟩ := hri.set1 (w := w) (w2 := wr.alloc (.cells #[.string sf] 9)) hkk hgo sf hrf hfr (.inl rfl)
            rw [← hstep] at h1 h2
            have H1 := Lib.hid (show RI ((wr.alloc (.cells #[.string sf] 9)).setCell ⟨g, m, none⟩ (.slice (some ⟨wr.heap.size, 0, none⟩) 1 1)).drew p _ v2 v3 _ xs _ from h1.kept fun _ _ => rfl)
            have H2 := Lib.hid h2
            have H3 := Lib.hid h3.drew
            obtain ⟨V, hV⟩ : ∃ V, V = vAt vs' m := ⟨_, rfl⟩
            rw [← hV] at h4 ck
            subst ag
            subst af'
            clear hri hrf hfr h1 h2 h3 hkk hsf hstep e1 e2 hrs hgo hV hfz hcf
            go_wp2_with fail
            go_region
            all_goals (
              go_wp2
              go_roundw
              case rel => exact ⟨m + 1, by omega, by go_num, _, H1.out, H2.out, H3.out⟩
              case measure => simp [intOf]; omega)
          · obtain rfl : m = k := by omega
            have hx := HE.out HALL.out wr ⟨vs', hri, hrf, hfr⟩
            have HX := Lib.hid hx
            have i2 : ¬ (m : Int) < (m : Int) := by omega
            clear hri hrf hfr hx
            go_wp2
            go_ret
            rw [HX.out.1]
            exact ⟨rfl, HX.out.2⟩
  · have HX := Lib.hid (show S.crash Fs = (8, S) from by unfold PS.crash; rw [if_neg (by omega)])
    have h1 : ((nf : Int) == (S.L.length : Int)) = false := by simp; omega
    have h2 : ((nf : Int) != (S.L.length : Int)) = true := by rw [bne, h1]; rfl
    have HPM := Lib.hid hPM
    clear hi hok hF hl hfs hPM hdis
    go_enter Try.func15, Try.ntmps15
    go_wp2
    go_ret
    rw [HX.out]
    exact ⟨rfl, RQ.same HPM.out⟩

end Ap
end Go.Proofs.Ythapcpfemmfhoaa


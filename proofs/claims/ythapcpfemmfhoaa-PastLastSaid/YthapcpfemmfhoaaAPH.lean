/-
  Pasts: the walk of PastLast.
-/
import Derived.Test.YthapcpfemmfhoaaAPG
namespace Go.Proofs.Ythapcpfemmfhoaa
namespace Ap
open Go.RowKit
set_option linter.unusedVariables false
set_option linter.unusedSimpArgs false

/-- Two of the program's pasts, apart from each other and from what was there before. -/
structure QR (w : World) (p q : Nat) (F G : Nat → Prop) (S : PS) (B : Nat) : Prop where
  pm : PM w p F S
  qm : PM w q G S
  apart : ∀ k, F k → ¬ G k
  fl : ∀ k, F k → B ≤ k
  gl : ∀ k, G k → B ≤ k

theorem QR.below {w w' : World} {p q F G S B} (h : QR w p q F G S B) (hb : Below w.heap.size w w') : QR w' p q F G S B := ⟨h.pm.below hb, h.qm.below hb, h.apart, h.fl, h.gl⟩
theorem QR.mid {w w1 : World} {p q F G S S' B} (h : QR w p q F G S B) (h1 : PQ w F p S' w1) : PM w1 q G S := by
  obtain ⟨F', hp, hf, _⟩ := h1
  exact h.qm.fr hf fun k hk hk2 => h.apart k hk2 hk
theorem QR.after {w w1 w2 : World} {p q F G S S' B} (h : QR w p q F G S B) (hB : B ≤ w.heap.size) (h1 : PQ w F p S' w1) (h2 : PQ w1 G q S' w2) :
    (∃ F' G', QR w2 p q F' G' S' B) ∧ Below B w w2 := by
  obtain ⟨F', hp, hf, ht⟩ := h1
  obtain ⟨G', hq, hf2, ht2⟩ := h2
  have hs := hf.size
  have hd1 : ∀ k, F' k → ¬ G k := fun k hk hk2 => by
    rcases ht k hk with e | e
    · exact h.apart k e hk2
    · have := h.qm.lt k hk2; omega
  refine ⟨⟨F', G', hp.fr hf2 hd1, hq, fun k hk hk2 => ?_, fun k hk => ?_, fun k hk => ?_⟩, (hf.below h.fl hB).trans (hf2.below h.gl (Nat.le_trans hB hs))⟩
  · rcases ht2 k hk2 with e | e
    · exact hd1 k hk e
    · have := hp.lt k hk; omega
  · rcases ht k hk with e | e
    · exact h.fl k e
    · omega
  · rcases ht2 k hk with e | e
    · exact h.gl k e
    · omega

theorem write_len (S : PS) (i : Int) (s : ByteArray) : (S.write i s).2.L.length = S.L.length := by
  unfold PS.write
  split
  · split
    · simp
    · rfl
  · rfl

theorem last_in {S : PS} {N : Nat} (hok : S.ok N) {k : Nat} (hk : k < S.L.length) : isIn (LAt S.L k) (lastB (LAt S.L k)) = true := by
  obtain ⟨m, _, _, _, h2, h3⟩ := ok_lat hok hk
  exact isIn_iff.mpr ⟨m, h2, h3⟩

theorem crash_last {S : PS} {N : Nat} (hok : S.ok N) : S.crash (S.L.map lastB) = (0, S.flush) := by
  have hl : (S.L.map lastB).length = S.L.length := by simp
  unfold PS.crash PS.flush
  rw [if_pos hl, if_pos (allIn_iff.mpr fun i hi => ?_)]
  · rw [List.map_map]
    rfl
  · rw [hl] at hi
    have : lAt (S.L.map lastB) i = lastB (LAt S.L i) := by unfold lAt LAt; simp [hi]
    rw [this]
    exact last_in hok hi

set_option maxRecDepth 20000 in
set_option maxHeartbeats 4000000 in
theorem last_walk (a a1 : Option Addr) (n c l c1 : Nat) (L0 : List ByteArray) (X : Nat → AC) (ix : Int) (st : ByteArray) (w : World) (hL : Rs w a n c L0) (hA : PActs w a1 l w.heap.size X) (hlc : l ≤ c1) (hcm : c1 ≤ maxLen) :
    Calls Try.prog 4 #[.slice a n c, .slice a1 l c1, .int .i64 ix, .string st] w fun e w' => e = .returned (.bool true) ∧ Below w.heap.size w w' := by
  have hcx : (c1 : Int) ≤ 9223372036854775807 := by unfold maxLen at hcm; omega
  have hca : (c : Int) ≤ 9223372036854775807 := by have := hL.cm; unfold maxLen at this; omega
  have hnc := hL.le
  have HFW := Lib.hid (few_any a n c L0 w hL)
  have HL0 := Lib.hid hL
  have HA := Lib.hid hA
  have HKN := Lib.hid (fun w1 (hb : Below w.heap.size w w1) => (known_any w1).mono (R' := fun e w' => e = .returned (.bool true) ∧ Below w.heap.size w w') (fun e w' h => ⟨h.1, hb.trans (h.2.mono hb.size)⟩))
  obtain ⟨VS, hVS⟩ : ∃ V, V = Value.string st := ⟨_, rfl⟩
  rw [← hVS]
  have HVS := Lib.hid hVS
  clear hL hA hVS
  go_enter Try.func4, Try.ntmps4
  go_wp2_with fail
  refine HFW.out.mono ?_
  rintro e w1 ⟨⟨rfl, hfew⟩ | ⟨rfl, hfew⟩, hb1⟩
  rotate_left
  · clear hfew
    go_wp2_with fail
    refine (HKN.out w1 hb1).mono ?_
    rintro e w2 ⟨rfl, hb⟩
    go_wp2
    go_ret
    exact ⟨rfl, hb⟩
  by_cases h60 : 60 < l
  · have g0 : (60 : Int) < (l : Int) := by omega
    clear hfew
    go_wp2_with fail
    refine (HKN.out w1 hb1).mono ?_
    rintro e w2 ⟨rfl, hb⟩
    go_wp2
    go_ret
    exact ⟨rfl, hb⟩
  have g0 : ¬ (60 : Int) < (l : Int) := by omega
  have hn20 : n ≤ 20 := by have := hfew.1; have := HL0.out.len; omega
  have hl0 : L0.length ≤ 20 := hfew.1
  have hl00 := HL0.out.len
  have hnw := pnew_any a n c L0 w1 (HL0.out.later hb1) (by omega)
  have HNW := Lib.hid hnw
  have HB1 := Lib.hid hb1
  clear hnw hb1 hfew
  go_wp2_with fail
  refine HNW.out.mono ?_
  rintro e w2 ⟨p, F, rfl, hpm, hF, hb2⟩
  have HB2 := Lib.hid (HB1.out.trans (hb2.mono HB1.out.size))
  have hrn := pnew_any a n c L0 w2 (HL0.out.later HB2.out) (by omega)
  have HRN := Lib.hid hrn
  have HPM := Lib.hid hpm
  have HF := Lib.hid (fun k hk => Nat.le_trans HB1.out.size (hF k hk))
  clear hrn hpm hF hb2 HNW
  go_wp2_with fail
  refine HRN.out.mono ?_
  rintro e w3 ⟨q, G, rfl, hrm, hG, hb3⟩
  have HB3 := Lib.hid (HB2.out.trans (hb3.mono HB2.out.size))
  have HPR := Lib.hid (show QR w3 p q F G (PS.new L0) w.heap.size from ⟨HPM.out.below hb3, hrm, fun k h1 h2 => by have := HPM.out.lt k h1; have := hG k h2; omega, HF.out, fun k hk => Nat.le_trans HB2.out.size (hG k hk)⟩)
  have HOK0 := Lib.hid (ok_new hl0)
  have HLN0 := Lib.hid (show (PS.new L0).L.length = n from by simp [PS.new]; omega)
  clear hrm hG hb3 HRN HPM HF HB1 HB2 HFW hl0 hl00
  go_wp2
  go_loopw [11] (fun i wr => ∃ k : Nat, k ≤ l ∧ i = .int .i64 k ∧ Below w.heap.size w wr ∧ ∃ F G S, QR wr p q F G S w.heap.size ∧ S.ok (20 + k) ∧ S.L.length = n) (fun i _ => l - (intOf i).toNat)
  case atStart => exact ⟨0, by omega, rfl, HB3.out, F, G, _, HPR.out, HOK0.out, HLN0.out⟩
  case round =>
    obtain ⟨k, hk, rfl, hB, F', G', S, hpr, hok, hlen⟩ := hrel
    by_cases hlt : k < l
    · have i0 : (0 : Int) ≤ (k : Int) := by omega
      have i1 : (k : Int) < (l : Int) := by omega
      obtain ⟨ba, oa, rfl, hbl, hca⟩ := (HA.out.below hB).at0 (by omega)
      obtain ⟨d0, d1, d2, d3, d4⟩ := hca k hlt
      obtain ⟨iy, hiy⟩ : ∃ iy, iy = (X k).i := ⟨_, rfl⟩
      obtain ⟨data, hdata⟩ : ∃ data, data = (X k).data := ⟨_, rfl⟩
      rw [← hiy] at d1
      rw [← hdata] at d2
      clear hca d0 d3 d4 hiy hdata
      by_cases h200 : 200 < data.size
      · have g1 : (200 : Int) < (data.size : Int) := by omega
        have HB := Lib.hid hB
        clear hpr hok hB hlen
        go_wp2_with fail
        refine (HKN.out wr HB.out).mono ?_
        rintro e w5 ⟨rfl, hb⟩
        go_wp2
        go_ret
        exact ⟨rfl, hb⟩
      have g1 : ¬ (200 : Int) < (data.size : Int) := by omega
      have hd : Below wr.heap.size wr wr.drew := Below.drew (Below.refl _ _)
      rcases hw : S.write iy data with ⟨E1, T1⟩
      have hok1 := ok_write hok iy data
      have hln1 := write_len S iy data
      rw [hw] at hok1 hln1
      have h1 := pwrite_any p F' S iy data wr.drew (hpr.pm.below hd) (20 + k) hok (by omega)
      rw [hw] at h1
      have h2 := fun w' (hh : PM w' q G' S) => pwrite_any q G' S iy data w' hh (20 + k) hok (by omega)
      simp only [hw] at h2
      have hq1 : ∀ w5, PQ wr.drew F' p T1 w5 → PM w5.drew q G' S := fun w5 h => ((hpr.below hd).mid h).below (Below.drew (Below.refl _ _))
      have hkp : ∀ w5, PQ wr.drew F' p T1 w5 → w5.cell? ⟨ba, oa + k * 5 + 1, none⟩ = some (.int .i64 iy) ∧ w5.cell? ⟨ba, oa + k * 5 + 2, none⟩ = some (.string data) := fun w5 h => by
        obtain ⟨_, _, hf, _⟩ := h
        have hn : ¬ F' ba := fun e => by have := hpr.fl ba e; omega
        have hb := World.block_lt_of_cell? wr _ d1
        have e := hf.block ba hb hn
        exact ⟨by rw [World.cell?_of_block (w := wr) e]; exact d1, by rw [World.cell?_of_block (w := wr) e]; exact d2⟩
      have hkr : ∀ w5 w6, PQ wr.drew F' p T1 w5 → PQ w5.drew G' q T1 w6 → w6.cell? ⟨ba, oa + k * 5 + 1, none⟩ = some (.int .i64 iy) ∧ w6.cell? ⟨ba, oa + k * 5 + 2, none⟩ = some (.string data) := fun w5 w6 h h2 => by
        obtain ⟨x1, x2⟩ := hkp w5 h
        obtain ⟨_, _, hf, _⟩ := h2
        have hn : ¬ G' ba := fun e => by have := hpr.gl ba e; omega
        have hb := World.block_lt_of_cell? w5 _ x1
        have e := hf.block ba hb hn
        exact ⟨by rw [World.cell?_of_block (w := w5) e]; exact x1, by rw [World.cell?_of_block (w := w5) e]; exact x2⟩
      have hend : ∀ w5 w6, PQ wr.drew F' p T1 w5 → PQ w5.drew G' q T1 w6 → (∃ F' G', QR w6 p q F' G' T1 w.heap.size) ∧ Below w.heap.size w w6 := fun w5 w6 h h2 => by
        have h3 : PQ w5 G' q T1 w6 := by
          obtain ⟨a, b, c, d⟩ := h2
          exact ⟨a, b, ⟨c.os, c.tape, c.output, c.size, c.block⟩, d⟩
        obtain ⟨x1, x2⟩ := (hpr.below hd).after (Nat.le_trans hB.size hd.size) h h3
        exact ⟨x1, (hB.trans (hd.mono hB.size)).trans x2⟩
      have HST := Lib.hid (And.intro d1 d2)
      have H1 := Lib.hid h1
      have H2 := Lib.hid h2
      have HQ1 := Lib.hid hq1
      have HKP := Lib.hid hkp
      have HKR := Lib.hid hkr
      have HEND := Lib.hid hend
      have HOK1 := Lib.hid hok1
      have HLN1 := Lib.hid (hln1.trans hlen)
      clear h1 h2 hq1 hkp hkr hend hok1 hln1 hlen hw hpr hok hB hd hbl
      go_wp2_with fail
      go_region_held3 (fun w' : World => w'.cell? ⟨ba, oa + k * 5 + 1, none⟩ = some (.int .i64 iy) ∧ w'.cell? ⟨ba, oa + k * 5 + 2, none⟩ = some (.string data)) (first | exact HST.out | exact HKP.out _ hpp)
        ((go_at_call 10; refine H1.out.mono ?_; rintro e w5 ⟨rfl, hpp⟩))
      rename_i hHeld
      clear hHeld
      have HST2 := Lib.hid (HKP.out w5 hpp)
      have HPP := Lib.hid hpp
      have d1 := HST2.out.1
      have d2 := HST2.out.2
      clear hpp
      go_wp2_with fail
      go_region_held3 (fun w' : World => w'.cell? ⟨ba, oa + k * 5 + 1, none⟩ = some (.int .i64 iy) ∧ w'.cell? ⟨ba, oa + k * 5 + 2, none⟩ = some (.string data)) (first | exact HST2.out | exact HKR.out _ _ HPP.out hrp)
        ((go_at_call 10; refine (H2.out _ (HQ1.out w5 HPP.out)).mono ?_; rintro e w6 ⟨rfl, hrp⟩))
      rename_i hHeld
      clear hHeld
      obtain ⟨⟨F2, G2, hpr2⟩, hb2⟩ := HEND.out w5 w6 HPP.out hrp
      have HPR2 := Lib.hid hpr2
      have HB6 := Lib.hid hb2
      clear hrp hpr2 hb2
      go_wp2
      go_roundw
      case rel => exact ⟨k + 1, by omega, by go_num, HB6.out, F2, G2, T1, HPR2.out, HOK1.out, HLN1.out⟩
      case measure => simp [intOf]; omega
    · obtain rfl : k = l := by omega
      have i1 : ¬ (k : Int) < (k : Int) := by omega
      obtain ⟨ML, hML⟩ : ∃ ML, ML = S.L.map lastB := ⟨_, rfl⟩
      have HML := Lib.hid hML
      have HPRS := Lib.hid hpr
      have HOKS := Lib.hid hok
      have HLNS := Lib.hid hlen
      have HBS := Lib.hid hB
      obtain ⟨ws, hws⟩ : ∃ ws, ws = wr := ⟨_, rfl⟩
      rw [← hws] at HPRS HBS
      have HWS := Lib.hid hws
      clear hpr hok hlen hB hML hws
      go_wp2
      go_loopw [12, 13] (fun v i wr => ∃ m : Nat, m ≤ n ∧ i = .int .i64 m ∧ wr.ownsRow ws.heap.size 9 1 v m (strs (ML.take m)) ∧ Below ws.heap.size ws wr) (fun _ i _ => n - (intOf i).toNat)
      case atStart => exact ⟨0, by omega, rfl, World.ownsRow_nil _ _ _ _, by rw [HWS.out]; exact Below.refl _ _⟩
      case round =>
        obtain ⟨m, hm, rfl, ho, hB⟩ := hrel
        by_cases hlt2 : m < n
        · have j0 : (0 : Int) ≤ (m : Int) := by omega
          have j1 : (m : Int) < (n : Int) := by omega
          have hkk : m < S.L.length := by have := HLNS.out; omega
          have hla := plast_any p F' S (m : Int) wr (HPRS.out.pm.below hB) (20 + k) HOKS.out (by omega)
          have hlv : S.last (m : Int) = (lastB (LAt S.L m), 0) := by unfold PS.last; rw [if_pos ⟨by omega, by omega⟩]; rfl
          rw [hlv] at hla
          unfold twoV at hla
          have hmy := pmay_any p F' S (m : Int) (lastB (LAt S.L m)) wr (HPRS.out.pm.below hB) (20 + k) HOKS.out (by omega)
          have hmv : S.may (m : Int) (lastB (LAt S.L m)) = true := by unfold PS.may; rw [decide_eq_true ⟨by omega, by omega⟩]; simpa using last_in HOKS.out hkk
          rw [hmv] at hmy
          have htl := take_last S.L ML HML.out hkk
          obtain ⟨y, hy⟩ : ∃ y, y = lastB (LAt S.L m) := ⟨_, rfl⟩
          rw [← hy] at hla htl hmy
          obtain ⟨i9, hi9, hz0, hz1, hz2⟩ := info_parts Try.info9
          have HLA := Lib.hid hla
          have HMY := Lib.hid hmy
          have HTL := Lib.hid htl
          have HO := Lib.hid ho
          have HB := Lib.hid hB
          clear hB ho hla htl hy hlv hmy hmv
          go_wp2_with fail
          refine HLA.out.mono ?_
          rintro r w5 ⟨rfl, hw5⟩; obtain rfl := hw5.symm; clear hw5
          go_wp2_with fail
          refine HMY.out.mono ?_
          rintro r w6 ⟨rfl, hb6⟩
          have HB6 := Lib.hid (HB.out.trans (hb6.mono HB.out.size))
          have ho6 := owns_kept HO.out fun x hx => hb6.block x (HO.out.lt x hx).2
          have HOW := Lib.hid (ho6.alloc (.cells #[.string y] 9))
          have HBA := Lib.hid (HB6.out.alloc HB6.out.size (.cells #[.string y] 9))
          clear hb6 ho6
          go_wp2_with (at_builtin; refine wpList_append_s (o := ⟨some 92, _, _, _, _, _⟩) rfl (.tmp 89) (.tmp 91) 22 rfl ws.heap.size i9 Try.underlying22 hi9 hz0 hz1 hz2 _ m _ (by rfl) HOW.out y (by rfl) rfl (by omega) HBA.out.size ?_)
          intro v7 w7 how7 hg7 hat7
          rw [← HTL.out] at how7
          have hB7 := HBA.out.grown hg7 HBA.out.size (fun j hj => (HOW.out.lt j hj).1)
          have HB7 := Lib.hid hB7
          have HO7 := Lib.hid how7
          clear how7 hg7 hat7 hB7
          go_wp2
          go_roundw
          case rel => exact ⟨m + 1, by omega, by go_num, HO7.out, HB7.out⟩
          case measure => simp [intOf]; omega
        · obtain rfl : m = n := by omega
          have j1 : ¬ (m : Int) < (m : Int) := by omega
          have hall : ML.take m = ML := List.take_of_length_le (by rw [HML.out]; simp; have := HLNS.out; omega)
          rw [hall] at ho
          obtain ⟨a5, c5, rfl, _⟩ := towns_shape ho
          have hpr5 := HPRS.out.below hB
          have hfl := pflush_any p F' S wr hpr5.pm (20 + k) HOKS.out (by omega)
          have HFL := Lib.hid hfl
          have HPR5 := Lib.hid hpr5
          have HO := Lib.hid ho
          have HB := Lib.hid hB
          have hlF : ∀ j, F' j → j < ws.heap.size := HPRS.out.pm.lt
          have HLF := Lib.hid hlF
          clear hfl hpr5 ho hB hall hlF
          go_wp2_with fail
          refine HFL.out.mono ?_
          rintro e w5 ⟨rfl, hpp⟩
          have ho5 : w5.ownsRow ws.heap.size 9 1 (.slice a5 m c5) m (strs ML) := by
            obtain ⟨_, _, hf, _⟩ := hpp
            exact owns_kept HO.out fun x hx => hf.block x (HO.out.lt x hx).2 fun hF => by have := (HO.out.lt x hx).1; have := HLF.out x hF; omega
          obtain ⟨a6, c6, e6, hrs5, _⟩ := towns_shape ho5
          cases e6
          have hcr := pcrash_any q G' S a5 m c5 ML w5 (HPR5.out.mid hpp) hrs5 (20 + k) HOKS.out (by omega)
          rw [HML.out, crash_last HOKS.out] at hcr
          have HCR := Lib.hid hcr
          have HPP := Lib.hid hpp
          clear hpp ho5 hcr hrs5
          go_wp2_with fail
          refine HCR.out.mono ?_
          rintro e w6 ⟨rfl, hrp⟩
          obtain ⟨⟨F2, G2, hpr2⟩, hb2⟩ := HPR5.out.after (Nat.le_trans HBS.out.size HB.out.size) HPP.out hrp
          have HB6 := Lib.hid ((HBS.out.trans (HB.out.mono HBS.out.size)).trans hb2)
          have hmp := pmay_any p F2 S.flush ix st w6 hpr2.pm (20 + k + 1) (ok_flush HOKS.out) (by omega)
          have hmq := fun w' (hb : Below w6.heap.size w6 w') => pmay_any q G2 S.flush ix st w' (hpr2.qm.below hb) (20 + k + 1) (ok_flush HOKS.out) (by omega)
          rw [← HVS.out] at hmp
          simp only [← HVS.out] at hmq
          obtain ⟨mb, hmb⟩ : ∃ mb, mb = S.flush.may ix st := ⟨_, rfl⟩
          rw [← hmb] at hmp
          simp only [← hmb] at hmq
          have hbb : (mb == mb) = true := by simp
          have HMP := Lib.hid hmp
          have HMQ := Lib.hid hmq
          clear hrp hpr2 hb2 hmp hmq hmb
          go_wp2_with fail
          refine HMP.out.mono ?_
          rintro e w7 ⟨rfl, hb7⟩
          have HM8 := Lib.hid (HMQ.out w7 hb7)
          have HB7 := Lib.hid (HB6.out.trans (hb7.mono HB6.out.size))
          clear hb7
          go_wp2_with fail
          refine HM8.out.mono ?_
          rintro e w8 ⟨rfl, hb8⟩
          have HB8 := Lib.hid (HB7.out.trans (hb8.mono HB7.out.size))
          clear hb8
          go_wp2_with fail
          refine (HKN.out w8 HB8.out).mono ?_
          rintro e w9 ⟨rfl, hb⟩
          go_wp2
          go_ret
          exact ⟨rfl, hb⟩

end Ap
end Go.Proofs.Ythapcpfemmfhoaa


/-
  Texts put together: NA, NB.
-/
import Derived.Test.YtpkeikbiblfidaaGreatDoorMN6
import Derived.Test.YtpkeikbiblfidaaGreatDoorME2
/-
  Writes to both disks (layer 20): light, small, laid.
-/
namespace Go.Proofs.YtpkeikbiblfidaaGreatDoor
open Go.RowKit
set_option linter.unusedVariables false
set_option linter.unusedSimpArgs false

structure PK where
  at' : Int
  data : ByteArray

/-- The slice value reads as writes, all below B. -/
structure PutsL (w : World) (a : Option Addr) (n B : Nat) (X : Nat → PK) : Prop where
  big : n ≤ 9223372036854775807
  at0 : 0 < n → ∃ b off, a = some ⟨b, off, none⟩ ∧ b < B ∧ ∀ i, i < n → w.cell? ⟨b, off + i * 2, none⟩ = some (.int .i64 (X i).at') ∧ w.cell? ⟨b, off + i * 2 + 1, none⟩ = some (.string (X i).data)
theorem PutsL.below {w w' : World} {a n B X} (h : PutsL w a n B X) (hb : Below B w w') : PutsL w' a n B X where
  big := h.big
  at0 := fun h0 => by
    obtain ⟨b, off, e, hl, hc⟩ := h.at0 h0
    refine ⟨b, off, e, hl, fun i hi => ?_⟩
    obtain ⟨d0, d1⟩ := hc i hi
    exact ⟨(hb.cell (by exact hl)).trans d0, (hb.cell (by exact hl)).trans d1⟩
theorem PutsL.more {w : World} {a n B B' X} (h : PutsL w a n B X) (hB : B ≤ B') : PutsL w a n B' X where
  big := h.big
  at0 := fun h0 => by
    obtain ⟨b, off, e, hl, hc⟩ := h.at0 h0
    exact ⟨b, off, e, Nat.lt_of_lt_of_le hl hB, hc⟩

/-- Whether a geometry has few sectors. -/
def smallH (N C U : Int) : Bool := decide (N ≤ 20 ∧ C ≤ 20 ∧ U ≤ 40)
set_option maxRecDepth 20000 in
set_option maxHeartbeats 400000 in
theorem small20_any (N F C U : Int) (w : World) :
    Calls Tryz.prog 25 #[geo N F C U] w fun e w' => e = .returned (.bool (smallH N C U)) ∧ Below w.heap.size w w' := by
  have hb := fun o => (Below.refl w.heap.size w).alloc (Nat.le_refl _) o
  go_enter Tryz.func25, Tryz.ntmps25
  unfold geo
  go_wp2
  all_goals go_ret
  all_goals refine ⟨congrArg (fun b => Ending.returned (Value.bool b)) ?_, hb _⟩
  all_goals (unfold smallH; first | (rw [decide_eq_decide]; omega) | (symm; rw [decide_eq_false_iff_not]; omega) | (symm; rw [decide_eq_true_iff]; omega))

def lightB (n : Nat) (X : Nat → PK) : Bool := decide (n ≤ 30 ∧ ∀ i, i < n → (X i).data.size ≤ 200)
set_option maxRecDepth 20000 in
set_option maxHeartbeats 1000000 in
theorem light_any (a : Option Addr) (n c B : Nat) (X : Nat → PK) (w : World) (h : PutsL w a n B X) (hc : n ≤ c) (hcm : c ≤ maxLen) :
    Calls Tryz.prog 26 #[.slice a n c] w fun e w' => e = .returned (.bool (lightB n X)) ∧ w' = w := by
  have hbig := h.big
  have hcx : (c : Int) ≤ 9223372036854775807 := by unfold maxLen at hcm; omega
  obtain ⟨r, hr⟩ : ∃ r, r = lightB n X := ⟨_, rfl⟩
  rw [← hr]
  have HR := Lib.hid hr
  clear hr
  by_cases h100 : n ≤ 30
  · have i0 : ¬ (30 : Int) < (n : Int) := by omega
    go_enter Tryz.func26, Tryz.ntmps26
    go_wp2
    go_loopw [3] (fun i wr => ∃ k : Nat, k ≤ n ∧ i = .int .i64 k ∧ wr = w ∧ ∀ j, j < k → (X j).data.size ≤ 200) (fun i _ => n - (intOf i).toNat)
    case atStart => exact ⟨0, by omega, rfl, rfl, fun j hj => by omega⟩
    case round =>
      obtain ⟨k, hk, rfl, hwr, hall⟩ := hrel
      subst hwr
      have HALL := Lib.hid hall
      clear hall
      by_cases hlt : k < n
      · have i1 : (0 : Int) ≤ (k : Int) := by omega
        have i2 : (k : Int) < (n : Int) := by omega
        obtain ⟨b, off, rfl, hbl, hcl⟩ := h.at0 (by omega)
        have c2 := (hcl k hlt).2
        have HH := Lib.hid h
        clear hcl h
        by_cases h2 : (X k).data.size ≤ 200
        · have h2' : ¬ (200 : Int) < ((X k).data.size : Int) := by omega
          have H2 := Lib.hid h2
          clear h2
          generalize (X k).data = sx at c2 h2'
          go_wp2
          go_roundw
          case rel => exact ⟨k + 1, by omega, by go_num, trivial, fun j hj => by
            rcases Nat.lt_or_ge j k with h1 | h1
            · exact HALL.out j h1
            · obtain rfl : j = k := by omega
              exact H2.out⟩
          case measure => simp [intOf]; omega
        · have h2' : (200 : Int) < ((X k).data.size : Int) := by omega
          have hrf : r = false := HR.out.trans (by unfold lightB; exact decide_eq_false fun hh => h2 (hh.2 k hlt))
          subst hrf
          clear h2
          generalize (X k).data = sx at c2 h2'
          go_wp2
          go_ret
          exact ⟨rfl, rfl⟩
      · obtain rfl : k = n := by omega
        have hrt : r = true := HR.out.trans (by unfold lightB; exact decide_eq_true ⟨h100, HALL.out⟩)
        subst hrt
        go_wp2
        go_ret
        exact ⟨rfl, rfl⟩
  · have i0 : (30 : Int) < (n : Int) := by omega
    have hrf : r = false := HR.out.trans (by unfold lightB; exact decide_eq_false fun hh => h100 hh.1)
    subst hrf
    go_enter Tryz.func26, Tryz.ntmps26
    go_wp2
    go_ret
    exact ⟨rfl, rfl⟩

/-- What k writes leave. -/
def putsS (S : DS) (X : Nat → PK) : Nat → DS
  | 0 => S
  | k + 1 => ((putsS S X k).write (X k).at' (X k).data).2
def laidS (N F C U : Int) (n : Nat) (X : Nat → PK) (l : Nat) : DS := putsS (fullP N F C U (ds0 n)).2 X l
theorem putsS_all {S : DS} {M : Nat} (h : S.ok M) (hz : S.sz) (X : Nat → PK) : ∀ k, (putsS S X k).ok (M + k) ∧ (putsS S X k).sz ∧ (putsS S X k).L.length = S.L.length
  | 0 => ⟨h, hz, rfl⟩
  | k + 1 => by
    obtain ⟨h1, h2, h3⟩ := putsS_all h hz X k
    exact ⟨h1.write _ _, h2.write _ _, (write_len' _ _ _).trans h3⟩
theorem laidS_all (N F C U : Int) (n : Nat) (h2 : n ≤ 140) (X : Nat → PK) (l : Nat) (hl : l ≤ 30) : (laidS N F C U n X l).ok 286 ∧ (laidS N F C U n X l).sz ∧ (laidS N F C U n X l).L.length = n := by
  obtain ⟨a1, a2, a3⟩ := rehP_all (ds0_ok n (by omega)) (ds0_sz n) N F C U (everyL N)
  obtain ⟨b1, b2, b3⟩ := putsS_all a1 a2 X l
  refine ⟨b1.mono (by omega), b2, b3.trans (a3.trans (by simp [ds0]))⟩

theorem Two.lowB {w B B' p q A S} (h : Two w B p q A S) (hl : B' ≤ B) : Two w B' p q A S := by
  obtain ⟨v1, v2, u1, u2, hp, hq, hd, hA⟩ := h
  exact ⟨v1, v2, u1, u2, hp.lowB hl, hq.lowB hl, hd, hA⟩
theorem rp_undrew {w w' : World} {B p : Nat} {v1 v2 : Value} {S : DS} (h : RP w.drew B p v1 v2 S w') : RP w B p v1 v2 S w' := by
  obtain ⟨a, b, c, d, e⟩ := h
  exact ⟨a, b, c, ⟨d.os, d.tape, d.output, d.size, d.block⟩, e⟩
end Go.Proofs.YtpkeikbiblfidaaGreatDoor
/-
  laid of layer 20.
-/
namespace Go.Proofs.YtpkeikbiblfidaaGreatDoor
open Go.RowKit
set_option linter.unusedVariables false
set_option linter.unusedSimpArgs false

set_option maxRecDepth 20000 in
set_option maxHeartbeats 8000000 in
theorem laid_any (N F C U : Int) (n : Nat) (a : Option Addr) (l c : Nat) (X : Nat → PK) (w : World) (hA : PutsL w a l w.heap.size X) (hlc : l ≤ c) (hcm : c ≤ maxLen) (hl30 : l ≤ 30) (h1n : 1 ≤ n) (h2n : n ≤ 140) (hKn : Dg.Kon w) :
    Calls Tryz.prog 28 #[geo N F C U, .int .i64 n, .slice a l c] w fun e w' => (∃ p q A, e = .returned (.tuple #[.pointer (some ⟨p, 0, none⟩), .pointer (some ⟨q, 0, none⟩)]) ∧ Two w' w.heap.size p q A (laidS N F C U n X l)) ∧ Below w.heap.size w w' := by
  have hcx : (c : Int) ≤ 9223372036854775807 := by unfold maxLen at hcm; omega
  have hlx : (l : Int) ≤ (c : Int) := by omega
  obtain ⟨W, hW⟩ : ∃ W, W = w.alloc (.cells #[.int .i64 N, .int .i64 F, .int .i64 C, .int .i64 U] 23) := ⟨_, rfl⟩
  have hs0 : W.heap.size = w.heap.size + 1 := by rw [hW]; exact World.size_alloc _ _
  have hb0 : Below w.heap.size w W := by rw [hW]; exact (Below.refl _ w).alloc (Nat.le_refl _) _
  have hg0 : W.heap[w.heap.size]? = some (.cells #[.int .i64 N, .int .i64 F, .int .i64 C, .int .i64 U] 23 (0, 0)) := by rw [hW]; exact heap_alloc_new w _
  have hgc : ∀ w', Below W.heap.size W w' → w'.cell? ⟨w.heap.size, 0, none⟩ = some (.int .i64 N) ∧ w'.cell? ⟨w.heap.size, 1, none⟩ = some (.int .i64 F) ∧ w'.cell? ⟨w.heap.size, 2, none⟩ = some (.int .i64 C) ∧ w'.cell? ⟨w.heap.size, 3, none⟩ = some (.int .i64 U) := fun w' hb => geo_kept hg0 (hb.block _ (by omega))
  have HN1 := Lib.hid (fun w => dnew_any n w h1n (by omega))
  have HN2 := Lib.hid (fun w => rnew_any n w h1n (by omega))
  have HFP := Lib.hid (fun B p v1 v2 w h hB hK => nfull_any B p v1 v2 (ds0 n) N F C U w h hB hK 0 (ds0_ok n (by omega)) (by omega) (ds0_sz n))
  have HFR := Lib.hid (fun B p v1 v2 w h hB => rnfull_any B p v1 v2 (ds0 n) N F C U w h hB 0 (ds0_ok n (by omega)) (by omega) (ds0_sz n))
  unfold geo at HFP HFR
  obtain ⟨S0, hS0⟩ : ∃ S, S = (fullP N F C U (ds0 n)).2 := ⟨_, rfl⟩
  obtain ⟨g1, hg1⟩ : ∃ S, S = strV (fullP N F C U (ds0 n)).1.1 := ⟨_, rfl⟩
  obtain ⟨g2, hg2⟩ : ∃ S, S = (fullP N F C U (ds0 n)).1.2 := ⟨_, rfl⟩
  have hall := rehP_all (ds0_ok n (by omega)) (ds0_sz n) N F C U (everyL N)
  change (fullP N F C U (ds0 n)).2.ok (0 + 256) ∧ (fullP N F C U (ds0 n)).2.sz ∧ (fullP N F C U (ds0 n)).2.L.length = (ds0 n).L.length at hall
  unfold laidS
  simp only [← hS0, ← hg1, ← hg2] at HFP HFR hall ⊢
  have HAL := Lib.hid hall
  obtain ⟨c0, c1, c2, c3⟩ := hgc W (Below.refl _ _)
  have HA := Lib.hid (hA.below hb0)
  have HGC := Lib.hid hgc
  have HB0 := Lib.hid hb0
  have HW := Lib.hid hW
  have HS0 := Lib.hid hs0
  have HK := Lib.hid hKn
  unfold geo
  clear hA hgc hb0 hW hs0 hg0 hKn hS0 hg1 hg2 hall
  go_enter Tryz.func28, Tryz.ntmps28
  go_upto_region 1 with fail
  rw [← HW.out]
  go_wp2_with fail
  refine (HN1.out _).mono ?_
  rintro e w1 ⟨p, v1, rfl, hp, hb1⟩
  have HP := Lib.hid hp
  have HB1 := Lib.hid hb1
  clear hp hb1 c0 c1 c2 c3
  go_wp2_with fail
  refine (HN2.out _).mono ?_
  rintro e w2 ⟨q, u1, rfl, hq, hb2⟩
  obtain ⟨A0, hT0, _⟩ := two_new HP.out hq hb2 HB1.out.size
  have HB2 := Lib.hid (HB1.out.trans (hb2.mono HB1.out.size))
  obtain ⟨v1, v2, u1, u2, hp, hq, hd, hA⟩ := hT0
  obtain ⟨c0, c1, c2, c3⟩ := HGC.out w2 HB2.out
  have HQ := Lib.hid hq
  have HD := Lib.hid hd
  have HAA := Lib.hid hA
  have HP2 := Lib.hid hp
  clear hq hb2 hp hd hA HP HB1
  go_wp2_with fail
  refine (HFP.out W.heap.size p v1 v2 w2 HP2.out HB2.out.size (HK.out.below (HB0.out.trans (HB2.out.mono HB0.out.size)))).mono ?_
  rintro e w3 ⟨rfl, hpp⟩
  have hq3 := rd_after HQ.out HD.out hpp
  have hb3 := (pp_fr hpp).below (fun k hk => (HP2.out.foot_low k hk).1) HB2.out.size
  have HB3 := Lib.hid (HB2.out.trans hb3)
  obtain ⟨c0, c1, c2, c3⟩ := HGC.out w3 HB3.out
  have HPP := Lib.hid hpp
  have HQ3 := Lib.hid hq3
  clear hpp hq3 hb3
  go_wp2_with fail
  refine (HFR.out W.heap.size q u1 u2 w3 HQ3.out HB3.out.size).mono ?_
  rintro e w4 ⟨rfl, hrp⟩
  obtain ⟨A1, hT4, hF4, hl4⟩ := two_after HQ.out HP2.out HD.out HAA.out HPP.out hrp
  have HB4 := Lib.hid (HB2.out.trans (hF4.below (fun k hk => by rcases (HAA.out k).1 hk with h | h; exact (HP2.out.foot_low k h).1; exact (HQ.out.foot_low k h).1) HB2.out.size))
  have HT4 := Lib.hid hT4
  clear hrp hT4 hF4 hl4 c0 c1 c2 c3 HPP HQ3 HP2 HAA HD HQ
  go_wp2
  go_loopw [12] (fun i wr => ∃ (k : Nat) (A : Nat → Prop), k ≤ l ∧ i = .int .i64 k ∧ Two wr W.heap.size p q A (putsS S0 X k) ∧ Below W.heap.size W wr) (fun i _ => l - (intOf i).toNat)
  case atStart => exact ⟨0, A1, by omega, rfl, HT4.out, HB4.out⟩
  case round =>
    obtain ⟨k, A, hk, rfl, hT, hB⟩ := hrel
    by_cases hlt : k < l
    · have i0 : (0 : Int) ≤ (k : Int) := by omega
      have i1 : (k : Int) < (l : Int) := by omega
      have wr1 : IntKind.i64.wrap ((k : Int) + 1) = (k : Int) + 1 := IntWalk.i64_in _ (by omega)
      obtain ⟨b, off, rfl, hbl, hcl⟩ := (HA.out.below (hB.mono HB0.out.size)).at0 (by omega)
      have hkp : ∀ w', Below W.heap.size W w' → w'.cell? ⟨b, off + k * 2, none⟩ = some (.int .i64 (X k).at') ∧ w'.cell? ⟨b, off + k * 2 + 1, none⟩ = some (.string (X k).data) := fun w' hb' => by
        obtain ⟨b2, off2, e2, hbl2, hcl2⟩ := (HA.out.below (hb'.mono HB0.out.size)).at0 (by omega)
        simp only [Option.some.injEq, Addr.mk.injEq] at e2
        obtain ⟨rfl, rfl, _⟩ := e2
        exact hcl2 k hlt
      obtain ⟨d0, d1⟩ := hkp wr hB
      obtain ⟨h5, h6, _⟩ := putsS_all HAL.out.1 HAL.out.2.1 X k
      have hd0 : Below wr.heap.size wr wr.drew := (Below.refl _ _).drew
      obtain ⟨v1, v2, u1, u2, hp, hq, hd, hA⟩ := hT.below hd0
      have h1 := write_any W.heap.size p v1 v2 (putsS S0 X k) (X k).at' (X k).data wr.drew hp hB.size _ h5 (by omega)
      have h2 := fun w' hw hs => rwrite_any W.heap.size q u1 u2 (putsS S0 X k) (X k).at' (X k).data w' hw hs _ h5 (by omega)
      obtain ⟨S', hS'⟩ : ∃ S, S = ((putsS S0 X k).write (X k).at' (X k).data).2 := ⟨_, rfl⟩
      obtain ⟨E', hE'⟩ : ∃ S, S = ((putsS S0 X k).write (X k).at' (X k).data).1 := ⟨_, rfl⟩
      rw [← hS', ← hE'] at h1
      simp only [← hS', ← hE'] at h2
      have HS' := Lib.hid (show putsS S0 X (k + 1) = S' from hS'.symm)
      have HWA := Lib.hid h1
      have HWB := Lib.hid h2
      have HTP := Lib.hid (And.intro hp (And.intro hq (And.intro hd hA)))
      have HBB := Lib.hid hB
      have HKP := Lib.hid hkp
      clear hcl hT hp hq hd hA h1 h2 hB hkp hS' hE' h5 h6 hd0
      generalize (X k).at' = x1 at *
      generalize (X k).data = x2 at *
      go_wp2_with fail
      go_region_held3 (fun w' : World => w'.cell? ⟨b, off + k * 2, none⟩ = some (.int .i64 x1) ∧ w'.cell? ⟨b, off + k * 2 + 1, none⟩ = some (.string x2)) (first | exact HKP.out _ HBB.out.drew | exact HKP.out _ hb3)
        (first | (go_at_call 18; refine HWA.out.mono ?_; rintro e w3 ⟨rfl, hpp⟩; have hb3 := HBB.out.drew.trans ((pp_fr hpp).below (fun k hk => (HTP.out.1.foot_low k hk).1) HBB.out.drew.size)))
      all_goals (
        rename_i hHeld
        clear hHeld
        have hq3 := rd_after HTP.out.2.1 HTP.out.2.2.1 hpp
        have HR9 := Lib.hid (HWB.out w3.drew (hq3.below (Below.refl _ _).drew) hb3.size)
        have HPP := Lib.hid hpp
        have HB3 := Lib.hid hb3
        clear hpp hq3 hb3
        go_wp2_with fail
        go_region_held3 (fun w' : World => w'.cell? ⟨b, off + k * 2, none⟩ = some (.int .i64 x1) ∧ w'.cell? ⟨b, off + k * 2 + 1, none⟩ = some (.string x2)) (first | exact HKP.out _ HB3.out.drew | exact HKP.out _ hb5)
          (first | (go_at_call 53; refine HR9.out.mono ?_; rintro e w5 ⟨rfl, hrp⟩; have htp := two_after HTP.out.2.1 HTP.out.1 HTP.out.2.2.1 HTP.out.2.2.2 HPP.out (rp_undrew hrp); have hb5 := TP.below htp ⟨_, _, _, _, HTP.out.1, HTP.out.2.1, HTP.out.2.2.1, HTP.out.2.2.2⟩ HBB.out.drew))
        all_goals (
          rename_i hHeld
          clear hHeld
          obtain ⟨A', hT', _, _⟩ := htp
          have HT' := Lib.hid hT'
          have HB5 := Lib.hid hb5
          clear hT' hb5 hrp
          go_wp2
          go_roundw
          case rel => exact ⟨k + 1, A', by omega, by first | rfl | go_num, by rw [HS'.out]; exact HT'.out, HB5.out⟩
          case measure => simp [intOf]; omega))
    · have i1 : ¬ (k : Int) < (l : Int) := by omega
      obtain rfl : k = l := by omega
      have HB5 := Lib.hid (HB0.out.trans (hB.mono HB0.out.size))
      have HT5 := Lib.hid (hT.lowB HB0.out.size)
      clear hT hB
      go_wp2
      refine bodyPost_ret (results_tmp2 rfl _ _ _) rfl ?_
      exact ⟨⟨p, q, rfl, A, HT5.out⟩, HB5.out⟩
end Go.Proofs.YtpkeikbiblfidaaGreatDoor

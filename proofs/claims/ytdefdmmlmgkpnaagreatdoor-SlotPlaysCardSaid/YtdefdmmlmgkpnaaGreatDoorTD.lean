/-
  The walk of SlotPlays.
-/
import Derived.Test.YtdefdmmlmgkpnaaGreatDoorTC
import Derived.Test.YtdefdmmlmgkpnaaGreatDoorEC
namespace Go.Proofs.YtdefdmmlmgkpnaaGreatDoor
open Go.RowKit
set_option linter.unusedVariables false
set_option linter.unusedSimpArgs false

/-- The slice value reads as acts, all below B. -/
structure SActs (w : World) (a : Option Addr) (n B : Nat) (X : Nat → SK) : Prop where
  big : n ≤ 9223372036854775807
  at0 : 0 < n → ∃ b off, a = some ⟨b, off, none⟩ ∧ b < B ∧ ∀ i, i < n → w.cell? ⟨b, off + i * 6, none⟩ = some (.int .i64 (X i).kind) ∧ w.cell? ⟨b, off + i * 6 + 1, none⟩ = some (.int .i64 (X i).at') ∧
    w.cell? ⟨b, off + i * 6 + 2, none⟩ = some (.int .i64 (X i).rc) ∧ w.cell? ⟨b, off + i * 6 + 3, none⟩ = some (.int .u64 ((X i).seq : Int)) ∧ w.cell? ⟨b, off + i * 6 + 4, none⟩ = some (strV (X i).xs) ∧ w.cell? ⟨b, off + i * 6 + 5, none⟩ = some (.slice (X i).ka (X i).kn (X i).kc)
  keep : ∀ i, i < n → Bl w (X i).ka (X i).kn (X i).K
  klow : ∀ i, i < n → ∀ b off, (X i).ka = some ⟨b, off, none⟩ → 0 < (X i).kn → b < B
  high : ∀ i, i < n → (X i).at' ≤ 9223372036854775807 ∧ (X i).seq < 18446744073709551616

theorem SActs.below {w w' : World} {a n B X} (h : SActs w a n B X) (hb : Below B w w') : SActs w' a n B X where
  big := h.big
  at0 := fun h0 => by
    obtain ⟨b, off, e, hl, hc⟩ := h.at0 h0
    refine ⟨b, off, e, hl, fun i hi => ?_⟩
    obtain ⟨c0, c1, c2, c3, c4, c5⟩ := hc i hi
    exact ⟨(hb.cell (by exact hl)).trans c0, (hb.cell (by exact hl)).trans c1, (hb.cell (by exact hl)).trans c2, (hb.cell (by exact hl)).trans c3, (hb.cell (by exact hl)).trans c4, (hb.cell (by exact hl)).trans c5⟩
  keep := fun i hi => (h.keep i hi).kept hb.size fun b off e h0 => hb.block b (h.klow i hi b off e h0)
  klow := h.klow
  high := h.high

theorem write_len (S : DS) (at' : Int) (d : ByteArray) : (S.write at' d).2.L.length = S.L.length := by
  unfold DS.write
  split
  · rfl
  · split
    · split
      · split
        · show S.burnt.L.length = _; rw [burnt_L]
        · show S.burnt.L.length = _; rw [burnt_L]
      · rfl
    · rfl
theorem flush_len (S : DS) : S.flush.2.L.length = S.L.length := by
  unfold DS.flush
  split
  · rfl
  · split
    · show S.burnt.L.length = _; rw [burnt_L]
    · exact appW_length _ _ _
theorem saveP_len (S : DS) (at' kind : Int) (seq : Nat) (xs : List UInt8) : (saveP S at' kind seq xs).2.L.length = S.L.length := by
  unfold saveP
  split
  · rfl
  · split
    · rfl
    · split
      · rfl
      · split
        · exact write_len _ _ _
        · exact (flush_len _).trans (write_len _ _ _)
theorem up_len (S : DS) : S.up.2.L.length = S.L.length := by
  unfold DS.up
  split <;> rfl
theorem sact_len (S : DS) (x : SK) : (S.sact x).L.length = S.L.length := by
  unfold DS.sact
  split
  · rfl
  · split
    · exact saveP_len _ _ _ _ _
    · split
      · exact write_len _ _ _
      · split
        · exact (up_len _).trans (appK_length _ _ _ _)
        · rfl

set_option maxRecDepth 20000 in
set_option maxHeartbeats 8000000 in
theorem splays_walk (a : Option Addr) (l c : Nat) (X : Nat → SK) (w : World) (hA : SActs w a l w.heap.size X) (hlc : l ≤ c) (hcm : c ≤ maxLen) :
    Calls Tryz.prog 3 #[.slice a l c] w fun e w' => e = .returned (.bool true) ∧ Below w.heap.size w w' := by
  have hcx : (c : Int) ≤ 9223372036854775807 := by unfold maxLen at hcm; omega
  have HA := Lib.hid hA
  have HKN := Lib.hid (fun w1 (hb : Below w.heap.size w w1) => (sknown_any w1).mono (R' := fun e w' => e = .returned (.bool true) ∧ Below w.heap.size w w') (fun e w' h => ⟨h.1, hb.trans (h.2.mono hb.size)⟩))
  clear hA
  have HN1 := Lib.hid (dnew_any 6 w (by omega) (by omega))
  go_enter Tryz.func3, Tryz.ntmps3
  go_wp2_with fail
  refine HN1.out.mono ?_
  rintro e w1 ⟨p, v1, rfl, hp, hb1⟩
  have HP := Lib.hid hp
  have HB1 := Lib.hid hb1
  have HN2 := Lib.hid (rnew_any 6 w1 (by omega) (by omega))
  clear hp hb1
  go_wp2_with fail
  refine HN2.out.mono ?_
  rintro e w2 ⟨q, u1, rfl, hq, hb2⟩
  obtain ⟨A0, hT0, _⟩ := two_new HP.out hq hb2 HB1.out.size
  have HT0 := Lib.hid hT0
  have HB2 := Lib.hid (HB1.out.trans (hb2.mono HB1.out.size))
  clear hq hb2 hT0
  go_wp2
  go_loopw [7] (fun i wr => ∃ (k : Nat) (A : Nat → Prop) (S : DS), k ≤ l ∧ k ≤ 60 ∧ i = .int .i64 k ∧ Two wr w.heap.size p q A S ∧ S.ok (2 * k) ∧ S.L.length = 6 ∧ Below w.heap.size w wr) (fun i _ => l - (intOf i).toNat)
  case atStart => exact ⟨0, A0, ds0 6, by omega, by omega, rfl, HT0.out, ds0_ok 6 (by omega), rfl, HB2.out⟩
  case round =>
    obtain ⟨k, A, S, hk, hk60, rfl, hT, hok, hl6, hB⟩ := hrel
    by_cases hlt : k < l ∧ k < 60
    · obtain ⟨hlt, hlt60⟩ := hlt
      have i0 : (0 : Int) ≤ (k : Int) := by omega
      have i1 : (k : Int) < (l : Int) := by omega
      have i2 : (k : Int) < 60 := by omega
      have hAw := HA.out.below hB
      obtain ⟨b, off, rfl, hbl, hcl⟩ := hAw.at0 (by omega)
      obtain ⟨c0, c1, c2, c3, c4, c5⟩ := hcl k hlt
      have hln := fun w => len_str (X k).xs w
      by_cases h200 : (X k).xs.length ≤ 200
      · have hdo := sdo_any w.heap.size p q A S (X k) wr hT hB.size (2 * k) hok (by omega) (hAw.high k hlt).2 h200 (hAw.keep k hlt) (fun b' off' e h0 hf => by have := hAw.klow k hlt b' off' e h0; have := (hT.low _ hf).1; omega)
        have hok2 := sact_ok hok (X k) (hAw.high k hlt).1
        have hl62 : (S.sact (X k)).L.length = 6 := (sact_len S (X k)).trans hl6
        have j200 : ¬ (200 : Int) < ((X k).xs.length : Int) := by omega
        have HTT := Lib.hid hT
        have HBB := Lib.hid hB
        have HOK := Lib.hid (And.intro hok2 hl62)
        unfold SK.val at hdo
        have HDO := Lib.hid hdo
        clear hcl hAw hT hok hB hok2 hdo hl62 hl6 h200
        generalize S.sact (X k) = S' at HDO HOK
        generalize ((X k).xs.length : Int) = m at *
        generalize strV (X k).xs = xv at *
        generalize (X k).kind = x0 at *
        generalize (X k).at' = x1 at *
        generalize (X k).rc = x2 at *
        generalize ((X k).seq : Int) = x3 at *
        generalize (X k).ka = x4 at *
        generalize (X k).kn = x5 at *
        generalize (X k).kc = x6 at *
        go_wp2_with fail
        refine HDO.out.mono ?_
        rintro e w3 ⟨rfl, htp⟩
        have hb3 := TP.below htp HTT.out HBB.out
        obtain ⟨A', hT', _, _⟩ := htp
        have HT' := Lib.hid hT'
        have HB3 := Lib.hid hb3
        clear hT' hb3
        go_wp2
        go_roundw
        case rel => exact ⟨k + 1, A', S', by omega, by omega, by go_num, HT'.out, HOK.out.1, HOK.out.2, HB3.out⟩
        case measure => simp [intOf]; omega
      · have j200 : (200 : Int) < ((X k).xs.length : Int) := by omega
        have HBB := Lib.hid hB
        clear hcl hAw hT hok hB hl6 h200 c0 c1 c2 c3 c5
        generalize ((X k).xs.length : Int) = m at *
        generalize strV (X k).xs = xv at *
        go_wp2_with fail
        refine (HKN.out _ HBB.out).mono ?_
        rintro e w3 ⟨rfl, hb3⟩
        have HB3 := Lib.hid hb3
        clear hb3
        go_wp2
        go_ret
        exact ⟨rfl, HB3.out⟩
    · by_cases hkl : k < l
      · have i1 : (k : Int) < (l : Int) := by omega
        have i2 : ¬ (k : Int) < 60 := by omega
        have HT' := Lib.hid hT
        have HB' := Lib.hid hB
        have HOK := Lib.hid hok
        have HL6 := Lib.hid hl6
        clear hT hB hok hl6
        go_wp2
        go_loopw [8] (fun i wq => ∃ j : Nat, j ≤ 6 ∧ i = .int .i64 j ∧ wq = wr) (fun i _ => 6 - (intOf i).toNat)
        case atStart => exact ⟨0, by omega, rfl, rfl⟩
        case round =>
          obtain ⟨j, hj, rfl, hwq⟩ := hrel
          subst hwq
          obtain ⟨v1, v2, u1, u2, hp, hq, hd, hA'⟩ := HT'.out
          by_cases hjl : j < 6
          · have j0 : (0 : Int) ≤ (j : Int) := by omega
            have j1 : (j : Int) < 6 := by omega
            have h1 := kept_any w.heap.size p v1 v2 S j _ hp (by have := HL6.out; omega)
            have h2 := rkept_any w.heap.size q u1 u2 S j _ hq (by have := HL6.out; omega)
            obtain ⟨R, hR⟩ : ∃ R, R = S.kept (j : Int) := ⟨_, rfl⟩
            rw [← hR] at h1 h2
            obtain ⟨R1, R2⟩ := R
            unfold two at h1 h2
            have H1 := Lib.hid h1
            have H2 := Lib.hid h2
            clear h1 h2 hR hp hq hd hA'
            go_wp2_with fail
            refine H1.out.mono ?_
            rintro e w3 ⟨rfl, hw3⟩; obtain rfl := hw3.symm; clear hw3
            go_wp2_with fail
            refine H2.out.mono ?_
            rintro e w3 ⟨rfl, hw3⟩; obtain rfl := hw3.symm; clear hw3
            go_wp2
            go_roundw
            case rel => exact ⟨j + 1, by omega, by go_num, by first | rfl | trivial⟩
            case measure => simp [intOf]; omega
          · obtain rfl : j = 6 := by omega
            clear hjl hj
            have j1 : ¬ ((6 : Nat) : Int) < 6 := by omega
            obtain ⟨fu, _, _, _, _, _, _, c5, _⟩ := hp.cells
            obtain ⟨_, _, _, _, d4, _⟩ := hq.cells
            have hqlt := hq.lt
            obtain ⟨dd, hdd⟩ : ∃ b, b = (S.did : Int) := ⟨_, rfl⟩
            rw [← hdd] at c5 d4
            have H1 := Lib.hid (done_any p dd wr.drew c5)
            have HK17 := Lib.hid (sknown_any wr.drew)
            have HST := Lib.hid (show wr.drew.cell? ⟨q, 4, none⟩ = some (.int .i64 dd) from d4)
            have HKP := Lib.hid (fun w5 (hb : Below wr.drew.heap.size wr.drew w5) => (hb.cell (p := ⟨q, 4, none⟩) hqlt).trans HST.out)
            have HBD := Lib.hid (HB'.out.drew)
            clear hdd c5 d4 hp hq hd hA'
            go_wp2_with fail
            go_region_held3 (fun w' => w'.cell? ⟨q, 4, none⟩ = some (.int .i64 dd)) (first | exact HST.out | exact HKP.out _ hb5)
              (first
              | (go_at_call 10; refine H1.out.mono ?_; rintro r w' ⟨rfl, hw'⟩; obtain rfl := hw'.symm; clear hw')
              | (go_at_call 6; refine HK17.out.mono ?_; rintro r w5 ⟨rfl, hb5⟩))
            all_goals (
              rename_i hHeld
              clear hHeld
              have HFIN := Lib.hid (HBD.out.trans (hb5.mono HBD.out.size))
              clear hb5
              go_wp2
              go_ret
              exact ⟨rfl, HFIN.out⟩)
      · have i1 : ¬ (k : Int) < (l : Int) := by omega
        have HT' := Lib.hid hT
        have HB' := Lib.hid hB
        have HOK := Lib.hid hok
        have HL6 := Lib.hid hl6
        clear hT hB hok hl6
        go_wp2
        go_loopw [8] (fun i wq => ∃ j : Nat, j ≤ 6 ∧ i = .int .i64 j ∧ wq = wr) (fun i _ => 6 - (intOf i).toNat)
        case atStart => exact ⟨0, by omega, rfl, rfl⟩
        case round =>
          obtain ⟨j, hj, rfl, hwq⟩ := hrel
          subst hwq
          obtain ⟨v1, v2, u1, u2, hp, hq, hd, hA'⟩ := HT'.out
          by_cases hjl : j < 6
          · have j0 : (0 : Int) ≤ (j : Int) := by omega
            have j1 : (j : Int) < 6 := by omega
            have h1 := kept_any w.heap.size p v1 v2 S j _ hp (by have := HL6.out; omega)
            have h2 := rkept_any w.heap.size q u1 u2 S j _ hq (by have := HL6.out; omega)
            obtain ⟨R, hR⟩ : ∃ R, R = S.kept (j : Int) := ⟨_, rfl⟩
            rw [← hR] at h1 h2
            obtain ⟨R1, R2⟩ := R
            unfold two at h1 h2
            have H1 := Lib.hid h1
            have H2 := Lib.hid h2
            clear h1 h2 hR hp hq hd hA'
            go_wp2_with fail
            refine H1.out.mono ?_
            rintro e w3 ⟨rfl, hw3⟩; obtain rfl := hw3.symm; clear hw3
            go_wp2_with fail
            refine H2.out.mono ?_
            rintro e w3 ⟨rfl, hw3⟩; obtain rfl := hw3.symm; clear hw3
            go_wp2
            go_roundw
            case rel => exact ⟨j + 1, by omega, by go_num, by first | rfl | trivial⟩
            case measure => simp [intOf]; omega
          · obtain rfl : j = 6 := by omega
            clear hjl hj
            have j1 : ¬ ((6 : Nat) : Int) < 6 := by omega
            obtain ⟨fu, _, _, _, _, _, _, c5, _⟩ := hp.cells
            obtain ⟨_, _, _, _, d4, _⟩ := hq.cells
            have hqlt := hq.lt
            obtain ⟨dd, hdd⟩ : ∃ b, b = (S.did : Int) := ⟨_, rfl⟩
            rw [← hdd] at c5 d4
            have H1 := Lib.hid (done_any p dd wr.drew c5)
            have HK17 := Lib.hid (sknown_any wr.drew)
            have HST := Lib.hid (show wr.drew.cell? ⟨q, 4, none⟩ = some (.int .i64 dd) from d4)
            have HKP := Lib.hid (fun w5 (hb : Below wr.drew.heap.size wr.drew w5) => (hb.cell (p := ⟨q, 4, none⟩) hqlt).trans HST.out)
            have HBD := Lib.hid (HB'.out.drew)
            clear hdd c5 d4 hp hq hd hA'
            go_wp2_with fail
            go_region_held3 (fun w' => w'.cell? ⟨q, 4, none⟩ = some (.int .i64 dd)) (first | exact HST.out | exact HKP.out _ hb5)
              (first
              | (go_at_call 10; refine H1.out.mono ?_; rintro r w' ⟨rfl, hw'⟩; obtain rfl := hw'.symm; clear hw')
              | (go_at_call 6; refine HK17.out.mono ?_; rintro r w5 ⟨rfl, hb5⟩))
            all_goals (
              rename_i hHeld
              clear hHeld
              have HFIN := Lib.hid (HBD.out.trans (hb5.mono HBD.out.size))
              clear hb5
              go_wp2
              go_ret
              exact ⟨rfl, HFIN.out⟩)
end Go.Proofs.YtdefdmmlmgkpnaaGreatDoor


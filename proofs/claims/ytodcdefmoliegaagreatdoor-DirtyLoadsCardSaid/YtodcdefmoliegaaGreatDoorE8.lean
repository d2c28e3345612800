/-
  Contracts of the document's own disk: Flush, Crash, Read, Puts.
-/
import Derived.Test.YtodcdefmoliegaaGreatDoorE7
namespace Go.Proofs.YtodcdefmoliegaaGreatDoor
open Go.RowKit
set_option linter.unusedVariables false
set_option linter.unusedSimpArgs false

theorem RD.own2 {w B p v1 v2 S} (h : RD w B p v1 v2 S) : w.ownsRow B 68 2 v2 S.W.length (puts S.W) := Dk.own2 h
theorem RD.own1 {w B p v1 v2 S} (h : RD w B p v1 v2 S) : w.ownsRow B 9 1 v1 S.L.length (strs S.L) := Dk.own1 h

set_option maxRecDepth 20000 in
set_option maxHeartbeats 1000000 in
theorem rflush_any (B p : Nat) (v1 v2 : Value) (S : DS) (w : World) (h : RD w B p v1 v2 S) (hB : B ≤ w.heap.size) (N : Nat) (hok : S.ok N) (hN : N ≤ 1000000) :
    Calls Tryz.prog 45 #[.pointer (some ⟨p, 0, none⟩)] w fun e w' => e = .returned (.int .i64 S.flush.1) ∧ RP w B p v1 v2 S.flush.2 w' := by
  obtain ⟨c0, c1, c2, c3, c4, hf⟩ := h.cells
  obtain ⟨a, c, rfl, hle, hcm, hg⟩ := owns_shape1 (Dk.own1 h)
  obtain ⟨a2, cc2, rfl, hle2, hcm2, hg2⟩ := owns_shape1 (Dk.own2 h)
  have hd := hok.did; have hhi := hok.high; have hlo := hok.low; have hfew := hok.few
  have H := Lib.hid h
  clear h c0 c1 c2 c4 hf
  cases ho : S.off with
  | true =>
    have hu : S.flush = (5, S) := by unfold DS.flush; rw [if_pos ho]
    rw [hu]
    rw [ho] at c3
    clear hu
    go_enter Tryz.func45, Tryz.ntmps45
    go_wp2
    go_ret
    exact ⟨rfl, RP.same H.out⟩
  | false =>
    rw [ho] at c3
    by_cases hl : S.left = 0
    · have hu : S.flush = (5, S.burnt) := by unfold DS.flush; rw [if_neg (by simp [ho]), if_pos hl]
      rw [hu]
      clear hu
      have hb := rburn_out B p _ _ S w H.out hl
      have HB := Lib.hid hb
      clear hb hl
      go_enter Tryz.func45, Tryz.ntmps45
      go_wp2_with fail
      refine HB.out.mono ?_
      rintro e w1 ⟨rfl, hpp, hgp⟩
      go_wp2
      go_ret
      exact ⟨rfl, RP.head hpp hgp (.inl rfl)⟩
    · have hu : S.flush = (0, ⟨appW S.L S.W S.W.length, [], S.burnt.left, S.burnt.off, S.burnt.did⟩) := by unfold DS.flush; rw [if_neg (by simp [ho]), if_neg hl]
      rw [hu]
      clear hu
      have hb := rburn_go B p _ _ S w H.out hl hlo hhi (by omega)
      have HB := Lib.hid hb
      clear hb hl
      go_enter Tryz.func45, Tryz.ntmps45
      go_wp2_with fail
      refine HB.out.mono ?_
      rintro e w1 ⟨rfl, hpd, hgp⟩
      have HP := Lib.hid hpd
      have HF := Lib.hid (fr_head (v1 := .slice a S.L.length c) (v2 := .slice a2 S.W.length cc2) hgp)
      clear hpd hgp c3
      go_wp2
      go_loopw [3] (fun i wr => ∃ k : Nat, k ≤ S.W.length ∧ i = .int .i64 k ∧ RD wr B p (.slice a S.L.length c) (.slice a2 S.W.length cc2) ⟨appW S.L S.W k, S.W, S.burnt.left, S.burnt.off, S.burnt.did⟩ ∧ Fr (foot p (.slice a S.L.length c) (.slice a2 S.W.length cc2)) w wr) (fun i _ => S.W.length - (intOf i).toNat)
      case atStart => exact ⟨0, by omega, rfl, by rw [show (⟨appW S.L S.W 0, S.W, S.burnt.left, S.burnt.off, S.burnt.did⟩ : DS) = S.burnt from by rw [show appW S.L S.W 0 = S.burnt.L from (burnt_L S).symm, ← burnt_W S]]; exact HP.out, HF.out⟩
      case round =>
        obtain ⟨k, hk, rfl, hpd, hfr⟩ := hrel
        by_cases hlt : k < S.W.length
        · have i1 : (k : Int) < (S.W.length : Int) := by omega
          obtain ⟨g2, rfl, hgo2, hB2, _⟩ := hg2 (by omega)
          obtain ⟨m, hm, hml⟩ := has_nat (hok.ats k hlt)
          obtain ⟨g1, rfl, hgo1, hB1, _⟩ := hg (by omega)
          have ho2 : wr.ownsRow B 68 2 (.slice (some ⟨g2, 0, none⟩) S.W.length cc2) S.W.length (puts S.W) := hpd.own2
          have e0 := owns_cell ho2 hgo2 _ _ (puts_at S.W k hlt).1
          have e1 := owns_cell ho2 hgo2 _ _ (puts_at S.W k hlt).2
          rw [hm] at e0
          obtain ⟨sd, hsd⟩ : ∃ sd, sd = (wAt S.W k).2 := ⟨_, rfl⟩
          rw [← hsd] at e1
          have hnx : appW S.L S.W (k + 1) = (appW S.L S.W k).set m sd := by show (appW S.L S.W k).set _ _ = _; rw [hm, hsd]; rfl
          have HNX := Lib.hid hnx
          clear hnx hsd
          obtain ⟨c0, c1, c2, c3, c4, hf⟩ := hpd.cells
          have HPD := Lib.hid hpd
          have HFR := Lib.hid hfr
          clear hpd hfr c2 c3 c4 ho2 hg hg2 H HP HF HB
          go_wp2
          obtain ⟨wa, hwa⟩ : ∃ wa, wa = wr.alloc (.cells #[.int .i64 (m : Int), .string sd] 68) := ⟨_, rfl⟩
          obtain ⟨q, hq⟩ : ∃ q, q = wr.heap.size := ⟨_, rfl⟩
          rw [← hwa, ← hq]
          obtain ⟨cb0, cb1, ca0, ctg, hft, hrest⟩ := rflush_round HPD.out hwa hq hgo1 (by rw [appW_length]; exact hml) c0
          generalize lAt (appW S.L S.W k) m = old at ctg
          have HR := Lib.hid hrest
          have HQ := Lib.hid hq
          have HWA := Lib.hid hwa
          have i2 : (0 : Int) ≤ (m : Int) := by omega
          have i3 : (m : Int) < (S.L.length : Int) := by omega
          clear hrest hwa hq e0 e1 c0 c1 hf
          go_region
          go_wp2
          go_roundw
          case rel =>
            obtain ⟨hp5, hf5⟩ := HR.out wa rfl rfl rfl rfl
            exact ⟨k + 1, by omega, by go_num, by rw [HNX.out]; exact hp5.kept fun _ _ => rfl, (hf5 _ _ HFR.out (.inr (.inl hgo1))).drew⟩
          case measure => simp [intOf]; omega
        · obtain rfl : k = S.W.length := by omega
          obtain ⟨c0, c1, c2, c3, c4, hf⟩ := hpd.cells
          have hblk := Dk.blk hpd
          have HPD := Lib.hid hpd
          have HFR := Lib.hid hfr
          have HBK := Lib.hid hblk
          clear hpd hfr c0 c2 c3 c4 hg hg2 H HP HF HB hblk
          go_wp2
          go_ret
          refine ⟨rfl, _, _, HPD.out.head (gb_setCell (World.grownBy.refl _ _)) (blk_setCell HBK.out) (by simp) rfl (.inr ⟨rfl, rfl⟩), HFR.out.set (.inl (.inl rfl)), ?_⟩
          rintro j (rfl | e | e)
          · exact .inl (.inl rfl)
          · exact .inl (.inr (.inl e))
          · simp [Value.ownBlock] at e

set_option maxRecDepth 20000 in
set_option maxHeartbeats 1000000 in
theorem rcrash_any (B p : Nat) (v1 v2 : Value) (S : DS) (ak : Option Addr) (nk ck : Nat) (K : List Bool) (w : World) (h : RD w B p v1 v2 S) (hB : B ≤ w.heap.size) (N : Nat) (hok : S.ok N) (hN : N ≤ 1000000)
    (hK : Bl w ak nk K) (hd : ∀ b off, ak = some ⟨b, off, none⟩ → 0 < nk → ¬ foot p v1 v2 b) :
    Calls Tryz.prog 10 #[.pointer (some ⟨p, 0, none⟩), .slice ak nk ck] w fun e w' => e = .returned (.tuple #[]) ∧ RP w B p v1 v2 (S.crash K) w' := by
  obtain ⟨a, c, rfl, hle, hcm, hg⟩ := owns_shape1 (Dk.own1 h)
  obtain ⟨a2, cc2, rfl, hle2, hcm2, hg2⟩ := owns_shape1 (Dk.own2 h)
  have hdid := hok.did; have hhi := hok.high; have hfew := hok.few
  have H := Lib.hid h
  have HK := Lib.hid hK
  have HD := Lib.hid hd
  have hbig := hK.big
  clear h hK hd
  unfold DS.crash
  go_enter Tryz.func10, Tryz.ntmps10
  go_wp2
  go_loopw [4] (fun i wr => ∃ k : Nat, k ≤ S.W.length ∧ k ≤ nk ∧ i = .int .i64 k ∧ RD wr B p (.slice a S.L.length c) (.slice a2 S.W.length cc2) ⟨appK S.L S.W K k, S.W, S.left, S.off, S.did⟩ ∧ Fr (foot p (.slice a S.L.length c) (.slice a2 S.W.length cc2)) w wr) (fun i _ => S.W.length - (intOf i).toNat)
  case atStart => exact ⟨0, by omega, by omega, rfl, H.out, Fr.refl _ _⟩
  case round =>
    obtain ⟨k, hk, hkn, rfl, hpd, hfr⟩ := hrel
    by_cases hlt : k < S.W.length ∧ k < nk
    · obtain ⟨hlt, hkk⟩ := hlt
      have i1 : (k : Int) < (S.W.length : Int) := by omega
      have i2 : (k : Int) < (nk : Int) := by omega
      obtain ⟨g2, rfl, hgo2, hB2, _⟩ := hg2 (by omega)
      obtain ⟨m, hm, hml⟩ := has_nat (hok.ats k hlt)
      obtain ⟨g1, rfl, hgo1, hB1, _⟩ := hg (by omega)
      have ho2 : wr.ownsRow B 68 2 (.slice (some ⟨g2, 0, none⟩) S.W.length cc2) S.W.length (puts S.W) := hpd.own2
      have e0 := owns_cell ho2 hgo2 _ _ (puts_at S.W k hlt).1
      have e1 := owns_cell ho2 hgo2 _ _ (puts_at S.W k hlt).2
      rw [hm] at e0
      obtain ⟨sd, hsd⟩ : ∃ sd, sd = (wAt S.W k).2 := ⟨_, rfl⟩
      rw [← hsd] at e1
      have hnx : appK S.L S.W K (k + 1) = if K[k]?.getD false = true then (appK S.L S.W K k).set m sd else appK S.L S.W K k := by
        show (if _ then List.set _ _ _ else _) = _
        rw [hm, hsd]; rfl
      have HNX := Lib.hid hnx
      have hbl := HK.out.fr hfr HD.out
      obtain ⟨c0, c1, c2, c3, c4, hf⟩ := hpd.cells
      have HPD := Lib.hid hpd
      have HFR := Lib.hid hfr
      obtain ⟨kb, hkb⟩ : ∃ kb, kb = K[k]?.getD false := ⟨_, rfl⟩
      have HKB := Lib.hid hkb
      clear hpd hfr c2 c3 c4 ho2 hg hg2 H hnx hsd
      obtain ⟨bk, ok, rfl, hbkl, hbc⟩ := hbl.at0 (by omega)
      have hcb := hbc k hkk
      rw [← hkb] at hcb
      have hcb2 : ∀ o, (wr.alloc o).cell? ⟨bk, ok + k, none⟩ = some (.bool kb) := fun o => by rw [World.cell?_of_block (w := wr) (Below.heap_alloc _ _ _ hbkl)]; exact hcb
      clear hbc hbl hkb
      cases kb with
      | true =>
        go_wp2
        obtain ⟨wa, hwa⟩ : ∃ wa, wa = wr.alloc (.cells #[.int .i64 (m : Int), .string sd] 68) := ⟨_, rfl⟩
        obtain ⟨q, hq⟩ : ∃ q, q = wr.heap.size := ⟨_, rfl⟩
        rw [← hwa, ← hq]
        obtain ⟨cb0, cb1, ca0, ctg, hft, hrest⟩ := rflush_round HPD.out hwa hq hgo1 (by rw [appK_length]; exact hml) c0
        generalize lAt (appK S.L S.W K k) m = old at ctg
        have HR := Lib.hid hrest
        have HQ := Lib.hid hq
        have HWA := Lib.hid hwa
        have i3 : (0 : Int) ≤ (m : Int) := by omega
        have i4 : (m : Int) < (S.L.length : Int) := by omega
        clear hrest hwa hq e0 e1 c0 c1 hf hcb hcb2
        go_region
        go_wp2
        go_roundw
        case rel =>
          obtain ⟨hp5, hf5⟩ := HR.out wa rfl rfl rfl rfl
          exact ⟨k + 1, by omega, by omega, by go_num, by rw [HNX.out, if_pos HKB.out.symm]; exact hp5.kept fun _ _ => rfl, (hf5 _ _ HFR.out (.inr (.inl hgo1))).drew⟩
        case measure => simp [intOf]; omega
      | false =>
        go_wp2
        go_roundw
        case rel => exact ⟨k + 1, by omega, by omega, by go_num, by rw [HNX.out, if_neg (by rw [← HKB.out]; simp)]; exact HPD.out.below ((Below.refl _ _).alloc (Nat.le_refl _) _), HFR.out.alloc _⟩
        case measure => simp [intOf]; omega
    · have hend : appK S.L S.W K S.W.length = appK S.L S.W K k := by
        rcases Nat.lt_or_ge k S.W.length with h1 | h1
        · exact appK_end _ _ _ _ _ (by rw [HK.out.len]; omega) (by omega)
        · rw [show S.W.length = k from by omega]
      obtain ⟨c0, c1, c2, c3, c4, hf⟩ := hpd.cells
      have hblk := Dk.blk hpd
      have HPD := Lib.hid hpd
      have HFR := Lib.hid hfr
      have HBK := Lib.hid hblk
      have HEND := Lib.hid hend
      have g3 := gb_setCell (i := 3) (u := .bool true) (gb_setCell (i := 2) (u := .int .i64 (-1)) (gb_setCell (i := 1) (u := .slice none 0 0) (World.grownBy.refl wr (some p))))
      have G3 := Lib.hid g3
      have hfin : ∀ w2 : World, w2 = ((wr.setCell ⟨p, 1, none⟩ (.slice none 0 0)).setCell ⟨p, 2, none⟩ (.int .i64 (-1))).setCell ⟨p, 3, none⟩ (.bool true) →
          RP w B p (.slice a S.L.length c) (.slice a2 S.W.length cc2) ⟨appK S.L S.W K S.W.length, [], -1, true, S.did⟩ w2 := by
        rintro w2 rfl
        refine ⟨_, _, HPD.out.head G3.out (blk_setCell (blk_setCell (blk_setCell HBK.out))) (by simp) HEND.out (.inr ⟨rfl, rfl⟩), HFR.out.grown G3.out (fun k e => by cases e; exact .inl (.inl rfl)), ?_⟩
        rintro j (rfl | e | e)
        · exact .inl (.inl rfl)
        · exact .inl (.inr (.inl e))
        · simp [Value.ownBlock] at e
      have HFIN := Lib.hid hfin
      clear hpd hfr c0 c4 hg hg2 H hblk hend g3 hfin
      by_cases h1 : k < S.W.length
      · have i1 : (k : Int) < (S.W.length : Int) := by omega
        have i2 : ¬ (k : Int) < (nk : Int) := by omega
        clear hlt
        go_wp2
        refine bodyPost_end (results_none rfl _ _ _) rfl ?_
        exact ⟨rfl, HFIN.out _ rfl⟩
      · have i1 : ¬ (k : Int) < (S.W.length : Int) := by omega
        clear hlt
        go_wp2
        refine bodyPost_end (results_none rfl _ _ _) rfl ?_
        exact ⟨rfl, HFIN.out _ rfl⟩

set_option maxRecDepth 20000 in
set_option maxHeartbeats 1000000 in
theorem rread_any (B p : Nat) (v1 v2 : Value) (S : DS) (at' : Int) (w : World) (h : RD w B p v1 v2 S) (hf' : S.W.length ≤ 1000000) (hl : (S.L.length : Int) ≤ 1200) :
    Calls Tryz.prog 35 #[.pointer (some ⟨p, 0, none⟩), .int .i64 at'] w fun e w' => e = .returned (two (S.read at')) ∧ w' = w := by
  obtain ⟨c0, c1, c2, c3, c4, hf⟩ := h.cells
  have ho2 : w.ownsRow B 68 2 v2 S.W.length (puts S.W) := Dk.own2 h
  obtain ⟨a2, cc2, rfl, hle2, hcm2, hg2⟩ := owns_shape1 ho2
  have hmx : (cc2 : Int) ≤ 9223372036854775807 := by unfold maxLen at hcm2; omega
  have hk := rkept_any B p v1 _ S at' w h hl
  cases ho : S.off with
  | true =>
    have hu : S.read at' = (noBytes, 5) := by unfold DS.read; rw [if_pos ho]
    rw [hu]
    rw [ho] at c3
    clear hu hk h ho2 hg2 c0 c1 c2 c4 hf
    go_enter Tryz.func35, Tryz.ntmps35
    go_wp2
    refine bodyPost_ret (results_tmp2 rfl _ _ _) rfl ?_
    exact ⟨rfl, rfl⟩
  | false =>
    rw [ho] at c3
    by_cases hs : S.has at'
    · have hu : S.read at' = (look S.W at' (lAt S.L at'.toNat) S.W.length, 0) := by unfold DS.read; rw [if_neg (by simp [ho]), if_pos hs]
      have hkk : S.kept at' = (lAt S.L at'.toNat, 0) := by unfold DS.kept; rw [if_pos hs]
      rw [hu]
      rw [hkk] at hk
      generalize lAt S.L at'.toNat = d0 at *
      have HK := Lib.hid hk
      have HO := Lib.hid ho2
      clear hu hkk hk h ho2 c0 c2 c4 hf hs
      unfold two at HK
      go_enter Tryz.func35, Tryz.ntmps35
      go_wp2_with fail
      refine HK.out.mono ?_
      rintro e w1 ⟨rfl, hw1⟩; obtain rfl := hw1.symm; clear hw1
      go_wp2
      go_loopw [8, 6] (fun i s wr => ∃ k : Nat, k ≤ S.W.length ∧ i = .int .i64 k ∧ s = .string (look S.W at' d0 k) ∧ wr = w) (fun i _ _ => S.W.length - (intOf i).toNat)
      case atStart => exact ⟨0, by omega, rfl, rfl, rfl⟩
      case round =>
        obtain ⟨k, hk, rfl, rfl, hwr⟩ := hrel
        subst hwr
        by_cases hlt : k < S.W.length
        · have i1 : (k : Int) < (S.W.length : Int) := by omega
          obtain ⟨g2, rfl, hgo2, hB2, _⟩ := hg2 (by omega)
          have e0 := owns_cell HO.out hgo2 _ _ (puts_at S.W k hlt).1
          have e1 := owns_cell HO.out hgo2 _ _ (puts_at S.W k hlt).2
          have hnx : look S.W at' d0 (k + 1) = if (wAt S.W k).1 = at' then (wAt S.W k).2 else look S.W at' d0 k := rfl
          have HNX := Lib.hid hnx
          clear hnx hg2
          generalize (wAt S.W k).1 = x1 at *
          generalize (wAt S.W k).2 = x2 at *
          by_cases hx : x1 = at'
          · have hx2 : (x1 == at') = true := by simpa using hx
            have HX := Lib.hid hx
            clear hx
            go_wp2
            go_roundw
            case rel => exact ⟨k + 1, by omega, by go_num, by rw [HNX.out, if_pos HX.out], trivial⟩
            case measure => simp [intOf]; omega
          · have hx2 : (x1 == at') = false := by simpa using hx
            have HX := Lib.hid hx
            clear hx
            go_wp2
            go_roundw
            case rel => exact ⟨k + 1, by omega, by go_num, by rw [HNX.out, if_neg HX.out], trivial⟩
            case measure => simp [intOf]; omega
        · obtain rfl : k = S.W.length := by omega
          go_wp2
          refine bodyPost_ret (results_tmp2 rfl _ _ _) rfl ?_
          exact ⟨rfl, rfl⟩
    · have hu : S.read at' = (noBytes, 3) := by unfold DS.read; rw [if_neg (by simp [ho]), if_neg hs]
      have hkk : S.kept at' = (noBytes, 3) := by unfold DS.kept; rw [if_neg hs]
      rw [hu]
      rw [hkk] at hk
      have HK := Lib.hid hk
      clear hu hkk hk h ho2 c0 c2 c4 hf hs hg2
      unfold two at HK
      go_enter Tryz.func35, Tryz.ntmps35
      go_wp2_with fail
      refine HK.out.mono ?_
      rintro e w1 ⟨rfl, hw1⟩; obtain rfl := hw1.symm; clear hw1
      go_wp2
      go_loopw [8, 6] (fun i s wr => i = .int .i64 0 ∧ s = .string noBytes ∧ wr = w) (fun _ _ _ => 0)
      case atStart => exact ⟨rfl, rfl, rfl⟩
      case round =>
        obtain ⟨rfl, rfl, hwr⟩ := hrel
        subst hwr
        by_cases h0 : 0 < S.W.length
        · have i1 : (0 : Int) < (S.W.length : Int) := by omega
          go_wp2
          refine bodyPost_ret (results_tmp2 rfl _ _ _) rfl ?_
          exact ⟨rfl, rfl⟩
        · have i1 : ¬ (0 : Int) < (S.W.length : Int) := by omega
          go_wp2
          refine bodyPost_ret (results_tmp2 rfl _ _ _) rfl ?_
          exact ⟨rfl, rfl⟩

theorem put_neq (x1 : Int) (x2 : ByteArray) (w : World) : (binOp .neq 68 (.agg #[.int .i64 x1, .string x2]) (.agg #[.int .i64 x1, .string x2])).run Tryz.prog w = .ok (.bool false) w := by
  go_simp

/-- Whether two lists of writes are alike. -/
theorem wlist_ext {W X : List (Int × ByteArray)} (hl : W.length = X.length) (h : ∀ i, i < W.length → wAt W i = wAt X i) : W = X := by
  apply List.ext_getElem hl
  intro i h1 h2
  have := h i h1
  simpa [wAt, List.getElem?_eq_getElem h1, List.getElem?_eq_getElem h2] using this

/-- The slice value reads as writes. -/
structure Wr (w : World) (v : Value) (W : List (Int × ByteArray)) : Prop where
  sh : ∃ a c, v = .slice a W.length c ∧ W.length ≤ c ∧ c ≤ maxLen ∧ W.length ≤ 1000000 ∧ (0 < W.length → ∃ g, a = some ⟨g, 0, none⟩ ∧ ∀ i, i < W.length → w.cell? ⟨g, i * 2, none⟩ = some (.int .i64 (wAt W i).1) ∧ w.cell? ⟨g, i * 2 + 1, none⟩ = some (.string (wAt W i).2))

theorem Wr.of_owns {w : World} {B : Nat} {v : Value} {W : List (Int × ByteArray)} (h : w.ownsRow B 68 2 v W.length (puts W)) (hf : W.length ≤ 1000000) : Wr w v W := by
  obtain ⟨a, c, rfl, h1, h2, h3⟩ := owns_shape1 h
  refine ⟨a, c, rfl, h1, h2, hf, fun h0 => ?_⟩
  obtain ⟨g, rfl, hgo, _, _⟩ := h3 h0
  exact ⟨g, rfl, fun i hi => ⟨owns_cell h hgo _ _ (puts_at W i hi).1, owns_cell h hgo _ _ (puts_at W i hi).2⟩⟩


end Go.Proofs.YtodcdefmoliegaaGreatDoor


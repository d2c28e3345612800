/-
  The walk of GeomApart.
-/
import Derived.Test.YtbnmfajmiglneaaGM
namespace Go.Proofs.Ytbnmfajmiglneaa
open Go.RowKit
set_option linter.unusedVariables false
set_option linter.unusedSimpArgs false

theorem gb_of_below' {w w' : World} (h : Below w.heap.size w w') : w.grownBy w' none := ⟨h.os, h.tape, h.output, h.size, fun k hk _ => h.block k hk⟩

theorem ri_new (w : World) (xs : List Int) (h : xs.length ≤ 1000) : Ri (w.alloc (.cells (ivs xs).toArray 3)) (some ⟨w.heap.size, 0, none⟩) xs.length xs.length xs := by
  obtain ⟨a, n, c, e, hr⟩ := li_new w xs h
  simp only [Value.slice.injEq] at e
  obtain ⟨rfl, rfl, rfl⟩ := e
  exact hr

set_option maxRecDepth 20000 in
set_option maxHeartbeats 4000000 in
theorem apart_walk (N F C U side : Int) (w : World) :
    Calls Try.prog 5 #[geo N F C U, .int .i64 side] w fun e w' => e = .returned (.bool true) ∧ Below w.heap.size w w' := by
  have hr := right_any N F C U
  have hkn := known_any
  have hb0 := (Below.refl w.heap.size w).alloc (Nat.le_refl _) (gbox N F C U)
  by_cases hok : okG N F C U
  · have hd : decide (okG N F C U) = true := by simpa using hok
    rw [hd] at hr
    by_cases hs : isS side
    · obtain ⟨n, f, rfl, rfl, ho⟩ := ok_of hok
      obtain ⟨M, hM⟩ : ∃ M, nodes n f C U = M := ⟨_, rfl⟩
      obtain ⟨s, hsc⟩ : ∃ s : Nat, sec C U side = (s : Int) := ⟨(sec C U side).toNat, by have := (sec_ok (side := side) hok).1; omega⟩
      have hM8 := nodes_le n f C U
      have hs8 := (sec_ok (side := side) hok).2
      rw [hM] at hM8
      rw [hsc] at hs8
      have n2 := ho.n2
      have hsz := size_any n f C U side
      obtain ⟨Z, hZ⟩ : ∃ Z : Nat, Z = 6 + n + M + s := ⟨_, rfl⟩
      rw [show sizeOf' n f C U side = (Z : Int) from by rw [show sizeOf' n f C U side = 6 + (n : Int) + (nodes n f C U : Int) + sec C U side from if_pos ⟨hok, hs⟩, hM, hsc]; omega] at hsz
      have hda := fun i : Nat => data_any n f C U (i : Int)
      have hno := fun i : Nat => node_any n f C U (i : Int)
      have har := fun i : Nat => area_any n f C U side (i : Int)
      have e0 : ∀ i : Nat, dataAt n f C U (i : Int) = plc n M s i 0 := fun i => by
        unfold dataAt plc
        simp only [ln, bs]
        by_cases h : i < n
        · rw [if_pos ⟨hok, by omega, by omega⟩, if_pos h]; omega
        · rw [if_neg (fun g => h (by omega)), if_neg h]
      have e1 : ∀ i : Nat, nodeAt n f C U (i : Int) = plc n M s i 1 := fun i => by
        unfold nodeAt plc
        rw [hM]
        simp only [ln, bs]
        by_cases h : i < M
        · rw [if_pos ⟨hok, by omega, by omega⟩, if_pos h]; omega
        · rw [if_neg (fun g => h (by omega)), if_neg h]
      have e2 : ∀ i : Nat, areaAt n f C U side (i : Int) = plc n M s i 2 := fun i => by
        unfold areaAt plc
        rw [hM, hsc]
        simp only [ln, bs]
        by_cases h : i < s
        · rw [if_pos ⟨hok, hs, by omega, by omega⟩, if_pos h]; omega
        · rw [if_neg (fun g => h (by omega)), if_neg h]
      simp only [e0] at hda
      simp only [e1] at hno
      simp only [e2] at har
      have s1 : 0 ≤ side ∧ side ≤ 1 := by rcases hs with h | h <;> omega
      obtain ⟨s1, s2⟩ := s1
      unfold geo at *
      obtain ⟨T, hT⟩ : ∃ T : Nat, T = 2000 := ⟨_, rfl⟩
      have hmk : ∀ w : World, (Instr.makeSlice 35 (.int .i64 2000) (.int .i64 2000)).run Try.prog w = .ok (.slice (some ⟨w.heap.size, 0, none⟩) T T) (w.alloc (.cells (madeCells #[.bool false] T) 4)) := fun w => by
        subst hT; exact bmake 2000 (by omega) w
      have hown0 : ∀ w : World, (w.alloc (.cells (madeCells #[.bool false] T) 4)).ownsRow w.heap.size 4 1 (.slice (some ⟨w.heap.size, 0, none⟩) T T) T (blv (used n M s 0 0)) := fun w => by
        rw [used_start]; subst hT; exact bowns w 2000 (by omega)
      have hTT : TT = T := by rw [hT]; rfl
      have HOW := Lib.hid hown0
      have HTT := Lib.hid hTT
      have HDA := Lib.hid hda
      have HNO := Lib.hid hno
      have HAR := Lib.hid har
      have HKN := Lib.hid hkn
      have hTb : 1030 ≤ T ∧ T ≤ 2000 := by omega
      obtain ⟨T1, T2⟩ := hTb
      have HT := Lib.hid hT
      clear hown0 hTT hda hno har hkn e0 e1 e2 hd hM hsc hok hs hT
      go_enter Try.func5, Try.ntmps5
      go_wp2_with fail
      refine (hr _).mono ?_
      rintro e w1 ⟨rfl, hb⟩
      have hB1 : Below (w.heap.size + 1) (w.alloc (gbox n f C U)) w1 := hb.mono (by simp)
      have hz1 : w.heap.size + 1 ≤ w1.heap.size := by have := hB1.size; simpa using this
      clear hb hr
      obtain ⟨c1, c2, c3, c4⟩ := gbox_cells hB1
      go_wp2_with fail
      refine (hsz _).mono ?_
      rintro e w2 ⟨rfl, hb⟩
      have hB2 := hB1.trans (hb.mono hz1)
      have hz2 : w.heap.size + 1 ≤ w2.heap.size := Nat.le_trans hz1 hb.size
      have hown0 := HOW.out w2
      have hB3 : Below w2.heap.size w2 (w2.alloc (.cells (madeCells #[.bool false] T) 4)) := (Below.refl _ _).alloc (Nat.le_refl _) _
      clear hb hsz c1 c2 c3 c4 hB1 hz1 HOW
      go_wp2
      simp only [show decide (side < 0) = false from decide_eq_false (by omega), show decide (1 < side) = false from decide_eq_false (by omega), Bool.or_self]
      go_loopw [8, 7] (fun y c wr => ∃ i : Nat, i ≤ 2000 ∧ y = .int .i64 (i : Int) ∧ c = .int .i64 (cnt n M s i 0 : Int) ∧ wr.ownsRow w2.heap.size 4 1 (.slice (some ⟨w2.heap.size, 0, none⟩) T T) T (blv (used n M s i 0)) ∧ Below w2.heap.size w2 wr) (fun y _ _ => 2000 - (intOf y).toNat)
      case atStart => exact ⟨0, by omega, rfl, by simp [cnt, cc], hown0, hB3⟩
      case round =>
        obtain ⟨i, hi9, rfl, rfl, hown, hB⟩ := hrel
        by_cases hlt : i < 2000
        · have hBw : Below (w.heap.size + 1) (w.alloc (gbox n f C U)) wr := hB2.trans (hB.mono hz2)
          have hzr := (hown.lt _ rfl).2
          have h1 := HDA.out i
          have h2 := HNO.out i
          have h3 := HAR.out i
          obtain ⟨p0, hp0⟩ : ∃ p, p = plc n M s i 0 := ⟨_, rfl⟩
          obtain ⟨p1, hp1⟩ : ∃ p, p = plc n M s i 1 := ⟨_, rfl⟩
          obtain ⟨p2, hp2⟩ : ∃ p, p = plc n M s i 2 := ⟨_, rfl⟩
          rw [← hp0] at h1
          rw [← hp1] at h2
          rw [← hp2] at h3
          have hpk : ∀ k, k < 3 → [p0, p1, p2][k]?.getD 0 = plc n M s i k := fun k hk => by
            rcases k_cases hk with rfl | rfl | rfl
            · exact hp0
            · exact hp1
            · exact hp2
          obtain ⟨hs0, hkp, hfin⟩ := held_cells hBw
          have HPK := Lib.hid hpk
          have H1 := Lib.hid h1
          have H2 := Lib.hid h2
          have H3 := Lib.hid h3
          have HKP := Lib.hid hkp
          have HO := Lib.hid hown
          have HB := Lib.hid hB
          have hG : Below wr.drew.heap.size wr.drew wr.drew := Below.refl _ _
          clear h1 h2 h3 hs0 hkp hfin hBw hown hB hp0 hp1 hp2 hpk
          go_wp2_with fail
          go_region_held3 (fun w' => w'.cell? ⟨w.heap.size, 0, none⟩ = some (.int .i64 (n : Int)) ∧ w'.cell? ⟨w.heap.size, 1, none⟩ = some (.int .i64 (f : Int)) ∧ w'.cell? ⟨w.heap.size, 2, none⟩ = some (.int .i64 C) ∧ w'.cell? ⟨w.heap.size, 3, none⟩ = some (.int .i64 U))
            (first | exact HKP.out _ hG | exact HKP.out _ (hG.alloc hG.size _))
            (first
            | (go_at_call 27; refine (H1.out _).mono ?_; rintro rr w' ⟨rfl, hb⟩; replace hG := hG.trans (hb.mono hG.size); clear hb)
            | (go_at_call 29; refine (H2.out _).mono ?_; rintro rr w' ⟨rfl, hb⟩; replace hG := hG.trans (hb.mono hG.size); clear hb)
            | (go_at_call 31; refine (H3.out _).mono ?_; rintro rr w' ⟨rfl, hb⟩; replace hG := hG.trans (hb.mono hG.size); clear hb))
          all_goals (
            rename_i hHeld
            clear hHeld
            obtain ⟨g, hg⟩ : ∃ g, g = w'.heap.size := ⟨_, rfl⟩
            have hGw : Below wr.heap.size wr w' := (Below.refl _ _).drew.trans hG
            have hown8 := (HO.out.kept (gb_of_below' hGw) (.inr (by simp [Value.ownBlock]))).alloc (.cells #[.int .i64 p0, .int .i64 p1, .int .i64 p2] 3)
            have hB8 := (HB.out.trans (hGw.mono HB.out.size)).alloc (Nat.le_trans HB.out.size hGw.size) (.cells #[.int .i64 p0, .int .i64 p1, .int .i64 p2] 3)
            have hri8 := ri_new w' [p0, p1, p2] (by simp)
            have hgz : w2.heap.size < g := by rw [hg]; exact Nat.lt_of_lt_of_le hzr hGw.size
            have hri8' : Ri (w'.alloc (.cells #[.int .i64 p0, .int .i64 p1, .int .i64 p2] 3)) (some ⟨g, 0, none⟩) 3 3 [p0, p1, p2] := by rw [hg]; exact hri8
            obtain ⟨w8, h8⟩ : ∃ w8, w8 = w'.alloc (.cells #[.int .i64 p0, .int .i64 p1, .int .i64 p2] 3) := ⟨_, rfl⟩
            rw [← h8] at hown8 hB8 hri8' ⊢
            rw [← hg]
            clear hri8 hGw h8 hG HO HB HKP H1 H2 H3 hg hzr
            go_wp2
            go_loopw [10, 7] (fun y c wq => ∃ k : Nat, k ≤ 3 ∧ y = .int .i64 (k : Int) ∧ c = .int .i64 (cnt n M s i k : Int) ∧ wq.ownsRow w2.heap.size 4 1 (.slice (some ⟨w2.heap.size, 0, none⟩) T T) T (blv (used n M s i k)) ∧ Ri wq (some ⟨g, 0, none⟩) 3 3 [p0, p1, p2] ∧ Below w2.heap.size w2 wq) (fun y _ _ => 3 - (intOf y).toNat)
            case atStart => exact ⟨0, by omega, rfl, rfl, hown8, hri8', hB8⟩
            case round =>
              obtain ⟨k, hk9, rfl, rfl, hown, hri, hB⟩ := hrel
              by_cases hltk : k < 3
              · have hle : 6 + n + M + s ≤ TT := by rw [HTT.out]; omega
                obtain ⟨b', o', he, hbl, hc⟩ := hri.at0 (by omega)
                simp only [Option.some.injEq, Addr.mk.injEq] at he
                obtain ⟨rfl, rfl, -⟩ := he
                have hck := hc k hltk
                rw [HPK.out k hltk, Nat.zero_add] at hck
                have y1 : (0 : Int) ≤ (k : Int) := by omega
                have y2 : (k : Int) < 3 := by omega
                have hcn := @cnt_le n M s i k
                by_cases hi : i < ln n M s k
                · obtain ⟨z1, z2, z3⟩ := used_new hltk hi hle
                  obtain ⟨t1, t2⟩ := used_set hltk hi hle
                  have hpl : plc n M s i k = ((bs n M k + i : Nat) : Int) := if_pos hi
                  rw [hpl] at hck
                  generalize bs n M k + i = z at *
                  have hcell := hown.cellAt z (by omega)
                  rw [blv_at _ z (by rw [used_length, HTT.out]; omega), z3] at hcell
                  have hfrz := hown.frozenAt z
                  have hstd := hown.stored z (.bool true)
                  rw [blv_set, t1] at hstd
                  have hB5 := hB.setCell (p := ⟨w2.heap.size, z, none⟩) (Nat.le_refl _) (.bool true)
                  have hri5 := hri.gb hstd.2 (fun b' off' e h => by
                    simp only [Option.some.injEq, Addr.mk.injEq] at e h
                    omega)
                  have HO5 := Lib.hid hstd.1
                  have HB5 := Lib.hid hB5
                  have HR5 := Lib.hid hri5
                  have HT2 := Lib.hid t2
                  have x1 : ¬ ((z : Int) < 0) := by omega
                  have x2 : ¬ ((z : Int) < 6) := by omega
                  have x3 : (z : Int) < 6 + (n : Int) + (M : Int) + (s : Int) := by omega
                  have x4 : (z : Int) < 2000 := by omega
                  have x5 : (z : Int) < (T : Int) := by omega
                  have x6 : (0 : Int) ≤ (z : Int) := by omega
                  generalize cnt n M s i k = cn at *
                  clear hown hB hri hc hstd hB5 hri5 t1 t2 z3 hpl hi hbl
                  go_wp2
                  go_roundw
                  case rel => exact ⟨k + 1, by omega, by go_num, by rw [HT2.out]; go_num, HO5.out, HR5.out, HB5.out⟩
                  case measure => simp [intOf]; omega
                · obtain ⟨t1, t2⟩ := used_skip hltk hi
                  have hpl : plc n M s i k = -1 := if_neg hi
                  rw [hpl] at hck
                  rw [t1] at hown
                  have HO5 := Lib.hid hown
                  have HB5 := Lib.hid hB
                  have HR5 := Lib.hid hri
                  have HT2 := Lib.hid t2
                  generalize cnt n M s i k = cn at *
                  clear hown hB hri hc t1 t2 hpl hi hbl
                  go_wp2
                  go_roundw
                  case rel => exact ⟨k + 1, by omega, by go_num, by rw [HT2.out], HO5.out, HR5.out, HB5.out⟩
                  case measure => simp [intOf]; omega
              · obtain rfl : k = 3 := by omega
                rw [(used_next n M s i).1] at hown
                have HN2 := Lib.hid (used_next n M s i).2
                have HO := Lib.hid hown
                have HB := Lib.hid hB
                clear hown hB hri HPK
                generalize cnt n M s i 3 = cn at *
                go_wp2
                go_roundw
                case rel => exact ⟨i + 1, by omega, by go_num, by rw [HN2.out], HO.out, HB.out⟩
                case measure => simp [intOf]; omega)
        · have hie : i = 2000 := by omega
          have g0 : ¬ ((i : Int) < 2000) := by omega
          have hce : cnt n M s i 0 = n + M + s := by
            rw [show i = TT from hie]; exact cnt_end (by rw [HTT.out]; omega)
          rw [hce]
          have hBw := hb0.trans ((hB2.trans (hB.mono hz2)).mono (by omega))
          have HBW := Lib.hid hBw
          clear hown hB hce hBw hB2 hB3 hown0 hmk hlt hie hi9
          go_wp2_with fail
          all_goals first
            | (refine (HKN.out _).mono ?_
               rintro e w9 ⟨rfl, hb⟩
               have hB9 := HBW.out.trans (hb.mono HBW.out.size)
               clear hb
               go_wp2
               go_ret
               exact ⟨rfl, hB9⟩)
            | (exfalso; omega)
    · have hs2 : side < 0 ∨ 1 < side := by
        unfold isS at hs; omega
      unfold geo at *
      clear hd hs hok
      go_enter Try.func5, Try.ntmps5
      go_wp2_with fail
      refine (hr _).mono ?_
      rintro e w1 ⟨rfl, hb⟩
      have hB1 := hb0.trans (hb.mono (by simp))
      clear hb hr
      by_cases h1 : side < 0
      · clear hs2
        go_wp2_with fail
        refine (hkn _).mono ?_
        rintro e w2 ⟨rfl, hb⟩
        have hB2 := hB1.trans (hb.mono hB1.size)
        clear hb hB1 hkn
        go_wp2
        go_ret
        exact ⟨rfl, hB2⟩
      · have h2 : 1 < side := by omega
        clear hs2
        go_wp2_with fail
        refine (hkn _).mono ?_
        rintro e w2 ⟨rfl, hb⟩
        have hB2 := hB1.trans (hb.mono hB1.size)
        clear hb hB1 hkn
        go_wp2
        go_ret
        exact ⟨rfl, hB2⟩
  · have hd : decide (okG N F C U) = false := by simpa using hok
    rw [hd] at hr
    unfold geo at *
    clear hd hok
    go_enter Try.func5, Try.ntmps5
    go_wp2_with fail
    refine (hr _).mono ?_
    rintro e w1 ⟨rfl, hb⟩
    have hB1 := hb0.trans (hb.mono (by simp))
    clear hb hr
    go_wp2_with fail
    refine (hkn _).mono ?_
    rintro e w2 ⟨rfl, hb⟩
    have hB2 := hB1.trans (hb.mono hB1.size)
    clear hb hB1 hkn
    go_wp2
    go_ret
    exact ⟨rfl, hB2⟩

end Go.Proofs.Ytbnmfajmiglneaa

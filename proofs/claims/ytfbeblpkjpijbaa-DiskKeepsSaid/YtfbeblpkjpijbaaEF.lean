/-
  The walk of DiskKeeps.
-/
import Derived.Test.YtfbeblpkjpijbaaEE
namespace Go.Proofs.Ytfbeblpkjpijbaa
open Go.RowKit
set_option linter.unusedVariables false
set_option linter.unusedSimpArgs false

theorem appK_at (L W K) (hat : ∀ k, k < W.length → 0 ≤ (wAt W k).1) (i : Nat) (hi : i < L.length) : ∀ j, j ≤ W.length →
    lAt (appK L W K j) i = lAt L i ∨ ∃ k, k < j ∧ (wAt W k).1 = (i : Int) ∧ (wAt W k).2 = lAt (appK L W K j) i := by
  intro j
  induction j with
  | zero => exact fun _ => .inl rfl
  | succ j ih =>
    intro hj
    have hs : appK L W K (j + 1) = if K[j]?.getD false = true then (appK L W K j).set (wAt W j).1.toNat (wAt W j).2 else appK L W K j := rfl
    have ih := ih (by omega)
    have hn : lAt (appK L W K j) i = lAt L i ∨ ∃ k, k < j + 1 ∧ (wAt W k).1 = (i : Int) ∧ (wAt W k).2 = lAt (appK L W K j) i := by
      rcases ih with h | ⟨k, h1, h2, h3⟩
      · exact .inl h
      · exact .inr ⟨k, by omega, h2, h3⟩
    rw [hs]
    split
    · by_cases e : (wAt W j).1.toNat = i
      · refine .inr ⟨j, by omega, by have := hat j (by omega); omega, ?_⟩
        unfold lAt
        rw [e, List.getElem?_set_self (by rw [appK_length]; exact hi)]
        rfl
      · have h2 : lAt ((appK L W K j).set (wAt W j).1.toNat (wAt W j).2) i = lAt (appK L W K j) i := by
          unfold lAt; rw [List.getElem?_set_ne e]
        rw [h2]; exact hn
    · exact hn

theorem upAt (S : DS) (K : List Bool) : (S.crash K).up = (0, ⟨appK S.L S.W K S.W.length, [], -1, false, S.did⟩) := by
  unfold DS.up; rw [if_pos (show (S.crash K).off = true from rfl)]; rfl

theorem readAt (L : List ByteArray) (did i : Nat) (hi : i < L.length) : (⟨L, [], -1, false, did⟩ : DS).read (i : Int) = (lAt L i, 0) := by
  unfold DS.read
  rw [if_neg (by simp), if_pos (show DS.has _ _ from ⟨by omega, by show (i : Int) < (L.length : Int); omega⟩)]
  rfl

theorem take_snoc (L : List ByteArray) (j : Nat) (h : j < L.length) : strs (L.take j) ++ strs [lAt L j] = strs (L.take (j + 1)) := by
  rw [← strs_append, List.take_add_one, List.getElem?_eq_getElem h]
  simp [lAt, List.getElem?_eq_getElem h]

theorem bytes_eq (s x : ByteArray) : (s.toList == x.toList) = true ↔ s = x := by
  rw [beq_iff_eq, ByteArray.toList_eq, ByteArray.toList_eq]
  constructor
  · intro h; cases s; cases x; simp only [ByteArray.mk.injEq]; exact Array.toList_inj.mp h
  · rintro rfl; rfl

/-- Behind coming up. -/
structure Aft (wr w : World) (p : Nat) (S2 : DS) (vw : Value) (W : List (Int × ByteArray)) (g m : Nat) (L : List ByteArray) : Prop where
  pd : ∃ v1 v2, PD wr w.heap.size p v1 v2 S2
  wait : Wr wr vw W
  was : ∀ i, i < m → wr.cell? ⟨g, i, none⟩ = some (.string (lAt L i))
  old : Below w.heap.size w wr

theorem below_keeps {w w' : World} (hb : Below w.heap.size w w') {p : Addr} {v : Value} (h : w.cell? p = some v) : w'.cell? p = some v :=
  (hb.cell (World.block_lt_of_cell? _ _ h)).trans h

theorem Aft.below {wr wr' w p S2 vw W g m L} (h : Aft wr w p S2 vw W g m L) (hb : Below wr.heap.size wr wr') : Aft wr' w p S2 vw W g m L := by
  obtain ⟨⟨v1, v2, hp⟩, ⟨a, c, e, h1, h2, h3, h4⟩, hw, ho⟩ := h
  refine ⟨⟨v1, v2, hp.below hb⟩, ⟨a, c, e, h1, h2, h3, fun h0 => ?_⟩, fun i hi => below_keeps hb (hw i hi), ho.trans (hb.mono ho.size)⟩
  obtain ⟨g', eg, hc⟩ := h4 h0
  exact ⟨g', eg, fun i hi => ⟨below_keeps hb (hc i hi).1, below_keeps hb (hc i hi).2⟩⟩

theorem aft_of {w w1 w3 wr w4 w5 : World} {p g m cS : Nat} {v1 v2 v1' v2' vw : Value} {S S2 : DS} (hp : PD w1 w.heap.size p v1 v2 S) (hB1 : Below w.heap.size w w1)
    (hwait : w3.ownsRow w1.heap.size 46 2 vw S.W.length (puts S.W)) (hb3 : Below w1.heap.size w1 w3) (hf : S.W.length ≤ 1000000)
    (hwas : wr.ownsRow w3.heap.size 9 1 (.slice (some ⟨g, 0, none⟩) m cS) m (strs S.L)) (hbr : Below w3.heap.size w3 wr) (hm : m = S.L.length)
    (hF4 : Fr (foot p v1 v2) wr w4) (hl4 : ∀ k, foot p v1' v2' k → foot p v1 v2 k ∨ wr.heap.size ≤ k) (hP5 : PP w4 w.heap.size p v1' v2' S2 w5) : Aft w5 w p S2 vw S.W g m S.L := by
  obtain ⟨u1, u2, hp5, hF5, hl5⟩ := hP5
  have hF : Fr (foot p v1 v2) wr w5 := hF4.trans hF5 hl4
  have hkeep : ∀ k, w1.heap.size ≤ k → k < wr.heap.size → w5.heap[k]? = wr.heap[k]? := fun k h1 h2 => hF.block k h2 fun e => by have := (hp.foot_low k e).2; omega
  have h13 := hb3.size
  have h3r := hbr.size
  have hw1 : wr.ownsRow w1.heap.size 46 2 vw S.W.length (puts S.W) := owns_kept hwait fun k e => hbr.block k (hwait.lt k e).2
  have hw2 : w5.ownsRow w1.heap.size 46 2 vw S.W.length (puts S.W) := owns_kept hw1 fun k e => hkeep k (hw1.lt k e).1 (hw1.lt k e).2
  have hs2 : w5.ownsRow w3.heap.size 9 1 (.slice (some ⟨g, 0, none⟩) m cS) m (strs S.L) := owns_kept hwas fun k e => hkeep k (by have := (hwas.lt k e).1; omega) (hwas.lt k e).2
  have hold : Below w.heap.size w wr := (hB1.trans (hb3.mono hB1.size)).trans (hbr.mono (Nat.le_trans hB1.size h13))
  exact ⟨⟨u1, u2, hp5⟩, Wr.of_owns hw2 hf, fun i hi => owns_cell hs2 rfl i _ (strs_at (by omega)), hold.trans (hF.below (fun k h => (hp.foot_low k h).1) hold.size)⟩

set_option maxRecDepth 20000 in
set_option maxHeartbeats 8000000 in
theorem keeps_walk (n : Int) (a : Option Addr) (l c : Nat) (X : Nat → AK) (ak : Option Addr) (nk ck : Nat) (K : List Bool) (w : World) (hA : Acts w a l w.heap.size X) (hlc : l ≤ c) (hcm : c ≤ maxLen)
    (hK : Bl w ak nk K) (hKl : ∀ b off, ak = some ⟨b, off, none⟩ → 0 < nk → b < w.heap.size) :
    Calls Try.prog 4 #[.int .i64 n, .slice a l c, .slice ak nk ck] w fun e w' => e = .returned (.bool true) ∧ Below w.heap.size w w' := by
  have hs := short_any a l c w.heap.size X w hA hlc hcm
  have hcx : (c : Int) ≤ 9223372036854775807 := by unfold maxLen at hcm; omega
  have HA := Lib.hid hA
  have HS := Lib.hid hs
  have HKK := Lib.hid hK
  have HKL := Lib.hid hKl
  have HKN := Lib.hid (fun w1 (hb : Below w.heap.size w w1) => (known_true w1).mono (R' := fun e w' => e = .returned (.bool true) ∧ Below w.heap.size w w') (fun e w' h => ⟨h.1, hb.trans (h.2.mono hb.size)⟩))
  clear hA hs hK hKl
  by_cases hsh : shortB l X = true
  · have hl100 : l ≤ 100 := (of_decide_eq_true hsh).1
    rw [hsh] at HS
    clear hsh
    by_cases hn1 : n < 1
    · go_enter Try.func4, Try.ntmps4
      go_wp2_with fail
      refine HS.out.mono ?_
      rintro e w1 ⟨rfl, hw1⟩; obtain rfl := hw1.symm; clear hw1
      go_wp2_with fail
      refine (HKN.out w (Below.refl _ _)).mono ?_
      rintro e w1 ⟨rfl, hb⟩
      go_wp2
      go_ret
      exact ⟨rfl, hb⟩
    by_cases h40 : (40 : Int) < n
    · go_enter Try.func4, Try.ntmps4
      go_wp2_with fail
      refine HS.out.mono ?_
      rintro e w1 ⟨rfl, hw1⟩; obtain rfl := hw1.symm; clear hw1
      go_wp2_with fail
      refine (HKN.out w (Below.refl _ _)).mono ?_
      rintro e w1 ⟨rfl, hb⟩
      go_wp2
      go_ret
      exact ⟨rfl, hb⟩
    obtain ⟨m, rfl⟩ : ∃ m : Nat, n = (m : Int) := ⟨n.toNat, by omega⟩
    have hm1 : 1 ≤ m := by omega
    have hm2 : m ≤ 40 := by omega
    have HN1 := Lib.hid (new_any m w hm1 (by omega))
    go_enter Try.func4, Try.ntmps4
    go_wp2_with fail
    refine HS.out.mono ?_
    rintro e w1 ⟨rfl, hw1⟩; obtain rfl := hw1.symm; clear hw1
    go_wp2_with fail
    refine HN1.out.mono ?_
    rintro e w1 ⟨p, v1, rfl, hp, hb1⟩
    have HP := Lib.hid hp
    have HB1 := Lib.hid hb1
    have HN2 := Lib.hid (rnew_any m w1 hm1 (by omega))
    clear hp hb1
    go_wp2_with fail
    refine HN2.out.mono ?_
    rintro e w2 ⟨q, u1, rfl, hq, hb2⟩
    obtain ⟨A0, hT0, _⟩ := two_new HP.out hq hb2 HB1.out.size
    have H0 := Lib.hid (show AtAct w2 w p q A0 (ds0 m) 0 m from ⟨hT0, ds0_ok m (by omega), by simp [ds0], HB1.out.trans (hb2.mono HB1.out.size)⟩)
    clear hq hb2 hT0
    go_wp2
    go_loopw [11] (fun i wr => ∃ (k : Nat) (A : Nat → Prop) (S : DS), k ≤ l ∧ i = .int .i64 k ∧ AtAct wr w p q A S k m) (fun i _ => l - (intOf i).toNat)
    case atStart => exact ⟨0, A0, ds0 m, by omega, rfl, H0.out⟩
    case round =>
      obtain ⟨k, A, S, hk, rfl, hat⟩ := hrel
      by_cases hlt : k < l
      · have i0 : (0 : Int) ≤ (k : Int) := by omega
        have i1 : (k : Int) < (l : Int) := by omega
        have hAw := HA.out.below hat.old
        obtain ⟨b, off, rfl, hbl, hcl⟩ := hAw.at0 (by omega)
        obtain ⟨c0, c1, c2, c3⟩ := hcl k hlt
        have hdo := do_any w.heap.size p q A S (X k) wr hat.two hat.old.size k hat.ok (by omega) (hAw.keep k hlt) (fun b' off' e h0 hf => by have := hAw.klow k hlt b' off' e h0; have := (hat.two.low _ hf).1; omega)
        have hok2 := hat.ok.act (X k) (hAw.high k hlt)
        have hln2 := (act_len S (X k)).trans hat.len
        have HAT := Lib.hid hat
        have HOK := Lib.hid (And.intro hok2 hln2)
        unfold AK.val at hdo
        have HDO := Lib.hid hdo
        clear hcl hAw hat hok2 hln2 hdo
        generalize S.act (X k) = S' at HDO HOK
        generalize (X k).kind = x0 at *
        generalize (X k).at' = x1 at *
        generalize (X k).data = x2 at *
        generalize (X k).ka = x3 at *
        generalize (X k).kn = x4 at *
        generalize (X k).kc = x5 at *
        go_wp2_with fail
        refine HDO.out.mono ?_
        rintro e w3 ⟨rfl, htp⟩
        have hb3 := TP.below htp HAT.out.two HAT.out.old
        obtain ⟨A', hT', _, _⟩ := htp
        have HT' := Lib.hid (show AtAct w3 w p q A' S' (k + 1) m from ⟨hT', HOK.out.1, HOK.out.2, hb3⟩)
        clear hT' hb3
        go_wp2
        go_roundw
        case rel => exact ⟨k + 1, A', S', by omega, by go_num, HT'.out⟩
        case measure => simp [intOf]; omega
      · obtain rfl : k = l := by omega
        have i1 : ¬ (k : Int) < (k : Int) := by omega
        obtain ⟨v1, v2, u1, u2, hp, hq, hd, hAA⟩ := hat.two
        have hW : S.W.length ≤ 1000000 := by have := hat.ok.few; have := hat.ok.did; omega
        have hL := hat.len
        have h1 := waits_any w.heap.size p v1 v2 S wr hp hW
        have HP1 := Lib.hid hp
        have H1 := Lib.hid h1
        have HOKS := Lib.hid hat.ok
        have HOLD := Lib.hid hat.old
        clear h1 hat hp hq hd hAA
        go_wp2_with fail
        refine H1.out.mono ?_
        rintro e w3 ⟨vw, rfl, hwait, hb3⟩
        have HWT := Lib.hid hwait
        have HB3 := Lib.hid hb3
        obtain ⟨aw, cw, rfl, hwle, hwm, _⟩ := owns_shape1 hwait
        have hcw : (cw : Int) ≤ 9223372036854775807 := by unfold maxLen at hwm; omega
        clear hwait hb3
        go_wp2
        go_loopw [14, 13] (fun i v wr => ∃ j : Nat, j ≤ m ∧ i = .int .i64 j ∧ wr.ownsRow w3.heap.size 9 1 v j (strs (S.L.take j)) ∧ Below w3.heap.size w3 wr) (fun i _ _ => m - (intOf i).toNat)
        case atStart => exact ⟨0, by omega, rfl, World.ownsRow_nil _ _ _ _, Below.refl _ _⟩
        case round =>
          obtain ⟨j, hj, rfl, hown, hB⟩ := hrel
          by_cases hlt2 : j < m
          · have i2 : (j : Int) < (m : Int) := by omega
            have hpw := (HP1.out.below HB3.out).below hB
            have hk := kept_any w.heap.size p v1 v2 S j wr hpw (by omega)
            have hkk : S.kept (j : Int) = (lAt S.L j, 0) := by unfold DS.kept; rw [if_pos (has_of_lt (by omega))]; rfl
            rw [hkk] at hk
            unfold two at hk
            have hsn := take_snoc S.L j (by omega)
            generalize lAt S.L j = s0 at hk hsn
            have HKD := Lib.hid hk
            have HSN := Lib.hid hsn
            have HOW := Lib.hid hown
            have HBJ := Lib.hid hB
            obtain ⟨i9, hi, hz0, hz1, hz2⟩ := info_parts Try.info9
            clear hpw hk hkk hsn hown hB
            go_wp2_with fail
            refine HKD.out.mono ?_
            rintro e w5 ⟨rfl, hw1⟩; obtain rfl := hw1.symm; clear hw1
            go_wp2_with (at_builtin; refine wpList_append_own _ (o := ⟨some 76, _, _, _, _, _⟩) rfl (.tmp 73) (.tmp 75) 40 rfl w3.heap.size 9 i9 _ 1 16 Try.underlying40 hi hz0 hz1 hz2 rfl (by omega) _ j _ rfl (HOW.out.alloc _) ⟨wr.heap.size, 0, none⟩ 1 1 (strs [s0]) rfl rfl (str_cells wr s0) (strs_one _) (by unfold maxLen; omega) (by omega) (by have := HBJ.out.size; simp; omega) ?_)
            intro v' w6 hown6 hgrow _
            rw [HSN.out] at hown6
            have hB6 := (HBJ.out.alloc HBJ.out.size _).grown hgrow (by have := HBJ.out.size; simp; omega) (fun i hi => (HOW.out.lt i hi).1)
            have H6 := Lib.hid (And.intro hown6 hB6)
            clear hown6 hgrow hB6
            go_wp2
            go_roundw
            case rel => exact ⟨j + 1, by omega, by go_num, H6.out.1, H6.out.2⟩
            case measure => simp [intOf]; omega
          · have ej : m = j := by omega
            subst ej
            have i2 : ¬ (m : Int) < (m : Int) := by omega
            rw [List.take_of_length_le (by omega)] at hown
            have HOW := Lib.hid hown
            obtain ⟨aS, cS, rfl, hSle, hSm, hSg⟩ := owns_shape1 hown
            obtain ⟨g, rfl, _, _, _⟩ := hSg (by omega)
            have hcS : (cS : Int) ≤ 9223372036854775807 := by unfold maxLen at hSm; omega
            have hpw := (HP1.out.below HB3.out).below hB
            have hlow := (HOLD.out.trans (HB3.out.mono HOLD.out.size)).trans (hB.mono (Nat.le_trans HOLD.out.size HB3.out.size))
            have hcr := crash_any w.heap.size p v1 v2 S ak nk ck K wr hpw hlow.size k HOKS.out (by omega) (HKK.out.below hlow) (fun b off e h0 hf => by have := HKL.out b off e h0; have := (hpw.foot_low _ hf).1; omega)
            have HC := Lib.hid hcr
            have HBJ := Lib.hid hB
            clear hown hB hpw hlow hcr hSg
            go_wp2_with fail
            refine HC.out.mono ?_
            rintro e w4 ⟨rfl, v1', v2', hp4, hF4, hl4⟩
            have hu := up_any w.heap.size p v1' v2' (S.crash K) w4 hp4
            rw [upAt] at hu
            dsimp only at hu
            have HU := Lib.hid hu
            have HF4 := Lib.hid hF4
            have HL4 := Lib.hid hl4
            clear hu hp4 hF4 hl4
            go_wp2_with fail
            refine HU.out.mono ?_
            rintro e w5 ⟨rfl, hP5⟩
            have haft := aft_of HP1.out HOLD.out HWT.out HB3.out hW HOW.out HBJ.out hL.symm HF4.out HL4.out hP5
            obtain ⟨v1'', v2'', hp5⟩ := haft.pd
            have hwt := waits_any w.heap.size p v1'' v2'' _ w5 hp5 (by simp)
            have HWW := Lib.hid hwt
            have HAF := Lib.hid haft
            clear hwt haft hp5 hP5
            go_wp2_with fail
            refine HWW.out.mono ?_
            rintro e w6 ⟨vz, rfl, hz, hb6⟩
            have hz' : w6.ownsRow w5.heap.size 46 2 vz 0 [] := hz
            clear hz
            obtain ⟨az, cz, rfl, _, hczm, _⟩ := owns_shape1 hz'
            have HAFT := Lib.hid (HAF.out.below hb6)
            have hcz : (cz : Int) ≤ 9223372036854775807 := by unfold maxLen at hczm; omega
            clear hz' hb6
            go_wp2
            go_loopw [17] (fun i wr => ∃ i' : Nat, i' ≤ m ∧ i = .int .i64 i' ∧ Aft wr w p ⟨appK S.L S.W K S.W.length, [], -1, false, S.did⟩ (.slice aw S.W.length cw) S.W g m S.L) (fun i _ => m - (intOf i).toNat)
            case atStart => exact ⟨0, by omega, rfl, HAFT.out⟩
            case round =>
              obtain ⟨i, hi, rfl, haft⟩ := hrel
              by_cases hlt3 : i < m
              · have i3 : (i : Int) < (m : Int) := by omega
                have i4 : (0 : Int) ≤ (i : Int) := by omega
                obtain ⟨v1'', v2'', hp5⟩ := haft.pd
                have hrd := read_any w.heap.size p v1'' v2'' _ i wr hp5 (by simp) (by show (appK S.L S.W K S.W.length).length ≤ 1000000; rw [appK_length]; omega)
                rw [readAt _ _ _ (by rw [appK_length]; omega)] at hrd
                unfold two at hrd
                have hfact := appK_at S.L S.W K (fun k hk => (HOKS.out.ats k hk).1) i (by omega) S.W.length (Nat.le_refl _)
                generalize lAt (appK S.L S.W K S.W.length) i = s0 at hrd hfact
                have hwas := haft.was i hlt3
                generalize lAt S.L i = x0 at hfact hwas
                have HRD := Lib.hid hrd
                have HFA := Lib.hid hfact
                have HWAS := Lib.hid hwas
                have HAFI := Lib.hid haft
                clear hp5 hrd hfact hwas haft
                go_wp2_with fail
                refine HRD.out.mono ?_
                rintro e w7 ⟨rfl, hb7⟩
                have c0 := below_keeps hb7 HWAS.out
                have HAF7 := Lib.hid (HAFI.out.below hb7)
                clear hb7
                obtain ⟨b0, hq⟩ : ∃ b, (s0.toList == x0.toList) = b := ⟨_, rfl⟩
                have HB0 := Lib.hid (show b0 = true ↔ s0 = x0 by rw [← hq]; exact bytes_eq s0 x0)
                go_wp2
                go_loopw [21, 20] (fun i' v wr => ∃ (k' : Nat) (b : Bool), k' ≤ S.W.length ∧ i' = .int .i64 k' ∧ v = .bool b ∧ wr = w7 ∧ (b = true ↔ s0 = x0 ∨ ∃ j', j' < k' ∧ (wAt S.W j').1 = (i : Int) ∧ (wAt S.W j').2 = s0)) (fun i' _ _ => S.W.length - (intOf i').toNat)
                case atStart => exact ⟨0, b0, by omega, rfl, rfl, rfl, by rw [HB0.out]; simp⟩
                case round =>
                  obtain ⟨k', b, hk', rfl, rfl, hwr, hbb⟩ := hrel
                  subst hwr
                  have HBB := Lib.hid hbb
                  clear hbb c0 hq
                  by_cases hlt4 : k' < S.W.length
                  · have i5 : (k' : Int) < (S.W.length : Int) := by omega
                    have i6 : (0 : Int) ≤ (k' : Int) := by omega
                    cases b with
                    | true =>
                      go_wp2
                      go_roundw
                      case rel => exact ⟨k' + 1, true, by omega, by go_num, rfl, trivial, by
                        refine ⟨fun _ => ?_, fun _ => rfl⟩
                        rcases HBB.out.1 rfl with h | ⟨j', h1, h2, h3⟩
                        · exact .inl h
                        · exact .inr ⟨j', by omega, h2, h3⟩⟩
                      case measure => simp [intOf]; omega
                    | false =>
                      obtain ⟨aw', cw', hsl, _, _, _, h4⟩ := HAF7.out.wait.sh
                      obtain ⟨rfl, _, rfl⟩ := Value.slice.inj hsl
                      obtain ⟨gw, rfl, hcc⟩ := h4 (by omega)
                      obtain ⟨d0, d1⟩ := hcc k' hlt4
                      have hnx : ∀ b' : Bool, (b' = true ↔ (wAt S.W k').1 = (i : Int) ∧ (wAt S.W k').2 = s0) → (b' = true ↔ s0 = x0 ∨ ∃ j', j' < k' + 1 ∧ (wAt S.W j').1 = (i : Int) ∧ (wAt S.W j').2 = s0) := by
                        intro b' hb'
                        constructor
                        · intro e
                          obtain ⟨h1, h2⟩ := hb'.1 e
                          exact .inr ⟨k', by omega, h1, h2⟩
                        · rintro (h | ⟨j', h1, h2, h3⟩)
                          · exact absurd (HBB.out.2 (.inl h)) (by simp)
                          · rcases Nat.lt_or_ge j' k' with h5 | h5
                            · exact absurd (HBB.out.2 (.inr ⟨j', h5, h2, h3⟩)) (by simp)
                            · obtain rfl : j' = k' := by omega
                              exact hb'.2 ⟨h2, h3⟩
                      have HNX := Lib.hid hnx
                      clear hnx hcc h4 hsl
                      generalize (wAt S.W k').1 = y1 at d0 HNX
                      generalize (wAt S.W k').2 = y2 at d1 HNX
                      by_cases hy : y1 = (i : Int)
                      · subst hy
                        obtain ⟨b1, hq⟩ : ∃ b, (y2.toList == s0.toList) = b := ⟨_, rfl⟩
                        have HB1 := Lib.hid (show b1 = true ↔ y2 = s0 by rw [← hq]; exact bytes_eq y2 s0)
                        go_wp2
                        go_roundw
                        case rel => exact ⟨k' + 1, b1, by omega, by go_num, rfl, trivial, HNX.out b1 (by rw [HB1.out]; simp)⟩
                        case measure => simp [intOf]; omega
                      · have hy2 : (y1 == (i : Int)) = false := by simpa using hy
                        have HY := Lib.hid hy
                        clear hy
                        go_wp2
                        go_roundw
                        case rel => exact ⟨k' + 1, false, by omega, by go_num, rfl, trivial, HNX.out false (by have := HY.out; simp [this])⟩
                        case measure => simp [intOf]; omega
                  · obtain ek : S.W.length = k' := by omega
                    have i5 : ¬ (k' : Int) < (S.W.length : Int) := by omega
                    have hbt : b = true := HBB.out.2 (by
                      rcases HFA.out with h | ⟨j', h1, h2, h3⟩
                      · exact .inl h
                      · exact .inr ⟨j', by omega, h2, h3⟩)
                    subst hbt
                    go_wp2
                    go_roundw
                    case rel => exact ⟨i + 1, by omega, by go_num, HAF7.out⟩
                    case measure => simp [intOf]; omega
              · have ei : m = i := by omega
                subst ei
                have i3 : ¬ (m : Int) < (m : Int) := by omega
                have HAFI := Lib.hid haft
                clear haft
                go_wp2_with fail
                refine (HKN.out _ HAFI.out.old).mono ?_
                rintro e w7 ⟨rfl, hb⟩
                go_wp2
                go_ret
                exact ⟨rfl, hb⟩
  · rw [Bool.not_eq_true] at hsh
    rw [hsh] at HS
    clear hsh
    go_enter Try.func4, Try.ntmps4
    go_wp2_with fail
    refine HS.out.mono ?_
    rintro e w1 ⟨rfl, hw1⟩; obtain rfl := hw1.symm; clear hw1
    go_wp2_with fail
    refine (HKN.out w (Below.refl _ _)).mono ?_
    rintro e w1 ⟨rfl, hb⟩
    go_wp2
    go_ret
    exact ⟨rfl, hb⟩

end Go.Proofs.Ytfbeblpkjpijbaa

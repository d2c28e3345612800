/-
  Contract of the reference's Long.
-/
import Derived.Test.YtgblhcikffecfaaDoorFP
namespace Go.Proofs.YtgblhcikffecfaaDoor
open Go.RowKit Go.Shelf
set_option linter.unusedVariables false
set_option linter.unusedSimpArgs false

theorem eql_texts (u s : ByteArray) (w : World) : (binOp .eql 9 (.string u) (.string s)).run Tryd.prog w = .ok (.bool (decide (u = s))) w := by
  by_cases h : u = s
  · subst h; simp [go_sem]
  · simp [go_sem, h]
    intro e
    apply h
    rw [ByteArray.toList_eq, ByteArray.toList_eq] at e
    cases u; cases s
    simp only [ByteArray.mk.injEq]
    exact Array.toList_inj.mp e

theorem lt_of_addr {W : World} {a : Addr} {v : Value} (h : W.cell? a = some v) : a.block < W.heap.size := by
  unfold World.cell? at h
  split at h
  · rename_i hb; exact (Array.getElem?_eq_some_iff.1 hb).1
  · cases h

/-- What is known of the text behind k words. -/
def GoodR (t : List UInt8) (k : Nat) (out : List UInt8) : Prop := out.length ≤ 99 * k ∧ ∀ x, IsForm t x → out = flat ((rs x 64).1.take k)
theorem form_word {t x : List UInt8} (h : IsForm t x) {k : Nat} {p : List UInt8} (hp : (parts t)[k]? = some p) :
    ∃ r : Run, p = spellR r ∧ 1 ≤ r.2.val ∧ flat ((rs x 64).1.take (k + 1)) = flat ((rs x 64).1.take k) ++ List.replicate r.2.val (UInt8.ofNat r.1.val) := by
  have hf := form_parts h
  rw [hf, List.getElem?_map] at hp
  cases hr : (rs x 64).1[k]? with
  | none => rw [hr] at hp; cases hp
  | some r =>
    rw [hr] at hp
    have hm := List.mem_of_getElem? hr
    refine ⟨r, (Option.some.inj hp).symm, form_pos h r hm, ?_⟩
    rw [List.take_add_one, hr, flat_append]
    simp [flat]

set_option maxRecDepth 100000 in
set_option maxHeartbeats 4000000 in
theorem rlong_any (s : ByteArray) (w : World) :
    Calls Tryd.prog 21 #[.string s] w fun e w' => ∃ v why, e = .returned (.tuple #[.string v, .int .i64 why]) ∧ LongR s.data.toList v why ∧ Below w.heap.size w w' := by
  have hsl : s.data.toList.length = s.size := rfl
  by_cases h200 : 200 < s.size
  · have hno : ∀ x, ¬ IsForm s.data.toList x := fun x hx => by have := (form_short hx).1; omega
    have i1 : (200 : Int) < (s.size : Int) := by omega
    have HNO := Lib.hid hno
    clear hno h200
    go_enter Tryd.func21, Tryd.ntmps21
    go_wp2
    refine bodyPost_ret (results_tmp2 rfl _ _ _) rfl ?_
    exact ⟨⟨#[]⟩, 6, rfl, .inr ⟨HNO.out, rfl, rfl⟩, Below.refl _ _⟩
  · have hw := words_any s w (by omega)
    have hwk : wordsK s.data.toList s.size = parts s.data.toList := by
      have := wordsK_parts s.data.toList s.data.toList.length (Nat.le_refl _)
      rwa [List.take_length, hsl] at this
    rw [hwk] at hw
    have hpl : (parts s.data.toList).length ≤ 201 := by
      have := (wordsK_len s.data.toList s.size).2.1
      rw [hwk] at this; omega
    have hpm : ∀ x ∈ parts s.data.toList, x.length ≤ 200 := fun x hx => by have := part_len _ x hx; omega
    obtain ⟨PL, hPL⟩ : ∃ PL, PL = parts s.data.toList := ⟨_, rfl⟩
    rw [← hPL] at hw hpl hpm
    have i1 : ¬ (200 : Int) < (s.size : Int) := by omega
    have HW := Lib.hid hw
    have HPL := Lib.hid hPL
    have HPM := Lib.hid hpm
    have HLL := Lib.hid hpl
    have HSL := Lib.hid h200
    clear hw hPL hpm hwk hpl h200
    go_enter Tryd.func21, Tryd.ntmps21
    go_wp2_with fail
    refine HW.out.mono ?_
    rintro e w1 ⟨a, c, rfl, hown, hb1⟩
    obtain ⟨g, rfl⟩ : ∃ g, a = some ⟨g, 0, none⟩ := by
      rcases hown.2 with ⟨he, h0⟩ | ⟨g', cap, cur, he, _⟩
      · exact absurd (List.eq_nil_of_length_eq_zero h0) (by rw [HPL.out]; exact parts_some _)
      · cases he; exact ⟨g', rfl⟩
    have hcell : ∀ (wr : World), Below w1.heap.size w1 wr → ∀ (i : Nat) (p : List UInt8), PL[i]? = some p → wr.cell? ⟨g, i, none⟩ = some (strV p) := fun wr hb i p hp => by
      have h1 := hown.cells (g := g) rfl i (strV p) (by unfold strW; rw [List.getElem?_map, hp]; rfl)
      rw [Addr.add_none, Nat.zero_add] at h1
      exact (hb.cell (p := ⟨g, i, none⟩) ((hown.lt g rfl).2)).trans h1
    have hcap : PL.length ≤ c := by
      rcases hown.2 with ⟨he, h0⟩ | ⟨g', cap, cur, he, _, _, h5, _⟩
      · cases he
      · cases he; exact h5
    have HC := Lib.hid hcell
    have HB1 := Lib.hid hb1
    have HCAP := Lib.hid hcap
    obtain ⟨L, hL⟩ : ∃ L, L = PL.length := ⟨_, rfl⟩
    rw [← hL]
    have HL := Lib.hid hL
    have hL2 : L ≤ 201 := by rw [hL]; exact HLL.out
    clear hcell hb1 hown hcap hL
    go_wp2
    go_loopw [4, 6] (fun o i wr => ∃ (k : Nat) (out : List UInt8), k ≤ L ∧ o = strV out ∧ i = .int .i64 (k : Int) ∧ GoodR s.data.toList k out ∧ Below w1.heap.size w1 wr) (fun _ i _ => L - (intOf i).toNat)
    case atStart => exact ⟨0, [], by omega, rfl, rfl, ⟨by simp, fun x hx => rfl⟩, Below.refl _ _⟩
    case round =>
      obtain ⟨k, out, hk, rfl, rfl, hG, hB⟩ := hrel
      have i2 : (0 : Int) ≤ (k : Int) := by omega
      have i3 : (L : Int) ≤ 201 := by omega
      have i4 : (L : Int) ≤ (c : Int) := by have := HCAP.out; have := HL.out; omega
      by_cases hlt : k < L
      · have i5 : (k : Int) < (L : Int) := by omega
        have hkl : k < PL.length := by rw [← HL.out]; exact hlt
        obtain ⟨p, hp⟩ : ∃ p, PL[k]? = some p := ⟨_, List.getElem?_eq_getElem hkl⟩
        have hc := HC.out wr hB k p hp
        have hp2 := hp
        rw [HPL.out] at hp2
        have hpl := HPM.out p (List.mem_of_getElem? hp)
        obtain ⟨P, hP⟩ : ∃ P : ByteArray, P = ⟨p.toArray⟩ := ⟨_, rfl⟩
        have hPs : P.size = p.length := by rw [hP]; show (List.toArray p).size = _; rw [List.size_toArray]
        have hPd : P.data.toList = p := by rw [hP]
        have hc' : wr.cell? ⟨g, k, none⟩ = some (.string P) := by rw [hP]; exact hc
        have HG := Lib.hid hG
        have HB := Lib.hid hB
        have HP2 := Lib.hid hp2
        have HPD := Lib.hid hPd
        have HPS := Lib.hid hPs
        have HPL2 := Lib.hid hpl
        have HLT := Lib.hid hlt
        clear hc hG hB hp hp2 hP hPs hPd hpl hkl hlt hk
        by_cases h2 : P.size < 2
        · have hno : ∀ x, ¬ IsForm s.data.toList x := fun x hx => by
            obtain ⟨r, h1, _⟩ := form_word hx HP2.out
            have := (und_spell r).1
            rw [← h1, ← HPS.out] at this
            omega
          have HNO := Lib.hid hno
          have i6 : (P.size : Int) < 2 := by omega
          clear hno h2
          go_wp2
          refine bodyPost_ret (results_tmp2 rfl _ _ _) rfl ?_
          exact ⟨⟨#[]⟩, 6, rfl, .inr ⟨HNO.out, rfl, rfl⟩, HB1.out.trans (HB.out.mono HB1.out.size)⟩
        · have i6 : ¬ (P.size : Int) < 2 := by omega
          have htk : ∀ w, (Instr.sliceAt 9 (.string P) none (some (.int .i64 2)) none).run Tryd.prog w = .ok (strV (p.take 2)) w := fun w => by
            have := take_cut P 2 (by omega) w
            rw [HPD.out] at this
            exact this
          have hun := fun w => und_any ⟨(p.take 2).toArray⟩ w (by show (List.toArray (p.take 2)).size = 2; rw [List.size_toArray, List.length_take]; have := HPS.out; omega)
          change ∀ w, Calls _ _ #[strV (p.take 2)] w _ at hun
          unfold undV at hun
          have e1 : (⟨(p.take 2).toArray⟩ : ByteArray).data.toList = p.take 2 := rfl
          rw [e1] at hun
          have hul := und_len (p.take 2)
          have hrn := fun w => run_any P w (by have := HPS.out; have := HPL2.out; omega)
          rw [HPD.out] at hrn
          have hrl := runN_le p
          have huf : ∀ x, IsForm s.data.toList x → ∃ r : Run, p = spellR r ∧ 1 ≤ r.2.val ∧ (undP (p.take 2)) = ([UInt8.ofNat r.1.val], true) ∧ runN p = r.2.val ∧ flat ((rs x 64).1.take (k + 1)) = flat ((rs x 64).1.take k) ++ List.replicate r.2.val (UInt8.ofNat r.1.val) := fun x hx => by
            obtain ⟨r, h1, h2, h3⟩ := form_word hx HP2.out
            exact ⟨r, h1, h2, by rw [h1]; exact (und_spell r).2, by rw [h1]; exact run_spell r h2, h3⟩
          obtain ⟨o1, b1, hob⟩ : ∃ o1 b1, undP (p.take 2) = (o1, b1) := ⟨_, _, rfl⟩
          rw [hob] at hun hul huf
          dsimp only at hun hul huf
          generalize runN p = R at *
          generalize strV (p.take 2) = VT at *
          have HUN := Lib.hid hun
          have HRN := Lib.hid hrn
          have HUF := Lib.hid huf
          have HUL := Lib.hid hul
          have HRL := Lib.hid hrl
          clear hun hrn huf hul hrl hob h2 e1
          go_wp2_with fail
          refine (HUN.out _).mono ?_
          rintro e w3 ⟨rfl, hb3⟩
          have HB3 := Lib.hid (HB.out.trans (hb3.mono HB.out.size))
          have hc3 : w3.cell? ⟨g, k, none⟩ = some (.string P) := (hb3.cell (p := ⟨g, k, none⟩) (lt_of_addr hc')).trans hc'
          clear hb3 hc'
          cases b1 with
          | false =>
            have hno : ∀ x, ¬ IsForm s.data.toList x := fun x hx => by
              obtain ⟨r, h1, h2, h3, _⟩ := HUF.out x hx
              injection h3 with _ h4
              cases h4
            have HNO := Lib.hid hno
            clear hno
            go_wp2
            refine bodyPost_ret (results_tmp2 rfl _ _ _) rfl ?_
            exact ⟨⟨#[]⟩, 6, rfl, .inr ⟨HNO.out, rfl, rfl⟩, HB1.out.trans (HB3.out.mono HB1.out.size)⟩
          | true =>
            go_wp2_with fail
            refine (HRN.out _).mono ?_
            rintro e w4 ⟨rfl, hw4⟩
            obtain rfl := hw4.symm
            clear hw4
            have i7 : (R : Int) ≤ 99 := by have := HRL.out; omega
            have i8 : (0 : Int) ≤ (R : Int) := by omega
            go_wp2
            go_loopw [4, 9] (fun o i wr2 => ∃ j : Nat, j ≤ R ∧ o = strV (out ++ Lib.repeatL o1 j) ∧ i = .int .i64 ((R : Int) - (j : Int)) ∧ wr2 = w3) (fun _ i _ => (intOf i).toNat)
            case atStart => exact ⟨0, by omega, by simp [Lib.repeatL], by simp, rfl⟩
            case round =>
              obtain ⟨j, hj, rfl, rfl, hw2⟩ := hrel
              obtain rfl := hw2.symm
              clear hw2
              by_cases hjr : j < R
              · have hadd := add_texts (out ++ Lib.repeatL o1 j) o1 (by
                  have h1 := HG.out.1
                  have h2 := rep_len o1 j
                  have h3 := HUL.out
                  have h4 := HRL.out
                  have h5 : j * o1.length ≤ j * 1 := Nat.mul_le_mul_left _ h3
                  rw [List.length_append, h2]
                  omega)
                rw [List.append_assoc, ← rep_next] at hadd
                have i9 : (0 : Int) < (R : Int) - (j : Int) := by omega
                have HJ := Lib.hid hjr
                clear hjr hj
                generalize strV (out ++ Lib.repeatL o1 j) = V1 at *
                generalize hV2 : strV (out ++ Lib.repeatL o1 (j + 1)) = V2 at *
                generalize strV o1 = VO at *
                have HV2 := Lib.hid hV2
                clear hV2
                go_wp2
                go_roundw
                case rel => exact ⟨j + 1, by have := HJ.out; omega, HV2.out.symm, by go_num, trivial⟩
                case measure => have := HJ.out; simp [intOf]; omega
              · obtain rfl : j = R := by omega
                have i9 : ¬ (0 : Int) < (j : Int) - (j : Int) := by omega
                have hgood : GoodR s.data.toList (k + 1) (out ++ Lib.repeatL o1 j) := by
                  refine ⟨?_, fun x hx => ?_⟩
                  · have h1 := HG.out.1
                    have h2 := rep_len o1 j
                    have h3 := HUL.out
                    have h4 := HRL.out
                    have h5 : j * o1.length ≤ j * 1 := Nat.mul_le_mul_left _ h3
                    rw [List.length_append, h2]
                    omega
                  · obtain ⟨r, h1, h2, h3, h4, h5⟩ := HUF.out x hx
                    injection h3 with h6 _
                    rw [h5, ← HG.out.2 x hx, h6, repeatL_one, h4]
                have HGD := Lib.hid hgood
                clear hgood hjr hj
                go_wp2
                go_roundw
                case rel => exact ⟨k + 1, _, by have := HLT.out; omega, rfl, by go_num, HGD.out, HB3.out⟩
                case measure => have := HLT.out; simp [intOf]; omega
      · obtain rfl : k = L := by omega
        have hfull : ∀ x, IsForm s.data.toList x → out = x := fun x hx => by
          have := form_len hx
          rw [← HPL.out, ← HL.out] at this
          rw [hG.2 x hx, this]
        obtain ⟨O, hO⟩ : ∃ O : ByteArray, O = ⟨out.toArray⟩ := ⟨_, rfl⟩
        have hOd : O.data.toList = out := by rw [hO]
        have hsh := fun w => rshort_any O w
        obtain ⟨u, hu⟩ : ∃ u, shortV O = .string u := by
          unfold shortV
          by_cases h : O.size = 64
          · rw [if_pos h]; exact ⟨_, rfl⟩
          · rw [if_neg h]; exact ⟨_, rfl⟩
        rw [hu] at hsh
        have hVO : strV out = .string O := by rw [hO]; rfl
        rw [hVO]
        have hnq := neq_texts u s
        have hgu := fun op x y => guard_text op x y u s
        have heq := eql_texts s ⟨#[]⟩
        have hge := fun op x y => guard_text op x y s ⟨#[]⟩
        have HB := Lib.hid hB
        have HSH := Lib.hid hsh
        have hno : u ≠ s ∨ s = ⟨#[]⟩ → ∀ x, ¬ IsForm s.data.toList x := fun h x hx => by
          have e := hfull x hx
          have h64 : O.size = 64 := by have := hx.1; rw [← e, ← hOd] at this; exact this
          rw [← e, ← hOd] at hx
          have h1 := (shortV_form h64).2 hx
          rw [hu] at h1
          rcases h with h | h
          · exact h (Value.string.inj h1)
          · have := (form_short hx).2
            rw [h] at this
            exact absurd this (by decide)
        have hyes : u = s → s ≠ ⟨#[]⟩ → IsForm s.data.toList O.data.toList := fun h1 h2 => by
          have h64 : O.size = 64 := by
            by_cases h : O.size = 64
            · exact h
            · unfold shortV at hu
              rw [if_neg h] at hu
              have h3 : (⟨([] : List UInt8).toArray⟩ : ByteArray) = u := Value.string.inj hu
              exact absurd (h1.symm.trans h3.symm) h2
          exact (shortV_form h64).1 (by rw [hu, h1])
        have HNO := Lib.hid hno
        have HYES := Lib.hid hyes
        clear hno hyes hsh hB hfull hO hOd hVO hG hk hlt i4 hL2
        by_cases hus : u = s
        · by_cases hse : s = ⟨#[]⟩
          · have HX := Lib.hid (HNO.out (.inr hse))
            rw [decide_eq_false (fun h => h hus)] at hnq
            rw [decide_eq_true hse] at heq
            clear hus hse hu
            generalize hVU : Value.string u = VU at *
            generalize hVS : Value.string s = VS at *
            clear hVU hVS
            go_wp2_with fail
            refine (HSH.out _).mono ?_
            rintro e w5 ⟨rfl, hb5⟩
            have HB5 := Lib.hid (HB.out.trans (hb5.mono HB.out.size))
            clear hb5
            go_wp2
            refine bodyPost_ret (results_tmp2 rfl _ _ _) rfl ?_
            exact ⟨⟨#[]⟩, 6, rfl, .inr ⟨HX.out, rfl, rfl⟩, HB1.out.trans (HB5.out.mono HB1.out.size)⟩
          · have HX := Lib.hid (HYES.out hus hse)
            rw [decide_eq_false (fun h => h hus)] at hnq
            rw [decide_eq_false hse] at heq
            clear hus hse hu
            generalize hVU : Value.string u = VU at *
            generalize hVS : Value.string s = VS at *
            clear hVU hVS
            go_wp2_with fail
            refine (HSH.out _).mono ?_
            rintro e w5 ⟨rfl, hb5⟩
            have HB5 := Lib.hid (HB.out.trans (hb5.mono HB.out.size))
            clear hb5
            go_wp2
            refine bodyPost_ret (results_tmp2 rfl _ _ _) rfl ?_
            exact ⟨O, 0, rfl, .inl ⟨HX.out, rfl⟩, HB1.out.trans (HB5.out.mono HB1.out.size)⟩
        · have HX := Lib.hid (HNO.out (.inl hus))
          rw [decide_eq_true (show u ≠ s from hus)] at hnq
          clear hus hu
          generalize hVU : Value.string u = VU at *
          generalize hVS : Value.string s = VS at *
          clear hVU hVS
          go_wp2_with fail
          refine (HSH.out _).mono ?_
          rintro e w5 ⟨rfl, hb5⟩
          have HB5 := Lib.hid (HB.out.trans (hb5.mono HB.out.size))
          clear hb5
          go_wp2
          refine bodyPost_ret (results_tmp2 rfl _ _ _) rfl ?_
          exact ⟨⟨#[]⟩, 6, rfl, .inr ⟨HX.out, rfl, rfl⟩, HB1.out.trans (HB5.out.mono HB1.out.size)⟩
end Go.Proofs.YtgblhcikffecfaaDoor

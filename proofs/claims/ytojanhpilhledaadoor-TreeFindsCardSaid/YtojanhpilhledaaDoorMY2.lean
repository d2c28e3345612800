/-
  Texts put together: Y2.
-/
import Derived.Test.YtojanhpilhledaaDoorMY1
/-
  The document's Set.
-/
namespace Go.Proofs.YtojanhpilhledaaDoor
open Go.RowKit
set_option linter.unusedVariables false
set_option linter.unusedSimpArgs false

theorem setErr_far {N F C U leaf : Int} {s : ByteArray} (h : path N F C U leaf = []) : setErr N F C U leaf s = 3 := if_pos h

set_option maxRecDepth 20000 in
set_option maxHeartbeats 2000000 in
theorem rset_any (B p : Nat) (v : Value) (N F C U : Int) (L : List ByteArray) (leaf : Int) (s : ByteArray) (w : World) (h : RT w B p v N F C U L)
    (hok : okG N F C U) (hL : L.length = nodes N F C U) (h32 : ∀ i, i < L.length → (lAt L i).size ≤ 1000) :
    Calls Tryd.prog 20 #[.pointer (some ⟨p, 0, none⟩), .int .i64 leaf, .string s] w fun e w' => e = .returned (.int .i64 (setErr N F C U leaf s)) ∧ RT w' B p v N F C U (setL N F C U L leaf s) ∧ Fr (tfoot p v) w w' := by
  have hnle := nodes_le N F C U
  have hnp := nodes_pos hok
  have hpl := path_len N F C U leaf
  obtain ⟨c0, c1, c2, c3, c4, _⟩ := h.cells
  have hsr := rright_any s
  by_cases hp : path N F C U leaf = []
  · have he : setErr N F C U leaf s = 3 := if_pos hp
    have hl : setL N F C U L leaf s = L := by unfold setL; rw [if_pos (by rw [he]; omega)]
    rw [he, hl]
    have hno := path_none hp
    have hor : leaf < 0 ∨ N ≤ leaf := by
      rcases Int.lt_or_le leaf 0 with h1 | h1
      · exact .inl h1
      · exact .inr (by
          rcases Int.lt_or_le leaf N with h2 | h2
          · exact absurd ⟨hok, h1, h2⟩ hno
          · exact h2)
    have HT := Lib.hid h
    have HF := Lib.hid (Fr.refl (tfoot p v) w)
    clear he hl h hL h32 hp hpl hok hno hnp hsr
    rcases hor with h1 | h1
    · go_enter Tryd.func20, Tryd.ntmps20
      go_wp2
      go_ret
      exact ⟨rfl, HT.out, HF.out⟩
    · by_cases h2 : leaf < 0
      · go_enter Tryd.func20, Tryd.ntmps20
        go_wp2
        go_ret
        exact ⟨rfl, HT.out, HF.out⟩
      · go_enter Tryd.func20, Tryd.ntmps20
        go_wp2
        go_ret
        exact ⟨rfl, HT.out, HF.out⟩
  · obtain ⟨-, hl0, hl1⟩ := path_ok hp
    have j0 : ¬ leaf < 0 := by omega
    have j1 : ¬ N ≤ leaf := by omega
    by_cases hs : s.size = 64
    · have he : setErr N F C U leaf s = 0 := by unfold setErr; rw [if_neg hp, if_neg (fun h => h hs)]
      obtain ⟨x, rfl⟩ : ∃ x : Nat, leaf = x := ⟨leaf.toNat, by omega⟩
      have hl : setL N F C U L x s = upL N F C U (L.set x (leafB s)) ((path N F C U x).drop 1) := by unfold setL; rw [if_neg (fun hh => hh he), Int.toNat_natCast]
      rw [he]
      have hks := fun k (hk : k ∈ path N F C U x) => path_mem hk
      have hpath := fun w => rpath_any N F C U x w
      unfold geo at hpath
      obtain ⟨P, hP⟩ : ∃ P, P = path N F C U x := ⟨_, rfl⟩
      rw [← hP] at hl hp hpl hks
      simp only [← hP] at hpath
      have hPl : 1 ≤ P.length := by cases P with | nil => exact absurd rfl hp | cons _ _ => simp
      obtain ⟨g, cv, rfl, hg, hgB, hgl, hlc, hcc⟩ := h.shape (by omega)
      have hlf := rleaf_any s w.drew (by omega)
      have hszm : ∀ m, ∀ i, i < (upL N F C U (L.set x (leafB s)) ((P.drop 1).take m)).length → (lAt (upL N F C U (L.set x (leafB s)) ((P.drop 1).take m)) i).size ≤ 1000 := fun m => upL_size (by omega) _ _ (fun k hk => by
          obtain ⟨y, e, hy⟩ := hks k (List.mem_of_mem_drop (List.mem_of_mem_take hk))
          exact ⟨y, e, by rw [List.length_set]; omega⟩) (fun i hi => by
        rw [List.length_set] at hi
        rw [lAt_set (by omega)]
        split
        · rw [leafB_size]; omega
        · exact h32 i hi)
      have hlm : ∀ m, (upL N F C U (L.set x (leafB s)) ((P.drop 1).take m)).length = L.length := fun m => by rw [upL_length, List.length_set]
      obtain ⟨M, hM⟩ : ∃ M, M = L.length := ⟨_, rfl⟩
      have i2 : (x : Int) < (M : Int) := by omega
      have i0 : (0 : Int) ≤ (x : Int) := by omega
      have hTd : RT w.drew B p (.slice (some ⟨g, 0, none⟩) M cv) N F C U L := by rw [hM]; exact h.kept fun _ _ => rfl
      have hst : ∀ w', Below w.drew.heap.size w.drew w' → w'.cell? ⟨p, 4, none⟩ = some (.slice (some ⟨g, 0, none⟩) M cv) ∧ (∀ u, (w'.setCell ⟨g, x, none⟩ u).cell? ⟨p, 4, none⟩ = some (.slice (some ⟨g, 0, none⟩) M cv)) ∧ w'.frozen? ⟨g, x, none⟩ = false ∧ w'.cell? ⟨g, x, none⟩ = some (.string (lAt L x)) := fun w' hb => by
        have hT' := hTd.below hb
        have hc := hT'.cells.2.2.2.2.1
        exact ⟨hc, fun u => (hT'.sgeo rfl x u 4).trans hc, hT'.free rfl x, hT'.at rfl (by omega)⟩
      have hend : ∀ w', Below w.drew.heap.size w.drew w' → RT (w'.setCell ⟨g, x, none⟩ (.string (leafB s))) B p (.slice (some ⟨g, 0, none⟩) M cv) N F C U (L.set x (leafB s)) ∧ Fr (tfoot p (.slice (some ⟨g, 0, none⟩) M cv)) w (w'.setCell ⟨g, x, none⟩ (.string (leafB s))) := fun w' hb => hTd.put ((Fr.refl _ w).drew) hb rfl (by omega) _
      have hfl := h.foot_low
      rw [← hM] at hlc c4 hfl
      have HP := Lib.hid hpath
      have HL := Lib.hid hl
      have HKS := Lib.hid hks
      have HZM := Lib.hid hszm
      have HLM := Lib.hid hlm
      have HFL := Lib.hid hfl
      have HNL := Lib.hid (hL.symm.trans hM.symm)
      have HM := Lib.hid hM
      clear h hl hks hszm hlm hp he h32 hP hnp hl0 hl1 hok hpath hfl hTd hL hM
      change Calls _ _ _ _ _ at hlf
      have hlf : Calls Tryd.prog 47 #[.string s] w.drew fun e w'' => e = .returned (.string (leafB s)) ∧ Below w.drew.heap.size w.drew w'' := hlf
      generalize leafB s = z at *
      generalize lAt L x = y at *
      have HLF := Lib.hid hlf
      have HST := Lib.hid hst
      have HE := Lib.hid hend
      have hG : Below w.drew.heap.size w.drew w.drew := Below.refl _ _
      clear hlf hst hend
      go_enter Tryd.func20, Tryd.ntmps20
      go_wp2_with fail
      refine (hsr _).mono ?_
      rintro e w2 ⟨rfl, hw2⟩
      obtain rfl := hw2.symm
      clear hw2 hsr
      rw [decide_eq_true hs]
      go_wp2_with fail
      go_region_held3 (fun w' => w'.cell? ⟨p, 4, none⟩ = some (.slice (some ⟨g, 0, none⟩) M cv))
        (first | exact (HST.out _ hG).1 | exact (HST.out _ hG).2.1 _)
        (first
        | (go_at_call 47; with_reducible refine HLF.out.mono ?_; rintro r w' ⟨rfl, hb⟩; replace hG := hG.trans (hb.mono hG.size); clear hb; have hfz := (HST.out _ hG).2.2.1; have hcl := (HST.out _ hG).2.2.2))
      rename_i hHeld
      clear hHeld hfz hcl
      have HX := Lib.hid (HE.out _ hG)
      clear hG HST HE HLF
      obtain ⟨d0, d1, d2, d3, _, _⟩ := HX.out.1.cells
      obtain ⟨W1, hW1⟩ : ∃ W1, W1 = w'.setCell ⟨g, x, none⟩ (.string z) := ⟨_, rfl⟩
      rw [← hW1] at HX d0 d1 d2 d3 ⊢
      clear hW1 c0 c1 c2 c3
      go_wp2_with fail
      refine (HP.out _).mono ?_
      rintro e w2 ⟨⟨vp, rfl, ap, np, cp, rfl, hri, hlow⟩, hb⟩
      have hnp := hri.len
      subst hnp
      obtain ⟨pb, po, rfl, hpbl, -⟩ := hri.at0 (by omega)
      have hpw := hlow _ _ rfl
      have hle := hri.le
      have hcm : (cp : Int) ≤ 9223372036854775807 := by have := hri.cm; unfold maxLen at this; omega
      have hT2 := HX.out.1.below hb
      have hft := HX.out.1.foot_low
      have hpnf : ¬ tfoot p (.slice (some ⟨g, 0, none⟩) M cv) pb := fun h => by have := (hft _ h).2; omega
      have hF2 := HX.out.2.trans (Fr.of_below (A := fun _ => False) hb) fun i hi => hi.elim
      have HRL := Lib.hid hri
      have HT2 := Lib.hid hT2
      have HNF := Lib.hid hpnf
      have HF2 := Lib.hid hF2
      have HLM1 := Lib.hid (fun m => (HLM.out m).trans HM.out.symm)
      clear hri hb hpw hlow hT2 hft hpnf hF2 HX HP d0 d1 d2 d3 HLM
      go_wp2_with fail
      go_loopw [8] (fun i wr => ∃ m : Nat, m ≤ P.length - 1 ∧ i = .int .i64 ((m + 1 : Nat) : Int) ∧ RT wr B p (.slice (some ⟨g, 0, none⟩) M cv) N F C U (upL N F C U (L.set x z) ((P.drop 1).take m)) ∧ Fr (tfoot p (.slice (some ⟨g, 0, none⟩) M cv)) w2 wr) (fun i _ => P.length + 1 - (intOf i).toNat)
      case atStart => exact ⟨0, by omega, rfl, HT2.out, Fr.refl _ _⟩
      case round =>
        clear HT2
        obtain ⟨m, hm, rfl, hT, hF⟩ := hrel
        by_cases hlt : m + 1 < P.length
        · have hRi := HRL.out.kept hF.size (fun b off e hb => by cases e; exact hF.block pb hb HNF.out)
          obtain ⟨b2, o2, e2, hb2, hc2⟩ := hRi.at0 (by omega)
          cases e2
          have hcc1 := hc2 (m + 1) (by omega)
          obtain ⟨y, hy, hyl⟩ := HKS.out _ (List.getElem_mem (show m + 1 < P.length by omega))
          rw [show P[m + 1]?.getD 0 = (y : Int) from by rw [List.getElem?_eq_getElem (by omega)]; exact hy] at hcc1
          have htk : (P.drop 1).take (m + 1) = (P.drop 1).take m ++ [(y : Int)] := by
            rw [List.take_add_one, List.getElem?_drop, show 1 + m = m + 1 from by omega, List.getElem?_eq_getElem (by omega), hy]
            rfl
          have hup := upL_snoc N F C U ((P.drop 1).take m) (L.set x z) (y : Int)
          rw [← htk, Int.toNat_natCast] at hup
          have hLm := HLM1.out m
          have hZm := HZM.out m
          obtain ⟨Lm, hLme⟩ : ∃ Lm, Lm = upL N F C U (L.set x z) ((P.drop 1).take m) := ⟨_, rfl⟩
          rw [← hLme] at hup hT hLm hZm
          have k0 : (0 : Int) ≤ ((m + 1 : Nat) : Int) := by omega
          have k1 : ((m + 1 : Nat) : Int) < (P.length : Int) := by omega
          have k2 : (0 : Int) ≤ (y : Int) := by omega
          have k3 : (y : Int) < (M : Int) := by have := HNL.out; omega
          have hTd : RT wr.drew B p (.slice (some ⟨g, 0, none⟩) M cv) N F C U Lm := hT.kept fun _ _ => rfl
          have how := hTd.own
          rw [hLm] at how
          obtain ⟨_, _, hav0, hrs0, _⟩ := towns_shape how
          cases hav0
          clear how
          have hfc := rabove_any N F C U _ _ _ Lm y _ hrs0
            (fun c hc => by
              obtain ⟨j, e, hj⟩ := children_mem hc
              exact ⟨j, e, by have := HNL.out; omega⟩) (fun i hi => hZm i (by omega))
          unfold geo at hfc
          have hst : ∀ w', Below wr.drew.heap.size wr.drew w' → (w'.cell? ⟨p, 0, none⟩ = some (.int .i64 N) ∧ w'.cell? ⟨p, 1, none⟩ = some (.int .i64 F) ∧ w'.cell? ⟨p, 2, none⟩ = some (.int .i64 C) ∧ w'.cell? ⟨p, 3, none⟩ = some (.int .i64 U) ∧ w'.cell? ⟨p, 4, none⟩ = some (.slice (some ⟨g, 0, none⟩) M cv)) ∧ (∀ u, ((w'.setCell ⟨g, y, none⟩ u).cell? ⟨p, 0, none⟩ = some (.int .i64 N) ∧ (w'.setCell ⟨g, y, none⟩ u).cell? ⟨p, 1, none⟩ = some (.int .i64 F) ∧ (w'.setCell ⟨g, y, none⟩ u).cell? ⟨p, 2, none⟩ = some (.int .i64 C) ∧ (w'.setCell ⟨g, y, none⟩ u).cell? ⟨p, 3, none⟩ = some (.int .i64 U) ∧ (w'.setCell ⟨g, y, none⟩ u).cell? ⟨p, 4, none⟩ = some (.slice (some ⟨g, 0, none⟩) M cv))) ∧ w'.frozen? ⟨g, y, none⟩ = false ∧ w'.cell? ⟨g, y, none⟩ = some (.string (lAt Lm y)) := fun w' hb => by
            have hT' := hTd.below hb
            obtain ⟨e0, e1, e2, e3, e4, _⟩ := hT'.cells
            exact ⟨⟨e0, e1, e2, e3, e4⟩, fun u => ⟨(hT'.sgeo rfl y u 0).trans e0, (hT'.sgeo rfl y u 1).trans e1, (hT'.sgeo rfl y u 2).trans e2, (hT'.sgeo rfl y u 3).trans e3, (hT'.sgeo rfl y u 4).trans e4⟩, hT'.free rfl y, hT'.at rfl (by omega)⟩
          have hend : ∀ w', Below wr.drew.heap.size wr.drew w' → RT (w'.setCell ⟨g, y, none⟩ (.string (nodeB (kids Lm (children N F C U y))))) B p (.slice (some ⟨g, 0, none⟩) M cv) N F C U (Lm.set y (nodeB (kids Lm (children N F C U y)))) ∧ Fr (tfoot p (.slice (some ⟨g, 0, none⟩) M cv)) w2 (w'.setCell ⟨g, y, none⟩ (.string (nodeB (kids Lm (children N F C U y))))) := fun w' hb => hTd.put hF.drew hb rfl (by omega) _
          rw [← hup] at hend
          generalize nodeB (kids Lm (children N F C U (y : Int))) = zz at *
          generalize lAt Lm y = yy at *
          generalize hkm : (m + 1 : Nat) = km at *
          have HFC := Lib.hid hfc
          have HST := Lib.hid hst
          have HE := Lib.hid hend
          have HKM := Lib.hid hkm
          have hG : Below wr.drew.heap.size wr.drew wr.drew := Below.refl _ _
          clear hfc hst hend hTd hT hF hup hLm hZm hLme htk hc2 hRi hb2 hyl hy hrs0 hkm
          go_wp2_with fail
          go_region_held3 (fun w' => w'.cell? ⟨p, 0, none⟩ = some (.int .i64 N) ∧ w'.cell? ⟨p, 1, none⟩ = some (.int .i64 F) ∧ w'.cell? ⟨p, 2, none⟩ = some (.int .i64 C) ∧ w'.cell? ⟨p, 3, none⟩ = some (.int .i64 U) ∧ w'.cell? ⟨p, 4, none⟩ = some (.slice (some ⟨g, 0, none⟩) M cv))
            (first | exact (HST.out _ hG).1 | exact (HST.out _ hG).2.1 _)
            (first
            | (go_at_call 58; with_reducible refine HFC.out.mono ?_; rintro r w' ⟨rfl, hb⟩; replace hG := hG.trans (hb.mono hG.size); clear hb; have hfz := (HST.out _ hG).2.2.1; have hcl := (HST.out _ hG).2.2.2))
          rename_i hHeld
          clear hHeld hfz hcl
          have HX := Lib.hid (HE.out _ hG)
          clear hG
          go_wp2
          go_roundw
          case rel =>
            have e := HKM.out
            clear HKM
            subst e
            exact ⟨m + 1, by omega, by go_num, HX.out.1, HX.out.2⟩
          case measure => simp [intOf]; have := HKM.out; omega
        · have hme : m + 1 = P.length := by omega
          have htk : (P.drop 1).take m = P.drop 1 := List.take_of_length_le (by rw [List.length_drop]; omega)
          rw [htk] at hT
          have i1 : ¬ (((m + 1 : Nat) : Int) < (P.length : Int)) := by omega
          have HX := Lib.hid hT
          have HF := Lib.hid (HF2.out.trans hF fun i hi => .inl hi)
          clear hT hF hme
          go_wp2
          go_ret
          rw [HL.out, ← HM.out]
          exact ⟨rfl, HX.out, HF.out⟩
    · have he : setErr N F C U leaf s = 4 := by unfold setErr; rw [if_neg hp, if_pos hs]
      have hl : setL N F C U L leaf s = L := by unfold setL; rw [if_pos (by rw [he]; omega)]
      rw [he, hl]
      have HT := Lib.hid h
      have HF := Lib.hid (Fr.refl (tfoot p v) w)
      clear he hl h hL h32 hp hpl hok hnp
      go_enter Tryd.func20, Tryd.ntmps20
      go_wp2_with fail
      refine (hsr _).mono ?_
      rintro e w2 ⟨rfl, hw2⟩
      obtain rfl := hw2.symm
      clear hw2 hsr
      rw [decide_eq_false hs]
      go_wp2
      go_ret
      exact ⟨rfl, HT.out, HF.out⟩
end Go.Proofs.YtojanhpilhledaaDoor

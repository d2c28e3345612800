/-
  Texts put together: Y1, Y4.
-/
import Derived.Test.YtojanhpilhledaaDoorMY0
import Derived.Test.YtojanhpilhledaaDoorMG3
import Derived.Test.YtojanhpilhledaaDoorMU
import Derived.ProofKit
import Derived.OpenShut
import Derived.ChangeOld
import Derived.Below
import Derived.SizedLaws
import Derived.Deep.SlicePairs
import Derived.Deep.Strs
import Derived.Deep.Grids
/-
  The program's Set.
-/
namespace Go.Proofs.YtojanhpilhledaaDoor
open Go.RowKit
set_option linter.unusedVariables false
set_option linter.unusedSimpArgs false

theorem GT.sgeo {ty : TypeId} {w : World} {B p : Nat} {v : Value} {N F C U : Int} {L : List ByteArray} (h : GT ty w B p v N F C U L) {g : Nat} (hg : v.ownBlock = some g) (j : Nat) (u : Value) (i : Nat) : (w.setCell ⟨g, j, none⟩ u).cell? ⟨p, i, none⟩ = w.cell? ⟨p, i, none⟩ :=
  World.cell?_setCell_other _ _ _ _ (fun e => h.ne (by rw [hg]; exact congrArg (fun a : Addr => some a.block) e))

/-- What a store to a tree's list leaves. -/
theorem GT.put {ty : TypeId} {w wr w' : World} {B p : Nat} {v : Value} {N F C U : Int} {L : List ByteArray} (h : GT ty wr B p v N F C U L) (hF : Fr (tfoot p v) w wr) (hb : Below wr.heap.size wr w') {g : Nat} (hg : v.ownBlock = some g) {j : Nat} (hj : j < L.length) (s : ByteArray) :
    GT ty (w'.setCell ⟨g, j, none⟩ (.string s)) B p v N F C U (L.set j s) ∧ Fr (tfoot p v) w (w'.setCell ⟨g, j, none⟩ (.string s)) :=
  ⟨(h.below hb).set hg hj s, (hF.trans (Fr.of_below (A := fun _ => False) hb) fun i hi => hi.elim).set (.inl (.inr hg))⟩

set_option maxRecDepth 20000 in
set_option maxHeartbeats 2000000 in
theorem tset_any (w0 : World) (p : Nat) (v : Value) (N F C U : Int) (L : List ByteArray) (leaf : Int) (s : ByteArray) (w : World) (h : PT w w0.heap.size p v N F C U L) (hB0 : Below w0.heap.size w0 w) (hK0 : Kon w0)
    (hL : L.length = nodes N F C U) (h32 : ∀ i, i < L.length → (lAt L i).size ≤ 1000) :
    Calls Tryd.prog 19 #[.pointer (some ⟨p, 0, none⟩), .int .i64 leaf, .string s] w fun e w' => e = .returned (.int .i64 (setErr N F C U leaf s)) ∧ PT w' w0.heap.size p v N F C U (setL N F C U L leaf s) ∧ Fr (tfoot p v) w w' := by
  have hnle := nodes_le N F C U
  have hpl := path_len N F C U leaf
  have hpath := path_any N F C U leaf w
  obtain ⟨c0, c1, c2, c3, c4, _⟩ := h.cells
  have hsr := right_any s
  unfold geo at hpath
  by_cases hp : path N F C U leaf = []
  · have he : setErr N F C U leaf s = 3 := if_pos hp
    have hl : setL N F C U L leaf s = L := by unfold setL; rw [if_pos (by rw [he]; omega)]
    rw [he, hl]
    rw [hp] at hpath
    have HP := Lib.hid hpath
    have HT := Lib.hid h
    clear he hl hpath h hL h32 hB0 hK0 hp hpl
    go_enter Tryd.func19, Tryd.ntmps19
    go_wp2_with fail
    refine HP.out.mono ?_
    rintro e w1 ⟨⟨vp, rfl, ap, np, cp, rfl, hri, -⟩, hb⟩
    have hnp : np = 0 := by have := hri.len; simpa using this.symm
    subst hnp
    have HX := Lib.hid (HT.out.below hb)
    have HF := Lib.hid (Fr.of_below (A := tfoot p v) hb)
    clear hb hri c0 c1 c2 c3 c4
    go_wp2
    go_ret
    exact ⟨rfl, HX.out, HF.out⟩
  · by_cases hs : s.size = 64
    · have he : setErr N F C U leaf s = 0 := by unfold setErr; rw [if_neg hp, if_neg (fun h => h hs)]
      obtain ⟨hok, hl0, hl1⟩ := path_ok hp
      have hnp := nodes_pos hok
      obtain ⟨x, rfl⟩ : ∃ x : Nat, leaf = x := ⟨leaf.toNat, by omega⟩
      have hl : setL N F C U L x s = upL N F C U (L.set x (leafB s)) ((path N F C U x).drop 1) := by unfold setL; rw [if_neg (fun hh => hh he), Int.toNat_natCast]
      have hsz := setL_size (K := 1000) (by omega) hL (x : Int) s h32
      rw [he]
      have hks := fun k (hk : k ∈ path N F C U x) => path_mem hk
      obtain ⟨P, hP⟩ : ∃ P, P = path N F C U x := ⟨_, rfl⟩
      rw [← hP] at hpath hl hp hpl hks
      have hPl : 1 ≤ P.length := by cases P with | nil => exact absurd rfl hp | cons _ _ => simp
      obtain ⟨g, cv, rfl, hg, hgB, hgl, hlc, hcc⟩ := h.shape (by omega)
      have hlf : ∀ w', Below w0.heap.size w0 w' → Calls Tryd.prog 55 #[.string s] w' fun e w'' => e = .returned (.string (leafB s)) ∧ Below w'.heap.size w' w'' := fun w' hb => leaf_any s w' (hK0.below hb) (by omega)
      have hszm : ∀ m, ∀ i, i < (upL N F C U (L.set x (leafB s)) ((P.drop 1).take m)).length → (lAt (upL N F C U (L.set x (leafB s)) ((P.drop 1).take m)) i).size ≤ 1000 := fun m => upL_size (by omega) _ _ (fun k hk => by
          obtain ⟨y, e, hy⟩ := hks k (List.mem_of_mem_drop (List.mem_of_mem_take hk))
          exact ⟨y, e, by rw [List.length_set]; omega⟩) (fun i hi => by
        rw [List.length_set] at hi
        rw [lAt_set (by omega)]
        split
        · rw [leafB_size]; omega
        · exact h32 i hi)
      have hlm : ∀ m, (upL N F C U (L.set x (leafB s)) ((P.drop 1).take m)).length = L.length := fun m => by rw [upL_length, List.length_set]
      have hM : ∃ M, M = L.length := ⟨_, rfl⟩
      obtain ⟨M, hM⟩ := hM
      have i2 : (x : Int) < (M : Int) := by omega
      have i0 : (0 : Int) ≤ (x : Int) := by omega
      have HP := Lib.hid hpath
      have HT := Lib.hid h
      have HLF := Lib.hid hlf
      have HL := Lib.hid hl
      have HB0 := Lib.hid hB0
      have HK0 := Lib.hid hK0
      have HKS := Lib.hid hks
      have HSZ := Lib.hid hsz
      have HZM := Lib.hid hszm
      have HLM := Lib.hid hlm
      have H32 := Lib.hid h32
      have HNL := Lib.hid (hL.symm.trans hM.symm)
      clear hpath h hlf hl hB0 hK0 hks hsz hszm hlm hp he h32 hP hnp hok hl0 hl1
      rw [← hM] at hlc c4
      have HM := Lib.hid hM
      clear hL hM
      go_enter Tryd.func19, Tryd.ntmps19
      go_wp2_with fail
      refine HP.out.mono ?_
      rintro e w1 ⟨⟨vp, rfl, ap, np, cp, rfl, hri, hlow⟩, hb⟩
      have hnp := hri.len
      subst hnp
      obtain ⟨pb, po, rfl, hpbl, hpc⟩ := hri.at0 (by omega)
      have hpw := hlow _ _ rfl
      have hle := hri.le
      have hcm := hri.cm
      have HRI := Lib.hid hri
      have HB1 := Lib.hid hb
      have HPW := Lib.hid hpw
      have HPL := Lib.hid HT.out.lt
      have hT1 := HT.out.below hb
      have HT1 := Lib.hid hT1
      have hz2 : (P.length : Int) ≠ 0 := by omega
      clear hri hb hT1 hpc c0 c1 c2 c3 c4 HP HT hpw hlow
      go_wp2_with fail
      refine (hsr _).mono ?_
      rintro e w2 ⟨rfl, hw2⟩
      obtain rfl := hw2.symm
      clear hw2 hsr
      rw [decide_eq_true hs]
      go_wp2_with fail
      have hTd : PT w1.drew w0.heap.size p (.slice (some ⟨g, 0, none⟩) M cv) N F C U L := by rw [HM.out]; exact HT1.out.kept fun _ _ => rfl
      have hFd : Fr (tfoot p (.slice (some ⟨g, 0, none⟩) M cv)) w w1.drew := (Fr.of_below HB1.out).drew
      have hst : ∀ w', Below w1.drew.heap.size w1.drew w' → w'.cell? ⟨p, 4, none⟩ = some (.slice (some ⟨g, 0, none⟩) M cv) ∧ (∀ u, (w'.setCell ⟨g, x, none⟩ u).cell? ⟨p, 4, none⟩ = some (.slice (some ⟨g, 0, none⟩) M cv)) ∧ w'.frozen? ⟨g, x, none⟩ = false ∧ w'.cell? ⟨g, x, none⟩ = some (.string (lAt L x)) := fun w' hb => by
        have hT' := hTd.below hb
        have hc := hT'.cells.2.2.2.2.1
        exact ⟨hc, fun u => (hT'.sgeo rfl x u 4).trans hc, hT'.free rfl x, hT'.at rfl (by have := HM.out; omega)⟩
      have hpnf : ¬ tfoot p (.slice (some ⟨g, 0, none⟩) M cv) pb := by
        rintro (e | e)
        · have := HT1.out.lt; have := HPW.out; have := HPL.out; omega
        · have e2 : g = pb := by simpa [Value.ownBlock] using e
          have := HPW.out; omega
      have hend : ∀ w', Below w1.drew.heap.size w1.drew w' → PT (w'.setCell ⟨g, x, none⟩ (.string (leafB s))) w0.heap.size p (.slice (some ⟨g, 0, none⟩) M cv) N F C U (L.set x (leafB s)) ∧ Fr (tfoot p (.slice (some ⟨g, 0, none⟩) M cv)) w1 (w'.setCell ⟨g, x, none⟩ (.string (leafB s))) := fun w' hb => hTd.put ((Fr.refl _ w1).drew) hb rfl (by have := HM.out; omega) _
      have hB1 : Below w0.heap.size w0 w1 := HB0.out.trans (HB1.out.mono HB0.out.size)
      have hlf := HLF.out w1.drew hB1.drew
      have HNF := Lib.hid hpnf
      have HBB := Lib.hid hB1
      have hfst := HT1.out.foot_low
      have HFL := Lib.hid hfst
      clear hpnf hB1 HLF HT1 hTd hfst
      generalize leafB s = z at *
      generalize lAt L x = y at *
      have HLF := Lib.hid hlf
      have HST := Lib.hid hst
      have HE := Lib.hid hend
      have hG : Below w1.drew.heap.size w1.drew w1.drew := Below.refl _ _
      clear hlf hst hend
      go_region_held3 (fun w' => w'.cell? ⟨p, 4, none⟩ = some (.slice (some ⟨g, 0, none⟩) M cv))
        (first | exact (HST.out _ hG).1 | exact (HST.out _ hG).2.1 _)
        (first
        | (go_at_call 55; with_reducible refine HLF.out.mono ?_; rintro r w' ⟨rfl, hb⟩; replace hG := hG.trans (hb.mono hG.size); clear hb; have hfz := (HST.out _ hG).2.2.1; have hcl := (HST.out _ hG).2.2.2))
      rename_i hHeld
      clear hHeld hfz hcl
      have HX := Lib.hid (HE.out _ hG)
      clear hG HST HE HLF
      have HRL := Lib.hid (show Ri w1 (some ⟨pb, po, none⟩) P.length cp P from HRI.out)
      have HLM1 := Lib.hid (fun m => (HLM.out m).trans HM.out.symm)
      clear HLM HRI HPW HPL HSZ H32
      have hHF := fun wr (hF : Fr (tfoot p (.slice (some ⟨g, 0, none⟩) M cv)) w1 wr) => (Fr.of_below (A := tfoot p (.slice (some ⟨g, 0, none⟩) M cv)) HB1.out).trans hF (fun i hi => .inl hi)
      have HHF := Lib.hid hHF
      clear hHF
      by_cases hcp : cp = 1
      · subst hcp
        have hP1 : P.length = 1 := by omega
        have hPd : P.drop 1 = [] := List.drop_eq_nil_of_le (by omega)
        have i1 : ¬ ((0 : Int) < ((P.length - 1 : Nat) : Int)) := by omega
        have HP1 := Lib.hid hP1
        have HPD := Lib.hid hPd
        clear hP1 hPd
        go_wp2_with fail
        go_loopw [35] (fun i wr => i = .int .i64 0 ∧ PT wr w0.heap.size p (.slice (some ⟨g, 0, none⟩) M cv) N F C U (L.set x z) ∧ Fr (tfoot p (.slice (some ⟨g, 0, none⟩) M cv)) w1 wr) (fun i _ => 0)
        case atStart => exact ⟨rfl, HX.out.1, HX.out.2⟩
        case round =>
          clear HX
          obtain ⟨rfl, hT, hF⟩ := hrel
          have HX := Lib.hid hT
          have HF := Lib.hid (HHF.out _ hF)
          clear hT hF
          go_wp2
          go_ret
          rw [HL.out, ← HM.out, HPD.out]
          exact ⟨rfl, HX.out, HF.out⟩
      · go_wp2_with fail
        go_loopw [35] (fun i wr => ∃ m : Nat, m ≤ P.length - 1 ∧ i = .int .i64 m ∧ PT wr w0.heap.size p (.slice (some ⟨g, 0, none⟩) M cv) N F C U (upL N F C U (L.set x z) ((P.drop 1).take m)) ∧ Fr (tfoot p (.slice (some ⟨g, 0, none⟩) M cv)) w1 wr) (fun i _ => P.length - (intOf i).toNat)
        case atStart => exact ⟨0, by omega, rfl, HX.out.1, HX.out.2⟩
        case round =>
          clear HX
          obtain ⟨m, hm, rfl, hT, hF⟩ := hrel
          by_cases hlt : m < P.length - 1
          · have hRi := HRL.out.kept hF.size (fun b off e hb => by cases e; exact hF.block pb hb HNF.out)
            obtain ⟨b2, o2, e2, hb2, hc2⟩ := hRi.at0 (by omega)
            cases e2
            have hcc1 := hc2 (m + 1) (by omega)
            have hcc2 : wr.cell? ⟨pb, po + 1 + m, none⟩ = some (.int .i64 (P[m + 1]?.getD 0)) := by rw [show po + 1 + m = po + (m + 1) from by omega]; exact hcc1
            obtain ⟨y, hy, hyl⟩ := HKS.out _ (List.getElem_mem (show m + 1 < P.length by omega))
            rw [show P[m + 1]?.getD 0 = (y : Int) from by rw [List.getElem?_eq_getElem (by omega)]; exact hy] at hcc2
            have htk : (P.drop 1).take (m + 1) = (P.drop 1).take m ++ [(y : Int)] := by
              rw [List.take_add_one, List.getElem?_drop, show 1 + m = m + 1 from by omega, List.getElem?_eq_getElem (by omega), hy]
              rfl
            have hup := upL_snoc N F C U ((P.drop 1).take m) (L.set x z) (y : Int)
            rw [← htk, Int.toNat_natCast] at hup
            have hLm := HLM1.out m
            have hZm := HZM.out m
            obtain ⟨Lm, hLme⟩ : ∃ Lm, Lm = upL N F C U (L.set x z) ((P.drop 1).take m) := ⟨_, rfl⟩
            rw [← hLme] at hup hT hLm hZm
            have k0 : (0 : Int) ≤ (m : Int) := by omega
            have k1 : (m : Int) < ((P.length - 1 : Nat) : Int) := by omega
            have k2 : (0 : Int) ≤ (y : Int) := by omega
            have k3 : (y : Int) < (M : Int) := by have := HNL.out; omega
            have hTd : PT wr.drew w0.heap.size p (.slice (some ⟨g, 0, none⟩) M cv) N F C U Lm := hT.kept fun _ _ => rfl
            have hFB : Below w0.heap.size w0 wr := HBB.out.trans (hF.below (fun k hk => (HFL.out k (by rw [← HM.out]; exact hk)).1) HBB.out.size)
            have hfc := fromch_any w0.heap.size p (.slice (some ⟨g, 0, none⟩) M cv) N F C U Lm y _ hTd (HK0.out.below hFB.drew)
              (fun c hc => by
                obtain ⟨j, e, hj⟩ := children_mem hc
                exact ⟨j, e, by have := HNL.out; omega⟩) hZm
            have hst : ∀ w', Below wr.drew.heap.size wr.drew w' → w'.cell? ⟨p, 4, none⟩ = some (.slice (some ⟨g, 0, none⟩) M cv) ∧ (∀ u, (w'.setCell ⟨g, y, none⟩ u).cell? ⟨p, 4, none⟩ = some (.slice (some ⟨g, 0, none⟩) M cv)) ∧ w'.frozen? ⟨g, y, none⟩ = false ∧ w'.cell? ⟨g, y, none⟩ = some (.string (lAt Lm y)) := fun w' hb => by
              have hT' := hTd.below hb
              have hc := hT'.cells.2.2.2.2.1
              exact ⟨hc, fun u => (hT'.sgeo rfl y u 4).trans hc, hT'.free rfl y, hT'.at rfl (by omega)⟩
            have hend : ∀ w', Below wr.drew.heap.size wr.drew w' → PT (w'.setCell ⟨g, y, none⟩ (.string (nodeB (kids Lm (children N F C U y))))) w0.heap.size p (.slice (some ⟨g, 0, none⟩) M cv) N F C U (Lm.set y (nodeB (kids Lm (children N F C U y)))) ∧ Fr (tfoot p (.slice (some ⟨g, 0, none⟩) M cv)) w1 (w'.setCell ⟨g, y, none⟩ (.string (nodeB (kids Lm (children N F C U y))))) := fun w' hb => hTd.put hF.drew hb rfl (by omega) _
            rw [← hup] at hend
            generalize nodeB (kids Lm (children N F C U (y : Int))) = zz at *
            generalize lAt Lm y = yy at *
            have HFC := Lib.hid hfc
            have HST := Lib.hid hst
            have HE := Lib.hid hend
            have hG : Below wr.drew.heap.size wr.drew wr.drew := Below.refl _ _
            clear hfc hst hend hTd hT hF hup hLm hZm hLme htk hcc1 hc2 hRi hb2 hFB hy hyl
            go_wp2_with fail
            go_region_held3 (fun w' => w'.cell? ⟨p, 4, none⟩ = some (.slice (some ⟨g, 0, none⟩) M cv))
              (first | exact (HST.out _ hG).1 | exact (HST.out _ hG).2.1 _)
              (first
              | (go_at_call 56; with_reducible refine HFC.out.mono ?_; rintro r w' ⟨rfl, hb⟩; replace hG := hG.trans (hb.mono hG.size); clear hb; have hfz := (HST.out _ hG).2.2.1; have hcl := (HST.out _ hG).2.2.2))
            rename_i hHeld
            clear hHeld hfz hcl
            have HX := Lib.hid (HE.out _ hG)
            clear hG
            go_wp2
            go_roundw
            case rel => exact ⟨m + 1, by omega, by go_num, HX.out.1, HX.out.2⟩
            case measure => simp [intOf]; omega
          · have hme : m = P.length - 1 := by omega
            have htk : (P.drop 1).take m = P.drop 1 := List.take_of_length_le (by rw [List.length_drop]; omega)
            rw [htk] at hT
            have i1 : ¬ ((m : Int) < ((P.length - 1 : Nat) : Int)) := by omega
            have HX := Lib.hid hT
            have HF := Lib.hid (HHF.out _ hF)
            clear hT hF hme
            go_wp2
            go_ret
            rw [HL.out, ← HM.out]
            exact ⟨rfl, HX.out, HF.out⟩
    · have he : setErr N F C U leaf s = 4 := by unfold setErr; rw [if_neg hp, if_pos hs]
      have hl : setL N F C U L leaf s = L := by unfold setL; rw [if_pos (by rw [he]; omega)]
      rw [he, hl]
      obtain ⟨P, hP⟩ : ∃ P, P = path N F C U leaf := ⟨_, rfl⟩
      rw [← hP] at hpath hp hpl
      have hPl : 1 ≤ P.length := by cases P with | nil => exact absurd rfl hp | cons _ _ => simp
      have hz2 : (P.length : Int) ≠ 0 := by omega
      have HP := Lib.hid hpath
      have HT := Lib.hid h
      clear he hl hpath h hL h32 hB0 hK0 hp hP
      go_enter Tryd.func19, Tryd.ntmps19
      go_wp2_with fail
      refine HP.out.mono ?_
      rintro e w1 ⟨⟨vp, rfl, ap, np, cp, rfl, hri, -⟩, hb⟩
      have hnp := hri.len
      subst hnp
      have HX := Lib.hid (HT.out.below hb)
      have HF := Lib.hid (Fr.of_below (A := tfoot p v) hb)
      clear hb hri c0 c1 c2 c3 c4
      go_wp2_with fail
      refine (hsr _).mono ?_
      rintro e w2 ⟨rfl, hw2⟩
      obtain rfl := hw2.symm
      clear hw2 hsr
      rw [decide_eq_false hs]
      go_wp2
      go_ret
      exact ⟨rfl, HX.out, HF.out⟩
end Go.Proofs.YtojanhpilhledaaDoor
/-
  Lists of texts, and of leaves with sectors, that came in: opened.
-/
namespace Go.Proofs.YtojanhpilhledaaDoor
open Go.RowKit Go.ChangeShapes Go.WideShapes Go.ChangeAt
set_option linter.unusedVariables false
set_option linter.unusedSimpArgs false

set_option maxHeartbeats 1000000 in
set_option maxRecDepth 100000 in
theorem rs_open {H : Type} {enc : TypeId × Value → H} {W : World} {fuel : Nat} {cs : List Value} {x : DataW H × List MemPlace} (hf : DataW.trod enc Tryd.prog W 0 (fun _ => true) true fuel 24 cs = some x) {a : Option Addr} {len cap : Nat} (hcs : cs = [.slice a len cap]) :
    ∃ L, Rs W a len cap L := by
  rcases Deep.open_strs Tryd.underlying24 Tryd.underlying9 (by kernel_rfl) hf with ⟨hn, _⟩ | ⟨ad, l, c, m, Sx, hn, _, hl, hm, hmm, hx, hcell⟩
  · rw [hcs] at hn
    simp at hn
    obtain ⟨rfl, rfl, rfl⟩ := hn
    exact ⟨[], rs_nil W⟩
  · rw [hcs] at hn
    simp at hn
    obtain ⟨rfl, rfl, rfl⟩ := hn
    simp only [if_true] at hmm
    refine ⟨(List.range len).map Sx, by simp, by omega, by omega, fun h => ?_⟩
    have hc0 := (hcell 0 (by omega)).1
    obtain ⟨b, off, spot⟩ := ad
    have hspot : spot = none := by simpa [Addr.add] using World.cell?_spot hc0
    subst hspot
    have hbl := World.block_lt_of_cell? W _ hc0
    rw [Addr.add_none] at hbl
    refine ⟨b, off, rfl, hbl, fun i hi' => ?_⟩
    have h3 := (hcell i (by omega)).1
    rw [Addr.add_none] at h3
    rw [h3]
    unfold lAt
    rw [List.getElem?_map, List.getElem?_range hi']
    rfl

/-- The slice value reads as leaves with sectors. -/
structure Ps (w : World) (a : Option Addr) (n cap : Nat) (X : Nat → Int × ByteArray) : Prop where
  le : n ≤ cap
  cm : cap ≤ maxLen
  at0 : 0 < n → ∃ b off, a = some ⟨b, off, none⟩ ∧ b < w.heap.size ∧ ∀ i, i < n → w.cell? ⟨b, off + i * 2, none⟩ = some (.int .i64 (X i).1) ∧ w.cell? ⟨b, off + i * 2 + 1, none⟩ = some (.string (X i).2)
theorem Ps.later {w w' : World} {a : Option Addr} {n cap : Nat} {X} (h : Ps w a n cap X) (hb : Below w.heap.size w w') : Ps w' a n cap X where
  le := h.le
  cm := h.cm
  at0 := fun h0 => by
    obtain ⟨b, off, ha, hlt, hc⟩ := h.at0 h0
    exact ⟨b, off, ha, Nat.lt_of_lt_of_le hlt hb.size, fun i hi => ⟨by rw [hb.cell (by exact hlt)]; exact (hc i hi).1, by rw [hb.cell (by exact hlt)]; exact (hc i hi).2⟩⟩

def textOf : Value → ByteArray | .string s => s | _ => noBytes
def iOf : Value → Int | .int _ z => z | _ => 0
set_option maxHeartbeats 1000000 in
set_option maxRecDepth 100000 in
theorem ps_open {H : Type} {enc : TypeId × Value → H} {W : World} {fuel : Nat} {cs : List Value} {x : DataW H × List MemPlace} (hf : DataW.trod enc Tryd.prog W 0 (fun _ => true) true fuel 36 cs = some x) {a : Option Addr} {len cap : Nat} (hcs : cs = [.slice a len cap]) :
    ∃ X, Ps W a len cap X := by
  rcases Go.Deep.open_slice_pairs Tryd.underlying36 Tryd.underlying40 (by kernel_rfl) rfl rfl (by kernel_rfl) (by kernel_rfl) hf with ⟨hn, _⟩ | ⟨ad, l, c, m, n, V0, V1, D0, D1, P0, P1, hn, _, hl, hm, hmm, hx, hi⟩
  · rw [hcs] at hn
    simp at hn
    obtain ⟨rfl, rfl, rfl⟩ := hn
    exact ⟨fun _ => (0, noBytes), by omega, by unfold maxLen; omega, fun h => by omega⟩
  · rw [hcs] at hn
    simp at hn
    obtain ⟨rfl, rfl, rfl⟩ := hn
    simp only [if_true] at hmm
    refine ⟨fun i => (iOf (V0 i), textOf (V1 i)), by omega, by omega, fun h => ?_⟩
    obtain ⟨b, off, spot⟩ := ad
    have hc0 := (hi 0 (by omega)).1
    have hspot : spot = none := by simpa [Addr.add] using World.cell?_spot hc0
    subst hspot
    have hbl := World.block_lt_of_cell? W _ hc0
    rw [Addr.add_none] at hbl
    refine ⟨b, off, rfl, hbl, fun i hi' => ?_⟩
    obtain ⟨h1, h2, h3, h4⟩ := hi i (by omega)
    obtain ⟨k, e1, _, _⟩ := DataW.trod_int Tryd.underlying3 h3
    obtain ⟨s, e2, _⟩ := DataW.trod_string Tryd.underlying9 h4
    rw [Addr.add_none] at h1 h2
    simp only [List.cons.injEq, and_true] at e1 e2
    rw [e1] at h1
    rw [e2, ← Nat.add_assoc] at h2
    simp only [e1, e2, iOf, textOf]
    exact ⟨h1, h2⟩
end Go.Proofs.YtojanhpilhledaaDoor

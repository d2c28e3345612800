/-
  Texts put together: X0.
-/
import Derived.Test.YtojanhpilhledaaDoorMW2
import Derived.Test.YtojanhpilhledaaDoorMU
/-
  The program's Bad: the nodes whose digests are not those of their children.
-/
namespace Go.Proofs.YtojanhpilhledaaDoor
open Go.RowKit
set_option linter.unusedVariables false
set_option linter.unusedSimpArgs false

def badUp (N F C U : Int) (L : List ByteArray) (n m : Nat) : List Int :=
  (List.range m).flatMap fun j => if lAt L (n + j) = nodeB (kids L (children N F C U ((n + j : Nat) : Int))) then [] else [((n + j : Nat) : Int)]
def badL (N F C U : Int) (L : List ByteArray) : List Int := badUp N F C U L N.toNat (L.length - N.toNat)
theorem badUp_same {N F C U : Int} {L : List ByteArray} {n m : Nat} (h : lAt L (n + m) = nodeB (kids L (children N F C U ((n + m : Nat) : Int)))) : badUp N F C U L n (m + 1) = badUp N F C U L n m := by
  unfold badUp
  rw [List.range_succ, List.flatMap_append]
  simp only [List.flatMap_cons, List.flatMap_nil, if_pos h, List.append_nil]
theorem badUp_other {N F C U : Int} {L : List ByteArray} {n m : Nat} (h : ¬ lAt L (n + m) = nodeB (kids L (children N F C U ((n + m : Nat) : Int)))) : badUp N F C U L n (m + 1) = badUp N F C U L n m ++ [((n + m : Nat) : Int)] := by
  unfold badUp
  rw [List.range_succ, List.flatMap_append]
  simp only [List.flatMap_cons, List.flatMap_nil, if_neg h, List.append_nil]
theorem badUp_len (N F C U : Int) (L : List ByteArray) (n : Nat) : ∀ m, (badUp N F C U L n m).length ≤ m
  | 0 => Nat.le_refl _
  | m + 1 => by
    have ih := badUp_len N F C U L n m
    by_cases h : lAt L (n + m) = nodeB (kids L (children N F C U ((n + m : Nat) : Int)))
    · rw [badUp_same h]; omega
    · rw [badUp_other h, List.length_append]; simp; omega

set_option maxRecDepth 20000 in
set_option maxHeartbeats 2000000 in
theorem tbad_any (B p : Nat) (v : Value) (n : Nat) (F C U : Int) (L : List ByteArray) (w : World) (h : PT w B p v n F C U L) (hK : Kon w) (hn : n ≤ L.length) (h1 : L.length ≤ 1000) (h32 : ∀ i, i < L.length → (lAt L i).size ≤ 1000) :
    Calls Tryd.prog 25 #[.pointer (some ⟨p, 0, none⟩)] w fun e w' => ∃ v', e = .returned v' ∧ w'.ownsRow w.heap.size 3 1 v' (badL n F C U L).length (ivs (badL n F C U L)) ∧ Below w.heap.size w w' := by
  obtain ⟨i0, hi, hz0, hz1, hz2⟩ := info_parts Tryd.info3
  obtain ⟨c0, _, _, _, _, _⟩ := h.cells
  obtain ⟨av, cv, rfl, hrs0, _⟩ := towns_shape h.own
  have hcx : (cv : Int) ≤ 9223372036854775807 := by have := hrs0.cm; unfold maxLen at this; omega
  have HT := Lib.hid h
  have HK := Lib.hid hK
  have H32 := Lib.hid h32
  clear h hK h32 hrs0
  go_enter Tryd.func25, Tryd.ntmps25
  go_wp2_with fail
  go_loopw [3, 4] (fun s i wr => ∃ m : Nat, m ≤ L.length - n ∧ i = .int .i64 ((n + m : Nat) : Int) ∧ wr.ownsRow w.heap.size 3 1 s (badUp n F C U L n m).length (ivs (badUp n F C U L n m)) ∧ Below w.heap.size w wr) (fun _ i _ => L.length - (intOf i).toNat)
  case atStart => exact ⟨0, by omega, by simp, World.ownsRow_nil _ _ _ _, Below.refl _ _⟩
  case round =>
    clear c0
    obtain ⟨m, hm, rfl, ho, hB⟩ := hrel
    have hTr := HT.out.below hB
    have d4 := hTr.cells.2.2.2.2.1
    by_cases hlt : n + m < L.length
    · have j1 : ((n + m : Nat) : Int) < (L.length : Int) := by omega
      have j0 : (0 : Int) ≤ ((n + m : Nat) : Int) := by omega
      have hTd : PT wr.drew B p (.slice av L.length cv) n F C U L := hTr.kept fun _ _ => rfl
      have hfc := fromch_any _ p (.slice av L.length cv) n F C U L (n + m) _ hTd ((HK.out.below hB).below (Below.refl _ _).drew)
        (fun c hc => by
          obtain ⟨j, e, hj⟩ := children_mem hc
          exact ⟨j, e, by omega⟩) H32.out
      obtain ⟨_, _, hav0, hrs0, _⟩ := towns_shape hTd.own
      cases hav0
      obtain ⟨b, off, rfl, _, _⟩ := hrs0.at0 (by omega)
      have hst : ∀ w', Below wr.drew.heap.size wr.drew w' → w'.cell? ⟨p, 4, none⟩ = some (.slice (some ⟨b, off, none⟩) L.length cv) ∧ w'.cell? ⟨b, off + (n + m), none⟩ = some (.string (lAt L (n + m))) := fun w' hb => by
        have hT' := hTd.below hb
        refine ⟨hT'.cells.2.2.2.2.1, ?_⟩
        obtain ⟨_, _, hav, hrs, _⟩ := towns_shape hT'.own
        cases hav
        obtain ⟨_, _, e, _, hc2⟩ := hrs.at0 (by omega)
        cases e
        exact hc2 _ hlt
      have hsame := badUp_same (N := (n : Int)) (F := F) (C := C) (U := U) (L := L) (n := n) (m := m)
      have hother := badUp_other (N := (n : Int)) (F := F) (C := C) (U := U) (L := L) (n := n) (m := m)
      have hbl := badUp_len (n : Int) F C U L n m
      generalize nodeB (kids L (children (n : Int) F C U ((n + m : Nat) : Int))) = z at *
      generalize lAt L (n + m) = y at *
      obtain ⟨bl, hbl2⟩ : ∃ bl, bl = badUp n F C U L n m := ⟨_, rfl⟩
      rw [← hbl2] at ho hsame hother hbl
      obtain ⟨V1, hV1⟩ : ∃ V, V = Value.string y := ⟨_, rfl⟩
      obtain ⟨V2, hV2⟩ : ∃ V, V = Value.string z := ⟨_, rfl⟩
      obtain ⟨r, hr⟩ : ∃ r, r = decide (y = z) := ⟨_, rfl⟩
      have hq : ∀ w, (binOp .neq 9 V1 V2).run Tryd.prog w = .ok (.bool (!r)) w := fun w => by rw [hV1, hV2, neq_txt, hr]
      have hgd := fun x' y' w => guard_txt .neq x' y' y z w
      simp only [← hV1, ← hV2] at hgd
      simp only [← hV1] at hst
      simp only [← hV2] at hfc
      have HR := Lib.hid hr
      clear hV1 hV2 hr
      have HST := Lib.hid hst
      have HFC := Lib.hid hfc
      have HSA := Lib.hid hsame
      have HOT := Lib.hid hother
      have HO := Lib.hid ho
      have HB := Lib.hid hB
      have hG : Below wr.drew.heap.size wr.drew wr.drew := Below.refl _ _
      clear hst hfc hsame hother hbl2 hTd hTr hrs0
      generalize hkm : (n + m : Nat) = km at *
      go_wp2_with fail
      go_region_held3 (fun w' => w'.cell? ⟨p, 4, none⟩ = some (.slice (some ⟨b, off, none⟩) L.length cv) ∧ w'.cell? ⟨b, off + km, none⟩ = some V1)
        (exact HST.out _ hG)
        (first
        | (go_at_call 56; with_reducible refine HFC.out.mono ?_; rintro r wk ⟨rfl, hb⟩; replace hG := hG.trans (hb.mono hG.size); clear hb))
      rename_i hHeld
      clear hHeld
      have hBk := (Below.refl _ wr).drew.trans hG
      have hok := owns_kept HO.out fun j hj => hBk.block j (HO.out.lt j hj).2
      have hBB := HB.out.trans (hBk.mono HB.out.size)
      clear hG hBk ho hB d4
      clear hq hgd
      cases r
      rotate_left
      · have hyz : y = z := of_decide_eq_true HR.out.symm
        have HX := Lib.hid hok
        have HBX := Lib.hid hBB
        have HS := Lib.hid (HSA.out hyz)
        clear hok hBB
        go_wp2
        go_roundw
        case rel => exact ⟨m + 1, by omega, by rw [← Nat.add_assoc, hkm]; go_num, by rw [HS.out]; exact HX.out, HBX.out⟩
        case measure => simp [intOf]; omega
      · have hyz : ¬ y = z := of_decide_eq_false HR.out.symm
        have HS := Lib.hid (HOT.out hyz)
        have ho2 := hok.alloc (.cells #[.int .i64 (km : Int)] 3)
        have HBX := Lib.hid hBB
        have HSZ := Lib.hid hBB.size
        have HOK := Lib.hid hok
        clear hok hBB
        go_wp2_with (at_builtin; refine wpList_append_i (o := ⟨some 35, _, _, _, _, _⟩) rfl (.tmp 32) (.tmp 34) 46 rfl w.heap.size i0 Tryd.underlying46 hi hz0 hz1 hz2 _ bl.length _ rfl ho2 _ rfl rfl (by omega) (by have := HSZ.out; simp; omega) ?_)
        intro v5 w5 h1 h2
        have hl5 : (bl ++ [(km : Int)]).length = bl.length + 1 := by simp
        rw [← hl5, ← HS.out] at h1
        have hB5 := (HBX.out.alloc HBX.out.size (.cells #[.int .i64 (km : Int)] 3)).grown h2 (HBX.out.alloc HBX.out.size (.cells #[.int .i64 (km : Int)] 3)).size (fun x e => (HOK.out.lt x e).1)
        have HO5 := Lib.hid h1
        have HB5 := Lib.hid hB5
        clear h1 h2 hB5 ho2 hl5
        go_wp2
        go_roundw
        case rel => exact ⟨m + 1, by omega, by rw [← Nat.add_assoc, hkm]; go_num, HO5.out, HB5.out⟩
        case measure => simp [intOf]; omega
    · obtain rfl : m = L.length - n := by omega
      have j1 : ¬ ((n + (L.length - n) : Nat) : Int) < (L.length : Int) := by omega
      have HO := Lib.hid ho
      have HB := Lib.hid hB
      clear ho hB hTr
      go_wp2
      go_ret
      exact ⟨_, rfl, HO.out, HB.out⟩
end Go.Proofs.YtojanhpilhledaaDoor

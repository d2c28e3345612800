/-
  Texts put together: PH, PI.
-/
import Derived.Test.YtjohgagiccndpaaGreatDoorMPF
/-
  What Scan tells of a disk on which nothing waits: mathematics.
-/
namespace Go.Proofs.YtjohgagiccndpaaGreatDoor
open Go.RowKit
set_option linter.unusedVariables false
set_option linter.unusedSimpArgs false

theorem enc_back' (n k : Nat) (h : n < 256 ^ k) : numN (enc n k) = n := by rw [enc_num, Nat.mod_eq_of_lt h]
theorem cut_enc (a b : List UInt8) (n k i : Nat) (ha : a.length = i) : ((a ++ (enc n k ++ b)).drop i).take k = enc n k := by
  subst ha
  rw [List.drop_left, show k = (enc n k).length from (enc_length n k).symm]
  rw [List.take_left' (by rw [enc_length, enc_length])]
theorem body_head (tag epoch k place sum : Nat) (ht : tag < 18446744073709551616) (he : epoch < 18446744073709551616) (hk : k < 4294967296) (hp : place < 4294967296) (hs : sum < 4294967296) :
    bodyHd (headL tag epoch k place sum) = ⟨tag, epoch, k, place, sum⟩ := by
  have l8 := enc_length tag 8
  have m8 := enc_length epoch 8
  have k4 := enc_length k 4
  have p4 := enc_length place 4
  have e0 : hfld (headL tag epoch k place sum) 0 8 = tag := by
    unfold hfld headL
    rw [show enc tag 8 ++ enc epoch 8 ++ enc k 4 ++ enc place 4 ++ enc sum 4 = [] ++ (enc tag 8 ++ (enc epoch 8 ++ enc k 4 ++ enc place 4 ++ enc sum 4)) from by simp [List.append_assoc], cut_enc [] (enc epoch 8 ++ enc k 4 ++ enc place 4 ++ enc sum 4) tag 8 0 rfl]
    exact enc_back' _ _ ht
  have e1 : hfld (headL tag epoch k place sum) 8 8 = epoch := by
    unfold hfld headL
    rw [show enc tag 8 ++ enc epoch 8 ++ enc k 4 ++ enc place 4 ++ enc sum 4 = enc tag 8 ++ (enc epoch 8 ++ (enc k 4 ++ enc place 4 ++ enc sum 4)) from by simp [List.append_assoc], cut_enc _ _ _ _ _ l8]
    exact enc_back' _ _ he
  have e2 : hfld (headL tag epoch k place sum) 16 4 = k := by
    unfold hfld headL
    rw [show enc tag 8 ++ enc epoch 8 ++ enc k 4 ++ enc place 4 ++ enc sum 4 = (enc tag 8 ++ enc epoch 8) ++ (enc k 4 ++ (enc place 4 ++ enc sum 4)) from by simp [List.append_assoc], cut_enc _ _ _ _ _ (by simp [l8, m8])]
    exact enc_back' _ _ hk
  have e3 : hfld (headL tag epoch k place sum) 20 4 = place := by
    unfold hfld headL
    rw [show enc tag 8 ++ enc epoch 8 ++ enc k 4 ++ enc place 4 ++ enc sum 4 = (enc tag 8 ++ enc epoch 8 ++ enc k 4) ++ (enc place 4 ++ enc sum 4) from by simp [List.append_assoc], cut_enc _ _ _ _ _ (by simp [l8, m8, k4])]
    exact enc_back' _ _ hp
  have e4 : hfld (headL tag epoch k place sum) 24 4 = sum := by
    unfold hfld headL
    rw [show enc tag 8 ++ enc epoch 8 ++ enc k 4 ++ enc place 4 ++ enc sum 4 = (enc tag 8 ++ enc epoch 8 ++ enc k 4 ++ enc place 4) ++ (enc sum 4 ++ []) from by simp [List.append_assoc], cut_enc _ _ _ _ _ (by simp [l8, m8, k4, p4])]
    exact enc_back' _ _ hs
  unfold bodyHd
  rw [e0, e1, e2, e3, e4]
theorem dec_head (tag epoch k place sum : Nat) (ht : tag < 18446744073709551616) (he : epoch < 18446744073709551616) (hk : k < 4294967296) (hp : place < 4294967296) (hs : sum < 4294967296) :
    decB (headB tag epoch k place sum) = ⟨tag, epoch, k, place, sum⟩ := by
  unfold decB decP headB
  have h := make_open (make_head tag epoch k place sum)
  rw [h]
  rw [if_pos ⟨rfl, headL_length _ _ _ _ _⟩]
  exact body_head _ _ _ _ _ ht he hk hp hs
theorem dec_zero : decB (secOf 0) = noHd := by
  have h : openP 7 (secOf 0).data.toList = ([], 9) := by decide +kernel
  unfold decB decP
  rw [h, if_neg (by simp)]

/-! ### disks with entries -/
/-- The index of entry k's head. -/
def hIx (N F C U : Int) (k : Nat) : Nat := 6 + N.toNat + nodes N F C U + 2 * k
theorem hd_flat {N F C U : Int} {L : List ByteArray} {did k : Nat} (ho : okG N F C U) (hL : (L.length : Int) = 6 + N + (nodes N F C U : Int) + 2 * U) (hk : (k : Int) < U) : hdAt N F C U (flat L did) k = (lAt L (hIx N F C U k), 0) := by
  have hn := ho.1
  have a1 : areaAt N F C U 1 (2 * (k : Int)) = ((hIx N F C U k : Nat) : Int) := by
    unfold areaAt hIx
    rw [if_pos ⟨ho, .inr rfl, by omega, by unfold sec; rw [if_neg (by omega)]; omega⟩]
    omega
  unfold hdAt
  rw [a1, flat_read _ _ _ (by unfold hIx; omega)]
theorem ol_flat {N F C U : Int} {L : List ByteArray} {did k : Nat} (ho : okG N F C U) (hL : (L.length : Int) = 6 + N + (nodes N F C U : Int) + 2 * U) (hk : (k : Int) < U) : olAt N F C U (flat L did) k = (lAt L (hIx N F C U k + 1), 0) := by
  have hn := ho.1
  have a2 : areaAt N F C U 1 (2 * (k : Int) + 1) = ((hIx N F C U k + 1 : Nat) : Int) := by
    unfold areaAt hIx
    rw [if_pos ⟨ho, .inr rfl, by omega, by unfold sec; rw [if_neg (by omega)]; omega⟩]
    omega
  unfold olAt
  rw [a2, flat_read _ _ _ (by unfold hIx; omega)]

/-- The disk has these entries of one try, and behind them no head. -/
structure Holds (N F C U : Int) (L : List ByteArray) (tag ep : Nat) (l : List En) : Prop where
  few : (l.length : Int) ≤ U
  ent : ∀ i, i < l.length → (eAt l i).tag = tag ∧ (eAt l i).epoch = ep ∧ mayP N F C U (eAt l i).place ∧ lAt L (hIx N F C U i) = headB tag ep i (eAt l i).place.toNat (sumN (eAt l i).old) ∧ lAt L (hIx N F C U i + 1) = (eAt l i).old
  stop : (l.length : Int) < U → lAt L (hIx N F C U l.length) = secOf 0

theorem may_zero (N F C U : Int) : ¬ mayP N F C U ((0 : Nat) : Int) := by unfold mayP; omega
theorem step_zero {N F C U : Int} {L : List ByteArray} {did k ep : Nat} (ho : okG N F C U) (hL : (L.length : Int) = 6 + N + (nodes N F C U : Int) + 2 * U) (hk : (k : Int) < U) (hz : lAt L (hIx N F C U k) = secOf 0) : stepP N F C U (flat L did) ep k = .stop := by
  unfold stepP
  rw [hd_flat ho hL hk, hz]
  dsimp only
  rw [if_neg (by simp), dec_zero, if_pos (.inr (.inl (may_zero N F C U)))]
theorem step_ent {N F C U : Int} {L : List ByteArray} {did k tag ep ep0 : Nat} {l : List En} (ho : okG N F C U) (hL : (L.length : Int) = 6 + N + (nodes N F C U : Int) + 2 * U) (h : Holds N F C U L tag ep l) (hk : k < l.length) (ht : tag < 18446744073709551616) (he : ep < 18446744073709551616) (hep : ep0 < ep) :
    stepP N F C U (flat L did) ep0 k = .ok (eAt l k) := by
  have hU := ho.2.2.2.2.2.2.2
  have hN := ho.2.1
  have hnf := nodes_few N F C U
  have hfew := h.few
  obtain ⟨h1, h2, h3, h4, h5⟩ := h.ent k hk
  obtain ⟨g1, g2, g3, g4, g5⟩ := h.ent 0 (by omega)
  have d1 : decB (lAt L (hIx N F C U k)) = ⟨tag, ep, k, (eAt l k).place.toNat, sumN (eAt l k).old⟩ := by
    rw [h4]; exact dec_head _ _ _ _ _ ht he (by omega) (by have := h3.1; have := h3.2; omega) (addN_lt _ _)
  have d0 : decB (lAt L (hIx N F C U 0)) = ⟨tag, ep, 0, (eAt l 0).place.toNat, sumN (eAt l 0).old⟩ := by
    rw [g4]; exact dec_head _ _ _ _ _ ht he (by omega) (by have := g3.1; have := g3.2; omega) (addN_lt _ _)
  unfold stepP
  rw [hd_flat ho hL (by omega), hd_flat ho hL (k := 0) (by omega), ol_flat ho hL (by omega)]
  dsimp only
  rw [d1, d0, h5]
  dsimp only
  have hpl : (((eAt l k).place.toNat : Nat) : Int) = (eAt l k).place := by have := h3.1; omega
  rw [if_neg (by simp), if_neg (by
    rintro (hb | hb | hb | hb | hb)
    · exact hb rfl
    · exact hb (by rw [hpl]; exact h3)
    · dsimp only at hb; omega
    · exact hb rfl
    · exact hb rfl), if_neg (by simp), if_neg (by simp), hpl, ← h1, ← h2]
theorem seqP_holds (st : Nat → Stp) (l : List En) : ∀ (n k : Nat), k ≤ l.length → l.length - k ≤ n → (∀ i, k ≤ i → i < l.length → st i = .ok (eAt l i)) → (l.length - k < n → st l.length = .stop) → seqP st k n = (l.drop k).map fun e => (e, (0 : Int))
  | 0, k, hk, hn, _, _ => by rw [List.drop_eq_nil_of_le (by omega)]; rfl
  | n + 1, k, hk, hn, h1, h2 => by
    unfold seqP
    rcases Nat.lt_or_ge k l.length with hl | hl
    · rw [h1 k (Nat.le_refl _) hl]
      dsimp only
      rw [seqP_holds st l n (k + 1) (by omega) (by omega) (fun i hi => h1 i (by omega)) (fun hi => h2 (by omega))]
      rw [List.drop_eq_getElem_cons hl, List.map_cons, show eAt l k = l[k] from by simp [eAt, hl]]
    · obtain rfl : k = l.length := by omega
      rw [h2 (by omega)]
      simp
theorem scan_holds {N F C U : Int} {L : List ByteArray} {did tag ep ep0 : Nat} {l : List En} (ho : okG N F C U) (hL : (L.length : Int) = 6 + N + (nodes N F C U : Int) + 2 * U) (h : Holds N F C U L tag ep l) (ht : tag < 18446744073709551616) (he : ep < 18446744073709551616) (hep : ep0 < ep) :
    scanP N F C U (flat L did) ep0 = (l, 0) := by
  have hf := h.few
  unfold scanP
  rw [if_pos ho, seqP_holds _ l U.toNat 0 (by omega) (by omega) (fun i _ hi => step_ent ho hL h hi ht he hep) (fun hi => step_zero ho hL (by omega) (h.stop (by omega)))]
  rw [List.drop_zero, scanL_ok _ (by simp), List.map_map, show ((fun x : En × Int => x.1) ∘ fun e : En => (e, (0 : Int))) = id from rfl, List.map_id]
theorem scan_clear {N F C U : Int} {L : List ByteArray} {did ep0 : Nat} (ho : okG N F C U) (hL : (L.length : Int) = 6 + N + (nodes N F C U : Int) + 2 * U) (hz : lAt L (hIx N F C U 0) = secOf 0) (he0 : ep0 + 1 < 18446744073709551616) : scanP N F C U (flat L did) ep0 = ([], 0) :=
  scan_holds (tag := 0) (ep := ep0 + 1) (l := []) ho hL ⟨by have := ho.2.2.2.2.2.2.1; simp; omega, fun i hi => by simp at hi, fun _ => hz⟩ (by omega) he0 (by omega)
end Go.Proofs.YtjohgagiccndpaaGreatDoor
/-
  Entries appended on a disk on which nothing waits, and one append that a fuse cuts off: mathematics.
-/
namespace Go.Proofs.YtjohgagiccndpaaGreatDoor
open Go.RowKit
set_option linter.unusedVariables false
set_option linter.unusedSimpArgs false

structure Fresh (N F C U : Int) (L : List ByteArray) (tag ep : Nat) (l : List En) : Prop where
  holds : Holds N F C U L tag ep l
  zeros : ∀ j : Nat, l.length ≤ j → (j : Int) < U → lAt L (hIx N F C U j) = secOf 0
  len : (L.length : Int) = 6 + N + (nodes N F C U : Int) + 2 * U
  sizes : ∀ i : Nat, i < L.length → (lAt L i).size = 64

theorem hIx_inj {N F C U : Int} {i j : Nat} : hIx N F C U i = hIx N F C U j ↔ i = j := by unfold hIx; omega
theorem hIx_odd {N F C U : Int} {i j : Nat} : hIx N F C U i + 1 ≠ hIx N F C U j := by unfold hIx; omega
theorem eAt_append_lt {l : List En} {x : En} {i : Nat} (h : i < l.length) : eAt (l ++ [x]) i = eAt l i := by unfold eAt; rw [List.getElem?_append_left h]
theorem eAt_append_eq {l : List En} {x : En} : eAt (l ++ [x]) l.length = x := by simp [eAt]

theorem Fresh.new {N F C U : Int} {tag ep : Nat} (ho : okG N F C U) : Fresh N F C U (List.replicate (6 + N.toNat + nodes N F C U + 2 * U.toNat) (secOf 0)) tag ep [] := by
  have hn := ho.1
  have hu := ho.2.2.2.2.2.2
  have hz : ∀ i : Nat, i < 6 + N.toNat + nodes N F C U + 2 * U.toNat → lAt (List.replicate (6 + N.toNat + nodes N F C U + 2 * U.toNat) (secOf 0)) i = secOf 0 := fun i hi => lAt_rep hi
  have hh : ∀ j : Nat, (j : Int) < U → lAt (List.replicate (6 + N.toNat + nodes N F C U + 2 * U.toNat) (secOf 0)) (hIx N F C U j) = secOf 0 := fun j hj => hz _ (by unfold hIx; omega)
  refine ⟨⟨by simp; omega, fun i hi => by simp at hi, fun h => hh _ h⟩, fun j _ hj => hh j hj, by simp; omega, fun i hi => ?_⟩
  rw [hz i (by simpa using hi)]; rfl

/-- The old sector alone changes nothing that is told. -/
theorem Holds.old {N F C U : Int} {L : List ByteArray} {tag ep : Nat} {l : List En} (h : Holds N F C U L tag ep l) (s : ByteArray) : Holds N F C U (L.set (hIx N F C U l.length + 1) s) tag ep l := by
  refine ⟨h.few, fun i hi => ?_, fun hl => ?_⟩
  · obtain ⟨h1, h2, h3, h4, h5⟩ := h.ent i hi
    refine ⟨h1, h2, h3, ?_, ?_⟩
    · rw [lAt_set_ne hIx_odd]; exact h4
    · rw [lAt_set_ne (fun e => by have := (hIx_inj (N := N) (F := F) (C := C) (U := U)).1 (show hIx N F C U l.length = hIx N F C U i from by omega); omega)]; exact h5
  · rw [lAt_set_ne hIx_odd]; exact h.stop hl
/-- The head behind it makes it an entry. -/
theorem Fresh.both {N F C U : Int} {L : List ByteArray} {tag ep pn : Nat} {l : List En} (h : Fresh N F C U L tag ep l) (hk : (l.length : Int) < U) (hm : mayP N F C U (pn : Int)) (hn : 1 ≤ N) :
    Fresh N F C U ((L.set (hIx N F C U l.length + 1) (lAt L pn)).set (hIx N F C U l.length) (headB tag ep l.length pn (sumN (lAt L pn)))) tag ep (l ++ [⟨tag, ep, (pn : Int), lAt L pn⟩]) := by
  have hL := h.len
  have hx : hIx N F C U l.length + 1 < L.length := by unfold hIx; omega
  have hpn : pn < L.length := by have := hm.2; omega
  have hz : ∀ j : Nat, l.length + 1 ≤ j → (j : Int) < U → lAt ((L.set (hIx N F C U l.length + 1) (lAt L pn)).set (hIx N F C U l.length) (headB tag ep l.length pn (sumN (lAt L pn)))) (hIx N F C U j) = secOf 0 := fun j hj hu => by
    rw [lAt_set_ne (fun e => by have := hIx_inj.1 e; omega), lAt_set_ne hIx_odd]
    exact h.zeros j (by omega) hu
  refine ⟨⟨by simp; omega, fun i hi => ?_, fun hl => by rw [List.length_append] at hl ⊢; exact hz _ (by simp) (by simpa using hl)⟩, fun j hj hu => hz j (by simpa using hj) hu, by simpa using hL, fun i hi => ?_⟩
  · rw [List.length_append] at hi
    rcases Nat.lt_or_ge i l.length with hil | hil
    · obtain ⟨h1, h2, h3, h4, h5⟩ := h.holds.ent i hil
      rw [eAt_append_lt hil]
      refine ⟨h1, h2, h3, ?_, ?_⟩
      · rw [lAt_set_ne (fun e => by have := hIx_inj.1 e; omega), lAt_set_ne hIx_odd]; exact h4
      · rw [lAt_set_ne (fun e => hIx_odd e.symm), lAt_set_ne (fun e => by have := (hIx_inj (N := N) (F := F) (C := C) (U := U)).1 (show hIx N F C U l.length = hIx N F C U i from by omega); omega)]; exact h5
    · obtain rfl : i = l.length := by simp at hi; omega
      rw [eAt_append_eq]
      refine ⟨rfl, rfl, hm, ?_, ?_⟩
      · rw [lAt_set_eq (by simp; omega)]; rfl
      · rw [lAt_set_ne (fun e => by omega), lAt_set_eq hx]
  · have hi' : i < L.length := by simpa using hi
    by_cases e1 : i = hIx N F C U l.length
    · rw [e1, lAt_set_eq (by simp; omega)]; exact headB_size _ _ _ _ _
    · rw [lAt_set_ne (fun e => e1 e.symm)]
      by_cases e2 : i = hIx N F C U l.length + 1
      · rw [e2, lAt_set_eq hx]; exact h.sizes pn hpn
      · rw [lAt_set_ne (fun e => e2 e.symm)]; exact h.sizes i hi'

theorem app_no {N F C U : Int} {S : DS} {k : Int} {tag ep : Nat} {place : Int} (ho : okG N F C U) (h : ¬ (0 ≤ k ∧ k < U ∧ mayP N F C U place)) : ∃ c, c ≠ 0 ∧ appP N F C U S k tag ep place = ⟨c, noEn, S⟩ := by
  unfold appP
  rw [if_neg (fun h => h ho)]
  by_cases h1 : k < 0 ∨ U ≤ k
  · exact ⟨11, by omega, by rw [if_pos h1]⟩
  · exact ⟨3, by omega, by rw [if_neg h1, if_pos (fun hm => h ⟨by omega, by omega, hm⟩)]⟩

/-- An append where nothing waits: one more entry, or nothing. -/
theorem app_step {N F C U : Int} {L : List ByteArray} {did tag ep : Nat} {l : List En} (ho : okG N F C U) (h : Fresh N F C U L tag ep l) (place : Int) :
    ∃ (c : Int) (en : En) (L' : List ByteArray) (did' : Nat), appP N F C U (flat L did) (l.length : Int) tag ep place = ⟨c, en, flat L' did'⟩ ∧ did' ≤ did + 4 ∧ L'.length = L.length ∧ ((c = 0 ∧ Fresh N F C U L' tag ep (l ++ [en])) ∨ (c ≠ 0 ∧ L' = L)) := by
  by_cases hc : (l.length : Int) < U ∧ mayP N F C U place
  · obtain ⟨pn, rfl⟩ : ∃ pn : Nat, place = pn := ⟨place.toNat, by have := hc.2.1; omega⟩
    have hpn : pn < L.length := by have := hc.2.2; have := h.len; have := ho.2.2.2.2.2.2.1; omega
    refine ⟨0, _, _, _, flat_append ho h.len hc.1 hc.2 (h.sizes pn hpn), Nat.le_refl _, by simp, .inl ⟨rfl, h.both hc.1 hc.2 ho.1⟩⟩
  · obtain ⟨c, h1, h2⟩ := app_no (S := flat L did) (k := (l.length : Int)) (tag := tag) (ep := ep) (place := place) ho (fun h => hc ⟨h.2.1, h.2.2⟩)
    exact ⟨c, noEn, L, did, h2, by omega, rfl, .inr ⟨h1, rfl⟩⟩

theorem store_fuse (L : List ByteArray) (did i : Nat) (m : Int) (s : ByteArray) (h0 : 0 ≤ m) (h : i < L.length) (hs : s.size = 64) :
    storeP ⟨L, [], m, false, did⟩ (i : Int) s = if m = 0 then (5, ⟨L, [], -1, true, did⟩) else if m = 1 then (5, ⟨L, [((i : Int), s)], -1, true, did + 1⟩) else (0, ⟨L.set i s, [], m - 2, false, did + 2⟩) := by
  have hh : DS.has ⟨L, [], m, false, did⟩ (i : Int) := ⟨by omega, by show (i : Int) < (L.length : Int); omega⟩
  have hw : DS.write ⟨L, [], m, false, did⟩ (i : Int) s = if m = 0 then (5, ⟨L, [], -1, true, did⟩) else (0, ⟨L, [((i : Int), s)], m - 1, false, did + 1⟩) := by
    unfold DS.write
    rw [if_neg (by simp), if_pos hh, if_pos hs]
    by_cases hm : m = 0
    · simp [hm, DS.burnt]
    · have : 0 < m := by omega
      simp [hm, DS.burnt, this]
  unfold storeP
  rw [hw]
  by_cases hm : m = 0
  · simp [hm]
  · rw [if_neg hm, if_neg hm]
    unfold DS.flush
    by_cases h1 : m = 1
    · simp [h1, DS.burnt]
    · have h2 : ¬ m - 1 = 0 := by omega
      have h3 : 0 < m - 1 := by omega
      simp [h1, h2, h3, DS.burnt, appW, wAt]
      omega

/-- What a crash behind it leaves. -/
theorem up_off (L : List ByteArray) (W : List (Int × ByteArray)) (m : Int) (o : Bool) (did : Nat) (K : List Bool) : (DS.crash ⟨L, W, m, o, did⟩ K).up = (0, flat (appK L W K W.length) did) := by
  simp [DS.crash, DS.up, flat]
theorem appK_none (L : List ByteArray) (K : List Bool) : appK L [] K 0 = L := rfl
theorem appK_one (L : List ByteArray) (i : Nat) (s : ByteArray) (K : List Bool) : appK L [((i : Int), s)] K 1 = L ∨ appK L [((i : Int), s)] K 1 = L.set i s := by
  show (if K[0]?.getD false = true then _ else _) = _ ∨ (if K[0]?.getD false = true then _ else _) = _
  split
  · right; simp [appK, wAt]
  · left; rfl

theorem sizes_set {L : List ByteArray} {j : Nat} {s : ByteArray} (h : ∀ i : Nat, i < L.length → (lAt L i).size = 64) (hs : s.size = 64) : ∀ i : Nat, i < (L.set j s).length → (lAt (L.set j s) i).size = 64 := fun i hi => by
  have hi' : i < L.length := by simpa using hi
  by_cases e : j = i
  · subst e; rw [lAt_set_eq hi']; exact hs
  · rw [lAt_set_ne e]; exact h i hi'
theorem flat_sizes {L : List ByteArray} (h : ∀ i : Nat, i < L.length → (lAt L i).size = 64) (did : Nat) : ∀ x : Int, ((flat L did).read x).1.size ≤ 140737488355328 := fun x => by
  unfold DS.read
  split
  · exact Nat.zero_le _
  · split
    · rename_i hh
      obtain ⟨k, rfl, hk⟩ := has_nat hh
      have hk' : k < L.length := by simpa [flat] using hk
      simp only [flat, look, List.length_nil, Int.toNat_natCast, h k hk']
      omega
    · exact Nat.zero_le _
/-- The first head taken away. -/
theorem clear_flat {N F C U : Int} {L : List ByteArray} {did : Nat} (ho : okG N F C U) (hL : (L.length : Int) = 6 + N + (nodes N F C U : Int) + 2 * U) : clearP N F C U (flat L did) = (0, flat (L.set (hIx N F C U 0) (secOf 0)) (did + 2)) := by
  have hu := ho.2.2.2.2.2.2
  have hn := ho.1
  have a1 : areaAt N F C U 1 0 = ((hIx N F C U 0 : Nat) : Int) := by
    unfold areaAt hIx
    rw [if_pos ⟨ho, .inr rfl, by omega, by unfold sec; rw [if_neg (by omega)]; omega⟩]
    omega
  unfold clearP
  rw [if_pos ho, a1, flat_store _ _ _ _ (by unfold hIx; omega) (secOf_size 0)]

/-- An append with a fuse, and a crash behind it: what there was, or one entry more; and that one if it went well. -/
theorem app_crash {N F C U : Int} {L : List ByteArray} {did tag ep pn : Nat} {l : List En} (ho : okG N F C U) (h : Fresh N F C U L tag ep l) (hm : mayP N F C U (pn : Int)) (m : Int) (h0 : 0 ≤ m) (K : List Bool) :
    ∃ (L' : List ByteArray) (did' : Nat) (l' : List En), ((appP N F C U ((flat L did).fuse m) (l.length : Int) tag ep (pn : Int)).ds.crash K).up = (0, flat L' did') ∧ did' ≤ did + 4 ∧ L'.length = L.length ∧ Holds N F C U L' tag ep l' ∧ (∀ i : Nat, i < L'.length → (lAt L' i).size = 64) ∧ (l' = l ∨ ∃ x, l' = l ++ [x]) ∧
      ((appP N F C U ((flat L did).fuse m) (l.length : Int) tag ep (pn : Int)).why = 0 → l' = l ++ [(appP N F C U ((flat L did).fuse m) (l.length : Int) tag ep (pn : Int)).en]) := by
  have hf : (flat L did).fuse m = ⟨L, [], m, false, did⟩ := by unfold DS.fuse flat; rw [if_pos h0]
  rw [hf]
  by_cases hk : (l.length : Int) < U
  · have hn := ho.1
    have hpn : pn < L.length := by have := hm.2; have := h.len; have := ho.2.2.2.2.2.2.1; omega
    have hsz := h.sizes pn hpn
    have hx : hIx N F C U l.length + 1 < L.length := by have := h.len; unfold hIx; omega
    have a1 : areaAt N F C U 1 (2 * (l.length : Int)) = ((hIx N F C U l.length : Nat) : Int) := by
      unfold areaAt hIx
      rw [if_pos ⟨ho, .inr rfl, by omega, by unfold sec; rw [if_neg (by omega)]; omega⟩]
      omega
    have a2 : areaAt N F C U 1 (2 * (l.length : Int) + 1) = ((hIx N F C U l.length + 1 : Nat) : Int) := by
      unfold areaAt hIx
      rw [if_pos ⟨ho, .inr rfl, by omega, by unfold sec; rw [if_neg (by omega)]; omega⟩]
      omega
    have hr : DS.read ⟨L, [], m, false, did⟩ (pn : Int) = (lAt L pn, 0) := by
      unfold DS.read
      rw [if_neg (by simp), if_pos ⟨by omega, by show (pn : Int) < (L.length : Int); omega⟩]
      simp [look]
    have hB := h.both hk hm hn
    unfold appP
    rw [if_neg (fun h => h ho), if_neg (by omega), if_neg (fun h => h hm), hr, a1, a2]
    simp only [ne_eq, not_true_eq_false, if_false, Int.toNat_natCast]
    rw [store_fuse L did _ m _ h0 hx hsz]
    by_cases m0 : m = 0
    · rw [if_pos m0]
      simp only [show ¬ (5 : Int) = 0 from by omega, not_false_eq_true, if_true]
      rw [up_off]
      exact ⟨L, did, l, rfl, by omega, rfl, h.holds, h.sizes, .inl rfl, fun h => h.elim⟩
    · rw [if_neg m0]
      by_cases m1 : m = 1
      · rw [if_pos m1]
        simp only [show ¬ (5 : Int) = 0 from by omega, not_false_eq_true, if_true]
        rw [up_off]
        rcases appK_one L (hIx N F C U l.length + 1) (lAt L pn) K with e | e
        · exact ⟨L, did + 1, l, by rw [List.length_singleton, e], by omega, rfl, h.holds, h.sizes, .inl rfl, fun h => h.elim⟩
        · exact ⟨_, did + 1, l, by rw [List.length_singleton, e], by omega, by simp, h.holds.old _, sizes_set h.sizes hsz, .inl rfl, fun h => h.elim⟩
      · rw [if_neg m1]
        simp only [not_true_eq_false, if_false]
        rw [store_fuse _ _ _ (m - 2) _ (by omega) (by simp; omega) (headB_size _ _ _ _ _)]
        by_cases m2 : m - 2 = 0
        · rw [if_pos m2]
          simp only [show ¬ (5 : Int) = 0 from by omega, not_false_eq_true, if_true]
          rw [up_off]
          exact ⟨_, _, l, rfl, by omega, by simp [appK], h.holds.old _, sizes_set h.sizes hsz, .inl rfl, fun h => h.elim⟩
        · rw [if_neg m2]
          by_cases m3 : m - 2 = 1
          · rw [if_pos m3]
            simp only [show ¬ (5 : Int) = 0 from by omega, not_false_eq_true, if_true]
            rw [up_off]
            rcases appK_one (L.set (hIx N F C U l.length + 1) (lAt L pn)) (hIx N F C U l.length) (headB tag ep l.length pn (sumN (lAt L pn))) K with e | e
            · exact ⟨_, _, l, by rw [List.length_singleton, e], by omega, by simp, h.holds.old _, sizes_set h.sizes hsz, .inl rfl, fun h => h.elim⟩
            · exact ⟨_, _, _, by rw [List.length_singleton, e], by omega, by simp, hB.holds, hB.sizes, .inr ⟨_, rfl⟩, fun h => h.elim⟩
          · rw [if_neg m3]
            simp only [not_true_eq_false, if_false]
            rw [up_off]
            exact ⟨_, _, _, rfl, by omega, by simp [appK], hB.holds, hB.sizes, .inr ⟨_, rfl⟩, fun _ => rfl⟩
  · obtain ⟨c, h1, h2⟩ := app_no (S := ⟨L, [], m, false, did⟩) (k := (l.length : Int)) (tag := tag) (ep := ep) (place := (pn : Int)) ho (fun h => hk h.2.1)
    rw [h2]
    dsimp only
    rw [up_off]
    exact ⟨L, did, l, rfl, by omega, rfl, h.holds, h.sizes, .inl rfl, fun h => absurd h h1⟩
end Go.Proofs.YtjohgagiccndpaaGreatDoor

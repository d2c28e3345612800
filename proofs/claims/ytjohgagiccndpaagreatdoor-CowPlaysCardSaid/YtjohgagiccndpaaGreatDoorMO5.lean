/-
  Texts put together: O5, O6.
-/
import Derived.Test.YtjohgagiccndpaaGreatDoorMO
import Derived.Test.YtjohgagiccndpaaGreatDoorMPH
import Derived.Test.YtjohgagiccndpaaGreatDoorMQ3
/-
  The document's Scan of layer 15: mathematics.
-/
namespace Go.Proofs.YtjohgagiccndpaaGreatDoor
open Go.RowKit
set_option linter.unusedVariables false
set_option linter.unusedSimpArgs false

theorem byte_step' (n x w : Nat) (hx : x < 256) : byteAt (n * 256 + x) (w + 1) = byteAt n w := by
  unfold byteAt
  rw [Nat.pow_succ', ← Nat.div_div_eq_div_mul, show (n * 256 + x) / 256 = n from by omega]
theorem enc_step' (n x : Nat) (hx : x < 256) : ∀ w, enc (n * 256 + x) (w + 1) = enc n w ++ [UInt8.ofNat x]
  | 0 => by
    show [UInt8.ofNat ((n * 256 + x) / 256 ^ 0)] = [UInt8.ofNat x]
    rw [Nat.pow_zero, Nat.div_one]
    congr 1
    apply UInt8.toNat_inj.mp
    rw [UInt8.toNat_ofNat', UInt8.toNat_ofNat']
    omega
  | w + 1 => by
    have ih := enc_step' n x hx w
    show byteAt (n * 256 + x) (w + 1) :: enc (n * 256 + x) (w + 1) = (byteAt n w :: enc n w) ++ [UInt8.ofNat x]
    rw [byte_step' n x w hx, ih]; rfl
theorem enc_of' : ∀ (w : Nat) (xs : List UInt8), xs.length = w → enc (numN xs) w = xs
  | 0, xs, h => by rw [List.eq_nil_of_length_eq_zero h]; rfl
  | w + 1, xs, h => by
    have hne : xs ≠ [] := fun e => by rw [e] at h; cases h
    have e := List.dropLast_concat_getLast hne
    have hl : xs.dropLast.length = w := by rw [List.length_dropLast]; omega
    have ih := enc_of' w xs.dropLast hl
    rw [← e, numN_snoc, enc_step' _ _ (UInt8.toNat_lt _), ih]
    simp
theorem mid_enc (b : List UInt8) (f k : Nat) (hl : b.length = f + 12) (hk : k < 4294967296) : ((b.take (f + 4)).drop f = enc k 4) ↔ numN ((b.drop f).take 4) = k := by
  have e : (b.take (f + 4)).drop f = (b.drop f).take 4 := by rw [List.drop_take, show f + 4 - f = 4 from by omega]
  rw [e]
  constructor
  · intro h; rw [h]; exact (enc_num k 4).trans (Nat.mod_eq_of_lt (by omega))
  · intro h; rw [← h]; exact (enc_of' 4 _ (by rw [List.length_take, List.length_drop]; omega)).symm

theorem stepP_of {N F C U : Int} {S : DS} {ep k : Nat} {d1 d2 : ByteArray} {e1 e2 : Int} (h1 : hdAt N F C U S k = (d1, e1)) (h2 : olAt N F C U S k = (d2, e2)) : stepP N F C U S ep k = if e1 ≠ 0 then .err e1 else if badH N F C U ep k (decB d1) (decB (hdAt N F C U S 0).1) then .stop else if e2 ≠ 0 then .err e2 else if sumN d2 ≠ (decB d1).sum then .stop else .ok ⟨(decB d1).tag, (decB d1).epoch, (decB d1).place, d2⟩ := by
  unfold stepP
  rw [h1, h2]
/-- What Part tells of an undo's head is what decode tells. -/
theorem part_und (k : Nat) (d : ByteArray) (hk : k < 4294967296) :
    ((partP 7 16 k d.data.toList).is = false → ∀ (N F C U : Int) (ep : Nat) (f : Hd), badH N F C U ep k (decB d) f) ∧
    ((partP 7 16 k d.data.toList).is = true → (partP 7 16 k d.data.toList).front.length = 16 ∧ decB d = ⟨numN (((partP 7 16 k d.data.toList).front.drop 0).take 8), numN (((partP 7 16 k d.data.toList).front.drop 8).take 8), k, (partP 7 16 k d.data.toList).num, (partP 7 16 k d.data.toList).sum⟩ ∧ (partP 7 16 k d.data.toList).num < 4294967296 ∧ (partP 7 16 k d.data.toList).sum < 4294967296) := by
  by_cases h1 : (openP 7 d.data.toList).2 = 0
  · by_cases h2 : (openP 7 d.data.toList).1.length = 28
    · have hD : decB d = bodyHd (openP 7 d.data.toList).1 := by unfold decB decP; rw [if_pos ⟨h1, h2⟩]
      have hP : partP 7 16 k d.data.toList = if ((openP 7 d.data.toList).1.take (16 + 4)).drop 16 ≠ enc k 4 then noPt else ⟨(openP 7 d.data.toList).1.take 16, numN (((openP 7 d.data.toList).1.drop (16 + 4)).take 4), numN (((openP 7 d.data.toList).1.drop (16 + 8)).take 4), true⟩ := by
        unfold partP
        rw [if_neg (by simpa using h1), if_neg (by simpa using h2)]
      rw [hD, hP]
      generalize (openP 7 d.data.toList).1 = b at h2 ⊢
      have hm := mid_enc b 16 k h2 hk
      by_cases h3 : (b.take (16 + 4)).drop 16 = enc k 4
      · rw [if_neg (fun h => h h3)]
        refine ⟨fun h => (by cases h), fun _ => ?_⟩
        have h4 := hm.1 h3
        dsimp only
        refine ⟨by rw [List.length_take]; omega, ?_, numN_lt _ 4 (by rw [List.length_drop]; omega), numN_lt _ 4 (by rw [List.length_drop]; omega)⟩
        unfold bodyHd hfld
        rw [h4]
        have e1 : (((b.take 16).drop 0).take 8) = (b.drop 0).take 8 := by rw [List.drop_zero, List.drop_zero, List.take_take]; rfl
        have e2 : (((b.take 16).drop 8).take 8) = (b.drop 8).take 8 := by rw [List.drop_take, List.take_take]; rfl
        rw [e1, e2]
      · rw [if_pos h3]
        refine ⟨fun _ N F C U ep f => .inl fun h => h3 (hm.2 h), fun h => (by cases h)⟩
    · have hD : decB d = noHd := by unfold decB decP; rw [if_neg (fun h => h2 h.2)]
      have hP : partP 7 16 k d.data.toList = noPt := by
        unfold partP
        rw [if_neg (by simpa using h1), if_pos (by simpa using h2)]
      rw [hD, hP]
      exact ⟨fun _ N F C U ep f => .inr (.inl (may_zero N F C U)), fun h => (by cases h)⟩
  · have hD : decB d = noHd := by unfold decB decP; rw [if_neg (fun h => h1 h.1)]
    have hP : partP 7 16 k d.data.toList = noPt := by
      unfold partP
      rw [if_pos (by simpa using h1)]
    rw [hD, hP]
    exact ⟨fun _ N F C U ep f => .inr (.inl (may_zero N F C U)), fun h => (by cases h)⟩
/-- Whether the head is one more of the try. -/
theorem und_bad {N F C U : Int} {S : DS} {ep pn ps tg eg : Nat} {l : List En} {d1 d2 : ByteArray} {e2 : Int} {pf : List UInt8} (h1 : hdAt N F C U S l.length = (d1, 0)) (h2 : olAt N F C U S l.length = (d2, e2)) (hd : decB d1 = ⟨numN ((pf.drop 0).take 8), numN ((pf.drop 8).take 8), l.length, pn, ps⟩) (ht : tg = numN ((pf.drop 0).take 8)) (he : eg = numN ((pf.drop 8).take 8)) (hm : mayP N F C U (pn : Int)) (hl : ∀ j, j < l.length → stepP N F C U S ep j = .ok (eAt l j)) :
    ((eg ≤ ep ∨ (l ≠ [] ∧ ((eAt l 0).epoch ≠ eg ∨ (eAt l 0).tag ≠ tg))) → stepP N F C U S ep l.length = .stop) ∧
    (¬ eg ≤ ep → (l ≠ [] → (eAt l 0).epoch = eg ∧ (eAt l 0).tag = tg) → stepP N F C U S ep l.length = if e2 ≠ 0 then .err e2 else if sumN d2 ≠ ps then .stop else .ok ⟨tg, eg, (pn : Int), d2⟩) := by
  have hs := stepP_of (ep := ep) h1 h2
  rw [hd, ← ht, ← he] at hs
  rw [if_neg (by simp)] at hs
  have hf : l ≠ [] → (eAt l 0).tag = (decB (hdAt N F C U S 0).1).tag ∧ (eAt l 0).epoch = (decB (hdAt N F C U S 0).1).epoch := fun hne => by
    have hpos : 0 < l.length := List.length_pos_iff.2 hne
    have h0 := hl 0 hpos
    have hs0 := stepP_of (ep := ep) (k := 0) (show hdAt N F C U S 0 = ((hdAt N F C U S 0).1, (hdAt N F C U S 0).2) from rfl) (show olAt N F C U S 0 = ((olAt N F C U S 0).1, (olAt N F C U S 0).2) from rfl)
    rw [hs0] at h0
    split at h0
    · cases h0
    · split at h0
      · cases h0
      · split at h0
        · cases h0
        · split at h0
          · cases h0
          · injection h0 with h0
            rw [← h0]
            exact ⟨rfl, rfl⟩
  have hf0 : l = [] → decB (hdAt N F C U S 0).1 = ⟨tg, eg, l.length, pn, ps⟩ := fun e => by
    subst e
    rw [show hdAt N F C U S 0 = (d1, 0) from h1, hd, ← ht, ← he]
  refine ⟨fun hb => ?_, fun hle hne => ?_⟩
  · rw [hs, if_pos ?_]
    rcases hb with hb | ⟨hne, hb⟩
    · exact .inr (.inr (.inl hb))
    · obtain ⟨g1, g2⟩ := hf hne
      rw [g1, g2] at hb
      rcases hb with hb | hb
      · exact .inr (.inr (.inr (.inr fun e => hb e.symm)))
      · exact .inr (.inr (.inr (.inl fun e => hb e.symm)))
  · rw [hs, if_neg ?_]
    rintro (hb | hb | hb | hb | hb)
    · exact hb rfl
    · exact hb hm
    · exact hle hb
    · by_cases e : l = []
      · rw [hf0 e] at hb; exact hb rfl
      · obtain ⟨g1, g2⟩ := hf e
        obtain ⟨k1, k2⟩ := hne e
        exact hb (by rw [← g1, k2])
    · by_cases e : l = []
      · rw [hf0 e] at hb; exact hb rfl
      · obtain ⟨g1, g2⟩ := hf e
        obtain ⟨k1, k2⟩ := hne e
        exact hb (by rw [← g2, k1])

end Go.Proofs.YtjohgagiccndpaaGreatDoor
/-
  The document's Scan of layer 15.
-/
namespace Go.Proofs.YtjohgagiccndpaaGreatDoor
open Go.RowKit
set_option linter.unusedVariables false
set_option linter.unusedSimpArgs false

/-- What holds ahead of a round. -/
structure UI (W : World) (N F C U : Int) (S : DS) (ep : Nat) (wr : World) (v : Value) (l : List En) : Prop where
  le : (l.length : Int) ≤ U
  row : wr.ownsRow W.heap.size 55 4 v l.length (ents l)
  bel : Below W.heap.size W wr
  oks : ∀ j, j < l.length → stepP N F C U S ep j = .ok (eAt l j)

set_option maxRecDepth 20000 in
set_option maxHeartbeats 4000000 in
theorem rscan_any (B p : Nat) (v1 v2 : Value) (S : DS) (N F C U : Int) (ep : Nat) (w : World) (h : RD w B p v1 v2 S) (M : Nat) (hok : S.ok M) (hM : M ≤ 1000000) (hep : ep < 18446744073709551616) (hsz : ∀ x : Int, (S.read x).1.size ≤ 140737488355328) :
    Calls Tryz.prog 45 #[.pointer (some ⟨p, 0, none⟩), geo N F C U, .int .u64 (ep : Int)] w fun e w' =>
      (∃ a c, e = .returned (.tuple #[.slice a (scanP N F C U S ep).1.length c, .int .i64 (scanP N F C U S ep).2]) ∧ Es w' a (scanP N F C U S ep).1.length c (scanP N F C U S ep).1 ∧ ∀ b off sp, a = some ⟨b, off, sp⟩ → w.heap.size ≤ b) ∧ Below w.heap.size w w' := by
  have hr := fun w => grright_any N F C U w
  obtain ⟨R, hR⟩ : ∃ R, R = scanP N F C U S ep := ⟨_, rfl⟩
  rw [← hR]
  unfold scanP at hR
  obtain ⟨W, hW⟩ : ∃ W, W = w.alloc (.cells #[.int .i64 N, .int .i64 F, .int .i64 C, .int .i64 U] 23) := ⟨_, rfl⟩
  have hs0 : W.heap.size = w.heap.size + 1 := by rw [hW]; exact World.size_alloc _ _
  have hb0 : Below w.heap.size w W := by rw [hW]; exact (Below.refl _ w).alloc (Nat.le_refl _) _
  have hgc : ∀ w', Below W.heap.size W w' → w'.cell? ⟨w.heap.size, 0, none⟩ = some (.int .i64 N) ∧ w'.cell? ⟨w.heap.size, 1, none⟩ = some (.int .i64 F) ∧ w'.cell? ⟨w.heap.size, 2, none⟩ = some (.int .i64 C) ∧ w'.cell? ⟨w.heap.size, 3, none⟩ = some (.int .i64 U) := fun w' hb => by
    have := gb_cells w N F C U w' (by unfold gbox; rw [← hW, ← hs0]; exact hb)
    exact this
  have HGC := Lib.hid hgc
  have HB0 := Lib.hid hb0
  have HW := Lib.hid hW
  have HP := Lib.hid (h.below hb0)
  have HOK := Lib.hid hok
  have HSZ := Lib.hid hsz
  clear hgc hb0 hs0 hW h hok hsz
  unfold geo at hr ⊢
  by_cases ho : okG N F C U
  · rw [decide_eq_true ho] at hr
    rw [if_pos ho] at hR
    have HR := Lib.hid hr
    have HRR := Lib.hid hR
    have HO := Lib.hid ho
    clear hr hR ho
    go_enter Tryz.func45, Tryz.ntmps45
    go_wp2_with fail
    rw [← HW.out]
    refine (HR.out _).mono ?_
    rintro e w1 ⟨rfl, hb⟩
    obtain ⟨c0, c1, c2, c3⟩ := HGC.out w1 hb
    have HCI := Lib.hid (show UI W N F C U S ep w1 (.slice none 0 0) [] from ⟨by have := HO.out.2.2.2.2.1; have := HO.out.2.2.2.2.2.2.1; simp; omega, World.ownsRow_nil _ _ _ _, hb, fun j hj => by simp at hj⟩)
    clear hb
    go_upto_region 5 with fail
    obtain ⟨cn, hcn⟩ : ∃ cn : Nat, U = (cn : Int) := ⟨U.toNat, by have := HO.out.2.2.2.2.1; have := HO.out.2.2.2.2.2.2.1; omega⟩
    have HCN := Lib.hid hcn
    clear hcn
    go_loopw [8, 9] (fun v i wr => ∃ l : List En, i = .int .i64 (l.length : Int) ∧ UI W N F C U S ep wr v l) (fun _ i _ => cn - (intOf i).toNat)
    case atStart => exact ⟨[], rfl, HCI.out⟩
    case round =>
      obtain ⟨l, rfl, hci⟩ := hrel
      obtain ⟨va, vc, rfl, hes0, hlow0⟩ := es_of_owns hci.row rfl
      have HI := Lib.hid hci
      have hB := hci.bel
      have HES := Lib.hid hes0
      have HLOW := Lib.hid hlow0
      obtain ⟨c0, c1, c2, c3⟩ := HGC.out wr hB
      clear hes0 hlow0
      by_cases hlt : (l.length : Int) < U
      · have hk1000 : l.length ≤ 1000 := by have := HO.out.2.2.2.2.2.1; have := HO.out.2.2.2.2.2.2.2; omega
        have ha1 := fun w => rarea2_any N F C U 1 (2 * (l.length : Int)) w
        have ha2 := fun w => rarea2_any N F C U 1 (2 * (l.length : Int) + 1) w
        obtain ⟨A1, hA1⟩ : ∃ A, A = areaAt N F C U 1 (2 * (l.length : Int)) := ⟨_, rfl⟩
        obtain ⟨A2, hA2⟩ : ∃ A, A = areaAt N F C U 1 (2 * (l.length : Int) + 1) := ⟨_, rfl⟩
        rw [← hA1] at ha1
        rw [← hA2] at ha2
        obtain ⟨x1, hx1⟩ : ∃ x : Int, x = 2 * (l.length : Int) := ⟨_, rfl⟩
        obtain ⟨x2, hx2⟩ : ∃ x : Int, x = 2 * (l.length : Int) + 1 := ⟨_, rfl⟩
        have m1 : IntKind.i64.wrap (2 * (l.length : Int)) = x1 := (IntWalk.i64_in _ (by omega)).trans hx1.symm
        have m2 : IntKind.i64.wrap (x1 + 1) = x2 := (IntWalk.i64_in _ (by omega)).trans (by omega)
        have wr1 : IntKind.i64.wrap ((l.length : Int) + 1) = (l.length : Int) + 1 := IntWalk.i64_in _ (by omega)
        rw [← hx1] at ha1
        rw [← hx2] at ha2
        unfold geo at ha1 ha2
        have HA1 := Lib.hid ha1
        have HA2 := Lib.hid ha2
        have hrd := fun (x : Int) w' (hb : Below W.heap.size W w') => rread_any B p v1 v2 S x w' (HP.out.below hb) (by have := HOK.out.few; have := HOK.out.did; omega) (by have := HOK.out.len; omega)
        unfold two at hrd
        have HRD := Lib.hid hrd
        obtain ⟨d1, e1, hd1⟩ : ∃ x k, S.read A1 = (x, k) := ⟨_, _, rfl⟩
        obtain ⟨d2, e2, hd2⟩ : ∃ x k, S.read A2 = (x, k) := ⟨_, _, rfl⟩
        have hrd1 := fun w' hb => HRD.out A1 w' hb
        have hrd2 := fun w' hb => HRD.out A2 w' hb
        rw [hd1] at hrd1
        rw [hd2] at hrd2
        dsimp only at hrd1 hrd2
        have HRD1 := Lib.hid hrd1
        have HRD2 := Lib.hid hrd2
        have hd2s : d2.size ≤ 140737488355328 := by have := HSZ.out A2; rw [hd2] at this; exact this
        have hhd : hdAt N F C U S l.length = (d1, e1) := by unfold hdAt; rw [← hA1, hd1]
        have hhol : olAt N F C U S l.length = (d2, e2) := by unfold olAt; rw [← hA2, hd2]
        have HHD := Lib.hid (And.intro hhd hhol)
        have hpt := fun w => rpart_any 7 16 l.length d1.data.toList w (by omega) (by omega)
        rw [show strV d1.data.toList = Value.string d1 from by cases d1; simp [strV], show ((16 : Nat) : Int) = 16 from rfl] at hpt
        have HPE := Lib.hid (part_und l.length d1 (by omega))
        obtain ⟨pt, hpte⟩ : ∃ pt, pt = partP 7 16 l.length d1.data.toList := ⟨_, rfl⟩
        rw [← hpte] at hpt HPE
        obtain ⟨pf, pn, ps, pis⟩ := pt
        unfold PtR.val at hpt
        dsimp only at hpt HPE
        have HPT := Lib.hid hpt
        have hlt' : l.length < U.toNat := by omega
        have HST := Lib.hid True.intro
        clear ha1 ha2 hA1 hA2 hx1 hx2 hrd hrd1 hrd2 hd1 hd2 hci hhd hhol hpt hpte
        go_wp2_with fail
        refine (HA1.out _).mono ?_
        rintro e w2 ⟨rfl, hb⟩
        have HB2 := Lib.hid (hB.trans (hb.mono hB.size))
        have HBr2 := Lib.hid hb
        clear hb HA1
        go_wp2_with fail
        refine (HRD1.out _ HB2.out).mono ?_
        rintro e w3 ⟨rfl, rfl⟩
        clear HRD1 c0 c1 c2 c3
        by_cases he1 : e1 = 0
        · subst he1
          go_wp2_with fail
          refine (HPT.out _).mono ?_
          rintro e w4 ⟨rfl, hb⟩
          have HB4 := Lib.hid (HB2.out.trans (hb.mono HB2.out.size))
          have HBr4 := Lib.hid (HBr2.out.trans (hb.mono HBr2.out.size))
          clear hb HPT HB2 HBr2
          obtain ⟨c0, c1, c2, c3⟩ := HGC.out _ HB4.out
          cases pis with
          | false =>
            have hbad := HPE.out.1 rfl
            have HRV := Lib.hid (HRR.out.trans (scanL_stop hlt' HI.out.oks (by rw [stepP_of HHD.out.1 HHD.out.2]; rw [if_neg (by simp), if_pos (hbad _ _ _ _ _ _)])))
            have HEE := Lib.hid (HES.out.later HBr4.out)
            have HFIN := Lib.hid (HB0.out.trans (HB4.out.mono HB0.out.size))
            clear hbad HST
            go_wp2
            refine bodyPost_ret (results_tmp2 rfl _ _ _) rfl ?_
            rw [HRV.out]
            exact ⟨⟨va, vc, rfl, HEE.out, fun b off sp e => Nat.le_trans HB0.out.size (HLOW.out b off sp e)⟩, HFIN.out⟩
          | true =>
            obtain ⟨hpfl, hdec, hpn, hps⟩ := HPE.out.2 rfl
            have HDEC := Lib.hid (And.intro hpfl hdec)
            clear hpfl hdec HPE
            have hmy := fun w => rmay_any N F C U (pn : Int) w HO.out
            unfold geo at hmy
            by_cases hm : mayP N F C U (pn : Int)
            · rw [decide_eq_true hm] at hmy
              have HMY := Lib.hid hmy
              have HM := Lib.hid hm
              obtain ⟨tg, htg⟩ : ∃ tg, tg = numN ((pf.drop 0).take 8) := ⟨_, rfl⟩
              obtain ⟨eg, heg⟩ : ∃ eg, eg = numN ((pf.drop 8).take 8) := ⟨_, rfl⟩
              have HTG := Lib.hid (And.intro htg heg)
              have hpl := HDEC.out.1
              obtain ⟨VP, hVP⟩ : ∃ V, V = strV pf := ⟨_, rfl⟩
              have HVP := Lib.hid hVP
              rw [← hVP]
              clear hmy hm htg heg hVP
              go_wp2_with fail
              refine (HMY.out _).mono ?_
              rintro e w5 ⟨rfl, hb⟩
              have HB5 := Lib.hid (HB4.out.trans (hb.mono HB4.out.size))
              have HBr5 := Lib.hid (HBr4.out.trans (hb.mono HBr4.out.size))
              clear hb HMY c0 c1 c2 c3
              obtain ⟨k6, w6, hcv6, hrd6, hb6⟩ := cv_str pf (by omega) w5
              rw [← HVP.out] at hcv6
              have hg1 := rget_ok _ _ _ _ 0 8 w6 hrd6 (by omega) (by omega) (by omega)
              rw [← HTG.out.1, show ((0 : Nat) : Int) = 0 from rfl, show ((8 : Nat) : Int) = 8 from rfl] at hg1
              have HG1 := Lib.hid hg1
              have HB6 := Lib.hid (HB5.out.trans (hb6.mono HB5.out.size))
              have HBr6 := Lib.hid (HBr5.out.trans (hb6.mono HBr5.out.size))
              clear hg1 hrd6 hb6 HB5 HBr5
              obtain ⟨k7, w7, hcv7, hrd7, hb7⟩ := cv_str pf (by omega) w6
              rw [← HVP.out] at hcv7
              have hg2 := rget_ok _ _ _ _ 8 8 w7 hrd7 (by omega) (by omega) (by omega)
              rw [← HTG.out.2, show ((8 : Nat) : Int) = 8 from rfl] at hg2
              have HG2 := Lib.hid hg2
              have HB7 := Lib.hid (HB6.out.trans (hb7.mono HB6.out.size))
              have HBr7 := Lib.hid (HBr6.out.trans (hb7.mono HBr6.out.size))
              clear hg2 hrd7 hb7 HB6 HBr6
              obtain ⟨ml, hml⟩ : ∃ ml, ml = pf.length := ⟨_, rfl⟩
              rw [← hml] at hcv6 hcv7 HG1 HG2
              clear hml hpl
              go_wp2_with fail
              refine HG1.out.mono ?_
              rintro e w6' ⟨rfl, rfl⟩
              go_wp2_with fail
              refine HG2.out.mono ?_
              rintro e w7' ⟨rfl, rfl⟩
              clear HG1 HG2 hcv6 hcv7
              obtain ⟨c0, c1, c2, c3⟩ := HGC.out _ HB7.out
              have HBAD := Lib.hid (und_bad HHD.out.1 HHD.out.2 HDEC.out.2 HTG.out.1 HTG.out.2 HM.out HI.out.oks)
              by_cases hle : eg ≤ ep
              · have q1 : decide ((eg : Int) ≤ (ep : Int)) = true := by simp; omega
                have q1p : (eg : Int) ≤ (ep : Int) := by omega
                have HRV := Lib.hid (HRR.out.trans (scanL_stop hlt' HI.out.oks ((HBAD.out).1 (.inl hle))))
                have HEE := Lib.hid (HES.out.later HBr7.out)
                have HFIN := Lib.hid (HB0.out.trans (HB7.out.mono HB0.out.size))
                clear hle HST
                go_wp2
                refine bodyPost_ret (results_tmp2 rfl _ _ _) rfl ?_
                rw [HRV.out]
                exact ⟨⟨va, vc, rfl, HEE.out, fun b off sp e => Nat.le_trans HB0.out.size (HLOW.out b off sp e)⟩, HFIN.out⟩
              · have q1 : decide ((eg : Int) ≤ (ep : Int)) = false := by simp; omega
                have q1' : ¬ ((eg : Int) ≤ (ep : Int)) := by omega
                by_cases hl0 : l = []
                · have hne := HBAD.out.2 hle (fun h => absurd hl0 h)
                  have HNE := Lib.hid hne
                  have q2 : ¬ ((0 : Int) < (l.length : Int)) := by rw [hl0]; simp
                  have q3 : decide ((0 : Int) < (l.length : Int)) = false := decide_eq_false q2
                  clear hne hle hl0
                  go_wp2_with fail
                  refine (HA2.out _).mono ?_
                  rintro e w8 ⟨rfl, hb⟩
                  have HB8 := Lib.hid (HB7.out.trans (hb.mono HB7.out.size))
                  have HBr8 := Lib.hid (HBr7.out.trans (hb.mono HBr7.out.size))
                  clear hb HA2 c0 c1 c2 c3
                  go_wp2_with fail
                  refine (HRD2.out _ HB8.out).mono ?_
                  rintro e w9 ⟨rfl, rfl⟩
                  clear HRD2
                  by_cases he2 : e2 = 0
                  · subst he2
                    have hst := HNE.out
                    rw [if_neg (by simp)] at hst
                    obtain ⟨kk, wk, hcv, hrdk, hbk⟩ := cv_rd d2 hd2s w9
                    have hsu := rsum_any _ _ _ _ wk hrdk
                    obtain ⟨sm, hsm⟩ : ∃ sm, sm = sumN d2 := ⟨_, rfl⟩
                    rw [show addN 0 d2.data.toList = sm from hsm.symm] at hsu
                    rw [← hsm] at hst
                    have HSU := Lib.hid hsu
                    have HST3 := Lib.hid hst
                    have HBk := Lib.hid (HB8.out.trans (hbk.mono HB8.out.size))
                    have HBrk := Lib.hid (HBr8.out.trans (hbk.mono HBr8.out.size))
                    clear hst hsu hrdk hbk hsm
                    by_cases hsg : sm = ps
                    · have p1 : ((sm : Int) == (ps : Int)) = true := by simp [hsg]
                      have p2 : ((sm : Int) != (ps : Int)) = false := by simp [hsg]
                      have HSTEP := Lib.hid (HST3.out.trans (if_neg (fun h => h hsg)))
                      clear hsg
                      go_wp2_with fail
                      refine HSU.out.mono ?_
                      rintro e wm ⟨rfl, rfl⟩
                      have hrow : wk.ownsRow W.heap.size 55 4 (.slice va l.length vc) l.length (ents l) := owns_kept HI.out.row fun k hk => HBrk.out.block k (HI.out.row.lt k hk).2
                      have HROW := Lib.hid hrow
                      clear hrow hcv HSU
                      obtain ⟨i0, hi, hz0, hz1, hz2⟩ := info_parts Tryz.infoEnt
                      have hlo := HBk.out.size
                      go_wp2_with (at_builtin; refine wpList_append_own_at _ (o := ⟨some 122, _, _, _, _, _⟩) rfl (.tmp 115) (.tmp 121) 53 rfl W.heap.size 55 i0 _ 4 40 Tryz.underlying53 hi hz0 hz1 hz2 rfl (by omega) (.slice va l.length vc) l.length _ rfl (HROW.out.alloc _) ⟨wk.heap.size, 0, none⟩ 1 1 (ents [(⟨tg, eg, (pn : Int), d2⟩ : En)]) rfl rfl (ent_cells wk (⟨tg, eg, (pn : Int), d2⟩ : En)) (ents_one _) (by unfold maxLen; simp; omega) (by omega) (by simp; omega) ?_)
                      rintro v' w' hown hg - hat
                      obtain ⟨a', c', rfl, -⟩ := owns_shape1 hown
                      have HCI2 := Lib.hid (show UI W N F C U S ep w' (.slice a' (l.length + 1) c') (l ++ [(⟨tg, eg, (pn : Int), d2⟩ : En)]) from by
                        refine ⟨by have := hlt'; simp at this ⊢; omega, by rw [List.length_append, ents_append]; exact hown, ?_, fun j hj => ?_⟩
                        · exact (HBk.out.alloc HBk.out.size _).grown hg (HBk.out.alloc HBk.out.size _).size (fun k e => (HI.out.row.lt k e).1)
                        · rcases Nat.lt_or_ge j l.length with h1 | h1
                          · rw [HI.out.oks j h1, eAt_append_l h1]
                          · obtain rfl : j = l.length := by rw [List.length_append] at hj; have h2 : ∀ x : En, [x].length = 1 := fun _ => rfl; rw [h2] at hj; omega
                            rw [HSTEP.out, eAt_append_e])
                      clear hown hg hat hlo
                      go_wp2
                      go_roundw
                      case rel => exact ⟨_, by simp, HCI2.out⟩
                      case measure => have := HCN.out; simp at hlt'; simp [intOf]; omega
                    · have p1 : ((sm : Int) == (ps : Int)) = false := by simp; omega
                      have p2 : ((sm : Int) != (ps : Int)) = true := by simp; omega
                      have HRV := Lib.hid (HRR.out.trans (scanL_stop hlt' HI.out.oks (by rw [HST3.out, if_pos hsg])))
                      have HEE := Lib.hid (HES.out.later HBrk.out)
                      have HFIN := Lib.hid (HB0.out.trans (HBk.out.mono HB0.out.size))
                      clear hsg
                      go_wp2_with fail
                      refine HSU.out.mono ?_
                      rintro e wm ⟨rfl, rfl⟩
                      clear hcv
                      go_wp2
                      refine bodyPost_ret (results_tmp2 rfl _ _ _) rfl ?_
                      rw [HRV.out]
                      exact ⟨⟨va, vc, rfl, HEE.out, fun b off sp e => Nat.le_trans HB0.out.size (HLOW.out b off sp e)⟩, HFIN.out⟩
                  · have p1 : (e2 == 0) = false := by simpa using he2
                    have p2 : (e2 != 0) = true := by simp [he2]
                    have HRV := Lib.hid (HRR.out.trans (scanL_why hlt' HI.out.oks (by rw [HNE.out, if_pos he2]) he2))
                    have HFIN := Lib.hid (HB0.out.trans (HB8.out.mono HB0.out.size))
                    clear he2
                    go_wp2
                    refine bodyPost_ret (results_tmp2 rfl _ _ _) rfl ?_
                    rw [HRV.out]
                    exact ⟨⟨none, 0, rfl, es_nil _, fun b off sp e => by cases e⟩, HFIN.out⟩
                · have hpos : 0 < l.length := List.length_pos_iff.2 hl0
                  obtain ⟨gb, go, rfl, hgl, hgc'⟩ := (HES.out.later HBr7.out).at0 hpos
                  obtain ⟨z0, z1, z2, z3⟩ := hgc' 0 hpos
                  rw [Nat.zero_mul, Nat.add_zero] at z0 z1
                  have q3 : (0 : Int) < (l.length : Int) := by omega
                  have q4 : (l.length : Int) ≤ (vc : Int) := by have := HES.out.le; omega
                  have q5 : (vc : Int) ≤ 9223372036854775807 := by have := HES.out.cm; unfold maxLen at this; omega
                  obtain ⟨ze, hze⟩ : ∃ ze, ze = (eAt l 0).epoch := ⟨_, rfl⟩
                  obtain ⟨zt, hzt⟩ : ∃ zt, zt = (eAt l 0).tag := ⟨_, rfl⟩
                  rw [← hzt] at z0
                  rw [← hze] at z1
                  have HZ := Lib.hid (And.intro hze hzt)
                  have HL0 := Lib.hid hl0
                  have HLE := Lib.hid hle
                  clear hgc' z2 z3 hze hzt hl0 hle
                  by_cases hx1 : ze = eg
                  · have r1 : ((ze : Int) == (eg : Int)) = true := by simp [hx1]
                    have r2 : ((ze : Int) != (eg : Int)) = false := by simp [hx1]
                    by_cases hx2 : zt = tg
                    · have r3 : ((zt : Int) == (tg : Int)) = true := by simp [hx2]
                      have r4 : ((zt : Int) != (tg : Int)) = false := by simp [hx2]
                      have hne := HBAD.out.2 HLE.out (fun _ => ⟨by rw [← HZ.out.1]; exact hx1, by rw [← HZ.out.2]; exact hx2⟩)
                      have HNE := Lib.hid hne
                      clear hne hx1 hx2
                      go_wp2_with fail
                      refine (HA2.out _).mono ?_
                      rintro e w8 ⟨rfl, hb⟩
                      have HB8 := Lib.hid (HB7.out.trans (hb.mono HB7.out.size))
                      have HBr8 := Lib.hid (HBr7.out.trans (hb.mono HBr7.out.size))
                      clear hb HA2 c0 c1 c2 c3
                      go_wp2_with fail
                      refine (HRD2.out _ HB8.out).mono ?_
                      rintro e w9 ⟨rfl, rfl⟩
                      clear HRD2
                      by_cases he2 : e2 = 0
                      · subst he2
                        have hst := HNE.out
                        rw [if_neg (by simp)] at hst
                        obtain ⟨kk, wk, hcv, hrdk, hbk⟩ := cv_rd d2 hd2s w9
                        have hsu := rsum_any _ _ _ _ wk hrdk
                        obtain ⟨sm, hsm⟩ : ∃ sm, sm = sumN d2 := ⟨_, rfl⟩
                        rw [show addN 0 d2.data.toList = sm from hsm.symm] at hsu
                        rw [← hsm] at hst
                        have HSU := Lib.hid hsu
                        have HST3 := Lib.hid hst
                        have HBk := Lib.hid (HB8.out.trans (hbk.mono HB8.out.size))
                        have HBrk := Lib.hid (HBr8.out.trans (hbk.mono HBr8.out.size))
                        clear hst hsu hrdk hbk hsm
                        by_cases hsg : sm = ps
                        · have p1 : ((sm : Int) == (ps : Int)) = true := by simp [hsg]
                          have p2 : ((sm : Int) != (ps : Int)) = false := by simp [hsg]
                          have HSTEP := Lib.hid (HST3.out.trans (if_neg (fun h => h hsg)))
                          clear hsg
                          go_wp2_with fail
                          refine HSU.out.mono ?_
                          rintro e wm ⟨rfl, rfl⟩
                          have hrow : wk.ownsRow W.heap.size 55 4 (.slice (some ⟨gb, go, none⟩) l.length vc) l.length (ents l) := owns_kept HI.out.row fun k hk => HBrk.out.block k (HI.out.row.lt k hk).2
                          have HROW := Lib.hid hrow
                          clear hrow hcv HSU
                          obtain ⟨i0, hi, hz0, hz1, hz2⟩ := info_parts Tryz.infoEnt
                          have hlo := HBk.out.size
                          go_wp2_with (at_builtin; refine wpList_append_own_at _ (o := ⟨some 122, _, _, _, _, _⟩) rfl (.tmp 115) (.tmp 121) 53 rfl W.heap.size 55 i0 _ 4 40 Tryz.underlying53 hi hz0 hz1 hz2 rfl (by omega) (.slice (some ⟨gb, go, none⟩) l.length vc) l.length _ rfl (HROW.out.alloc _) ⟨wk.heap.size, 0, none⟩ 1 1 (ents [(⟨tg, eg, (pn : Int), d2⟩ : En)]) rfl rfl (ent_cells wk (⟨tg, eg, (pn : Int), d2⟩ : En)) (ents_one _) (by unfold maxLen; simp; omega) (by omega) (by simp; omega) ?_)
                          rintro v' w' hown hg - hat
                          obtain ⟨a', c', rfl, -⟩ := owns_shape1 hown
                          have HCI2 := Lib.hid (show UI W N F C U S ep w' (.slice a' (l.length + 1) c') (l ++ [(⟨tg, eg, (pn : Int), d2⟩ : En)]) from by
                            refine ⟨by have := hlt'; simp at this ⊢; omega, by rw [List.length_append, ents_append]; exact hown, ?_, fun j hj => ?_⟩
                            · exact (HBk.out.alloc HBk.out.size _).grown hg (HBk.out.alloc HBk.out.size _).size (fun k e => (HI.out.row.lt k e).1)
                            · rcases Nat.lt_or_ge j l.length with h1 | h1
                              · rw [HI.out.oks j h1, eAt_append_l h1]
                              · obtain rfl : j = l.length := by rw [List.length_append] at hj; have h2 : ∀ x : En, [x].length = 1 := fun _ => rfl; rw [h2] at hj; omega
                                rw [HSTEP.out, eAt_append_e])
                          clear hown hg hat hlo
                          go_wp2
                          go_roundw
                          case rel => exact ⟨_, by simp, HCI2.out⟩
                          case measure => have := HCN.out; simp at hlt'; simp [intOf]; omega
                        · have p1 : ((sm : Int) == (ps : Int)) = false := by simp; omega
                          have p2 : ((sm : Int) != (ps : Int)) = true := by simp; omega
                          have HRV := Lib.hid (HRR.out.trans (scanL_stop hlt' HI.out.oks (by rw [HST3.out, if_pos hsg])))
                          have HEE := Lib.hid (HES.out.later HBrk.out)
                          have HFIN := Lib.hid (HB0.out.trans (HBk.out.mono HB0.out.size))
                          clear hsg
                          go_wp2_with fail
                          refine HSU.out.mono ?_
                          rintro e wm ⟨rfl, rfl⟩
                          clear hcv
                          go_wp2
                          refine bodyPost_ret (results_tmp2 rfl _ _ _) rfl ?_
                          rw [HRV.out]
                          exact ⟨⟨_, vc, rfl, HEE.out, fun b off sp e => Nat.le_trans HB0.out.size (HLOW.out b off sp e)⟩, HFIN.out⟩
                      · have p1 : (e2 == 0) = false := by simpa using he2
                        have p2 : (e2 != 0) = true := by simp [he2]
                        have HRV := Lib.hid (HRR.out.trans (scanL_why hlt' HI.out.oks (by rw [HNE.out, if_pos he2]) he2))
                        have HFIN := Lib.hid (HB0.out.trans (HB8.out.mono HB0.out.size))
                        clear he2
                        go_wp2
                        refine bodyPost_ret (results_tmp2 rfl _ _ _) rfl ?_
                        rw [HRV.out]
                        exact ⟨⟨none, 0, rfl, es_nil _, fun b off sp e => by cases e⟩, HFIN.out⟩
                    · have r3 : ((zt : Int) == (tg : Int)) = false := by simp; omega
                      have r4 : ((zt : Int) != (tg : Int)) = true := by simp; omega
                      have HRV := Lib.hid (HRR.out.trans (scanL_stop hlt' HI.out.oks ((HBAD.out).1 (.inr ⟨HL0.out, .inr (by rw [← HZ.out.2]; exact hx2)⟩))))
                      have HEE := Lib.hid (HES.out.later HBr7.out)
                      have HFIN := Lib.hid (HB0.out.trans (HB7.out.mono HB0.out.size))
                      clear hx1 hx2 HST
                      go_wp2
                      refine bodyPost_ret (results_tmp2 rfl _ _ _) rfl ?_
                      rw [HRV.out]
                      exact ⟨⟨_, vc, rfl, HEE.out, fun b off sp e => Nat.le_trans HB0.out.size (HLOW.out b off sp e)⟩, HFIN.out⟩
                  · have r1 : ((ze : Int) == (eg : Int)) = false := by simp; omega
                    have r2 : ((ze : Int) != (eg : Int)) = true := by simp; omega
                    have HRV := Lib.hid (HRR.out.trans (scanL_stop hlt' HI.out.oks ((HBAD.out).1 (.inr ⟨HL0.out, .inl (by rw [← HZ.out.1]; exact hx1)⟩))))
                    have HEE := Lib.hid (HES.out.later HBr7.out)
                    have HFIN := Lib.hid (HB0.out.trans (HB7.out.mono HB0.out.size))
                    clear hx1 HST
                    go_wp2
                    refine bodyPost_ret (results_tmp2 rfl _ _ _) rfl ?_
                    rw [HRV.out]
                    exact ⟨⟨_, vc, rfl, HEE.out, fun b off sp e => Nat.le_trans HB0.out.size (HLOW.out b off sp e)⟩, HFIN.out⟩
            · rw [decide_eq_false hm] at hmy
              have HMY := Lib.hid hmy
              have hbad := (HDEC.out.2).symm
              clear hmy
              go_wp2_with fail
              refine (HMY.out _).mono ?_
              rintro e w5 ⟨rfl, hb⟩
              have HB5 := Lib.hid (HB4.out.trans (hb.mono HB4.out.size))
              have HBr5 := Lib.hid (HBr4.out.trans (hb.mono HBr4.out.size))
              clear hb HMY c0 c1 c2 c3
              have HRV := Lib.hid (HRR.out.trans (scanL_stop hlt' HI.out.oks (by rw [stepP_of HHD.out.1 HHD.out.2, ← hbad, if_neg (by simp), if_pos (.inr (.inl hm))])))
              have HEE := Lib.hid (HES.out.later HBr5.out)
              have HFIN := Lib.hid (HB0.out.trans (HB5.out.mono HB0.out.size))
              clear hm HST
              go_wp2
              refine bodyPost_ret (results_tmp2 rfl _ _ _) rfl ?_
              rw [HRV.out]
              exact ⟨⟨va, vc, rfl, HEE.out, fun b off sp e => Nat.le_trans HB0.out.size (HLOW.out b off sp e)⟩, HFIN.out⟩
        · have he2 : (e1 == 0) = false := by simpa using he1
          have he3 : (e1 != 0) = true := by simp [he1]
          have HRV := Lib.hid (HRR.out.trans (scanL_why hlt' HI.out.oks (by rw [stepP_of HHD.out.1 HHD.out.2, if_pos he1]) he1))
          have HFIN := Lib.hid (HB0.out.trans (HB2.out.mono HB0.out.size))
          clear he1
          go_wp2
          refine bodyPost_ret (results_tmp2 rfl _ _ _) rfl ?_
          rw [HRV.out]
          exact ⟨⟨none, 0, rfl, es_nil _, fun b off sp e => by cases e⟩, HFIN.out⟩
      · have hle := HI.out.le
        have HRV := Lib.hid (HRR.out.trans (scanL_end (by omega) HI.out.oks))
        have hlt2 : ¬ ((l.length : Int) < U) := hlt
        have HFIN := Lib.hid (HB0.out.trans (hB.mono HB0.out.size))
        go_wp2
        refine bodyPost_ret (results_tmp2 rfl _ _ _) rfl ?_
        rw [HRV.out]
        exact ⟨⟨va, vc, rfl, HES.out, fun b off sp e => Nat.le_trans HB0.out.size (HLOW.out b off sp e)⟩, HFIN.out⟩
  · rw [decide_eq_false ho] at hr
    rw [if_neg ho] at hR
    have HR := Lib.hid hr
    clear hr ho
    subst hR
    go_enter Tryz.func45, Tryz.ntmps45
    go_wp2_with fail
    rw [← HW.out]
    refine (HR.out _).mono ?_
    rintro e w1 ⟨rfl, hb⟩
    have HFIN := Lib.hid (HB0.out.trans (hb.mono HB0.out.size))
    clear hb
    go_wp2
    refine bodyPost_ret (results_tmp2 rfl _ _ _) rfl ?_
    exact ⟨⟨none, 0, rfl, es_nil _, fun b off sp e => by cases e⟩, HFIN.out⟩
end Go.Proofs.YtjohgagiccndpaaGreatDoor

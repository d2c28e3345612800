/-
  Texts put together: Q3, Q4, Q5.
-/
import Derived.Test.YtjohgagiccndpaaGreatDoorMQ
import Derived.Scope
import Derived.Test.YtjohgagiccndpaaGreatDoorMPF
import Derived.Test.YtjohgagiccndpaaGreatDoorMPJ
import Derived.Test.YtjohgagiccndpaaGreatDoorMPH
/-
  cow's Scan.
-/
namespace Go.Proofs.YtjohgagiccndpaaGreatDoor
open Go.RowKit
set_option linter.unusedVariables false
set_option linter.unusedSimpArgs false

def chdAt (N F C U : Int) (S : DS) (k : Nat) : ByteArray × Int := S.read (areaAt N F C U 0 (2 * (k : Int)))
def colAt (N F C U : Int) (S : DS) (k : Nat) : ByteArray × Int := S.read (areaAt N F C U 0 (2 * (k : Int) + 1))
def cdecB (s : ByteArray) : CHd × Bool := cdecP s.data.toList
/-- What is no entry of the epoch. -/
def cbadH (N : Int) (ep k : Nat) (h : CHd × Bool) : Prop := h.2 = false ∨ h.1.num ≠ k ∨ ¬ isD N (h.1.leaf : Int) ∨ h.1.epoch ≠ ep
instance (N : Int) (ep k : Nat) (h : CHd × Bool) : Decidable (cbadH N ep k h) := by unfold cbadH; infer_instance
def cstepP (N F C U : Int) (S : DS) (ep k : Nat) : Stp :=
  if (chdAt N F C U S k).2 ≠ 0 then .err (chdAt N F C U S k).2
  else if cbadH N ep k (cdecB (chdAt N F C U S k).1) then .stop
  else if (colAt N F C U S k).2 ≠ 0 then .err (colAt N F C U S k).2
  else if sumN (colAt N F C U S k).1 ≠ (cdecB (chdAt N F C U S k).1).1.sum then .stop
  else .ok ⟨0, (cdecB (chdAt N F C U S k).1).1.epoch, (cdecB (chdAt N F C U S k).1).1.leaf, (colAt N F C U S k).1⟩
def cscanP (N F C U : Int) (S : DS) (ep : Nat) : List En × Int := if okG N F C U then scanL (seqP (cstepP N F C U S ep) 0 C.toNat) else ([], 12)

theorem seqP_cut (st : Nat → Stp) : ∀ (l : List En) (k m : Nat), (∀ i, i < l.length → st (k + i) = .ok (eAt l i)) → seqP st k (l.length + m) = l.map (fun e => (e, (0 : Int))) ++ seqP st (k + l.length) m
  | [], k, m, _ => by simp
  | x :: l, k, m, h => by
    have h0 := h 0 (by simp)
    rw [show (x :: l).length + m = (l.length + m) + 1 from by simp; omega]
    rw [Nat.add_zero] at h0
    have e0 : seqP st k (l.length + m + 1) = (eAt (x :: l) 0, (0 : Int)) :: seqP st (k + 1) (l.length + m) := by
      show (match st k with | .stop => [] | .err c => [(noEn, c)] | .ok e => (e, (0 : Int)) :: seqP st (k + 1) (l.length + m)) = _
      rw [h0]
    rw [e0]
    have := seqP_cut st l (k + 1) m fun i hi => by
      have := h (i + 1) (by simpa using hi)
      rw [show k + 1 + i = k + (i + 1) from by omega, this]
      simp [eAt]
    rw [this, show k + 1 + l.length = k + (x :: l).length from by simp; omega]
    simp [eAt]
section
variable {st : Nat → Stp} {n : Nat} {l : List En}
theorem scanL_end (hl : l.length = n) (h : ∀ i, i < l.length → st i = .ok (eAt l i)) : scanL (seqP st 0 n) = (l, 0) := by
  have := seqP_cut st l 0 0 (fun i hi => by rw [Nat.zero_add]; exact h i hi)
  rw [Nat.add_zero, hl] at this
  rw [this, show seqP st (0 + n) 0 = [] from rfl, List.append_nil, scanL_ok _ (by simp), List.map_map]
  congr 1
  exact List.map_id l
theorem scanL_stop (hl : l.length < n) (h : ∀ i, i < l.length → st i = .ok (eAt l i)) (hs : st l.length = .stop) : scanL (seqP st 0 n) = (l, 0) := by
  obtain ⟨m, rfl⟩ : ∃ m, n = l.length + (m + 1) := ⟨n - l.length - 1, by omega⟩
  rw [seqP_cut st l 0 (m + 1) (fun i hi => by rw [Nat.zero_add]; exact h i hi), Nat.zero_add]
  unfold seqP
  rw [hs]
  dsimp only
  rw [List.append_nil, scanL_ok _ (by simp), List.map_map]
  congr 1
  exact List.map_id l
theorem scanL_why {c : Int} (hl : l.length < n) (h : ∀ i, i < l.length → st i = .ok (eAt l i)) (hs : st l.length = .err c) (hc : c ≠ 0) : scanL (seqP st 0 n) = ([], c) := by
  obtain ⟨m, rfl⟩ : ∃ m, n = l.length + (m + 1) := ⟨n - l.length - 1, by omega⟩
  rw [seqP_cut st l 0 (m + 1) (fun i hi => by rw [Nat.zero_add]; exact h i hi), Nat.zero_add]
  unfold seqP
  rw [hs]
  dsimp only
  exact scanL_err _ (l.map fun e => (e, (0 : Int))) (noEn, c) (l.length + 1) (by rw [List.take_of_length_le (by simp)]) (by simp) hc
end

theorem eAt_append_l {l : List En} {x : En} {i : Nat} (h : i < l.length) : eAt (l ++ [x]) i = eAt l i := by unfold eAt; rw [List.getElem?_append_left h]
theorem eAt_append_e {l : List En} {x : En} : eAt (l ++ [x]) l.length = x := by simp [eAt]
/-- What holds ahead of a round. -/
structure CI (W : World) (N F C U : Int) (S : DS) (ep : Nat) (wr : World) (v : Value) (l : List En) : Prop where
  le : (l.length : Int) ≤ C
  row : wr.ownsRow W.heap.size 55 4 v l.length (ents l)
  bel : Below W.heap.size W wr
  oks : ∀ j, j < l.length → cstepP N F C U S ep j = .ok (eAt l j)

set_option maxRecDepth 20000 in
set_option maxHeartbeats 4000000 in
theorem cscan_any (B p : Nat) (v1 v2 : Value) (S : DS) (N F C U : Int) (ep : Nat) (w : World) (h : PD w B p v1 v2 S) (M : Nat) (hok : S.ok M) (hM : M ≤ 1000000) (hsz : ∀ x : Int, (S.read x).1.size ≤ 140737488355328) :
    Calls Tryz.prog 40 #[.pointer (some ⟨p, 0, none⟩), geo N F C U, .int .u64 (ep : Int)] w fun e w' =>
      (∃ a c, e = .returned (.tuple #[.slice a (cscanP N F C U S ep).1.length c, .int .i64 (cscanP N F C U S ep).2]) ∧ Es w' a (cscanP N F C U S ep).1.length c (cscanP N F C U S ep).1 ∧ ∀ b off sp, a = some ⟨b, off, sp⟩ → w.heap.size ≤ b) ∧ Below w.heap.size w w' := by
  have hr := fun w => gright_any N F C U w
  obtain ⟨R, hR⟩ : ∃ R, R = cscanP N F C U S ep := ⟨_, rfl⟩
  rw [← hR]
  unfold cscanP at hR
  obtain ⟨W, hW⟩ : ∃ W, W = w.alloc (.cells #[.int .i64 N, .int .i64 F, .int .i64 C, .int .i64 U] 23) := ⟨_, rfl⟩
  have hs0 : W.heap.size = w.heap.size + 1 := by rw [hW]; exact World.size_alloc _ _
  have hb0 : Below w.heap.size w W := by rw [hW]; exact (Below.refl _ w).alloc (Nat.le_refl _) _
  have hgc : ∀ w', Below W.heap.size W w' → w'.cell? ⟨w.heap.size, 0, none⟩ = some (.int .i64 N) ∧ w'.cell? ⟨w.heap.size, 1, none⟩ = some (.int .i64 F) ∧ w'.cell? ⟨w.heap.size, 2, none⟩ = some (.int .i64 C) ∧ w'.cell? ⟨w.heap.size, 3, none⟩ = some (.int .i64 U) := fun w' hb => by
    have := gb_cells w N F C U w' (by unfold gbox; rw [← hW, ← hs0]; exact hb)
    exact this
  have HGC := Lib.hid hgc
  have HB0 := Lib.hid hb0
  have HS0 := Lib.hid hs0
  have HW := Lib.hid hW
  have HP := Lib.hid (h.below hb0)
  have HOK := Lib.hid hok
  have HSZ := Lib.hid hsz
  obtain ⟨c0, c1, c2, c3⟩ := hgc W (Below.refl _ _)
  clear hgc hb0 hs0 hW h hok hsz
  unfold geo at hr ⊢
  by_cases ho : okG N F C U
  · rw [decide_eq_true ho] at hr
    rw [if_pos ho] at hR
    have HR := Lib.hid hr
    have HRR := Lib.hid hR
    have HO := Lib.hid ho
    clear hr hR ho
    go_enter Tryz.func40, Tryz.ntmps40
    go_wp2_with fail
    rw [← HW.out]
    refine wp_scope_straight ?_
    go_wp2_with fail
    refine (HR.out _).mono ?_
    rintro e w1 ⟨rfl, hb⟩
    obtain ⟨c0', c1', c2', c3'⟩ := HGC.out w1 hb
    have HCI := Lib.hid (show CI W N F C U S ep w1 (.slice none 0 0) [] from ⟨by have := HO.out.2.2.2.2.1; simpa using this, World.ownsRow_nil _ _ _ _, hb, fun j hj => by simp at hj⟩)
    clear hb c0 c1 c2 c3
    go_wp2_with fail
    refine wp_label ?_
    go_upto_region 5 with fail
    obtain ⟨cn, hcn⟩ : ∃ cn : Nat, C = (cn : Int) := ⟨C.toNat, by have := HO.out.2.2.2.2.1; omega⟩
    have HCN := Lib.hid hcn
    clear hcn
    go_loopw [8, 22] (fun v i wr => ∃ l : List En, i = .int .i64 (l.length : Int) ∧ CI W N F C U S ep wr v l) (fun _ i _ => cn - (intOf i).toNat)
    case atStart => exact ⟨[], rfl, HCI.out⟩
    case round =>
      obtain ⟨l, rfl, hci⟩ := hrel
      obtain ⟨va, vc, rfl, hes0, hlow0⟩ := es_of_owns hci.row rfl
      have HI := Lib.hid hci
      have hB := hci.bel
      have HES := Lib.hid hes0
      have HLOW := Lib.hid hlow0
      clear hes0 hlow0
      by_cases hlt : (l.length : Int) < C
      · have hk1000 : l.length ≤ 1000 := by have := HO.out.2.2.2.2.2.1; omega
        have hlo := fun w => clocations_any N F C U l.length hk1000 w
        unfold geo at hlo
        obtain ⟨A1, hA1⟩ : ∃ A, A = areaAt N F C U 0 (2 * (l.length : Int)) := ⟨_, rfl⟩
        obtain ⟨A2, hA2⟩ : ∃ A, A = areaAt N F C U 0 (2 * (l.length : Int) + 1) := ⟨_, rfl⟩
        rw [← hA1, ← hA2] at hlo
        have HLO := Lib.hid hlo
        have hrd := fun (x : Int) w' (hb : Below W.heap.size W w') => read_any B p v1 v2 S x w' (HP.out.below hb) (by have := HOK.out.few; have := HOK.out.did; omega) (by have := HOK.out.len; omega)
        unfold two at hrd
        have HRD := Lib.hid hrd
        obtain ⟨d1, e1, hd1⟩ : ∃ x k, S.read A1 = (x, k) := ⟨_, _, rfl⟩
        obtain ⟨d2, e2, hd2⟩ : ∃ x k, S.read A2 = (x, k) := ⟨_, _, rfl⟩
        have hrd1 := fun w' hb => HRD.out A1 w' hb
        have hrd2 := fun w' hb => HRD.out A2 w' hb
        rw [hd1] at hrd1
        rw [hd2] at hrd2
        dsimp only at hrd1 hrd2
        have HRD1 := Lib.hid hrd1
        have HRD2 := Lib.hid hrd2
        have hd2s : d2.size ≤ 140737488355328 := by have := HSZ.out A2; rw [hd2] at this; exact this
        have HST := Lib.hid (show cstepP N F C U S ep l.length = if e1 ≠ 0 then .err e1 else if cbadH N ep l.length (cdecB d1) then .stop else if e2 ≠ 0 then .err e2 else if sumN d2 ≠ (cdecB d1).1.sum then .stop else .ok ⟨0, (cdecB d1).1.epoch, (cdecB d1).1.leaf, d2⟩ from by unfold cstepP chdAt colAt; rw [← hA1, ← hA2, hd1, hd2])
        obtain ⟨c0, c1, c2, c3⟩ := HGC.out wr hB
        have hlt' : l.length < C.toNat := by omega
        clear hlo hA1 hA2 hrd hrd1 hrd2 hd1 hd2 hci
        go_wp2_with fail
        refine (HLO.out _).mono ?_
        rintro e w2 ⟨rfl, hb⟩
        have HB2 := Lib.hid (hB.trans (hb.mono hB.size))
        obtain ⟨c0', c1', c2', c3'⟩ := HGC.out w2 HB2.out
        have HBr2 := Lib.hid hb
        clear hb c0 c1 c2 c3 HLO
        go_wp2_with fail
        refine (HRD1.out _ HB2.out).mono ?_
        rintro e w3 ⟨rfl, hb⟩
        have HB3 := Lib.hid (HB2.out.trans (hb.mono HB2.out.size))
        obtain ⟨c0, c1, c2, c3⟩ := HGC.out w3 HB3.out
        have HBr3 := Lib.hid (HBr2.out.trans (hb.mono HBr2.out.size))
        clear hb c0' c1' c2' c3' HRD1 HBr2
        by_cases he1 : e1 = 0
        · subst he1
          have hdec := fun w => cdecode_any d1.data.toList w
          rw [show strV d1.data.toList = Value.string d1 from by cases d1; simp [strV], show cdecP d1.data.toList = cdecB d1 from rfl] at hdec
          obtain ⟨hh, is, hcd⟩ : ∃ hh is, cdecB d1 = (hh, is) := ⟨_, _, rfl⟩
          have hst := HST.out
          rw [hcd] at hdec hst
          rw [if_neg (by simp)] at hst
          obtain ⟨ge, gn, gl, gs⟩ := hh
          unfold CHd.val cheadV at hdec
          dsimp only at hdec hst
          have HDEC := Lib.hid hdec
          have HST2 := Lib.hid hst
          clear hdec hst hcd HST
          go_wp2_with fail
          refine (HDEC.out _).mono ?_
          rintro e w4 ⟨rfl, hb⟩
          have HB4 := Lib.hid (HB3.out.trans (hb.mono HB3.out.size))
          have HBr4 := Lib.hid (HBr3.out.trans (hb.mono HBr3.out.size))
          clear hb HBr3 HDEC c0 c1 c2 c3
          obtain ⟨X, hX⟩ : ∃ X, X = w4.alloc (.cells #[.int .u64 (ge : Int), .int .i64 (gn : Int), .int .i64 (gl : Int), .int .u32 (gs : Int)] 128) := ⟨_, rfl⟩
          obtain ⟨bx, hbx⟩ : ∃ bx, bx = w4.heap.size := ⟨_, rfl⟩
          have HX := Lib.hid (show X.heap[bx]? = some (.cells #[.int .u64 (ge : Int), .int .i64 (gn : Int), .int .i64 (gl : Int), .int .u32 (gs : Int)] 128 (0, 0)) from by rw [hX, hbx]; exact heap_alloc_new w4 _)
          have HBX := Lib.hid (show Below W.heap.size W X from by rw [hX]; exact HB4.out.alloc HB4.out.size _)
          have HBL := Lib.hid (show Below wr.heap.size wr X from by rw [hX]; exact HBr4.out.alloc HBr4.out.size _)
          obtain ⟨c0, c1, c2, c3⟩ := HGC.out X HBX.out
          have b0 : X.cell? ⟨bx, 0, none⟩ = some (.int .u64 (ge : Int)) := by rw [cell_of_blk HX.out]; rfl
          have b1 : X.cell? ⟨bx, 1, none⟩ = some (.int .i64 (gn : Int)) := by rw [cell_of_blk HX.out]; rfl
          have b2 : X.cell? ⟨bx, 2, none⟩ = some (.int .i64 (gl : Int)) := by rw [cell_of_blk HX.out]; rfl
          have b3 : X.cell? ⟨bx, 3, none⟩ = some (.int .u32 (gs : Int)) := by rw [cell_of_blk HX.out]; rfl
          go_upto_region 12 with fail
          rw [← hX, ← hbx]
          clear hX hbx HB4 HBr4
          cases is with
          | false =>
            have hRR : R = (l, 0) := HRR.out.trans (scanL_stop hlt' HI.out.oks (by rw [HST2.out, if_pos (.inl rfl)]))
            have hes := HES.out.later HBL.out
            have HFIN := Lib.hid (HB0.out.trans (HBX.out.mono HB0.out.size))
            have HEE := Lib.hid hes
            clear hes b0 b1 b2 b3
            go_wp2
            rw [Exit.noGoto_ret]
            refine bodyPost_ret (results_tmp2 rfl _ _ _) rfl ?_
            rw [hRR]
            exact ⟨⟨va, vc, rfl, HEE.out, fun b off sp e => Nat.le_trans HB0.out.size (HLOW.out b off sp e)⟩, HFIN.out⟩
          | true =>
            by_cases hn : gn = l.length
            · have hid := fun w => cisdata_any N F C U (gl : Int) w HO.out
              unfold geo at hid
              have n1 : ((gn : Int) == (l.length : Int)) = true := by simp [hn]
              have n2 : ((gn : Int) != (l.length : Int)) = false := by simp [hn]
              by_cases hd : isD N (gl : Int)
              · rw [decide_eq_true hd] at hid
                have HID := Lib.hid hid
                clear hid
                go_wp2_with fail
                refine (HID.out _).mono ?_
                rintro e w5 ⟨rfl, hb⟩
                have HB5 := Lib.hid (HBX.out.trans (hb.mono HBX.out.size))
                have HBr5 := Lib.hid (HBL.out.trans (hb.mono HBL.out.size))
                have HX5 := Lib.hid ((hb.block _ (lt_of_block HX.out)).trans HX.out)
                clear hb HID c0 c1 c2 c3 b0 b1 b2 b3
                obtain ⟨c0, c1, c2, c3⟩ := HGC.out w5 HB5.out
                have b0 : w5.cell? ⟨bx, 0, none⟩ = some (.int .u64 (ge : Int)) := by rw [cell_of_blk HX5.out]; rfl
                by_cases hep : ge = ep
                · have p1 : ((ge : Int) == (ep : Int)) = true := by simp [hep]
                  have p2 : ((ge : Int) != (ep : Int)) = false := by simp [hep]
                  go_wp2_with fail
                  refine (HRD2.out _ HB5.out).mono ?_
                  rintro e w6 ⟨rfl, hb⟩
                  have HB6 := Lib.hid (HB5.out.trans (hb.mono HB5.out.size))
                  have HBr6 := Lib.hid (HBr5.out.trans (hb.mono HBr5.out.size))
                  have HX6 := Lib.hid ((hb.block _ (lt_of_block HX5.out)).trans HX5.out)
                  clear hb c0 c1 c2 c3 b0
                  by_cases he2 : e2 = 0
                  · subst he2
                    have hst := HST2.out
                    rw [if_neg (by rintro (h | h | h | h); cases h; exact h hn; exact h hd; exact h hep), if_neg (by simp)] at hst
                    have hdr : Below w6.heap.size w6 w6.drew := ⟨rfl, rfl, rfl, Nat.le_refl _, fun _ _ => rfl⟩
                    obtain ⟨cc, w7, hcv, hrd7, hb7⟩ := cv_rd d2 hd2s w6.drew
                    have hsu := sum_any _ _ _ _ w7 hrd7
                    obtain ⟨sm, hsm⟩ : ∃ sm, sm = sumN d2 := ⟨_, rfl⟩
                    rw [show addN 0 d2.data.toList = sm from hsm.symm] at hsu
                    rw [← hsm] at hst
                    have HSU := Lib.hid hsu
                    have HST3 := Lib.hid hst
                    have hX7 := (hb7.block bx (lt_of_block HX6.out)).trans HX6.out
                    have HB7 := Lib.hid (HB6.out.trans (hdr.trans hb7 |>.mono HB6.out.size))
                    have HBr7 := Lib.hid (HBr6.out.trans (hdr.trans hb7 |>.mono HBr6.out.size))
                    have HX7 := Lib.hid hX7
                    have b3 : w6.drew.cell? ⟨bx, 3, none⟩ = some (.int .u32 (gs : Int)) := by show w6.cell? ⟨bx, 3, none⟩ = _; rw [cell_of_blk HX6.out]; rfl
                    have b3' : w7.cell? ⟨bx, 3, none⟩ = some (.int .u32 (gs : Int)) := by rw [cell_of_blk hX7]; rfl
                    clear hst hsu hrd7 hb7 hX7 hdr hsm
                    obtain ⟨r, hrr⟩ : ∃ r, ((sm : Int) != (gs : Int)) = r := ⟨_, rfl⟩
                    have HRQ := Lib.hid hrr
                    have HEP := Lib.hid hep
                    have HNN := Lib.hid hn
                    have wr1 : IntKind.i64.wrap ((l.length : Int) + 1) = (l.length : Int) + 1 := IntWalk.i64_in _ (by omega)
                    have hen := fun w => centry_any ep l.length gl gs d2 w
                    unfold cheadV En.val at hen
                    dsimp only at hen
                    have HEN := Lib.hid hen
                    clear hen
                    go_wp2_with fail
                    refine wp_region_held_drew (S := fun w' => w'.cell? ⟨bx, 3, none⟩ = some (.int .u32 (gs : Int))) (by kernel_rfl) b3 (fun hHeld => ?_)
                    refine wpAnyH_take (i := 0) (oi := { dst := some 72, op := Op.move (Operand.tmp 16), type := 9, pos := "cow.go:77", after := #[], guard := none }) (v := ?_) rfl (by kernel_rfl) (by kernel_rfl) (by kernel_rfl) (fun _ _ _ h => h) (Or.inl ⟨by rfl, ?_⟩) (by assumption) ?_
                    rotate_left
                    · (intro w hSw; (try dsimp only at hSw); go_simp <;> with_reducible rfl)
                    try simp only [Act.put, List.setIfInBounds_toArray, List.set_cons_zero, List.set_cons_succ]
                    refine wpAnyH_take (i := 3) (oi := { dst := some 75, op := Op.fieldAddr 128 (Operand.tmp 14) 3, type := 0, pos := "cow.go:77", after := #[], guard := none }) (v := ?_) rfl (by kernel_rfl) (by kernel_rfl) (by kernel_rfl) (fun _ _ _ h => h) (Or.inl ⟨by rfl, ?_⟩) (by assumption) ?_
                    rotate_left
                    · (intro w hSw; (try dsimp only at hSw); go_simp <;> with_reducible rfl)
                    try simp only [Act.put, List.setIfInBounds_toArray, List.set_cons_zero, List.set_cons_succ]
                    refine wpAnyH_take (i := 4) (oi := { dst := some 76, op := Op.load 101 (Operand.tmp 75), type := 101, pos := "cow.go:77", after := #[{ on := 3, ground := Ground.data }], guard := none }) (v := ?_) rfl (by kernel_rfl) (by kernel_rfl) (by kernel_rfl) (fun _ _ _ h => h) (Or.inl ⟨by rfl, ?_⟩) (by assumption) ?_
                    rotate_left
                    · (intro w hSw; (try dsimp only at hSw); go_simp <;> with_reducible rfl)
                    try simp only [Act.put, List.setIfInBounds_toArray, List.set_cons_zero, List.set_cons_succ]
                    refine wpAnyH_ready (rs := [1]) (by kernel_rfl) (by simp) ?_
                    refine AllReadyH.cons (o := { dst := some 73, op := Op.convert 9 103 (Operand.tmp 72), type := 103, pos := "cow.go:77", after := #[{ on := 0, ground := Ground.data }], guard := none }) rfl (fun K hK => ?_) AllReadyH.nil
                    go_simp
                    refine hK _ _ (b3') (fun hHeld => ?_)
                    clear hK K
                    try simp only [Act.put, List.setIfInBounds_toArray, List.set_cons_zero, List.set_cons_succ]
                    refine wpAnyH_ready (rs := [2]) (by kernel_rfl) (by simp) ?_
                    refine AllReadyH.cons (o := { dst := some 74, op := Op.call { callee := Callee.value (Operand.func 56), args := #[Operand.tmp 73], argTypes := #[103] }, type := 101, pos := "cow.go:77", after := #[{ on := 1, ground := Ground.data }], guard := none }) rfl (fun K hK => ?_) AllReadyH.nil
                    go_simp
                    go_at_call 56
                    refine HSU.out.mono ?_
                    rintro e w8 ⟨rfl, hb⟩
                    have b3c : w8.cell? ⟨bx, 3, none⟩ = some (.int .u32 (gs : Int)) := by rw [cell_of_blk ((hb.block bx (lt_of_block HX7.out)).trans HX7.out)]; rfl
                    refine hK _ _ (b3c) (fun hHeld => ?_)
                    clear hK K
                    try simp only [Act.put, List.setIfInBounds_toArray, List.set_cons_zero, List.set_cons_succ]
                    refine wpAnyH_take (i := 5) (oi := { dst := some 77, op := Op.binOp BinOp.neq 101 (Operand.tmp 74) (Operand.tmp 76) 101, type := 4, pos := "cow.go:77", after := #[{ on := 2, ground := Ground.data }, { on := 4, ground := Ground.data }], guard := none }) (v := ?_) rfl (by kernel_rfl) (by kernel_rfl) (by kernel_rfl) (fun _ _ _ h => h) (Or.inl ⟨by rfl, ?_⟩) (by assumption) ?_
                    rotate_left
                    · (intro w hSw; (try dsimp only at hSw); go_simp <;> with_reducible rfl)
                    try simp only [Act.put, List.setIfInBounds_toArray, List.set_cons_zero, List.set_cons_succ]
                    refine wpAnyH_take (i := 6) (oi := { dst := some 71, op := Op.assign (Operand.tmp 77), type := 4, pos := "cow.go:77", after := #[{ on := 5, ground := Ground.data }, { on := 2, ground := Ground.chain }], guard := none }) (v := ?_) rfl (by kernel_rfl) (by kernel_rfl) (by kernel_rfl) (fun _ _ _ h => h) (Or.inl ⟨by rfl, ?_⟩) (by assumption) ?_
                    rotate_left
                    · (intro w hSw; (try dsimp only at hSw); go_simp <;> with_reducible rfl)
                    try simp only [Act.put, List.setIfInBounds_toArray, List.set_cons_zero, List.set_cons_succ]
                    refine wpAnyH_done (by kernel_rfl) ?_ _
                    have HB8 := Lib.hid (HB7.out.trans (hb.mono HB7.out.size))
                    have HBr8 := Lib.hid (HBr7.out.trans (hb.mono HBr7.out.size))
                    have HX8 := Lib.hid ((hb.block bx (lt_of_block HX7.out)).trans HX7.out)
                    clear hb b3 b3' b3c hcv
                    cases r with
                    | true =>
                      have hsg : sm ≠ gs := by have := HRQ.out; simp at this; omega
                      have hRR : R = (l, 0) := HRR.out.trans (scanL_stop hlt' HI.out.oks (by rw [HST3.out, if_pos hsg]))
                      have hes := HES.out.later HBr8.out
                      have HFIN := Lib.hid (HB0.out.trans (HB8.out.mono HB0.out.size))
                      have HEE := Lib.hid hes
                      clear hes hrr hsg
                      go_wp2
                      rw [Exit.noGoto_ret]
                      refine bodyPost_ret (results_tmp2 rfl _ _ _) rfl ?_
                      rw [hRR]
                      exact ⟨⟨va, vc, rfl, HEE.out, fun b off sp e => Nat.le_trans HB0.out.size (HLOW.out b off sp e)⟩, HFIN.out⟩
                    | false =>
                      have hsg : sm = gs := by have := HRQ.out; simp at this; omega
                      have hstep : cstepP N F C U S ep l.length = .ok ⟨0, ep, gl, d2⟩ := by rw [HST3.out, if_neg (fun h => h hsg), HEP.out]
                      have HSTEP := Lib.hid hstep
                      have b0 : w8.cell? ⟨bx, 0, none⟩ = some (.int .u64 (ep : Int)) := by rw [cell_of_blk HX8.out, HEP.out]; rfl
                      have b1 : w8.cell? ⟨bx, 1, none⟩ = some (.int .i64 (l.length : Int)) := by rw [cell_of_blk HX8.out, HNN.out]; rfl
                      have b2 : w8.cell? ⟨bx, 2, none⟩ = some (.int .i64 (gl : Int)) := by rw [cell_of_blk HX8.out]; rfl
                      have b3 : w8.cell? ⟨bx, 3, none⟩ = some (.int .u32 (gs : Int)) := by rw [cell_of_blk HX8.out]; rfl
                      clear hstep hsg hrr
                      go_wp2_with fail
                      refine (HEN.out _).mono ?_
                      rintro e w9 ⟨rfl, hb⟩
                      have HB9 := Lib.hid (HB8.out.trans (hb.mono HB8.out.size))
                      have HBr9 := Lib.hid (HBr8.out.trans (hb.mono HBr8.out.size))
                      have hrow : w9.ownsRow W.heap.size 55 4 (.slice va l.length vc) l.length (ents l) := owns_kept HI.out.row fun k hk => HBr9.out.block k (HI.out.row.lt k hk).2
                      have HROW := Lib.hid hrow
                      clear hb b0 b1 b2 b3 hrow
                      obtain ⟨i0, hi, hz0, hz1, hz2⟩ := info_parts Tryz.infoEnt
                      have hlo := HB9.out.size
                      go_wp2_with (at_builtin; refine wpList_append_own_at _ (o := ⟨some 83, _, _, _, _, _⟩) rfl (.tmp 78) (.tmp 82) 53 rfl W.heap.size 55 i0 _ 4 40 Tryz.underlying53 hi hz0 hz1 hz2 rfl (by omega) (.slice va l.length vc) l.length _ rfl (HROW.out.alloc _) ⟨w9.heap.size, 0, none⟩ 1 1 (ents [⟨0, ep, (gl : Int), d2⟩]) rfl rfl (ent_cells w9 ⟨0, ep, (gl : Int), d2⟩) (ents_one _) (by unfold maxLen; omega) (by omega) (by simp; omega) ?_)
                      rintro v' w' hown hg - hat
                      obtain ⟨a', c', rfl, -⟩ := owns_shape1 hown
                      have HCI2 := Lib.hid (show CI W N F C U S ep w' (.slice a' (l.length + 1) c') (l ++ [⟨0, ep, (gl : Int), d2⟩]) from by
                        refine ⟨by have := hlt'; rw [List.length_append, List.length_singleton]; omega, by rw [List.length_append, ents_append]; exact hown, ?_, fun j hj => ?_⟩
                        · exact (HB9.out.alloc HB9.out.size _).grown hg (HB9.out.alloc HB9.out.size _).size (fun k e => (HI.out.row.lt k e).1)
                        · rcases Nat.lt_or_ge j l.length with h1 | h1
                          · rw [HI.out.oks j h1, eAt_append_l h1]
                          · obtain rfl : j = l.length := by rw [List.length_append] at hj; simp at hj; omega
                            rw [HSTEP.out, eAt_append_e])
                      clear hown hg hat hlo
                      go_wp2
                      go_roundw
                      case rel => exact ⟨_, by simp, HCI2.out⟩
                      case measure => have := HCN.out; simp [intOf]; omega
                  · have he3 : (e2 == 0) = false := by simpa using he2
                    have he4 : (e2 != 0) = true := by simp [he2]
                    have hRR : R = ([], e2) := HRR.out.trans (scanL_why hlt' HI.out.oks (by rw [HST2.out, if_neg (by rintro (h | h | h | h); cases h; exact h hn; exact h hd; exact h hep), if_pos he2]) he2)
                    have HFIN := Lib.hid (HB0.out.trans (HB6.out.mono HB0.out.size))
                    clear he2
                    go_wp2
                    rw [Exit.noGoto_ret]
                    refine bodyPost_ret (results_tmp2 rfl _ _ _) rfl ?_
                    rw [hRR]
                    exact ⟨⟨none, 0, rfl, es_nil _, fun b off sp e => by cases e⟩, HFIN.out⟩
                · have p1 : ((ge : Int) == (ep : Int)) = false := by simp; omega
                  have p2 : ((ge : Int) != (ep : Int)) = true := by simp; omega
                  have hRR : R = (l, 0) := HRR.out.trans (scanL_stop hlt' HI.out.oks (by rw [HST2.out, if_pos (.inr (.inr (.inr hep)))]))
                  have hes := HES.out.later HBr5.out
                  have HFIN := Lib.hid (HB0.out.trans (HB5.out.mono HB0.out.size))
                  have HEE := Lib.hid hes
                  clear hes hep
                  go_wp2
                  rw [Exit.noGoto_ret]
                  refine bodyPost_ret (results_tmp2 rfl _ _ _) rfl ?_
                  rw [hRR]
                  exact ⟨⟨va, vc, rfl, HEE.out, fun b off sp e => Nat.le_trans HB0.out.size (HLOW.out b off sp e)⟩, HFIN.out⟩
              · rw [decide_eq_false hd] at hid
                have HID := Lib.hid hid
                clear hid
                go_wp2_with fail
                refine (HID.out _).mono ?_
                rintro e w5 ⟨rfl, hb⟩
                have HB5 := Lib.hid (HBX.out.trans (hb.mono HBX.out.size))
                have HBr5 := Lib.hid (HBL.out.trans (hb.mono HBL.out.size))
                clear hb HID c0 c1 c2 c3 b0 b1 b2 b3
                have hRR : R = (l, 0) := HRR.out.trans (scanL_stop hlt' HI.out.oks (by rw [HST2.out, if_pos (.inr (.inr (.inl hd)))]))
                have hes := HES.out.later HBr5.out
                have HFIN := Lib.hid (HB0.out.trans (HB5.out.mono HB0.out.size))
                have HEE := Lib.hid hes
                clear hes
                go_wp2
                rw [Exit.noGoto_ret]
                refine bodyPost_ret (results_tmp2 rfl _ _ _) rfl ?_
                rw [hRR]
                exact ⟨⟨va, vc, rfl, HEE.out, fun b off sp e => Nat.le_trans HB0.out.size (HLOW.out b off sp e)⟩, HFIN.out⟩
            · have n1 : ((gn : Int) == (l.length : Int)) = false := by simp; omega
              have n2 : ((gn : Int) != (l.length : Int)) = true := by simp; omega
              have hRR : R = (l, 0) := HRR.out.trans (scanL_stop hlt' HI.out.oks (by rw [HST2.out, if_pos (.inr (.inl hn))]))
              have hes := HES.out.later HBL.out
              have HFIN := Lib.hid (HB0.out.trans (HBX.out.mono HB0.out.size))
              have HEE := Lib.hid hes
              clear hes hn
              go_wp2
              rw [Exit.noGoto_ret]
              refine bodyPost_ret (results_tmp2 rfl _ _ _) rfl ?_
              rw [hRR]
              exact ⟨⟨va, vc, rfl, HEE.out, fun b off sp e => Nat.le_trans HB0.out.size (HLOW.out b off sp e)⟩, HFIN.out⟩
        · have he2 : (e1 == 0) = false := by simpa using he1
          have he3 : (e1 != 0) = true := by simp [he1]
          have hRR : R = ([], e1) := HRR.out.trans (scanL_why hlt' HI.out.oks (by rw [HST.out, if_pos he1]) he1)
          have HFIN := Lib.hid (HB0.out.trans (HB3.out.mono HB0.out.size))
          clear he1
          go_wp2
          rw [Exit.noGoto_ret]
          refine bodyPost_ret (results_tmp2 rfl _ _ _) rfl ?_
          rw [hRR]
          exact ⟨⟨none, 0, rfl, es_nil _, fun b off sp e => by cases e⟩, HFIN.out⟩
      · have hle := HI.out.le
        have hRR : R = (l, 0) := HRR.out.trans (scanL_end (by omega) HI.out.oks)
        obtain ⟨c0, c1, c2, c3⟩ := HGC.out wr hB
        have hlt2 : ¬ ((l.length : Int) < C) := hlt
        have HFIN := Lib.hid (HB0.out.trans (hB.mono HB0.out.size))
        go_wp2
        refine bodyPost_ret (results_tmp2 rfl _ _ _) rfl ?_
        rw [hRR]
        exact ⟨⟨va, vc, rfl, HES.out, fun b off sp e => Nat.le_trans HB0.out.size (HLOW.out b off sp e)⟩, HFIN.out⟩
  · rw [decide_eq_false ho] at hr
    rw [if_neg ho] at hR
    have HR := Lib.hid hr
    clear hr ho
    subst hR
    go_enter Tryz.func40, Tryz.ntmps40
    go_wp2_with fail
    rw [← HW.out]
    refine wp_scope_straight ?_
    go_wp2_with fail
    refine (HR.out _).mono ?_
    rintro e w1 ⟨rfl, hb⟩
    have HFIN := Lib.hid (HB0.out.trans (hb.mono HB0.out.size))
    clear hb
    go_wp2
    rw [Exit.noGoto_ret]
    refine bodyPost_ret (results_tmp2 rfl _ _ _) rfl ?_
    exact ⟨⟨none, 0, rfl, es_nil _, fun b off sp e => by cases e⟩, HFIN.out⟩
end Go.Proofs.YtjohgagiccndpaaGreatDoor
/-
  cow: what Scan tells of a disk on which nothing waits, appends there, and one that a fuse cuts off: mathematics.
-/
namespace Go.Proofs.YtjohgagiccndpaaGreatDoor
open Go.RowKit
set_option linter.unusedVariables false
set_option linter.unusedSimpArgs false

theorem body_chead (epoch k leaf sum : Nat) (he : epoch < 18446744073709551616) (hk : k < 4294967296) (hp : leaf < 4294967296) (hs : sum < 4294967296) :
    cbodyHd (cheadL epoch k leaf sum) = ⟨epoch, k, leaf, sum⟩ := by
  have m8 := enc_length epoch 8
  have k4 := enc_length k 4
  have p4 := enc_length leaf 4
  have e1 : hfld (cheadL epoch k leaf sum) 0 8 = epoch := by
    unfold hfld cheadL
    rw [show enc epoch 8 ++ enc k 4 ++ enc leaf 4 ++ enc sum 4 = [] ++ (enc epoch 8 ++ (enc k 4 ++ enc leaf 4 ++ enc sum 4)) from by simp [List.append_assoc], cut_enc [] (enc k 4 ++ enc leaf 4 ++ enc sum 4) epoch 8 0 rfl]
    exact enc_back' _ _ he
  have e2 : hfld (cheadL epoch k leaf sum) 8 4 = k := by
    unfold hfld cheadL
    rw [show enc epoch 8 ++ enc k 4 ++ enc leaf 4 ++ enc sum 4 = enc epoch 8 ++ (enc k 4 ++ (enc leaf 4 ++ enc sum 4)) from by simp [List.append_assoc], cut_enc _ _ _ _ _ m8]
    exact enc_back' _ _ hk
  have e3 : hfld (cheadL epoch k leaf sum) 12 4 = leaf := by
    unfold hfld cheadL
    rw [show enc epoch 8 ++ enc k 4 ++ enc leaf 4 ++ enc sum 4 = (enc epoch 8 ++ enc k 4) ++ (enc leaf 4 ++ enc sum 4) from by simp [List.append_assoc], cut_enc _ _ _ _ _ (by simp [m8, k4])]
    exact enc_back' _ _ hp
  have e4 : hfld (cheadL epoch k leaf sum) 16 4 = sum := by
    unfold hfld cheadL
    rw [show enc epoch 8 ++ enc k 4 ++ enc leaf 4 ++ enc sum 4 = (enc epoch 8 ++ enc k 4 ++ enc leaf 4) ++ (enc sum 4 ++ []) from by simp [List.append_assoc], cut_enc _ _ _ _ _ (by simp [m8, k4, p4])]
    exact enc_back' _ _ hs
  unfold cbodyHd
  rw [e1, e2, e3, e4]
theorem dec_chead (epoch k leaf sum : Nat) (he : epoch < 18446744073709551616) (hk : k < 4294967296) (hp : leaf < 4294967296) (hs : sum < 4294967296) :
    cdecB (cheadB epoch k leaf sum) = (⟨epoch, k, leaf, sum⟩, true) := by
  unfold cdecB cdecP cheadB
  have h := make_open (make_chead epoch k leaf sum)
  rw [h]
  rw [if_pos ⟨rfl, cheadL_length _ _ _ _⟩]
  dsimp only
  rw [body_chead _ _ _ _ he hk hp hs]
theorem dec_czero : cdecB (secOf 0) = (cnoHd, false) := by
  have h : openP 8 (secOf 0).data.toList = ([], 9) := by decide +kernel
  unfold cdecB cdecP
  rw [h, if_neg (by simp)]

theorem chd_flat {N F C U : Int} {L : List ByteArray} {did k : Nat} (ho : okG N F C U) (hL : (L.length : Int) = 6 + N + (nodes N F C U : Int) + 2 * C) (hk : (k : Int) < C) : chdAt N F C U (flat L did) k = (lAt L (hIx N F C U k), 0) := by
  have hn := ho.1
  have a1 : areaAt N F C U 0 (2 * (k : Int)) = ((hIx N F C U k : Nat) : Int) := by
    unfold areaAt hIx
    rw [if_pos ⟨ho, .inl rfl, by omega, by unfold sec; rw [if_pos rfl]; omega⟩]
    omega
  unfold chdAt
  rw [a1, flat_read _ _ _ (by unfold hIx; omega)]
theorem col_flat {N F C U : Int} {L : List ByteArray} {did k : Nat} (ho : okG N F C U) (hL : (L.length : Int) = 6 + N + (nodes N F C U : Int) + 2 * C) (hk : (k : Int) < C) : colAt N F C U (flat L did) k = (lAt L (hIx N F C U k + 1), 0) := by
  have hn := ho.1
  have a2 : areaAt N F C U 0 (2 * (k : Int) + 1) = ((hIx N F C U k + 1 : Nat) : Int) := by
    unfold areaAt hIx
    rw [if_pos ⟨ho, .inl rfl, by omega, by unfold sec; rw [if_pos rfl]; omega⟩]
    omega
  unfold colAt
  rw [a2, flat_read _ _ _ (by unfold hIx; omega)]

/-- The disk has these entries of one epoch, and behind them no head. -/
structure CHolds (N F C U : Int) (L : List ByteArray) (ep : Nat) (l : List En) : Prop where
  few : (l.length : Int) ≤ C
  ent : ∀ i, i < l.length → (eAt l i).tag = 0 ∧ (eAt l i).epoch = ep ∧ isD N (eAt l i).place ∧ lAt L (hIx N F C U i) = cheadB ep i (eAt l i).place.toNat (sumN (eAt l i).old) ∧ lAt L (hIx N F C U i + 1) = (eAt l i).old
  stop : (l.length : Int) < C → lAt L (hIx N F C U l.length) = secOf 0

theorem cstep_zero {N F C U : Int} {L : List ByteArray} {did k ep : Nat} (ho : okG N F C U) (hL : (L.length : Int) = 6 + N + (nodes N F C U : Int) + 2 * C) (hk : (k : Int) < C) (hz : lAt L (hIx N F C U k) = secOf 0) : cstepP N F C U (flat L did) ep k = .stop := by
  unfold cstepP
  rw [chd_flat ho hL hk, hz]
  dsimp only
  rw [if_neg (by simp), dec_czero, if_pos (.inl rfl)]
theorem cstep_ent {N F C U : Int} {L : List ByteArray} {did k ep : Nat} {l : List En} (ho : okG N F C U) (hL : (L.length : Int) = 6 + N + (nodes N F C U : Int) + 2 * C) (h : CHolds N F C U L ep l) (hk : k < l.length) (he : ep < 18446744073709551616) :
    cstepP N F C U (flat L did) ep k = .ok (eAt l k) := by
  have hC := ho.2.2.2.2.2.1
  have hN := ho.2.1
  have hfew := h.few
  obtain ⟨h1, h2, h3, h4, h5⟩ := h.ent k hk
  have d1 : cdecB (lAt L (hIx N F C U k)) = (⟨ep, k, (eAt l k).place.toNat, sumN (eAt l k).old⟩, true) := by
    rw [h4]; exact dec_chead _ _ _ _ he (by omega) (by have := h3.1; have := h3.2; omega) (addN_lt _ _)
  unfold cstepP
  rw [chd_flat ho hL (by omega), col_flat ho hL (by omega)]
  dsimp only
  rw [d1, h5]
  dsimp only
  have hpl : (((eAt l k).place.toNat : Nat) : Int) = (eAt l k).place := by have := h3.1; omega
  rw [if_neg (by simp), if_neg (by
    rintro (hb | hb | hb | hb)
    · cases hb
    · exact hb rfl
    · exact hb (by rw [hpl]; exact h3)
    · exact hb rfl), if_neg (by simp), if_neg (by simp), hpl, ← h1, ← h2]
theorem cscan_holds {N F C U : Int} {L : List ByteArray} {did ep : Nat} {l : List En} (ho : okG N F C U) (hL : (L.length : Int) = 6 + N + (nodes N F C U : Int) + 2 * C) (h : CHolds N F C U L ep l) (he : ep < 18446744073709551616) :
    cscanP N F C U (flat L did) ep = (l, 0) := by
  have hf := h.few
  unfold cscanP
  rw [if_pos ho, seqP_holds _ l C.toNat 0 (by omega) (by omega) (fun i _ hi => cstep_ent ho hL h hi he) (fun hi => cstep_zero ho hL (by omega) (h.stop (by omega)))]
  rw [List.drop_zero, scanL_ok _ (by simp), List.map_map, show ((fun x : En × Int => x.1) ∘ fun e : En => (e, (0 : Int))) = id from rfl, List.map_id]
/-- Of another epoch there is nothing. -/
theorem cscan_other {N F C U : Int} {L : List ByteArray} {did ep ep0 : Nat} {l : List En} (ho : okG N F C U) (hL : (L.length : Int) = 6 + N + (nodes N F C U : Int) + 2 * C) (h : CHolds N F C U L ep l) (hl : 0 < l.length) (he : ep < 18446744073709551616) (hep : ep0 ≠ ep) :
    cscanP N F C U (flat L did) ep0 = ([], 0) := by
  have hC := ho.2.2.2.2.2.1
  have hN := ho.2.1
  have hfew := h.few
  obtain ⟨g1, g2, g3, g4, g5⟩ := h.ent 0 hl
  have d0 : cdecB (lAt L (hIx N F C U 0)) = (⟨ep, 0, (eAt l 0).place.toNat, sumN (eAt l 0).old⟩, true) := by
    rw [g4]; exact dec_chead _ _ _ _ he (by omega) (by have := g3.1; have := g3.2; omega) (addN_lt _ _)
  have hs : cstepP N F C U (flat L did) ep0 0 = .stop := by
    unfold cstepP
    rw [chd_flat ho hL (k := 0) (by omega), d0]
    dsimp only
    rw [if_neg (by simp), if_pos (.inr (.inr (.inr (fun e => hep e.symm))))]
  obtain ⟨u, hu⟩ : ∃ u, C.toNat = u + 1 := ⟨C.toNat - 1, by omega⟩
  unfold cscanP
  rw [if_pos ho, hu]
  unfold seqP
  rw [hs]
  rfl

/-! ### appends -/
structure CFresh (N F C U : Int) (L : List ByteArray) (ep : Nat) (l : List En) : Prop where
  holds : CHolds N F C U L ep l
  zeros : ∀ j : Nat, l.length ≤ j → (j : Int) < C → lAt L (hIx N F C U j) = secOf 0
  len : (L.length : Int) = 6 + N + (nodes N F C U : Int) + 2 * C
  sizes : ∀ i : Nat, i < L.length → (lAt L i).size = 64

theorem CFresh.new {N F C U : Int} {ep : Nat} (ho : okG N F C U) : CFresh N F C U (List.replicate (6 + N.toNat + nodes N F C U + 2 * C.toNat) (secOf 0)) ep [] := by
  have hn := ho.1
  have hu := ho.2.2.2.2
  have hz : ∀ i : Nat, i < 6 + N.toNat + nodes N F C U + 2 * C.toNat → lAt (List.replicate (6 + N.toNat + nodes N F C U + 2 * C.toNat) (secOf 0)) i = secOf 0 := fun i hi => lAt_rep hi
  have hh : ∀ j : Nat, (j : Int) < C → lAt (List.replicate (6 + N.toNat + nodes N F C U + 2 * C.toNat) (secOf 0)) (hIx N F C U j) = secOf 0 := fun j hj => hz _ (by unfold hIx; omega)
  refine ⟨⟨by simp; omega, fun i hi => by simp at hi, fun h => hh _ h⟩, fun j _ hj => hh j hj, by simp; omega, fun i hi => ?_⟩
  rw [hz i (by simpa using hi)]; rfl

theorem CHolds.old {N F C U : Int} {L : List ByteArray} {ep : Nat} {l : List En} (h : CHolds N F C U L ep l) (s : ByteArray) : CHolds N F C U (L.set (hIx N F C U l.length + 1) s) ep l := by
  refine ⟨h.few, fun i hi => ?_, fun hl => ?_⟩
  · obtain ⟨h1, h2, h3, h4, h5⟩ := h.ent i hi
    refine ⟨h1, h2, h3, ?_, ?_⟩
    · rw [lAt_set_ne hIx_odd]; exact h4
    · rw [lAt_set_ne (fun e => by have := (hIx_inj (N := N) (F := F) (C := C) (U := U)).1 (show hIx N F C U l.length = hIx N F C U i from by omega); omega)]; exact h5
  · rw [lAt_set_ne hIx_odd]; exact h.stop hl
theorem CFresh.both {N F C U : Int} {L : List ByteArray} {ep i0 : Nat} {l : List En} (h : CFresh N F C U L ep l) (hk : (l.length : Int) < C) (hm : isD N (i0 : Int)) (hn : 1 ≤ N) :
    CFresh N F C U ((L.set (hIx N F C U l.length + 1) (lAt L (6 + i0))).set (hIx N F C U l.length) (cheadB ep l.length i0 (sumN (lAt L (6 + i0))))) ep (l ++ [⟨0, ep, (i0 : Int), lAt L (6 + i0)⟩]) := by
  have hL := h.len
  have hx : hIx N F C U l.length + 1 < L.length := by unfold hIx; omega
  have hpn : 6 + i0 < L.length := by have := hm.2; omega
  have hz : ∀ j : Nat, l.length + 1 ≤ j → (j : Int) < C → lAt ((L.set (hIx N F C U l.length + 1) (lAt L (6 + i0))).set (hIx N F C U l.length) (cheadB ep l.length i0 (sumN (lAt L (6 + i0))))) (hIx N F C U j) = secOf 0 := fun j hj hu => by
    rw [lAt_set_ne (fun e => by have := hIx_inj.1 e; omega), lAt_set_ne hIx_odd]
    exact h.zeros j (by omega) hu
  refine ⟨⟨by simp; omega, fun i hi => ?_, fun hl => by rw [List.length_append] at hl ⊢; exact hz _ (by simp) (by simpa using hl)⟩, fun j hj hu => hz j (by simpa using hj) hu, by simpa using hL, fun i hi => ?_⟩
  · rw [List.length_append] at hi
    rcases Nat.lt_or_ge i l.length with hil | hil
    · obtain ⟨h1, h2, h3, h4, h5⟩ := h.holds.ent i hil
      rw [eAt_append_lt hil]
      refine ⟨h1, h2, h3, ?_, ?_⟩
      · rw [lAt_set_ne (fun e => by have := hIx_inj.1 e; omega), lAt_set_ne hIx_odd]; exact h4
      · rw [lAt_set_ne (fun e => hIx_odd e.symm), lAt_set_ne (fun e => by have := (hIx_inj (N := N) (F := F) (C := C) (U := U)).1 (show hIx N F C U l.length = hIx N F C U i from by omega); omega)]; exact h5
    · obtain rfl : i = l.length := by simp at hi; omega
      rw [eAt_append_eq]
      refine ⟨rfl, rfl, hm, ?_, ?_⟩
      · rw [lAt_set_eq (by simp; omega)]; rfl
      · rw [lAt_set_ne (fun e => by omega), lAt_set_eq hx]
  · have hi' : i < L.length := by simpa using hi
    by_cases e1 : i = hIx N F C U l.length
    · rw [e1, lAt_set_eq (by simp; omega)]; exact cheadB_size _ _ _ _
    · rw [lAt_set_ne (fun e => e1 e.symm)]
      by_cases e2 : i = hIx N F C U l.length + 1
      · rw [e2, lAt_set_eq hx]; exact h.sizes _ hpn
      · rw [lAt_set_ne (fun e => e2 e.symm)]; exact h.sizes i hi'

theorem cap_no {N F C U : Int} {S : DS} {k : Int} {ep : Nat} {i : Int} (ho : okG N F C U) (h : ¬ (0 ≤ k ∧ k < C ∧ isD N i)) : ∃ c, c ≠ 0 ∧ capP N F C U S k ep i = ⟨c, noEn, S⟩ := by
  unfold capP
  rw [if_neg (fun h => h ho)]
  by_cases h1 : k < 0 ∨ C ≤ k
  · exact ⟨11, by omega, by rw [if_pos h1]⟩
  · exact ⟨3, by omega, by rw [if_neg h1, if_pos (fun hm => h ⟨by omega, by omega, hm⟩)]⟩

theorem flat_cap {N F C U : Int} {L : List ByteArray} {did k i0 : Nat} {epoch : Nat} (ho : okG N F C U) (hL : (L.length : Int) = 6 + N + (nodes N F C U : Int) + 2 * C) (hk : (k : Int) < C) (hm : isD N (i0 : Int)) (hs : (lAt L (6 + i0)).size = 64) :
    capP N F C U (flat L did) (k : Int) epoch (i0 : Int) = ⟨0, ⟨0, epoch, i0, lAt L (6 + i0)⟩, flat ((L.set (hIx N F C U k + 1) (lAt L (6 + i0))).set (hIx N F C U k) (cheadB epoch k i0 (sumN (lAt L (6 + i0))))) (did + 4)⟩ := by
  have hn := ho.1
  have hp : 6 + i0 < L.length := by have := hm.2; have := ho.2.2.2.2.1; omega
  have a1 : areaAt N F C U 0 (2 * (k : Int)) = ((hIx N F C U k : Nat) : Int) := by
    unfold areaAt hIx
    rw [if_pos ⟨ho, .inl rfl, by omega, by unfold sec; rw [if_pos rfl]; omega⟩]
    omega
  have a2 : areaAt N F C U 0 (2 * (k : Int) + 1) = ((hIx N F C U k + 1 : Nat) : Int) := by
    unfold areaAt hIx
    rw [if_pos ⟨ho, .inl rfl, by omega, by unfold sec; rw [if_pos rfl]; omega⟩]
    omega
  have a3 : (6 : Int) + (i0 : Int) = ((6 + i0 : Nat) : Int) := by omega
  unfold capP
  rw [if_neg (fun h => h ho), if_neg (by omega), if_neg (fun h => h hm), a3, flat_read L did (6 + i0) hp]
  simp only [ne_eq, not_true_eq_false, if_false, Int.toNat_natCast, a1, a2]
  rw [flat_store _ _ _ _ (by unfold hIx; omega) hs]
  simp only [not_true_eq_false, if_false]
  rw [flat_store _ _ _ _ (by simp; unfold hIx; omega) (cheadB_size _ _ _ _)]
  simp only [not_true_eq_false, if_false]

/-- An append where nothing waits: one more entry, or nothing. -/
theorem cap_step {N F C U : Int} {L : List ByteArray} {did ep : Nat} {l : List En} (ho : okG N F C U) (h : CFresh N F C U L ep l) (i : Int) :
    ∃ (c : Int) (en : En) (L' : List ByteArray) (did' : Nat), capP N F C U (flat L did) (l.length : Int) ep i = ⟨c, en, flat L' did'⟩ ∧ did' ≤ did + 4 ∧ L'.length = L.length ∧ ((c = 0 ∧ CFresh N F C U L' ep (l ++ [en])) ∨ (c ≠ 0 ∧ L' = L)) := by
  by_cases hc : (l.length : Int) < C ∧ isD N i
  · obtain ⟨i0, rfl⟩ : ∃ i0 : Nat, i = i0 := ⟨i.toNat, by have := hc.2.1; omega⟩
    have hpn : 6 + i0 < L.length := by have := hc.2.2; have := h.len; have := ho.2.2.2.2.1; omega
    refine ⟨0, _, _, _, flat_cap ho h.len hc.1 hc.2 (h.sizes _ hpn), Nat.le_refl _, by simp, .inl ⟨rfl, h.both hc.1 hc.2 ho.1⟩⟩
  · obtain ⟨c, h1, h2⟩ := cap_no (S := flat L did) (k := (l.length : Int)) (ep := ep) (i := i) ho (fun h => hc ⟨h.2.1, h.2.2⟩)
    exact ⟨c, _, L, did, h2, by omega, rfl, .inr ⟨h1, rfl⟩⟩

/-- An append with a fuse, and a crash behind it: what there was, or one entry more; and that one if it went well. -/
theorem cap_crash {N F C U : Int} {L : List ByteArray} {did ep i0 : Nat} {l : List En} (ho : okG N F C U) (h : CFresh N F C U L ep l) (hm : isD N (i0 : Int)) (m : Int) (h0 : 0 ≤ m) (K : List Bool) :
    ∃ (L' : List ByteArray) (did' : Nat) (l' : List En), ((capP N F C U ((flat L did).fuse m) (l.length : Int) ep (i0 : Int)).ds.crash K).up = (0, flat L' did') ∧ did' ≤ did + 4 ∧ L'.length = L.length ∧ CHolds N F C U L' ep l' ∧ (∀ i : Nat, i < L'.length → (lAt L' i).size = 64) ∧ (l' = l ∨ ∃ x, l' = l ++ [x]) ∧
      ((capP N F C U ((flat L did).fuse m) (l.length : Int) ep (i0 : Int)).why = 0 → l' = l ++ [(capP N F C U ((flat L did).fuse m) (l.length : Int) ep (i0 : Int)).en]) := by
  have hf : (flat L did).fuse m = ⟨L, [], m, false, did⟩ := by unfold DS.fuse flat; rw [if_pos h0]
  rw [hf]
  by_cases hk : (l.length : Int) < C
  · have hn := ho.1
    have hpn : 6 + i0 < L.length := by have := hm.2; have := h.len; have := ho.2.2.2.2.1; omega
    have hsz := h.sizes _ hpn
    have hx : hIx N F C U l.length + 1 < L.length := by have := h.len; unfold hIx; omega
    have a1 : areaAt N F C U 0 (2 * (l.length : Int)) = ((hIx N F C U l.length : Nat) : Int) := by
      unfold areaAt hIx
      rw [if_pos ⟨ho, .inl rfl, by omega, by unfold sec; rw [if_pos rfl]; omega⟩]
      omega
    have a2 : areaAt N F C U 0 (2 * (l.length : Int) + 1) = ((hIx N F C U l.length + 1 : Nat) : Int) := by
      unfold areaAt hIx
      rw [if_pos ⟨ho, .inl rfl, by omega, by unfold sec; rw [if_pos rfl]; omega⟩]
      omega
    have a3 : (6 : Int) + (i0 : Int) = ((6 + i0 : Nat) : Int) := by omega
    have hr : DS.read ⟨L, [], m, false, did⟩ ((6 + i0 : Nat) : Int) = (lAt L (6 + i0), 0) := by
      unfold DS.read
      rw [if_neg (by simp), if_pos ⟨by omega, by show ((6 + i0 : Nat) : Int) < (L.length : Int); omega⟩]
      simp only [look, List.length_nil, Int.toNat_natCast]
    have hB := h.both hk hm hn
    unfold capP
    rw [if_neg (fun h => h ho), if_neg (by omega), if_neg (fun h => h hm), a3, hr, a1, a2]
    simp only [ne_eq, not_true_eq_false, if_false, Int.toNat_natCast]
    rw [store_fuse L did _ m _ h0 hx hsz]
    by_cases m0 : m = 0
    · rw [if_pos m0]
      simp only [show ¬ (5 : Int) = 0 from by omega, not_false_eq_true, if_true]
      rw [up_off]
      exact ⟨L, did, l, rfl, by omega, rfl, h.holds, h.sizes, .inl rfl, fun h => h.elim⟩
    · rw [if_neg m0]
      by_cases m1 : m = 1
      · rw [if_pos m1]
        simp only [show ¬ (5 : Int) = 0 from by omega, not_false_eq_true, if_true]
        rw [up_off]
        rcases appK_one L (hIx N F C U l.length + 1) (lAt L (6 + i0)) K with e | e
        · exact ⟨L, did + 1, l, by rw [List.length_singleton, e], by omega, rfl, h.holds, h.sizes, .inl rfl, fun h => h.elim⟩
        · exact ⟨_, did + 1, l, by rw [List.length_singleton, e], by omega, by simp, h.holds.old _, sizes_set h.sizes hsz, .inl rfl, fun h => h.elim⟩
      · rw [if_neg m1]
        simp only [not_true_eq_false, if_false]
        rw [store_fuse _ _ _ (m - 2) _ (by omega) (by simp; omega) (cheadB_size _ _ _ _)]
        by_cases m2 : m - 2 = 0
        · rw [if_pos m2]
          simp only [show ¬ (5 : Int) = 0 from by omega, not_false_eq_true, if_true]
          rw [up_off]
          exact ⟨_, _, l, rfl, by omega, by simp [appK], h.holds.old _, sizes_set h.sizes hsz, .inl rfl, fun h => h.elim⟩
        · rw [if_neg m2]
          by_cases m3 : m - 2 = 1
          · rw [if_pos m3]
            simp only [show ¬ (5 : Int) = 0 from by omega, not_false_eq_true, if_true]
            rw [up_off]
            rcases appK_one (L.set (hIx N F C U l.length + 1) (lAt L (6 + i0))) (hIx N F C U l.length) (cheadB ep l.length i0 (sumN (lAt L (6 + i0)))) K with e | e
            · exact ⟨_, _, l, by rw [List.length_singleton, e], by omega, by simp, h.holds.old _, sizes_set h.sizes hsz, .inl rfl, fun h => h.elim⟩
            · exact ⟨_, _, _, by rw [List.length_singleton, e], by omega, by simp, hB.holds, hB.sizes, .inr ⟨_, rfl⟩, fun h => h.elim⟩
          · rw [if_neg m3]
            simp only [not_true_eq_false, if_false]
            rw [up_off]
            exact ⟨_, _, _, rfl, by omega, by simp [appK], hB.holds, hB.sizes, .inr ⟨_, rfl⟩, fun _ => rfl⟩
  · obtain ⟨c, h1, h2⟩ := cap_no (S := ⟨L, [], m, false, did⟩) (k := (l.length : Int)) (ep := ep) (i := (i0 : Int)) ho (fun h => hk h.2.1)
    rw [h2]
    dsimp only
    rw [up_off]
    exact ⟨L, did, l, rfl, by omega, rfl, h.holds, h.sizes, .inl rfl, fun h => absurd h h1⟩
end Go.Proofs.YtjohgagiccndpaaGreatDoor
/-
  cow: Find; an append and a scan on a disk with a list beside it; what the fixed calls of layer 17 come to.
-/
namespace Go.Proofs.YtjohgagiccndpaaGreatDoor
open Go.RowKit
set_option linter.unusedVariables false
set_option linter.unusedSimpArgs false

set_option maxRecDepth 20000 in
set_option maxHeartbeats 2000000 in
theorem cfind_any (a : Option Addr) (n cap : Nat) (X : List En) (place : Int) (w : World) (h : Es w a n cap X) :
    Calls Tryz.prog 74 #[.slice a n cap, .int .i64 place] w fun e w' => e = .returned (findV (findE X place)) ∧ Below w.heap.size w w' := by
  have hln := h.len
  have hle := h.le
  have hcx : (cap : Int) ≤ 9223372036854775807 := by have := h.cm; unfold maxLen at this; omega
  obtain ⟨r, hr⟩ : ∃ r, r = findE X place := ⟨_, rfl⟩
  rw [← hr]
  have HR := Lib.hid hr
  have HH := Lib.hid h
  have HL := Lib.hid hln
  clear hr h hln
  go_enter Tryz.func74, Tryz.ntmps74
  go_wp2
  go_loopw [10] (fun i wr => ∃ k : Nat, k ≤ n ∧ i = .int .i64 k ∧ Below w.heap.size w wr ∧ ∀ j, j < k → (eAt X j).place ≠ place) (fun i _ => n - (intOf i).toNat)
  case atStart => exact ⟨0, by omega, rfl, Below.refl _ _, fun j hj => by omega⟩
  case round =>
    obtain ⟨k, hk, rfl, hB, hall⟩ := hrel
    have HALL := Lib.hid hall
    clear hall
    by_cases hlt : k < n
    · have i1 : (0 : Int) ≤ (k : Int) := by omega
      have i2 : (k : Int) < (n : Int) := by omega
      obtain ⟨b, off, rfl, hbl, hcl⟩ := (HH.out.later hB).at0 (by omega)
      obtain ⟨c0, c1, c2, c3⟩ := hcl k hlt
      have HB := Lib.hid (hB.alloc hB.size (.cells #[.int .u64 ((eAt X k).tag : Int), .int .u64 ((eAt X k).epoch : Int), .int .i64 (eAt X k).place, .string (eAt X k).old] 55))
      clear hcl hB
      by_cases h2 : (eAt X k).place = place
      · have hrf : r = some (eAt X k).old := HR.out.trans (findE_some (by have := HL.out; omega) h2 HALL.out)
        have h2' : ((eAt X k).place == place) = true := by simpa using h2
        generalize (eAt X k).place = x2 at *
        generalize (eAt X k).old = x3 at *
        generalize ((eAt X k).tag : Int) = x0 at *
        generalize ((eAt X k).epoch : Int) = x1 at *
        subst hrf
        clear h2
        go_wp2
        refine bodyPost_ret (results_tmp2 rfl _ _ _) rfl ?_
        exact ⟨rfl, HB.out⟩
      · have h2' : ((eAt X k).place == place) = false := by simpa using h2
        have H2 := Lib.hid h2
        have HX := Lib.hid (show ∀ j, j < k + 1 → (eAt X j).place ≠ place from fun j hj => by
          rcases Nat.lt_or_ge j k with h1 | h1
          · exact HALL.out j h1
          · obtain rfl : j = k := by omega
            exact h2)
        clear h2
        generalize (eAt X k).place = x2 at *
        generalize (eAt X k).old = x3 at *
        generalize ((eAt X k).tag : Int) = x0 at *
        generalize ((eAt X k).epoch : Int) = x1 at *
        go_wp2
        go_roundw
        case rel => exact ⟨k + 1, by omega, by go_num, HB.out, HX.out⟩
        case measure => simp [intOf]; omega
    · obtain rfl : k = n := by omega
      have hrt : r = none := HR.out.trans (findE_none (fun i hi => HALL.out i (by have := HL.out; omega)))
      subst hrt
      have i2 : ¬ (k : Int) < (k : Int) := by omega
      go_wp2
      refine bodyPost_ret (results_tmp2 rfl _ _ _) rfl ?_
      exact ⟨rfl, hB⟩


section
variable {w0 w w' : World} {n1 p : Nat} {S S' : DS} {l : List En} {v : Value}
theorem KS.cscan {N F C U : Int} {L : List ByteArray} {did ep : Nat} {l' : List En} (h : KS w0 n1 w p (flat L did) l v) (hs : ∀ x : Int, ((flat L did).read x).1.size ≤ 140737488355328) (hd : did ≤ 1000000) (hl : L.length ≤ 1200) (hh : cscanP N F C U (flat L did) ep = (l', 0)) :
    Calls Tryz.prog 40 #[.pointer (some ⟨p, 0, none⟩), geo N F C U, .int .u64 (ep : Int)] w fun e w' => (∃ a c, e = .returned (.tuple #[.slice a l'.length c, .int .i64 0]) ∧ Es w' a l'.length c l') ∧ KS w0 n1 w' p (flat L did) l v ∧ Below w.heap.size w w' :=
  h.read (R := fun e w' => ∃ a c, e = .returned (.tuple #[.slice a l'.length c, .int .i64 0]) ∧ Es w' a l'.length c l') fun v1 v2 hp => by
    refine (cscan_any _ p v1 v2 (flat L did) N F C U ep w hp did (flat_ok' L did hl) hd hs).mono ?_
    rintro e w' ⟨⟨a, c, h1, h2, _⟩, h3⟩
    rw [hh] at h1 h2
    exact ⟨⟨a, c, h1, h2⟩, h3⟩
theorem csizes_ok {N F C U : Int} {L : List ByteArray} {ep : Nat} {l : List En} (h : CFresh N F C U L ep l) (did : Nat) : ∀ x : Int, ((flat L did).read x).1.size ≤ 140737488355328 := flat_sizes h.sizes did
theorem cfuse_sizes {N F C U : Int} {L : List ByteArray} {ep : Nat} {l : List En} (h : CFresh N F C U L ep l) (did : Nat) (m : Int) : ∀ x : Int, (((flat L did).fuse m).read x).1.size ≤ 140737488355328 := fun x => by
  have e : ((flat L did).fuse m).read x = (flat L did).read x := by unfold DS.read DS.fuse flat DS.has; rfl
  rw [e]
  exact csizes_ok h did x
theorem cap_calls {N F C U : Int} {L : List ByteArray} {did ep : Nat} {l : List En} (ho : okG N F C U) (hf : CFresh N F C U L ep l) (hd : did + 4 ≤ 1000000) (hl : L.length ≤ 1200) (he : ep < 18446744073709551616) (i : Int) :
    ∃ (c : Int) (en : En) (L' : List ByteArray) (did' : Nat), did' ≤ did + 4 ∧ L'.length = L.length ∧ ((c = 0 ∧ CFresh N F C U L' ep (l ++ [en])) ∨ (c ≠ 0 ∧ L' = L)) ∧
      ∀ (B p : Nat) (v1 v2 : Value) (w : World), PD w B p v1 v2 (flat L did) → B ≤ w.heap.size → Calls Tryz.prog 39 #[.pointer (some ⟨p, 0, none⟩), geo N F C U, .int .i64 (l.length : Int), .int .u64 (ep : Int), .int .i64 i] w fun e w' => e = .returned (.tuple #[en.val, .int .i64 c]) ∧ PP w B p v1 v2 (flat L' did') w' := by
  obtain ⟨c, en, L', did', ha, h1, h2, h3⟩ := cap_step (did := did) ho hf i
  refine ⟨c, en, L', did', h1, h2, h3, fun B p v1 v2 w hp hz => ?_⟩
  have := cappend_any B p v1 v2 (flat L did) N F C U (l.length : Int) ep i w hp hz did (flat_ok' L did hl) hd he (fun T x hT => by subst hT; exact csizes_ok hf did x)
  rw [ha] at this
  exact this
end

/-! ### the fixed calls -/
theorem kn17_ok : okG 2 2 2 1 := by unfold okG; omega
theorem kn17_nodes : nodes 2 2 2 1 = 3 := by decide +kernel
theorem kn17_size : sizeOf' 2 2 2 1 0 = 15 := by
  unfold sizeOf'
  rw [if_pos ⟨kn17_ok, .inl rfl⟩, kn17_nodes]
  rfl
theorem kn17_ix : hIx 2 2 2 1 0 = 11 := by unfold hIx; rw [kn17_nodes]; rfl
def k17L : List ByteArray := ((List.replicate 15 (secOf 0)).set 12 (secOf 0)).set 11 (cheadB 3 0 1 (sumN (secOf 0)))
theorem k17_len : k17L.length = 15 := by simp [k17L]
theorem k17_app : capP 2 2 2 1 (ds0 15) 0 3 1 = ⟨0, ⟨0, 3, 1, secOf 0⟩, flat k17L 4⟩ := by
  have h := flat_cap (N := 2) (F := 2) (C := 2) (U := 1) (L := List.replicate 15 (secOf 0)) (did := 0) (k := 0) (i0 := 1) (epoch := 3) kn17_ok (by rw [kn17_nodes]; simp) (by omega) ⟨by omega, by omega⟩ (by rw [lAt_rep (by omega)]; exact secOf_size 0)
  rw [kn17_ix, lAt_rep (by omega)] at h
  exact h
theorem k17_fresh : CFresh 2 2 2 1 k17L 3 [⟨0, 3, 1, secOf 0⟩] := by
  have h0 := CFresh.new (ep := 3) kn17_ok
  rw [kn17_nodes] at h0
  have h1 := h0.both (i0 := 1) (by show ((0 : Nat) : Int) < 2; omega) ⟨by omega, by omega⟩ (by omega)
  rw [lAt_rep (by decide)] at h1
  have e : hIx 2 2 2 1 ([] : List En).length = 11 := kn17_ix
  rw [e] at h1
  exact h1
theorem k17_scan3 : cscanP 2 2 2 1 (flat k17L 4) 3 = ([⟨0, 3, 1, secOf 0⟩], 0) := cscan_holds kn17_ok k17_fresh.len k17_fresh.holds (by omega)
theorem k17_scan4 : cscanP 2 2 2 1 (flat k17L 4) 4 = ([], 0) := cscan_other kn17_ok k17_fresh.len k17_fresh.holds (by simp) (by omega) (by omega)
theorem k17_find : findE [⟨0, 3, 1, secOf 0⟩] 1 = some (secOf 0) := rfl
end Go.Proofs.YtjohgagiccndpaaGreatDoor

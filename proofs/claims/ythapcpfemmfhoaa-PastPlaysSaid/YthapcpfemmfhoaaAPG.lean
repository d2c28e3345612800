/-
  Pasts: the walk of PastPlays.
-/
import Derived.Test.YthapcpfemmfhoaaAPF
namespace Go.Proofs.Ythapcpfemmfhoaa
namespace Ap
open Go.RowKit
set_option linter.unusedVariables false
set_option linter.unusedSimpArgs false

/-- Both pasts, apart from each other and from what was there before. -/
structure PR (w : World) (p q : Nat) (F G : Nat → Prop) (S : PS) (B : Nat) : Prop where
  pm : PM w p F S
  rm : RM w q G S
  apart : ∀ k, F k → ¬ G k
  fl : ∀ k, F k → B ≤ k
  gl : ∀ k, G k → B ≤ k

theorem PM.lt {w p F S} (h : PM w p F S) : ∀ k, F k → k < w.heap.size := by obtain ⟨_, _, _, _, _, _, hl⟩ := h; exact hl
theorem RM.lt {w p F S} (h : RM w p F S) : ∀ k, F k → k < w.heap.size := by obtain ⟨_, _, _, _, _, _, _, hl⟩ := h; exact hl

theorem PR.below {w w' : World} {p q F G S B} (h : PR w p q F G S B) (hb : Below w.heap.size w w') : PR w' p q F G S B := ⟨h.pm.below hb, h.rm.below hb, h.apart, h.fl, h.gl⟩

/-- Behind the program's act the document's past is as it was. -/
theorem PR.mid {w w1 : World} {p q F G S S' B} (h : PR w p q F G S B) (h1 : PQ w F p S' w1) : RM w1 q G S := by
  obtain ⟨F', hp, hf, _⟩ := h1
  exact h.rm.fr hf fun k hk hk2 => h.apart k hk2 hk

theorem PR.after {w w1 w2 : World} {p q F G S S' B} (h : PR w p q F G S B) (hB : B ≤ w.heap.size) (h1 : PQ w F p S' w1) (h2 : RQ w1 G q S' w2) :
    (∃ F' G', PR w2 p q F' G' S' B ∧ ∀ k, F' k ∨ G' k → F k ∨ G k ∨ w.heap.size ≤ k) ∧ Below B w w2 ∧ ∀ b, b < w.heap.size → ¬ F b → ¬ G b → w2.heap[b]? = w.heap[b]? := by
  obtain ⟨F', hp, hf, ht⟩ := h1
  obtain ⟨G', hq, hf2, ht2⟩ := h2
  have hs := hf.size
  have hd1 : ∀ k, F' k → ¬ G k := fun k hk hk2 => by
    rcases ht k hk with e | e
    · exact h.apart k e hk2
    · have := h.rm.lt k hk2; omega
  refine ⟨⟨F', G', ⟨hp.fr hf2 hd1, hq, fun k hk hk2 => ?_, fun k hk => ?_, fun k hk => ?_⟩, fun k hk => ?_⟩, (hf.below h.fl hB).trans (hf2.below h.gl (Nat.le_trans hB hs)), fun b hb n1 n2 => (hf2.block b (by omega) n2).trans (hf.block b hb n1)⟩
  · rcases ht2 k hk2 with e | e
    · exact hd1 k hk e
    · have := hp.lt k hk; omega
  · rcases ht k hk with e | e
    · exact h.fl k e
    · omega
  · rcases ht2 k hk with e | e
    · exact h.gl k e
    · omega
  · rcases hk with hk | hk
    · rcases ht k hk with e | e
      · exact .inl e
      · exact .inr (.inr e)
    · rcases ht2 k hk with e | e
      · exact .inr (.inl e)
      · exact .inr (.inr (by omega))

def PS.act (S : PS) (x : AC) : PS := if x.kind.tmod 4 = 0 then (S.write x.i x.data).2 else if x.kind.tmod 4 = 1 then S.flush else if x.kind.tmod 4 = 2 then (S.crash x.L).2 else (S.sealP x.ep).2

theorem ok_mono {S : PS} {N M : Nat} (h : S.ok N) (hl : N ≤ M) : S.ok M := ⟨Nat.le_trans h.l hl, Nat.le_trans h.e hl, fun i hi => ⟨(h.s i hi).1, Nat.le_trans (h.s i hi).2 hl⟩, fun j hj => ⟨Nat.le_trans (h.p j hj).1 hl, (h.p j hj).2⟩⟩
theorem ok_write {S : PS} {N : Nat} (h : S.ok N) (i : Int) (s : ByteArray) : (S.write i s).2.ok (N + 1) := by
  unfold PS.write
  split
  · rename_i hs
    obtain ⟨k, rfl, hk⟩ := ps_nat hs
    split
    · refine ⟨by simp; have := h.l; omega, by have := h.e; show S.E.length ≤ _; omega, fun j hj => ?_, fun j hj => ⟨by have := (h.p j hj).1; show (EAt S.E j).2.length ≤ _; omega, (h.p j hj).2⟩⟩
      show 0 < (LAt (S.L.set _ _) j).length ∧ (LAt (S.L.set _ _) j).length ≤ N + 1
      have hj' : j < S.L.length := by simpa using hj
      rw [lat_set (by simpa using hk)]
      split
      · have := (h.s k hk).2
        simp
        omega
      · have := h.s j hj'; omega
    · exact ok_mono h (by omega)
  · exact ok_mono h (by omega)
theorem ok_ones {S : PS} {N : Nat} (h : S.ok N) (M : List (List ByteArray)) (hl : M.length = S.L.length) (h1 : ∀ i, i < M.length → (LAt M i).length = 1) : (⟨M, S.E⟩ : PS).ok (N + 1) :=
  ⟨by show M.length ≤ _; have := h.l; omega, by show S.E.length ≤ _; have := h.e; omega, fun i hi => by have := h1 i hi; show 0 < (LAt M i).length ∧ (LAt M i).length ≤ _; omega, fun j hj => ⟨by have := (h.p j hj).1; show (EAt S.E j).2.length ≤ _; omega, (h.p j hj).2⟩⟩
theorem ok_flush {S : PS} {N : Nat} (h : S.ok N) : S.flush.ok (N + 1) := by
  refine ok_ones h _ (by simp) fun i hi => ?_
  unfold LAt
  have hi' : i < S.L.length := by simpa using hi
  simp [hi']
theorem ok_crash {S : PS} {N : Nat} (h : S.ok N) (Fs : List ByteArray) : (S.crash Fs).2.ok (N + 1) := by
  unfold PS.crash
  split
  · rename_i hl
    split
    · refine ok_ones h _ (by simp [hl]) fun i hi => ?_
      rw [map_one_at Fs (by simpa using hi)]
      rfl
    · exact ok_mono h (by omega)
  · exact ok_mono h (by omega)
theorem ok_seal {S : PS} {N : Nat} (h : S.ok N) (e : Nat) (he : e < 18446744073709551616) : (S.sealP e).2.ok (N + 1) := by
  unfold PS.sealP
  split
  · exact ok_mono h (by omega)
  · refine ⟨by show S.L.length ≤ _; have := h.l; omega, by show (S.E ++ [(e, S.L.map lastB)]).length ≤ _; have := h.e; simp; omega, fun i hi => by have := h.s i hi; show 0 < (LAt S.L i).length ∧ (LAt S.L i).length ≤ _; omega, fun j hj => ?_⟩
    show (EAt (S.E ++ [(e, S.L.map lastB)]) j).2.length ≤ _ ∧ (EAt (S.E ++ [(e, S.L.map lastB)]) j).1 < _
    rw [eat_push]
    split
    · have := h.l
      simp
      omega
    · rename_i hne
      have hj' : j < S.E.length := by
        have : j < (S.E ++ [(e, S.L.map lastB)]).length := hj
        simp at this; omega
      have := h.p j hj'
      omega
theorem ok_new {l : List ByteArray} (h : l.length ≤ 20) : (PS.new l).ok 20 := by
  refine ⟨by simpa [PS.new] using h, by simp [PS.new], fun i hi => ?_, fun j hj => by simp [PS.new] at hj⟩
  have hi' : i < l.length := by simpa [PS.new] using hi
  show 0 < (LAt (l.map fun s => [s]) i).length ∧ (LAt (l.map fun s => [s]) i).length ≤ 20
  rw [map_one_at l hi']
  simp

theorem fr_keep {w w' : World} {b : Nat} {cs : Array Value} {ty : TypeId} (h : w.heap[b]? = some (.cells cs ty (0, 0))) (e : w'.heap[b]? = w.heap[b]?) (i : Nat) : w'.cell? ⟨b, i, none⟩ = cs[i]? := cell_of_blk (e.trans h) i

set_option maxRecDepth 20000 in
set_option maxHeartbeats 8000000 in
theorem plays_walk (a a1 : Option Addr) (n c l c1 : Nat) (L0 : List ByteArray) (X : Nat → AC) (w : World) (hL : Rs w a n c L0) (hA : PActs w a1 l w.heap.size X) (hlc : l ≤ c1) (hcm : c1 ≤ maxLen) :
    Calls Try.prog 3 #[.slice a n c, .slice a1 l c1] w fun e w' => e = .returned (.bool true) ∧ Below w.heap.size w w' := by
  have hcx : (c1 : Int) ≤ 9223372036854775807 := by unfold maxLen at hcm; omega
  have HFW := Lib.hid (few_any a n c L0 w hL)
  have HL0 := Lib.hid hL
  have HA := Lib.hid hA
  have HKN := Lib.hid (fun w1 (hb : Below w.heap.size w w1) => (known_any w1).mono (R' := fun e w' => e = .returned (.bool true) ∧ Below w.heap.size w w') (fun e w' h => ⟨h.1, hb.trans (h.2.mono hb.size)⟩))
  clear hL hA
  go_enter Try.func3, Try.ntmps3
  go_wp2_with fail
  refine HFW.out.mono ?_
  rintro e w1 ⟨⟨rfl, hfew⟩ | ⟨rfl, hfew⟩, hb1⟩
  rotate_left
  · clear hfew
    go_wp2_with fail
    refine (HKN.out w1 hb1).mono ?_
    rintro e w2 ⟨rfl, hb⟩
    go_wp2
    go_ret
    exact ⟨rfl, hb⟩
  by_cases h60 : 60 < l
  · have g0 : (60 : Int) < (l : Int) := by omega
    clear hfew
    go_wp2_with fail
    refine (HKN.out w1 hb1).mono ?_
    rintro e w2 ⟨rfl, hb⟩
    go_wp2
    go_ret
    exact ⟨rfl, hb⟩
  have g0 : ¬ (60 : Int) < (l : Int) := by omega
  have hn20 : n ≤ 20 := by have := hfew.1; have := HL0.out.len; omega
  have hl0 : L0.length ≤ 20 := hfew.1
  have hnw := pnew_any a n c L0 w1 (HL0.out.later hb1) (by omega)
  have HNW := Lib.hid hnw
  have HB1 := Lib.hid hb1
  clear hnw hb1 hfew
  go_wp2_with fail
  refine HNW.out.mono ?_
  rintro e w2 ⟨p, F, rfl, hpm, hF, hb2⟩
  have HB2 := Lib.hid (HB1.out.trans (hb2.mono HB1.out.size))
  have hrn := rnew_any a n c L0 w2 (HL0.out.later HB2.out) (by omega)
  have HRN := Lib.hid hrn
  have HPM := Lib.hid hpm
  have HF := Lib.hid (fun k hk => Nat.le_trans HB1.out.size (hF k hk))
  clear hrn hpm hF hb2 HNW
  go_wp2_with fail
  refine HRN.out.mono ?_
  rintro e w3 ⟨q, G, rfl, hrm, hG, hb3⟩
  have HB3 := Lib.hid (HB2.out.trans (hb3.mono HB2.out.size))
  have HPR := Lib.hid (show PR w3 p q F G (PS.new L0) w.heap.size from ⟨HPM.out.below hb3, hrm, fun k h1 h2 => by have := HPM.out.lt k h1; have := hG k h2; omega, HF.out, fun k hk => Nat.le_trans HB2.out.size (hG k hk)⟩)
  have HOK0 := Lib.hid (ok_new hl0)
  clear hrm hG hb3 HRN HPM HF HB1 HB2 HFW hl0 hn20
  go_wp2
  go_loopw [7] (fun i wr => ∃ k : Nat, k ≤ l ∧ i = .int .i64 k ∧ Below w.heap.size w wr ∧ ∃ F G S, PR wr p q F G S w.heap.size ∧ S.ok (20 + k)) (fun i _ => l - (intOf i).toNat)
  case atStart => exact ⟨0, by omega, rfl, HB3.out, F, G, _, HPR.out, HOK0.out⟩
  case round =>
    obtain ⟨k, hk, rfl, hB, F', G', S, hpr, hok⟩ := hrel
    by_cases hlt : k < l
    · have i0 : (0 : Int) ≤ (k : Int) := by omega
      have i1 : (k : Int) < (l : Int) := by omega
      obtain ⟨ba, oa, rfl, _, hca⟩ := (HA.out.below hB).at0 (by omega)
      obtain ⟨d0, d1, d2, d3, d4⟩ := hca k hlt
      have hrs := (HA.out.below hB).rs k hlt
      have hlow := HA.out.low k hlt
      have hhi := HA.out.high k hlt
      rcases hX : X k with ⟨kind, ix, data, la, ln, lc, Ls, ep⟩
      rw [hX] at d0 d1 d2 d3 d4 hrs hlow hhi
      dsimp only at d0 d1 d2 d3 d4 hrs hlow hhi
      obtain ⟨W1, hW1⟩ : ∃ W1, W1 = wr.alloc (.cells #[.int .i64 kind, .int .i64 ix, .string data, .slice la ln lc, .int .u64 (ep : Int)] 32) := ⟨_, rfl⟩
      have hal : Below wr.heap.size wr W1 := by rw [hW1]; exact (Below.refl _ _).alloc (Nat.le_refl _) _
      have hbx : W1.heap[wr.heap.size]? = some (.cells #[.int .i64 kind, .int .i64 ix, .string data, .slice la ln lc, .int .u64 (ep : Int)] 32 (0, 0)) := by rw [hW1]; exact heap_alloc_new wr _
      obtain ⟨bx, hbxe⟩ : ∃ bx, bx = wr.heap.size := ⟨_, rfl⟩
      rw [← hbxe] at hbx
      have hW1s : wr.heap.size < W1.heap.size := by rw [hW1]; simp
      have hrs1 := hrs.later hal
      have b3 : W1.cell? ⟨bx, 3, none⟩ = some (.slice la ln lc) := by rw [cell_of_blk hbx]; rfl
      have HFW := Lib.hid (few_any la ln lc Ls W1 hrs1)
      have HW1 := Lib.hid hW1
      have HBX := Lib.hid hbx
      have HBE := Lib.hid hbxe
      have HB1 := Lib.hid (hB.trans (hal.mono hB.size))
      have HPR1 := Lib.hid (hpr.below hal)
      have HOK := Lib.hid hok
      have HRS := Lib.hid hrs1
      have HLO := Lib.hid hlow
      have HNF := Lib.hid (show ∀ j, F' j ∨ G' j → j ≠ bx from fun j hj e => by
        rcases hj with h | h
        · have := hpr.pm.lt j h; omega
        · have := hpr.rm.lt j h; omega)
      have HSZ := Lib.hid (show bx < W1.heap.size by omega)
      clear hrs hrs1 hlow hal hW1 hbx hpr hok hB hX hca hW1s hbxe
      go_upto_region 9 with fail
      rw [← HBE.out, ← HW1.out]
      go_wp2_with fail
      refine HFW.out.mono ?_
      rintro e w4 ⟨⟨rfl, hfew⟩ | ⟨rfl, hfew⟩, hb4⟩
      rotate_left
      · have HB4 := Lib.hid (HB1.out.trans (hb4.mono HB1.out.size))
        clear hfew hb4
        go_wp2_with fail
        refine (HKN.out w4 HB4.out).mono ?_
        rintro e w5 ⟨rfl, hb⟩
        go_wp2
        go_ret
        exact ⟨rfl, hb⟩
      have HB4 := Lib.hid (HB1.out.trans (hb4.mono HB1.out.size))
      have hbx4 := (hb4.block bx HSZ.out).trans HBX.out
      have b0 : w4.cell? ⟨bx, 0, none⟩ = some (.int .i64 kind) := by rw [cell_of_blk hbx4]; rfl
      have b1 : w4.cell? ⟨bx, 1, none⟩ = some (.int .i64 ix) := by rw [cell_of_blk hbx4]; rfl
      have b2 : w4.cell? ⟨bx, 2, none⟩ = some (.string data) := by rw [cell_of_blk hbx4]; rfl
      have b3 : w4.cell? ⟨bx, 3, none⟩ = some (.slice la ln lc) := by rw [cell_of_blk hbx4]; rfl
      have b4 : w4.cell? ⟨bx, 4, none⟩ = some (.int .u64 (ep : Int)) := by rw [cell_of_blk hbx4]; rfl
      have HPR4 := Lib.hid (HPR1.out.below hb4)
      have HRS4 := Lib.hid (HRS.out.later hb4)
      have HBX4 := Lib.hid hbx4
      have HSZ4 := Lib.hid (show bx < w4.heap.size by have := HSZ.out; have := hb4.size; omega)
      clear hfew hb4 hbx4 d0 d1 d2 d3 d4
      by_cases h200 : 200 < data.size
      · have g1 : (200 : Int) < (data.size : Int) := by omega
        go_wp2_with fail
        refine (HKN.out w4 HB4.out).mono ?_
        rintro e w5 ⟨rfl, hb⟩
        go_wp2
        go_ret
        exact ⟨rfl, hb⟩
      have g1 : ¬ (200 : Int) < (data.size : Int) := by omega
      have HTAIL := Lib.hid (show ∀ w5, (∃ F' G' S', PR w5 p q F' G' S' w.heap.size ∧ S'.ok (20 + k + 1) ∧ ∀ j, F' j ∨ G' j → j ≠ bx) ∧ Below w.heap.size w4 w5 ∧ w5.heap[bx]? = w4.heap[bx]? → (∃ F' G' S', PR w5 p q F' G' S' w.heap.size ∧ S'.ok (20 + k + 1) ∧ ∀ j, F' j ∨ G' j → j ≠ bx) ∧ Below w.heap.size w w5 ∧ w5.heap[bx]? = some (.cells #[.int .i64 kind, .int .i64 ix, .string data, .slice la ln lc, .int .u64 (ep : Int)] 32 (0, 0)) from fun w5 h => ⟨h.1, HB4.out.trans h.2.1, h.2.2.trans HBX4.out⟩)
      have HEND := Lib.hid (show ∀ S' w5 w6, S'.ok (20 + k + 1) → PQ w4 F' p S' w5 → RQ w5 G' q S' w6 → (∃ F' G' S', PR w6 p q F' G' S' w.heap.size ∧ S'.ok (20 + k + 1) ∧ ∀ j, F' j ∨ G' j → j ≠ bx) ∧ Below w.heap.size w w6 ∧ w6.heap[bx]? = some (.cells #[.int .i64 kind, .int .i64 ix, .string data, .slice la ln lc, .int .u64 (ep : Int)] 32 (0, 0)) from fun S' w5 w6 hok h1 h2 => by
        obtain ⟨⟨F2, G2, hpr2, hnew⟩, hb, hk2⟩ := HPR4.out.after HB4.out.size h1 h2
        refine HTAIL.out w6 ⟨⟨F2, G2, S', hpr2, hok, fun j hj e => ?_⟩, hb, hk2 bx HSZ4.out (fun h => HNF.out bx (.inl h) rfl) (fun h => HNF.out bx (.inr h) rfl)⟩
        subst e
        rcases hnew j hj with h | h | h
        · exact HNF.out j (.inl h) rfl
        · exact HNF.out j (.inr h) rfl
        · have := HSZ4.out; omega)
      obtain ⟨r, hr⟩ : ∃ r, r = kind.tmod 4 := ⟨_, rfl⟩
      have HRR := Lib.hid hr
      have HD := Lib.hid (show Below w4.heap.size w4 w4.drew from Below.drew (Below.refl _ _))
      have HFB := Lib.hid (show ∀ (A : Nat → Prop) w5 w6, (∀ j, A j → j ≠ bx) → Fr A w5 w6 → bx < w5.heap.size → w6.heap[bx]? = w5.heap[bx]? from fun A w5 w6 hA hf hb => hf.block bx hb fun h => hA bx h rfl)
      clear hr b3 HFW
      go_upto_region 14 with fail
      rw [← HRR.out]
      by_cases r0 : r = 0
      · subst r0
        rcases hw : S.write ix data with ⟨E1, T1⟩
        have hok1 := ok_write HOK.out ix data
        rw [hw] at hok1
        have HOK1 := Lib.hid (show T1.ok (20 + k + 1) from hok1)
        have h1 := pwrite_any p F' S ix data w4.drew (HPR4.out.pm.below HD.out) (20 + k) HOK.out (by omega)
        rw [hw] at h1
        have h2 := fun w' (hh : RM w' q G' S) => rwrite_any q G' S ix data w' hh (20 + k) HOK.out (by omega)
        simp only [hw] at h2
        have hkp : ∀ w5, PQ w4.drew F' p T1 w5 → w5.heap[bx]? = w4.heap[bx]? := fun w5 h => by
          obtain ⟨_, _, hf, _⟩ := h
          exact HFB.out F' w4.drew w5 (fun j hj => HNF.out j (.inl hj)) hf HSZ4.out
        have hkr : ∀ w5 w6, PQ w4.drew F' p T1 w5 → RQ w5 G' q T1 w6 → w6.heap[bx]? = w4.heap[bx]? := fun w5 w6 h h2 => by
          have h0 := hkp w5 h
          obtain ⟨_, _, hf, _⟩ := h
          obtain ⟨_, _, hf2, _⟩ := h2
          exact (HFB.out G' w5 w6 (fun j hj => HNF.out j (.inr hj)) hf2 (Nat.lt_of_lt_of_le HSZ4.out hf.size)).trans h0
        have hcl : ∀ w5 : World, w5.heap[bx]? = w4.heap[bx]? → w5.cell? ⟨bx, 1, none⟩ = some (.int .i64 ix) ∧ w5.cell? ⟨bx, 2, none⟩ = some (.string data) := fun w5 h => ⟨by rw [cell_of_blk (h.trans HBX4.out)]; rfl, by rw [cell_of_blk (h.trans HBX4.out)]; rfl⟩
        have HCL := Lib.hid hcl
        have H1 := Lib.hid h1
        have H2 := Lib.hid h2
        have HKP := Lib.hid hkp
        have HKR := Lib.hid hkr
        have HQ1 := Lib.hid (show ∀ w5, PQ w4.drew F' p T1 w5 → RM w5 q G' S from fun w5 h => (HPR4.out.below HD.out).mid h)
        have hee : (E1 != E1) = false := by simp
        have HQU := Lib.hid (show ∀ w5, PQ w4.drew F' p T1 w5 → PQ w4 F' p T1 w5 from fun w5 h => by
          obtain ⟨F5, hp5, hf5, ht5⟩ := h
          exact ⟨F5, hp5, ⟨hf5.os, hf5.tape, hf5.output, hf5.size, hf5.block⟩, ht5⟩)
        clear h1 h2 hkp hkr hcl hw hok1 b0
        go_wp2_with fail
        go_region_held3 (fun w' : World => w'.cell? ⟨bx, 1, none⟩ = some (.int .i64 ix) ∧ w'.cell? ⟨bx, 2, none⟩ = some (.string data)) (first | exact HCL.out _ rfl | exact HCL.out _ (HKP.out _ hpp) | exact HCL.out _ (HKR.out _ _ hpp hrp))
          (first
          | (go_at_call 10; refine H1.out.mono ?_; rintro e w5 ⟨rfl, hpp⟩)
          | (go_at_call 11; refine (H2.out w5 (HQ1.out w5 hpp)).mono ?_; rintro e w6 ⟨rfl, hrp⟩))
        all_goals (
          rename_i hHeld
          clear hHeld
          have HT := Lib.hid (HEND.out T1 w5 w6 HOK1.out (HQU.out w5 hpp) hrp)
          clear hpp hrp b1 b2 b4
          obtain ⟨⟨F6, G6, S6, hpr6, hok6, hne6⟩, hB6, hbx6⟩ := HT.out
          have e1 : w6.cell? ⟨bx, 1, none⟩ = some (.int .i64 ix) := by rw [cell_of_blk hbx6]; rfl
          have e2 : w6.cell? ⟨bx, 2, none⟩ = some (.string data) := by rw [cell_of_blk hbx6]; rfl
          have e4 : w6.cell? ⟨bx, 4, none⟩ = some (.int .u64 (ep : Int)) := by rw [cell_of_blk hbx6]; rfl
          have hla := plast_any p F6 S6 ix w6 hpr6.pm (20 + k + 1) hok6 (by omega)
          have hlr := rlast_any q G6 S6 ix w6 hpr6.rm (20 + k + 1) hok6 (by omega)
          obtain ⟨LX, hLX⟩ : ∃ LX, LX = S6.last ix := ⟨_, rfl⟩
          rw [← hLX] at hla hlr
          obtain ⟨sx, z⟩ := LX
          unfold twoV at hla hlr
          dsimp only at hla hlr
          have hq1 : ∀ w, (binOp .neq 9 (.string sx) (.string sx)).run Try.prog w = .ok (.bool false) w := fun w => by rw [neq_txt, decide_eq_true rfl]; rfl
          have hgd1 := fun x y w => guard_txt .neq x y sx sx w
          obtain ⟨VX, hVX⟩ : ∃ V, V = Value.string sx := ⟨_, rfl⟩
          rw [← hVX] at hla hlr
          simp only [← hVX] at hq1 hgd1
          have hzz : (z != z) = false := by simp
          have him := pimage_any p F6 S6 ep w6 hpr6.pm (20 + k + 1) hok6 (by omega) hhi
          have hir := fun w' (hb : Below w6.heap.size w6 w') => rimage_any q G6 S6 ep w' (hpr6.rm.below hb) (20 + k + 1) hok6 (by omega) hhi
          obtain ⟨IX, hIX⟩ : ∃ IX, IX = S6.image ep := ⟨_, rfl⟩
          rw [← hIX] at him
          simp only [← hIX] at hir
          obtain ⟨IL, y⟩ := IX
          dsimp only at him hir
          have hyy : (y != y) = false := by simp
          have HLA := Lib.hid hla
          have HLR := Lib.hid hlr
          have HIM := Lib.hid him
          have HIR := Lib.hid hir
          have HPR6 := Lib.hid hpr6
          have HOK6 := Lib.hid hok6
          have HB6 := Lib.hid hB6
          have HBX6 := Lib.hid hbx6
          clear hla hlr him hir hpr6 hok6 hne6 hB6 hbx6 HT hLX hIX hVX
          go_wp2_with fail
          refine HLA.out.mono ?_
          rintro e w7 ⟨rfl, hw7⟩; obtain rfl := hw7.symm; clear hw7
          go_wp2_with fail
          refine HLR.out.mono ?_
          rintro e w8 ⟨rfl, hw8⟩; obtain rfl := hw8.symm; clear hw8
          go_wp2_with fail
          refine HIM.out.mono ?_
          rintro e w9 ⟨hb9, a9, n9, c9, rfl, hrs9, _⟩
          have HIR9 := Lib.hid (HIR.out w9 hb9)
          have f4 : w9.cell? ⟨bx, 4, none⟩ = some (.int .u64 (ep : Int)) := by rw [cell_of_blk ((hb9.block bx (lt_of_block HBX6.out)).trans HBX6.out)]; rfl
          have HB9 := Lib.hid hb9
          have HRS9 := Lib.hid hrs9
          clear hb9 hrs9
          go_wp2_with fail
          refine HIR9.out.mono ?_
          rintro e w10 ⟨hb10, a10, n10, c10, rfl, hrs10⟩
          have hB10 := HB9.out.trans (hb10.mono HB9.out.size)
          have hbx10 := (hB10.block bx (lt_of_block HBX6.out)).trans HBX6.out
          have hpr10 := HPR6.out.below hB10
          obtain ⟨u1, u2, u3, us, xs, hri, _, _⟩ := hpr10.rm
          obtain ⟨ar, cr, rfl, hus⟩ := us_of hri.own2
          obtain ⟨me, hme⟩ : ∃ me, me = S6.E.length := ⟨_, rfl⟩
          rw [← hme] at hri hus
          have hqc : ∀ w' : World, Below w10.heap.size w10 w' → w'.cell? ⟨q, 1, none⟩ = some (.slice ar me cr) := fun w' hb => by rw [cell_of_blk ((hb.block q (lt_of_block hri.blk)).trans hri.blk)]; rfl
          have hkp : ∀ w' : World, Below w10.heap.size w10 w' → w'.cell? ⟨bx, 1, none⟩ = some (.int .i64 ix) ∧ w'.cell? ⟨bx, 2, none⟩ = some (.string data) ∧ w'.cell? ⟨q, 1, none⟩ = some (.slice ar me cr) := fun w' hb => ⟨by rw [cell_of_blk ((hb.block bx (lt_of_block hbx10)).trans hbx10)]; rfl, by rw [cell_of_blk ((hb.block bx (lt_of_block hbx10)).trans hbx10)]; rfl, hqc w' hb⟩
          have hmy := fun w' (hb : Below w10.heap.size w10 w') => pmay_any p F6 S6 ix data w' (hpr10.pm.below hb) (20 + k + 1) HOK6.out (by omega)
          have hhs := fun w' (hb : Below w10.heap.size w10 w') => rhas_any q G6 S6 ix data w' (hpr10.rm.below hb) (20 + k + 1) HOK6.out (by omega)
          have htx := fun w' (hb : Below w10.heap.size w10 w') => rtexts_any a9 a10 n9 n10 c9 c10 IL IL w' ((HRS9.out.later hb10).later hb) (hrs10.later hb)
          simp only [decide_true] at htx
          have hep := fun w' (hb : Below w10.heap.size w10 w') => pepochs_any p F6 S6 w' (hpr10.pm.below hb) (20 + k + 1) HOK6.out (by omega)
          have hnum := fun w' w'' (hb : Below w10.heap.size w10 w') (hb2 : Below w'.heap.size w' w'') ae ce (hA : Us w'' ae me ce S6.E) => numbers_any ae ar me ce cr S6.E w'' hA (hus.later (hb.trans (hb2.mono hb.size)))
          obtain ⟨mb, hmb⟩ : ∃ mb, mb = S6.may ix data := ⟨_, rfl⟩
          simp only [← hmb] at hmy hhs
          rw [← hme] at hep
          have hbb : (mb != mb) = false := by simp
          have HMY := Lib.hid hmy
          have HHS := Lib.hid hhs
          have HTX := Lib.hid htx
          have HEP := Lib.hid hep
          have HNU := Lib.hid hnum
          have HKP2 := Lib.hid hkp
          have HB10 := Lib.hid (HB6.out.trans (hB10.mono HB6.out.size))
          have HPR10 := Lib.hid hpr10
          have HME := Lib.hid hme
          have HD10 := Lib.hid (show Below w10.heap.size w10 w10.drew from Below.drew (Below.refl _ _))
          clear hmy hhs htx hep hnum hkp hqc hpr10 hri hus hbx10 hB10 hb10 hrs10 hmb hme HIR9 HIR HIM HLA HLR f4 e1 e2 e4
          go_wp2_with fail
          go_region_held3 (fun w' : World => w'.cell? ⟨bx, 1, none⟩ = some (.int .i64 ix) ∧ w'.cell? ⟨bx, 2, none⟩ = some (.string data) ∧ w'.cell? ⟨q, 1, none⟩ = some (.slice ar me cr)) (first | exact HKP2.out _ (Below.refl _ _) | exact HKP2.out _ HD10.out | exact HKP2.out _ hm1 | exact HKP2.out _ hm2 | exact HKP2.out _ hm3 | exact HKP2.out _ hm4 | exact HKP2.out _ hm5)
            (first
            | (go_at_call 22; refine (HMY.out _ HD10.out).mono ?_; rintro e m1 ⟨rfl, hm0⟩; have hm1 := HD10.out.trans (hm0.mono HD10.out.size); clear hm0)
            | (go_at_call 23; refine (HHS.out m1 hm1).mono ?_; rintro e m2 ⟨rfl, hm0⟩; have hm2 := hm1.trans (hm0.mono hm1.size); clear hm0)
            | (go_at_call 24; refine (HTX.out m2 hm2).mono ?_; rintro e m3 ⟨rfl, hm0⟩; have hm3 := hm2.trans (hm0.mono hm2.size); clear hm0)
            | (go_at_call 26; refine (HEP.out m3 hm3).mono ?_; rintro e m4 ⟨ve, rfl, hown, hm0⟩; rw [HME.out] at hown; obtain ⟨ae, ce, rfl, hue⟩ := us_of hown; rw [← HME.out] at hue; have HUE := Lib.hid hue; have HM0 := Lib.hid hm0; have hm4 := hm3.trans (hm0.mono hm3.size); clear hm0 hown hue; rw [← HME.out])
            | (go_at_call 25; refine (HNU.out m3 m4 hm3 HM0.out ae ce HUE.out).mono ?_; rintro e m5 ⟨rfl, hm0⟩; have hm5 := hm4.trans (hm0.mono hm4.size); clear hm0))
          all_goals (
            rename_i hHeld
            clear hHeld
            have HFIN := Lib.hid (HB10.out.trans (hm5.mono HB10.out.size))
            have HPRF := Lib.hid (HPR10.out.below hm5)
            clear hm1 hm2 hm3 hm4 hm5
            go_wp2
            go_roundw
            case rel => exact ⟨k + 1, by omega, by go_num, HFIN.out, F6, G6, S6, HPRF.out, ok_mono HOK6.out (by omega)⟩
            case measure => simp [intOf]; omega))
      by_cases r1 : r = 1
      · subst r1
        have hok1 := ok_flush HOK.out
        have HOK1 := Lib.hid hok1
        have H1 := Lib.hid (pflush_any p F' S w4 HPR4.out.pm (20 + k) HOK.out (by omega))
        have H2 := Lib.hid (fun w' (hh : RM w' q G' S) => rflush_any q G' S w' hh (20 + k) HOK.out (by omega))
        clear hok1 b0
        go_wp2_with fail
        refine H1.out.mono ?_
        rintro e w5 ⟨rfl, hpp⟩
        have HPP := Lib.hid hpp
        clear hpp
        go_wp2_with fail
        refine (H2.out w5 (HPR4.out.mid HPP.out)).mono ?_
        rintro e w6 ⟨rfl, hrp⟩
        have HT := Lib.hid (HEND.out S.flush w5 w6 HOK1.out HPP.out hrp)
        clear hrp b1 b2 b4
        obtain ⟨⟨F6, G6, S6, hpr6, hok6, hne6⟩, hB6, hbx6⟩ := HT.out
        have e1 : w6.cell? ⟨bx, 1, none⟩ = some (.int .i64 ix) := by rw [cell_of_blk hbx6]; rfl
        have e2 : w6.cell? ⟨bx, 2, none⟩ = some (.string data) := by rw [cell_of_blk hbx6]; rfl
        have e4 : w6.cell? ⟨bx, 4, none⟩ = some (.int .u64 (ep : Int)) := by rw [cell_of_blk hbx6]; rfl
        have hla := plast_any p F6 S6 ix w6 hpr6.pm (20 + k + 1) hok6 (by omega)
        have hlr := rlast_any q G6 S6 ix w6 hpr6.rm (20 + k + 1) hok6 (by omega)
        obtain ⟨LX, hLX⟩ : ∃ LX, LX = S6.last ix := ⟨_, rfl⟩
        rw [← hLX] at hla hlr
        obtain ⟨sx, z⟩ := LX
        unfold twoV at hla hlr
        dsimp only at hla hlr
        have hq1 : ∀ w, (binOp .neq 9 (.string sx) (.string sx)).run Try.prog w = .ok (.bool false) w := fun w => by rw [neq_txt, decide_eq_true rfl]; rfl
        have hgd1 := fun x y w => guard_txt .neq x y sx sx w
        obtain ⟨VX, hVX⟩ : ∃ V, V = Value.string sx := ⟨_, rfl⟩
        rw [← hVX] at hla hlr
        simp only [← hVX] at hq1 hgd1
        have hzz : (z != z) = false := by simp
        have him := pimage_any p F6 S6 ep w6 hpr6.pm (20 + k + 1) hok6 (by omega) hhi
        have hir := fun w' (hb : Below w6.heap.size w6 w') => rimage_any q G6 S6 ep w' (hpr6.rm.below hb) (20 + k + 1) hok6 (by omega) hhi
        obtain ⟨IX, hIX⟩ : ∃ IX, IX = S6.image ep := ⟨_, rfl⟩
        rw [← hIX] at him
        simp only [← hIX] at hir
        obtain ⟨IL, y⟩ := IX
        dsimp only at him hir
        have hyy : (y != y) = false := by simp
        have HLA := Lib.hid hla
        have HLR := Lib.hid hlr
        have HIM := Lib.hid him
        have HIR := Lib.hid hir
        have HPR6 := Lib.hid hpr6
        have HOK6 := Lib.hid hok6
        have HB6 := Lib.hid hB6
        have HBX6 := Lib.hid hbx6
        clear hla hlr him hir hpr6 hok6 hne6 hB6 hbx6 HT hLX hIX hVX
        go_wp2_with fail
        refine HLA.out.mono ?_
        rintro e w7 ⟨rfl, hw7⟩; obtain rfl := hw7.symm; clear hw7
        go_wp2_with fail
        refine HLR.out.mono ?_
        rintro e w8 ⟨rfl, hw8⟩; obtain rfl := hw8.symm; clear hw8
        go_wp2_with fail
        refine HIM.out.mono ?_
        rintro e w9 ⟨hb9, a9, n9, c9, rfl, hrs9, _⟩
        have HIR9 := Lib.hid (HIR.out w9 hb9)
        have f4 : w9.cell? ⟨bx, 4, none⟩ = some (.int .u64 (ep : Int)) := by rw [cell_of_blk ((hb9.block bx (lt_of_block HBX6.out)).trans HBX6.out)]; rfl
        have HB9 := Lib.hid hb9
        have HRS9 := Lib.hid hrs9
        clear hb9 hrs9
        go_wp2_with fail
        refine HIR9.out.mono ?_
        rintro e w10 ⟨hb10, a10, n10, c10, rfl, hrs10⟩
        have hB10 := HB9.out.trans (hb10.mono HB9.out.size)
        have hbx10 := (hB10.block bx (lt_of_block HBX6.out)).trans HBX6.out
        have hpr10 := HPR6.out.below hB10
        obtain ⟨u1, u2, u3, us, xs, hri, _, _⟩ := hpr10.rm
        obtain ⟨ar, cr, rfl, hus⟩ := us_of hri.own2
        obtain ⟨me, hme⟩ : ∃ me, me = S6.E.length := ⟨_, rfl⟩
        rw [← hme] at hri hus
        have hqc : ∀ w' : World, Below w10.heap.size w10 w' → w'.cell? ⟨q, 1, none⟩ = some (.slice ar me cr) := fun w' hb => by rw [cell_of_blk ((hb.block q (lt_of_block hri.blk)).trans hri.blk)]; rfl
        have hkp : ∀ w' : World, Below w10.heap.size w10 w' → w'.cell? ⟨bx, 1, none⟩ = some (.int .i64 ix) ∧ w'.cell? ⟨bx, 2, none⟩ = some (.string data) ∧ w'.cell? ⟨q, 1, none⟩ = some (.slice ar me cr) := fun w' hb => ⟨by rw [cell_of_blk ((hb.block bx (lt_of_block hbx10)).trans hbx10)]; rfl, by rw [cell_of_blk ((hb.block bx (lt_of_block hbx10)).trans hbx10)]; rfl, hqc w' hb⟩
        have hmy := fun w' (hb : Below w10.heap.size w10 w') => pmay_any p F6 S6 ix data w' (hpr10.pm.below hb) (20 + k + 1) HOK6.out (by omega)
        have hhs := fun w' (hb : Below w10.heap.size w10 w') => rhas_any q G6 S6 ix data w' (hpr10.rm.below hb) (20 + k + 1) HOK6.out (by omega)
        have htx := fun w' (hb : Below w10.heap.size w10 w') => rtexts_any a9 a10 n9 n10 c9 c10 IL IL w' ((HRS9.out.later hb10).later hb) (hrs10.later hb)
        simp only [decide_true] at htx
        have hep := fun w' (hb : Below w10.heap.size w10 w') => pepochs_any p F6 S6 w' (hpr10.pm.below hb) (20 + k + 1) HOK6.out (by omega)
        have hnum := fun w' w'' (hb : Below w10.heap.size w10 w') (hb2 : Below w'.heap.size w' w'') ae ce (hA : Us w'' ae me ce S6.E) => numbers_any ae ar me ce cr S6.E w'' hA (hus.later (hb.trans (hb2.mono hb.size)))
        obtain ⟨mb, hmb⟩ : ∃ mb, mb = S6.may ix data := ⟨_, rfl⟩
        simp only [← hmb] at hmy hhs
        rw [← hme] at hep
        have hbb : (mb != mb) = false := by simp
        have HMY := Lib.hid hmy
        have HHS := Lib.hid hhs
        have HTX := Lib.hid htx
        have HEP := Lib.hid hep
        have HNU := Lib.hid hnum
        have HKP2 := Lib.hid hkp
        have HB10 := Lib.hid (HB6.out.trans (hB10.mono HB6.out.size))
        have HPR10 := Lib.hid hpr10
        have HME := Lib.hid hme
        have HD10 := Lib.hid (show Below w10.heap.size w10 w10.drew from Below.drew (Below.refl _ _))
        clear hmy hhs htx hep hnum hkp hqc hpr10 hri hus hbx10 hB10 hb10 hrs10 hmb hme HIR9 HIR HIM HLA HLR f4 e1 e2 e4
        go_wp2_with fail
        go_region_held3 (fun w' : World => w'.cell? ⟨bx, 1, none⟩ = some (.int .i64 ix) ∧ w'.cell? ⟨bx, 2, none⟩ = some (.string data) ∧ w'.cell? ⟨q, 1, none⟩ = some (.slice ar me cr)) (first | exact HKP2.out _ (Below.refl _ _) | exact HKP2.out _ HD10.out | exact HKP2.out _ hm1 | exact HKP2.out _ hm2 | exact HKP2.out _ hm3 | exact HKP2.out _ hm4 | exact HKP2.out _ hm5)
          (first
          | (go_at_call 22; refine (HMY.out _ HD10.out).mono ?_; rintro e m1 ⟨rfl, hm0⟩; have hm1 := HD10.out.trans (hm0.mono HD10.out.size); clear hm0)
          | (go_at_call 23; refine (HHS.out m1 hm1).mono ?_; rintro e m2 ⟨rfl, hm0⟩; have hm2 := hm1.trans (hm0.mono hm1.size); clear hm0)
          | (go_at_call 24; refine (HTX.out m2 hm2).mono ?_; rintro e m3 ⟨rfl, hm0⟩; have hm3 := hm2.trans (hm0.mono hm2.size); clear hm0)
          | (go_at_call 26; refine (HEP.out m3 hm3).mono ?_; rintro e m4 ⟨ve, rfl, hown, hm0⟩; rw [HME.out] at hown; obtain ⟨ae, ce, rfl, hue⟩ := us_of hown; rw [← HME.out] at hue; have HUE := Lib.hid hue; have HM0 := Lib.hid hm0; have hm4 := hm3.trans (hm0.mono hm3.size); clear hm0 hown hue; rw [← HME.out])
          | (go_at_call 25; refine (HNU.out m3 m4 hm3 HM0.out ae ce HUE.out).mono ?_; rintro e m5 ⟨rfl, hm0⟩; have hm5 := hm4.trans (hm0.mono hm4.size); clear hm0))
        all_goals (
          rename_i hHeld
          clear hHeld
          have HFIN := Lib.hid (HB10.out.trans (hm5.mono HB10.out.size))
          have HPRF := Lib.hid (HPR10.out.below hm5)
          clear hm1 hm2 hm3 hm4 hm5
          go_wp2
          go_roundw
          case rel => exact ⟨k + 1, by omega, by go_num, HFIN.out, F6, G6, S6, HPRF.out, ok_mono HOK6.out (by omega)⟩
          case measure => simp [intOf]; omega)
      by_cases r2 : r = 2
      · subst r2
        rcases hw : S.crash Ls with ⟨E1, T1⟩
        have hok1 := ok_crash HOK.out Ls
        rw [hw] at hok1
        have HOK1 := Lib.hid (show T1.ok (20 + k + 1) from hok1)
        have h1 := pcrash_any p F' S la ln lc Ls w4.drew (HPR4.out.pm.below HD.out) (HRS4.out.later HD.out) (20 + k) HOK.out (by omega)
        rw [hw] at h1
        have h2 := fun w' (hh : RM w' q G' S) (hr : Rs w' la ln lc Ls) => rcrash_any q G' S la ln lc Ls w' hh hr (fun b off e h0 hg => by have := HLO.out b off e h0; have := HPR4.out.gl b hg; omega) (20 + k) HOK.out (by omega)
        simp only [hw] at h2
        have hkp : ∀ w5, PQ w4.drew F' p T1 w5 → w5.heap[bx]? = w4.heap[bx]? := fun w5 h => by
          obtain ⟨_, _, hf, _⟩ := h
          exact HFB.out F' w4.drew w5 (fun j hj => HNF.out j (.inl hj)) hf HSZ4.out
        have hkr : ∀ w5 w6, PQ w4.drew F' p T1 w5 → RQ w5 G' q T1 w6 → w6.heap[bx]? = w4.heap[bx]? := fun w5 w6 h h2 => by
          have h0 := hkp w5 h
          obtain ⟨_, _, hf, _⟩ := h
          obtain ⟨_, _, hf2, _⟩ := h2
          exact (HFB.out G' w5 w6 (fun j hj => HNF.out j (.inr hj)) hf2 (Nat.lt_of_lt_of_le HSZ4.out hf.size)).trans h0
        have hcl : ∀ w5 : World, w5.heap[bx]? = w4.heap[bx]? → w5.cell? ⟨bx, 3, none⟩ = some (.slice la ln lc) := fun w5 h => by rw [cell_of_blk (h.trans HBX4.out)]; rfl
        have HCL := Lib.hid hcl
        have H1 := Lib.hid h1
        have H2 := Lib.hid h2
        have HKP := Lib.hid hkp
        have HKR := Lib.hid hkr
        have HQ1 := Lib.hid (show ∀ w5, PQ w4.drew F' p T1 w5 → RM w5 q G' S from fun w5 h => (HPR4.out.below HD.out).mid h)
        have HRC := Lib.hid (show ∀ w5, PQ w4.drew F' p T1 w5 → Rs w5 la ln lc Ls from fun w5 h => by
          obtain ⟨_, _, hf, _⟩ := h
          exact (HRS4.out.later HD.out).fr hf (fun b off e h0 hg => by have := HLO.out b off e h0; have := HPR4.out.fl b hg; omega))
        have b3 : w4.cell? ⟨bx, 3, none⟩ = some (.slice la ln lc) := by rw [cell_of_blk HBX4.out]; rfl
        have hee : (E1 != E1) = false := by simp
        have HQU := Lib.hid (show ∀ w5, PQ w4.drew F' p T1 w5 → PQ w4 F' p T1 w5 from fun w5 h => by
          obtain ⟨F5, hp5, hf5, ht5⟩ := h
          exact ⟨F5, hp5, ⟨hf5.os, hf5.tape, hf5.output, hf5.size, hf5.block⟩, ht5⟩)
        clear h1 h2 hkp hkr hcl hw hok1 b0
        go_wp2_with fail
        go_region_held3 (fun w' : World => w'.cell? ⟨bx, 3, none⟩ = some (.slice la ln lc)) (first | exact HCL.out _ rfl | exact HCL.out _ (HKP.out _ hpp) | exact HCL.out _ (HKR.out _ _ hpp hrp))
          (first
          | (go_at_call 14; refine H1.out.mono ?_; rintro e w5 ⟨rfl, hpp⟩)
          | (go_at_call 15; refine (H2.out w5 (HQ1.out w5 hpp) (HRC.out w5 hpp)).mono ?_; rintro e w6 ⟨rfl, hrp⟩))
        all_goals (
          rename_i hHeld
          clear hHeld
          have HT := Lib.hid (HEND.out T1 w5 w6 HOK1.out (HQU.out w5 hpp) hrp)
          clear hpp hrp b1 b2 b4
          obtain ⟨⟨F6, G6, S6, hpr6, hok6, hne6⟩, hB6, hbx6⟩ := HT.out
          have e1 : w6.cell? ⟨bx, 1, none⟩ = some (.int .i64 ix) := by rw [cell_of_blk hbx6]; rfl
          have e2 : w6.cell? ⟨bx, 2, none⟩ = some (.string data) := by rw [cell_of_blk hbx6]; rfl
          have e4 : w6.cell? ⟨bx, 4, none⟩ = some (.int .u64 (ep : Int)) := by rw [cell_of_blk hbx6]; rfl
          have hla := plast_any p F6 S6 ix w6 hpr6.pm (20 + k + 1) hok6 (by omega)
          have hlr := rlast_any q G6 S6 ix w6 hpr6.rm (20 + k + 1) hok6 (by omega)
          obtain ⟨LX, hLX⟩ : ∃ LX, LX = S6.last ix := ⟨_, rfl⟩
          rw [← hLX] at hla hlr
          obtain ⟨sx, z⟩ := LX
          unfold twoV at hla hlr
          dsimp only at hla hlr
          have hq1 : ∀ w, (binOp .neq 9 (.string sx) (.string sx)).run Try.prog w = .ok (.bool false) w := fun w => by rw [neq_txt, decide_eq_true rfl]; rfl
          have hgd1 := fun x y w => guard_txt .neq x y sx sx w
          obtain ⟨VX, hVX⟩ : ∃ V, V = Value.string sx := ⟨_, rfl⟩
          rw [← hVX] at hla hlr
          simp only [← hVX] at hq1 hgd1
          have hzz : (z != z) = false := by simp
          have him := pimage_any p F6 S6 ep w6 hpr6.pm (20 + k + 1) hok6 (by omega) hhi
          have hir := fun w' (hb : Below w6.heap.size w6 w') => rimage_any q G6 S6 ep w' (hpr6.rm.below hb) (20 + k + 1) hok6 (by omega) hhi
          obtain ⟨IX, hIX⟩ : ∃ IX, IX = S6.image ep := ⟨_, rfl⟩
          rw [← hIX] at him
          simp only [← hIX] at hir
          obtain ⟨IL, y⟩ := IX
          dsimp only at him hir
          have hyy : (y != y) = false := by simp
          have HLA := Lib.hid hla
          have HLR := Lib.hid hlr
          have HIM := Lib.hid him
          have HIR := Lib.hid hir
          have HPR6 := Lib.hid hpr6
          have HOK6 := Lib.hid hok6
          have HB6 := Lib.hid hB6
          have HBX6 := Lib.hid hbx6
          clear hla hlr him hir hpr6 hok6 hne6 hB6 hbx6 HT hLX hIX hVX
          go_wp2_with fail
          refine HLA.out.mono ?_
          rintro e w7 ⟨rfl, hw7⟩; obtain rfl := hw7.symm; clear hw7
          go_wp2_with fail
          refine HLR.out.mono ?_
          rintro e w8 ⟨rfl, hw8⟩; obtain rfl := hw8.symm; clear hw8
          go_wp2_with fail
          refine HIM.out.mono ?_
          rintro e w9 ⟨hb9, a9, n9, c9, rfl, hrs9, _⟩
          have HIR9 := Lib.hid (HIR.out w9 hb9)
          have f4 : w9.cell? ⟨bx, 4, none⟩ = some (.int .u64 (ep : Int)) := by rw [cell_of_blk ((hb9.block bx (lt_of_block HBX6.out)).trans HBX6.out)]; rfl
          have HB9 := Lib.hid hb9
          have HRS9 := Lib.hid hrs9
          clear hb9 hrs9
          go_wp2_with fail
          refine HIR9.out.mono ?_
          rintro e w10 ⟨hb10, a10, n10, c10, rfl, hrs10⟩
          have hB10 := HB9.out.trans (hb10.mono HB9.out.size)
          have hbx10 := (hB10.block bx (lt_of_block HBX6.out)).trans HBX6.out
          have hpr10 := HPR6.out.below hB10
          obtain ⟨u1, u2, u3, us, xs, hri, _, _⟩ := hpr10.rm
          obtain ⟨ar, cr, rfl, hus⟩ := us_of hri.own2
          obtain ⟨me, hme⟩ : ∃ me, me = S6.E.length := ⟨_, rfl⟩
          rw [← hme] at hri hus
          have hqc : ∀ w' : World, Below w10.heap.size w10 w' → w'.cell? ⟨q, 1, none⟩ = some (.slice ar me cr) := fun w' hb => by rw [cell_of_blk ((hb.block q (lt_of_block hri.blk)).trans hri.blk)]; rfl
          have hkp : ∀ w' : World, Below w10.heap.size w10 w' → w'.cell? ⟨bx, 1, none⟩ = some (.int .i64 ix) ∧ w'.cell? ⟨bx, 2, none⟩ = some (.string data) ∧ w'.cell? ⟨q, 1, none⟩ = some (.slice ar me cr) := fun w' hb => ⟨by rw [cell_of_blk ((hb.block bx (lt_of_block hbx10)).trans hbx10)]; rfl, by rw [cell_of_blk ((hb.block bx (lt_of_block hbx10)).trans hbx10)]; rfl, hqc w' hb⟩
          have hmy := fun w' (hb : Below w10.heap.size w10 w') => pmay_any p F6 S6 ix data w' (hpr10.pm.below hb) (20 + k + 1) HOK6.out (by omega)
          have hhs := fun w' (hb : Below w10.heap.size w10 w') => rhas_any q G6 S6 ix data w' (hpr10.rm.below hb) (20 + k + 1) HOK6.out (by omega)
          have htx := fun w' (hb : Below w10.heap.size w10 w') => rtexts_any a9 a10 n9 n10 c9 c10 IL IL w' ((HRS9.out.later hb10).later hb) (hrs10.later hb)
          simp only [decide_true] at htx
          have hep := fun w' (hb : Below w10.heap.size w10 w') => pepochs_any p F6 S6 w' (hpr10.pm.below hb) (20 + k + 1) HOK6.out (by omega)
          have hnum := fun w' w'' (hb : Below w10.heap.size w10 w') (hb2 : Below w'.heap.size w' w'') ae ce (hA : Us w'' ae me ce S6.E) => numbers_any ae ar me ce cr S6.E w'' hA (hus.later (hb.trans (hb2.mono hb.size)))
          obtain ⟨mb, hmb⟩ : ∃ mb, mb = S6.may ix data := ⟨_, rfl⟩
          simp only [← hmb] at hmy hhs
          rw [← hme] at hep
          have hbb : (mb != mb) = false := by simp
          have HMY := Lib.hid hmy
          have HHS := Lib.hid hhs
          have HTX := Lib.hid htx
          have HEP := Lib.hid hep
          have HNU := Lib.hid hnum
          have HKP2 := Lib.hid hkp
          have HB10 := Lib.hid (HB6.out.trans (hB10.mono HB6.out.size))
          have HPR10 := Lib.hid hpr10
          have HME := Lib.hid hme
          have HD10 := Lib.hid (show Below w10.heap.size w10 w10.drew from Below.drew (Below.refl _ _))
          clear hmy hhs htx hep hnum hkp hqc hpr10 hri hus hbx10 hB10 hb10 hrs10 hmb hme HIR9 HIR HIM HLA HLR f4 e1 e2 e4
          go_wp2_with fail
          go_region_held3 (fun w' : World => w'.cell? ⟨bx, 1, none⟩ = some (.int .i64 ix) ∧ w'.cell? ⟨bx, 2, none⟩ = some (.string data) ∧ w'.cell? ⟨q, 1, none⟩ = some (.slice ar me cr)) (first | exact HKP2.out _ (Below.refl _ _) | exact HKP2.out _ HD10.out | exact HKP2.out _ hm1 | exact HKP2.out _ hm2 | exact HKP2.out _ hm3 | exact HKP2.out _ hm4 | exact HKP2.out _ hm5)
            (first
            | (go_at_call 22; refine (HMY.out _ HD10.out).mono ?_; rintro e m1 ⟨rfl, hm0⟩; have hm1 := HD10.out.trans (hm0.mono HD10.out.size); clear hm0)
            | (go_at_call 23; refine (HHS.out m1 hm1).mono ?_; rintro e m2 ⟨rfl, hm0⟩; have hm2 := hm1.trans (hm0.mono hm1.size); clear hm0)
            | (go_at_call 24; refine (HTX.out m2 hm2).mono ?_; rintro e m3 ⟨rfl, hm0⟩; have hm3 := hm2.trans (hm0.mono hm2.size); clear hm0)
            | (go_at_call 26; refine (HEP.out m3 hm3).mono ?_; rintro e m4 ⟨ve, rfl, hown, hm0⟩; rw [HME.out] at hown; obtain ⟨ae, ce, rfl, hue⟩ := us_of hown; rw [← HME.out] at hue; have HUE := Lib.hid hue; have HM0 := Lib.hid hm0; have hm4 := hm3.trans (hm0.mono hm3.size); clear hm0 hown hue; rw [← HME.out])
            | (go_at_call 25; refine (HNU.out m3 m4 hm3 HM0.out ae ce HUE.out).mono ?_; rintro e m5 ⟨rfl, hm0⟩; have hm5 := hm4.trans (hm0.mono hm4.size); clear hm0))
          all_goals (
            rename_i hHeld
            clear hHeld
            have HFIN := Lib.hid (HB10.out.trans (hm5.mono HB10.out.size))
            have HPRF := Lib.hid (HPR10.out.below hm5)
            clear hm1 hm2 hm3 hm4 hm5
            go_wp2
            go_roundw
            case rel => exact ⟨k + 1, by omega, by go_num, HFIN.out, F6, G6, S6, HPRF.out, ok_mono HOK6.out (by omega)⟩
            case measure => simp [intOf]; omega))
      · rcases hw : S.sealP ep with ⟨E1, T1⟩
        have hok1 := ok_seal HOK.out ep hhi
        rw [hw] at hok1
        have HOK1 := Lib.hid (show T1.ok (20 + k + 1) from hok1)
        have h1 := pseal_any p F' S ep w4.drew (HPR4.out.pm.below HD.out) (20 + k) HOK.out (by omega) hhi
        rw [hw] at h1
        have h2 := fun w' (hh : RM w' q G' S) => rseal_any q G' S ep w' hh (20 + k) HOK.out (by omega) hhi
        simp only [hw] at h2
        have hkp : ∀ w5, PQ w4.drew F' p T1 w5 → w5.heap[bx]? = w4.heap[bx]? := fun w5 h => by
          obtain ⟨_, _, hf, _⟩ := h
          exact HFB.out F' w4.drew w5 (fun j hj => HNF.out j (.inl hj)) hf HSZ4.out
        have hkr : ∀ w5 w6, PQ w4.drew F' p T1 w5 → RQ w5 G' q T1 w6 → w6.heap[bx]? = w4.heap[bx]? := fun w5 w6 h h2 => by
          have h0 := hkp w5 h
          obtain ⟨_, _, hf, _⟩ := h
          obtain ⟨_, _, hf2, _⟩ := h2
          exact (HFB.out G' w5 w6 (fun j hj => HNF.out j (.inr hj)) hf2 (Nat.lt_of_lt_of_le HSZ4.out hf.size)).trans h0
        have hcl : ∀ w5 : World, w5.heap[bx]? = w4.heap[bx]? → w5.cell? ⟨bx, 4, none⟩ = some (.int .u64 (ep : Int)) := fun w5 h => by rw [cell_of_blk (h.trans HBX4.out)]; rfl
        have HCL := Lib.hid hcl
        have H1 := Lib.hid h1
        have H2 := Lib.hid h2
        have HKP := Lib.hid hkp
        have HKR := Lib.hid hkr
        have HQ1 := Lib.hid (show ∀ w5, PQ w4.drew F' p T1 w5 → RM w5 q G' S from fun w5 h => (HPR4.out.below HD.out).mid h)
        have hee : (E1 != E1) = false := by simp
        have HQU := Lib.hid (show ∀ w5, PQ w4.drew F' p T1 w5 → PQ w4 F' p T1 w5 from fun w5 h => by
          obtain ⟨F5, hp5, hf5, ht5⟩ := h
          exact ⟨F5, hp5, ⟨hf5.os, hf5.tape, hf5.output, hf5.size, hf5.block⟩, ht5⟩)
        clear h1 h2 hkp hkr hcl hw hok1 b0
        go_wp2_with fail
        go_region_held3 (fun w' : World => w'.cell? ⟨bx, 4, none⟩ = some (.int .u64 (ep : Int))) (first | exact HCL.out _ rfl | exact HCL.out _ (HKP.out _ hpp) | exact HCL.out _ (HKR.out _ _ hpp hrp))
          (first
          | (go_at_call 16; refine H1.out.mono ?_; rintro e w5 ⟨rfl, hpp⟩)
          | (go_at_call 17; refine (H2.out w5 (HQ1.out w5 hpp)).mono ?_; rintro e w6 ⟨rfl, hrp⟩))
        all_goals (
          rename_i hHeld
          clear hHeld
          have HT := Lib.hid (HEND.out T1 w5 w6 HOK1.out (HQU.out w5 hpp) hrp)
          clear hpp hrp b1 b2 b4
          obtain ⟨⟨F6, G6, S6, hpr6, hok6, hne6⟩, hB6, hbx6⟩ := HT.out
          have e1 : w6.cell? ⟨bx, 1, none⟩ = some (.int .i64 ix) := by rw [cell_of_blk hbx6]; rfl
          have e2 : w6.cell? ⟨bx, 2, none⟩ = some (.string data) := by rw [cell_of_blk hbx6]; rfl
          have e4 : w6.cell? ⟨bx, 4, none⟩ = some (.int .u64 (ep : Int)) := by rw [cell_of_blk hbx6]; rfl
          have hla := plast_any p F6 S6 ix w6 hpr6.pm (20 + k + 1) hok6 (by omega)
          have hlr := rlast_any q G6 S6 ix w6 hpr6.rm (20 + k + 1) hok6 (by omega)
          obtain ⟨LX, hLX⟩ : ∃ LX, LX = S6.last ix := ⟨_, rfl⟩
          rw [← hLX] at hla hlr
          obtain ⟨sx, z⟩ := LX
          unfold twoV at hla hlr
          dsimp only at hla hlr
          have hq1 : ∀ w, (binOp .neq 9 (.string sx) (.string sx)).run Try.prog w = .ok (.bool false) w := fun w => by rw [neq_txt, decide_eq_true rfl]; rfl
          have hgd1 := fun x y w => guard_txt .neq x y sx sx w
          obtain ⟨VX, hVX⟩ : ∃ V, V = Value.string sx := ⟨_, rfl⟩
          rw [← hVX] at hla hlr
          simp only [← hVX] at hq1 hgd1
          have hzz : (z != z) = false := by simp
          have him := pimage_any p F6 S6 ep w6 hpr6.pm (20 + k + 1) hok6 (by omega) hhi
          have hir := fun w' (hb : Below w6.heap.size w6 w') => rimage_any q G6 S6 ep w' (hpr6.rm.below hb) (20 + k + 1) hok6 (by omega) hhi
          obtain ⟨IX, hIX⟩ : ∃ IX, IX = S6.image ep := ⟨_, rfl⟩
          rw [← hIX] at him
          simp only [← hIX] at hir
          obtain ⟨IL, y⟩ := IX
          dsimp only at him hir
          have hyy : (y != y) = false := by simp
          have HLA := Lib.hid hla
          have HLR := Lib.hid hlr
          have HIM := Lib.hid him
          have HIR := Lib.hid hir
          have HPR6 := Lib.hid hpr6
          have HOK6 := Lib.hid hok6
          have HB6 := Lib.hid hB6
          have HBX6 := Lib.hid hbx6
          clear hla hlr him hir hpr6 hok6 hne6 hB6 hbx6 HT hLX hIX hVX
          go_wp2_with fail
          refine HLA.out.mono ?_
          rintro e w7 ⟨rfl, hw7⟩; obtain rfl := hw7.symm; clear hw7
          go_wp2_with fail
          refine HLR.out.mono ?_
          rintro e w8 ⟨rfl, hw8⟩; obtain rfl := hw8.symm; clear hw8
          go_wp2_with fail
          refine HIM.out.mono ?_
          rintro e w9 ⟨hb9, a9, n9, c9, rfl, hrs9, _⟩
          have HIR9 := Lib.hid (HIR.out w9 hb9)
          have f4 : w9.cell? ⟨bx, 4, none⟩ = some (.int .u64 (ep : Int)) := by rw [cell_of_blk ((hb9.block bx (lt_of_block HBX6.out)).trans HBX6.out)]; rfl
          have HB9 := Lib.hid hb9
          have HRS9 := Lib.hid hrs9
          clear hb9 hrs9
          go_wp2_with fail
          refine HIR9.out.mono ?_
          rintro e w10 ⟨hb10, a10, n10, c10, rfl, hrs10⟩
          have hB10 := HB9.out.trans (hb10.mono HB9.out.size)
          have hbx10 := (hB10.block bx (lt_of_block HBX6.out)).trans HBX6.out
          have hpr10 := HPR6.out.below hB10
          obtain ⟨u1, u2, u3, us, xs, hri, _, _⟩ := hpr10.rm
          obtain ⟨ar, cr, rfl, hus⟩ := us_of hri.own2
          obtain ⟨me, hme⟩ : ∃ me, me = S6.E.length := ⟨_, rfl⟩
          rw [← hme] at hri hus
          have hqc : ∀ w' : World, Below w10.heap.size w10 w' → w'.cell? ⟨q, 1, none⟩ = some (.slice ar me cr) := fun w' hb => by rw [cell_of_blk ((hb.block q (lt_of_block hri.blk)).trans hri.blk)]; rfl
          have hkp : ∀ w' : World, Below w10.heap.size w10 w' → w'.cell? ⟨bx, 1, none⟩ = some (.int .i64 ix) ∧ w'.cell? ⟨bx, 2, none⟩ = some (.string data) ∧ w'.cell? ⟨q, 1, none⟩ = some (.slice ar me cr) := fun w' hb => ⟨by rw [cell_of_blk ((hb.block bx (lt_of_block hbx10)).trans hbx10)]; rfl, by rw [cell_of_blk ((hb.block bx (lt_of_block hbx10)).trans hbx10)]; rfl, hqc w' hb⟩
          have hmy := fun w' (hb : Below w10.heap.size w10 w') => pmay_any p F6 S6 ix data w' (hpr10.pm.below hb) (20 + k + 1) HOK6.out (by omega)
          have hhs := fun w' (hb : Below w10.heap.size w10 w') => rhas_any q G6 S6 ix data w' (hpr10.rm.below hb) (20 + k + 1) HOK6.out (by omega)
          have htx := fun w' (hb : Below w10.heap.size w10 w') => rtexts_any a9 a10 n9 n10 c9 c10 IL IL w' ((HRS9.out.later hb10).later hb) (hrs10.later hb)
          simp only [decide_true] at htx
          have hep := fun w' (hb : Below w10.heap.size w10 w') => pepochs_any p F6 S6 w' (hpr10.pm.below hb) (20 + k + 1) HOK6.out (by omega)
          have hnum := fun w' w'' (hb : Below w10.heap.size w10 w') (hb2 : Below w'.heap.size w' w'') ae ce (hA : Us w'' ae me ce S6.E) => numbers_any ae ar me ce cr S6.E w'' hA (hus.later (hb.trans (hb2.mono hb.size)))
          obtain ⟨mb, hmb⟩ : ∃ mb, mb = S6.may ix data := ⟨_, rfl⟩
          simp only [← hmb] at hmy hhs
          rw [← hme] at hep
          have hbb : (mb != mb) = false := by simp
          have HMY := Lib.hid hmy
          have HHS := Lib.hid hhs
          have HTX := Lib.hid htx
          have HEP := Lib.hid hep
          have HNU := Lib.hid hnum
          have HKP2 := Lib.hid hkp
          have HB10 := Lib.hid (HB6.out.trans (hB10.mono HB6.out.size))
          have HPR10 := Lib.hid hpr10
          have HME := Lib.hid hme
          have HD10 := Lib.hid (show Below w10.heap.size w10 w10.drew from Below.drew (Below.refl _ _))
          clear hmy hhs htx hep hnum hkp hqc hpr10 hri hus hbx10 hB10 hb10 hrs10 hmb hme HIR9 HIR HIM HLA HLR f4 e1 e2 e4
          go_wp2_with fail
          go_region_held3 (fun w' : World => w'.cell? ⟨bx, 1, none⟩ = some (.int .i64 ix) ∧ w'.cell? ⟨bx, 2, none⟩ = some (.string data) ∧ w'.cell? ⟨q, 1, none⟩ = some (.slice ar me cr)) (first | exact HKP2.out _ (Below.refl _ _) | exact HKP2.out _ HD10.out | exact HKP2.out _ hm1 | exact HKP2.out _ hm2 | exact HKP2.out _ hm3 | exact HKP2.out _ hm4 | exact HKP2.out _ hm5)
            (first
            | (go_at_call 22; refine (HMY.out _ HD10.out).mono ?_; rintro e m1 ⟨rfl, hm0⟩; have hm1 := HD10.out.trans (hm0.mono HD10.out.size); clear hm0)
            | (go_at_call 23; refine (HHS.out m1 hm1).mono ?_; rintro e m2 ⟨rfl, hm0⟩; have hm2 := hm1.trans (hm0.mono hm1.size); clear hm0)
            | (go_at_call 24; refine (HTX.out m2 hm2).mono ?_; rintro e m3 ⟨rfl, hm0⟩; have hm3 := hm2.trans (hm0.mono hm2.size); clear hm0)
            | (go_at_call 26; refine (HEP.out m3 hm3).mono ?_; rintro e m4 ⟨ve, rfl, hown, hm0⟩; rw [HME.out] at hown; obtain ⟨ae, ce, rfl, hue⟩ := us_of hown; rw [← HME.out] at hue; have HUE := Lib.hid hue; have HM0 := Lib.hid hm0; have hm4 := hm3.trans (hm0.mono hm3.size); clear hm0 hown hue; rw [← HME.out])
            | (go_at_call 25; refine (HNU.out m3 m4 hm3 HM0.out ae ce HUE.out).mono ?_; rintro e m5 ⟨rfl, hm0⟩; have hm5 := hm4.trans (hm0.mono hm4.size); clear hm0))
          all_goals (
            rename_i hHeld
            clear hHeld
            have HFIN := Lib.hid (HB10.out.trans (hm5.mono HB10.out.size))
            have HPRF := Lib.hid (HPR10.out.below hm5)
            clear hm1 hm2 hm3 hm4 hm5
            go_wp2
            go_roundw
            case rel => exact ⟨k + 1, by omega, by go_num, HFIN.out, F6, G6, S6, HPRF.out, ok_mono HOK6.out (by omega)⟩
            case measure => simp [intOf]; omega))
    · obtain rfl : k = l := by omega
      have i1 : ¬ (k : Int) < (k : Int) := by omega
      have HB := Lib.hid hB
      clear hpr hok hB
      go_wp2_with fail
      refine (HKN.out wr HB.out).mono ?_
      rintro e w5 ⟨rfl, hb⟩
      go_wp2
      go_ret
      exact ⟨rfl, hb⟩

end Ap
end Go.Proofs.Ythapcpfemmfhoaa


/-
  Pasts: the document's past in memory; in, Last, Has, Write.
-/
import Derived.Test.YthapcpfemmfhoaaAP6
namespace Go.Proofs.Ythapcpfemmfhoaa
namespace Ap
open Go.RowKit
set_option linter.unusedVariables false
set_option linter.unusedSimpArgs false

/-- The document's past in memory. -/
structure RI (w : World) (p : Nat) (v1 v2 v3 : Value) (vs xs : List Value) (S : PS) : Prop where
  blk : w.heap[p]? = some (.cells #[v1, v2, v3] 49 (0, 0))
  co : Co w v1 vs xs S
  own2 : w.ownsRow 0 30 1 v2 S.E.length (eps S.E)
  own3 : w.ownsRow 0 22 1 v3 S.E.length xs
  ne13 : ∀ k, v1.ownBlock = some k → v3.ownBlock ≠ some k

def rf (p : Nat) (v1 v2 v3 : Value) (vs xs : List Value) (S : PS) (k : Nat) : Prop := k = p ∨ v2.ownBlock = some k ∨ v3.ownBlock = some k ∨ cf v1 vs xs S k

theorem RI.lt {w p v1 v2 v3 vs xs S} (h : RI w p v1 v2 v3 vs xs S) : ∀ k, rf p v1 v2 v3 vs xs S k → k < w.heap.size := by
  rintro k (rfl | e | e | e)
  · exact lt_of_block h.blk
  · exact (h.own2.lt k e).2
  · exact (h.own3.lt k e).2
  · exact h.co.lt k e

theorem RI.kept {w w' : World} {p v1 v2 v3 vs xs S} (h : RI w p v1 v2 v3 vs xs S) (hk : ∀ k, rf p v1 v2 v3 vs xs S k → w'.heap[k]? = w.heap[k]?) : RI w' p v1 v2 v3 vs xs S :=
  ⟨(hk p (.inl rfl)).trans h.blk, h.co.kept fun k e => hk k (.inr (.inr (.inr e))), owns_kept h.own2 fun k e => hk k (.inr (.inl e)), owns_kept h.own3 fun k e => hk k (.inr (.inr (.inl e))), h.ne13⟩

def RM (w : World) (p : Nat) (F : Nat → Prop) (S : PS) : Prop := ∃ v1 v2 v3 vs xs, RI w p v1 v2 v3 vs xs S ∧ (∀ k, rf p v1 v2 v3 vs xs S k → F k) ∧ ∀ k, F k → k < w.heap.size
def RQ (w : World) (F : Nat → Prop) (p : Nat) (S : PS) (w' : World) : Prop := ∃ F', RM w' p F' S ∧ Fr F w w' ∧ ∀ k, F' k → F k ∨ w.heap.size ≤ k

theorem RM.fr {w w' : World} {A p F S} (h : RM w p F S) (hf : Fr A w w') (hd : ∀ k, F k → ¬ A k) : RM w' p F S := by
  obtain ⟨v1, v2, v3, vs, xs, hi, hF, hl⟩ := h
  exact ⟨v1, v2, v3, vs, xs, hi.kept fun k e => hf.block k (hl k (hF k e)) (hd k (hF k e)), hF, fun k e => Nat.lt_of_lt_of_le (hl k e) hf.size⟩
theorem RM.below {w w' : World} {p F S} (h : RM w p F S) (hb : Below w.heap.size w w') : RM w' p F S := h.fr (A := fun _ => False) ⟨hb.os, hb.tape, hb.output, hb.size, fun k hk _ => hb.block k hk⟩ fun _ _ e => e
theorem RQ.same {w p F S} (h : RM w p F S) : RQ w F p S w := ⟨F, h, Fr.refl _ _, fun _ e => .inl e⟩
theorem RQ.below {w w' : World} {p F S} (h : RM w p F S) (hb : Below w.heap.size w w') : RQ w F p S w' := ⟨F, h.below hb, Fr.of_below hb, fun _ e => .inl e⟩

theorem RI.at {w p v1 v2 v3 vs xs S} (h : RI w p v1 v2 v3 vs xs S) {k : Nat} (hk : k < S.L.length) : ∃ g c b off c2, v1 = .slice (some ⟨g, 0, none⟩) S.L.length c ∧ S.L.length ≤ c ∧ c ≤ maxLen ∧ v1.ownBlock = some g ∧ w.cell? ⟨p, 0, none⟩ = some v1 ∧ w.cell? ⟨g, k, none⟩ = some (vAt vs k) ∧ vAt vs k = .slice (some ⟨b, off, none⟩) (LAt S.L k).length c2 ∧ Rs w (some ⟨b, off, none⟩) (LAt S.L k).length c2 (LAt S.L k) := by
  obtain ⟨a, c, e, hle, hcm, hg⟩ := owns_shape1 h.co.own1
  obtain ⟨g, rfl, hgo, _, _⟩ := hg (by omega)
  obtain ⟨b, off, c2, e2, hrs⟩ := (h.co.lists k hk).rs
  have hcell := owns_cell h.co.own1 hgo k _ (vat_get (by have := h.co.vlen; omega))
  exact ⟨g, c, b, off, c2, e, hle, hcm, hgo, by rw [cell_of_blk h.blk]; rfl, hcell, e2, hrs⟩

theorem RI.cells {w p v1 v2 v3 vs xs S} (h : RI w p v1 v2 v3 vs xs S) : ∃ a c a2 c2 a3 c3, v1 = .slice a S.L.length c ∧ S.L.length ≤ c ∧ c ≤ maxLen ∧ v2 = .slice a2 S.E.length c2 ∧ S.E.length ≤ c2 ∧ c2 ≤ maxLen ∧ v3 = .slice a3 S.E.length c3 ∧ S.E.length ≤ c3 ∧ c3 ≤ maxLen ∧ w.cell? ⟨p, 0, none⟩ = some v1 ∧ w.cell? ⟨p, 1, none⟩ = some v2 ∧ w.cell? ⟨p, 2, none⟩ = some v3 := by
  obtain ⟨a, c, e, hle, hcm, hg⟩ := owns_shape1 h.co.own1
  obtain ⟨a2, c2, e2, hle2, hcm2, hg2⟩ := owns_shape1 h.own2
  obtain ⟨a3, c3, e3, hle3, hcm3, hg3⟩ := owns_shape1 h.own3
  exact ⟨a, c, a2, c2, a3, c3, e, hle, hcm, e2, hle2, hcm2, e3, hle3, hcm3, by rw [cell_of_blk h.blk]; rfl, by rw [cell_of_blk h.blk]; rfl, by rw [cell_of_blk h.blk]; rfl⟩

theorem RI.ne1 {w p v1 v2 v3 vs xs S} (h : RI w p v1 v2 v3 vs xs S) {g : Nat} (hg : v1.ownBlock = some g) : p ≠ g := fun e => by
  obtain ⟨cur, hc⟩ := owns_type h.co.own1 hg
  rw [← e, h.blk] at hc; simp at hc
theorem RI.ne2 {w p v1 v2 v3 vs xs S} (h : RI w p v1 v2 v3 vs xs S) {g : Nat} (hg : v1.ownBlock = some g) : ∀ j, v2.ownBlock = some j → j ≠ g := fun j e e2 => by
  obtain ⟨cur, hc⟩ := owns_type h.own2 e
  obtain ⟨cur2, hc2⟩ := owns_type h.co.own1 hg
  rw [e2, hc2] at hc; simp at hc
theorem RI.nel {w p v1 v2 v3 vs xs S} (h : RI w p v1 v2 v3 vs xs S) {k : Nat} (hk : k < S.L.length) : (vAt vs k).ownBlock ≠ some p ∧ (∀ j, v2.ownBlock = some j → (vAt vs k).ownBlock ≠ some j) ∧ ∀ j, v3.ownBlock = some j → (vAt vs k).ownBlock ≠ some j := by
  obtain ⟨bk, csk, ebk, hbk, hbl⟩ := (h.co.lists k hk).blk
  refine ⟨fun e => ?_, fun j e2 e => ?_, fun j e2 e => ?_⟩
  · rw [ebk] at e; cases e
    rw [h.blk] at hbk; simp at hbk
  · obtain ⟨cur, hc⟩ := owns_type h.own2 e2
    rw [ebk] at e; cases e
    rw [hc] at hbk; simp at hbk
  · obtain ⟨cur, hc⟩ := owns_type h.own3 e2
    rw [ebk] at e; cases e
    rw [hc] at hbk; simp at hbk

theorem RI.set {w1 w2 : World} {p : Nat} {v1 v2 v3 : Value} {vs xs : List Value} {S : PS} (h : RI w1 p v1 v2 v3 vs xs S) {k g : Nat} (hk : k < S.L.length) (hg : v1.ownBlock = some g) (v' : Value) (L' : List ByteArray)
    (hkeep : ∀ j, rf p v1 v2 v3 vs xs S j → (vAt vs k).ownBlock ≠ some j → w2.heap[j]? = w1.heap[j]?) (hv : LV w2 v' L') (hf : ∀ j, v'.ownBlock = some j → (vAt vs k).ownBlock = some j ∨ w1.heap.size ≤ j) :
    RI (w2.setCell ⟨g, k, none⟩ v') p v1 v2 v3 (vs.set k v') xs ⟨S.L.set k L', S.E⟩ ∧ ∀ j, rf p v1 v2 v3 (vs.set k v') xs ⟨S.L.set k L', S.E⟩ j → rf p v1 v2 v3 vs xs S j ∨ w1.heap.size ≤ j := by
  refine ⟨⟨?_, h.co.set hk hg v' L' (fun j hj hn => hkeep j (.inr (.inr (.inr hj))) hn) hv hf, owns_kept h.own2 fun j e => ?_, owns_kept h.own3 fun j e => ?_, h.ne13⟩, ?_⟩
  · rw [heap_set_other (h.ne1 hg), hkeep p (.inl rfl) (h.nel hk).1]; exact h.blk
  · rw [heap_set_other (h.ne2 hg j e)]
    exact hkeep j (.inr (.inl e)) ((h.nel hk).2.1 j e)
  · rw [heap_set_other (fun e2 => h.ne13 g hg (by rw [e, e2]))]
    exact hkeep j (.inr (.inr (.inl e))) ((h.nel hk).2.2 j e)
  · rintro j (rfl | e | e | e)
    · exact .inl (.inl rfl)
    · exact .inl (.inr (.inl e))
    · exact .inl (.inr (.inr (.inl e)))
    · exact (cf_set h.co hk v' L' hf j e).imp (fun h => .inr (.inr (.inr h))) id

set_option maxRecDepth 20000 in
set_option maxHeartbeats 400000 in
theorem rin_any (p : Nat) (i : Int) (a : Option Addr) (n c : Nat) (w : World) (hc : w.cell? ⟨p, 0, none⟩ = some (.slice a n c)) :
    Calls Try.prog 31 #[.pointer (some ⟨p, 0, none⟩), .int .i64 i] w fun e w' => e = .returned (.bool (decide (0 ≤ i ∧ i < (n : Int)))) ∧ w' = w := by
  by_cases h0 : 0 ≤ i
  · by_cases h1 : i < (n : Int)
    · go_enter Try.func31, Try.ntmps31
      go_wp2
      go_ret
      exact ⟨by simp [h0, h1], rfl⟩
    · go_enter Try.func31, Try.ntmps31
      go_wp2
      go_ret
      exact ⟨by simp [h0, h1], rfl⟩
  · go_enter Try.func31, Try.ntmps31
    go_wp2
    go_ret
    exact ⟨by simp; intro h; omega, rfl⟩

set_option maxRecDepth 20000 in
set_option maxHeartbeats 1000000 in
theorem rlast_any (p : Nat) (F : Nat → Prop) (S : PS) (i : Int) (w : World) (h : RM w p F S) (N : Nat) (hok : S.ok N) (hN : N ≤ 1000) :
    Calls Try.prog 19 #[.pointer (some ⟨p, 0, none⟩), .int .i64 i] w fun e w' => e = .returned (twoV (S.last i)) ∧ w' = w := by
  obtain ⟨v1, v2, v3, vs, xs, hi, _, _⟩ := h
  have hol := hok.l
  by_cases hs : S.has i
  · obtain ⟨k, rfl, hk⟩ := ps_nat hs
    obtain ⟨g, c, b, off, c2, rfl, hle, hcm, hgo, c0, ck, e2, hrs⟩ := hi.at hk
    rw [e2] at ck
    have hkl := hok.s k hk
    have hmx : (c : Int) ≤ 9223372036854775807 := by unfold maxLen at hcm; omega
    have hf := rin_any p k _ _ c w c0
    rw [decide_eq_true (show 0 ≤ (k : Int) ∧ (k : Int) < (S.L.length : Int) from hs)] at hf
    have HR : S.last (k : Int) = (lastB (LAt S.L k), 0) := by unfold PS.last; rw [if_pos hs]; rfl
    rw [HR]
    obtain ⟨m, hm, hm0, hm1, hm2, hm3⟩ := ok_lat hok hk
    obtain ⟨b', off', eb, _, hcl⟩ := hrs.at0 hm0
    have eb' : b = b' ∧ off = off' := by simpa using eb
    obtain ⟨rfl, rfl⟩ := eb'
    have cm := hcl m hm2
    rw [hm3] at cm
    have HF := Lib.hid hf
    have i0 : (0 : Int) ≤ (k : Int) := by omega
    have i1 : (k : Int) < (S.L.length : Int) := by omega
    have m1 : ((LAt S.L k).length : Int) - 1 = (m : Int) := by omega
    have m2 : ((LAt S.L k).length : Int) ≤ 1000000 := by omega
    have m3 : (m : Int) < ((LAt S.L k).length : Int) := by omega
    have m4 : (0 : Int) ≤ (m : Int) := by omega
    generalize lastB (LAt S.L k) = r at *
    generalize S.L.length = n at *
    generalize (LAt S.L k).length = ln at *
    clear hf HR hs hi hok e2 hrs hgo hkl hcl hm hm3 eb
    go_enter Try.func19, Try.ntmps19
    go_wp2_with fail
    refine HF.out.mono ?_
    rintro e w1 ⟨rfl, hw1⟩; obtain rfl := hw1.symm; clear hw1
    go_wp2
    refine bodyPost_ret (results_tmp2 rfl _ _ _) rfl ?_
    exact ⟨rfl, rfl⟩
  · obtain ⟨a, c, _, _, _, _, rfl, hle, hcm, _, _, _, _, _, _, c0, _⟩ := hi.cells
    have hf := rin_any p i _ _ c w c0
    rw [decide_eq_false (show ¬ (0 ≤ i ∧ i < (S.L.length : Int)) from hs)] at hf
    have HR : S.last i = (noBytes, 3) := by unfold PS.last; rw [if_neg hs]
    rw [HR]
    have HF := Lib.hid hf
    clear hf HR hs hi hok
    go_enter Try.func19, Try.ntmps19
    go_wp2_with fail
    refine HF.out.mono ?_
    rintro e w1 ⟨rfl, hw1⟩; obtain rfl := hw1.symm; clear hw1
    go_wp2
    refine bodyPost_ret (results_tmp2 rfl _ _ _) rfl ?_
    exact ⟨rfl, rfl⟩

/-- The end of a write: behind the append. -/
theorem rw_end {w wa w5 : World} {p : Nat} {F : Nat → Prop} {v1 v2 v3 : Value} {vs xs : List Value} {S : PS} (hi : RI w p v1 v2 v3 vs xs S) (hF : ∀ k, rf p v1 v2 v3 vs xs S k → F k) (hl : ∀ k, F k → k < w.heap.size) {k g : Nat} (hk : k < S.L.length) (hg : v1.ownBlock = some g) (s : ByteArray) (v5 : Value)
    (hwa : ∃ o, wa = w.drew.alloc o) (how : w5.ownsRow 0 9 1 v5 ((LAt S.L k).length + 1) (strs (LAt S.L k ++ [s]))) (hgr : wa.grownBy w5 (vAt vs k).ownBlock) (hat : ∀ j, v5.ownBlock = some j → (vAt vs k).ownBlock = some j ∨ wa.heap.size ≤ j) :
    w5.cell? ⟨p, 0, none⟩ = some v1 ∧ w5.frozen? ⟨g, k, none⟩ = false ∧ (∃ u, w5.cell? ⟨g, k, none⟩ = some u) ∧ RQ w F p ⟨S.L.set k (LAt S.L k ++ [s]), S.E⟩ (w5.setCell ⟨g, k, none⟩ v5) := by
  obtain ⟨o, rfl⟩ := hwa
  have hkeep : ∀ j, j < w.heap.size → (vAt vs k).ownBlock ≠ some j → w5.heap[j]? = w.heap[j]? := fun j hj hn => (hgr.block j (by simp; omega) (fun e => hn e.symm)).trans (Below.heap_alloc w.drew _ _ hj)
  have hat' : ∀ j, v5.ownBlock = some j → (vAt vs k).ownBlock = some j ∨ w.heap.size ≤ j := fun j e => (hat j e).imp id fun h => by simp at h; omega
  have hown5 := owns_kept (w' := w5) hi.co.own1 (fun j e => hkeep j (hi.co.lt j (.inl e)) (hi.co.ne1 hk e))
  obtain ⟨h1, h2⟩ := hi.set (w2 := w5) hk hg v5 (LAt S.L k ++ [s]) (fun j hj hn => hkeep j (hi.lt j hj) hn) (lv_of_owns how (by omega)) hat'
  refine ⟨by rw [World.cell?_of_block (w := w) (hkeep p (lt_of_block hi.blk) (hi.nel hk).1), cell_of_blk hi.blk]; rfl, owns_free hown5 hg k, ⟨_, owns_cell hown5 hg k _ (vat_get (by have := hi.co.vlen; omega))⟩, ?_⟩
  have hgs := hgr.size
  simp at hgs
  refine ⟨fun j => F j ∨ (w.heap.size ≤ j ∧ j < w5.heap.size), ⟨v1, v2, v3, _, _, h1, fun j hj => ?_, ?_⟩, ?_, ?_⟩
  · rcases h2 j hj with e | e
    · exact .inl (hF j e)
    · exact .inr ⟨e, by have := h1.lt j hj; simpa using this⟩
  · rintro j (e | e)
    · have := hl j e; simp; omega
    · simp; omega
  · refine Fr.set (w' := w5) ⟨?_, ?_, ?_, by omega, fun j hj hn => hkeep j hj fun e => hn (hF _ (.inr (.inr (.inr (.inr (.inl ⟨k, hk, e⟩))))))⟩ (.inl (hF _ (.inr (.inr (.inr (.inl hg))))))
    · rw [hgr.os]; rfl
    · rw [hgr.tape]; rfl
    · rw [hgr.output]; rfl
  · rintro j (e | e)
    · exact .inl e
    · exact .inr e.1

set_option maxRecDepth 20000 in
set_option maxHeartbeats 1000000 in
theorem rwrite_any (p : Nat) (F : Nat → Prop) (S : PS) (i : Int) (s : ByteArray) (w : World) (h : RM w p F S) (N : Nat) (hok : S.ok N) (hN : N ≤ 1000) :
    Calls Try.prog 11 #[.pointer (some ⟨p, 0, none⟩), .int .i64 i, .string s] w fun e w' => e = .returned (.int .i64 (S.write i s).1) ∧ RQ w F p (S.write i s).2 w' := by
  have hPM := h
  obtain ⟨v1, v2, v3, vs, xs, hi, hF, hl⟩ := h
  have hol := hok.l
  by_cases hs : S.has i
  · obtain ⟨k, rfl, hk⟩ := ps_nat hs
    obtain ⟨g, c, b, off, c2, rfl, hle, hcm, hgo, c0, ck, e2, hrs⟩ := hi.at hk
    have hkl := hok.s k hk
    have hmx : (c : Int) ≤ 9223372036854775807 := by unfold maxLen at hcm; omega
    have hf := rin_any p k _ _ c w c0
    rw [decide_eq_true (show 0 ≤ (k : Int) ∧ (k : Int) < (S.L.length : Int) from hs)] at hf
    have HF := Lib.hid hf
    have hr := rright_any s w
    by_cases hz : s.size = 64
    · have HR : S.write (k : Int) s = (0, ⟨S.L.set k (LAt S.L k ++ [s]), S.E⟩) := by unfold PS.write; rw [if_pos hs, if_pos hz]; rfl
      rw [HR]
      rw [decide_eq_true hz] at hr
      have HRI := Lib.hid hr
      have i0 : (0 : Int) ≤ (k : Int) := by omega
      have i1 : (k : Int) < (S.L.length : Int) := by omega
      have hpl := lt_of_block hi.blk
      have hgl := hi.co.lt g (.inl hgo)
      have c0a : (w.drew.alloc (.cells #[.string s] 9)).cell? ⟨p, 0, none⟩ = some (.slice (some ⟨g, 0, none⟩) S.L.length c) := by rw [World.cell?_of_block (w := w) (Below.heap_alloc w.drew _ _ hpl)]; exact c0
      have cka : (w.drew.alloc (.cells #[.string s] 9)).cell? ⟨g, k, none⟩ = some (vAt vs k) := by rw [World.cell?_of_block (w := w) (Below.heap_alloc w.drew _ _ hgl)]; exact ck
      have hlv : LV (w.drew.alloc (.cells #[.string s] 9)) (vAt vs k) (LAt S.L k) := (hi.co.lists k hk).kept fun j hj => Below.heap_alloc w.drew _ _ (hi.co.lt j (.inr (.inl ⟨k, hk, hj⟩)))
      have hnw : (w.drew.alloc (.cells #[.string s] 9)).cell? ⟨w.heap.size, 0, none⟩ = some (.string s) := (cell_of_blk (heap_alloc_new w.drew (.cells #[.string s] 9)) 0).trans rfl
      have HE := Lib.hid (fun v5 w5 how hgr hat => rw_end (wa := w.drew.alloc (.cells #[.string s] 9)) (w5 := w5) hi hF hl hk hgo s v5 ⟨_, rfl⟩ how hgr hat)
      have HLV := Lib.hid hlv
      have HNW := Lib.hid hnw
      have HL1 := Lib.hid (show (LAt S.L k).length < 1000000 by omega)
      have c0w := c0
      have ckw := ck
      obtain ⟨V, hV⟩ : ∃ V, V = vAt vs k := ⟨_, rfl⟩
      rw [← hV] at cka HLV HE ckw e2
      clear hf hr hs hi hok hrs hkl hF hl hPM hlv hnw c0 ck hz HR hV e2
      go_enter Try.func11, Try.ntmps11
      go_wp2_with fail
      refine HF.out.mono ?_
      rintro e w1 ⟨rfl, hw1⟩; obtain rfl := hw1.symm; clear hw1
      go_wp2_with fail
      refine HRI.out.mono ?_
      rintro e w1 ⟨rfl, hw1⟩; obtain rfl := hw1.symm; clear hw1
      go_wp2_with fail
      go_region_law (first
        | (refine step_append_lv (o := ⟨some 28, _, _, _, _, _⟩) rfl (.tmp 25) (.tmp 27) rfl V (LAt S.L k) (by rfl) HLV.out HL1.out s w.heap.size 1 (by rfl) HNW.out ?_; intro v5 w5 how5 hg5 hat5; obtain ⟨p5, f5, ⟨u5, k5⟩, hend⟩ := HE.out v5 w5 how5 hg5 hat5; obtain ⟨a5, n5, rfl, _, _, _⟩ := owns_shape1 how5; have HX := Lib.hid hend; clear hend how5 hg5 hat5))
      all_goals (
        go_wp2
        go_ret
        exact ⟨rfl, HX.out⟩)
    · have HR : S.write (k : Int) s = (4, S) := by unfold PS.write; rw [if_pos hs, if_neg hz]
      rw [HR]
      rw [decide_eq_false hz] at hr
      have HRI := Lib.hid hr
      have HX := Lib.hid hPM
      clear hf hr hs hi hok hrs hkl hF hl hPM
      go_enter Try.func11, Try.ntmps11
      go_wp2_with fail
      refine HF.out.mono ?_
      rintro e w1 ⟨rfl, hw1⟩; obtain rfl := hw1.symm; clear hw1
      go_wp2_with fail
      refine HRI.out.mono ?_
      rintro e w1 ⟨rfl, hw1⟩; obtain rfl := hw1.symm; clear hw1
      go_wp2
      go_ret
      exact ⟨rfl, RQ.same HX.out⟩
  · obtain ⟨a, c, _, _, _, _, rfl, hle, hcm, _, _, _, _, _, _, c0, _⟩ := hi.cells
    have hf := rin_any p i _ _ c w c0
    rw [decide_eq_false (show ¬ (0 ≤ i ∧ i < (S.L.length : Int)) from hs)] at hf
    have HR : S.write i s = (3, S) := by unfold PS.write; rw [if_neg hs]
    rw [HR]
    have HF := Lib.hid hf
    have HX := Lib.hid hPM
    clear hf HR hs hi hok hPM
    go_enter Try.func11, Try.ntmps11
    go_wp2_with fail
    refine HF.out.mono ?_
    rintro e w1 ⟨rfl, hw1⟩; obtain rfl := hw1.symm; clear hw1
    go_wp2
    go_ret
    exact ⟨rfl, RQ.same HX.out⟩

end Ap
end Go.Proofs.Ythapcpfemmfhoaa


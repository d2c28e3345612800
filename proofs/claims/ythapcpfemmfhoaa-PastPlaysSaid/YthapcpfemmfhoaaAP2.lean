/-
  Pasts: the program's May, Last, Write.
-/
import Derived.Test.YthapcpfemmfhoaaAP1
namespace Go.Proofs.Ythapcpfemmfhoaa
namespace Ap
open Go.RowKit
set_option linter.unusedVariables false
set_option linter.unusedSimpArgs false

theorem Try.infoSl : (Try.prog.info? 22).map (fun i => (i.zero, i.size, i.bytes)) = some (some (.slice none 0 0), 1, 24) := by kernel_rfl
theorem Try.infoIm : (Try.prog.info? 63).map (fun i => (i.zero, i.size, i.bytes)) = some (some (.agg #[.int .u64 0, .slice none 0 0]), 2, 32) := by kernel_rfl

/-- The list of a sector that there is, loaded. -/
theorem PI.at {w p v1 v2 vs xs S} (h : PI w p v1 v2 vs xs S) {k : Nat} (hk : k < S.L.length) : ∃ g c b off c2, v1 = .slice (some ⟨g, 0, none⟩) S.L.length c ∧ S.L.length ≤ c ∧ c ≤ maxLen ∧ v1.ownBlock = some g ∧ w.cell? ⟨p, 0, none⟩ = some v1 ∧ w.cell? ⟨g, k, none⟩ = some (vAt vs k) ∧ vAt vs k = .slice (some ⟨b, off, none⟩) (LAt S.L k).length c2 ∧ Rs w (some ⟨b, off, none⟩) (LAt S.L k).length c2 (LAt S.L k) := by
  obtain ⟨a, c, e, hle, hcm, hg⟩ := owns_shape1 h.co.own1
  obtain ⟨g, rfl, hgo, _, _⟩ := hg (by omega)
  obtain ⟨b, off, c2, e2, hrs⟩ := (h.co.lists k hk).rs
  have hcell := owns_cell h.co.own1 hgo k _ (vat_get (by have := h.co.vlen; omega))
  exact ⟨g, c, b, off, c2, e, hle, hcm, hgo, by rw [cell_of_blk h.blk]; rfl, hcell, e2, hrs⟩

theorem PI.cells {w p v1 v2 vs xs S} (h : PI w p v1 v2 vs xs S) : ∃ a c a2 c2, v1 = .slice a S.L.length c ∧ S.L.length ≤ c ∧ c ≤ maxLen ∧ v2 = .slice a2 S.E.length c2 ∧ S.E.length ≤ c2 ∧ c2 ≤ maxLen ∧ w.cell? ⟨p, 0, none⟩ = some v1 ∧ w.cell? ⟨p, 1, none⟩ = some v2 := by
  obtain ⟨a, c, e, hle, hcm, hg⟩ := owns_shape1 h.co.own1
  obtain ⟨a2, c2, e2, hle2, hcm2, hg2⟩ := owns_shape1 h.own2
  exact ⟨a, c, a2, c2, e, hle, hcm, e2, hle2, hcm2, by rw [cell_of_blk h.blk]; rfl, by rw [cell_of_blk h.blk]; rfl⟩

set_option maxRecDepth 20000 in
set_option maxHeartbeats 1000000 in
theorem pmay_any (p : Nat) (F : Nat → Prop) (S : PS) (i : Int) (s : ByteArray) (w : World) (h : PM w p F S) (N : Nat) (hok : S.ok N) (hN : N ≤ 1000) :
    Calls Try.prog 22 #[.pointer (some ⟨p, 0, none⟩), .int .i64 i, .string s] w fun e w' => e = .returned (.bool (S.may i s)) ∧ Below w.heap.size w w' := by
  obtain ⟨v1, v2, vs, xs, hi, _, _⟩ := h
  have hol := hok.l
  by_cases hs : S.has i
  · obtain ⟨k, rfl, hk⟩ := ps_nat hs
    obtain ⟨g, c, b, off, c2, rfl, hle, hcm, hgo, c0, ck, e2, hrs⟩ := hi.at hk
    rw [e2] at ck
    have hkl := hok.s k hk
    have hmx : (c : Int) ≤ 9223372036854775807 := by unfold maxLen at hcm; omega
    have hf := fault_any p k _ _ c w c0
    rw [if_pos (by omega)] at hf
    have HR : S.may (k : Int) s = isIn (LAt S.L k) s := by unfold PS.may; rw [decide_eq_true hs]; simp
    rw [HR]
    have HC := Lib.hid (contains_any _ _ _ _ s w hrs (by omega))
    have HF := Lib.hid hf
    obtain ⟨V, hV⟩ : ∃ V, V = Value.string s := ⟨_, rfl⟩
    rw [← hV] at HC ⊢
    have i0 : (0 : Int) ≤ (k : Int) := by omega
    have i1 : (k : Int) < (S.L.length : Int) := by omega
    generalize S.L.length = n at *
    generalize (LAt S.L k).length = m at *
    clear hf HR hs hi hok e2 hrs hV hgo hkl
    go_enter Try.func22, Try.ntmps22
    go_wp2_with fail
    refine HF.out.mono ?_
    rintro e w1 ⟨rfl, hw1⟩; obtain rfl := hw1.symm; clear hw1
    go_wp2_with fail
    refine HC.out.mono ?_
    rintro e w1 ⟨rfl, hb⟩
    go_wp2
    go_ret
    exact ⟨rfl, hb⟩
  · obtain ⟨a, c, a2, c2, rfl, hle, hcm, _, _, _, c0, _⟩ := hi.cells
    have hf := fault_any p i _ _ c w c0
    rw [if_neg (show ¬ (0 ≤ i ∧ i < (S.L.length : Int)) from hs)] at hf
    have HR : S.may i s = false := by unfold PS.may; rw [decide_eq_false hs]; rfl
    rw [HR]
    have HF := Lib.hid hf
    clear hf HR hs hi hok
    go_enter Try.func22, Try.ntmps22
    go_wp2_with fail
    refine HF.out.mono ?_
    rintro e w1 ⟨rfl, hw1⟩; obtain rfl := hw1.symm; clear hw1
    go_wp2
    go_ret
    exact ⟨rfl, Below.refl _ _⟩

def twoV (x : ByteArray × Int) : Value := .tuple #[.string x.1, .int .i64 x.2]

set_option maxRecDepth 20000 in
set_option maxHeartbeats 1000000 in
theorem plast_any (p : Nat) (F : Nat → Prop) (S : PS) (i : Int) (w : World) (h : PM w p F S) (N : Nat) (hok : S.ok N) (hN : N ≤ 1000) :
    Calls Try.prog 18 #[.pointer (some ⟨p, 0, none⟩), .int .i64 i] w fun e w' => e = .returned (twoV (S.last i)) ∧ w' = w := by
  obtain ⟨v1, v2, vs, xs, hi, _, _⟩ := h
  have hol := hok.l
  by_cases hs : S.has i
  · obtain ⟨k, rfl, hk⟩ := ps_nat hs
    obtain ⟨g, c, b, off, c2, rfl, hle, hcm, hgo, c0, ck, e2, hrs⟩ := hi.at hk
    rw [e2] at ck
    have hkl := hok.s k hk
    have hmx : (c : Int) ≤ 9223372036854775807 := by unfold maxLen at hcm; omega
    have hf := fault_any p k _ _ c w c0
    rw [if_pos (by omega)] at hf
    have HR : S.last (k : Int) = (lastB (LAt S.L k), 0) := by unfold PS.last; rw [if_pos hs]; rfl
    rw [HR]
    have HC := Lib.hid (last_any _ _ _ _ w hrs hkl.1 (by omega))
    have HF := Lib.hid hf
    have i0 : (0 : Int) ≤ (k : Int) := by omega
    have i1 : (k : Int) < (S.L.length : Int) := by omega
    generalize lastB (LAt S.L k) = r at *
    generalize S.L.length = n at *
    generalize (LAt S.L k).length = m at *
    clear hf HR hs hi hok e2 hrs hgo hkl
    go_enter Try.func18, Try.ntmps18
    go_wp2_with fail
    refine HF.out.mono ?_
    rintro e w1 ⟨rfl, hw1⟩; obtain rfl := hw1.symm; clear hw1
    go_wp2_with fail
    refine HC.out.mono ?_
    rintro e w1 ⟨rfl, hw1⟩; obtain rfl := hw1.symm; clear hw1
    go_wp2
    refine bodyPost_ret (results_tmp2 rfl _ _ _) rfl ?_
    exact ⟨rfl, rfl⟩
  · obtain ⟨a, c, a2, c2, rfl, hle, hcm, _, _, _, c0, _⟩ := hi.cells
    have hf := fault_any p i _ _ c w c0
    rw [if_neg (show ¬ (0 ≤ i ∧ i < (S.L.length : Int)) from hs)] at hf
    have HR : S.last i = (noBytes, 3) := by unfold PS.last; rw [if_neg hs]
    rw [HR]
    have HF := Lib.hid hf
    clear hf HR hs hi hok
    go_enter Try.func18, Try.ntmps18
    go_wp2_with fail
    refine HF.out.mono ?_
    rintro e w1 ⟨rfl, hw1⟩; obtain rfl := hw1.symm; clear hw1
    go_wp2
    refine bodyPost_ret (results_tmp2 rfl _ _ _) rfl ?_
    exact ⟨rfl, rfl⟩

/-- The end of a write: behind the append. -/
theorem pw_end {w wa w5 : World} {p : Nat} {F : Nat → Prop} {v1 v2 : Value} {vs xs : List Value} {S : PS} (hi : PI w p v1 v2 vs xs S) (hF : ∀ k, pf p v1 v2 vs xs S k → F k) (hl : ∀ k, F k → k < w.heap.size) {k g : Nat} (hk : k < S.L.length) (hg : v1.ownBlock = some g) (s : ByteArray) (v5 : Value)
    (hwa : ∃ o, wa = w.drew.alloc o ∨ wa = w.alloc o) (how : w5.ownsRow 0 9 1 v5 ((LAt S.L k).length + 1) (strs (LAt S.L k ++ [s]))) (hgr : wa.grownBy w5 (vAt vs k).ownBlock) (hat : ∀ j, v5.ownBlock = some j → (vAt vs k).ownBlock = some j ∨ wa.heap.size ≤ j) :
    w5.cell? ⟨p, 0, none⟩ = some v1 ∧ w5.frozen? ⟨g, k, none⟩ = false ∧ (∃ u, w5.cell? ⟨g, k, none⟩ = some u) ∧ PQ w F p ⟨S.L.set k (LAt S.L k ++ [s]), S.E⟩ (w5.setCell ⟨g, k, none⟩ v5) := by
  have hsz : wa.heap.size = w.heap.size + 1 := by obtain ⟨o, rfl | rfl⟩ := hwa <;> simp
  have hold : ∀ j, j < w.heap.size → wa.heap[j]? = w.heap[j]? := fun j hj => by
    obtain ⟨o, rfl | rfl⟩ := hwa
    · exact Below.heap_alloc w.drew _ _ hj
    · exact Below.heap_alloc w _ _ hj
  have hne := hi.co.ne1 hk hg
  have hkeep : ∀ j, j < w.heap.size → (vAt vs k).ownBlock ≠ some j → w5.heap[j]? = w.heap[j]? := fun j hj hn => (hgr.block j (by omega) (fun e => hn e.symm)).trans (hold j hj)
  obtain ⟨bk, csk, ebk, hbk, hbl⟩ := (hi.co.lists k hk).blk
  have hpb : (vAt vs k).ownBlock ≠ some p := fun e => by
    rw [ebk] at e; cases e
    rw [hi.blk] at hbk; simp at hbk
  have hgl := hi.co.lt g (.inl hg)
  have hown5 := owns_kept (w' := w5) hi.co.own1 (fun j e => by rw [hg] at e; cases e; exact hkeep g hgl hne)
  have hat' : ∀ j, v5.ownBlock = some j → (vAt vs k).ownBlock = some j ∨ w.heap.size ≤ j := fun j e => (hat j e).imp id fun h => by omega
  refine ⟨by rw [World.cell?_of_block (w := w) (hkeep p (lt_of_block hi.blk) hpb), cell_of_blk hi.blk]; rfl, owns_free hown5 hg k, ⟨_, owns_cell hown5 hg k _ (vat_get (by have := hi.co.vlen; omega))⟩, ?_⟩
  have hco := hi.co.set hk hg v5 (LAt S.L k ++ [s]) (w2 := w5) (fun j hj hn => hkeep j (hi.co.lt j hj) hn) (lv_of_owns how (by omega)) hat'
  have hcf := cf_set hi.co hk v5 (LAt S.L k ++ [s]) hat'
  have hset : ∀ j, j ≠ g → (w5.setCell ⟨g, k, none⟩ v5).heap[j]? = w5.heap[j]? := fun j hj => by
    simp [World.setCell, Array.getElem?_modify]; intro e; exact absurd e.symm hj
  have hpl := lt_of_block hi.blk
  have hpg : p ≠ g := fun e => by
    obtain ⟨cur, hc⟩ := owns_type hi.co.own1 hg
    rw [← e, hi.blk] at hc; simp at hc
  have h2g : ∀ j, v2.ownBlock = some j → j ≠ g ∧ (vAt vs k).ownBlock ≠ some j := fun j e => by
    obtain ⟨cur, hc⟩ := owns_type hi.own2 e
    refine ⟨fun e2 => ?_, fun e2 => ?_⟩
    · obtain ⟨cur2, hc2⟩ := owns_type hi.co.own1 hg
      rw [e2, hc2] at hc; simp at hc
    · rw [ebk] at e2; cases e2
      rw [hc] at hbk; simp at hbk
  refine ⟨fun j => F j ∨ (w.heap.size ≤ j ∧ j < w5.heap.size), ⟨v1, v2, vs.set k v5, xs, ⟨?_, hco, ?_⟩, ?_, ?_⟩, ?_, ?_⟩
  · rw [hset p hpg, hkeep p hpl hpb]; exact hi.blk
  · refine owns_kept hi.own2 fun j e => ?_
    rw [hset j (h2g j e).1]
    exact hkeep j (hi.own2.lt j e).2 (h2g j e).2
  · have hlt : ∀ j, cf v1 (vs.set k v5) xs ⟨S.L.set k (LAt S.L k ++ [s]), S.E⟩ j → j < w5.heap.size := fun j e => by have := hco.lt j e; simpa using this
    rintro j (rfl | e | e)
    · exact .inl (hF _ (.inl rfl))
    · exact .inl (hF _ (.inr (.inl e)))
    · rcases hcf j e with e2 | e2
      · exact .inl (hF _ (.inr (.inr e2)))
      · exact .inr ⟨e2, hlt j e⟩
  · rintro j (e | e)
    · have := hl j e; have := hgr.size; simp; omega
    · simp; omega
  · have hFr : Fr F w w5 := by
      refine ⟨?_, ?_, ?_, ?_, fun j hj hn => hkeep j hj fun e => hn (hF _ (.inr (.inr (.inr (.inl ⟨k, hk, e⟩)))))⟩
      · rw [hgr.os]; obtain ⟨o, rfl | rfl⟩ := hwa <;> rfl
      · rw [hgr.tape]; obtain ⟨o, rfl | rfl⟩ := hwa <;> rfl
      · rw [hgr.output]; obtain ⟨o, rfl | rfl⟩ := hwa <;> rfl
      · have := hgr.size; omega
    exact hFr.set (.inl (hF _ (.inr (.inr (.inl hg)))))
  · rintro j (e | e)
    · exact .inl e
    · exact .inr e.1

set_option maxRecDepth 20000 in
set_option maxHeartbeats 1000000 in
theorem pwrite_any (p : Nat) (F : Nat → Prop) (S : PS) (i : Int) (s : ByteArray) (w : World) (h : PM w p F S) (N : Nat) (hok : S.ok N) (hN : N ≤ 1000) :
    Calls Try.prog 10 #[.pointer (some ⟨p, 0, none⟩), .int .i64 i, .string s] w fun e w' => e = .returned (.int .i64 (S.write i s).1) ∧ PQ w F p (S.write i s).2 w' := by
  have hPM := h
  obtain ⟨v1, v2, vs, xs, hi, hF, hl⟩ := h
  have hol := hok.l
  by_cases hs : S.has i
  · obtain ⟨k, rfl, hk⟩ := ps_nat hs
    obtain ⟨g, c, b, off, c2, rfl, hle, hcm, hgo, c0, ck, e2, hrs⟩ := hi.at hk
    have hkl := hok.s k hk
    have hmx : (c : Int) ≤ 9223372036854775807 := by unfold maxLen at hcm; omega
    have hf := fault_any p k _ _ c w c0
    rw [if_pos (by omega)] at hf
    have HF := Lib.hid hf
    have hr := right_any s w
    by_cases hz : s.size = 64
    · have HR : S.write (k : Int) s = (0, ⟨S.L.set k (LAt S.L k ++ [s]), S.E⟩) := by unfold PS.write; rw [if_pos hs, if_pos hz]; rfl
      rw [HR]
      rw [decide_eq_true hz] at hr
      have HRI := Lib.hid hr
      have i0 : (0 : Int) ≤ (k : Int) := by omega
      have i1 : (k : Int) < (S.L.length : Int) := by omega
      have hpl := lt_of_block hi.blk
      have hgl := hi.co.lt g (.inl hgo)
      have c0a : (w.drew.alloc (.cells #[.string s] 9)).cell? ⟨p, 0, none⟩ = some (.slice (some ⟨g, 0, none⟩) S.L.length c) := by rw [World.cell?_of_block (w := w) (Below.heap_alloc w.drew _ _ hpl)]; exact c0
      have cka : (w.drew.alloc (.cells #[.string s] 9)).cell? ⟨g, k, none⟩ = some (vAt vs k) := by rw [World.cell?_of_block (w := w) (Below.heap_alloc w.drew _ _ hgl)]; exact ck
      have hlv : LV (w.drew.alloc (.cells #[.string s] 9)) (vAt vs k) (LAt S.L k) := (hi.co.lists k hk).kept fun j hj => Below.heap_alloc w.drew _ _ (hi.co.lt j (.inr (.inl ⟨k, hk, hj⟩)))
      have hnw : (w.drew.alloc (.cells #[.string s] 9)).cell? ⟨w.heap.size, 0, none⟩ = some (.string s) := (cell_of_blk (heap_alloc_new w.drew (.cells #[.string s] 9)) 0).trans rfl
      have HE := Lib.hid (fun v5 w5 how hgr hat => pw_end (wa := w.drew.alloc (.cells #[.string s] 9)) (w5 := w5) hi hF hl hk hgo s v5 ⟨_, .inl rfl⟩ how hgr hat)
      have HLV := Lib.hid hlv
      have HNW := Lib.hid hnw
      have HL1 := Lib.hid (show (LAt S.L k).length < 1000000 by omega)
      have c0w := c0
      have ckw := ck
      obtain ⟨V, hV⟩ : ∃ V, V = vAt vs k := ⟨_, rfl⟩
      rw [← hV] at cka HLV HE ckw e2
      clear hf hr hs hi hok hrs hkl hF hl hPM hlv hnw c0 ck hz HR hV e2
      go_enter Try.func10, Try.ntmps10
      go_wp2_with fail
      refine HF.out.mono ?_
      rintro e w1 ⟨rfl, hw1⟩; obtain rfl := hw1.symm; clear hw1
      go_wp2_with fail
      refine HRI.out.mono ?_
      rintro e w1 ⟨rfl, hw1⟩; obtain rfl := hw1.symm; clear hw1
      go_wp2_with fail
      go_region_law (first
        | (refine step_append_lv (o := ⟨some 31, _, _, _, _, _⟩) rfl (.tmp 28) (.tmp 30) rfl V (LAt S.L k) (by rfl) HLV.out HL1.out s w.heap.size 1 (by rfl) HNW.out ?_; intro v5 w5 how5 hg5 hat5; obtain ⟨p5, f5, ⟨u5, k5⟩, hend⟩ := HE.out v5 w5 how5 hg5 hat5; obtain ⟨a5, n5, rfl, _, _, _⟩ := owns_shape1 how5; have HX := Lib.hid hend; clear hend how5 hg5 hat5))
      all_goals (
        go_wp2
        go_ret
        exact ⟨rfl, HX.out⟩)
    · have HR : S.write (k : Int) s = (4, S) := by unfold PS.write; rw [if_pos hs, if_neg hz]
      rw [HR]
      rw [decide_eq_false hz] at hr
      have HRI := Lib.hid hr
      have HX := Lib.hid hPM
      clear hf hr hs hi hok hrs hkl hF hl hPM
      go_enter Try.func10, Try.ntmps10
      go_wp2_with fail
      refine HF.out.mono ?_
      rintro e w1 ⟨rfl, hw1⟩; obtain rfl := hw1.symm; clear hw1
      go_wp2_with fail
      refine HRI.out.mono ?_
      rintro e w1 ⟨rfl, hw1⟩; obtain rfl := hw1.symm; clear hw1
      go_wp2
      go_ret
      exact ⟨rfl, PQ.same HX.out⟩
  · obtain ⟨a, c, a2, c2, rfl, hle, hcm, _, _, _, c0, _⟩ := hi.cells
    have hf := fault_any p i _ _ c w c0
    rw [if_neg (show ¬ (0 ≤ i ∧ i < (S.L.length : Int)) from hs)] at hf
    have HR : S.write i s = (3, S) := by unfold PS.write; rw [if_neg hs]
    rw [HR]
    have HF := Lib.hid hf
    have HX := Lib.hid hPM
    clear hf HR hs hi hok hPM
    go_enter Try.func10, Try.ntmps10
    go_wp2_with fail
    refine HF.out.mono ?_
    rintro e w1 ⟨rfl, hw1⟩; obtain rfl := hw1.symm; clear hw1
    go_wp2
    go_ret
    exact ⟨rfl, PQ.same HX.out⟩

end Ap
end Go.Proofs.Ythapcpfemmfhoaa


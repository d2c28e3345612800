/-
  Pasts: the document's New, Seal, Image.
-/
import Derived.Test.YthapcpfemmfhoaaAP9
namespace Go.Proofs.Ythapcpfemmfhoaa
namespace Ap
open Go.RowKit
set_option linter.unusedVariables false
set_option linter.unusedSimpArgs false

theorem RI.push {w1 w5 : World} {p : Nat} {v1 v2 v3 v5 : Value} {vs xs : List Value} {S : PS} (h : RI w1 p v1 v2 v3 vs xs S) (s : ByteArray) (how : w5.ownsRow 0 22 1 v5 (S.L.length + 1) (vs ++ [sl1 w1.heap.size])) (hgr : (lay2 w1 s).grownBy w5 v1.ownBlock) (hat : v5.ownBlock = v1.ownBlock ∨ v5.ownBlock = some (lay2 w1 s).heap.size) :
    w5.cell? ⟨p, 0, none⟩ = some v1 ∧ (∀ i, w5.frozen? ⟨p, i, none⟩ = false) ∧ RI (w5.setCell ⟨p, 0, none⟩ v5) p v5 v2 v3 (vs ++ [sl1 w1.heap.size]) xs ⟨S.L ++ [[s]], S.E⟩ ∧
    (∀ j, rf p v5 v2 v3 (vs ++ [sl1 w1.heap.size]) xs ⟨S.L ++ [[s]], S.E⟩ j → rf p v1 v2 v3 vs xs S j ∨ w1.heap.size ≤ j) ∧ Fr (rf p v1 v2 v3 vs xs S) w1 (w5.setCell ⟨p, 0, none⟩ v5) := by
  have hsz := lay2_size w1 s
  have hpl := lt_of_block h.blk
  have hkeep : ∀ k, k < w1.heap.size → v1.ownBlock ≠ some k → w5.heap[k]? = w1.heap[k]? := fun k hk hn => (hgr.block k (by omega) (fun e => hn e.symm)).trans (lay2_old w1 s hk)
  have hp5 : w5.heap[p]? = some (.cells #[v1, v2, v3] 49 (0, 0)) := (hkeep p hpl (fun e => h.ne1 e rfl)).trans h.blk
  have hnew : ∀ k, v1.ownBlock ≠ some k → w1.heap.size = k → w5.heap[k]? = some (.cells #[.string s] 9 (0, 0)) := fun k hn e => by
    subst e
    exact (hgr.block _ (by omega) (fun e => hn e.symm)).trans (lay2_mid w1 s)
  have hv1 : v1.ownBlock ≠ some w1.heap.size := fun e => by have := (h.co.own1.lt _ e).2; omega
  have hco := h.co.push (w2 := w5) (L' := [s]) (fun k hk hn => hkeep k (h.co.lt k hk) hn) how (lv_mid (hnew _ hv1 rfl)) (fun k e => by simp [sl1, Value.ownBlock] at e; omega)
  have hne := hco.ne_ty hp5 (by decide) (by decide)
  have hat' : ∀ k, v5.ownBlock = some k → v1.ownBlock = some k ∨ w1.heap.size ≤ k := fun k e => by
    rcases hat with h5 | h5
    · exact .inl (h5 ▸ e)
    · rw [h5] at e; simp at e; exact .inr (by omega)
  have h2p : ∀ k, v2.ownBlock = some k → k ≠ p := by
    rintro k e rfl
    obtain ⟨cur, hc⟩ := owns_type h.own2 e
    rw [h.blk] at hc; simp at hc
  have h3p : ∀ k, v3.ownBlock = some k → k ≠ p := by
    rintro k e rfl
    obtain ⟨cur, hc⟩ := owns_type h.own3 e
    rw [h.blk] at hc; simp at hc
  refine ⟨by rw [cell_of_blk hp5]; rfl, fun i => free_of_blk hp5 i, ⟨?_, hco.kept fun k hk => heap_set_other (hne k hk), ?_, ?_, ?_⟩, ?_, ?_⟩
  · exact (blk_setCell hp5).trans (by simp)
  · refine owns_kept h.own2 fun k e => ?_
    rw [heap_set_other (h2p k e)]
    exact hkeep k (h.own2.lt k e).2 (fun e1 => h.ne2 e1 k e rfl)
  · refine owns_kept h.own3 fun k e => ?_
    rw [heap_set_other (h3p k e)]
    exact hkeep k (h.own3.lt k e).2 (fun e1 => h.ne13 k e1 e)
  · intro k e e3
    rcases hat' k e with h6 | h6
    · exact h.ne13 k h6 e3
    · have := (h.own3.lt k e3).2; omega
  · rintro j (rfl | e | e | e)
    · exact .inl (.inl rfl)
    · exact .inl (.inr (.inl e))
    · exact .inl (.inr (.inr (.inl e)))
    · exact (cf_push h.co (fun k e => by simp [sl1, Value.ownBlock] at e; omega) hat' j e).imp (fun h => .inr (.inr (.inr h))) id
  · refine Fr.set (w' := w5) ⟨?_, ?_, ?_, ?_, fun k hk hn => hkeep k hk fun e => hn (.inr (.inr (.inr (.inl e))))⟩ (.inl (.inl rfl))
    · rw [hgr.os]; rfl
    · rw [hgr.tape]; rfl
    · rw [hgr.output]; rfl
    · have := hgr.size; omega

set_option maxRecDepth 20000 in
set_option maxHeartbeats 2000000 in
theorem rnew_any (a : Option Addr) (n c : Nat) (Ss : List ByteArray) (w : World) (h : Rs w a n c Ss) (hn : n ≤ 1000) :
    Calls Try.prog 9 #[.slice a n c] w fun e w' => ∃ p F, e = .returned (.pointer (some ⟨p, 0, none⟩)) ∧ RM w' p F (PS.new Ss) ∧ (∀ k, F k → w.heap.size ≤ k) ∧ Below w.heap.size w w' := by
  have hlen := h.len
  have hcm : (c : Int) ≤ 9223372036854775807 := by have := h.cm; unfold maxLen at this; omega
  have hle := h.le
  obtain ⟨W, hW⟩ : ∃ W, W = w.alloc (.cells #[.slice none 0 0, .slice none 0 0, .slice none 0 0] 49) := ⟨_, rfl⟩
  have hbW : Below w.heap.size w W := by rw [hW]; exact (Below.refl _ _).alloc (Nat.le_refl _) _
  have hpW : W.heap[w.heap.size]? = some (.cells #[.slice none 0 0, .slice none 0 0, .slice none 0 0] 49 (0, 0)) := by rw [hW]; exact heap_alloc_new w _
  have hpi : RI W w.heap.size (.slice none 0 0) (.slice none 0 0) (.slice none 0 0) [] [] ⟨[], []⟩ := ⟨hpW, ⟨World.ownsRow_nil _ _ _ _, fun i hi => by simp at hi, fun i j hi => by simp at hi, rfl, fun j hj => by simp at hj, fun i j hi => by simp at hi⟩, World.ownsRow_nil _ _ _ _, World.ownsRow_nil _ _ _ _, fun k e => by simp [Value.ownBlock] at e⟩
  have hpf : ∀ j, rf w.heap.size (.slice none 0 0) (.slice none 0 0) (.slice none 0 0) [] [] ⟨[], []⟩ j → w.heap.size ≤ j := by
    rintro j (rfl | e | e | e | ⟨i, hi, _⟩ | ⟨i, hi, _⟩)
    · exact Nat.le_refl _
    · simp [Value.ownBlock] at e
    · simp [Value.ownBlock] at e
    · simp [Value.ownBlock] at e
    · simp at hi
    · simp at hi
  have HH := Lib.hid h
  have HPI := Lib.hid hpi
  have HPF := Lib.hid hpf
  have HBW := Lib.hid hbW
  have HWW := Lib.hid hW
  have hsl := Try.infoSl
  obtain ⟨i0, hi, hz0, hz1, hz2⟩ := info_parts hsl
  clear h hpi hpf hbW hW hpW hsl
  go_enter Try.func9, Try.ntmps9
  go_upto_region 2 with fail
  rw [← HWW.out]
  go_wp2
  go_loopw [4] (fun i wr => ∃ k : Nat, k ≤ n ∧ i = .int .i64 k ∧ Below w.heap.size w wr ∧ ∃ v1 vs, RI wr w.heap.size v1 (.slice none 0 0) (.slice none 0 0) vs [] ⟨(Ss.take k).map fun s => [s], []⟩ ∧ ∀ j, rf w.heap.size v1 (.slice none 0 0) (.slice none 0 0) vs [] ⟨(Ss.take k).map fun s => [s], []⟩ j → w.heap.size ≤ j) (fun i _ => n - (intOf i).toNat)
  case atStart => exact ⟨0, by omega, rfl, HBW.out, _, _, HPI.out, HPF.out⟩
  case round =>
    obtain ⟨k, hk, rfl, hB, v1, vs, hpi, hpf⟩ := hrel
    by_cases hlt : k < n
    · have i0' : (0 : Int) ≤ (k : Int) := by omega
      have i1 : (k : Int) < (n : Int) := by omega
      obtain ⟨bf, off2, af', hbf, hcf⟩ := (HH.out.later hB).at0 (by omega)
      have ef := hcf k hlt
      have htk : (Ss.take (k + 1)).map (fun s => [s]) = (Ss.take k).map (fun s => [s]) ++ [[lAt Ss k]] := by
        rw [List.take_add_one, List.map_append]
        congr 1
        unfold lAt
        rw [List.getElem?_eq_getElem (by omega)]
        rfl
      have hkl : ((Ss.take k).map fun s => [s]).length = k := by simp; omega
      obtain ⟨s, hs⟩ : ∃ s, s = lAt Ss k := ⟨_, rfl⟩
      rw [← hs] at ef htk
      obtain ⟨T, hT⟩ : ∃ T, T = (Ss.take k).map fun s => [s] := ⟨_, rfl⟩
      rw [← hT] at htk hpi hpf hkl
      have hpd : RI wr.drew w.heap.size v1 (.slice none 0 0) (.slice none 0 0) vs [] ⟨T, []⟩ := hpi.kept fun _ _ => rfl
      have hc0 : wr.cell? ⟨w.heap.size, 0, none⟩ = some v1 := by rw [cell_of_blk hpi.blk]; rfl
      have c1 : (wr.drew.alloc (.cells #[.string s] 9)).cell? ⟨w.heap.size, 0, none⟩ = some v1 := by rw [World.cell?_of_block (w := wr) (Below.heap_alloc wr.drew _ _ (lt_of_block hpi.blk))]; exact hc0
      have c2 : ((wr.drew.alloc (.cells #[.string s] 9)).alloc (.cells #[.slice (some ⟨wr.heap.size, 0, none⟩) 1 1] 22)).cell? ⟨w.heap.size, 0, none⟩ = some v1 := by
        have := lay2_old wr.drew s (lt_of_block hpd.blk)
        rw [World.cell?_of_block (w := wr) (show ((wr.drew.alloc (.cells #[.string s] 9)).alloc (.cells #[.slice (some ⟨wr.heap.size, 0, none⟩) 1 1] 22)).heap[w.heap.size]? = wr.heap[w.heap.size]? from this)]; exact hc0
      have c3 : (wr.alloc (.cells #[.string s] 9)).cell? ⟨w.heap.size, 0, none⟩ = some v1 := c1
      have c4 : ((wr.alloc (.cells #[.string s] 9)).alloc (.cells #[.slice (some ⟨wr.heap.size, 0, none⟩) 1 1] 22)).cell? ⟨w.heap.size, 0, none⟩ = some v1 := c2
      have efa : (wr.alloc (.cells #[.string s] 9)).cell? ⟨bf, off2 + k, none⟩ = some (.string s) := by rw [World.cell?_of_block (w := wr) (Below.heap_alloc wr _ _ hbf)]; exact ef
      have how := hpd.co.own1
      have how0 : wr.drew.ownsRow 0 22 1 v1 k vs := by have := how; rwa [hkl] at this
      have how2 := (how0.alloc (.cells #[.string s] 9)).alloc (.cells #[.slice (some ⟨wr.heap.size, 0, none⟩) 1 1] 22)
      have hlc := lay2_cell wr.drew s
      have HP := Lib.hid hpd
      have HPF2 := Lib.hid hpf
      have HB := Lib.hid hB
      have HOW := Lib.hid how2
      have HLC := Lib.hid hlc
      have HTK := Lib.hid htk
      have HKL := Lib.hid hkl
      have HEND := Lib.hid (fun v5 w5 (how5 : World.ownsRow w5 0 22 1 v5 (k + 1) (vs ++ [sl1 wr.heap.size])) (hg5 : ((wr.drew.alloc (.cells #[.string s] 9)).alloc (.cells #[.slice (some ⟨wr.heap.size, 0, none⟩) 1 1] 22)).grownBy w5 v1.ownBlock) (hat5 : v5.ownBlock = v1.ownBlock ∨ v5.ownBlock = some (wr.heap.size + 1 + 1)) => hpd.push (w5 := w5) (v5 := v5) s (by rw [hkl]; exact how5) hg5 (by rw [lay2_size]; exact hat5))
      subst af'
      clear hpi hpf hB how how0 how2 hlc htk hkl hcf hs hT hpd
      go_wp2_with fail
      go_region_law (first
        | (refine step_append_at (P := Try.prog) (o := ⟨some 24, _, _, _, _, _⟩) rfl (.tmp 17) (.tmp 23) 47 rfl 0 22 i0 _ 1 24 Try.underlying47 hi hz0 hz1 hz2 rfl (by omega) v1 k vs (by rfl) HOW.out ⟨wr.heap.size + 1, 0, none⟩ 1 1 [sl1 wr.heap.size] (by rfl) rfl HLC.out (by simp [sl1, Value.oneCell']) (by unfold maxLen; omega) (by omega) (Nat.zero_le _) ?_; intro v5 w5 how5 hg5 hat5; obtain ⟨c5, f5, hp5, hpf5, hfr5⟩ := HEND.out v5 w5 how5 hg5 (by simpa using hat5); obtain ⟨a5, n5, rfl, _, _, _⟩ := owns_shape1 how5; have HP5 := Lib.hid hp5; have HPF5 := Lib.hid hpf5; have HFR5 := Lib.hid hfr5; clear hp5 hpf5 hfr5 how5 hg5 hat5))
      all_goals (
        have hp6 := HP5.out
        have hpf6 := HPF5.out
        rw [← HTK.out] at hp6 hpf6
        have hB5 := HB.out.trans (Below.trans (show Below w.heap.size wr wr.drew from Below.drew (Below.refl _ _)) (HFR5.out.below (B := w.heap.size) (fun j hj => HPF2.out j hj) HB.out.size))
        have hpf7 := fun j hj => (show w.heap.size ≤ j from by
          rcases hpf6 j hj with e | e
          · exact HPF2.out j e
          · have := HB.out.size; have h2 : wr.drew.heap.size = wr.heap.size := rfl; omega)
        have HP6 := Lib.hid hp6
        have HPF6 := Lib.hid hpf7
        have HB5 := Lib.hid hB5
        clear hp6 hpf6 hpf7 hB5
        go_wp2
        go_roundw
        case rel => exact ⟨k + 1, by omega, by go_num, HB5.out, _, _, HP6.out, HPF6.out⟩
        case measure => simp [intOf]; omega)
    · obtain rfl : k = n := by omega
      have i1 : ¬ (k : Int) < (k : Int) := by omega
      have hall : Ss.take k = Ss := List.take_of_length_le (by omega)
      rw [hall] at hpi hpf
      have HP := Lib.hid hpi
      have HPF2 := Lib.hid hpf
      have HB := Lib.hid hB
      clear hpi hpf hB
      go_wp2
      go_ret
      exact ⟨_, rfl, fun j => w.heap.size ≤ j ∧ j < wr.heap.size, ⟨_, _, _, _, _, HP.out, fun j hj => ⟨HPF2.out j hj, HP.out.lt j hj⟩, fun j hj => hj.2⟩, fun j hj => hj.1, HB.out⟩

end Ap
end Go.Proofs.Ythapcpfemmfhoaa


/-
  Pasts: the program's New, Seal, Image, Epochs.
-/
import Derived.Test.YthapcpfemmfhoaaAP3
import Derived.Deep.Cut
namespace Go.Proofs.Ythapcpfemmfhoaa
namespace Ap
open Go.RowKit
set_option linter.unusedVariables false
set_option linter.unusedSimpArgs false

/-- 'append(out, s)': out the call's own (or nil), s in a new block. -/
theorem wpList_append_s {P : Program} {w w0 : World} {ops : Array Oper} {rest : List Oper} {o : Oper} {a : Act} {Q : Exit → Act → World → Prop} (hgd : o.guard = none) (s x : Operand) (t : TypeId)
    (ho : o.op = .call { callee := .builtin .append, args := #[s, x], argTypes := #[t, t] })
    (base : Nat) (i : TypeInfo) (ht : P.underlying t = some (.slice 9)) (hi : P.info? 9 = some i) (hz : i.zero = some (.string noBytes))
    (hsize : i.size = 1) (hby : i.bytes = 16)
    (v : Value) (n : Nat) (xs : List ByteArray) (hs : a.eval s = v) (hown : w.ownsRow base 9 1 v n (strs xs))
    (y : ByteArray) (hx : a.eval x = .slice (some ⟨w0.heap.size, 0, none⟩) 1 1) (hw : w = w0.alloc (.cells #[.string y] 9))
    (hbytes : n < 1000000) (hbase : base ≤ w.heap.size)
    (h : ∀ v' w', w'.ownsRow base 9 1 v' (n + 1) (strs (xs ++ [y])) → w.grownBy w' v.ownBlock → (v'.ownBlock = v.ownBlock ∨ v'.ownBlock = some w.heap.size) → wpList P ops Q rest (a.put o.dst v') w') : wpList P ops Q (o :: rest) a w := by
  subst hw
  refine wpList_append_own_at (w := w0.alloc (.cells #[.string y] 9)) hgd s x t ho base 9 i (.string noBytes) 1 16 ht hi hz hsize hby rfl (by omega) v n (strs xs) hs hown ⟨w0.heap.size, 0, none⟩ 1 1 (strs [y]) hx rfl ?_ (strs_one _) (by unfold maxLen; omega) (by omega) hbase (fun v' w' h1 h2 _ h4 => h v' w' (by rw [tstrs_append]; exact h1) h2 h4)
  exact one_scell w0 y

theorem Co.ne_ty {w : World} {v1 vs xs S} (h : Co w v1 vs xs S) {p : Nat} {cs : Array Value} {ty : TypeId} (hb : w.heap[p]? = some (.cells cs ty (0, 0))) (h1 : ty ≠ 22) (h2 : ty ≠ 9) : ∀ k, cf v1 vs xs S k → k ≠ p := by
  rintro k (e | ⟨i, hi, e⟩ | ⟨j, hj, e⟩) rfl
  · obtain ⟨cur, hc⟩ := owns_type h.own1 e
    rw [hb] at hc; simp at hc; exact h1 hc.2
  · obtain ⟨b, cs', eb, hbb, _⟩ := (h.lists i hi).blk
    rw [eb] at e; cases e
    rw [hb] at hbb; simp at hbb; exact h2 hbb.2
  · obtain ⟨cur, hc⟩ := owns_type (h.pics j hj) e
    rw [hb] at hc; simp at hc; exact h2 hc.2

/-- One sector more. -/
theorem Co.push {w1 w2 : World} {v1 vs xs S} (h : Co w1 v1 vs xs S) {v5 u : Value} {L' : List ByteArray} (hkeep : ∀ k, cf v1 vs xs S k → v1.ownBlock ≠ some k → w2.heap[k]? = w1.heap[k]?)
    (how : w2.ownsRow 0 22 1 v5 (S.L.length + 1) (vs ++ [u])) (hu : LV w2 u L') (huf : ∀ k, u.ownBlock = some k → w1.heap.size ≤ k) : Co w2 v5 (vs ++ [u]) xs ⟨S.L ++ [L'], S.E⟩ := by
  have hvl := h.vlen
  have hne : ∀ i, i < S.L.length → u.ownBlock ≠ (vAt vs i).ownBlock := fun i hi e => by
    obtain ⟨b, _, eb, _, hb⟩ := (h.lists i hi).blk
    rw [eb] at e
    have := huf b e; omega
  refine ⟨by simpa using how, fun i hi => ?_, fun a b ha hb hab => ?_, h.xlen, fun j hj => ?_, fun a j ha hj => ?_⟩
  · rw [vat_push, lat_push, hvl]
    by_cases e : i = S.L.length
    · rw [if_pos e, if_pos e]; exact hu
    · rw [if_neg e, if_neg e]
      have hi' : i < S.L.length := by simp at hi; omega
      exact (h.lists i hi').kept fun k ek => hkeep k (.inr (.inl ⟨i, hi', ek⟩)) fun e1 => h.ne1 hi' e1 ek
  · have ha' : a < S.L.length + 1 := by simpa using ha
    have hb' : b < S.L.length + 1 := by simpa using hb
    rw [vat_push, vat_push, hvl]
    by_cases e : a = S.L.length
    · rw [if_pos e, if_neg (by omega)]; exact hne b (by omega)
    · rw [if_neg e]
      by_cases e2 : b = S.L.length
      · rw [if_pos e2]; exact (hne a (by omega)).symm
      · rw [if_neg e2]; exact h.apart a b (by omega) (by omega) hab
  · exact owns_kept (h.pics j hj) fun k ek => hkeep k (.inr (.inr ⟨j, hj, ek⟩)) fun e1 => h.nex hj e1 ek
  · have ha' : a < S.L.length + 1 := by simpa using ha
    rw [vat_push, hvl]
    by_cases e : a = S.L.length
    · rw [if_pos e]
      intro e2
      obtain ⟨b, _, eb, _, hb⟩ := hu.blk
      rw [eb] at e2
      have h1 := huf b eb
      have h2 := h.lt b (.inr (.inr ⟨j, hj, e2.symm⟩))
      omega
    · rw [if_neg e]; exact h.cross a j (by omega) hj

theorem cf_push {w1 : World} {v1 vs xs S} (h : Co w1 v1 vs xs S) {v5 u : Value} {L' : List ByteArray} (huf : ∀ k, u.ownBlock = some k → w1.heap.size ≤ k) (hat : ∀ k, v5.ownBlock = some k → v1.ownBlock = some k ∨ w1.heap.size ≤ k) :
    ∀ k, cf v5 (vs ++ [u]) xs ⟨S.L ++ [L'], S.E⟩ k → cf v1 vs xs S k ∨ w1.heap.size ≤ k := by
  have hvl := h.vlen
  rintro k (e | ⟨i, hi, e⟩ | ⟨j, hj, e⟩)
  · exact (hat k e).imp .inl id
  · rw [vat_push, hvl] at e
    by_cases ei : i = S.L.length
    · rw [if_pos ei] at e; exact .inr (huf k e)
    · rw [if_neg ei] at e
      have hi' : i < S.L.length + 1 := by simpa using hi
      exact .inl (.inr (.inl ⟨i, by omega, e⟩))
  · exact .inl (.inr (.inr ⟨j, hj, e⟩))

/-- One image more. -/
theorem Co.pic {w1 w2 : World} {v1 vs xs S} (h : Co w1 v1 vs xs S) {x : Value} {l : List ByteArray} {e : Nat} (hkeep : ∀ k, cf v1 vs xs S k → w2.heap[k]? = w1.heap[k]?)
    (hx : w2.ownsRow 0 9 1 x l.length (strs l)) (hxf : ∀ k, x.ownBlock = some k → w1.heap.size ≤ k) : Co w2 v1 vs (xs ++ [x]) ⟨S.L, S.E ++ [(e, l)]⟩ := by
  have hc := h.kept hkeep
  refine ⟨hc.own1, hc.lists, hc.apart, by simp [h.xlen], fun j hj => ?_, fun a j ha hj => ?_⟩
  · rw [vat_push, eat_push, h.xlen]
    by_cases ej : j = S.E.length
    · rw [if_pos ej, if_pos ej]; exact hx
    · rw [if_neg ej, if_neg ej]; exact hc.pics j (by simp at hj; omega)
  · rw [vat_push, h.xlen]
    by_cases ej : j = S.E.length
    · rw [if_pos ej]
      intro e2
      obtain ⟨b, _, eb, _, hb⟩ := (h.lists a ha).blk
      rw [eb] at e2
      have := hxf b e2.symm; omega
    · rw [if_neg ej]; exact h.cross a j ha (by simp at hj; omega)
theorem cf_pic {w1 : World} {v1 vs xs S} (h : Co w1 v1 vs xs S) {x : Value} {l : List ByteArray} {e : Nat} (hxf : ∀ k, x.ownBlock = some k → w1.heap.size ≤ k) :
    ∀ k, cf v1 vs (xs ++ [x]) ⟨S.L, S.E ++ [(e, l)]⟩ k → cf v1 vs xs S k ∨ w1.heap.size ≤ k := by
  rintro k (e | e | ⟨j, hj, e⟩)
  · exact .inl (.inl e)
  · exact .inl (.inr (.inl e))
  · rw [vat_push, h.xlen] at e
    by_cases ej : j = S.E.length
    · rw [if_pos ej] at e; exact .inr (hxf k e)
    · rw [if_neg ej] at e
      exact .inl (.inr (.inr ⟨j, by simp at hj; omega, e⟩))

def sl1 (q : Nat) : Value := .slice (some ⟨q, 0, none⟩) 1 1
/-- The world where a text lies alone, and its list alone. -/
def lay2 (w : World) (s : ByteArray) : World := (w.alloc (.cells #[.string s] 9)).alloc (.cells #[.slice (some ⟨w.heap.size, 0, none⟩) 1 1] 22)
theorem lay2_size (w s) : (lay2 w s).heap.size = w.heap.size + 2 := by simp [lay2]
theorem lay2_old (w : World) (s) {k : Nat} (hk : k < w.heap.size) : (lay2 w s).heap[k]? = w.heap[k]? := by
  unfold lay2
  exact (Below.heap_alloc _ _ _ (by simp; omega)).trans (Below.heap_alloc w _ _ hk)
theorem lay2_mid (w : World) (s) : (lay2 w s).heap[w.heap.size]? = some (.cells #[.string s] 9 (0, 0)) := by
  unfold lay2
  exact (Below.heap_alloc _ _ _ (by simp)).trans (heap_alloc_new w _)
theorem lay2_cell (w : World) (s) : ∀ (j : Nat) (u : Value), [sl1 w.heap.size][j]? = some u → (lay2 w s).cell? ((⟨w.heap.size + 1, 0, none⟩ : Addr).add j) = some u := by
  intro j u hj
  have hb : (lay2 w s).heap[w.heap.size + 1]? = some (.cells #[.slice (some ⟨w.heap.size, 0, none⟩) 1 1] 22 (0, 0)) := by
    unfold lay2
    have := heap_alloc_new (w.alloc (.cells #[.string s] 9)) (.cells #[.slice (some ⟨w.heap.size, 0, none⟩) 1 1] 22)
    simpa using this
  rw [Addr.add_none, cell_of_blk hb, Nat.zero_add]
  simpa [sl1] using hj
theorem lv_mid {w w5 : World} {s : ByteArray} (h : w5.heap[w.heap.size]? = some (.cells #[.string s] 9 (0, 0))) : LV w5 (sl1 w.heap.size) [s] :=
  ⟨⟨w.heap.size, 0, 1, _, rfl, Nat.le_refl _, by unfold maxLen; omega, h, fun i hi => by
    have : i = 0 := by simpa using hi
    subst this; rfl⟩, .inl ⟨_, _, rfl⟩⟩

theorem PI.push {w1 w5 : World} {p : Nat} {v1 v2 v5 : Value} {vs xs : List Value} {S : PS} (h : PI w1 p v1 v2 vs xs S) (s : ByteArray) (how : w5.ownsRow 0 22 1 v5 (S.L.length + 1) (vs ++ [sl1 w1.heap.size])) (hgr : (lay2 w1 s).grownBy w5 v1.ownBlock) (hat : v5.ownBlock = v1.ownBlock ∨ v5.ownBlock = some (lay2 w1 s).heap.size) :
    w5.cell? ⟨p, 0, none⟩ = some v1 ∧ (∀ i, w5.frozen? ⟨p, i, none⟩ = false) ∧ PI (w5.setCell ⟨p, 0, none⟩ v5) p v5 v2 (vs ++ [sl1 w1.heap.size]) xs ⟨S.L ++ [[s]], S.E⟩ ∧
    (∀ j, pf p v5 v2 (vs ++ [sl1 w1.heap.size]) xs ⟨S.L ++ [[s]], S.E⟩ j → pf p v1 v2 vs xs S j ∨ w1.heap.size ≤ j) ∧ Fr (pf p v1 v2 vs xs S) w1 (w5.setCell ⟨p, 0, none⟩ v5) := by
  have hsz := lay2_size w1 s
  have hpl := lt_of_block h.blk
  have hkeep : ∀ k, k < w1.heap.size → v1.ownBlock ≠ some k → w5.heap[k]? = w1.heap[k]? := fun k hk hn => (hgr.block k (by omega) (fun e => hn e.symm)).trans (lay2_old w1 s hk)
  have hp5 : w5.heap[p]? = some (.cells #[v1, v2] 56 (0, 0)) := (hkeep p hpl (fun e => h.ne1 e rfl)).trans h.blk
  have hnew : ∀ k, v1.ownBlock ≠ some k → w1.heap.size = k → w5.heap[k]? = some (.cells #[.string s] 9 (0, 0)) := fun k hn e => by
    subst e
    exact (hgr.block _ (by omega) (fun e => hn e.symm)).trans (lay2_mid w1 s)
  have hv1 : v1.ownBlock ≠ some w1.heap.size := fun e => by have := (h.co.own1.lt _ e).2; omega
  have hco := h.co.push (w2 := w5) (L' := [s]) (fun k hk hn => hkeep k (h.co.lt k hk) hn) how (lv_mid (hnew _ hv1 rfl)) (fun k e => by simp [sl1, Value.ownBlock] at e; omega)
  have hne := hco.ne_ty hp5 (by decide) (by decide)
  have hat' : ∀ k, v5.ownBlock = some k → v1.ownBlock = some k ∨ w1.heap.size ≤ k := fun k e => by
    rcases hat with h5 | h5
    · exact .inl (h5 ▸ e)
    · rw [h5] at e; simp at e; exact .inr (by omega)
  have h2p : ∀ k, v2.ownBlock = some k → k ≠ p := by
    rintro k e rfl
    obtain ⟨cur, hc⟩ := owns_type h.own2 e
    rw [h.blk] at hc; simp at hc
  refine ⟨by rw [cell_of_blk hp5]; rfl, fun i => free_of_blk hp5 i, ⟨?_, hco.kept fun k hk => heap_set_other (hne k hk), ?_⟩, ?_, ?_⟩
  · exact (blk_setCell hp5).trans (by simp)
  · refine owns_kept h.own2 fun k e => ?_
    rw [heap_set_other (h2p k e)]
    exact hkeep k (h.own2.lt k e).2 (fun e1 => h.ne2 e1 k e rfl)
  · rintro j (rfl | e | e)
    · exact .inl (.inl rfl)
    · exact .inl (.inr (.inl e))
    · exact (cf_push h.co (fun k e => by simp [sl1, Value.ownBlock] at e; omega) hat' j e).imp (fun h => .inr (.inr h)) id
  · refine Fr.set (w' := w5) ⟨?_, ?_, ?_, ?_, fun k hk hn => hkeep k hk fun e => hn (.inr (.inr (.inl e)))⟩ (.inl (.inl rfl))
    · rw [hgr.os]; rfl
    · rw [hgr.tape]; rfl
    · rw [hgr.output]; rfl
    · have := hgr.size; omega

set_option maxRecDepth 20000 in
set_option maxHeartbeats 2000000 in
theorem pnew_any (a : Option Addr) (n c : Nat) (Ss : List ByteArray) (w : World) (h : Rs w a n c Ss) (hn : n ≤ 1000) :
    Calls Try.prog 8 #[.slice a n c] w fun e w' => ∃ p F, e = .returned (.pointer (some ⟨p, 0, none⟩)) ∧ PM w' p F (PS.new Ss) ∧ (∀ k, F k → w.heap.size ≤ k) ∧ Below w.heap.size w w' := by
  have hlen := h.len
  have hcm : (c : Int) ≤ 9223372036854775807 := by have := h.cm; unfold maxLen at this; omega
  have hle := h.le
  obtain ⟨W, hW⟩ : ∃ W, W = w.alloc (.cells #[.slice none 0 0, .slice none 0 0] 56) := ⟨_, rfl⟩
  have hbW : Below w.heap.size w W := by rw [hW]; exact (Below.refl _ _).alloc (Nat.le_refl _) _
  have hsW : W.heap.size = w.heap.size + 1 := by rw [hW]; simp
  have hpW : W.heap[w.heap.size]? = some (.cells #[.slice none 0 0, .slice none 0 0] 56 (0, 0)) := by rw [hW]; exact heap_alloc_new w _
  have hpi : PI W w.heap.size (.slice none 0 0) (.slice none 0 0) [] [] ⟨[], []⟩ := ⟨hpW, ⟨World.ownsRow_nil _ _ _ _, fun i hi => by simp at hi, fun i j hi => by simp at hi, rfl, fun j hj => by simp at hj, fun i j hi => by simp at hi⟩, World.ownsRow_nil _ _ _ _⟩
  have hpf : ∀ j, pf w.heap.size (.slice none 0 0) (.slice none 0 0) [] [] ⟨[], []⟩ j → w.heap.size ≤ j := by
    rintro j (rfl | e | e | ⟨i, hi, _⟩ | ⟨i, hi, _⟩)
    · exact Nat.le_refl _
    · simp [Value.ownBlock] at e
    · simp [Value.ownBlock] at e
    · simp at hi
    · simp at hi
  have HH := Lib.hid h
  have HPI := Lib.hid hpi
  have HPF := Lib.hid hpf
  have HBW := Lib.hid hbW
  have HWW := Lib.hid hW
  have hsl := Try.infoSl
  obtain ⟨i0, hi, hz0, hz1, hz2⟩ := info_parts hsl
  clear h hpi hpf hbW hW hsW hpW hsl
  go_enter Try.func8, Try.ntmps8
  go_upto_region 2 with fail
  rw [← HWW.out]
  go_wp2
  go_loopw [10] (fun i wr => ∃ k : Nat, k ≤ n ∧ i = .int .i64 k ∧ Below w.heap.size w wr ∧ ∃ v1 vs, PI wr w.heap.size v1 (.slice none 0 0) vs [] ⟨(Ss.take k).map fun s => [s], []⟩ ∧ ∀ j, pf w.heap.size v1 (.slice none 0 0) vs [] ⟨(Ss.take k).map fun s => [s], []⟩ j → w.heap.size ≤ j) (fun i _ => n - (intOf i).toNat)
  case atStart => exact ⟨0, by omega, rfl, HBW.out, _, _, HPI.out, HPF.out⟩
  case round =>
    obtain ⟨k, hk, rfl, hB, v1, vs, hpi, hpf⟩ := hrel
    by_cases hlt : k < n
    · have i0' : (0 : Int) ≤ (k : Int) := by omega
      have i1 : (k : Int) < (n : Int) := by omega
      obtain ⟨bf, off2, af', _, hcf⟩ := (HH.out.later hB).at0 (by omega)
      have ef := hcf k hlt
      have htk : (Ss.take (k + 1)).map (fun s => [s]) = (Ss.take k).map (fun s => [s]) ++ [[lAt Ss k]] := by
        rw [List.take_add_one, List.map_append]
        congr 1
        unfold lAt
        rw [List.getElem?_eq_getElem (by omega)]
        rfl
      have hkl : ((Ss.take k).map fun s => [s]).length = k := by simp; omega
      obtain ⟨s, hs⟩ : ∃ s, s = lAt Ss k := ⟨_, rfl⟩
      rw [← hs] at ef htk
      obtain ⟨T, hT⟩ : ∃ T, T = (Ss.take k).map fun s => [s] := ⟨_, rfl⟩
      rw [← hT] at htk hpi hpf hkl
      have hc1 : (lay2 wr s).cell? ⟨w.heap.size, 0, none⟩ = some v1 := by
        rw [World.cell?_of_block (w := wr) (lay2_old wr s (lt_of_block hpi.blk)), cell_of_blk hpi.blk]; rfl
      have hc0 : wr.cell? ⟨w.heap.size, 0, none⟩ = some v1 := by rw [cell_of_blk hpi.blk]; rfl
      have how := hpi.co.own1
      rw [hkl] at how
      have how2 := (how.alloc (.cells #[.string s] 9)).alloc (.cells #[.slice (some ⟨wr.heap.size, 0, none⟩) 1 1] 22)
      have hlc := lay2_cell wr s
      have HP := Lib.hid hpi
      have HPF2 := Lib.hid hpf
      have HB := Lib.hid hB
      have HOW := Lib.hid how2
      have HLC := Lib.hid hlc
      have HTK := Lib.hid htk
      have HKL := Lib.hid hkl
      subst af'
      clear hpi hpf hB how how2 hlc htk hkl hcf hs hT hc1
      go_wp2_with (at_builtin; refine wpList_append_own_at _ (o := ⟨some 22, _, _, _, _, _⟩) rfl (.tmp 18) (.tmp 21) 47 rfl 0 22 i0 _ 1 24 Try.underlying47 hi hz0 hz1 hz2 rfl (by omega) v1 k _ rfl HOW.out ⟨wr.heap.size + 1, 0, none⟩ 1 1 [sl1 wr.heap.size] (by simp [Act.eval, Act.put]) rfl HLC.out (by simp [sl1, Value.oneCell']) (by unfold maxLen; omega) (by omega) (Nat.zero_le _) ?_)
      intro v5 w5 how5 hg5 _ hat5
      obtain ⟨a5, n5, rfl, _, _, _⟩ := owns_shape1 how5
      obtain ⟨c5, f5, hp5, hpf5, hfr5⟩ := HP.out.push s (by rw [HKL.out]; exact how5) hg5 (by rw [lay2_size]; exact hat5)
      rw [← HTK.out] at hp5 hpf5
      have hB5 : Below w.heap.size w (w5.setCell ⟨w.heap.size, 0, none⟩ (.slice a5 (k + 1) n5)) := HB.out.trans (hfr5.below (fun j hj => HPF2.out j hj) HB.out.size)
      have hpf6 : ∀ j, pf w.heap.size (.slice a5 (k + 1) n5) (.slice none 0 0) (vs ++ [sl1 wr.heap.size]) [] ⟨(Ss.take (k + 1)).map fun s => [s], []⟩ j → w.heap.size ≤ j := fun j hj => by
        rcases hpf5 j hj with e | e
        · exact HPF2.out j e
        · have := HB.out.size; omega
      have HP5 := Lib.hid hp5
      have HPF5 := Lib.hid hpf6
      have HB5 := Lib.hid hB5
      clear how5 hg5 hat5 hp5 hpf5 hfr5 hB5 hpf6
      go_wp2
      go_roundw
      case rel => exact ⟨k + 1, by omega, by go_num, HB5.out, _, _, HP5.out, HPF5.out⟩
      case measure => simp [intOf]; omega
    · obtain rfl : k = n := by omega
      have i1 : ¬ (k : Int) < (k : Int) := by omega
      have hall : Ss.take k = Ss := List.take_of_length_le (by omega)
      rw [hall] at hpi hpf
      have HP := Lib.hid hpi
      have HPF2 := Lib.hid hpf
      have HB := Lib.hid hB
      clear hpi hpf hB
      go_wp2
      go_ret
      exact ⟨_, rfl, fun j => w.heap.size ≤ j ∧ j < wr.heap.size, ⟨_, _, _, _, HP.out, fun j hj => ⟨HPF2.out j hj, HP.out.lt j hj⟩, fun j hj => hj.2⟩, fun j hj => hj.1, HB.out⟩

end Ap
end Go.Proofs.Ythapcpfemmfhoaa


/-
  Contracts of the document's own disk: New, Copy.
-/
import Derived.Test.YtodcdefmoliegaaGreatDoorE8
namespace Go.Proofs.YtodcdefmoliegaaGreatDoor
open Go.RowKit
set_option linter.unusedVariables false
set_option linter.unusedSimpArgs false

/-- append onto a row of the call's own, as one step of a region that draws. -/
theorem step_append_at {P : Program} {w : World} {ops : Array Oper} {o : Oper} {a : Act} {K : Act → World → Prop} {Q : Exit → Act → World → Prop} {E : Prop} (hgd : o.guard = none) (s x : Operand) (t : TypeId)
    (ho : o.op = .call { callee := .builtin .append, args := #[s, x], argTypes := #[t, t] }) (base : Nat) (e : TypeId) (i : TypeInfo) (z : Value) (size bytes : Nat) (ht : P.underlying t = some (.slice e)) (hi : P.info? e = some i) (hz : i.zero = some z) (hsize : i.size = size) (hby : i.bytes = bytes) (hzs : z.cells.size = size) (hsz : 0 < size)
    (v : Value) (n : Nat) (xs : List Value) (hs : a.eval s = v) (hown : w.ownsRow base e size v n xs) (ad : Addr) (m c : Nat) (news : List Value) (hx : a.eval x = .slice (some ad) m c) (hl : news.length = m * size)
    (hnews : ∀ j u, news[j]? = some u → w.cell? (ad.add j) = some u) (h1 : ∀ u ∈ news, u.oneCell' = true) (h63 : n + m ≤ maxLen) (hbytes : (n + m) * bytes ≤ 140737488355328) (hbase : base ≤ w.heap.size)
    (h : ∀ v' w', w'.ownsRow base e size v' (n + m) (xs ++ news) → w.grownBy w' v.ownBlock → (v'.ownBlock = v.ownBlock ∨ v'.ownBlock = some w.heap.size) → K (a.put o.dst v') w') :
    if Region.wanted o (yielded ops a.tmps) = true then Oper.wp P o a w K Q else E := by
  have hw : Region.wanted o (yielded ops a.tmps) = true := by simp [Region.wanted, hgd]
  rw [if_pos hw]
  obtain ⟨v', w', hr, h2, h3, h4, h5⟩ := run_append_own_at (P := P) w base t o.type e i z size bytes ht hi hz hsize hby hzs hsz v n xs hown ad m c news hl hnews h1 h63 hbytes hbase
  unfold Oper.wp execOp
  simp only [ho, resolve, invoke, builtin, Sem.run_bind, Sem.run_pure, Result.andThen_ok, List.map_toArray, List.map_cons, List.map_nil, hs, hx, hr]
  exact h v' w' h2 h3 h5

theorem step_call0 {P : Program} {ops : Array Oper} {w : World} {K : Act → World → Prop} {Q : Exit → Act → World → Prop} {E : Prop} {op : Oper} {a : Act} (hgd : op.guard = none) (f : FuncId) (hrun : ∀ args w, (callFunc f args).run P w = .ok (.enter f args) w)
    (ho : op.op = .call { callee := .value (.func f), args := #[], argTypes := #[] }) (r : Value) (C : World → Prop) (hc : Calls P f #[] w fun e w' => e = .returned r ∧ C w')
    (h : ∀ w', C w' → K (a.put op.dst r) w') : if Region.wanted op (yielded ops a.tmps) = true then Oper.wp P op a w K Q else E := by
  have hw : Region.wanted op (yielded ops a.tmps) = true := by simp [Region.wanted, hgd]
  rw [if_pos hw]
  have e : (execOp a.eval op).run P w = .ok (.enter f #[]) w := by
    obtain ⟨d, o2, t2, p2, af, g⟩ := op
    simp only at ho
    subst ho
    show (callFunc f (#[] ++ (#[] : Array Operand).map a.eval ++ #[])).run P w = _
    rw [hrun]
    simp
  unfold Oper.wp
  rw [e]
  exact hc.mono (by rintro e w' ⟨rfl, hC⟩; exact h w' hC)

theorem wp_append_at {P : Program} {w : World} {o : Oper} {a : Act} {K : Act → World → Prop} {Q : Exit → Act → World → Prop} (s x : Operand) (t : TypeId)
    (ho : o.op = .call { callee := .builtin .append, args := #[s, x], argTypes := #[t, t] }) (base : Nat) (e : TypeId) (i : TypeInfo) (z : Value) (size bytes : Nat) (ht : P.underlying t = some (.slice e)) (hi : P.info? e = some i) (hz : i.zero = some z) (hsize : i.size = size) (hby : i.bytes = bytes) (hzs : z.cells.size = size) (hsz : 0 < size)
    (v : Value) (n : Nat) (xs : List Value) (hs : a.eval s = v) (hown : w.ownsRow base e size v n xs) (ad : Addr) (m c : Nat) (news : List Value) (hx : a.eval x = .slice (some ad) m c) (hl : news.length = m * size)
    (hnews : ∀ j u, news[j]? = some u → w.cell? (ad.add j) = some u) (h1 : ∀ u ∈ news, u.oneCell' = true) (h63 : n + m ≤ maxLen) (hbytes : (n + m) * bytes ≤ 140737488355328) (hbase : base ≤ w.heap.size)
    (h : ∀ v' w', w'.ownsRow base e size v' (n + m) (xs ++ news) → w.grownBy w' v.ownBlock → (v'.ownBlock = v.ownBlock ∨ v'.ownBlock = some w.heap.size) → K (a.put o.dst v') w') :
    Oper.wp P o a w K Q := by
  obtain ⟨v', w', hr, h2, h3, h4, h5⟩ := run_append_own_at (P := P) w base t o.type e i z size bytes ht hi hz hsize hby hzs hsz v n xs hown ad m c news hl hnews h1 h63 hbytes hbase
  unfold Oper.wp execOp
  simp only [ho, resolve, invoke, builtin, Sem.run_bind, Sem.run_pure, Result.andThen_ok, List.map_toArray, List.map_cons, List.map_nil, hs, hx, hr]
  exact h v' w' h2 h3 h5

theorem strs_append (L M) : strs (L ++ M) = strs L ++ strs M := by simp [strs]
theorem str_cells (w : World) (s : ByteArray) : ∀ (j : Nat) (u : Value), (strs [s])[j]? = some u → (w.alloc (.cells #[.string s] 9)).cell? ((⟨w.heap.size, 0, none⟩ : Addr).add j) = some u := by
  intro j u hj
  rw [Addr.add_none, cell_of_blk (heap_alloc_new w _), Nat.zero_add]
  simpa [strs] using hj

set_option maxRecDepth 20000 in
set_option maxHeartbeats 1000000 in
theorem rnew_bad (n : Int) (w : World) (h : n < 1 ∨ 1200 < n) :
    Calls Tryz.prog 6 #[.int .i64 n] w fun e w' => e = .returned (.tuple #[.pointer none, .int .i64 2]) ∧ w' = w := by
  by_cases h1 : n < 1
  · go_enter Tryz.func6, Tryz.ntmps6
    go_wp2
    refine bodyPost_ret (results_tmp2 rfl _ _ _) rfl ?_
    exact ⟨rfl, rfl⟩
  · have h2 : 1200 < n := by omega
    clear h
    go_enter Tryz.func6, Tryz.ntmps6
    go_wp2
    refine bodyPost_ret (results_tmp2 rfl _ _ _) rfl ?_
    exact ⟨rfl, rfl⟩

theorem hfz5 {w w4 w5 : World} {B p : Nat} {v1 v2 : Value} {S : DS} {o : Obj} (h : RD w B p v1 v2 S) (hn : v1.ownBlock ≠ some p) (hb : Below w.heap.size w w4) (hg : (w4.alloc o).grownBy w5 v1.ownBlock) : w5.heap[p]? = w.heap[p]? := by
  have hl := h.lt
  rw [hg.block p (by have := hb.size; simp; omega) (fun e => hn e.symm), Below.heap_alloc _ _ _ (Nat.lt_of_lt_of_le hl hb.size)]
  exact hb.block p hl

theorem rnew_end {w0 w w4 w5 : World} {p : Nat} {v1 v5 : Value} {L L' : List ByteArray} {o : Obj} (h : RD w w0.heap.size p v1 (.slice none 0 0) ⟨L, [], -1, false, 0⟩) (h0 : Below w0.heap.size w0 w) (hb : Below w.heap.size w w4) (hg : (w4.alloc o).grownBy w5 v1.ownBlock)
    (how : w5.ownsRow w0.heap.size 9 1 v5 L'.length (strs L')) : RD (w5.setCell ⟨p, 0, none⟩ v5) w0.heap.size p v5 (.slice none 0 0) ⟨L', [], -1, false, 0⟩ ∧ Below w0.heap.size w0 (w5.setCell ⟨p, 0, none⟩ v5) := by
  have hn : v1.ownBlock ≠ some p := Dk.ne1 h (by decide)
  have hb5 := (hfz5 h hn hb hg).trans (Dk.blk h)
  have hn5 : v5.ownBlock ≠ some p := fun e => by
    obtain ⟨cur, hc⟩ := owns_type how e
    rw [hb5] at hc
    simp at hc
  have h4 : Below w0.heap.size w0 (w4.alloc o) := (h0.trans (hb.mono h0.size)).alloc (h0.trans (hb.mono h0.size)).size _
  refine ⟨⟨(blk_setCell hb5).trans (by simp), Dk.low h, owns_set_other how hn5 _, World.ownsRow_nil _ _ _ _⟩, ?_⟩
  exact (h4.grown hg h4.size (fun j hj => ((Dk.own1 h).lt j hj).1)).setCell (p := ⟨p, 0, none⟩) (Dk.low h) _

set_option maxRecDepth 20000 in
set_option maxHeartbeats 2000000 in
theorem rnew_any (n : Nat) (w : World) (h0 : 1 ≤ n) (h1 : n ≤ 1200) :
    Calls Tryz.prog 6 #[.int .i64 n] w fun e w' => ∃ p v1, e = .returned (.tuple #[.pointer (some ⟨p, 0, none⟩), .int .i64 0]) ∧ RD w' w.heap.size p v1 (.slice none 0 0) (ds0 n) ∧ Below w.heap.size w w' := by
  have i1 : (1 : Int) ≤ (n : Int) := by omega
  have i2 : (n : Int) ≤ 1200 := by omega
  obtain ⟨i0, hi, hz0, hz1, hz2⟩ := info_parts Tryz.info9
  go_enter Tryz.func6, Tryz.ntmps6
  go_wp2
  have hrd : RD (w.alloc (.cells #[.slice none 0 0, .slice none 0 0, .int .i64 (-1), .bool false, .int .i64 0] 63)) w.heap.size w.heap.size (.slice none 0 0) (.slice none 0 0) ⟨List.replicate 0 (secOf 0), [], -1, false, 0⟩ :=
    ⟨heap_alloc_new _ _, Nat.le_refl _, World.ownsRow_nil _ _ _ _, World.ownsRow_nil _ _ _ _⟩
  have hb : Below w.heap.size w (w.alloc (.cells #[.slice none 0 0, .slice none 0 0, .int .i64 (-1), .bool false, .int .i64 0] 63)) := (Below.refl _ _).alloc (Nat.le_refl _) _
  obtain ⟨p, hp⟩ : ∃ p, p = w.heap.size := ⟨_, rfl⟩
  rw [← hp] at hrd ⊢
  have HP := Lib.hid hp
  go_loopw [5] (fun i wr => ∃ (k : Nat) (v1 : Value), k ≤ n ∧ i = .int .i64 k ∧ RD wr w.heap.size p v1 (.slice none 0 0) ⟨List.replicate k (secOf 0), [], -1, false, 0⟩ ∧ Below w.heap.size w wr) (fun i _ => n - (intOf i).toNat)
  case atStart => exact ⟨0, _, by omega, rfl, by rw [← hp]; exact hrd, hb⟩
  case round =>
    clear hrd hb hp
    obtain ⟨k, v1, hk, rfl, hrd, hB⟩ := hrel
    by_cases hlt : k < n
    · have i3 : (k : Int) < (n : Int) := by omega
      have ho : wr.ownsRow w.heap.size 9 1 v1 k (strs (List.replicate k (secOf 0))) := by
        have := hrd.own1
        simp only [List.length_replicate] at this
        exact this
      obtain ⟨c0, c1, c2, c3, c4, hf⟩ := hrd.cells
      obtain ⟨a, c, rfl, hle, hcm, hg⟩ := owns_shape1 ho
      have HRD := Lib.hid hrd
      have HRDd : Hid (RD wr.drew w.heap.size p (.slice a k c) (.slice none 0 0) ⟨List.replicate k (secOf 0), [], -1, false, 0⟩) := Lib.hid (hrd.kept (w' := wr.drew) fun _ _ => rfl)
      have HB := Lib.hid hB
      have HO := Lib.hid ho
      have hrd2 := hrd
      clear hrd hB ho c1 c2 c3 c4 hg
      have hpl := HRD.out.lt
      have hcall := rzero_any wr.drew
      have hzc := fun w' (hb : Below wr.drew.heap.size wr.drew w') => (hb.cell (p := ⟨p, 0, none⟩) hpl).trans c0
      have hrw := fun w' (hb : Below wr.drew.heap.size wr.drew w') => owns_kept HO.out fun j hj => hb.block j (HO.out.lt j hj).2
      have HN1 := Lib.hid (Dk.ne1 hrd2 (by decide))
      have HC := Lib.hid hcall
      have HZ := Lib.hid hzc
      have HRW := Lib.hid hrw
      obtain ⟨z0, hz0'⟩ : ∃ z, z = secOf 0 := ⟨_, rfl⟩
      rw [← hz0'] at HC
      have HZ0 := Lib.hid hz0'
      clear hcall hzc hrw hz0'
      go_wp2_with fail
      go_region_law (first
        | (refine step_call0 (P := Tryz.prog) (op := ⟨some 24, _, _, _, _, _⟩) rfl 24 (enters_of Tryz.func24 (by kernel_rfl) rfl) rfl (.string z0) (fun w' => Below wr.drew.heap.size wr.drew w') HC.out ?_; intro w4 hb4; have c4 := HZ.out w4 hb4; have c4a := HZ.out _ (hb4.alloc hb4.size (.cells #[.string z0] 9)))
        | (refine step_append_at (P := Tryz.prog) (o := ⟨some 26, _, _, _, _, _⟩) rfl (.tmp 23) (.tmp 25) 56 rfl w.heap.size 9 i0 _ 1 16 Tryz.underlying56 hi hz0 hz1 hz2 rfl (by omega) _ _ _ (by rfl) ((HRW.out w4 hb4).alloc _) ⟨w4.heap.size, 0, none⟩ 1 1 (strs [z0]) (by rfl) rfl (str_cells w4 z0) (strs_one _) (by unfold maxLen; omega) (by omega) (by have h1 := hb4.size; have h2 := HB.out.size; have h3 : wr.drew.heap.size = wr.heap.size := rfl; simp; omega) ?_; intro v5 w5 how5 hg5 hat5; obtain ⟨a5, n5, rfl, _, _, _⟩ := owns_shape1 how5; have c5 := hg5.cell (HZ.out _ (hb4.alloc hb4.size _)) (fun e => HN1.out e.symm); have b5 := (hfz5 HRDd.out HN1.out hb4 hg5).trans (Dk.blk HRDd.out); have f5 := fun i => free_of_blk b5 i))
      all_goals (
        have hl2 : strs (List.replicate k (secOf 0)) ++ strs [z0] = strs (List.replicate (k + 1) (secOf 0)) := by rw [HZ0.out, ← strs_append, List.replicate_succ']
        rw [hl2] at how5
        have hend := rnew_end (L' := List.replicate (k + 1) (secOf 0)) HRDd.out (w0 := w) ⟨HB.out.os, HB.out.tape, HB.out.output, HB.out.size, HB.out.block⟩ hb4 hg5 (by rw [List.length_replicate]; exact how5)
        have HE := Lib.hid hend
        clear hend how5 hg5 hat5 hb4 c4 c5 b5 f5 hl2
        go_wp2
        go_roundw
        case rel => exact ⟨k + 1, _, by omega, by go_num, HE.out.1, HE.out.2⟩
        case measure => simp [intOf]; omega)
    · obtain rfl : k = n := by omega
      go_wp2
      refine bodyPost_ret (results_tmp2 rfl _ _ _) rfl ?_
      exact ⟨p, v1, rfl, hrd, hB⟩

theorem owns_src0 {w : World} {B e size n : Nat} {xs : List Value} {g c : Nat} (h : w.ownsRow B e size (.slice (some ⟨g, 0, none⟩) n c) n xs) : ∀ (j : Nat) (u : Value), xs[j]? = some u → w.cell? ((⟨g, 0, none⟩ : Addr).add j) = some u := h.cells rfl

theorem rcopy_step {w wa w5 : World} {q i : Nat} {v5 : Value} {C : Array Value} {e size n : Nat} {xs : List Value} (hB : Below w.heap.size w wa) (hq : q = w.heap.size) (hn : wa.heap[q]? = some (.cells C 63 (0, 0))) (he : e ≠ 63)
    (how : w5.ownsRow w.heap.size e size v5 n xs) (hg : wa.grownBy w5 none) :
    (w5.setCell ⟨q, i, none⟩ v5).heap[q]? = some (.cells (C.setIfInBounds i v5) 63 (0, 0)) ∧ (w5.setCell ⟨q, i, none⟩ v5).ownsRow w.heap.size e size v5 n xs ∧ Below w.heap.size w (w5.setCell ⟨q, i, none⟩ v5) ∧ q + 1 ≤ (w5.setCell ⟨q, i, none⟩ v5).heap.size ∧
    (∀ (B' e' size' n' : Nat) (u : Value) (ys : List Value), wa.ownsRow B' e' size' u n' ys → u.ownBlock ≠ some q → (w5.setCell ⟨q, i, none⟩ v5).ownsRow B' e' size' u n' ys) := by
  have hb5 := (hg.block q (lt_of_block hn) (by simp)).trans hn
  have hne : v5.ownBlock ≠ some q := fun e5 => by
    obtain ⟨cur, hc⟩ := owns_type how e5
    rw [hb5] at hc
    simp at hc
    exact he hc.2.symm
  refine ⟨blk_setCell hb5, owns_set_other how hne _, (hB.grown hg hB.size (fun j hj => by cases hj)).setCell (p := ⟨q, i, none⟩) (by show _ ≤ q; omega) _, by have := lt_of_block hb5; simp [World.setCell]; omega, fun B' e' size' n' u ys ho hu => ?_⟩
  exact owns_set_other (ho.kept hg (by cases hk : u.ownBlock with | none => exact .inl rfl | some k => exact .inr (by simp))) hu _

theorem gb_undrew {w w' : World} {row : Option Nat} (h : w.drew.grownBy w' row) : w.grownBy w' row := ⟨h.os, h.tape, h.output, h.size, h.block⟩


end Go.Proofs.YtodcdefmoliegaaGreatDoor


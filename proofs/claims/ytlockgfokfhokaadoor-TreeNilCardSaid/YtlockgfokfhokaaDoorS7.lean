/-
  Contracts: Write.
-/
import Derived.Test.YtlockgfokfhokaaDoorS6
import Derived.Deep.DeepCutAuto
import Derived.StillTailTactics
namespace Go.Proofs.YtlockgfokfhokaaDoor
open Go.RowKit
set_option linter.unusedVariables false
set_option linter.unusedSimpArgs false

/-- The hash at block p, its state laid. -/
structure Hst (w : World) (p : Nat) (xs : List UInt8) : Prop where
  blk : ∃ bl, w.heap[p]? = some (.cells (hcl (stArr (full xs)).toList bl xs.length).toArray 100 (0, 0)) ∧ bl.length = 64 ∧ bl.take (xs.length % 64) = xs.drop (xs.length / 64 * 64)

theorem stArr_list_one (s : St) : ∀ v ∈ (stArr s).toList, v.oneCell' = true := by
  intro v hv
  simp [stArr] at hv
  rcases hv with rfl | rfl | rfl | rfl | rfl | rfl | rfl | rfl <;> rfl

theorem Hst.hsh {w : World} {p : Nat} {xs : List UInt8} (h : Hst w p xs) (hle : xs.length ≤ 1152921504606846976) : Hsh w p xs := by
  obtain ⟨bl, h1, h2, h3⟩ := h.blk
  exact ⟨⟨_, bl, h1, rfl, stArr_list_one _, h2, fun _ => rfl, h3⟩, hle⟩

theorem Hsh.hst {w : World} {p : Nat} {xs : List UInt8} (h : Hsh w p xs) (h0 : 0 < xs.length) : Hst w p xs := by
  obtain ⟨sv, bl, h1, h2, h3, h4, h5, h6⟩ := h.blk
  obtain rfl := h5 h0
  exact ⟨bl, h1, h4, h6⟩

theorem Hst.kept {w w' : World} {p : Nat} {xs : List UInt8} (h : Hst w p xs) (hb : w'.heap[p]? = w.heap[p]?) : Hst w' p xs := by
  obtain ⟨bl, h1, h2⟩ := h.blk
  exact ⟨bl, hb.trans h1, h2⟩

theorem there_of_blk {w : World} {p : Nat} {cs : List Value} {t : TypeId} (h : w.heap[p]? = some (.cells cs.toArray t (0, 0))) (o n : Nat) (hn : o + n ≤ cs.length) : w.there p o n := fun j hj => by
  refine ⟨?_, free_of_blk h _⟩
  rw [cell_of_blk h]
  simp [List.getElem?_eq_getElem (show o + j < cs.length by omega)]

theorem heap_setCells (p : Nat) (t : TypeId) : ∀ (vs : List Value) (o : Nat) (w : World) (cs : List Value), w.heap[p]? = some (.cells cs.toArray t (0, 0)) → o + vs.length ≤ cs.length → (w.setCells p o vs).heap[p]? = some (.cells (splice cs o vs).toArray t (0, 0))
  | [], o, w, cs, h, hl => by
    show w.heap[p]? = _
    rw [h]; simp [splice]
  | v :: vs, o, w, cs, h, hl => by
    rw [World.setCells]
    simp only [List.length_cons] at hl
    have h1 : (w.setCell ⟨p, o, none⟩ v).heap[p]? = some (.cells (cs.set o v).toArray t (0, 0)) := by
      rw [blk_setCell h]; simp
    rw [heap_setCells p t vs (o + 1) _ (cs.set o v) h1 (by simp; omega)]
    have e : splice (cs.set o v) (o + 1) vs = splice cs o (v :: vs) := by
      unfold splice
      rw [List.take_set, List.drop_set_of_lt (by omega), List.take_add_one, List.getElem?_eq_getElem (show o < cs.length by omega)]
      simp only [Option.toList_some, List.length_cons]
      rw [List.set_append_right _ _ (by simp; omega), List.append_assoc]
      rw [show o + 1 + vs.length = o + (vs.length + 1) from by omega, show o - (List.take o cs).length = 0 from by simp; omega]
      simp
    rw [e]

theorem gb_setCells (w : World) (p o : Nat) (vs : List Value) : w.grownBy (w.setCells p o vs) (some p) := by
  induction vs generalizing w o with
  | nil => exact World.grownBy.refl _ _
  | cons v vs ih =>
    rw [World.setCells]
    exact gb_trans (gb_setCell (World.grownBy.refl _ _)) (ih _ _)

theorem gb_below {w w' : World} {p : Nat} (h : Below w.heap.size w w') : w.grownBy w' (some p) := ⟨h.os, h.tape, h.output, h.size, fun k hk _ => h.block k hk⟩

def slLen : Value → Nat
  | .slice _ l _ => l
  | _ => 0

/-- 's[m:]' of a slice of bytes. -/
theorem slice_from (a : Option Addr) (n c m : Nat) (hm : m ≤ n) (hc : n ≤ c) (w : World) :
    (Instr.sliceAt 44 (.slice a n c) (some (.int .i64 (m : Int))) none none).run Tryd.prog w = .ok (.slice (if c = m then a else a.map (·.add m)) (n - m) (c - m)) w := by
  have hu := Tryd.underlying44
  have hz : ∀ w, (sizeOf 5).run Tryd.prog w = .ok 1 w := fun _ => by kernel_rfl
  have h1 : (0 : Int) ≤ (m : Int) ∧ (m : Int) ≤ (n : Int) := by omega
  simp [Instr.sliceAt, Instr.slice, Instr.sliceBounds, Instr.sliceBound, run_underlying hu, asIntOf, h1, hm, hz, go_sem]

theorem slice_rd {w : World} {a : Option Addr} {n c m : Nat} {ys : List UInt8} (h : Rd w a n c ys) (hm : m ≤ n) : Rd w (if c = m then a else a.map (·.add m)) (n - m) (c - m) (ys.drop m) := by
  by_cases e : c = m
  · rw [if_pos e, show c - m = 0 from by omega]
    exact h.suf_end hm e
  · rw [if_neg e]; exact h.suf hm

theorem slice_blk {a : Option Addr} {c m : Nat} {p : Nat} (h : ∀ x, a = some x → x.block ≠ p) : ∀ x, (if c = m then a else a.map (·.add m)) = some x → x.block ≠ p := by
  intro x hx
  by_cases e : c = m
  · rw [if_pos e] at hx; exact h x hx
  · rw [if_neg e] at hx
    cases a with
    | none => cases hx
    | some y => simp only [Option.map_some, Option.some.injEq] at hx; subst hx; rw [add_block]; exact h y rfl

/-- The load of an array out of the middle of a block, as one step of a region that draws. -/
theorem step_load_mid {P : Program} {ops : Array Oper} {w : World} {K : Act → World → Prop} {Q : Exit → Act → World → Prop} {E : Prop} {op : Oper} {a : Act} (hgd : op.guard = none) (ty : TypeId) (x : Operand) (ho : op.op = .load ty x)
    (b o : Nat) (hx : a.eval x = .pointer (some ⟨b, o, none⟩)) (cs : List Value) (d : TypeDesc) (hc : w.rangeAt b o cs)
    (hu : P.underlying ty = some d) (hd : d.isRow = true) (hi : (P.info? ty).map (·.size) = some cs.length)
    (h : K (a.put op.dst (.agg cs.toArray)) w) : if Region.wanted op (yielded ops a.tmps) = true then Oper.wp P op a w K Q else E := by
  have hw : Region.wanted op (yielded ops a.tmps) = true := by simp [Region.wanted, hgd]
  rw [if_pos hw]
  exact wp_load_mid ty x ho b o hx cs d hc hu hd hi h

theorem step_store_mid {P : Program} {ops : Array Oper} {w : World} {K : Act → World → Prop} {Q : Exit → Act → World → Prop} {E : Prop} {op : Oper} {a : Act} (hgd : op.guard = none) (ty : TypeId) (x y : Operand) (ho : op.op = .store ty x y)
    (b o : Nat) (cells : Array Value) (hx : a.eval x = .pointer (some ⟨b, o, none⟩)) (hy : a.eval y = .agg cells)
    (ht : w.there b o cells.size) (hi : (P.info? ty).map (·.size) = some cells.size) (h1 : cells.all (·.oneCell') = true)
    (h : K (a.put op.dst undef) (w.setCells b o cells.toList)) : if Region.wanted op (yielded ops a.tmps) = true then Oper.wp P op a w K Q else E := by
  have hw : Region.wanted op (yielded ops a.tmps) = true := by simp [Region.wanted, hgd]
  rw [if_pos hw]
  exact wp_store_mid ty x y ho b o cells hx hy ht hi h1 h

theorem abstract_act {P : Program} {c : Code} {Q : Exit → Act → World → Prop} {a : Act} {w : World} (h : ∀ act, act = a → c.wp P Q act w) : c.wp P Q a w := h a rfl

theorem ev_same (a : Act) (d : Nat) (v : Value) (h : d < a.tmps.size) : (a.put (some d) v).eval (.tmp d) = v := by simp [Act.put, Act.eval, Array.getD, h]
theorem ev_ne (a : Act) (d e : Nat) (v : Value) (h : d ≠ e) : (a.put (some d) v).eval (.tmp e) = a.eval (.tmp e) := by
  show (a.tmps.setIfInBounds d v).getD e undef = a.tmps.getD e undef
  rw [Array.getD_eq_getD_getElem?, Array.getD_eq_getD_getElem?, Array.getElem?_setIfInBounds_ne h]
theorem size_put (a : Act) (d : Nat) (v : Value) : (a.put (some d) v).tmps.size = a.tmps.size := by simp [Act.put]

theorem take_run {P : Program} {md : Region.Mode} {ops : Array Oper} {Q : Exit → Act → World → Prop} {fuel : Nat} {listed : Array Bool} {a : Act} {w : World} (i : Nat) (o : Oper) (d : Nat) (v : Value) (hi : ops[i]? = some o) (hd : o.dst = some d) (hgd : o.guard = none)
    (hs : Region.noSelect ops = true) (hf : Region.free md ops listed i = true) (hr : (Region.ready md ops listed).contains i = true)
    (hQ : ∀ c a w, Q (.panic c) (a.put (some d) v) w → Q (.panic c) a w) (hy : ∀ w, (execOp a.eval o).run P w = .ok (.value v) w)
    (h : wpAny P md ops Q fuel (listed.setIfInBounds i true) (a.put (some d) v) w) : wpAny P md ops Q (fuel + 1) listed a w := by
  refine wpAny_take hi hs hf hr (by rw [hd]; exact hQ) (Or.inl ⟨by simp [Region.wanted, hgd], hy⟩) (by rw [hd]; exact h)

theorem run_move {P : Program} {a : Act} {o : Oper} {x : Operand} {v : Value} (ho : o.op = .move x) (hx : a.eval x = v) (w : World) : (execOp a.eval o).run P w = .ok (.value v) w := by
  unfold execOp; simp [ho, hx]
theorem run_nil {P : Program} {a : Act} {o : Oper} {x : Operand} {b off : Nat} (ho : o.op = .nilCheck x) (hx : a.eval x = .pointer (some ⟨b, off, none⟩)) (w : World) : (execOp a.eval o).run P w = .ok (.value (.pointer (some ⟨b, off, none⟩))) w := by
  unfold execOp; simp only [ho, hx]; rfl
theorem run_field {P : Program} {a : Act} {o : Oper} {t : TypeId} {x : Operand} {f : Nat} {u v : Value} (ho : o.op = .fieldAddr t x f) (hx : a.eval x = u) (hf : ∀ w, (Instr.fieldAt t u f).run P w = .ok v w) (w : World) : (execOp a.eval o).run P w = .ok (.value v) w := by
  unfold execOp; simp [ho, hx, hf]
theorem step_call {P : Program} {ops : Array Oper} {w : World} {K : Act → World → Prop} {Q : Exit → Act → World → Prop} {E : Prop} {op : Oper} {a : Act} (hgd : op.guard = none) (f : FuncId) (hrun : ∀ args w, (callFunc f args).run P w = .ok (.enter f args) w) (x y : Operand) (tys : Array TypeId)
    (ho : op.op = .call { callee := .value (.func f), args := #[x, y], argTypes := tys }) (u v r : Value) (hx : a.eval x = u) (hy : a.eval y = v) (C : World → Prop) (hc : Calls P f #[u, v] w fun e w' => e = .returned r ∧ C w')
    (h : ∀ w', C w' → K (a.put op.dst r) w') : if Region.wanted op (yielded ops a.tmps) = true then Oper.wp P op a w K Q else E := by
  have hw : Region.wanted op (yielded ops a.tmps) = true := by simp [Region.wanted, hgd]
  rw [if_pos hw]
  have e : (execOp a.eval op).run P w = .ok (.enter f #[u, v]) w := by
    obtain ⟨d, o2, t2, p2, af, g⟩ := op
    simp only at ho
    subst ho
    show (callFunc f (#[] ++ #[x, y].map a.eval ++ #[])).run P w = _
    rw [hrun]
    simp [← hx, ← hy]
  unfold Oper.wp
  rw [e]
  exact hc.mono (by rintro e w' ⟨rfl, hC⟩; exact h w' hC)

theorem next_enter (args : Array Value) (w : World) : (callFunc 79 args).run Tryd.prog w = .ok (.enter 79 args) w := by
  have h1 : Tryd.f79.name ≠ "runtime.NumGoroutine" := by decide
  obtain ⟨c, hb⟩ : ∃ c, Tryd.f79.body = some c := ⟨_, rfl⟩
  simp [callFunc, Tryd.func79, h1, hb]

theorem field0 (p : Nat) (w : World) : (Instr.fieldAt 100 (.pointer (some ⟨p, 0, none⟩)) 0).run Tryd.prog w = .ok (.pointer (some ⟨p, 0, none⟩)) w := by kernel_rfl
theorem field1 (p : Nat) (w : World) : (Instr.fieldAt 100 (.pointer (some ⟨p, 0, none⟩)) 1).run Tryd.prog w = .ok (.pointer (some ⟨p, 8, none⟩)) w := by kernel_rfl

theorem bvs_bArr {b : List UInt8} (h : b.length = 64) : (bvs b).toArray = bArr b := by
  apply Array.ext
  · simp [bvs_length, h, bArr]
  · intro i h1 h2
    have h3 : i < b.length := by simpa [bvs_length] using h1
    simp [bvs, bArr, byt, List.getElem?_eq_getElem h3]

theorem range_of_hcl_state {w : World} {p n : Nat} {sv : List Value} {bl : List UInt8} {t : TypeId} (h : w.heap[p]? = some (.cells (hcl sv bl n).toArray t (0, 0))) : w.drew.rangeAt p 0 sv := fun j v hj => by
  rw [World.cell?_drew, cell_of_blk h, Nat.zero_add]
  simpa using hcl_state (blk := bl) n j v hj

theorem range_of_hcl_block {w : World} {p n : Nat} {s : St} {bl : List UInt8} {t : TypeId} (h : w.heap[p]? = some (.cells (hcl (stArr s).toList bl n).toArray t (0, 0))) : w.drew.rangeAt p 8 (bvs bl) := fun j v hj => by
  rw [World.cell?_drew, cell_of_blk h]
  simpa using hcl_block (sv := (stArr s).toList) n j v rfl hj

set_option maxRecDepth 20000 in
set_option maxHeartbeats 2000000 in
theorem write_any (p : Nat) (xs : List UInt8) (a : Option Addr) (n cap : Nat) (ys : List UInt8) (w : World) (hh : Hsh w p xs) (hR : Rd w a n cap ys) (hne : ∀ x, a = some x → 0 < n → x.block ≠ p) (hK : Kon w) (hp : p ≠ 0) (hl : xs.length + n ≤ 1152921504606846976) :
    Calls Tryd.prog 71 #[.pointer (some ⟨p, 0, none⟩), .slice a n cap] w fun e w' => e = .returned (.tuple #[]) ∧ Hst w' p (xs ++ ys) ∧ w.grownBy w' (some p) := by
  have hc := hh.count
  have hle := hh.le
  have hlen := Lib.hid hR.len
  have hfr := hh.free
  have HH := Lib.hid hh
  have HR := Lib.hid hR
  have HNE := Lib.hid hne
  have HK := Lib.hid hK
  have hi36 : (Tryd.prog.info? 87).map (·.size) = some (stArr st0).size := by kernel_rfl
  have hsz5 : (Tryd.prog.info? 5).map (·.size) = some 1 := by kernel_rfl
  have HS1 := stArr_one st0
  clear hh hR hne hK
  go_enter Tryd.func71, Tryd.ntmps71
  go_upto_if 12 with fail
  go_cut [] (fun wx => Hst wx p xs ∧ w.grownBy wx (some p))
  case first =>
    by_cases hx : xs = []
    · subst hx
      obtain ⟨sv, bl, h1, h2, h3, h4, h5, h6⟩ := HH.out.blk
      have hth : ∀ w1, Below w.heap.size w w1 → w1.heap[p]? = some (.cells (hcl sv bl 0).toArray 100 (0, 0)) := fun w1 hb => (hb.block p HH.out.lt).trans h1
      have HT := Lib.hid hth
      clear hth h1 h5 h6 h3
      go_wp2_with fail
      refine (start_any _).mono ?_
      rintro e w1 ⟨rfl, hb1⟩
      have hw1 := HT.out w1 hb1
      have hth : w1.there p 0 (stArr st0).size := there_of_blk hw1 0 8 (by rw [hcl_length 0 h2 h4]; omega)
      have hcells := heap_setCells p 100 (stArr st0).toList 0 w1 _ hw1 (by rw [hcl_length 0 h2 h4]; simp [stArr])
      rw [hcl_splice_state 0 h2 rfl] at hcells
      have HC := Lib.hid hcells
      clear hcells hw1
      go_wp2_with (with_reducible refine wpList_store_mid (op := ⟨none, _, _, _, _, _⟩) rfl 87 (.tmp 16) (.tmp 14) rfl p 0 (stArr st0) rfl rfl hth hi36 HS1 ?_)
      go_meet
      exact ⟨⟨bl, HC.out, h4, rfl⟩, gb_trans (gb_below hb1) (gb_setCells _ _ _ _)⟩
    · have hpos : 0 < xs.length := by cases xs with | nil => exact absurd rfl hx | cons => simp
      have hz0 : ((xs.length : Int) == 0) = false := by simp; exact hx
      go_wp2_with fail
      go_meet
      exact ⟨HH.out.hst hpos, World.grownBy.refl _ _⟩
  case rest =>
    obtain ⟨hst, hgr⟩ := hcut
    have hHS := Lib.hid hst
    have hGR := Lib.hid hgr
    clear hst hgr hc hfr HS1 hi36
    go_wp2_with fail
    go_loopw [1] (fun b wr => ∃ (k : Nat) (a' : Option Addr) (c' : Nat), k ≤ n ∧ b = .slice a' (n - k) c' ∧ Rd wr a' (n - k) c' (ys.drop k) ∧ (∀ x, a' = some x → 0 < n - k → x.block ≠ p) ∧ Hst wr p (xs ++ ys.take k) ∧ w.grownBy wr (some p)) (fun b _ => slLen b)
    case atStart => exact ⟨0, a, cap, by omega, rfl, by simpa using HR.out.kept0 hGR.out.size (fun b off e h0 => hGR.out.block b (by obtain ⟨b', o', e', hb, _⟩ := HR.out.at0 h0; rw [e] at e'; cases e'; exact hb) (by have := HNE.out _ e h0; simpa using this)), fun x e h0 => HNE.out x e (by omega), by simpa using hHS.out, hGR.out⟩
    case round =>
      obtain ⟨k, a', c', hk, rfl, hrd, hnb, hst, hgr⟩ := hrel
      by_cases hlt : k < n
      · obtain ⟨zs, hzs⟩ : ∃ zs, zs = xs ++ ys.take k := ⟨_, rfl⟩
        have hzl : zs.length = xs.length + k := by rw [hzs]; simp [hlen.out]; omega
        rw [← hzs] at hst
        obtain ⟨pd, hpd⟩ : ∃ pd, pd = zs.length % 64 := ⟨_, rfl⟩
        have hp64 : pd < 64 := by omega
        obtain ⟨m, hm⟩ : ∃ m, m = Nat.min (n - k) (64 - pd) := ⟨_, rfl⟩
        have hm1 : m ≤ n - k := by rw [hm]; exact Nat.min_le_left _ _
        have hm2 : m ≤ 64 - pd := by rw [hm]; exact Nat.min_le_right _ _
        have hm0 : 0 < m := by rw [hm]; exact Nat.lt_min.2 ⟨by omega, by omega⟩
        obtain ⟨zz, hzz⟩ : ∃ zz, zz = (ys.drop k).take m := ⟨_, rfl⟩
        have hzzl : zz.length = m := by rw [hzz]; simp [hlen.out]; omega
        have hpend := fun w1 (h : Hst w1 p zs) => pending_any p zs w1 (h.hsh (by omega))
        rw [← hpd] at hpend
        obtain ⟨bl, hb1, hb2, hb3⟩ := hst.blk
        obtain ⟨ad, rfl⟩ : ∃ ad, a' = some ad := by
          obtain ⟨b1, o1, e1, _⟩ := hrd.at0 (by omega)
          exact ⟨_, e1⟩
        have hadb : ∀ j v, (bvs zz)[j]? = some v → wr.cell? (ad.add j) = some v := by
          intro j v hv
          obtain ⟨b1, o1, e1, _, hc1⟩ := hrd.at0 (by omega)
          cases e1
          have hj : j < zz.length := by have := (List.getElem?_eq_some_iff.1 hv).1; simpa [bvs_length] using this
          rw [bvs_at zz j hj] at hv
          rw [Addr.add_none, hc1 j (by omega), ← hv, hzz, List.getElem?_take_of_lt (by omega)]
        have hsl := fun w1 => slice_from (some ad) (n - k) c' m hm1 hrd.le w1
        have hsr := fun w1 (h : Rd w1 (some ad) (n - k) c' (ys.drop k)) => slice_rd h hm1
        have hsb := slice_blk (c := c') (m := m) (fun x e => hnb x e (by omega))
        generalize (if c' = m then some ad else Option.map (·.add m) (some ad)) = a2 at hsl hsr hsb
        have hzm : zs ++ zz = xs ++ ys.take (k + m) := by rw [hzs, hzz, List.append_assoc, ← List.take_add]
        have hkm : n - k - m = n - (k + m) := by omega
        have hsp : splice (hcl (stArr (full zs)).toList bl zs.length) (8 + pd) (bvs zz) = hcl (stArr (full zs)).toList (splice bl pd zz) zs.length := hcl_splice_block _ _ rfl hb2 (by omega)
        have hl2 : (splice bl pd zz).length = 64 := by rw [splice_length _ (by omega), hb2]
        have ht2 : (splice bl pd zz).take (pd + m) = zs.drop (zs.length / 64 * 64) ++ zz := by
          have := splice_take (blk := bl) (ys := zz) pd (by omega)
          rw [hzzl] at this
          rw [this, hpd, hb3]
        generalize splice bl pd zz = b2 at hsp hl2 ht2
        have hwm : wr.heap[p]? = _ := hb1
        have i1 : (0 : Int) ≤ (pd : Int) := by omega
        have i2 : (pd : Int) ≤ 64 := by omega
        have i3 : ¬ (64 = pd) := by omega
        have hfit : 8 + pd + (bvs zz).length ≤ (hcl (stArr (full zs)).toList bl zs.length).length := by rw [hcl_length _ rfl hb2, bvs_length]; omega
        have hcn : (bvs zz).length = Nat.min (n - k) (64 - pd) := by rw [bvs_length, hzzl, hm]
        have HP := Lib.hid hpend
        have HRd := Lib.hid hrd
        have HG0 := Lib.hid hgr
        have HSR := Lib.hid hsr
        have HST := Lib.hid hst
        have HZL := Lib.hid hzl
        have HCN := Lib.hid hcn
        have HPD := Lib.hid hpd
        have HM := Lib.hid hm
        have HSP := Lib.hid hsp
        have HT2 := Lib.hid ht2
        have hzb : zs.length ≤ 1152921504606846976 := by omega
        have hbl : (bvs zz).length = m := by rw [bvs_length, hzzl]
        have j1 : (0 : Int) ≤ (m : Int) := by omega
        clear hst hgr hpend hsr hb1 hb3 hzs hpd hm hzz hzl hsp ht2 hb2 hcn
        go_wp2_with (first
          | (go_at_call 78; refine (HP.out _ HST.out).mono ?_; rintro e w' ⟨rfl, rfl⟩)
          | (with_reducible refine wpList_copy_mid (o := ⟨some 28, _, _, _, _, _⟩) rfl (.tmp 26) (.tmp 27) 44 44 rfl 5 Tryd.underlying44 hsz5 p (8 + pd) (64 - pd) (64 - pd) ad (n - k) c' rfl rfl (hcl (stArr (full zs)).toList bl zs.length) 100 hwm (bvs zz) HCN.out hadb hfit (bvs_one zz) ?_))
        intro w2 HG hg2
        have hG := HG.out
        rw [HSP.out] at hG
        have c72 : w2.cell? ⟨p, 72, none⟩ = some (.int .u64 (zs.length : Int)) := by rw [cell_of_blk hG]; simpa using hcl_count zs.length rfl hl2
        have f72 : w2.frozen? ⟨p, 72, none⟩ = false := free_of_blk hG 72
        have hG3 : (w2.setCell ⟨p, 72, none⟩ (.int .u64 ((zs.length : Int) + (m : Int)))).heap[p]? = some (.cells (hcl (stArr (full zs)).toList b2 (zs.length + m)).toArray 100 (0, 0)) := by
          rw [blk_setCell hG]
          have := hcl_set_count (sv := (stArr (full zs)).toList) (blk := b2) zs.length (zs.length + m) rfl hl2
          rw [← this]
          simp
        have hg3 : w.grownBy (w2.setCell ⟨p, 72, none⟩ (.int .u64 ((zs.length : Int) + (m : Int)))) (some p) := gb_trans HG0.out (gb_setCell hg2)
        have hR3 := (HSR.out _ HRd.out).kept0 (w' := w2.setCell ⟨p, 72, none⟩ (.int .u64 ((zs.length : Int) + (m : Int)))) (gb_setCell hg2).size (fun b off e h0 => (gb_setCell hg2).block b (by
          obtain ⟨b', o', e', hb, _⟩ := (HSR.out _ HRd.out).at0 h0
          rw [e] at e'; cases e'; exact hb) (by have := hsb _ e; simpa using this))
        have HG3 := Lib.hid hG3
        have Hg3 := Lib.hid hg3
        have HR3 := Lib.hid hR3
        clear hG hG3 hg3 hR3 hg2 HG hwm hadb hfit hrd
        by_cases h64 : pd + m = 64
        · have hdec : (((pd : Int) + (m : Int)) == 64) = true := by simp; omega
          obtain ⟨w3, hw3⟩ : ∃ w3, w3 = w2.setCell ⟨p, 72, none⟩ (.int .u64 ((zs.length : Int) + (m : Int))) := ⟨_, rfl⟩
          have hG3 := HG3.out
          rw [← hw3] at hG3
          have hg3 := Hg3.out
          rw [← hw3] at hg3
          have hK3 : Kon w3.drew := fun j hj => by
            have := HK.out j hj
            rw [World.cell?_drew, World.cell?_of_block (w := w) (hg3.block _ (World.block_lt_of_cell? w _ this) (by show some _ ≠ some _; intro e; cases e; exact hp rfl))]
            exact this
          obtain ⟨A, hA⟩ : ∃ A, A = stArr (full zs) := ⟨_, rfl⟩
          obtain ⟨Bv, hBv⟩ : ∃ Bv, Bv = bArr b2 := ⟨_, rfl⟩
          have hBv2 : (bvs b2).toArray = Bv := by rw [hBv]; exact bvs_bArr hl2
          obtain ⟨R, hR⟩ : ∃ R, R = stArr (nxt (full zs) b2) := ⟨_, rfl⟩
          have hN := next_any (full zs) b2
          rw [← hA, ← hBv, ← hR] at hN
          have hS : ∀ w4, Below w3.drew.heap.size w3.drew w4 → (Instr.storeAt 87 (.pointer (some ⟨p, 0, none⟩)) (.agg R)).run Tryd.prog w4 = .ok () (w4.setCells p 0 R.toList) := fun w4 hb4 => by
            have h4 : w4.heap[p]? = _ := (hb4.block p (lt_of_block hG3)).trans hG3
            exact run_storeAt_mid w4 p 0 87 R (by rw [hR]; exact there_of_blk h4 0 8 (by rw [hcl_length _ rfl hl2]; omega)) (by rw [hR]; kernel_rfl) (by rw [hR]; exact stArr_one _)
          have HL1 := Lib.hid (range_of_hcl_state hG3)
          have HL2 := Lib.hid (range_of_hcl_block hG3)
          have HN := Lib.hid hN
          have HS := Lib.hid hS
          have HW3 := Lib.hid hw3
          have HG4 := Lib.hid hG3
          have Hg4 := Lib.hid hg3
          have HK3 := Lib.hid hK3
          have HRr := Lib.hid hR
          have HAa := Lib.hid hA
          have HBv := Lib.hid hBv2
          clear hN hS hG3 hg3 hK3 hA hBv hBv2 hR hw3
          go_wp2_with fail
          rw [← HW3.out]
          clear c72 f72
          have hr1 : w3.drew.rangeAt p 0 A.toList := by rw [HAa.out]; exact HL1.out
          have hr2 : w3.drew.rangeAt p 8 Bv.toList := by rw [← HBv.out]; exact HL2.out
          have hi64 : (Tryd.prog.info? 98).map (·.size) = some Bv.toList.length := by rw [← HBv.out]; show _ = some (bvs b2).length; rw [bvs_length, hl2]; kernel_rfl
          have hi8 : (Tryd.prog.info? 87).map (·.size) = some A.toList.length := by rw [HAa.out]; kernel_rfl
          have HR1 := Lib.hid hr1
          have HR2 := Lib.hid hr2
          have HI64 := Lib.hid hi64
          have HI8 := Lib.hid hi8
          clear hr1 hr2 hi64 hi8
          refine abstract_act (fun act hact => ?_)
          have x0 : act.eval (.tmp 0) = .pointer (some ⟨p, 0, none⟩) := by rw [hact]; rfl
          have xs0 : act.tmps.size = 57 := by rw [hact]; rfl
          have HACT := Lib.hid hact
          clear hact
          refine wp_region_any (by kernel_rfl) ?_
          change wpAny _ _ _ _ _ _ _ w3.drew
          refine take_run 0 ⟨some 45, .move (.tmp 0), _, _, _, _⟩ 45 (.pointer (some ⟨p, 0, none⟩)) rfl rfl rfl (by kernel_rfl) (by kernel_rfl) (by kernel_rfl) (fun _ _ _ h => h) (run_move rfl (by simp [ev_same, ev_ne, size_put, x0, xs0])) ?_
          refine take_run 1 ⟨some 46, .move (.tmp 0), _, _, _, _⟩ 46 (.pointer (some ⟨p, 0, none⟩)) rfl rfl rfl (by kernel_rfl) (by kernel_rfl) (by kernel_rfl) (fun _ _ _ h => h) (run_move rfl (by simp [ev_same, ev_ne, size_put, x0, xs0])) ?_
          refine take_run 2 ⟨some 47, .nilCheck (.tmp 46), _, _, _, _⟩ 47 (.pointer (some ⟨p, 0, none⟩)) rfl rfl rfl (by kernel_rfl) (by kernel_rfl) (by kernel_rfl) (fun _ _ _ h => h) (run_nil rfl (by simp [ev_same, ev_ne, size_put, x0, xs0])) ?_
          refine take_run 3 ⟨some 48, .fieldAddr 100 (.tmp 47) 0, _, _, _, _⟩ 48 (.pointer (some ⟨p, 0, none⟩)) rfl rfl rfl (by kernel_rfl) (by kernel_rfl) (by kernel_rfl) (fun _ _ _ h => h) (run_field rfl (by simp [ev_same, ev_ne, size_put, x0, xs0]) (field0 p)) ?_
          refine take_run 5 ⟨some 50, .move (.tmp 0), _, _, _, _⟩ 50 (.pointer (some ⟨p, 0, none⟩)) rfl rfl rfl (by kernel_rfl) (by kernel_rfl) (by kernel_rfl) (fun _ _ _ h => h) (run_move rfl (by simp [ev_same, ev_ne, size_put, x0, xs0])) ?_
          refine take_run 6 ⟨some 51, .nilCheck (.tmp 50), _, _, _, _⟩ 51 (.pointer (some ⟨p, 0, none⟩)) rfl rfl rfl (by kernel_rfl) (by kernel_rfl) (by kernel_rfl) (fun _ _ _ h => h) (run_nil rfl (by simp [ev_same, ev_ne, size_put, x0, xs0])) ?_
          refine take_run 7 ⟨some 52, .fieldAddr 100 (.tmp 51) 1, _, _, _, _⟩ 52 (.pointer (some ⟨p, 8, none⟩)) rfl rfl rfl (by kernel_rfl) (by kernel_rfl) (by kernel_rfl) (fun _ _ _ h => h) (run_field rfl (by simp [ev_same, ev_ne, size_put, x0, xs0]) (field1 p)) ?_
          refine wpAny_ready (rs := [4, 8]) (by kernel_rfl) (by simp) ?_
          refine AllReady.cons (o := ⟨some 49, .load 87 (.tmp 48), _, _, _, _⟩) rfl (fun K hK => ?_) (AllReady.cons (o := ⟨some 53, .load 98 (.tmp 52), _, _, _, _⟩) rfl (fun K hK => ?_) AllReady.nil)
          · with_reducible refine step_load_mid (hgd := rfl) 87 (.tmp 48) rfl p 0 (by simp [ev_same, ev_ne, size_put, x0, xs0]) A.toList _ HR1.out Tryd.underlying87 rfl HI8.out (hK _ _ ?_)
            clear hK K
            refine wpAny_ready (rs := [8]) (by kernel_rfl) (by simp) ?_
            refine AllReady.cons (o := ⟨some 53, .load 98 (.tmp 52), _, _, _, _⟩) rfl (fun K hK => ?_) AllReady.nil
            with_reducible refine step_load_mid (hgd := rfl) 98 (.tmp 52) rfl p 8 (by simp [ev_same, ev_ne, size_put, x0, xs0]) Bv.toList _ HR2.out Tryd.underlying98 rfl HI64.out (hK _ _ ?_)
            clear hK K
            refine wpAny_ready (rs := [9]) (by kernel_rfl) (by simp) ?_
            refine AllReady.cons (o := ⟨some 54, .call { callee := .value (.func 79), args := #[.tmp 49, .tmp 53], argTypes := #[87, 98] }, _, _, _, _⟩) rfl (fun K hK => ?_) AllReady.nil
            with_reducible refine step_call rfl 79 next_enter (.tmp 49) (.tmp 53) _ rfl (.agg A) (.agg Bv) (.agg R) (by simp [ev_same, ev_ne, size_put, x0, xs0]) (by simp [ev_same, ev_ne, size_put, x0, xs0]) _ (HN.out _ (full_ok _) HK3.out) (fun w4 hb4 => hK _ _ ?_)
            clear hK K
            refine take_run 10 ⟨some 55, .nilCheck (.tmp 45), _, _, _, _⟩ 55 (.pointer (some ⟨p, 0, none⟩)) rfl rfl rfl (by kernel_rfl) (by kernel_rfl) (by kernel_rfl) (fun _ _ _ h => h) (run_nil rfl (by simp [ev_same, ev_ne, size_put, x0, xs0])) ?_
            refine take_run 11 ⟨some 56, .fieldAddr 100 (.tmp 55) 0, _, _, _, _⟩ 56 (.pointer (some ⟨p, 0, none⟩)) rfl rfl rfl (by kernel_rfl) (by kernel_rfl) (by kernel_rfl) (fun _ _ _ h => h) (run_field rfl (by simp [ev_same, ev_ne, size_put, x0, xs0]) (field0 p)) ?_
            refine wpAny_ready (rs := [12]) (by kernel_rfl) (by simp) ?_
            refine AllReady.cons (o := ⟨none, .store 87 (.tmp 56) (.tmp 54), _, _, _, _⟩) rfl (fun K hK => ?_) AllReady.nil
            have h4 : w4.heap[p]? = some (.cells (hcl (stArr (full zs)).toList b2 (zs.length + m)).toArray 100 (0, 0)) := (hb4.block p (lt_of_block HG4.out)).trans HG4.out
            have hth : w4.there p 0 R.size := by rw [HRr.out]; exact there_of_blk h4 0 8 (by rw [hcl_length _ rfl hl2]; omega)
            have hi36 : (Tryd.prog.info? 87).map (·.size) = some R.size := by rw [HRr.out]; kernel_rfl
            have hR1 : R.all (·.oneCell') = true := by rw [HRr.out]; exact stArr_one _
            have hcells := heap_setCells p 100 R.toList 0 w4 _ h4 (by rw [hcl_length _ rfl hl2, HRr.out]; simp [stArr])
            rw [hcl_splice_state (sv' := R.toList) _ rfl (by rw [HRr.out]; rfl)] at hcells
            have HC := Lib.hid hcells
            have HB4 := Lib.hid hb4
            with_reducible refine step_store_mid (hgd := rfl) 87 (.tmp 56) (.tmp 54) rfl p 0 R (by simp [ev_same, ev_ne, size_put, x0, xs0]) (by simp [ev_same, ev_ne, size_put, x0, xs0]) hth hi36 hR1 (hK _ _ ?_)
            clear hK K hcells h4 hb4 hth hi36 hR1
            refine wpAny_done (by kernel_rfl) ?_ _
            rw [HACT.out]
            clear x0 xs0
            simp only [Act.put, List.setIfInBounds_toArray, List.set_cons_succ, List.set_cons_zero]
            go_wp2_with fail
            go_roundw
            case rel =>
              have e1 := HZL.out
              have e2 := HPD.out
              have hgf : w3.grownBy (w4.setCells p 0 R.toList) (some p) := gb_trans (gb_drew (World.grownBy.refl _ _)) (gb_trans (gb_below HB4.out) (gb_setCells _ _ _ _))
              have hR3 := HR3.out
              rw [← HW3.out] at hR3
              refine ⟨k + m, a2, c' - m, by omega, rfl, by rw [← hkm, ← List.drop_drop]; exact hR3.kept0 hgf.size (fun b off e h0 => hgf.block b (by
                obtain ⟨b', o', e', hb, _⟩ := hR3.at0 h0
                rw [e] at e'; cases e'; exact hb) (by have := hsb _ e; simpa using this)), (fun x e _ => hsb x e), ?_, gb_trans Hg4.out hgf⟩
              rw [← hzm]
              have hfs : full (zs ++ zz) = nxt (full zs) b2 := by
                rw [full_step zs zz (by omega), ← HT2.out, List.take_of_length_le (by omega)]
              refine ⟨b2, by rw [hfs, List.length_append, hzzl, ← HRr.out]; exact HC.out, hl2, ?_⟩
              have e3 : (zs ++ zz).length % 64 = 0 := by simp [hzzl]; omega
              have e4 : (zs ++ zz).length / 64 * 64 = (zs ++ zz).length := by omega
              rw [e3, e4, List.drop_length]; rfl
            case measure => simp [slLen]; omega
          · with_reducible refine step_load_mid (hgd := rfl) 98 (.tmp 52) rfl p 8 (by simp [ev_same, ev_ne, size_put, x0, xs0]) Bv.toList _ HR2.out Tryd.underlying98 rfl HI64.out (hK _ _ ?_)
            clear hK K
            refine wpAny_ready (rs := [4]) (by kernel_rfl) (by simp) ?_
            refine AllReady.cons (o := ⟨some 49, .load 87 (.tmp 48), _, _, _, _⟩) rfl (fun K hK => ?_) AllReady.nil
            with_reducible refine step_load_mid (hgd := rfl) 87 (.tmp 48) rfl p 0 (by simp [ev_same, ev_ne, size_put, x0, xs0]) A.toList _ HR1.out Tryd.underlying87 rfl HI8.out (hK _ _ ?_)
            clear hK K
            refine wpAny_ready (rs := [9]) (by kernel_rfl) (by simp) ?_
            refine AllReady.cons (o := ⟨some 54, .call { callee := .value (.func 79), args := #[.tmp 49, .tmp 53], argTypes := #[87, 98] }, _, _, _, _⟩) rfl (fun K hK => ?_) AllReady.nil
            with_reducible refine step_call rfl 79 next_enter (.tmp 49) (.tmp 53) _ rfl (.agg A) (.agg Bv) (.agg R) (by simp [ev_same, ev_ne, size_put, x0, xs0]) (by simp [ev_same, ev_ne, size_put, x0, xs0]) _ (HN.out _ (full_ok _) HK3.out) (fun w4 hb4 => hK _ _ ?_)
            clear hK K
            refine take_run 10 ⟨some 55, .nilCheck (.tmp 45), _, _, _, _⟩ 55 (.pointer (some ⟨p, 0, none⟩)) rfl rfl rfl (by kernel_rfl) (by kernel_rfl) (by kernel_rfl) (fun _ _ _ h => h) (run_nil rfl (by simp [ev_same, ev_ne, size_put, x0, xs0])) ?_
            refine take_run 11 ⟨some 56, .fieldAddr 100 (.tmp 55) 0, _, _, _, _⟩ 56 (.pointer (some ⟨p, 0, none⟩)) rfl rfl rfl (by kernel_rfl) (by kernel_rfl) (by kernel_rfl) (fun _ _ _ h => h) (run_field rfl (by simp [ev_same, ev_ne, size_put, x0, xs0]) (field0 p)) ?_
            refine wpAny_ready (rs := [12]) (by kernel_rfl) (by simp) ?_
            refine AllReady.cons (o := ⟨none, .store 87 (.tmp 56) (.tmp 54), _, _, _, _⟩) rfl (fun K hK => ?_) AllReady.nil
            have h4 : w4.heap[p]? = some (.cells (hcl (stArr (full zs)).toList b2 (zs.length + m)).toArray 100 (0, 0)) := (hb4.block p (lt_of_block HG4.out)).trans HG4.out
            have hth : w4.there p 0 R.size := by rw [HRr.out]; exact there_of_blk h4 0 8 (by rw [hcl_length _ rfl hl2]; omega)
            have hi36 : (Tryd.prog.info? 87).map (·.size) = some R.size := by rw [HRr.out]; kernel_rfl
            have hR1 : R.all (·.oneCell') = true := by rw [HRr.out]; exact stArr_one _
            have hcells := heap_setCells p 100 R.toList 0 w4 _ h4 (by rw [hcl_length _ rfl hl2, HRr.out]; simp [stArr])
            rw [hcl_splice_state (sv' := R.toList) _ rfl (by rw [HRr.out]; rfl)] at hcells
            have HC := Lib.hid hcells
            have HB4 := Lib.hid hb4
            with_reducible refine step_store_mid (hgd := rfl) 87 (.tmp 56) (.tmp 54) rfl p 0 R (by simp [ev_same, ev_ne, size_put, x0, xs0]) (by simp [ev_same, ev_ne, size_put, x0, xs0]) hth hi36 hR1 (hK _ _ ?_)
            clear hK K hcells h4 hb4 hth hi36 hR1
            refine wpAny_done (by kernel_rfl) ?_ _
            rw [HACT.out]
            clear x0 xs0
            simp only [Act.put, List.setIfInBounds_toArray, List.set_cons_succ, List.set_cons_zero]
            go_wp2_with fail
            go_roundw
            case rel =>
              have e1 := HZL.out
              have e2 := HPD.out
              have hgf : w3.grownBy (w4.setCells p 0 R.toList) (some p) := gb_trans (gb_drew (World.grownBy.refl _ _)) (gb_trans (gb_below HB4.out) (gb_setCells _ _ _ _))
              have hR3 := HR3.out
              rw [← HW3.out] at hR3
              refine ⟨k + m, a2, c' - m, by omega, rfl, by rw [← hkm, ← List.drop_drop]; exact hR3.kept0 hgf.size (fun b off e h0 => hgf.block b (by
                obtain ⟨b', o', e', hb, _⟩ := hR3.at0 h0
                rw [e] at e'; cases e'; exact hb) (by have := hsb _ e; simpa using this)), (fun x e _ => hsb x e), ?_, gb_trans Hg4.out hgf⟩
              rw [← hzm]
              have hfs : full (zs ++ zz) = nxt (full zs) b2 := by
                rw [full_step zs zz (by omega), ← HT2.out, List.take_of_length_le (by omega)]
              refine ⟨b2, by rw [hfs, List.length_append, hzzl, ← HRr.out]; exact HC.out, hl2, ?_⟩
              have e3 : (zs ++ zz).length % 64 = 0 := by simp [hzzl]; omega
              have e4 : (zs ++ zz).length / 64 * 64 = (zs ++ zz).length := by omega
              rw [e3, e4, List.drop_length]; rfl
            case measure => simp [slLen]; omega
        · have h64b : pd + m < 64 := by omega
          have hdec : (((pd : Int) + (m : Int)) == 64) = false := by simp; omega
          go_wp2
          go_roundw
          case rel =>
            have e1 := HZL.out
            have e2 := HPD.out
            refine ⟨k + m, a2, c' - m, by omega, rfl, by rw [← hkm, ← List.drop_drop]; exact HR3.out, (fun x e _ => hsb x e), ?_, Hg3.out⟩
            rw [← hzm]
            refine ⟨b2, by rw [full_same zs zz (by omega), List.length_append, hzzl]; exact HG3.out, hl2, ?_⟩
            have e3 : (zs ++ zz).length % 64 = pd + m := by simp [hzzl]; omega
            have e4 : (zs ++ zz).length / 64 = zs.length / 64 := by simp [hzzl]; omega
            rw [e3, e4, HT2.out, List.drop_append_of_le_length (by omega)]
          case measure => simp [slLen]; omega
      · obtain rfl : k = n := by omega
        have hnn : (k : Nat) - k = 0 := by omega
        rw [hnn] at hrd ⊢
        go_wp2
        refine bodyPost_end (results_none rfl _ _ _) rfl ?_
        refine ⟨rfl, ?_, hgr⟩
        rw [List.take_of_length_le (by rw [hlen.out]; exact Nat.le_refl _)] at hst
        exact hst

set_option maxRecDepth 20000 in
set_option maxHeartbeats 400000 in
theorem write_nil (v : Value) (w : World) :
    Calls Tryd.prog 71 #[.pointer none, v] w fun e w' => e = .returned (.tuple #[]) ∧ w' = w := by
  go_enter Tryd.func71, Tryd.ntmps71
  go_wp2
  refine bodyPost_ret (results_none rfl _ _ _) rfl ?_
  exact ⟨rfl, rfl⟩
end Go.Proofs.YtlockgfokfhokaaDoor


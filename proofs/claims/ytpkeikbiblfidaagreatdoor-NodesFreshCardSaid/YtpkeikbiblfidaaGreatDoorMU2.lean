/-
  Texts put together: U2, U4.
-/
import Derived.Test.YtpkeikbiblfidaaGreatDoorMU
import Derived.Shelf.Abstract
/-
  The document's tree in memory; its New, where all is well.
-/
namespace Go.Proofs.YtpkeikbiblfidaaGreatDoor
open Go.RowKit Dg
set_option linter.unusedVariables false
set_option linter.unusedSimpArgs false

theorem tstep_append_at {P : Program} {w : World} {ops : Array Oper} {o : Oper} {a : Act} {K : Act → World → Prop} {Q : Exit → Act → World → Prop} {E : Prop} (hgd : o.guard = none) (s x : Operand) (t : TypeId)
    (ho : o.op = .call { callee := .builtin .append, args := #[s, x], argTypes := #[t, t] }) (base : Nat) (e : TypeId) (i : TypeInfo) (z : Value) (size bytes : Nat) (ht : P.underlying t = some (.slice e)) (hi : P.info? e = some i) (hz : i.zero = some z) (hsize : i.size = size) (hby : i.bytes = bytes) (hzs : z.cells.size = size) (hsz : 0 < size)
    (v : Value) (n : Nat) (xs : List Value) (hs : a.eval s = v) (hown : w.ownsRow base e size v n xs) (ad : Addr) (m c : Nat) (news : List Value) (hx : a.eval x = .slice (some ad) m c) (hl : news.length = m * size)
    (hnews : ∀ j u, news[j]? = some u → w.cell? (ad.add j) = some u) (h1 : ∀ u ∈ news, u.oneCell' = true) (h63 : n + m ≤ maxLen) (hbytes : (n + m) * bytes ≤ 140737488355328) (hbase : base ≤ w.heap.size)
    (h : ∀ v' w', w'.ownsRow base e size v' (n + m) (xs ++ news) → w.grownBy w' v.ownBlock → (v'.ownBlock = v.ownBlock ∨ v'.ownBlock = some w.heap.size) → K (a.put o.dst v') w') :
    if Region.wanted o (yielded ops a.tmps) = true then Oper.wp P o a w K Q else E := by
  have hw : Region.wanted o (yielded ops a.tmps) = true := by simp [Region.wanted, hgd]
  rw [if_pos hw]
  obtain ⟨v', w', hr, h2, h3, h4, h5⟩ := run_append_own_at (P := P) w base t o.type e i z size bytes ht hi hz hsize hby hzs hsz v n xs hown ad m c news hl hnews h1 h63 hbytes hbase
  unfold Oper.wp execOp
  simp only [ho, resolve, invoke, builtin, Sem.run_bind, Sem.run_pure, Result.andThen_ok, List.map_toArray, List.map_cons, List.map_nil, hs, hx, hr]
  exact h v' w' h2 h3 h5

theorem step_call1 {P : Program} {ops : Array Oper} {w : World} {K : Act → World → Prop} {Q : Exit → Act → World → Prop} {E : Prop} {op : Oper} {a : Act} (hgd : op.guard = none) (f : FuncId) (hrun : ∀ args w, (callFunc f args).run P w = .ok (.enter f args) w) (x : Operand) (tys : Array TypeId)
    (ho : op.op = .call { callee := .value (.func f), args := #[x], argTypes := tys }) (u r : Value) (hx : a.eval x = u) (C : World → Prop) (hc : Calls P f #[u] w fun e w' => e = .returned r ∧ C w')
    (h : ∀ w', C w' → K (a.put op.dst r) w') : if Region.wanted op (yielded ops a.tmps) = true then Oper.wp P op a w K Q else E := by
  have hw : Region.wanted op (yielded ops a.tmps) = true := by simp [Region.wanted, hgd]
  rw [if_pos hw]
  have e : (execOp a.eval op).run P w = .ok (.enter f #[u]) w := by
    obtain ⟨d, o2, t2, p2, af, g⟩ := op
    simp only at ho
    subst ho
    show (callFunc f (#[] ++ (#[x] : Array Operand).map a.eval ++ #[])).run P w = _
    rw [hrun]
    simp [← hx]
  unfold Oper.wp
  rw [e]
  exact hc.mono (by rintro e w' ⟨rfl, hC⟩; exact h w' hC)

theorem step_call3 {P : Program} {ops : Array Oper} {w : World} {K : Act → World → Prop} {Q : Exit → Act → World → Prop} {E : Prop} {op : Oper} {a : Act} (hgd : op.guard = none) (f : FuncId) (hrun : ∀ args w, (callFunc f args).run P w = .ok (.enter f args) w) (x y z : Operand) (tys : Array TypeId)
    (ho : op.op = .call { callee := .value (.func f), args := #[x, y, z], argTypes := tys }) (u v t r : Value) (hx : a.eval x = u) (hy : a.eval y = v) (hz : a.eval z = t) (C : World → Prop) (hc : Calls P f #[u, v, t] w fun e w' => e = .returned r ∧ C w')
    (h : ∀ w', C w' → K (a.put op.dst r) w') : if Region.wanted op (yielded ops a.tmps) = true then Oper.wp P op a w K Q else E := by
  have hw : Region.wanted op (yielded ops a.tmps) = true := by simp [Region.wanted, hgd]
  rw [if_pos hw]
  have e : (execOp a.eval op).run P w = .ok (.enter f #[u, v, t]) w := by
    obtain ⟨d, o2, t2, p2, af, g⟩ := op
    simp only at ho
    subst ho
    show (callFunc f (#[] ++ (#[x, y, z] : Array Operand).map a.eval ++ #[])).run P w = _
    rw [hrun]
    simp [← hx, ← hy, ← hz]
  unfold Oper.wp
  rw [e]
  exact hc.mono (by rintro e w' ⟨rfl, hC⟩; exact h w' hC)

/-- A tree at p: ty its type; a geometry, and its digests. -/
structure GT (ty : TypeId) (w : World) (B p : Nat) (v : Value) (N F C U : Int) (L : List ByteArray) : Prop where
  blk : w.heap[p]? = some (.cells #[.int .i64 N, .int .i64 F, .int .i64 C, .int .i64 U, v] ty (0, 0))
  low : B ≤ p
  own : w.ownsRow B 9 1 v L.length (strs L)
  ne : v.ownBlock ≠ some p
def tfoot (p : Nat) (v : Value) (k : Nat) : Prop := k = p ∨ v.ownBlock = some k
theorem GT.lt {ty w B p v N F C U L} (h : GT ty w B p v N F C U L) : p < w.heap.size := lt_of_block h.blk
theorem GT.kept {ty} {w w' : World} {B p v N F C U L} (h : GT ty w B p v N F C U L) (hk : ∀ k, tfoot p v k → w'.heap[k]? = w.heap[k]?) : GT ty w' B p v N F C U L :=
  ⟨(hk p (.inl rfl)).trans h.blk, h.low, owns_kept h.own (fun k hv => hk k (.inr hv)), h.ne⟩
theorem GT.foot_low {ty w B p v N F C U L} (h : GT ty w B p v N F C U L) : ∀ k, tfoot p v k → B ≤ k ∧ k < w.heap.size := by
  rintro k (rfl | e)
  · exact ⟨h.low, h.lt⟩
  · exact h.own.lt k e
theorem GT.below {ty} {w w' : World} {B p v N F C U L} (h : GT ty w B p v N F C U L) (hb : Below w.heap.size w w') : GT ty w' B p v N F C U L := h.kept fun k hk => hb.block k (h.foot_low k hk).2
theorem GT.cells {ty w B p v N F C U L} (h : GT ty w B p v N F C U L) : w.cell? ⟨p, 0, none⟩ = some (.int .i64 N) ∧ w.cell? ⟨p, 1, none⟩ = some (.int .i64 F) ∧ w.cell? ⟨p, 2, none⟩ = some (.int .i64 C) ∧ w.cell? ⟨p, 3, none⟩ = some (.int .i64 U) ∧ w.cell? ⟨p, 4, none⟩ = some v ∧ (∀ i, w.frozen? ⟨p, i, none⟩ = false) := by
  refine ⟨?_, ?_, ?_, ?_, ?_, fun i => free_of_blk h.blk i⟩ <;> (rw [cell_of_blk h.blk]; rfl)
theorem GT.frl {ty} {w w' : World} {A : Nat → Prop} {B p v N F C U L} (h : GT ty w B p v N F C U L) (hf : Fr A w w') (hd : ∀ k, tfoot p v k → ¬ A k) : GT ty w' B p v N F C U L := h.kept fun k hk => hf.block k (h.foot_low k hk).2 (hd k hk)
theorem ne_of_type {ty : TypeId} {w : World} {B p n : Nat} {v : Value} {L : List ByteArray} {cs : Array Value} (hb : w.heap[p]? = some (.cells cs ty (0, 0))) (ho : w.ownsRow B 9 1 v n (strs L)) (ht : ty ≠ 9) : v.ownBlock ≠ some p := fun e => by
  obtain ⟨cur, hc⟩ := owns_type ho e
  rw [hb] at hc
  simp at hc
  exact ht hc.2
/-- The document's tree; the program's. -/
abbrev RT := GT 58

/-- A text is appended to the tree's list, behind a call. -/
theorem rt_end {w0 w w4 w5 : World} {p : Nat} {v v5 : Value} {N F C U : Int} {L L' : List ByteArray} {o : Obj} (h : RT w w0.heap.size p v N F C U L) (h0 : Below w0.heap.size w0 w) (hb : Below w.heap.size w w4) (hg : (w4.alloc o).grownBy w5 v.ownBlock)
    (how : w5.ownsRow w0.heap.size 9 1 v5 L'.length (strs L')) : RT (w5.setCell ⟨p, 4, none⟩ v5) w0.heap.size p v5 N F C U L' ∧ Below w0.heap.size w0 (w5.setCell ⟨p, 4, none⟩ v5) := by
  have hl := h.lt
  have hb5 : w5.heap[p]? = some (.cells #[.int .i64 N, .int .i64 F, .int .i64 C, .int .i64 U, v] 58 (0, 0)) := by
    rw [hg.block p (by have := hb.size; simp; omega) (fun e => h.ne e.symm), Below.heap_alloc _ _ _ (Nat.lt_of_lt_of_le hl hb.size), hb.block p hl]
    exact h.blk
  have hn5 : v5.ownBlock ≠ some p := fun e => by
    obtain ⟨cur, hc⟩ := owns_type how e
    rw [hb5] at hc
    simp at hc
  have h4 : Below w0.heap.size w0 (w4.alloc o) := (h0.trans (hb.mono h0.size)).alloc (h0.trans (hb.mono h0.size)).size _
  exact ⟨⟨(blk_setCell hb5).trans (by simp), h.low, owns_set_other how hn5 _, hn5⟩, (h4.grown hg h4.size (fun j hj => (h.own.lt j hj).1)).setCell (p := ⟨p, 4, none⟩) h.low _⟩
theorem rt_blk5 {w w4 w5 : World} {B p : Nat} {v : Value} {N F C U : Int} {L : List ByteArray} {o : Obj} (h : RT w B p v N F C U L) (hb : Below w.heap.size w w4) (hg : (w4.alloc o).grownBy w5 v.ownBlock) : w5.heap[p]? = some (.cells #[.int .i64 N, .int .i64 F, .int .i64 C, .int .i64 U, v] 58 (0, 0)) := by
  have hl := h.lt
  rw [hg.block p (by have := hb.size; simp; omega) (fun e => h.ne e.symm), Below.heap_alloc _ _ _ (Nat.lt_of_lt_of_le hl hb.size), hb.block p hl]
  exact h.blk

/-- The tree's list as it grows: i nodes above the leaves. -/
def growL (N F C U : Int) (base : List ByteArray) : Nat → List ByteArray
  | 0 => base
  | i + 1 => growL N F C U base i ++ [nodeB (kids (growL N F C U base i) (children N F C U ((base.length + i : Nat) : Int)))]
theorem growL_length (N F C U base i) : (growL N F C U base i).length = base.length + i := by
  induction i with
  | zero => rfl
  | succ i ih => simp [growL, ih]; omega
def treeL (N F C U : Int) (Ss : List ByteArray) : List ByteArray := growL N F C U (Ss.map leafB) (nodes N F C U - Ss.length)
theorem leafB_size (s : ByteArray) : (leafB s).size = 32 := by
  show (List.toArray (dig (0 :: s.data.toList))).size = 32
  rw [List.size_toArray, dig_length]
theorem nodeB_size (K : List ByteArray) : (nodeB K).size = 32 := by
  show (List.toArray (dig (1 :: jn (lAt K) K.length))).size = 32
  rw [List.size_toArray, dig_length]
theorem lAt_append_lt {L M : List ByteArray} {i : Nat} (h : i < L.length) : lAt (L ++ M) i = lAt L i := by
  unfold lAt; rw [List.getElem?_append_left h]
theorem lAt_append_eq {L : List ByteArray} {s : ByteArray} : lAt (L ++ [s]) L.length = s := by
  unfold lAt; simp
theorem growL_size {N F C U : Int} {base : List ByteArray} (h : ∀ j, j < base.length → (lAt base j).size = 32) (i : Nat) : ∀ j, j < (growL N F C U base i).length → (lAt (growL N F C U base i) j).size = 32 := by
  induction i with
  | zero => exact h
  | succ i ih =>
    intro j hj
    rw [growL_length] at hj
    have hl := growL_length N F C U base i
    unfold growL
    rcases Nat.lt_or_ge j (base.length + i) with h1 | h1
    · rw [lAt_append_lt (by omega)]; exact ih j (by omega)
    · have e : j = (growL N F C U base i).length := by omega
      rw [e, lAt_append_eq]
      exact nodeB_size _
theorem towns_low {w : World} {B B' e size n : Nat} {v : Value} {xs : List Value} (h : w.ownsRow B e size v n xs) (hl : B' ≤ B) : w.ownsRow B' e size v n xs := by
  refine ⟨h.1, ?_⟩
  rcases h.2 with hn | ⟨g, cap, cur, rfl, hb, rest⟩
  · exact .inl hn
  · exact .inr ⟨g, cap, cur, rfl, by omega, rest⟩
/-- A new tree of these digests has come. -/
def TNew (N F C U : Int) (L : List ByteArray) (w : World) (e : Ending) (w' : World) : Prop :=
  ∃ p v, e = .returned (.tuple #[.pointer (some ⟨p, 0, none⟩), .int .i64 0]) ∧ RT w' w.heap.size p v N F C U L ∧ Below w.heap.size w w'
/-- Why there is no tree of these sectors; 0: there is one. -/
def newErr (N F C U : Int) (Ss : List ByteArray) : Int := if ¬ okG N F C U then 12 else if (Ss.length : Int) ≠ N then 8 else if ∀ i, i < Ss.length → (lAt Ss i).size = 64 then 0 else 4
def fromErr (N F C U : Int) (Ss : List ByteArray) : Int := if ¬ okG N F C U then 12 else if Ss.length ≠ nodes N F C U then 8 else if ∀ i, i < Ss.length → (lAt Ss i).size = 32 then 0 else 4
/-- What a tree's making gives. -/
def TEnd (err : Int) (N F C U : Int) (L : List ByteArray) (w : World) (e : Ending) (w' : World) : Prop :=
  (err = 0 ∧ TNew N F C U L w e w') ∨ (err ≠ 0 ∧ e = .returned (.tuple #[.pointer none, .int .i64 err]) ∧ Below w.heap.size w w')
end Go.Proofs.YtpkeikbiblfidaaGreatDoor
/-
  The document's tree: Root, Digest; Texts.
-/
namespace Go.Proofs.YtpkeikbiblfidaaGreatDoor
open Go.RowKit Dg
set_option linter.unusedVariables false
set_option linter.unusedSimpArgs false

theorem guard_txt (op : BinOp) (x y : Operand) (u s : ByteArray) (w : World) : Sem.run Tryz.prog (eqGuard op 9 x y (.string u) (.string s)) w = .ok () w := by
  unfold eqGuard
  cases op <;> rfl
theorem neq_txt (u s : ByteArray) (w : World) : (binOp .neq 9 (.string u) (.string s)).run Tryz.prog w = .ok (.bool (!decide (u = s))) w := by
  obtain ⟨xs, rfl⟩ : ∃ xs : List UInt8, u = ⟨xs.toArray⟩ := ⟨u.data.toList, by cases u; simp⟩
  obtain ⟨ys, rfl⟩ : ∃ xs : List UInt8, s = ⟨xs.toArray⟩ := ⟨s.data.toList, by cases s; simp⟩
  go_simp
  by_cases h : xs = ys <;> simp [h]
theorem eql_txt (u s : ByteArray) (w : World) : (binOp .eql 9 (.string u) (.string s)).run Tryz.prog w = .ok (.bool (decide (u = s))) w := by
  obtain ⟨xs, rfl⟩ : ∃ xs : List UInt8, u = ⟨xs.toArray⟩ := ⟨u.data.toList, by cases u; simp⟩
  obtain ⟨ys, rfl⟩ : ∃ xs : List UInt8, s = ⟨xs.toArray⟩ := ⟨s.data.toList, by cases s; simp⟩
  go_simp
  by_cases h : xs = ys <;> simp [h]

def digP (L : List ByteArray) (node : Int) : ByteArray × Int := if node < 0 ∨ (L.length : Int) ≤ node then (noBytes, 3) else (lAt L node.toNat, 0)
def pairV (x : ByteArray × Int) : Value := .tuple #[.string x.1, .int .i64 x.2]

set_option maxRecDepth 20000 in
set_option maxHeartbeats 1000000 in
theorem trroot_any (B p : Nat) (v : Value) (N F C U : Int) (L : List ByteArray) (w : World) (h : RT w B p v N F C U L) (h0 : 0 < L.length) (h1 : L.length ≤ 1000) :
    Calls Tryz.prog 24 #[.pointer (some ⟨p, 0, none⟩)] w fun e w' => e = .returned (.string (lAt L (L.length - 1))) ∧ Below w.heap.size w w' := by
  have hd : RT w.drew B p v N F C U L := h.kept fun _ _ => rfl
  obtain ⟨_, _, _, _, c4, _⟩ := hd.cells
  obtain ⟨a, c, rfl, hrs, _⟩ := towns_shape hd.own
  obtain ⟨b, off, rfl, hbl, hc⟩ := hrs.at0 h0
  have hcx : (c : Int) ≤ 9223372036854775807 := by have := hrs.cm; unfold maxLen at this; omega
  obtain ⟨m, hm⟩ : ∃ m, L.length = m + 1 := ⟨L.length - 1, by omega⟩
  have e0 := hc m (by omega)
  rw [hm] at c4 ⊢
  rw [Nat.add_sub_cancel]
  generalize lAt L m = s at *
  have hb : Below w.heap.size w w.drew := (Below.refl _ _).drew
  have HB := Lib.hid hb
  clear hc hrs hbl h hd hb
  have i0 : (0 : Int) ≤ (m : Int) := by omega
  have i1 : ((m + 1 : Nat) : Int) - 1 = (m : Int) := by omega
  have i2 : (m : Int) < ((m + 1 : Nat) : Int) := by omega
  have i3 : IntKind.i64.wrap ((m : Int) + 1 - 1) = (m : Int) := by rw [IntWalk.i64_in _ (by omega)]; omega
  go_enter Tryz.func24, Tryz.ntmps24
  go_wp2_with fail
  go_region
  go_wp2
  go_ret
  exact ⟨rfl, HB.out⟩


theorem slist_ext {L M : List ByteArray} (hl : L.length = M.length) (h : ∀ i, i < L.length → lAt L i = lAt M i) : L = M := by
  refine List.ext_getElem hl fun i h1 h2 => ?_
  have := h i h1
  unfold lAt at this
  rw [List.getElem?_eq_getElem h1, List.getElem?_eq_getElem h2] at this
  exact this

set_option maxRecDepth 20000 in
set_option maxHeartbeats 2000000 in
theorem rtexts_any (a b : Option Addr) (n m ca cb : Nat) (L M : List ByteArray) (w : World) (hL : Rs w a n ca L) (hM : Rs w b m cb M) :
    Calls Tryz.prog 23 #[.slice a n ca, .slice b m cb] w fun e w' => e = .returned (.bool (decide (L = M))) ∧ Below w.heap.size w w' := by
  have hca : (ca : Int) ≤ 9223372036854775807 := by have := hL.cm; unfold maxLen at this; omega
  have hcb : (cb : Int) ≤ 9223372036854775807 := by have := hM.cm; unfold maxLen at this; omega
  have hLl := hL.len
  have hMl := hM.len
  have hna := hL.le
  have hnb := hM.le
  have HL := Lib.hid hL
  have HM := Lib.hid hM
  clear hL hM
  by_cases hnm : n = m
  · subst hnm
    go_enter Tryz.func23, Tryz.ntmps23
    go_wp2
    go_loopw [5] (fun i wr => ∃ k : Nat, k ≤ n ∧ i = .int .i64 k ∧ (∀ j, j < k → lAt L j = lAt M j) ∧ Below w.heap.size w wr) (fun i _ => n - (intOf i).toNat)
    case atStart => exact ⟨0, by omega, rfl, fun j hj => by omega, Below.refl _ _⟩
    case round =>
      obtain ⟨k, hk, rfl, hall, hB⟩ := hrel
      have HALL := Lib.hid hall
      clear hall
      by_cases hlt : k < n
      · have i0 : (0 : Int) ≤ (k : Int) := by omega
        have i1 : (k : Int) < (n : Int) := by omega
        obtain ⟨b1, o1, rfl, _, hc1⟩ := (HL.out.later hB.drew).at0 (by omega)
        obtain ⟨b2, o2, rfl, _, hc2⟩ := (HM.out.later hB.drew).at0 (by omega)
        have e1 := hc1 k hlt
        have e2 := hc2 k hlt
        obtain ⟨s, hs⟩ : ∃ s, s = lAt L k := ⟨_, rfl⟩
        obtain ⟨t, ht⟩ : ∃ t, t = lAt M k := ⟨_, rfl⟩
        rw [← hs] at e1
        rw [← ht] at e2
        have hgd := fun x y w => guard_txt .neq x y s t w
        obtain ⟨V1, hV1⟩ : ∃ V, V = Value.string s := ⟨_, rfl⟩
        obtain ⟨V2, hV2⟩ : ∃ V, V = Value.string t := ⟨_, rfl⟩
        rw [← hV1] at e1
        rw [← hV2] at e2
        simp only [← hV1, ← hV2] at hgd
        have HB := Lib.hid hB.drew
        clear hc1 hc2 hB
        by_cases hst : s = t
        · have hq : ∀ w, (binOp .neq 9 V1 V2).run Tryz.prog w = .ok (.bool false) w := fun w => by rw [hV1, hV2, neq_txt, decide_eq_true hst]; rfl
          have HX := Lib.hid (show ∀ j, j < k + 1 → lAt L j = lAt M j from fun j hj => by
            rcases Nat.lt_or_ge j k with h | h
            · exact HALL.out j h
            · obtain rfl : j = k := by omega
              rw [← hs, ← ht]; exact hst)
          clear hs ht hst hV1 hV2
          go_wp2_with fail
          go_region
          go_wp2
          go_roundw
          case rel => exact ⟨k + 1, by omega, by go_num, HX.out, HB.out⟩
          case measure => simp [intOf]; omega
        · have hq : ∀ w, (binOp .neq 9 V1 V2).run Tryz.prog w = .ok (.bool true) w := fun w => by rw [hV1, hV2, neq_txt, decide_eq_false hst]; rfl
          have HNE := Lib.hid (show ¬ L = M from fun e => hst (by rw [hs, ht, e]))
          clear hs ht hst hV1 hV2
          go_wp2_with fail
          go_region
          go_wp2
          go_ret
          exact ⟨by rw [decide_eq_false HNE.out]; rfl, HB.out⟩
      · obtain rfl : k = n := by omega
        have HE := Lib.hid (show L = M from slist_ext (by omega) (fun i hi => HALL.out i (by omega)))
        have i1 : ¬ (k : Int) < (k : Int) := by omega
        have HB := Lib.hid hB
        clear hB
        go_wp2
        go_ret
        exact ⟨by rw [decide_eq_true HE.out]; rfl, HB.out⟩
  · have h1 : ((n : Int) == (m : Int)) = false := by simp; omega
    have h2 : ((n : Int) != (m : Int)) = true := by simp; omega
    have HNE := Lib.hid (show ¬ L = M from fun e => hnm (by rw [← hLl, ← hMl, e]))
    go_enter Tryz.func23, Tryz.ntmps23
    go_wp2
    go_ret
    exact ⟨by rw [decide_eq_false HNE.out]; rfl, Below.refl _ _⟩
end Go.Proofs.YtpkeikbiblfidaaGreatDoor

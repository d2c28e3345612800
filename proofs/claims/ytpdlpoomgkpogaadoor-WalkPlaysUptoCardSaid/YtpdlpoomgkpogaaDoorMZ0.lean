/-
  Texts put together: Z0, Z1.
-/
import Derived.Test.YtpdlpoomgkpogaaDoorMU
import Derived.Maps.AppendAt
import Derived.Test.YtpdlpoomgkpogaaDoorMV2
/-
  Rows of the call's own that were cut at the front: a queue. An element is put behind it; the first one is cut off.
-/
namespace Go.Proofs.YtpdlpoomgkpogaaDoor
open Go.RowKit
set_option linter.unusedVariables false
set_option linter.unusedSimpArgs false

/-- The slice value v is a row of the call's own, from anywhere in its block on. -/
def OQ (w : World) (B : Nat) (e : TypeId) (size : Nat) (v : Value) (n : Nat) (xs : List Value) : Prop :=
  xs.length = n * size ∧ ((v = .slice none 0 0 ∧ n = 0) ∨ ∃ g o cap cur, v = .slice (some ⟨g, o, none⟩) n cap ∧ B ≤ g ∧ w.heap[g]? = some (.cells cur e (0, 0)) ∧ n ≤ cap ∧ cap ≤ maxLen ∧ o + cap * size ≤ cur.size ∧ (cur.toList.drop o).take (n * size) = xs)

theorem oq_nil (w : World) (B : Nat) (e : TypeId) (size : Nat) : OQ w B e size (.slice none 0 0) 0 [] := ⟨by simp, .inl ⟨rfl, rfl⟩⟩
theorem oq_of_owns {w : World} {B : Nat} {e : TypeId} {size n : Nat} {v : Value} {xs : List Value} (h : w.ownsRow B e size v n xs) : OQ w B e size v n xs := by
  refine ⟨h.1, ?_⟩
  rcases h.2 with h2 | ⟨g, cap, cur, h1, h2, h3, h4, h5, h6, h7⟩
  · exact .inl h2
  · exact .inr ⟨g, 0, cap, cur, h1, h2, h3, h4, h5, by omega, by simpa using h7⟩
theorem OQ.lt {w : World} {B : Nat} {e : TypeId} {size n : Nat} {v : Value} {xs : List Value} (h : OQ w B e size v n xs) : ∀ k, v.ownBlock = some k → B ≤ k ∧ k < w.heap.size := by
  intro k hk
  rcases h.2 with ⟨rfl, _⟩ | ⟨g, o, cap, cur, rfl, h2, h3, _⟩
  · simp [Value.ownBlock] at hk
  · simp [Value.ownBlock] at hk
    subst hk
    exact ⟨h2, lt_of_block h3⟩
theorem OQ.kept {w w' : World} {B : Nat} {e : TypeId} {size n : Nat} {v : Value} {xs : List Value} (h : OQ w B e size v n xs) (hk : ∀ k, v.ownBlock = some k → w'.heap[k]? = w.heap[k]?) : OQ w' B e size v n xs := by
  refine ⟨h.1, ?_⟩
  rcases h.2 with h2 | ⟨g, o, cap, cur, rfl, h2, h3, h4⟩
  · exact .inl h2
  · exact .inr ⟨g, o, cap, cur, rfl, h2, (hk g rfl).trans h3, h4⟩
theorem OQ.cell {w : World} {B : Nat} {e : TypeId} {size n : Nat} {v : Value} {xs : List Value} (h : OQ w B e size v n xs) (h0 : 0 < n) : ∃ g o cap, v = .slice (some ⟨g, o, none⟩) n cap ∧ v.ownBlock = some g ∧ n ≤ cap ∧ cap ≤ maxLen ∧ ∀ j u, xs[j]? = some u → w.cell? ⟨g, o + j, none⟩ = some u := by
  rcases h.2 with ⟨_, h2⟩ | ⟨g, o, cap, cur, rfl, h2, h3, h4, h5, h6, h7⟩
  · omega
  · refine ⟨g, o, cap, rfl, rfl, h4, h5, fun j u hj => ?_⟩
    rw [cell_of_blk h3]
    rw [← h7, List.getElem?_take] at hj
    split at hj
    · rw [List.getElem?_drop] at hj
      simpa using hj
    · cases hj
theorem OQ.type {w : World} {B : Nat} {e : TypeId} {size n : Nat} {v : Value} {xs : List Value} (h : OQ w B e size v n xs) {k : Nat} (hk : v.ownBlock = some k) : ∃ cur, w.heap[k]? = some (.cells cur e (0, 0)) := by
  rcases h.2 with ⟨rfl, _⟩ | ⟨g, o, cap, cur, rfl, h2, h3, _⟩
  · simp [Value.ownBlock] at hk
  · simp [Value.ownBlock] at hk
    subst hk
    exact ⟨cur, h3⟩
section
variable {P : Program} (w : World)
theorem run_append_room_o (t ty e : TypeId) (i : TypeInfo) (ht : P.underlying t = some (.slice e)) (hi : P.info? e = some i)
    (g o sLen sCap : Nat) (cur : Array Value) (hg : w.heap[g]? = some (.cells cur e (0, 0)))
    (a : Addr) (m c : Nat) (news : List Value) (hl : news.length = m * i.size) (hnews : ∀ j u, news[j]? = some u → w.cell? (a.add j) = some u) (h1 : ∀ u ∈ news, u.oneCell' = true)
    (hroom : sLen + m ≤ sCap) (hfit : o + sLen * i.size + news.length ≤ cur.size) :
    (Builtin.append_ #[t, t] ty #[.slice (some ⟨g, o, none⟩) sLen sCap, .slice (some a) m c]).run P w =
      .ok (.slice (some ⟨g, o, none⟩) (sLen + m) sCap) (w.setRow g (cur.toList.take (o + sLen * i.size) ++ news ++ cur.toList.drop (o + sLen * i.size + news.length)).toArray) := by
  have hf := run_firstCells_some (P := P) w i.size m a m c news hl hnews
  have hst := run_storeCells_at P g (o + sLen * i.size) e news 0 cur w hg (by simpa using hfit) h1
  simp only [Nat.add_zero] at hst
  simp [Builtin.append_, run_underlying ht, sizeOf, typeInfo, hi, Builtin.lenOf, hroom, hf, Addr.add_none, hst]

theorem run_append_oq (base : Nat) (t ty e : TypeId) (i : TypeInfo) (z : Value) (size bytes : Nat) (ht : P.underlying t = some (.slice e)) (hi : P.info? e = some i) (hz : i.zero = some z)
    (hsize : i.size = size) (hby : i.bytes = bytes) (hzs : z.cells.size = size) (hsz : 0 < size)
    (v : Value) (n : Nat) (xs : List Value) (hown : OQ w base e size v n xs)
    (a : Addr) (m c : Nat) (news : List Value) (hl : news.length = m * size) (hnews : ∀ j u, news[j]? = some u → w.cell? (a.add j) = some u) (h1 : ∀ u ∈ news, u.oneCell' = true) (hm : 0 < m)
    (h63 : n + m ≤ maxLen) (hbytes : (n + m) * bytes ≤ 140737488355328) (hbase : base ≤ w.heap.size) :
    ∃ v' w', (Builtin.append_ #[t, t] ty #[v, .slice (some a) m c]).run P w = .ok v' w' ∧ OQ w' base e size v' (n + m) (xs ++ news) ∧ w.grownBy w' v.ownBlock ∧ (v'.ownBlock = v.ownBlock ∨ v'.ownBlock = some w.heap.size) := by
  rcases hown.2 with ⟨rfl, rfl⟩ | ⟨g, o, cap, cur, rfl, hbg, hg, hnc, hcm, hcs, htake⟩
  · have hx : xs = [] := List.eq_nil_of_length_eq_zero (by simpa using hown.1)
    subst hx
    obtain ⟨v', w', hr, h2, h3, _, h5⟩ := run_append_own_at (P := P) w base t ty e i z size bytes ht hi hz hsize hby hzs hsz _ 0 [] (World.ownsRow_nil w base e size) a m c news hl hnews h1 h63 hbytes hbase
    exact ⟨v', w', hr, oq_of_owns h2, h3, h5⟩
  · subst hsize
    subst hby
    have hlen : (xs ++ news).length = (n + m) * i.size := by rw [List.length_append, hown.1, hl, Nat.add_mul]
    by_cases hroom : n + m ≤ cap
    · have hfit : o + n * i.size + news.length ≤ cur.size := by
        have := Nat.mul_le_mul_right i.size hroom
        rw [Nat.add_mul] at this
        omega
      have hr := run_append_room_o (P := P) w t ty e i ht hi g o n cap cur hg a m c news hl hnews h1 hroom hfit
      refine ⟨_, _, hr, ⟨hlen, .inr ⟨g, o, cap, _, rfl, hbg, setRow_heap w g cur _ e _ hg, hroom, hcm, ?_, ?_⟩⟩, ⟨rfl, rfl, rfl, by simp, fun k _ hk => setRow_other w g k _ (fun e => hk (by simp [Value.ownBlock, e]))⟩, .inl rfl⟩
      · simp only [List.size_toArray, List.length_append, List.length_take, List.length_drop, Array.length_toList]
        omega
      · have e1 : (cur.toList.take (o + n * i.size)).drop o = xs := by
          rw [← htake, List.drop_take]
          congr 1
          omega
        have hol : o ≤ (cur.toList.take (o + n * i.size)).length := by rw [List.length_take, Array.length_toList]; omega
        rw [List.append_assoc, List.drop_append_of_le_length hol, e1, ← List.append_assoc, ← hlen]
        exact List.take_left
    · have holds : ∀ j u, xs[j]? = some u → w.cell? ((⟨g, o, none⟩ : Addr).add j) = some u := fun j u hj => by
        rw [Addr.add_none, cell_of_blk hg]
        rw [← htake, List.getElem?_take] at hj
        split at hj
        · rw [List.getElem?_drop] at hj
          simpa using hj
        · cases hj
      have hr := run_append_grow (P := P) w t ty e i z ht hi hz ⟨g, o, none⟩ n cap xs hown.1 holds a m c news hl hnews (by omega) (by unfold maxLen at h63; omega) (growslice_fits (by omega) hbytes)
      have hge := grownCap_ge w (n + m) cap e
      have hcm2 : grownCap w (n + m) cap e ≤ maxLen := grownCap_le_maxLen w (n + m) cap e h63
      refine ⟨_, _, hr, ⟨hlen, .inr ⟨w.heap.size, 0, _, _, rfl, hbase, heap_alloc_new w.drew _, hge, hcm2, ?_, ?_⟩⟩, ⟨rfl, rfl, rfl, by simp, fun k hk _ => Below.heap_alloc w.drew _ k hk⟩, .inr rfl⟩
      · simp only [Array.size_append, List.size_toArray, size_zeroCells, hzs, hown.1, hl, ← Nat.add_mul]
        rw [Nat.zero_add]
        exact Nat.mul_le_mul_right _ (by omega)
      · simp only [Array.toList_append, List.append_assoc, List.drop_zero]
        rw [← List.append_assoc, ← hlen]
        exact List.take_left
end

/-- At the operation, for the walk. -/
theorem wpList_append_oq {P : Program} {w : World} {ops : Array Oper} {rest : List Oper} {o : Oper} {a : Act} {Q : Exit → Act → World → Prop} (hgd : o.guard = none) (s x : Operand) (t : TypeId)
    (ho : o.op = .call { callee := .builtin .append, args := #[s, x], argTypes := #[t, t] })
    (base : Nat) (e : TypeId) (i : TypeInfo) (z : Value) (size bytes : Nat) (ht : P.underlying t = some (.slice e)) (hi : P.info? e = some i) (hz : i.zero = some z)
    (hsize : i.size = size) (hby : i.bytes = bytes) (hzs : z.cells.size = size) (hsz : 0 < size)
    (v : Value) (n : Nat) (xs : List Value) (hs : a.eval s = v) (hown : OQ w base e size v n xs)
    (ad : Addr) (m c : Nat) (news : List Value) (hx : a.eval x = .slice (some ad) m c) (hl : news.length = m * size) (hnews : ∀ j u, news[j]? = some u → w.cell? (ad.add j) = some u) (h1 : ∀ u ∈ news, u.oneCell' = true) (hm : 0 < m)
    (h63 : n + m ≤ maxLen) (hbytes : (n + m) * bytes ≤ 140737488355328) (hbase : base ≤ w.heap.size)
    (h : ∀ v' w', OQ w' base e size v' (n + m) (xs ++ news) → w.grownBy w' v.ownBlock → (v'.ownBlock = v.ownBlock ∨ v'.ownBlock = some w.heap.size) → wpList P ops Q rest (a.put o.dst v') w') :
    wpList P ops Q (o :: rest) a w := by
  refine wpList_plain hgd fun K hK => ?_
  obtain ⟨v', w', hr, h2, h3, h5⟩ := run_append_oq (P := P) w base t o.type e i z size bytes ht hi hz hsize hby hzs hsz v n xs hown ad m c news hl hnews h1 hm h63 hbytes hbase
  unfold Oper.wp execOp
  simp only [ho, resolve, invoke, builtin, Sem.run_bind, Sem.run_pure, Result.andThen_ok, List.map_toArray, List.map_cons, List.map_nil, hs, hx, hr]
  exact hK _ _ (h v' w' h2 h3 h5)
end Go.Proofs.YtpdlpoomgkpogaaDoor
/-
  Walks in memory, the program's and the document's: their trees, what was found, what was counted.
-/
namespace Go.Proofs.YtpdlpoomgkpogaaDoor
open Go.RowKit
set_option linter.unusedVariables false
set_option linter.unusedSimpArgs false

/-- What was found: nodes, and their digests. -/
abbrev FL := List (Int × ByteArray)
def fvs : FL → List Value
  | [] => []
  | x :: q => .int .i64 x.1 :: .string x.2 :: fvs q
theorem fvs_length : ∀ q, (fvs q).length = q.length * 2
  | [] => rfl
  | x :: q => by simp [fvs, fvs_length q]; omega
theorem fvs_append : ∀ q r, fvs (q ++ r) = fvs q ++ fvs r
  | [], r => rfl
  | x :: q, r => by simp [fvs, fvs_append q r]
theorem fvs_drop (q : FL) : (fvs q).drop 2 = fvs (q.drop 1) := by cases q <;> rfl
structure WS where
  asks : FL
  wants : FL
  asked : Nat
  told : Nat
  came : Nat

/-- A walk at pw: ty its type, fty that of what is found, tty the trees'. -/
structure WK (ty fty tty : TypeId) (w : World) (B pw : Nat) (va vw : Value) (p : Nat) (v : Value) (N F C U : Int) (L : List ByteArray) (s : WS) : Prop where
  blk : w.heap[pw]? = some (.cells #[.pointer (some ⟨p, 0, none⟩), va, vw, .int .i64 s.asked, .int .i64 s.told, .int .i64 s.came] ty (0, 0))
  low : B ≤ pw
  qa : OQ w B fty 2 va s.asks.length (fvs s.asks)
  qw : OQ w B fty 2 vw s.wants.length (fvs s.wants)
  tree : GT tty w 0 p v N F C U L
  aw : ∀ k, va.ownBlock = some k → vw.ownBlock ≠ some k
  pa : va.ownBlock ≠ some pw
  pq : vw.ownBlock ≠ some pw
  tp : ∀ k, tfoot p v k → k ≠ pw ∧ va.ownBlock ≠ some k ∧ vw.ownBlock ≠ some k
abbrev PW := WK 67 71 60
abbrev RW := WK 51 77 63
/-- The blocks that a call of a walk may change. -/
def wfoot (pw : Nat) (va vw : Value) (k : Nat) : Prop := k = pw ∨ va.ownBlock = some k ∨ vw.ownBlock = some k
theorem WK.below {ty fty tty : TypeId} {w w' : World} {B pw : Nat} {va vw : Value} {p : Nat} {v : Value} {N F C U : Int} {L : List ByteArray} {s : WS} (h : WK ty fty tty w B pw va vw p v N F C U L s) (hb : Below w.heap.size w w') : WK ty fty tty w' B pw va vw p v N F C U L s where
  blk := (hb.block pw (lt_of_block h.blk)).trans h.blk
  low := h.low
  qa := h.qa.kept fun k hk => hb.block k (h.qa.lt k hk).2
  qw := h.qw.kept fun k hk => hb.block k (h.qw.lt k hk).2
  tree := h.tree.below hb
  aw := h.aw
  pa := h.pa
  pq := h.pq
  tp := h.tp
theorem WK.foot {ty fty tty : TypeId} {w : World} {B pw : Nat} {va vw : Value} {p : Nat} {v : Value} {N F C U : Int} {L : List ByteArray} {s : WS} (h : WK ty fty tty w B pw va vw p v N F C U L s) : ∀ k, wfoot pw va vw k → B ≤ k ∧ k < w.heap.size := by
  rintro k (rfl | hk | hk)
  · exact ⟨h.low, lt_of_block h.blk⟩
  · exact h.qa.lt k hk
  · exact h.qw.lt k hk
theorem WK.cells {ty fty tty : TypeId} {w : World} {B pw : Nat} {va vw : Value} {p : Nat} {v : Value} {N F C U : Int} {L : List ByteArray} {s : WS} (h : WK ty fty tty w B pw va vw p v N F C U L s) :
    w.cell? ⟨pw, 0, none⟩ = some (.pointer (some ⟨p, 0, none⟩)) ∧ w.cell? ⟨pw, 1, none⟩ = some va ∧ w.cell? ⟨pw, 2, none⟩ = some vw ∧ w.cell? ⟨pw, 3, none⟩ = some (.int .i64 s.asked) ∧ w.cell? ⟨pw, 4, none⟩ = some (.int .i64 s.told) ∧ w.cell? ⟨pw, 5, none⟩ = some (.int .i64 s.came) ∧ (∀ i, w.frozen? ⟨pw, i, none⟩ = false) := by
  refine ⟨?_, ?_, ?_, ?_, ?_, ?_, fun i => free_of_blk h.blk i⟩ <;> (rw [cell_of_blk h.blk]; rfl)
theorem WK.shapes {ty fty tty : TypeId} {w : World} {B pw : Nat} {va vw : Value} {p : Nat} {v : Value} {N F C U : Int} {L : List ByteArray} {s : WS} (h : WK ty fty tty w B pw va vw p v N F C U L s) :
    (∃ a c, va = .slice a s.asks.length c) ∧ (∃ a c, vw = .slice a s.wants.length c) := by
  constructor
  · rcases h.qa.2 with ⟨h1, h2⟩ | ⟨g, o, cap, cur, h1, _⟩
    · exact ⟨none, 0, by rw [h1, h2]⟩
    · exact ⟨_, _, h1⟩
  · rcases h.qw.2 with ⟨h1, h2⟩ | ⟨g, o, cap, cur, h1, _⟩
    · exact ⟨none, 0, by rw [h1, h2]⟩
    · exact ⟨_, _, h1⟩
/-- One is put behind the wants: the row has grown, and then the field is set. -/
theorem WK.putW {ty fty tty : TypeId} {w w' : World} {B pw : Nat} {va vw vw' : Value} {p : Nat} {v : Value} {N F C U : Int} {L : List ByteArray} {s : WS} (h : WK ty fty tty w B pw va vw p v N F C U L s) (hft : fty ≠ ty) (x : Int × ByteArray)
    (h1 : OQ w' B fty 2 vw' (s.wants.length + 1) (fvs s.wants ++ fvs [x])) (h2 : w.grownBy w' vw.ownBlock) (h3 : vw'.ownBlock = vw.ownBlock ∨ vw'.ownBlock = some w.heap.size) :
    WK ty fty tty (w'.setCell ⟨pw, 2, none⟩ vw') B pw va vw' p v N F C U L { s with wants := s.wants ++ [x] } ∧ Fr (wfoot pw va vw) w (w'.setCell ⟨pw, 2, none⟩ vw') := by
  have hb := h2.block pw (lt_of_block h.blk) (fun e => h.pq e.symm)
  have hlt := lt_of_block h.blk
  have hnv : vw'.ownBlock ≠ some pw := fun e => by
    rcases h3 with h3 | h3
    · exact h.pq (h3 ▸ e)
    · rw [h3] at e; cases e; omega
  have hbk := hb.trans h.blk
  have hset : ∀ k, k ≠ pw → (w'.setCell ⟨pw, 2, none⟩ vw').heap[k]? = w'.heap[k]? := fun k hk => Below.heap_setCell _ _ _ _ (fun e => hk (by simpa using e))
  refine ⟨⟨(blk_setCell hbk).trans (by simp), h.low, ?_, ?_, ?_, ?_, h.pa, hnv, ?_⟩, ?_⟩
  · exact h.qa.kept fun k hk => (hset k (fun e => h.pa (e ▸ hk))).trans (h2.block k (h.qa.lt k hk).2 (fun e => h.aw k hk e.symm))
  · have := h1.kept (w' := w'.setCell ⟨pw, 2, none⟩ vw') fun k hk => hset k (fun e => hnv (e ▸ hk))
    rw [← fvs_append] at this
    simpa using this
  · exact h.tree.kept fun k hk => (hset k (h.tp k hk).1).trans (h2.block k (h.tree.foot_low k hk).2 (fun e => (h.tp k hk).2.2 e.symm))
  · intro k hk e
    rcases h3 with h3 | h3
    · exact h.aw k hk (h3 ▸ e)
    · rw [h3] at e; cases e; have := (h.qa.lt _ hk).2; omega
  · intro k hk
    refine ⟨(h.tp k hk).1, (h.tp k hk).2.1, fun e => ?_⟩
    rcases h3 with h3 | h3
    · exact (h.tp k hk).2.2 (h3 ▸ e)
    · rw [h3] at e; cases e; have := (h.tree.foot_low _ hk).2; omega
  · exact ((Fr.refl (wfoot pw va vw) w).grown h2 (fun k hk => .inl (.inr (.inr hk)))).set (.inl (.inl rfl))
theorem WK.putA {ty fty tty : TypeId} {w w' : World} {B pw : Nat} {va vw va' : Value} {p : Nat} {v : Value} {N F C U : Int} {L : List ByteArray} {s : WS} (h : WK ty fty tty w B pw va vw p v N F C U L s) (hft : fty ≠ ty) (x : Int × ByteArray)
    (h1 : OQ w' B fty 2 va' (s.asks.length + 1) (fvs s.asks ++ fvs [x])) (h2 : w.grownBy w' va.ownBlock) (h3 : va'.ownBlock = va.ownBlock ∨ va'.ownBlock = some w.heap.size) :
    WK ty fty tty (w'.setCell ⟨pw, 1, none⟩ va') B pw va' vw p v N F C U L { s with asks := s.asks ++ [x] } ∧ Fr (wfoot pw va vw) w (w'.setCell ⟨pw, 1, none⟩ va') := by
  have hb := h2.block pw (lt_of_block h.blk) (fun e => h.pa e.symm)
  have hlt := lt_of_block h.blk
  have hnv : va'.ownBlock ≠ some pw := fun e => by
    rcases h3 with h3 | h3
    · exact h.pa (h3 ▸ e)
    · rw [h3] at e; cases e; omega
  have hbk := hb.trans h.blk
  have hset : ∀ k, k ≠ pw → (w'.setCell ⟨pw, 1, none⟩ va').heap[k]? = w'.heap[k]? := fun k hk => Below.heap_setCell _ _ _ _ (fun e => hk (by simpa using e))
  refine ⟨⟨(blk_setCell hbk).trans (by simp), h.low, ?_, ?_, ?_, ?_, hnv, h.pq, ?_⟩, ?_⟩
  · have := h1.kept (w' := w'.setCell ⟨pw, 1, none⟩ va') fun k hk => hset k (fun e => hnv (e ▸ hk))
    rw [← fvs_append] at this
    simpa using this
  · exact h.qw.kept fun k hk => (hset k (fun e => h.pq (e ▸ hk))).trans (h2.block k (h.qw.lt k hk).2 (fun e => h.aw k e.symm hk))
  · exact h.tree.kept fun k hk => (hset k (h.tp k hk).1).trans (h2.block k (h.tree.foot_low k hk).2 (fun e => (h.tp k hk).2.1 e.symm))
  · intro k hk e
    rcases h3 with h3 | h3
    · exact h.aw k (h3 ▸ hk) e
    · rw [h3] at hk; cases hk; have := (h.qw.lt _ e).2; omega
  · intro k hk
    refine ⟨(h.tp k hk).1, fun e => ?_, (h.tp k hk).2.2⟩
    rcases h3 with h3 | h3
    · exact (h.tp k hk).2.1 (h3 ▸ e)
    · rw [h3] at e; cases e; have := (h.tree.foot_low _ hk).2; omega
  · exact ((Fr.refl (wfoot pw va vw) w).grown h2 (fun k hk => .inl (.inr (.inl hk)))).set (.inl (.inl rfl))
/-- What a node's finding makes of a walk. -/
def findS (N : Int) (L : List ByteArray) (s : WS) (k : Int) (d : ByteArray) : WS :=
  if lAt L k.toNat = d then s else if k < N then { s with wants := s.wants ++ [(k, d)] } else { s with asks := s.asks ++ [(k, d)] }
end Go.Proofs.YtpdlpoomgkpogaaDoor

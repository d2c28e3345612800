/-
  Texts put together: PF, PG.
-/
import Derived.Test.YtjohgagiccndpaaGreatDoorMPE
import Derived.Test.YtjohgagiccndpaaGreatDoorMP7
/-
  The program's Scan: the range over its iterator.
-/
namespace Go.Proofs.YtjohgagiccndpaaGreatDoor
open Go.RowKit Go.Shelf
set_option linter.unusedVariables false
set_option linter.unusedSimpArgs false
attribute [local go_sem] Oper.semAt_some

/-! ### rows of entries -/
def ents (X : List En) : List Value := X.flatMap fun e => [.int .u64 (e.tag : Int), .int .u64 (e.epoch : Int), .int .i64 e.place, .string e.old]
theorem ents_length : ∀ X : List En, (ents X).length = X.length * 4
  | [] => rfl
  | x :: X => by
    have := ents_length X
    simp only [ents, List.flatMap_cons, List.length_append, List.length_cons, List.length_nil] at this ⊢
    omega
theorem ents_append (X Y : List En) : ents (X ++ Y) = ents X ++ ents Y := by simp [ents]
theorem ents_one (X : List En) : ∀ u ∈ ents X, u.oneCell' = true := by
  intro u hu
  simp only [ents, List.mem_flatMap] at hu
  obtain ⟨x, _, hu⟩ := hu
  simp only [List.mem_cons, List.not_mem_nil, or_false] at hu
  rcases hu with rfl | rfl | rfl | rfl <;> rfl
theorem ents_at : ∀ (X : List En) (i : Nat), i < X.length → (ents X)[i * 4]? = some (.int .u64 ((eAt X i).tag : Int)) ∧ (ents X)[i * 4 + 1]? = some (.int .u64 ((eAt X i).epoch : Int)) ∧ (ents X)[i * 4 + 2]? = some (.int .i64 (eAt X i).place) ∧ (ents X)[i * 4 + 3]? = some (.string (eAt X i).old)
  | [], i, h => by simp at h
  | x :: X, 0, h => ⟨rfl, rfl, rfl, rfl⟩
  | x :: X, i + 1, h => by
    have := ents_at X i (by simpa using h)
    have e : eAt (x :: X) (i + 1) = eAt X i := by simp [eAt]
    have e0 : ents (x :: X) = [.int .u64 (x.tag : Int), .int .u64 (x.epoch : Int), .int .i64 x.place, .string x.old] ++ ents X := by simp [ents]
    rw [e, e0]
    refine ⟨?_, ?_, ?_, ?_⟩
    · rw [List.getElem?_append_right (by simp; omega), show (i + 1) * 4 - _ = i * 4 from by simp; omega]; exact this.1
    · rw [List.getElem?_append_right (by simp; omega), show (i + 1) * 4 + 1 - _ = i * 4 + 1 from by simp; omega]; exact this.2.1
    · rw [List.getElem?_append_right (by simp; omega), show (i + 1) * 4 + 2 - _ = i * 4 + 2 from by simp; omega]; exact this.2.2.1
    · rw [List.getElem?_append_right (by simp; omega), show (i + 1) * 4 + 3 - _ = i * 4 + 3 from by simp; omega]; exact this.2.2.2
theorem es_of_owns {W : World} {B n : Nat} {v : Value} {X : List En} (h : W.ownsRow B 55 4 v n (ents X)) (hn : X.length = n) : ∃ a c, v = .slice a n c ∧ Es W a n c X ∧ ∀ b off sp, a = some ⟨b, off, sp⟩ → B ≤ b := by
  obtain ⟨a, c, rfl, hle, hcm, hg⟩ := owns_shape1 h
  refine ⟨a, c, rfl, ⟨hn, hle, hcm, fun h0 => ?_⟩, fun b off sp e => ?_⟩
  · obtain ⟨g, rfl, hgo, hBg, hgl⟩ := hg h0
    refine ⟨g, 0, rfl, hgl, fun i hi => ?_⟩
    obtain ⟨h1, h2, h3, h4⟩ := ents_at X i (by omega)
    rw [Nat.zero_add]
    exact ⟨owns_cell h hgo _ _ h1, owns_cell h hgo _ _ h2, owns_cell h hgo _ _ h3, owns_cell h hgo _ _ h4⟩
  · subst e
    rcases h.2 with ⟨e, _⟩ | ⟨g, cap, cur, e, hB, _⟩
    · cases e
    · cases e; exact hB

theorem wpListIn_append_at {F : Fence} {m' : Nat} {P : Program} {w : World} {ops : Array Oper} {rest : List Oper} {o : Oper} {a : Act} {Q : Exit → Act → World → Prop} (hgd : o.guard = none) (s x : Operand) (t : TypeId)
    (ho : o.op = .call { callee := .builtin .append, args := #[s, x], argTypes := #[t, t] }) (base : Nat) (e : TypeId) (i : TypeInfo) (z : Value) (size bytes : Nat) (ht : P.underlying t = some (.slice e)) (hi : P.info? e = some i) (hz : i.zero = some z) (hsize : i.size = size) (hby : i.bytes = bytes) (hzs : z.cells.size = size) (hsz : 0 < size)
    (v : Value) (n : Nat) (xs : List Value) (hs : a.eval s = v) (hown : w.ownsRow base e size v n xs) (ad : Addr) (m c : Nat) (news : List Value) (hx : a.eval x = .slice (some ad) m c) (hl : news.length = m * size)
    (hnews : ∀ j u, news[j]? = some u → w.cell? (ad.add j) = some u) (h1 : ∀ u ∈ news, u.oneCell' = true) (h63 : n + m ≤ maxLen) (hbytes : (n + m) * bytes ≤ 140737488355328) (hbase : base ≤ w.heap.size)
    (h : ∀ v' w', w'.ownsRow base e size v' (n + m) (xs ++ news) → w.grownBy w' v.ownBlock → (v'.ownBlock = v.ownBlock ∨ v'.ownBlock = some w.heap.size) → wpListIn F m' P ops Q rest (a.put o.dst v') w') : wpListIn F m' P ops Q (o :: rest) a w := by
  refine wpListIn_plain hgd fun K hK => ?_
  obtain ⟨v', w', hr, h2, h3, h4, h5⟩ := run_append_own_at (P := P) w base t o.type e i z size bytes ht hi hz hsize hby hzs hsz v n xs hown ad m c news hl hnews h1 h63 hbytes hbase
  unfold Oper.wpIn
  refine ⟨by simp [Oper.about, ho, resolve, Target.leads, Sem.run_pure], ?_⟩
  rw [Oper.semAt_plain F _ _ (by rw [ho]; intro c hc'; cases hc')]
  unfold execOp
  simp only [ho, resolve, invoke, builtin, Sem.run_bind, Sem.run_pure, Result.andThen_ok, List.map_toArray, List.map_cons, List.map_nil, hs, hx, hr]
  exact hK _ _ (h v' w' h2 h3 h5)

/-! ### the call of entries -/
theorem entries_in (n p : Nat) (N F C U : Int) (ep : Nat) (w : World) :
    CallsIn Fence.wide n Tryz.prog 61 #[.pointer (some ⟨p, 0, none⟩), geo N F C U, .int .u64 (ep : Int)] w fun e w' =>
      e = .returned (.func (.func 103) #[] #[.pointer (some ⟨w.heap.size + 1, 0, none⟩), .pointer (some ⟨w.heap.size, 0, none⟩), .pointer (some ⟨w.heap.size + 1 + 1, 0, none⟩)]) ∧
      w' = ((w.alloc (.cells #[.pointer (some ⟨p, 0, none⟩)] 26)).alloc (.cells #[.int .i64 N, .int .i64 F, .int .i64 C, .int .i64 U] 23)).alloc (.cells #[.int .u64 (ep : Int)] 33) := by
  unfold geo
  refine callsIn_of_wp Tryz.func61 rfl trivial ?_ rfl
  simp only [Tryz.ntmps61, List.size_toArray, List.length_cons, List.length_nil, Nat.reduceAdd, Nat.reduceSub, Array.replicate_succ, Array.replicate_zero, List.push_toArray, List.append_toArray, List.nil_append, List.cons_append]
  gi_wp2
  go_ret
  exact ⟨rfl, rfl⟩

theorem eit_new {w : World} {B p : Nat} {v1 v2 : Value} {S : DS} (N F C U : Int) (ep : Nat) (h : PD w B p v1 v2 S) :
    EIt (((w.alloc (.cells #[.pointer (some ⟨p, 0, none⟩)] 26)).alloc (.cells #[.int .i64 N, .int .i64 F, .int .i64 C, .int .i64 U] 23)).alloc (.cells #[.int .u64 (ep : Int)] 33)) w.heap.size (w.heap.size + 1) (w.heap.size + 1 + 1) B p v1 v2 S N F C U ep := by
  have hb1 : Below w.heap.size w (w.alloc (.cells #[.pointer (some ⟨p, 0, none⟩)] 26)) := (Below.refl _ _).alloc (Nat.le_refl _) _
  refine ⟨h.below ((hb1.alloc (by simp) _).alloc (by simp; omega) _), ?_, ?_, ?_⟩
  · exact (Below.heap_alloc _ _ _ (by simp; omega)).trans ((Below.heap_alloc _ _ _ (by simp)).trans (heap_alloc_new w _))
  · have := heap_alloc_new (w.alloc (.cells #[.pointer (some ⟨p, 0, none⟩)] 26)) (.cells #[.int .i64 N, .int .i64 F, .int .i64 C, .int .i64 U] 23)
    rw [World.size_alloc] at this
    exact (Below.heap_alloc _ _ _ (by simp)).trans this
  · have := heap_alloc_new ((w.alloc (.cells #[.pointer (some ⟨p, 0, none⟩)] 26)).alloc (.cells #[.int .i64 N, .int .i64 F, .int .i64 C, .int .i64 U] 23)) (.cells #[.int .u64 (ep : Int)] 33)
    rw [World.size_alloc, World.size_alloc] at this
    exact this

theorem entries_gives (n : Nat) (hn : 1 ≤ n) (Bd Bg Be B p : Nat) (v1 v2 : Value) (S : DS) (N F C U : Int) (ep : Nat) (ho : okG N F C U) (M : Nat) (hok : S.ok M) (hM : M ≤ 1000000) (hsz : ∀ x : Int, (S.read x).1.size ≤ 140737488355328) (w : World) (hE : EIt w Bd Bg Be B p v1 v2 S N F C U ep) :
    GivesH Fence.wide n Tryz.prog 103 #[.pointer (some ⟨Bg, 0, none⟩), .pointer (some ⟨Bd, 0, none⟩), .pointer (some ⟨Be, 0, none⟩)] encE 105 (KpE Bd Bg Be p v1 v2)
      (fun ys => ys = seqP (stepP N F C U S ep) 0 U.toNat) (fun pre => ∃ k, k ≤ (seqP (stepP N F C U S ep) 0 U.toNat).length ∧ pre = (seqP (stepP N F C U S ep) 0 U.toNat).take k) (seqP (stepP N F C U S ep) 0 U.toNat).length w := fun l J Jx W hW hJ hJx hY h0 =>
  entries1_in n hn l Bd Bg Be B p v1 v2 S N F C U ep ho M hok hM hsz _ rfl J Jx W hJ hJx hY (hE.kept fun k hk => hW.block k (hE.lt k hk)) h0

/-! ### moves and boxes -/
theorem Bk.toBelow {B X Y} (h : Bk B X Y) (hB : B ≤ X.heap.size) : Below B X Y :=
  ⟨h.os, h.tape, h.output, h.size, fun k hk => by
    have hl : k < X.heap.size := Nat.lt_of_lt_of_le hk hB
    have e : X.heap[k]? = some X.heap[k] := Array.getElem?_eq_getElem hl
    rw [h.same k _ e (.inl hk), e]⟩
theorem boxed_mv {T : TypeId} {B b : Nat} {X Y : World} {t : TypeId} {v : Value} (h : Boxed X b t v) (hm : Mv T B X Y) (ht : t ≠ T) : Boxed Y b t v :=
  hm.same _ _ h (.inr fun cs l e => ht (by injection e))
theorem boxed_bk {B b : Nat} {X Y : World} {t : TypeId} {v : Value} (h : Boxed X b t v) (hm : Bk B X Y) : Boxed Y b t v := hm.same _ _ h (.inr rfl)
theorem owns_mv {T : TypeId} {B b e size n : Nat} {X Y : World} {v : Value} {xs : List Value} (h : X.ownsRow b e size v n xs) (hm : Mv T B X Y) (ht : e ≠ T) : Y.ownsRow b e size v n xs :=
  owns_kept h fun k hk => by
    rcases h.2 with ⟨rfl, _⟩ | ⟨g, cap, cur, rfl, _, hg, _⟩
    · cases hk
    · cases hk
      rw [hm.same _ _ hg (.inr fun cs l e => ht (by injection e)), hg]
theorem owns_bk {B b e size n : Nat} {X Y : World} {v : Value} {xs : List Value} (h : X.ownsRow b e size v n xs) (hm : Bk B X Y) : Y.ownsRow b e size v n xs :=
  owns_kept h fun k hk => by
    rcases h.2 with ⟨rfl, _⟩ | ⟨g, cap, cur, rfl, _, hg, _⟩
    · cases hk
    · cases hk
      rw [hm.same _ _ hg (.inr rfl), hg]
end Go.Proofs.YtjohgagiccndpaaGreatDoor
/-
  The program's Scan.
-/
namespace Go.Proofs.YtjohgagiccndpaaGreatDoor
open Go.RowKit Go.Shelf
set_option linter.unusedVariables false
set_option linter.unusedSimpArgs false
attribute [local go_sem] Oper.semAt_some

/-- What Scan tells, of what the iterator yields. -/
def scanL (Y : List (En × Int)) : List En × Int := match Y.find? (fun y => decide (y.2 ≠ 0)) with
  | some y => ([], y.2)
  | none => (Y.map (·.1), 0)
def scanP (N F C U : Int) (S : DS) (ep : Nat) : List En × Int := if okG N F C U then scanL (seqP (stepP N F C U S ep) 0 U.toNat) else ([], 12)
theorem scanL_ok (Y : List (En × Int)) (h : ∀ y ∈ Y, y.2 = 0) : scanL Y = (Y.map (·.1), 0) := by
  unfold scanL
  rw [show Y.find? (fun y => decide (y.2 ≠ 0)) = none from List.find?_eq_none.2 fun y hy => by simp [h y hy]]
theorem scanL_err (Y pre : List (En × Int)) (y : En × Int) (k : Nat) (hp : pre ++ [y] = Y.take k) (h : ∀ z ∈ pre, z.2 = 0) (hy : y.2 ≠ 0) : scanL Y = ([], y.2) := by
  unfold scanL
  have e : Y = (pre ++ [y]) ++ Y.drop k := by rw [hp, List.take_append_drop]
  have hf : Y.find? (fun y => decide (y.2 ≠ 0)) = some y := by
    rw [e, List.append_assoc, List.find?_append, List.find?_eq_none.2 fun z hz => by simp [h z hz]]
    simp [hy]
  rw [hf]
theorem seqP_le (st : Nat → Stp) : ∀ n k, (seqP st k n).length ≤ n
  | 0, _ => Nat.le_refl _
  | n + 1, k => by
    unfold seqP
    have := seqP_le st n (k + 1)
    split
    · simp
    · simp
    · simp; omega

theorem boxesS (N F C U : Int) (w V : World) (hV : V = ((w.alloc (.cells #[.int .i64 N, .int .i64 F, .int .i64 C, .int .i64 U] 23)).alloc (.cells #[.slice none 0 0] 53)).alloc (.cells #[.int .i64 0] 27)) :
    V.heap[w.heap.size]? = some (.cells #[.int .i64 N, .int .i64 F, .int .i64 C, .int .i64 U] 23 (0, 0)) ∧ Boxed V (w.heap.size + 1) 53 (.slice none 0 0) ∧ Boxed V (w.heap.size + 1 + 1) 27 (.int .i64 0) ∧ V.heap.size = w.heap.size + 3 ∧ Below w.heap.size w V := by
  subst hV
  refine ⟨?_, ?_, ?_, by simp, (((Below.refl _ w).alloc (Nat.le_refl _) _).alloc (by simp) _).alloc (by simp; omega) _⟩
  · exact (Below.heap_alloc _ _ _ (by simp; omega)).trans ((Below.heap_alloc _ _ _ (by simp)).trans (heap_alloc_new w _))
  · have := (Boxed.new (w.alloc (.cells #[.int .i64 N, .int .i64 F, .int .i64 C, .int .i64 U] 23)) 53 (.slice none 0 0)).alloc (.cells #[.int .i64 0] 27)
    simpa only [World.size_alloc] using this
  · have := Boxed.new ((w.alloc (.cells #[.int .i64 N, .int .i64 F, .int .i64 C, .int .i64 U] 23)).alloc (.cells #[.slice none 0 0] 53)) 27 (.int .i64 0)
    simpa only [World.size_alloc] using this

theorem Tryz.infoEnt : (Tryz.prog.info? 55).map (fun i => (i.zero, i.size, i.bytes)) = some (some (.agg #[.int .u64 0, .int .u64 0, .int .i64 0, .string noBytes]), 4, 40) := by kernel_rfl
/-- In the middle of the range: the list so far, the results' boxes. -/
def ScI (w : World) (b8 n1 : Nat) (pre : List (En × Int)) (W : World) : Prop :=
  (∀ y ∈ pre, y.2 = 0) ∧ (∃ v, Boxed W b8 53 v ∧ W.ownsRow n1 55 4 v pre.length (ents (pre.map (·.1)))) ∧ Boxed W (w.heap.size + 1) 53 (.slice none 0 0) ∧ Boxed W (w.heap.size + 1 + 1) 27 (.int .i64 0) ∧ Below w.heap.size w W ∧ n1 ≤ W.heap.size
/-- Where an error has ended it. -/
def ScX (w : World) (n1 : Nat) (c : Code) (pre : List (En × Int)) (W : World) : Prop :=
  c = .ret ∧ ∃ (pre' : List (En × Int)) (y : En × Int), pre = pre' ++ [y] ∧ (∀ z ∈ pre', z.2 = 0) ∧ y.2 ≠ 0 ∧ Boxed W (w.heap.size + 1) 53 (.slice none 0 0) ∧ Boxed W (w.heap.size + 1 + 1) 27 (.int .i64 y.2) ∧ Below w.heap.size w W ∧ n1 ≤ W.heap.size
theorem scI_mv {w : World} {b8 n1 : Nat} (hw : w.heap.size ≤ n1) : StayI 105 n1 (ScI w b8 n1) := fun s X Y ⟨h1, ⟨v, h2, h3⟩, h4, h5, h6, h7⟩ hm =>
  ⟨h1, ⟨v, boxed_mv h2 hm (by decide), owns_mv h3 hm (by decide)⟩, boxed_mv h4 hm (by decide), boxed_mv h5 hm (by decide), h6.trans ((hm.toBelow h7).mono hw), Nat.le_trans h7 hm.size⟩
theorem scI_bk {w : World} {b8 n1 : Nat} (hw : w.heap.size ≤ n1) : StayB n1 (ScI w b8 n1) := fun s X Y ⟨h1, ⟨v, h2, h3⟩, h4, h5, h6, h7⟩ hm =>
  ⟨h1, ⟨v, boxed_bk h2 hm, owns_bk h3 hm⟩, boxed_bk h4 hm, boxed_bk h5 hm, h6.trans ((hm.toBelow h7).mono hw), Nat.le_trans h7 hm.size⟩
theorem scX_mv {w : World} {n1 : Nat} (hw : w.heap.size ≤ n1) (c : Code) : StayI 105 n1 (ScX w n1 c) := fun s X Y ⟨h0, p, y, h1, h2, h3, h4, h5, h6, h7⟩ hm =>
  ⟨h0, p, y, h1, h2, h3, boxed_mv h4 hm (by decide), boxed_mv h5 hm (by decide), h6.trans ((hm.toBelow h7).mono hw), Nat.le_trans h7 hm.size⟩
theorem scX_bk {w : World} {n1 : Nat} (hw : w.heap.size ≤ n1) (c : Code) : StayB n1 (ScX w n1 c) := fun s X Y ⟨h0, p, y, h1, h2, h3, h4, h5, h6, h7⟩ hm =>
  ⟨h0, p, y, h1, h2, h3, boxed_bk h4 hm, boxed_bk h5 hm, h6.trans ((hm.toBelow h7).mono hw), Nat.le_trans h7 hm.size⟩
theorem kpE_below {Bd Bg Be p v1 v2 X Y} (h : Below X.heap.size X Y) : KpE Bd Bg Be p v1 v2 X Y :=
  ⟨h.size, fun k _ hk => h.block k hk, fun k cs l hk => (h.block k (lt_of_block hk)).trans hk⟩
theorem kpE_put {Bd Bg Be p v1 v2} {n : Nat} (hf : ∀ k, footE Bd Bg Be p v1 v2 k → k < n) (W : World) (l : Nat) (o o' : Obj) (hl : n ≤ l) (ho : W.heap[l]? = some o) (hc : o.isCells = false) : KpE Bd Bg Be p v1 v2 W (W.putObj l o') := by
  have hb := bk_put (B := n) o' hl ho hc
  refine ⟨hb.size, fun k hk hlt => ?_, fun k cs l hk => hb.same _ _ hk (.inr rfl)⟩
  have e : W.heap[k]? = some W.heap[k] := Array.getElem?_eq_getElem hlt
  rw [hb.same k _ e (.inl (hf k hk)), e]
theorem owns_setL {W : World} {n1 e size n b i : Nat} {v u : Value} {xs : List Value} (h : W.ownsRow n1 e size v n xs) (hb : b < n1) : (W.setCell ⟨b, i, none⟩ u).ownsRow n1 e size v n xs :=
  owns_kept h fun k hk => Below.heap_setCell _ _ _ _ (fun e => by have := (h.lt k hk).1; have : k = b := by simpa using e
                                                                  omega)
theorem ent_cells (w : World) (x : En) : ∀ (j : Nat) (u : Value), (ents [x])[j]? = some u → (w.alloc (.cells #[.int .u64 (x.tag : Int), .int .u64 (x.epoch : Int), .int .i64 x.place, .string x.old] 55)).cell? ((⟨w.heap.size, 0, none⟩ : Addr).add j) = some u := by
  intro j u hj
  have e := heap_alloc_new w (.cells #[.int .u64 (x.tag : Int), .int .u64 (x.epoch : Int), .int .i64 x.place, .string x.old] 55)
  rw [Addr.add_none, Nat.zero_add, cell_of_blk e]
  simpa [ents] using hj
/-- What a round that appends leaves. -/
theorem sc_round {w W w1 : World} {b8 n1 Bd Bg Be p : Nat} {v1 v2 v v' : Value} {pre : List (En × Int)} {x : En × Int} {tmp : Obj} (hi : ScI w b8 n1 pre W) (bX : Boxed W b8 53 v) (how : W.ownsRow n1 55 4 v pre.length (ents (pre.map (·.1)))) (hx : x.2 = 0)
    (hw : w.heap.size + 2 < b8) (hb8 : b8 < n1) (hf : ∀ k, footE Bd Bg Be p v1 v2 k → k < n1 ∧ k ≠ b8)
    (hown : w1.ownsRow n1 55 4 v' (pre.length + 1) (ents (pre.map (·.1)) ++ ents [x.1])) (hg : (W.alloc tmp).grownBy w1 v.ownBlock) :
    KeepsOthers W (w1.setCell ⟨b8, 0, none⟩ v') ∧ KpE Bd Bg Be p v1 v2 W (w1.setCell ⟨b8, 0, none⟩ v') ∧ ScI w b8 n1 (pre ++ [x]) (w1.setCell ⟨b8, 0, none⟩ v') := by
  obtain ⟨h1, -, h4, h5, h6, h7⟩ := hi
  have hrow : ∀ k, v.ownBlock = some k → n1 ≤ k ∧ ∃ cs l, W.heap[k]? = some (.cells cs 55 l) := fun k hk => by
    rcases how.2 with ⟨rfl, _⟩ | ⟨g, cap, cur, rfl, hB, hgb, _⟩
    · cases hk
    · cases hk; exact ⟨hB, _, _, hgb⟩
  have hsz : W.heap.size ≤ (w1.setCell ⟨b8, 0, none⟩ v').heap.size := by
    rw [World.size_setCell]; have := hg.size; rw [World.size_alloc] at this; omega
  have hkeep : ∀ k, k < W.heap.size → v.ownBlock ≠ some k → k ≠ b8 → (w1.setCell ⟨b8, 0, none⟩ v').heap[k]? = W.heap[k]? := fun k hk hn hb => by
    rw [Below.heap_setCell _ _ _ _ (fun e => hb (by simpa using e)), hg.block k (by rw [World.size_alloc]; omega) (fun e => hn e.symm), Below.heap_alloc _ _ _ hk]
  have hlow : ∀ k, k < n1 → k ≠ b8 → (w1.setCell ⟨b8, 0, none⟩ v').heap[k]? = W.heap[k]? := fun k hk hb => hkeep k (by omega) (fun e => by have := (hrow k e).1; omega) hb
  have hX1 : Boxed w1 b8 53 v := (bX.alloc tmp).kept hg (fun e => by have := (hrow b8 e.symm).1; omega)
  have e1 : (pre ++ [x]).length = pre.length + 1 := by simp
  have e2 : ents ((pre ++ [x]).map (·.1)) = ents (pre.map (·.1)) ++ ents [x.1] := by rw [List.map_append, ents_append]; rfl
  refine ⟨?_, ⟨hsz, fun k hk hl => hlow k (hf k hk).1 (hf k hk).2, fun k cs l hk => ?_⟩, ⟨fun y hy => ?_, ⟨v', hX1.set v', ?_⟩, ?_, ?_, ?_, Nat.le_trans h7 hsz⟩⟩
  · refine ⟨hsz, fun k o hk ho => (hkeep k (lt_of_block hk) (fun e => ?_) (fun e => ?_)).trans hk⟩
    · obtain ⟨_, cs, l, hc⟩ := hrow k e
      rw [hk] at hc; cases hc; cases ho
    · subst e
      rw [show W.heap[k]? = _ from bX] at hk; cases hk; cases ho
  · refine (hkeep k (lt_of_block hk) (fun e => ?_) (fun e => ?_)).trans hk
    · obtain ⟨_, cs', l', hc⟩ := hrow k e
      rw [hk] at hc; injection hc with hc; injection hc with _ hc _; exact absurd hc (by decide)
    · subst e
      rw [show W.heap[k]? = _ from bX] at hk; injection hk with hk; injection hk with _ hk _; exact absurd hk (by decide)
  · rcases List.mem_append.1 hy with hy | hy
    · exact h1 y hy
    · simp at hy; rw [hy]; exact hx
  · rw [e1, e2]; exact owns_setL hown hb8
  · exact (hlow _ (by omega) (by omega)).trans h4
  · exact (hlow _ (by omega) (by omega)).trans h5
  · have h8 := h6.size
    refine ⟨?_, ?_, ?_, Nat.le_trans h8 hsz, fun k hk => (hlow k (by omega) (by omega)).trans (h6.block k hk)⟩
    · show w1.os = _; rw [hg.os]; exact h6.os
    · show w1.tape = _; rw [hg.tape]; exact h6.tape
    · show w1.output = _; rw [hg.output]; exact h6.output

set_option maxRecDepth 100000 in
set_option maxHeartbeats 4000000 in
theorem scan_in (B p : Nat) (v1 v2 : Value) (S : DS) (N F C U : Int) (ep : Nat) (w : World) (h : PD w B p v1 v2 S) (M : Nat) (hok : S.ok M) (hM : M ≤ 1000000) (hsz : ∀ x : Int, (S.read x).1.size ≤ 140737488355328) :
    CallsIn Fence.wide 10 Tryz.prog 19 #[.pointer (some ⟨p, 0, none⟩), geo N F C U, .int .u64 (ep : Int)] w fun e w' =>
      (∃ a c, e = .returned (.tuple #[.slice a (scanP N F C U S ep).1.length c, .int .i64 (scanP N F C U S ep).2]) ∧ Es w' a (scanP N F C U S ep).1.length c (scanP N F C U S ep).1 ∧ ∀ b off sp, a = some ⟨b, off, sp⟩ → w.heap.size ≤ b) ∧ Below w.heap.size w w' := by
  have hr := fun w => (callsIn_wide (n := 9)).2 (gright_any N F C U w)
  unfold geo at hr
  have HR := Lib.hid hr
  have H := Lib.hid h
  have HOK := Lib.hid hok
  have HSZ := Lib.hid hsz
  obtain ⟨R, hR⟩ : ∃ R, R = scanP N F C U S ep := ⟨_, rfl⟩
  rw [← hR]
  have HRR := Lib.hid hR
  clear hr h hok hsz hR
  unfold geo
  refine callsIn_of_wp_marks Tryz.func19 rfl trivial ?_ rfl
  simp only [Tryz.ntmps19, List.size_toArray, List.length_cons, List.length_nil, Nat.reduceAdd, Nat.reduceSub, Array.replicate_succ, Array.replicate_zero, List.push_toArray, List.append_toArray, List.nil_append, List.cons_append]
  gi_upto_region 1 with fail
  obtain ⟨V, hV⟩ : ∃ V, V = ((w.alloc (.cells #[.int .i64 N, .int .i64 F, .int .i64 C, .int .i64 U] 23)).alloc (.cells #[.slice none 0 0] 53)).alloc (.cells #[.int .i64 0] 27) := ⟨_, rfl⟩
  obtain ⟨hG, bL, bE, hsV, hbV⟩ := boxesS N F C U w V hV
  rw [← hV]
  clear hV
  have cg0 : V.cell? ⟨w.heap.size, 0, none⟩ = some (.int .i64 N) := by rw [cell_of_blk hG]; rfl
  have cg1 : V.cell? ⟨w.heap.size, 1, none⟩ = some (.int .i64 F) := by rw [cell_of_blk hG]; rfl
  have cg2 : V.cell? ⟨w.heap.size, 2, none⟩ = some (.int .i64 C) := by rw [cell_of_blk hG]; rfl
  have cg3 : V.cell? ⟨w.heap.size, 3, none⟩ = some (.int .i64 U) := by rw [cell_of_blk hG]; rfl
  have HG := Lib.hid hG
  have HBL := Lib.hid bL
  have HBE := Lib.hid bE
  have HSV := Lib.hid hsV
  have HBV := Lib.hid hbV
  clear hG bL bE hsV hbV
  gi_wp2_with fail
  refine ⟨trivial, (HR.out _).mono ?_⟩
  rintro e w1 ⟨rfl, hb⟩
  have HG1 := Lib.hid ((hb.block _ (lt_of_block HG.out)).trans HG.out)
  have HBL1 := Lib.hid (show Boxed w1 (w.heap.size + 1) 53 (.slice none 0 0) from (hb.block _ HBL.out.lt).trans HBL.out)
  have HBE1 := Lib.hid (show Boxed w1 (w.heap.size + 1 + 1) 27 (.int .i64 0) from (hb.block _ HBE.out.lt).trans HBE.out)
  have HS1 := Lib.hid (show w.heap.size + 3 ≤ w1.heap.size from by have := hb.size; have := HSV.out; omega)
  have HB1 := Lib.hid (HBV.out.trans (hb.mono (by have := HSV.out; omega)))
  clear hb cg0 cg1 cg2 cg3 HR HG HBL HBE HSV HBV
  by_cases ho : okG N F C U
  · have hd : decide (okG N F C U) = true := decide_eq_true ho
    have hR2 : R = scanL (seqP (stepP N F C U S ep) 0 U.toNat) := by rw [HRR.out]; unfold scanP; rw [if_pos ho]
    obtain ⟨Y, hY⟩ : ∃ Y, Y = seqP (stepP N F C U S ep) 0 U.toNat := ⟨_, rfl⟩
    have hlY : Y.length ≤ 320 := by rw [hY]; exact Nat.le_trans (seqP_le _ _ _) (by have := ho.2.2.2.2.2.2.2; omega)
    rw [← hY] at hR2
    have HYD := Lib.hid hY
    have HR2 := Lib.hid hR2
    have HO := Lib.hid ho
    have HLY := Lib.hid hlY
    clear hY hR2 ho hlY
    rw [hd]
    gi_upto_region 4 with fail
    obtain ⟨V1, hV1⟩ : ∃ V1, V1 = w1.alloc (.cells #[.slice none 0 0] 53) := ⟨_, rfl⟩
    have hb1 : Below w1.heap.size w1 V1 := by rw [hV1]; exact (Below.refl _ _).alloc (Nat.le_refl _) _
    have bX : Boxed V1 w1.heap.size 53 (.slice none 0 0) := by rw [hV1]; exact Boxed.new w1 _ _
    rw [← hV1]
    clear hV1
    have hG2 := (hb1.block _ (lt_of_block HG1.out)).trans HG1.out
    have cg0 : V1.cell? ⟨w.heap.size, 0, none⟩ = some (.int .i64 N) := by rw [cell_of_blk hG2]; rfl
    have cg1 : V1.cell? ⟨w.heap.size, 1, none⟩ = some (.int .i64 F) := by rw [cell_of_blk hG2]; rfl
    have cg2 : V1.cell? ⟨w.heap.size, 2, none⟩ = some (.int .i64 C) := by rw [cell_of_blk hG2]; rfl
    have cg3 : V1.cell? ⟨w.heap.size, 3, none⟩ = some (.int .i64 U) := by rw [cell_of_blk hG2]; rfl
    obtain ⟨b8, hb8⟩ : ∃ b8, b8 = w1.heap.size := ⟨_, rfl⟩
    rw [← hb8] at bX hb1 ⊢
    have HB8 := Lib.hid hb8
    have HB1' := Lib.hid hb1
    have HX := Lib.hid bX
    clear hb1 bX hG2 hb8
    gi_wp2_with fail
    have hent := entries_in 9 p N F C U ep V1
    unfold geo at hent
    refine ⟨trivial, hent.mono ?_⟩
    clear hent
    rintro e w2 ⟨rfl, hw2⟩
    have HE2 := Lib.hid (show EIt w2 V1.heap.size (V1.heap.size + 1) (V1.heap.size + 1 + 1) B p v1 v2 S N F C U ep from by
      rw [hw2]; exact eit_new N F C U ep (H.out.below (HB1.out.trans (HB1'.out.mono (by have := HB8.out; have := HS1.out; omega)))))
    have hb2 : Below V1.heap.size V1 w2 := by rw [hw2]; exact (((Below.refl _ _).alloc (Nat.le_refl _) _).alloc (by simp) _).alloc (by simp; omega) _
    have hs2 : w2.heap.size = V1.heap.size + 3 := by rw [hw2]; simp
    clear hw2 cg0 cg1 cg2 cg3
    gi_wp2_with fail
    have hw8 : w.heap.size + 2 < b8 := by have := HB8.out; have := HS1.out; omega
    have hb8l : b8 < V1.heap.size := HX.out.lt
    have hn1 : b8 < w2.heap.size := by omega
    have hww : w.heap.size ≤ w2.heap.size := by omega
    have hfl : ∀ k, footE V1.heap.size (V1.heap.size + 1) (V1.heap.size + 1 + 1) p v1 v2 k → k < w2.heap.size ∧ k ≠ b8 := fun k hk => by
      refine ⟨HE2.out.lt k hk, fun e => ?_⟩
      rcases hk with hk | hk | hk | hk
      · have := (H.out.foot_low k hk).2; omega
      · omega
      · omega
      · omega
    have HFL := Lib.hid hfl
    have hB2 : Below w.heap.size w w2 := HB1.out.trans ((HB1'.out.mono (by omega)).trans (hb2.mono (by omega)))
    have hI0 : ScI w b8 w2.heap.size [] w2 := by
      refine ⟨fun y hy => (by cases hy), ⟨_, (hb2.block _ HX.out.lt).trans HX.out, World.ownsRow_nil _ _ _ _⟩, ?_, ?_, hB2, Nat.le_refl _⟩
      · exact (hb2.block _ (by omega)).trans ((HB1'.out.block _ (by omega)).trans HBL1.out)
      · exact (hb2.block _ (by omega)).trans ((HB1'.out.block _ (by omega)).trans HBE1.out)
    obtain ⟨i0, hi, hz0, hz1, hz2⟩ := info_parts Tryz.infoEnt
    have HW8 := Lib.hid hw8
    have HN1 := Lib.hid hn1
    clear hw8 hb8l hn1 hfl hB2 hb2 hs2 HBL1 HBE1 HG1 HB1 HX HB1' HS1 HB8 hd
    refine range_own rfl (by omega) (gf := 103) (lb := #[.pointer (some ⟨V1.heap.size + 1, 0, none⟩), .pointer (some ⟨V1.heap.size, 0, none⟩), .pointer (some ⟨V1.heap.size + 1 + 1, 0, none⟩)]) rfl trivial (enters_of Tryz.func103 (by kernel_rfl) rfl)
      (entries_gives 9 (by omega) V1.heap.size (V1.heap.size + 1) (V1.heap.size + 1 + 1) B p v1 v2 S N F C U ep HO.out M HOK.out hM HSZ.out w2 HE2.out)
      (fun h k => h.trans k) (fun W l o o' => kpE_put (n := w2.heap.size) (fun k hk => (HFL.out k hk).1) W l o o') (Below.refl _ _) (fun _ => rfl)
      (ScI w b8 w2.heap.size) (ScX w w2.heap.size) (scI_mv hww) (scI_bk hww) (scX_mv hww) (scX_bk hww) hI0
      (fun x a' W => ∃ Bx, W.heap[Bx]? = some (.cells #[.int .u64 (x.1.tag : Int), .int .u64 (x.1.epoch : Int), .int .i64 x.1.place, .string x.1.old] 55 (0, 0)) ∧ a' = { tmps := #[.pointer (some ⟨p, 0, none⟩), Value.agg #[.int .i64 N, .int .i64 F, .int .i64 C, .int .i64 U], .int .u64 (ep : Int), undef, .pointer (some ⟨w.heap.size, 0, none⟩), undef, .pointer (some ⟨w.heap.size + 1, 0, none⟩), .pointer (some ⟨w.heap.size + 1 + 1, 0, none⟩), .pointer (some ⟨b8, 0, none⟩), .pointer (some ⟨Bx, 0, none⟩), .int .i64 x.2, Value.agg #[.int .i64 N, .int .i64 F, .int .i64 C, .int .i64 U], .bool true, .bool false, .pointer (some ⟨p, 0, none⟩), Value.agg #[.int .i64 N, .int .i64 F, .int .i64 C, .int .i64 U], .int .u64 (ep : Int), .func (.func 103) #[] #[.pointer (some ⟨V1.heap.size + 1, 0, none⟩), .pointer (some ⟨V1.heap.size, 0, none⟩), .pointer (some ⟨V1.heap.size + 1 + 1, 0, none⟩)], x.1.val, .int .i64 x.2, undef, undef, undef, undef, undef, undef, undef, undef], defers := [] })
      (fun x a' s X Y hs hm => by
        obtain ⟨Bx, h1, h2⟩ := hs
        exact ⟨Bx, hm.same _ _ h1 (.inr rfl), h2⟩)
      ?assign ?body ?done ?stop
    case assign =>
      rintro l pre x W K hi hK
      have hx := x
      obtain ⟨⟨x1, x2, x3, x4⟩, x5⟩ := x
      unfold encE En.val
      dsimp only
      gi_wp2
      have hb : Below W.heap.size W (W.alloc (.cells #[.int .u64 (x1 : Int), .int .u64 (x2 : Int), .int .i64 x3, .string x4] 55)) := (Below.refl _ _).alloc (Nat.le_refl _) _
      exact hK _ _ ((KeepsOthers.alloc _ _).from _) (kpE_below hb) (scI_mv hww _ _ _ hi (Mv.below hb)) ⟨W.heap.size, heap_alloc_new _ _, rfl⟩
    case body =>
      rintro l pre x a' W hI ⟨Bx, bP, rfl⟩ hlt
      have hI' := hI
      obtain ⟨h1, ⟨v, bX, how⟩, bL, bE, hB, hN⟩ := hI
      obtain ⟨x, x5⟩ := x
      have p0 : W.cell? ⟨Bx, 0, none⟩ = some (.int .u64 (x.tag : Int)) := by rw [cell_of_blk bP]; rfl
      have p1 : W.cell? ⟨Bx, 1, none⟩ = some (.int .u64 (x.epoch : Int)) := by rw [cell_of_blk bP]; rfl
      have p2 : W.cell? ⟨Bx, 2, none⟩ = some (.int .i64 x.place) := by rw [cell_of_blk bP]; rfl
      have p3 : W.cell? ⟨Bx, 3, none⟩ = some (.string x.old) := by rw [cell_of_blk bP]; rfl
      have cL := bL.cell
      have fL := bL.frozen
      have cE := bE.cell
      have fE := bE.frozen
      have cX := bX.cell
      have fX := bX.frozen
      dsimp only
      by_cases hw : x5 = 0
      · subst hw
        have hlt2 : pre.length < 400 := by have := HLY.out; rw [HYD.out] at this; omega
        have HI := Lib.hid hI'
        have HOW := Lib.hid how
        have HBX := Lib.hid bX
        have HNW := Lib.hid hN
        clear hI' h1 bL bE hB cL fL cE fE how bX bP hN
        gi_upto_region 9 with fail
        gi_step
        gi_step
        gi_step
        gi_step
        gi_step
        gi_step
        gi_step
        gi_step
        gi_step
        gi_step
        gi_at_builtin
        refine wpListIn_append_at (o := ⟨some 26, _, _, _, _, _⟩) rfl (.tmp 23) (.tmp 25) 53 rfl w2.heap.size 55 i0 _ 4 40 Tryz.underlying53 hi hz0 hz1 hz2 rfl (by omega) v pre.length _ rfl (HOW.out.alloc _) ⟨W.heap.size, 0, none⟩ 1 1 (ents [x]) rfl rfl (ent_cells W x) (ents_one _) (by unfold maxLen; omega) (by omega) (by have := HNW.out; simp; omega) ?_
        rintro v' w' hown hg -
        have hR := sc_round (x := (x, (0 : Int))) HI.out HBX.out HOW.out rfl HW8.out HN1.out HFL.out hown hg
        have HRD := Lib.hid hR
        obtain ⟨a', c', rfl, -⟩ := owns_shape1 hown
        have bX1 : Boxed w' b8 53 v := (HBX.out.alloc _).kept hg (fun e => by have := (HOW.out.lt b8 e.symm).1; have := HN1.out; omega)
        have cX1 := bX1.cell
        have fX1 := bX1.frozen
        clear hown hg hR bX1
        gi_wp2
        exact ⟨HRD.out.1.from _, HRD.out.2.1, HRD.out.2.2⟩
      · have q : (x5 != 0) = true := by simpa using hw
        have HH := Lib.hid (And.intro h1 (And.intro bL (And.intro bE (And.intro hB hN))))
        clear hI' h1 bL bE hB cX fX how bX bP hN p0 p1 p2 p3
        gi_wp2
        obtain ⟨h1, bL, bE, hB, hN⟩ := HH.out
        have hn8 := HW8.out
        exact ⟨((KeepsOthers.setCell _ _ _).trans (KeepsOthers.setCell _ _ _)).from _, rfl, pre, (x, x5), rfl, h1, hw, (bL.set _).other (by omega) _, (bE.other (by omega) _).set _, (hB.setCell (p := ⟨w.heap.size + 1, 0, none⟩) (by simp) _).setCell (p := ⟨w.heap.size + 1 + 1, 0, none⟩) (by simp; omega) _, by simp only [World.size_setCell]; exact hN⟩
    case done =>
      rintro D ys W hD hys ⟨h1, ⟨v, bX, how⟩, bL, bE, hB, hN⟩ hK
      have hRe : R = (ys.map (·.1), 0) := by rw [HR2.out, HYD.out, ← hys]; exact scanL_ok ys h1
      have hlm : (ys.map (·.1)).length = ys.length := by simp
      obtain ⟨a', c', rfl, -⟩ := owns_shape1 how
      have cX := bX.cell
      have cL := bL.cell
      have fL := bL.frozen
      have cE := bE.cell
      have fE := bE.frozen
      have HH := Lib.hid (And.intro bL (And.intro bE (And.intro hB (And.intro hN (And.intro how (And.intro hK (And.intro hD (And.intro hRe hlm))))))))
      obtain ⟨nl, hnl⟩ : ∃ nl, nl = ys.length := ⟨_, rfl⟩
      rw [← hnl] at cX
      have HNL := Lib.hid hnl
      clear hRe hlm how bX bL bE hB hN hK hys h1 hD hnl
      gi_wp2
      obtain ⟨bL, bE, hB, hN, how, hK, hD, hRe, hlm⟩ := HH.out
      have hn8 := HW8.out
      have hn1 := HN1.out
      have hK1 := ((KeepsOthers.setCell W ⟨w.heap.size + 1, 0, none⟩ (.slice a' nl c')).trans (KeepsOthers.setCell _ ⟨w.heap.size + 1 + 1, 0, none⟩ (.int .i64 0))).same D _ hK rfl
      have bL2 := (bL.set (.slice a' nl c')).other (B' := w.heap.size + 1 + 1) (by omega) (.int .i64 0)
      have bE2 := (bE.other (B' := w.heap.size + 1) (by omega) (.slice a' nl c')).set (.int .i64 0)
      have hB2 := (hB.setCell (p := ⟨w.heap.size + 1, 0, none⟩) (by simp) (.slice a' nl c')).setCell (p := ⟨w.heap.size + 1 + 1, 0, none⟩) (by simp; omega) (.int .i64 0)
      have how2 := owns_setL (b := w.heap.size + 1 + 1) (i := 0) (u := .int .i64 0) (owns_setL (b := w.heap.size + 1) (i := 0) (u := .slice a' nl c') how (by omega)) (by omega)
      have hs2 : w2.heap.size ≤ ((W.setCell ⟨w.heap.size + 1, 0, none⟩ (.slice a' nl c')).setCell ⟨w.heap.size + 1 + 1, 0, none⟩ (.int .i64 0)).heap.size := by simp only [World.size_setCell]; exact hN
      generalize ((W.setCell ⟨w.heap.size + 1, 0, none⟩ (.slice a' nl c')).setCell ⟨w.heap.size + 1 + 1, 0, none⟩ (.int .i64 0)) = W2 at *
      have hbk := bk_put (B := w2.heap.size) (.deferred none) hD hK1 rfl
      refine ⟨by simp, .inl ⟨_, _, rfl, run_takeDeferred hK1, ?_⟩⟩
      have hL5 := boxed_bk bL2 hbk
      have hE5 := boxed_bk bE2 hbk
      have how5 := owns_bk how2 hbk
      refine ⟨.tuple #[.slice a' nl c', .int .i64 0], ?_, ?_⟩
      · simp [results, Tryz.f19, go_sem, hL5.cell, hE5.cell]
      · obtain ⟨a2, c2, e2, hes, hlow⟩ := es_of_owns how5 hlm
        cases e2
        refine ⟨⟨a', c', ?_, ?_, fun b off sp e => Nat.le_trans hww (hlow b off sp e)⟩, hB2.trans ((hbk.toBelow hs2).mono hww)⟩
        · rw [hRe, HNL.out]; simp [hlm]
        · rw [hRe]; dsimp only; rw [hlm]; exact hes
    case stop =>
      rintro D c pre W hD hpre ⟨rfl, pre', y, rfl, h1, hy, bL, bE, hB, hN⟩ hK
      obtain ⟨j, hj, he⟩ := hpre
      have hRe : R = ([], y.2) := by rw [HR2.out, HYD.out]; exact scanL_err _ pre' y j he h1 hy
      have HH := Lib.hid (And.intro bL (And.intro bE (And.intro hB (And.intro hN (And.intro hK (And.intro hD hRe))))))
      clear hRe bL bE hB hN hK h1 hD he hj
      gi_wp2
      obtain ⟨bL, bE, hB, hN, hK, hD, hRe⟩ := HH.out
      have hbk := bk_put (B := w2.heap.size) (.deferred none) hD hK rfl
      refine ⟨by simp, .inl ⟨_, _, rfl, run_takeDeferred hK, ?_⟩⟩
      have hL5 := boxed_bk bL hbk
      have hE5 := boxed_bk bE hbk
      refine ⟨.tuple #[.slice none 0 0, .int .i64 y.2], ?_, ?_⟩
      · simp [results, Tryz.f19, go_sem, hL5.cell, hE5.cell]
      · refine ⟨⟨none, 0, by rw [hRe]; rfl, ?_, fun b off sp e => by cases e⟩, hB.trans ((hbk.toBelow hN).mono hww)⟩
        rw [hRe]
        exact ⟨rfl, Nat.le_refl _, by unfold maxLen; omega, fun h => by simp at h⟩
  · have hd : decide (okG N F C U) = false := decide_eq_false ho
    have hRe : R = ([], 12) := by rw [HRR.out]; unfold scanP; rw [if_neg ho]
    rw [hd]
    have cL := HBL1.out.cell
    have fL := HBL1.out.frozen
    have cE := HBE1.out.cell
    have fE := HBE1.out.frozen
    have HRE := Lib.hid hRe
    clear hRe ho hd HOK HSZ H
    gi_wp2
    have hs1 := HS1.out
    have bL2 := (HBL1.out.set (.slice none 0 0)).other (B' := w.heap.size + 1 + 1) (by omega) (.int .i64 12)
    have bE2 := (HBE1.out.other (B' := w.heap.size + 1) (by omega) (.slice none 0 0)).set (.int .i64 12)
    refine ⟨.tuple #[.slice none 0 0, .int .i64 12], ?_, ?_⟩
    · simp [results, Tryz.f19, go_sem, bL2.cell, bE2.cell]
    · refine ⟨⟨none, 0, by rw [HRE.out]; rfl, ?_, fun b off sp e => by cases e⟩, (HB1.out.setCell (p := ⟨w.heap.size + 1, 0, none⟩) (by simp) _).setCell (p := ⟨w.heap.size + 1 + 1, 0, none⟩) (by simp; omega) _⟩
      rw [HRE.out]
      exact ⟨rfl, Nat.le_refl _, by unfold maxLen; omega, fun h => by simp at h⟩

theorem scan_any (B p : Nat) (v1 v2 : Value) (S : DS) (N F C U : Int) (ep : Nat) (w : World) (h : PD w B p v1 v2 S) (M : Nat) (hok : S.ok M) (hM : M ≤ 1000000) (hsz : ∀ x : Int, (S.read x).1.size ≤ 140737488355328) :
    Calls Tryz.prog 19 #[.pointer (some ⟨p, 0, none⟩), geo N F C U, .int .u64 (ep : Int)] w fun e w' =>
      (∃ a c, e = .returned (.tuple #[.slice a (scanP N F C U S ep).1.length c, .int .i64 (scanP N F C U S ep).2]) ∧ Es w' a (scanP N F C U S ep).1.length c (scanP N F C U S ep).1 ∧ ∀ b off sp, a = some ⟨b, off, sp⟩ → w.heap.size ≤ b) ∧ Below w.heap.size w w' :=
  callsIn_wide.1 (scan_in B p v1 v2 S N F C U ep w h M hok hM hsz)
end Go.Proofs.YtjohgagiccndpaaGreatDoor

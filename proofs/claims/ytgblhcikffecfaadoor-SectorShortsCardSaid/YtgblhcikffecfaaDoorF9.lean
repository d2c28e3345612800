/-
  Contract of the program's Short (a range over runs).
-/
import Derived.Test.YtgblhcikffecfaaDoorF8
import Derived.RangeFuncFrom
import Derived.Maps.AppendAt
import Derived.OwnWalkIn
import Derived.OneCell
namespace Go.Proofs.YtgblhcikffecfaaDoor
open Go.RowKit Go.Shelf
set_option linter.unusedVariables false
set_option linter.unusedSimpArgs false
attribute [local go_sem] Oper.semAt_some

theorem Tryd.info9s : (Tryd.prog.info? 9).map (fun i => (i.zero, i.size, i.bytes)) = some (some (.string ⟨#[]⟩), 1, 16) := by kernel_rfl
theorem owns_keptS {w w' : World} {B e size n : Nat} {v : Value} {xs : List Value} (h : w.ownsRow B e size v n xs) (hk : ∀ k, v.ownBlock = some k → w'.heap[k]? = w.heap[k]?) : w'.ownsRow B e size v n xs := by
  refine ⟨h.1, ?_⟩
  rcases h.2 with hn | ⟨g, cap, cur, rfl, hb, hgg, rest⟩
  · exact .inl hn
  · exact .inr ⟨g, cap, cur, rfl, hb, by rw [hk g rfl]; exact hgg, rest⟩
theorem shapeS {w : World} {B e size n : Nat} {v : Value} {xs : List Value} (h : w.ownsRow B e size v n xs) : ∃ a c, v = .slice a n c := by
  rcases h.2 with ⟨rfl, h0⟩ | ⟨g, cap, cur, rfl, _⟩
  · exact ⟨none, 0, by rw [h0]⟩
  · exact ⟨_, _, rfl⟩
theorem box6 {W w5 w6 : World} {b : Nat} {row : Option Nat} {o o' : Obj} (hb : W.heap[b]? = some o) (h5 : Below W.drew.heap.size W.drew w5) (hg : (w5.alloc o').grownBy w6 row) (hne : row ≠ some b) : w6.heap[b]? = some o := by
  have hl := lt_of_block hb
  have hl' : b < W.drew.heap.size := hl
  rw [hg.block b (by have := h5.size; simp; omega) (fun e => hne e.symm), Below.heap_alloc _ _ _ (Nat.lt_of_lt_of_le hl' h5.size), h5.block b hl']
  exact hb
theorem cells_one (w : World) (V : Value) : ∀ (j : Nat) (u : Value), [V][j]? = some u → (w.alloc (.cells #[V] 9)).cell? ((⟨w.heap.size, 0, none⟩ : Addr).add j) = some u := by
  intro j u hj
  rw [Addr.add_none, cell_of_blk (heap_alloc_new w _), Nat.zero_add]
  simpa using hj
def strsL (L : List ByteArray) : List Value := L.map Value.string
def spB (r : Run) : ByteArray := ⟨(spellL r.1.val r.2.val).toArray⟩

theorem sameK_b {b : Nat} {w : World} (hb : b < w.heap.size) : ∀ (W : World) (l : Nat) (o o' : Obj), w.heap.size ≤ l → W.heap[l]? = some o → o.isCells = false → o.isWalk = false → SameAt b W (W.putObj l o') := by
  intro W l o o' h1 h2 h3 h4
  exact (belowK_b (w := w) (n₀ := w.heap.size) (Nat.le_refl _) W l o o' h1 h2 h3 h4).cell (p := ⟨b, 0, none⟩) hb

/-- append onto a row of the call's own, as one step of a region that draws, inside a fence. -/
theorem step_append_in {F : Fence} {m' : Nat} {P : Program} {w : World} {ops : Array Oper} {o : Oper} {a : Act} {K : Act → World → Prop} {Q : Exit → Act → World → Prop} {E : Prop} (hgd : o.guard = none) (s x : Operand) (t : TypeId)
    (ho : o.op = .call { callee := .builtin .append, args := #[s, x], argTypes := #[t, t] }) (base : Nat) (e : TypeId) (i : TypeInfo) (z : Value) (size bytes : Nat) (ht : P.underlying t = some (.slice e)) (hi : P.info? e = some i) (hz : i.zero = some z) (hsize : i.size = size) (hby : i.bytes = bytes) (hzs : z.cells.size = size) (hsz : 0 < size)
    (v : Value) (n : Nat) (xs : List Value) (hs : a.eval s = v) (hown : w.ownsRow base e size v n xs) (ad : Addr) (m c : Nat) (news : List Value) (hx : a.eval x = .slice (some ad) m c) (hl : news.length = m * size)
    (hnews : ∀ j u, news[j]? = some u → w.cell? (ad.add j) = some u) (h1 : ∀ u ∈ news, u.oneCell' = true) (h63 : n + m ≤ maxLen) (hbytes : (n + m) * bytes ≤ 140737488355328) (hbase : base ≤ w.heap.size)
    (h : ∀ v' w', w'.ownsRow base e size v' (n + m) (xs ++ news) → w.grownBy w' v.ownBlock → (v'.ownBlock = v.ownBlock ∨ v'.ownBlock = some w.heap.size) → K (a.put o.dst v') w') :
    if Region.wanted o (yielded ops a.tmps) = true then Oper.wpIn F m' P o a w K Q else E := by
  have hw : Region.wanted o (yielded ops a.tmps) = true := by simp [Region.wanted, hgd]
  rw [if_pos hw]
  obtain ⟨v', w', hr, h2, h3, h4, h5⟩ := run_append_own_at (P := P) w base t o.type e i z size bytes ht hi hz hsize hby hzs hsz v n xs hown ad m c news hl hnews h1 h63 hbytes hbase
  unfold Oper.wpIn
  refine ⟨by simp [Oper.about, ho, resolve, Target.leads, Sem.run_pure], ?_⟩
  rw [Oper.semAt_plain F _ _ (by rw [ho]; intro c hc'; cases hc')]
  unfold execOp
  simp only [ho, resolve, invoke, builtin, Sem.run_bind, Sem.run_pure, Result.andThen_ok, List.map_toArray, List.map_cons, List.map_nil, hs, hx, hr]
  exact h v' w' h2 h3 h5

theorem round_end {w W w5 w6 : World} {v v' : Value} {sb s : ByteArray} {n : Nat} {xs : List Value} {o' : Obj} (bS1 : Boxed W (w.heap.size + 1) 9 (.string s)) (bV : Boxed W w.heap.size 41 v) (how : W.ownsRow (w.heap.size + 2) 9 1 v n xs) (hB1 : Below w.heap.size w W) (hb5 : Below W.drew.heap.size W.drew w5)
    (hr6 : w6.ownsRow (w.heap.size + 2) 9 1 v' (n + 1) (xs ++ [.string sb])) (hg6 : (w5.alloc o').grownBy w6 v.ownBlock) :
    KeepsOthers W (w6.setCell ⟨w.heap.size, 0, none⟩ v') ∧ SameAt (w.heap.size + 1) W (w6.setCell ⟨w.heap.size, 0, none⟩ v') ∧
      (((∃ v, Boxed (w6.setCell ⟨w.heap.size, 0, none⟩ v') w.heap.size 41 v ∧ (w6.setCell ⟨w.heap.size, 0, none⟩ v').ownsRow (w.heap.size + 2) 9 1 v (n + 1) (xs ++ [.string sb]) ∧ True) ∧ Boxed (w6.setCell ⟨w.heap.size, 0, none⟩ v') (w.heap.size + 1) 9 (.string s)) ∧
        Below w.heap.size w (w6.setCell ⟨w.heap.size, 0, none⟩ v')) := by
  have hsz : W.heap.size ≤ w5.heap.size := hb5.size
  have hg : W.grownBy w6 v.ownBlock := ⟨hg6.os.trans hb5.os, hg6.tape.trans hb5.tape, hg6.output.trans hb5.output, Nat.le_trans hsz (Nat.le_trans (by simp) hg6.size), fun k hk hne =>
    (hg6.block k (by simp; omega) hne).trans ((Below.heap_alloc _ _ _ (by omega)).trans (hb5.block k hk))⟩
  have hrow : ∀ k, v.ownBlock = some k → w.heap.size + 2 ≤ k := fun k e => (how.lt k e).1
  have hrow' : ∀ k, v'.ownBlock = some k → w.heap.size + 2 ≤ k := fun k e => (hr6.lt k e).1
  have bV6 : Boxed w6 w.heap.size 41 v := (hg.block _ bV.lt (fun e => by have := hrow _ e.symm; omega)).trans bV
  have bS6 : Boxed w6 (w.heap.size + 1) 9 (.string s) := (hg.block _ bS1.lt (fun e => by have := hrow _ e.symm; omega)).trans bS1
  have bS7 : Boxed (w6.setCell ⟨w.heap.size, 0, none⟩ v') (w.heap.size + 1) 9 (.string s) := bS6.other (by omega) _
  have hk : KeepsOthers W w6 := KeepsOthers.of_grownBy hg (fun j o e ho => by
    rcases how.2 with ⟨rfl, h0⟩ | ⟨g, cap, cur, rfl, hb, hgg, rest⟩
    · cases e
    · obtain rfl : g = j := by simpa [Value.ownBlock] using e
      rw [hgg] at ho
      cases ho
      rfl)
  refine ⟨hk.trans (KeepsOthers.setCell _ _ _), ?_, ⟨⟨v', bV6.set _, ownsRow_setCell_other hr6 (fun e => by have := hrow' _ e; simp at this; omega) _, trivial⟩, bS7⟩, ?_⟩
  · exact bS7.cell.trans bS1.cell.symm
  · exact (hB1.grown hg hB1.size (fun k e => by have := hrow k e; omega)).setCell (Nat.le_refl _) _

set_option maxRecDepth 100000 in
set_option maxHeartbeats 4000000 in
theorem short_in (s : ByteArray) (h64 : s.size = 64) (w : World) :
    CallsIn Fence.wide 10 Tryd.prog 19 #[.string s] w fun e w' => e = .returned (shortV s) ∧ Below w.heap.size w w' := by
  have hr := fun w => (callsIn_wide (n := 9)).2 (right_any s w)
  rw [decide_eq_true h64] at hr
  have HR := Lib.hid hr
  clear hr
  refine callsIn_of_wp_marks Tryd.func19 rfl trivial ?_ rfl
  simp only [Tryd.ntmps19, List.size_toArray, List.length_cons, List.length_nil, Nat.reduceAdd, Nat.reduceSub, Array.replicate_succ, Array.replicate_zero, List.push_toArray, List.append_toArray, List.nil_append, List.cons_append]
  gi_wp2_with fail
  refine ⟨trivial, (HR.out _).mono ?_⟩
  rintro e w1 ⟨rfl, hw1⟩; obtain rfl := hw1.symm; clear hw1
  gi_wp2_with fail
  refine ⟨trivial, (runs_in 9 s _).mono ?_⟩
  rintro e w1 ⟨rfl, rfl⟩
  gi_wp2_with fail
  have bP := (Boxed.new w 41 (.slice none 0 0)).alloc (.cells #[.string s] 9)
  have bS := Boxed.new (w.alloc (.cells #[.slice none 0 0] 41)) 9 (.string s)
  rw [World.size_alloc] at bS
  have hB0 : Below w.heap.size w ((w.alloc (.cells #[.slice none 0 0] 41)).alloc (.cells #[.string s] 9)) := ((Below.refl _ w).alloc (Nat.le_refl _) _).alloc (by simp) _
  have hs0 : ((w.alloc (.cells #[.slice none 0 0] 41)).alloc (.cells #[.string s] 9)).heap.size = w.heap.size + 2 := by simp
  obtain ⟨W0, hW0⟩ : ∃ W0, (w.alloc (.cells #[.slice none 0 0] 41)).alloc (.cells #[.string s] 9) = W0 := ⟨_, rfl⟩
  rw [hW0] at bP bS hB0 hs0 ⊢
  clear hW0
  refine wpIn_rangeFunc_ownF rfl (by omega) (gf := 45) (lb := #[.pointer (some ⟨w.heap.size + 1, 0, none⟩)]) rfl trivial (enters_of Tryd.func45 (by kernel_rfl) rfl)
    (runs_stops 9 (by omega) (w.heap.size + 1) s (by omega) W0 (by omega) bS.cell) (fun h k => h.trans k) (sameK_b (by omega)) (Below.refl _ _) (fun _ => rfl)
    (fun pre W => ((∃ v, Boxed W w.heap.size 41 v ∧ W.ownsRow (w.heap.size + 2) 9 1 v pre.length (strsL (pre.map spB)) ∧ True) ∧ Boxed W (w.heap.size + 1) 9 (.string s)) ∧ Below w.heap.size w W)
    (fun _ _ _ => False)
    (OwnFrom.and (OwnFrom.and (Own.from (holdsRow_own (w.heap.size + 2) w.heap.size 41 9 1 (fun (pre : List Run) => pre.length) (fun (pre : List Run) => strsL (pre.map spB)) (fun _ _ => True)) _) (Own.from (boxed_own (w.heap.size + 1) 9 (fun (_ : List Run) => Value.string s)) _)) (ownFrom_below (Nat.le_refl _) (by omega)))
    (fun _ _ _ _ _ hs _ _ => hs)
    ⟨⟨⟨_, bP, World.ownsRow_nil _ _ _ _, trivial⟩, bS⟩, hB0⟩
    (fun x => { tmps := #[.string s, undef, .string ⟨#[]⟩, .pointer (some ⟨w.heap.size, 0, none⟩), .int .u8 (x.1.val : Int), .int .i64 (x.2.val : Int), .string s, .bool true, .bool false, .string s, .func (.func 45) #[] #[.pointer (some ⟨w.heap.size + 1, 0, none⟩)], .int .u8 (x.1.val : Int), .int .i64 (x.2.val : Int), undef, undef, undef, undef, undef, undef, undef, undef], defers := [] })
    ?assign ?body ?done ?stop
  case assign =>
    intro l x W K hK
    unfold encR
    gi_wp2
    exact hK
  case body =>
    rintro l pre x W ⟨⟨⟨v, bV, hown, _⟩, bS1⟩, hB1⟩ hlt
    have hVl := bV.lt
    have cV := bV.cell
    have fV := bV.frozen
    obtain ⟨x1, x2⟩ := x
    obtain ⟨sb, hsb⟩ : ∃ sb, sb = spB (x1, x2) := ⟨_, rfl⟩
    have hsp : ∀ w, CallsIn Fence.wide 7 Tryd.prog 28 #[.int .u8 (x1.val : Int), .int .i64 (x2.val : Int)] w fun e w' => e = .returned (.string sb) ∧ Below w.heap.size w w' := fun w => by
      rw [hsb]; exact (callsIn_wide (n := 7)).2 (spell_any x1.val x2.val w x1.isLt x2.isLt)
    have HSB := Lib.hid hsb
    clear hsb
    obtain ⟨i9, hi, hz0, hz1, hz2⟩ := info_parts Tryd.info9s
    have hkeep : ∀ w5, Below W.drew.heap.size W.drew w5 → w5.cell? ⟨w.heap.size, 0, none⟩ = some v := fun w5 hb => (hb.cell (p := ⟨w.heap.size, 0, none⟩) hVl).trans cV
    have hrow : ∀ w5, Below W.drew.heap.size W.drew w5 → w5.ownsRow (w.heap.size + 2) 9 1 v pre.length (strsL (pre.map spB)) := fun w5 hb => owns_keptS hown fun k hk => hb.block k (hown.lt k hk).2
    have HSP := Lib.hid hsp
    have HOW := Lib.hid hown
    have HB1 := Lib.hid hB1
    have HBs : w.heap.size + 2 ≤ W.heap.size := by have := bS1.lt; omega
    have HPL : pre.length < 64 := by omega
    have HK := Lib.hid hkeep
    have HRW := Lib.hid hrow
    clear hsp hown hB1 hkeep hrow
    gi_wp2_with fail
    have bb : W.heap[w.heap.size]? = some (.cells #[v] 41 (0, 0)) := bV
    have HNE := Lib.hid (show v.ownBlock ≠ some w.heap.size from fun e => by have := (HOW.out.lt _ e).1; omega)
    have HBB := Lib.hid bb
    clear bb
    refine wpIn_region_any (by kernel_rfl) ?_
    change wpAnyIn _ _ _ _ _ _ _ _ _ (World.drew _)
    all_goals (first | refine wpAnyIn_ready (rs := [0, 1, 2]) (by decide +kernel) (by simp) ?_)
    all_goals (repeat' (first | exact AllReadyIn.nil | refine AllReadyIn.cons rfl (fun K hK => ?_) ?_))
    all_goals (first | (go_simp; refine hK _ _ ?_; clear hK K) | (go_simp; refine ⟨trivial, ?_⟩; gi_at_call 28; refine (CallsIn.inRound l (HSP.out _)).mono ?_; rintro e w5 ⟨rfl, hb5⟩; have c5 := HK.out w5 hb5; have c6 := HK.out _ (hb5.alloc hb5.size (.cells #[.string sb] 9)); refine hK _ _ ?_; clear hK K))
    all_goals (first | refine wpAnyIn_ready (rs := [0, 1, 2]) (by decide +kernel) (by simp) ?_ | refine wpAnyIn_ready (rs := [1, 2]) (by decide +kernel) (by simp) ?_ | refine wpAnyIn_ready (rs := [0, 2]) (by decide +kernel) (by simp) ?_ | refine wpAnyIn_ready (rs := [0, 1]) (by decide +kernel) (by simp) ?_ | refine wpAnyIn_ready (rs := [2]) (by decide +kernel) (by simp) ?_ | refine wpAnyIn_ready (rs := [1]) (by decide +kernel) (by simp) ?_ | refine wpAnyIn_ready (rs := [0, 3]) (by decide +kernel) (by simp) ?_ | refine wpAnyIn_ready (rs := [3]) (by decide +kernel) (by simp) ?_ | refine wpAnyIn_ready (rs := [0, 4]) (by decide +kernel) (by simp) ?_ | refine wpAnyIn_ready (rs := [4]) (by decide +kernel) (by simp) ?_ | refine wpAnyIn_ready (rs := [0]) (by decide +kernel) (by simp) ?_)
    all_goals (repeat' (first | exact AllReadyIn.nil | refine AllReadyIn.cons rfl (fun K hK => ?_) ?_))
    all_goals (first | (go_simp; refine hK _ _ ?_; clear hK K) | (go_simp; refine ⟨trivial, ?_⟩; gi_at_call 28; refine (CallsIn.inRound l (HSP.out _)).mono ?_; rintro e w5 ⟨rfl, hb5⟩; have c5 := HK.out w5 hb5; have c6 := HK.out _ (hb5.alloc hb5.size (.cells #[.string sb] 9)); refine hK _ _ ?_; clear hK K))
    all_goals (first | refine wpAnyIn_ready (rs := [0, 1, 2]) (by decide +kernel) (by simp) ?_ | refine wpAnyIn_ready (rs := [1, 2]) (by decide +kernel) (by simp) ?_ | refine wpAnyIn_ready (rs := [0, 2]) (by decide +kernel) (by simp) ?_ | refine wpAnyIn_ready (rs := [0, 1]) (by decide +kernel) (by simp) ?_ | refine wpAnyIn_ready (rs := [2]) (by decide +kernel) (by simp) ?_ | refine wpAnyIn_ready (rs := [1]) (by decide +kernel) (by simp) ?_ | refine wpAnyIn_ready (rs := [0, 3]) (by decide +kernel) (by simp) ?_ | refine wpAnyIn_ready (rs := [3]) (by decide +kernel) (by simp) ?_ | refine wpAnyIn_ready (rs := [0, 4]) (by decide +kernel) (by simp) ?_ | refine wpAnyIn_ready (rs := [4]) (by decide +kernel) (by simp) ?_ | refine wpAnyIn_ready (rs := [0]) (by decide +kernel) (by simp) ?_)
    all_goals (repeat' (first | exact AllReadyIn.nil | refine AllReadyIn.cons rfl (fun K hK => ?_) ?_))
    all_goals (first | (go_simp; refine hK _ _ ?_; clear hK K) | (go_simp; refine ⟨trivial, ?_⟩; gi_at_call 28; refine (CallsIn.inRound l (HSP.out _)).mono ?_; rintro e w5 ⟨rfl, hb5⟩; have c5 := HK.out w5 hb5; have c6 := HK.out _ (hb5.alloc hb5.size (.cells #[.string sb] 9)); refine hK _ _ ?_; clear hK K))
    all_goals (first | refine wpAnyIn_ready (rs := [0, 1, 2]) (by decide +kernel) (by simp) ?_ | refine wpAnyIn_ready (rs := [1, 2]) (by decide +kernel) (by simp) ?_ | refine wpAnyIn_ready (rs := [0, 2]) (by decide +kernel) (by simp) ?_ | refine wpAnyIn_ready (rs := [0, 1]) (by decide +kernel) (by simp) ?_ | refine wpAnyIn_ready (rs := [2]) (by decide +kernel) (by simp) ?_ | refine wpAnyIn_ready (rs := [1]) (by decide +kernel) (by simp) ?_ | refine wpAnyIn_ready (rs := [0, 3]) (by decide +kernel) (by simp) ?_ | refine wpAnyIn_ready (rs := [3]) (by decide +kernel) (by simp) ?_ | refine wpAnyIn_ready (rs := [0, 4]) (by decide +kernel) (by simp) ?_ | refine wpAnyIn_ready (rs := [4]) (by decide +kernel) (by simp) ?_ | refine wpAnyIn_ready (rs := [0]) (by decide +kernel) (by simp) ?_)
    all_goals (repeat' (first | exact AllReadyIn.nil | refine AllReadyIn.cons rfl (fun K hK => ?_) ?_))
    all_goals (first | (go_simp; refine hK _ _ ?_; clear hK K) | (go_simp; refine ⟨trivial, ?_⟩; gi_at_call 28; refine (CallsIn.inRound l (HSP.out _)).mono ?_; rintro e w5 ⟨rfl, hb5⟩; have c5 := HK.out w5 hb5; have c6 := HK.out _ (hb5.alloc hb5.size (.cells #[.string sb] 9)); refine hK _ _ ?_; clear hK K))
    all_goals (first | refine wpAnyIn_ready (rs := [0, 1, 2]) (by decide +kernel) (by simp) ?_ | refine wpAnyIn_ready (rs := [1, 2]) (by decide +kernel) (by simp) ?_ | refine wpAnyIn_ready (rs := [0, 2]) (by decide +kernel) (by simp) ?_ | refine wpAnyIn_ready (rs := [0, 1]) (by decide +kernel) (by simp) ?_ | refine wpAnyIn_ready (rs := [2]) (by decide +kernel) (by simp) ?_ | refine wpAnyIn_ready (rs := [1]) (by decide +kernel) (by simp) ?_ | refine wpAnyIn_ready (rs := [0, 3]) (by decide +kernel) (by simp) ?_ | refine wpAnyIn_ready (rs := [3]) (by decide +kernel) (by simp) ?_ | refine wpAnyIn_ready (rs := [0, 4]) (by decide +kernel) (by simp) ?_ | refine wpAnyIn_ready (rs := [4]) (by decide +kernel) (by simp) ?_ | refine wpAnyIn_ready (rs := [0]) (by decide +kernel) (by simp) ?_)
    all_goals (repeat' (first | exact AllReadyIn.nil | refine AllReadyIn.cons rfl (fun K hK => ?_) ?_))
    all_goals (first | (go_simp; refine hK _ _ ?_; clear hK K) | (go_simp; refine ⟨trivial, ?_⟩; gi_at_call 28; refine (CallsIn.inRound l (HSP.out _)).mono ?_; rintro e w5 ⟨rfl, hb5⟩; have c5 := HK.out w5 hb5; have c6 := HK.out _ (hb5.alloc hb5.size (.cells #[.string sb] 9)); refine hK _ _ ?_; clear hK K))
    all_goals (refine wpAnyIn_ready (rs := [5]) (by kernel_rfl) (by simp) ?_)
    all_goals (repeat' (first | exact AllReadyIn.nil | refine AllReadyIn.cons rfl (fun K hK => ?_) ?_))
    all_goals (
      refine step_append_in (P := Tryd.prog) rfl (.tmp 13) (.tmp 17) 41 rfl (w.heap.size + 2) 9 i9 _ 1 16 Tryd.underlying41 hi hz0 hz1 hz2 rfl (by decide) v pre.length _ (by rfl) ((HRW.out w5 hb5).alloc _) ⟨w5.heap.size, 0, none⟩ 1 1 [Value.string sb] (by rfl) rfl (cells_one w5 _) (by simp [Value.oneCell']) (by unfold maxLen; omega) (by omega) (by have h1 := hb5.size; have h2 := HBs; have h3 : W.drew.heap.size = W.heap.size := rfl; simp; omega) ?_
      rintro v6 w6 how6 hg6 hat6
      obtain ⟨a6, n6, rfl⟩ := shapeS how6
      have b6 := box6 HBB.out hb5 hg6 HNE.out
      have cc6 := (cell_of_blk b6 0)
      have ff6 := free_of_blk b6 0
      have HR6 := Lib.hid (And.intro how6 hg6)
      clear how6 hg6 hat6
      refine hK _ _ ?_
      clear hK K)
    all_goals (refine wpAnyIn_ready (rs := [6]) (by kernel_rfl) (by simp) ?_)
    all_goals (repeat' (first | exact AllReadyIn.nil | refine AllReadyIn.cons rfl (fun K hK => ?_) ?_))
    all_goals (go_simp; refine hK _ _ ?_; clear hK K)
    all_goals refine wpAnyIn_done (by kernel_rfl) ?_ _
    all_goals (
      obtain ⟨how6, hg6⟩ := HR6.out
      have hfin := round_end bS1 bV HOW.out HB1.out hb5 how6 hg6
      simp only [Exit.inBlock]
      rw [show strsL (List.map spB pre) ++ [Value.string sb] = strsL (List.map spB (pre ++ [(x1, x2)])) from by rw [HSB.out]; simp [strsL]] at hfin
      have e : (pre ++ [(x1, x2)]).length = pre.length + 1 := by simp
      refine ⟨hfin.1, hfin.2.1, ?_⟩
      show ((∃ v, Boxed _ _ _ v ∧ World.ownsRow _ _ 9 1 v (pre ++ [(x1, x2)]).length (strsL (List.map spB (pre ++ [(x1, x2)]))) ∧ True) ∧ Boxed _ _ _ _) ∧ Below _ _ _
      rw [e]
      exact hfin.2.2)
  case done =>
    rintro D ys W hD hys ⟨⟨⟨v, bV, hown, _⟩, bS1⟩, hB1⟩ hK
    have hlen64 : s.data.toList.length = 64 := h64
    have hle : ys.length ≤ 64 := by rw [hys, h64]; exact (rs_le s.data.toList 64).1
    have hne : ys ≠ [] := by rw [hys, h64, rs_ends (xs := s.data.toList) (k := 63) (by rw [hlen64]; omega)]; simp
    have hsv : shortV s = strV (txt ys) := by unfold shortV; rw [if_pos h64, hys, h64]
    rcases hown.2 with ⟨rfl, h0⟩ | ⟨g, cap, cur, rfl, hbg, hgg, hcap, rest⟩
    · exact absurd (List.eq_nil_of_length_eq_zero h0) hne
    have cV := bV.cell
    have hgl := lt_of_block hgg
    have hlm : (ys.map spB).length = ys.length := by simp
    have htx : ((ys.map spB).map (·.data.toList)) = ys.map (fun r => spellL r.1.val r.2.val) := by rw [List.map_map]; rfl
    have hj := fun hcells => Tryd.strings_Join g 0 cap (ys.map spB) ⟨#[32]⟩ W hcells hgl (by rw [hlm]; omega) (by rw [hlm]; exact hcap) (by rw [htx]; have := txt_len ys; unfold txt at this; exact Nat.le_trans this (by omega))
    have hcl : ∀ (j : Nat) (x : ByteArray), (ys.map spB)[j]? = some x → W.cell? ⟨g, 0 + j, none⟩ = some (.string x) := fun j x hx => by
      have := hown.cells (g := g) rfl j (.string x) (by unfold strsL; rw [List.getElem?_map, hx]; rfl)
      rwa [Addr.add_none] at this
    have hJ := (callsIn_wide (n := 9)).2 (hj hcl)
    rw [hlm, htx] at hJ
    change CallsIn _ _ _ _ _ _ (fun e w' => e = .returned (strV (txt ys)) ∧ _) at hJ
    generalize strV (txt ys) = TV at *
    have HSV := Lib.hid hsv
    have hDl := lt_of_block hK
    have HJ := Lib.hid hJ
    have HK := Lib.hid hK
    have HB1 := Lib.hid hB1
    have HD := Lib.hid hD
    have HDL := Lib.hid hDl
    clear hJ hK hB1 hj hcl hsv hys hne hle hlen64 rest hcap hgg hbg hown bV bS1 hlm htx hD hDl hgl
    generalize ys.length = yl at *
    gi_wp2_with fail
    refine ⟨trivial, HJ.out.mono ?_⟩
    rintro e w9 ⟨rfl, hb⟩
    have hK2 : w9.heap[D]? = some (.deferred (some [])) := (hb.block D HDL.out).trans HK.out
    have HB2 := Lib.hid (HB1.out.trans (hb.mono HB1.out.size))
    have HK2 := Lib.hid hK2
    have HS := Lib.hid (Nat.le_trans HD.out (Nat.le_refl _))
    clear hb
    gi_wp2
    refine ⟨by simp, .inl ⟨_, _, rfl, run_takeDeferred HK2.out, ?_⟩⟩
    refine ⟨TV, ?_, by rw [HSV.out], HB2.out.trans (belowK_b (w := w) (Nat.le_refl _) w9 D _ _ (by have := HD.out; omega) HK2.out rfl rfl)⟩
    simp [results, Tryd.f19, go_sem]
  case stop =>
    rintro D c pre W hD _ h _
    exact h.elim

set_option maxHeartbeats 1000000 in
theorem short_any (s : ByteArray) (w : World) :
    Calls Tryd.prog 19 #[.string s] w fun e w' => e = .returned (shortV s) ∧ Below w.heap.size w w' := by
  by_cases h64 : s.size = 64
  · exact (callsIn_wide (n := 10)).1 (short_in s h64 w)
  · have hr := right_any s w
    have hd : decide (s.size = 64) = false := by simpa using h64
    have hv : shortV s = strV [] := if_neg h64
    rw [hv]
    rw [hd] at hr
    clear hd hv h64
    go_enter Tryd.func19, Tryd.ntmps19
    go_wp2_with fail
    refine hr.mono ?_
    rintro e w1 ⟨rfl, hw⟩
    obtain rfl := hw.symm
    clear hw hr
    go_wp2
    go_ret
    exact ⟨rfl, Below.refl _ _⟩

end Go.Proofs.YtgblhcikffecfaaDoor

/-
  Texts put together: Y9.
-/
import Derived.Test.YtojanhpilhledaaDoorMW2
import Derived.Test.YtojanhpilhledaaDoorMU
/-
  The document's Diff.
-/
namespace Go.Proofs.YtojanhpilhledaaDoor
open Go.RowKit
set_option linter.unusedVariables false
set_option linter.unusedSimpArgs false

/-- 'append(out, list...)': out the call's own, list any list of ints. -/
theorem wpList_append_li {P : Program} {w : World} {ops : Array Oper} {rest : List Oper} {o : Oper} {a : Act} {Q : Exit → Act → World → Prop} (hgd : o.guard = none) (s x : Operand) (t : TypeId)
    (ho : o.op = .call { callee := .builtin .append, args := #[s, x], argTypes := #[t, t] })
    (base : Nat) (i : TypeInfo) (ht : P.underlying t = some (.slice 3)) (hi : P.info? 3 = some i) (hz : i.zero = some (.int .i64 0)) (hsize : i.size = 1) (hby : i.bytes = 8)
    (v : Value) (n : Nat) (xs : List Int) (hs : a.eval s = v) (hown : w.ownsRow base 3 1 v n (ivs xs))
    (ac : Option Addr) (nc cc : Nat) (ks : List Int) (hx : a.eval x = .slice ac nc cc) (hri : Ri w ac nc cc ks) (hn : n + nc < 1000000) (hbase : base ≤ w.heap.size)
    (h : ∀ v' w', w'.ownsRow base 3 1 v' (n + nc) (ivs (xs ++ ks)) → w.grownBy w' v.ownBlock → (v'.ownBlock = v.ownBlock ∨ v'.ownBlock = some w.heap.size) → wpList P ops Q rest (a.put o.dst v') w') : wpList P ops Q (o :: rest) a w := by
  have hkl := hri.len
  rcases ac with _ | ad
  · have hcc := hri.nil rfl
    have hle := hri.le
    obtain rfl : nc = 0 := by omega
    obtain rfl : ks = [] := List.eq_nil_of_length_eq_zero hkl
    subst hcc
    refine wpList_append_own_none hgd s x t ho base 3 i 1 ht hi v n (ivs xs) hs hown hx ?_
    exact h v w (by simpa using hown) (World.grownBy.refl _ _) (.inl rfl)
  · have hsrc : ∀ (j : Nat) (u : Value), (ivs ks)[j]? = some u → w.cell? (ad.add j) = some u := fun j u hj => by
      have hjl : j < ks.length := by
        have := (List.getElem?_eq_some_iff.1 hj).1
        rwa [ivs_length] at this
      obtain ⟨b9, off9, he9, _, hc9⟩ := hri.at0 (by omega)
      cases he9
      rw [ivs_at _ _ hjl] at hj
      cases hj
      rw [Addr.add_noneG]
      exact hc9 j (by omega)
    refine wpList_append_own_at _ hgd s x t ho base 3 i (.int .i64 0) 1 8 ht hi hz hsize hby rfl (by omega) v n (ivs xs) hs hown ad nc cc (ivs ks) hx (by rw [ivs_length, Nat.mul_one]; exact hkl) hsrc (ivs_one _) (by unfold maxLen; omega) (by omega) hbase ?_
    intro v' w' h1 h2 _ h3
    exact h v' w' (by rw [ivs_append]; exact h1) h2 h3

/-- A level, the level below it as far as it is, what has been told: three rows of the call's own. -/
structure DR (w0 w : World) (s b o : Value) (lev bl ol : List Int) : Prop where
  rs : w.ownsRow w0.heap.size 3 1 s lev.length (ivs lev)
  rb : w.ownsRow w0.heap.size 3 1 b bl.length (ivs bl)
  ro : w.ownsRow w0.heap.size 3 1 o ol.length (ivs ol)
  sb : ∀ k, s.ownBlock = some k → b.ownBlock ≠ some k
  so : ∀ k, s.ownBlock = some k → o.ownBlock ≠ some k
  bo : ∀ k, b.ownBlock = some k → o.ownBlock ≠ some k
  b0 : Below w0.heap.size w0 w
theorem DR.below {w0 w w' : World} {s b o : Value} {lev bl ol : List Int} (h : DR w0 w s b o lev bl ol) (hb : Below w.heap.size w w') : DR w0 w' s b o lev bl ol where
  rs := owns_kept h.rs fun k hk => hb.block k (h.rs.lt k hk).2
  rb := owns_kept h.rb fun k hk => hb.block k (h.rb.lt k hk).2
  ro := owns_kept h.ro fun k hk => hb.block k (h.ro.lt k hk).2
  sb := h.sb
  so := h.so
  bo := h.bo
  b0 := h.b0.trans (hb.mono h.b0.size)
theorem DR.growO {w0 w w' : World} {s b o o' : Value} {lev bl ol ks : List Int} (h : DR w0 w s b o lev bl ol) (h1 : w'.ownsRow w0.heap.size 3 1 o' (ol.length + ks.length) (ivs (ol ++ ks))) (h2 : w.grownBy w' o.ownBlock) (h3 : o'.ownBlock = o.ownBlock ∨ o'.ownBlock = some w.heap.size) : DR w0 w' s b o' lev bl (ol ++ ks) where
  rs := owns_kept h.rs fun k hk => h2.block k (h.rs.lt k hk).2 (fun e => h.so k hk e.symm)
  rb := owns_kept h.rb fun k hk => h2.block k (h.rb.lt k hk).2 (fun e => h.bo k hk e.symm)
  ro := by rw [List.length_append]; exact h1
  sb := h.sb
  so := fun k hk e => by
    rcases h3 with h3 | h3
    · exact h.so k hk (h3 ▸ e)
    · rw [h3] at e; cases e; have := (h.rs.lt _ hk).2; omega
  bo := fun k hk e => by
    rcases h3 with h3 | h3
    · exact h.bo k hk (h3 ▸ e)
    · rw [h3] at e; cases e; have := (h.rb.lt _ hk).2; omega
  b0 := h.b0.grown h2 h.b0.size (fun j hj => (h.ro.lt j hj).1)
theorem DR.growB {w0 w w' : World} {s b o b' : Value} {lev bl ol ks : List Int} (h : DR w0 w s b o lev bl ol) (h1 : w'.ownsRow w0.heap.size 3 1 b' (bl.length + ks.length) (ivs (bl ++ ks))) (h2 : w.grownBy w' b.ownBlock) (h3 : b'.ownBlock = b.ownBlock ∨ b'.ownBlock = some w.heap.size) : DR w0 w' s b' o lev (bl ++ ks) ol where
  rs := owns_kept h.rs fun k hk => h2.block k (h.rs.lt k hk).2 (fun e => h.sb k hk e.symm)
  ro := owns_kept h.ro fun k hk => h2.block k (h.ro.lt k hk).2 (fun e => h.bo k e.symm hk)
  rb := by rw [List.length_append]; exact h1
  so := h.so
  sb := fun k hk e => by
    rcases h3 with h3 | h3
    · exact h.sb k hk (h3 ▸ e)
    · rw [h3] at e; cases e; have := (h.rs.lt _ hk).2; omega
  bo := fun k hk e => by
    rcases h3 with h3 | h3
    · exact h.bo k (h3 ▸ hk) e
    · rw [h3] at hk; cases hk; have := (h.ro.lt _ e).2; omega
  b0 := h.b0.grown h2 h.b0.size (fun j hj => (h.rb.lt j hj).1)
theorem DR.turn {w0 w : World} {s b o : Value} {lev bl ol : List Int} (h : DR w0 w s b o lev bl ol) : DR w0 w b (.slice none 0 0) o bl [] ol where
  rs := h.rb
  rb := World.ownsRow_nil _ _ _ _
  ro := h.ro
  sb := fun k _ e => by simp [Value.ownBlock] at e
  so := h.bo
  bo := fun k e => by simp [Value.ownBlock] at e
  b0 := h.b0

theorem lvs_len (nx lf : Int → List Int) : ∀ (d : Nat) (l : List Int), below_ nx d l = [] → l.length ≤ (lvs nx lf d l).2
  | 0, l, h => by
    have : l = [] := h
    subst this
    exact Nat.zero_le _
  | d + 1, l, _ => Nat.le_add_right _ _
theorem lvs_nil (nx lf : Int → List Int) : ∀ d, lvs nx lf d [] = ([], 0)
  | 0 => rfl
  | d + 1 => by
    show ([] ++ (lvs nx lf d []).1, 0 + (lvs nx lf d []).2) = _
    rw [lvs_nil nx lf d]
    rfl
theorem flat_take (g : Int → List Int) {l : List Int} {j : Nat} {x : Int} (h : j < l.length) (hx : l[j]?.getD 0 = x) : (l.take (j + 1)).flatMap g = (l.take j).flatMap g ++ g x := by
  have e : l[j]'h = x := by rw [List.getElem?_eq_getElem h] at hx; exact hx
  rw [List.take_add_one, List.flatMap_append, List.getElem?_eq_getElem h, e]
  simp
/-- What is left of the levels. -/
structure DV (N F C U : Int) (L O : List ByteArray) (d k : Nat) (lev ol : List Int) : Prop where
  fst : ol ++ (lvs (nxD N F C U L O) (lfD N L O) d lev).1 = (diffP N F C U L O).1
  snd : k + (lvs (nxD N F C U L O) (lfD N L O) d lev).2 = (diffP N F C U L O).2
  done : below_ (nxD N F C U L O) d lev = []
  rng : ∀ c ∈ lev, ∃ x : Nat, c = x ∧ x < nodes N F C U
theorem DV.start {N F C U : Int} {L O : List ByteArray} (h : okG N F C U) : DV N F C U L O (height N F C U + 1) 0 [((nodes N F C U - 1 : Nat) : Int)] [] where
  fst := rfl
  snd := Nat.zero_add _
  done := diff_end h
  rng := fun c hc => by
    have := nodes_ge h
    obtain rfl := List.mem_singleton.1 hc
    exact ⟨_, rfl, by omega⟩
theorem DV.next {N F C U : Int} {L O : List ByteArray} {d k : Nat} {lev ol : List Int} (h : DV N F C U L O d k lev ol) (h0 : 0 < lev.length) : ∃ d', DV N F C U L O d' (k + lev.length) (lev.flatMap (nxD N F C U L O)) (ol ++ lev.flatMap (lfD N L O)) := by
  rcases d with _ | d
  · have e : lev = [] := h.done
    rw [e] at h0
    simp at h0
  · have h1 := h.fst
    have h2 := h.snd
    rw [show lvs (nxD N F C U L O) (lfD N L O) (d + 1) lev = (lev.flatMap (lfD N L O) ++ (lvs (nxD N F C U L O) (lfD N L O) d (lev.flatMap (nxD N F C U L O))).1, lev.length + (lvs (nxD N F C U L O) (lfD N L O) d (lev.flatMap (nxD N F C U L O))).2) from rfl] at h1 h2
    refine ⟨d, by rw [List.append_assoc]; exact h1, by simp only at h2; omega, h.done, fun c hc => ?_⟩
    obtain ⟨y, hy, hc⟩ := List.mem_flatMap.1 hc
    obtain ⟨x, rfl, hx⟩ := h.rng y hy
    rcases nxD_cases (N := N) (F := F) (C := C) (U := U) (L := L) (O := O) (x : Int) with e | e
    · rw [e] at hc; cases hc
    · rw [e] at hc
      obtain ⟨j, hj, hl⟩ := children_mem hc
      exact ⟨j, hj, by omega⟩
theorem DV.small {N F C U : Int} {L O : List ByteArray} {d k : Nat} {lev ol : List Int} (h : DV N F C U L O d k lev ol) (hok : okG N F C U) : k + lev.length ≤ 21845 ∧ ol.length ≤ 21845 := by
  have h1 := lvs_len (nxD N F C U L O) (lfD N L O) d lev h.done
  have h2 := h.snd
  have h3 := diff_small (L := L) (O := O) hok
  have h4 := congrArg List.length h.fst
  have h5 := lvs_fst (nxD N F C U L O) (lfD N L O) (lfD_le N L O) (height N F C U + 1) [((nodes N F C U - 1 : Nat) : Int)]
  rw [List.length_append] at h4
  unfold diffP at h2 h3 h4
  omega
theorem take_flat_len (g : Int → List Int) (l : List Int) (j : Nat) : ((l.take j).flatMap g).length ≤ (l.flatMap g).length := by
  conv => rhs; rw [← List.take_append_drop j l]
  rw [List.flatMap_append, List.length_append]
  omega

theorem rdiff_nil (p : Nat) (w : World) :
    Calls Tryd.prog 27 #[.pointer (some ⟨p, 0, none⟩), .pointer none] w fun e w' => e = .returned (.tuple #[.slice none 0 0, .int .i64 0, .int .i64 1]) ∧ Below w.heap.size w w' := by
  go_enter Tryd.func27, Tryd.ntmps27
  go_wp2
  refine bodyPost_ret (by simp [results, Tryd.f27, go_sem]; try rfl) rfl ?_
  exact ⟨rfl, Below.refl _ _⟩

set_option maxRecDepth 20000 in
set_option maxHeartbeats 1000000 in
theorem rdiff_bad (B p B' q : Nat) (v v' : Value) (N F C U N' F' C' U' : Int) (L O : List ByteArray) (w : World) (h : RT w B p v N F C U L) (h' : RT w B' q v' N' F' C' U' O) (hb : N ≠ N' ∨ F ≠ F') :
    Calls Tryd.prog 27 #[.pointer (some ⟨p, 0, none⟩), .pointer (some ⟨q, 0, none⟩)] w
      fun e w' => e = .returned (.tuple #[.slice none 0 0, .int .i64 0, .int .i64 12]) ∧ Below w.heap.size w w' := by
  have c0 := h.cells.1
  have c1 := h.cells.2.1
  have d0 := h'.cells.1
  have d1 := h'.cells.2.1
  clear h h'
  by_cases hN : N = N'
  · subst hN
    have hF : F ≠ F' := hb.resolve_left (fun h => h rfl)
    have e1 : (F == F') = false := by simpa using hF
    have e2 : (F != F') = true := by simp [bne, e1]
    clear hb hF
    go_enter Tryd.func27, Tryd.ntmps27
    go_wp2
    go_quiet (fail)
    go_wp2
    refine bodyPost_ret (by simp [results, Tryd.f27, go_sem]; try rfl) rfl ?_
    exact ⟨rfl, below_drewN (Below.refl _ _) _⟩
  · have e1 : (N == N') = false := by simpa using hN
    have e2 : (N != N') = true := by simp [bne, e1]
    clear hb hN
    go_enter Tryd.func27, Tryd.ntmps27
    go_wp2
    go_quiet (fail)
    go_wp2
    refine bodyPost_ret (by simp [results, Tryd.f27, go_sem]; try rfl) rfl ?_
    exact ⟨rfl, below_drewN (Below.refl _ _) _⟩

set_option maxRecDepth 20000 in
set_option maxHeartbeats 4000000 in
theorem rdiff_ok (B p B' q : Nat) (v v' : Value) (N F C U C' U' : Int) (L O : List ByteArray) (w : World) (h : RT w B p v N F C U L) (h' : RT w B' q v' N F C' U' O)
    (hok : okG N F C U) (hL : L.length = nodes N F C U) (hO : O.length = nodes N F C U) :
    Calls Tryd.prog 27 #[.pointer (some ⟨p, 0, none⟩), .pointer (some ⟨q, 0, none⟩)] w
      fun e w' => ∃ sv, e = .returned (.tuple #[sv, .int .i64 ((diffP N F C U L O).2 : Int), .int .i64 0]) ∧ w'.ownsRow w.heap.size 3 1 sv (diffP N F C U L O).1.length (ivs (diffP N F C U L O).1) ∧ Below w.heap.size w w' := by
  have HI := Lib.hid (info_parts Tryd.info3)
  have hroot := fun w => rroot_any N F C U w
  have hchild := fun k w => rchildren_any N F C U k w
  unfold geo at hroot hchild
  have hpos := nodes_ge hok
  have hfree : ∀ w', Below w.heap.size w w' → RT w' B p v N F C U L ∧ RT w' B' q v' N F C' U' O := fun w' hf => ⟨h.below hf, h'.below hf⟩
  obtain ⟨ga, cv, rfl, hga1, hga2, hga3, hga4, hga5⟩ := h.shape (by omega)
  obtain ⟨gb, co, rfl, hgb1, hgb2, hgb3, hgb4, hgb5⟩ := h'.shape (by omega)
  obtain ⟨c0, c1, c2, c3, _, _⟩ := h.cells
  obtain ⟨d0, d1, _, _, _, _⟩ := h'.cells
  have HR := Lib.hid hroot
  have HC := Lib.hid hchild
  have HFREE := Lib.hid hfree
  have HOK := Lib.hid hok
  have HLEN := Lib.hid (And.intro hL (And.intro hO hpos))
  have HNUM := Lib.hid (And.intro hga4 (And.intro hga5 (And.intro hgb4 hgb5)))
  clear hroot hchild hfree hok hL hO hpos h h' hga1 hga2 hga3 hga4 hga5 hgb1 hgb2 hgb3 hgb4 hgb5
  go_enter Tryd.func27, Tryd.ntmps27
  have e1 : (N != N) = false := by simp
  have e2 : (F != F) = false := by simp
  go_wp2
  go_quiet (fail)
  go_wp2_with fail
  refine (HR.out _).mono ?_
  rintro e w1 ⟨rfl, hb0⟩
  have hbq : Below w.heap.size w (w.drewN nq) := below_drewN (Below.refl _ _) nq
  have hb : Below w.heap.size w w1 := hbq.trans (hb0.mono hbq.size)
  clear hb0 hbq
  have hDR : DR w (w1.alloc (.cells #[.int .i64 ((nodes N F C U - 1 : Nat) : Int)] 3)) (.slice (some ⟨w1.heap.size, 0, none⟩) 1 1) (.slice none 0 0) (.slice none 0 0) [((nodes N F C U - 1 : Nat) : Int)] [] [] :=
    ⟨one_owns _ _ _ hb.size, World.ownsRow_nil _ _ _ _, World.ownsRow_nil _ _ _ _, fun k _ e => by simp [Value.ownBlock] at e, fun k _ e => by simp [Value.ownBlock] at e, fun k e => by simp [Value.ownBlock] at e, hb.alloc hb.size _⟩
  have hDV := DV.start (L := L) (O := O) HOK.out
  have HDR := Lib.hid hDR
  have HDV := Lib.hid hDV
  clear hb hDR hDV HR c0 c1 c2 c3 d0 d1
  go_wp2_with fail
  go_loopw [7, 8, 9] (fun o lk s wr => ∃ (d k : Nat) (lev ol : List Int), lk = .int .i64 k ∧ DR w wr s (.slice none 0 0) o lev [] ol ∧ DV N F C U L O d k lev ol) (fun _ lk _ _ => 21846 - (intOf lk).toNat)
  case atStart => exact ⟨_, 0, _, _, rfl, HDR.out, HDV.out⟩
  case round =>
    clear HDR HDV
    obtain ⟨d, k, lev, ol, rfl, hDR, hDV⟩ := hrel
    obtain ⟨hs1, hs2⟩ := hDV.small HOK.out
    obtain ⟨sa, cs, rfl, his, hls⟩ := iowns_shape hDR.rs (by omega)
    clear hls
    have hcs : (cs : Int) ≤ 9223372036854775807 := by have := his.cm; unfold maxLen at this; omega
    by_cases hlt : 0 < lev.length
    · have j1 : (0 : Int) < (lev.length : Int) := by omega
      obtain ⟨d', hnx⟩ := hDV.next hlt
      have hs3 := (hnx.small HOK.out)
      have HD0 := Lib.hid hDR
      have HNX := Lib.hid hnx
      have HRG := Lib.hid hDV.rng
      have HS := Lib.hid (And.intro hs1 (And.intro hs2 hs3))
      have HLE := Lib.hid his.le
      clear hDR hDV hs1 hs2 hs3 hnx his
      go_wp2_with fail
      have hle := HLE.out
      have hkb : ((k : Nat) : Int) ≤ 21845 := by have := HS.out.1; omega
      go_loopw [7, 8, 10, 11] (fun o lk b i wr => ∃ j : Nat, j ≤ lev.length ∧ (∃ m : Nat, m = k + j ∧ lk = .int .i64 (m : Int)) ∧ i = .int .i64 (j : Int) ∧ DR w wr (.slice sa lev.length cs) b o lev ((lev.take j).flatMap (nxD N F C U L O)) (ol ++ (lev.take j).flatMap (lfD N L O))) (fun _ _ _ i _ => lev.length - (intOf i).toNat)
      case atStart => exact ⟨0, by omega, ⟨k, rfl, rfl⟩, rfl, by simpa using HD0.out⟩
      case round =>
        clear HD0
        obtain ⟨j, hj, ⟨m, hm, rfl⟩, rfl, hDR⟩ := hrel
        have hm2 : (m : Int) ≤ 43690 := by have := HS.out.1; omega
        have HM := Lib.hid hm
        clear hm
        by_cases hjl : j < lev.length
        · have x1 : (0 : Int) ≤ (j : Int) := by omega
          have x2 : (j : Int) < (lev.length : Int) := by omega
          obtain ⟨x, hx, hxl⟩ := HRG.out _ (List.getElem_mem hjl)
          have hx' : lev[j]?.getD 0 = (x : Int) := by rw [List.getElem?_eq_getElem hjl]; exact hx
          have hft1 := flat_take (nxD N F C U L O) hjl hx'
          have hft2 := flat_take (lfD N L O) hjl hx'
          have hb1 := take_flat_len (nxD N F C U L O) lev (j + 1)
          have hb2 := take_flat_len (lfD N L O) lev (j + 1)
          obtain ⟨al, cl, e9, hil, -⟩ := iowns_shape hDR.rs (by have := HS.out.1; omega)
          cases e9
          obtain ⟨b, off, rfl, hbl, hcc⟩ := hil.at0 (by omega)
          have e0 := hcc j hjl
          rw [hx'] at e0
          have hTd := (HFREE.out wr hDR.b0).1
          have hTd' := (HFREE.out wr hDR.b0).2
          have g4 := hTd.cells.2.2.2.2.1
          have k4 := hTd'.cells.2.2.2.2.1
          have e1 := hTd.at (g := ga) rfl (j := x) (by rw [HLEN.out.1]; exact hxl)
          have e2 := hTd'.at (g := gb) rfl (j := x) (by rw [HLEN.out.2.1]; exact hxl)
          have y0 : (0 : Int) ≤ (x : Int) := by omega
          have y1 : (x : Int) < (L.length : Int) := by rw [HLEN.out.1]; omega
          have y2 : (x : Int) < (O.length : Int) := by rw [HLEN.out.2.1]; omega
          have z1 := HNUM.out.1
          have z2 := HNUM.out.2.1
          have z3 := HNUM.out.2.2.1
          have z4 := HNUM.out.2.2.2
          have hnxe : nxD N F C U L O (x : Int) = if lAt L x = lAt O x then [] else children N F C U x := rfl
          have hlfe : lfD N L O (x : Int) = if lAt L x ≠ lAt O x ∧ (x : Int) < N then [(x : Int)] else [] := rfl
          obtain ⟨s1, hs1⟩ : ∃ z, z = lAt L x := ⟨_, rfl⟩
          obtain ⟨s2, hs2⟩ : ∃ z, z = lAt O x := ⟨_, rfl⟩
          rw [← hs1] at e1 hnxe hlfe
          rw [← hs2] at e2 hnxe hlfe
          have hgd := fun u v w => guard_txt .eql u v s1 s2 w
          obtain ⟨V1, hV1⟩ : ∃ V, V = Value.string s1 := ⟨_, rfl⟩
          obtain ⟨V2, hV2⟩ : ∃ V, V = Value.string s2 := ⟨_, rfl⟩
          rw [← hV1] at e1
          rw [← hV2] at e2
          simp only [← hV1, ← hV2] at hgd
          obtain ⟨bq, hbq⟩ : ∃ bq, bq = decide (s1 = s2) := ⟨_, rfl⟩
          have hq : ∀ w, (binOp .eql 9 V1 V2).run Tryd.prog w = .ok (.bool bq) w := fun w => by rw [hV1, hV2, eql_txt, hbq]
          have HBQ := Lib.hid (And.intro hbq (And.intro hnxe hlfe))
          have HFT := Lib.hid (And.intro hft1 hft2)
          have HLB := Lib.hid (And.intro hb1 hb2)
          have hwr : IntKind.i64.wrap ((m : Int) + 1) = (m : Int) + 1 := IntWalk.i64_in _ (by omega)
          obtain ⟨bl, hbl'⟩ : ∃ z, z = (lev.take j).flatMap (nxD N F C U L O) := ⟨_, rfl⟩
          obtain ⟨olj, hol'⟩ : ∃ z, z = ol ++ (lev.take j).flatMap (lfD N L O) := ⟨_, rfl⟩
          rw [← hbl', ← hol'] at hDR
          have HBL := Lib.hid (And.intro hbl' hol')
          clear hbl' hol'
          have HDI := Lib.hid (fun nq => hDR.below (below_drewN (Below.refl _ _) nq))
          obtain ⟨n2, hn2⟩ : ∃ k, k = L.length := ⟨_, rfl⟩
          obtain ⟨n3, hn3⟩ : ∃ k, k = O.length := ⟨_, rfl⟩
          rw [← hn2] at y1 z1 g4
          rw [← hn3] at y2 z3 k4
          have HNN := Lib.hid (And.intro hn2 hn3)
          have HXL := Lib.hid hxl
          clear hcc hTd hTd' hil hx hx' hs1 hs2 hbq hnxe hlfe hV1 hV2 hn2 hn3 hxl hft1 hft2 hb1 hb2 hDR hbl
          go_wp2
          go_quiet (fail)
          obtain ⟨wq, hwq⟩ : ∃ wq, wq = wr.drewN nq := ⟨_, rfl⟩
          have HDQ := Lib.hid (HDI.out nq)
          rw [← hwq] at HDQ ⊢
          clear hwq HDI e0 e1 e2 g4 k4 hq hgd y1 y2 z1 z2 z3 z4
          cases bq with
          | true =>
            have hst : s1 = s2 := of_decide_eq_true HBQ.out.1.symm
            have hnxe := HBQ.out.2.1
            have hlfe := HBQ.out.2.2
            rw [if_pos hst] at hnxe
            rw [if_neg (fun h => h.1 hst)] at hlfe
            have HE := Lib.hid (And.intro hnxe hlfe)
            clear hnxe hlfe hst HBQ
            go_wp2
            go_roundw
            case rel => exact ⟨j + 1, by omega, ⟨m + 1, by have := HM.out; omega, by go_num⟩, by go_num, by rw [HFT.out.1, HFT.out.2, HE.out.1, HE.out.2, List.append_nil, List.append_nil, ← HBL.out.1, ← HBL.out.2]; exact HDQ.out⟩
            case measure => simp [intOf]; omega
          | false =>
            have hst : ¬ s1 = s2 := of_decide_eq_false HBQ.out.1.symm
            have hnxe := HBQ.out.2.1
            have hlfe := HBQ.out.2.2
            rw [if_neg hst] at hnxe
            have hks := children_len N F C U (x : Int)
            have hch := HC.out (x : Int)
            have hlb := HLB.out
            rw [HFT.out.1, HFT.out.2, hnxe, List.length_append, List.length_append] at hlb
            obtain ⟨ks, hks'⟩ : ∃ ks, ks = children N F C U (x : Int) := ⟨_, rfl⟩
            rw [← hks'] at hks hch hnxe hlb
            have hl1 : bl.length ≤ 21845 := by rw [HBL.out.1]; have := HS.out; omega
            have hl2 : olj.length ≤ 21845 := by
              rw [HBL.out.2]
              have h5 := HS.out.2.2.2
              rw [List.length_append] at h5 ⊢
              have := hlb.2
              omega
            have HCH := Lib.hid hch
            have hfc := (HFREE.out wq HDQ.out.b0).1.cells.1
            clear hks' hch hlb
            by_cases hleaf : (x : Int) < N
            · rw [if_pos ⟨hst, hleaf⟩] at hlfe
              have HE := Lib.hid (And.intro hnxe hlfe)
              clear hnxe hlfe hst HBQ
              obtain ⟨i0, hi, hz0, hz1, hz2⟩ := HI.out
              obtain ⟨ao, co2, rfl, -, -⟩ := iowns_shape HDQ.out.ro (by omega)
              have hal : Below wq.heap.size wq (wq.alloc (.cells #[.int .i64 (x : Int)] 3)) := (Below.refl _ _).alloc (Nat.le_refl _) _
              have HDA := Lib.hid (HDQ.out.below hal)
              have HSA := Lib.hid HDA.out.b0.size
              clear hal
              go_wp2_with (at_builtin; refine wpList_append_ia (o := ⟨some 85, _, _, _, _, _⟩) rfl (.tmp 82) (.tmp 84) 46 rfl w.heap.size i0 Tryd.underlying46 hi hz0 hz1 hz2 _ _ _ rfl HDA.out.ro _ rfl rfl (by omega) HSA.out ?_)
              intro v4 w4 h1 h2 h3
              have HD2 := Lib.hid (HDA.out.growO (ks := [(x : Int)]) h1 h2 (by rw [World.size_alloc]; exact h3))
              obtain ⟨a4, c4, rfl, _, _, _⟩ := owns_shape1 h1
              clear h1 h2 h3 hfc
              clear hi hz0 hz1 hz2
              obtain ⟨i0, hi, hz0, hz1, hz2⟩ := HI.out
              obtain ⟨t0, t1, t2, t3, _, _⟩ := (HFREE.out _ HD2.out.b0).1.cells
              go_wp2_with fail
              refine (HCH.out _).mono ?_
              rintro e wc ⟨⟨vc, rfl, ac, nc, cc, rfl, hri, hrl⟩, hbc⟩
              have HDC := Lib.hid (HD2.out.below hbc)
              clear t0 t1 t2 t3 hrl hbc
              have hkl := hri.len
              have hcc : (cc : Int) ≤ 9223372036854775807 := by have := hri.cm; unfold maxLen at this; omega
              have HRI := Lib.hid hri
              have HSC := Lib.hid HDC.out.b0.size
              clear hri
              obtain ⟨ab, cb, rfl, -, -⟩ := iowns_shape HDC.out.rb (by omega)
              go_wp2_with (at_builtin; refine wpList_append_li (o := ⟨some 93, _, _, _, _, _⟩) rfl (.tmp 86) (.tmp 92) 46 rfl w.heap.size i0 Tryd.underlying46 hi hz0 hz1 hz2 _ _ _ rfl HDC.out.rb ac nc cc ks rfl HRI.out (by omega) HSC.out ?_)
              intro v5 w5 h1 h2 h3
              rw [← hkl] at h1
              have HDG := Lib.hid (HDC.out.growB h1 h2 h3)
              obtain ⟨a5, c5, rfl, _, _, _⟩ := owns_shape1 h1
              clear h1 h2 h3
              go_wp2
              go_roundw
              case rel => exact ⟨j + 1, by omega, ⟨m + 1, by have := HM.out; omega, by go_num⟩, by go_num, by rw [HFT.out.1, HFT.out.2, HE.out.1, HE.out.2, ← List.append_assoc, ← HBL.out.1, ← HBL.out.2]; exact HDG.out⟩
              case measure => simp [intOf]; omega
            · rw [if_neg (fun h => hleaf h.2)] at hlfe
              have HE := Lib.hid (And.intro hnxe hlfe)
              have HD2 := HDQ
              clear hnxe hlfe hst HBQ hfc
              have hfc := (HFREE.out wq HDQ.out.b0).1.cells.1
              go_upto_region 18 with fail
              clear hfc
              obtain ⟨i0, hi, hz0, hz1, hz2⟩ := HI.out
              obtain ⟨t0, t1, t2, t3, _, _⟩ := (HFREE.out _ HD2.out.b0).1.cells
              go_wp2_with fail
              refine (HCH.out _).mono ?_
              rintro e wc ⟨⟨vc, rfl, ac, nc, cc, rfl, hri, hrl⟩, hbc⟩
              have HDC := Lib.hid (HD2.out.below hbc)
              clear t0 t1 t2 t3 hrl hbc
              have hkl := hri.len
              have hcc : (cc : Int) ≤ 9223372036854775807 := by have := hri.cm; unfold maxLen at this; omega
              have HRI := Lib.hid hri
              have HSC := Lib.hid HDC.out.b0.size
              clear hri
              obtain ⟨ab, cb, rfl, -, -⟩ := iowns_shape HDC.out.rb (by omega)
              go_wp2_with (at_builtin; refine wpList_append_li (o := ⟨some 93, _, _, _, _, _⟩) rfl (.tmp 86) (.tmp 92) 46 rfl w.heap.size i0 Tryd.underlying46 hi hz0 hz1 hz2 _ _ _ rfl HDC.out.rb ac nc cc ks rfl HRI.out (by omega) HSC.out ?_)
              intro v5 w5 h1 h2 h3
              rw [← hkl] at h1
              have HDG := Lib.hid (HDC.out.growB h1 h2 h3)
              obtain ⟨a5, c5, rfl, _, _, _⟩ := owns_shape1 h1
              clear h1 h2 h3
              go_wp2
              go_roundw
              case rel => exact ⟨j + 1, by omega, ⟨m + 1, by have := HM.out; omega, by go_num⟩, by go_num, by rw [HFT.out.1, HFT.out.2, HE.out.1, HE.out.2, List.append_nil, ← HBL.out.1, ← HBL.out.2]; exact HDG.out⟩
              case measure => simp [intOf]; omega
        · obtain rfl : j = lev.length := by omega
          have i1 : ¬ ((lev.length : Int) < (lev.length : Int)) := by omega
          rw [List.take_length] at hDR
          have HDT := Lib.hid hDR.turn
          clear hDR
          go_wp2
          go_roundw
          case rel => exact ⟨_, k + lev.length, _, _, by rw [HM.out], HDT.out, HNX.out⟩
          case measure => simp [intOf]; have := HS.out.1; have := HM.out; omega
    · have hl0 : lev = [] := List.eq_nil_of_length_eq_zero (by omega)
      have j1 : ¬ (0 : Int) < (lev.length : Int) := by omega
      have hf := hDV.fst
      have hs := hDV.snd
      rw [hl0, lvs_nil] at hf hs
      simp only [List.append_nil, Nat.add_zero] at hf hs
      have HX := Lib.hid hDR.ro
      have HB := Lib.hid hDR.b0
      have HF := Lib.hid (And.intro hf hs)
      have HK := Lib.hid hs
      clear hDR hDV hf hs his hl0
      go_wp2
      refine bodyPost_ret (by simp [results, Tryd.f27, go_sem]; try rfl) rfl ?_
      rw [← HF.out.1, ← HF.out.2]
      exact ⟨_, rfl, HX.out, HB.out⟩
end Go.Proofs.YtojanhpilhledaaDoor

/-
  Pasts: rows of texts; append onto a row of the call's own or onto a full one; the model of a past, and how its lists lie in memory.
-/
import Derived.Test.YthapcpfemmfhoaaE1
import Derived.Deep.RegionLaw
import Derived.Deep.RegionLawGrows
import Derived.Deep.RegionHeldLaw
import Derived.Deep.RegionHeld3
import Derived.Maps.AppendAt
import Derived.ArgAppend
import Derived.Laws.CopyOwn
import Derived.RegionTactic
import Derived.BigRegion
import Derived.BigQuiet
import Derived.IntWalk
import Derived.Lib.MinMax
namespace Go.Proofs.Ythapcpfemmfhoaa
namespace Ap
open Go.RowKit
set_option linter.unusedVariables false
set_option linter.unusedSimpArgs false


/-- The slice value reads as the texts L. -/
structure Rs (w : World) (a : Option Addr) (n cap : Nat) (L : List ByteArray) : Prop where
  len : L.length = n
  le : n ≤ cap
  cm : cap ≤ maxLen
  at0 : 0 < n → ∃ b off, a = some ⟨b, off, none⟩ ∧ b < w.heap.size ∧ ∀ i, i < n → w.cell? ⟨b, off + i, none⟩ = some (.string (lAt L i))

theorem Rs.later {w w' : World} {a : Option Addr} {n cap : Nat} {L : List ByteArray} (h : Rs w a n cap L) (hb : Below w.heap.size w w') : Rs w' a n cap L where
  len := h.len
  le := h.le
  cm := h.cm
  at0 := fun h0 => by
    obtain ⟨b, off, ha, hlt, hc⟩ := h.at0 h0
    exact ⟨b, off, ha, Nat.lt_of_lt_of_le hlt hb.size, fun i hi => by rw [hb.cell (by exact hlt)]; exact hc i hi⟩

theorem rs_nil (w : World) : Rs w none 0 0 [] := ⟨rfl, Nat.le_refl _, by unfold maxLen; omega, fun h => by omega⟩

theorem towns_shape {w : World} {B n : Nat} {v : Value} {L : List ByteArray} (h : w.ownsRow B 9 1 v n (strs L)) :
    ∃ a c, v = .slice a n c ∧ Rs w a n c L ∧ ∀ b off sp, a = some ⟨b, off, sp⟩ → B ≤ b ∧ v.ownBlock = some b ∧ off = 0 := by
  have H := h
  have hl : L.length = n := by have := h.1; simpa [strs_length] using this
  obtain ⟨_, h2⟩ := h
  rcases h2 with ⟨rfl, rfl⟩ | ⟨g, cap, cur, rfl, hB, hh, hle, hm, _, _⟩
  · exact ⟨none, 0, rfl, ⟨hl, Nat.le_refl _, by unfold maxLen; omega, fun h => by omega⟩, fun _ _ _ e => by cases e⟩
  · have hlt := (H.lt g rfl).2
    refine ⟨_, _, rfl, ⟨hl, hle, hm, fun _ => ⟨g, 0, rfl, hlt, fun i hi => ?_⟩⟩, fun b off sp e => by cases e; exact ⟨hB, rfl, rfl⟩⟩
    rw [Nat.zero_add]
    have := World.ownsRow.cellAt H i (by omega)
    rw [this, strs_at (by omega)]

theorem one_scell (w : World) (s : ByteArray) : ∀ (j : Nat) (u : Value), (strs [s])[j]? = some u → (w.alloc (.cells #[.string s] 9)).cell? ((⟨w.heap.size, 0, none⟩ : Addr).add j) = some u := by
  intro j u hj
  rw [Addr.add_none, cell_of_blk (heap_alloc_new w _), Nat.zero_add]
  simpa [strs] using hj

theorem tstrs_append (L M) : strs (L ++ M) = strs L ++ strs M := by simp [strs]


theorem owns_src {w : World} {B e size n : Nat} {xs : List Value} {g c : Nat} (h : w.ownsRow B e size (.slice (some ⟨g, 0, none⟩) n c) n xs) (o : Obj) :
    ∀ (j : Nat) (u : Value), xs[j]? = some u → (w.alloc o).cell? ((⟨g, 0, none⟩ : Addr).add j) = some u := fun j u hj => by
  have h1 := h.cells (g := g) rfl j u hj
  have hl := (h.lt g rfl).2
  rw [Addr.add_none] at h1 ⊢
  rw [World.cell?_of_block (w := w) (Below.heap_alloc _ _ _ hl)]; exact h1

theorem owns_shape2 {w : World} {B n : Nat} {v : Value} {e size : Nat} {xs : List Value} (h : w.ownsRow B e size v n xs) : (v = .slice none 0 0 ∧ n = 0 ∧ xs = []) ∨ ∃ g c, v = .slice (some ⟨g, 0, none⟩) n c := by
  obtain ⟨h1, h2⟩ := h
  rcases h2 with ⟨rfl, rfl⟩ | ⟨g, cap, cur, rfl, hB, hh, hle, hm, _, _⟩
  · exact .inl ⟨rfl, rfl, List.eq_nil_of_length_eq_zero (by simpa using h1)⟩
  · exact .inr ⟨g, cap, rfl⟩

set_option maxRecDepth 20000 in
set_option maxHeartbeats 1000000 in
theorem clone_strs (B : Nat) (v : Value) (n : Nat) (L : List ByteArray) (w : World) (h : w.ownsRow B 9 1 v n (strs L)) (hn : n ≤ 1000000) :
    Calls Try.prog 38 #[v] w fun e w' => ∃ v', e = .returned v' ∧ w'.ownsRow w.heap.size 9 1 v' n (strs L) ∧ Below w.heap.size w w' := by
  have q22 : ∀ (w : World) (a : Option Addr) (n c n' c' : Nat), (binOp .eql 22 (.slice a n c) (.slice none n' c')).run Try.prog w = .ok (.bool a.isNone) w := fun w a n c n' c' => Lib.run_eql_slice_nil w _ _ a n c n' c' Try.underlying22
  rcases owns_shape2 h with ⟨rfl, rfl, he⟩ | ⟨g, c, rfl⟩
  · rw [he]
    go_enter Try.func38, Try.ntmps38
    go_wp2
    go_ret
    exact ⟨_, rfl, World.ownsRow_nil _ _ _ _, Below.refl _ _⟩
  · obtain ⟨i0, hi, hz0, hz1, hz2⟩ := info_parts Try.info9
    have hsrc := owns_src h (.cells #[] 9)
    have hl : (strs L).length = n * 1 := h.1
    have HS := Lib.hid hsrc
    have HL := Lib.hid hl
    clear h hsrc hl
    go_enter Try.func38, Try.ntmps38
    go_wp2_with (at_builtin; refine wpList_append_own _ (o := ⟨some 7, _, _, _, _, _⟩) rfl (.tmp 5) (.tmp 6) 22 rfl w.heap.size 9 i0 _ 1 16 Try.underlying22 hi hz0 hz1 hz2 rfl (by omega) _ _ _ rfl (World.ownsRow_made w #[] 0 (Nat.le_refl _) (Nat.zero_le _) (by simp)) ⟨g, 0, none⟩ n c (strs L) rfl HL.out HS.out (strs_one _) (by unfold maxLen; omega) (by omega) (by simp) ?_)
    intro v' w1 hown hgrow _
    go_wp2
    go_ret
    exact ⟨_, rfl, by simpa using hown, ((Below.refl _ w).alloc (Nat.le_refl _) _).grown hgrow (by simp) (by intro k hk; simp [Value.ownBlock] at hk; omega)⟩

theorem owns_low {w : World} {B B' e size n : Nat} {v : Value} {xs : List Value} (h : w.ownsRow B e size v n xs) (hl : B' ≤ B) : w.ownsRow B' e size v n xs := by
  refine ⟨h.1, ?_⟩
  rcases h.2 with hn | ⟨g, cap, cur, rfl, hb, rest⟩
  · exact .inl hn
  · exact .inr ⟨g, cap, cur, rfl, by omega, rest⟩


theorem guard_txt (op : BinOp) (x y : Operand) (u s : ByteArray) (w : World) : Sem.run Try.prog (eqGuard op 9 x y (.string u) (.string s)) w = .ok () w := by
  unfold eqGuard
  cases op <;> rfl

theorem neq_txt (u s : ByteArray) (w : World) : (binOp .neq 9 (.string u) (.string s)).run Try.prog w = .ok (.bool (!decide (u = s))) w := by
  obtain ⟨xs, rfl⟩ : ∃ xs : List UInt8, u = ⟨xs.toArray⟩ := ⟨u.data.toList, by cases u; simp⟩
  obtain ⟨ys, rfl⟩ : ∃ xs : List UInt8, s = ⟨xs.toArray⟩ := ⟨s.data.toList, by cases s; simp⟩
  go_simp
  by_cases h : xs = ys <;> simp [h]

theorem eql_txt (u s : ByteArray) (w : World) : (binOp .eql 9 (.string u) (.string s)).run Try.prog w = .ok (.bool (decide (u = s))) w := by
  obtain ⟨xs, rfl⟩ : ∃ xs : List UInt8, u = ⟨xs.toArray⟩ := ⟨u.data.toList, by cases u; simp⟩
  obtain ⟨ys, rfl⟩ : ∃ xs : List UInt8, s = ⟨xs.toArray⟩ := ⟨s.data.toList, by cases s; simp⟩
  go_simp
  by_cases h : xs = ys <;> simp [h]

theorem slist_ext {L M : List ByteArray} (hl : L.length = M.length) (h : ∀ i, i < L.length → lAt L i = lAt M i) : L = M := by
  refine List.ext_getElem hl fun i h1 h2 => ?_
  have := h i h1
  unfold lAt at this
  rw [List.getElem?_eq_getElem h1, List.getElem?_eq_getElem h2] at this
  exact this

set_option maxRecDepth 20000 in
set_option maxHeartbeats 2000000 in
theorem rtexts_any (a b : Option Addr) (n m ca cb : Nat) (L M : List ByteArray) (w : World) (hL : Rs w a n ca L) (hM : Rs w b m cb M) :
    Calls Try.prog 24 #[.slice a n ca, .slice b m cb] w fun e w' => e = .returned (.bool (decide (L = M))) ∧ Below w.heap.size w w' := by
  have hca : (ca : Int) ≤ 9223372036854775807 := by have := hL.cm; unfold maxLen at this; omega
  have hcb : (cb : Int) ≤ 9223372036854775807 := by have := hM.cm; unfold maxLen at this; omega
  have hLl := hL.len
  have hMl := hM.len
  have hna := hL.le
  have hnb := hM.le
  have HL := Lib.hid hL
  have HM := Lib.hid hM
  clear hL hM
  by_cases hnm : n = m
  · subst hnm
    go_enter Try.func24, Try.ntmps24
    go_wp2
    go_loopw [5] (fun i wr => ∃ k : Nat, k ≤ n ∧ i = .int .i64 k ∧ (∀ j, j < k → lAt L j = lAt M j) ∧ Below w.heap.size w wr) (fun i _ => n - (intOf i).toNat)
    case atStart => exact ⟨0, by omega, rfl, fun j hj => by omega, Below.refl _ _⟩
    case round =>
      obtain ⟨k, hk, rfl, hall, hB⟩ := hrel
      have HALL := Lib.hid hall
      clear hall
      by_cases hlt : k < n
      · have i0 : (0 : Int) ≤ (k : Int) := by omega
        have i1 : (k : Int) < (n : Int) := by omega
        obtain ⟨b1, o1, rfl, _, hc1⟩ := (HL.out.later hB.drew).at0 (by omega)
        obtain ⟨b2, o2, rfl, _, hc2⟩ := (HM.out.later hB.drew).at0 (by omega)
        have e1 := hc1 k hlt
        have e2 := hc2 k hlt
        obtain ⟨s, hs⟩ : ∃ s, s = lAt L k := ⟨_, rfl⟩
        obtain ⟨t, ht⟩ : ∃ t, t = lAt M k := ⟨_, rfl⟩
        rw [← hs] at e1
        rw [← ht] at e2
        have hgd := fun x y w => guard_txt .neq x y s t w
        obtain ⟨V1, hV1⟩ : ∃ V, V = Value.string s := ⟨_, rfl⟩
        obtain ⟨V2, hV2⟩ : ∃ V, V = Value.string t := ⟨_, rfl⟩
        rw [← hV1] at e1
        rw [← hV2] at e2
        simp only [← hV1, ← hV2] at hgd
        have HB := Lib.hid hB.drew
        clear hc1 hc2 hB
        by_cases hst : s = t
        · have hq : ∀ w, (binOp .neq 9 V1 V2).run Try.prog w = .ok (.bool false) w := fun w => by rw [hV1, hV2, neq_txt, decide_eq_true hst]; rfl
          have HX := Lib.hid (show ∀ j, j < k + 1 → lAt L j = lAt M j from fun j hj => by
            rcases Nat.lt_or_ge j k with h | h
            · exact HALL.out j h
            · obtain rfl : j = k := by omega
              rw [← hs, ← ht]; exact hst)
          clear hs ht hst hV1 hV2
          go_wp2_with fail
          go_region
          go_wp2
          go_roundw
          case rel => exact ⟨k + 1, by omega, by go_num, HX.out, HB.out⟩
          case measure => simp [intOf]; omega
        · have hq : ∀ w, (binOp .neq 9 V1 V2).run Try.prog w = .ok (.bool true) w := fun w => by rw [hV1, hV2, neq_txt, decide_eq_false hst]; rfl
          have HNE := Lib.hid (show ¬ L = M from fun e => hst (by rw [hs, ht, e]))
          clear hs ht hst hV1 hV2
          go_wp2_with fail
          go_region
          go_wp2
          go_ret
          exact ⟨by rw [decide_eq_false HNE.out]; rfl, HB.out⟩
      · obtain rfl : k = n := by omega
        have HE := Lib.hid (show L = M from slist_ext (by omega) (fun i hi => HALL.out i (by omega)))
        have i1 : ¬ (k : Int) < (k : Int) := by omega
        have HB := Lib.hid hB
        clear hB
        go_wp2
        go_ret
        exact ⟨by rw [decide_eq_true HE.out]; rfl, HB.out⟩
  · have h1 : ((n : Int) == (m : Int)) = false := by simp; omega
    have h2 : ((n : Int) != (m : Int)) = true := by simp; omega
    have HNE := Lib.hid (show ¬ L = M from fun e => hnm (by rw [← hLl, ← hMl, e]))
    go_enter Try.func24, Try.ntmps24
    go_wp2
    go_ret
    exact ⟨by rw [decide_eq_false HNE.out]; rfl, Below.refl _ _⟩


/-- append onto a row of the call's own, as one step of a region that draws. -/
theorem step_append_at {P : Program} {w : World} {ops : Array Oper} {o : Oper} {a : Act} {K : Act → World → Prop} {Q : Exit → Act → World → Prop} {E : Prop} (hgd : o.guard = none) (s x : Operand) (t : TypeId)
    (ho : o.op = .call { callee := .builtin .append, args := #[s, x], argTypes := #[t, t] }) (base : Nat) (e : TypeId) (i : TypeInfo) (z : Value) (size bytes : Nat) (ht : P.underlying t = some (.slice e)) (hi : P.info? e = some i) (hz : i.zero = some z) (hsize : i.size = size) (hby : i.bytes = bytes) (hzs : z.cells.size = size) (hsz : 0 < size)
    (v : Value) (n : Nat) (xs : List Value) (hs : a.eval s = v) (hown : w.ownsRow base e size v n xs) (ad : Addr) (m c : Nat) (news : List Value) (hx : a.eval x = .slice (some ad) m c) (hl : news.length = m * size)
    (hnews : ∀ j u, news[j]? = some u → w.cell? (ad.add j) = some u) (h1 : ∀ u ∈ news, u.oneCell' = true) (h63 : n + m ≤ maxLen) (hbytes : (n + m) * bytes ≤ 140737488355328) (hbase : base ≤ w.heap.size)
    (h : ∀ v' w', w'.ownsRow base e size v' (n + m) (xs ++ news) → w.grownBy w' v.ownBlock → (v'.ownBlock = v.ownBlock ∨ v'.ownBlock = some w.heap.size) → K (a.put o.dst v') w') :
    if Region.wanted o (yielded ops a.tmps) = true then Oper.wp P o a w K Q else E := by
  have hw : Region.wanted o (yielded ops a.tmps) = true := by simp [Region.wanted, hgd]
  rw [if_pos hw]
  obtain ⟨v', w', hr, h2, h3, h4, h5⟩ := run_append_own_at (P := P) w base t o.type e i z size bytes ht hi hz hsize hby hzs hsz v n xs hown ad m c news hl hnews h1 h63 hbytes hbase
  unfold Oper.wp execOp
  simp only [ho, resolve, invoke, builtin, Sem.run_bind, Sem.run_pure, Result.andThen_ok, List.map_toArray, List.map_cons, List.map_nil, hs, hx, hr]
  exact h v' w' h2 h3 h5

/-- A list of texts that a sector may have: a slice of a block of its own, which is full or begins at the block's first cell. -/
structure LV (w : World) (v : Value) (L : List ByteArray) : Prop where
  sh : ∃ b off c cs, v = .slice (some ⟨b, off, none⟩) L.length c ∧ L.length ≤ c ∧ c ≤ maxLen ∧ w.heap[b]? = some (.cells cs 9 (0, 0)) ∧ ∀ i, i < L.length → cs[off + i]? = some (.string (lAt L i))
  own : (∃ a n, v = .slice a n n) ∨ w.ownsRow 0 9 1 v L.length (strs L)

theorem LV.blk {w v L} (h : LV w v L) : ∃ b cs, v.ownBlock = some b ∧ w.heap[b]? = some (.cells cs 9 (0, 0)) ∧ b < w.heap.size := by
  obtain ⟨b, off, c, cs, rfl, _, _, hb, _⟩ := h.sh
  exact ⟨b, cs, rfl, hb, lt_of_block hb⟩

theorem LV.kept {w w' : World} {v L} (h : LV w v L) (hk : ∀ k, v.ownBlock = some k → w'.heap[k]? = w.heap[k]?) : LV w' v L := by
  obtain ⟨b, off, c, cs, e, h1, h2, hb, h3⟩ := h.sh
  have hkb := hk b (by rw [e]; rfl)
  exact ⟨⟨b, off, c, cs, e, h1, h2, by rw [hkb]; exact hb, h3⟩, h.own.imp id fun o => owns_kept o hk⟩

theorem LV.rs {w v L} (h : LV w v L) : ∃ b off c, v = .slice (some ⟨b, off, none⟩) L.length c ∧ Rs w (some ⟨b, off, none⟩) L.length c L := by
  obtain ⟨b, off, c, cs, e, h1, h2, hb, h3⟩ := h.sh
  exact ⟨b, off, c, e, rfl, h1, h2, fun _ => ⟨b, off, rfl, lt_of_block hb, fun i hi => by rw [cell_of_blk hb]; exact h3 i hi⟩⟩

theorem lv_of_owns {w : World} {B n : Nat} {v : Value} {L : List ByteArray} (h : w.ownsRow B 9 1 v n (strs L)) (h0 : 0 < n) : LV w v L := by
  have hl : L.length = n := by have := h.1; simpa [strs_length] using this
  have H := h
  subst hl
  rcases h.2 with ⟨rfl, hn⟩ | ⟨g, cap, cur, rfl, hB, hh, hle, hm, hcs, ht⟩
  · omega
  · refine ⟨⟨g, 0, cap, cur, rfl, hle, hm, hh, fun i hi => ?_⟩, .inr (owns_low H (Nat.zero_le _))⟩
    have h1 : (cur.toList.take (L.length * 1))[i]? = some (.string (lAt L i)) := by rw [ht, strs_at hi]
    rw [List.getElem?_take_of_lt (by omega)] at h1
    rw [Nat.zero_add]
    simpa using h1

/-- A text alone, in a new block. -/
theorem lv_one (w : World) (s : ByteArray) : LV (w.alloc (.cells #[.string s] 9)) (.slice (some ⟨w.heap.size, 0, none⟩) 1 1) [s] :=
  ⟨⟨w.heap.size, 0, 1, _, rfl, Nat.le_refl _, by unfold maxLen; omega, heap_alloc_new w _, fun i hi => by
    have : i = 0 := by simpa using hi
    subst this; rfl⟩, .inl ⟨_, _, rfl⟩⟩

/-- One text of a list, cut out with no room behind. -/
theorem LV.only {w v L} (h : LV w v L) {k : Nat} (hk : k < L.length) : ∃ b off c, v = .slice (some ⟨b, off, none⟩) L.length c ∧ L.length ≤ c ∧ LV w (.slice (some ⟨b, off + k, none⟩) 1 1) [lAt L k] := by
  obtain ⟨b, off, c, cs, e, h1, h2, hb, h3⟩ := h.sh
  refine ⟨b, off, c, e, h1, ⟨b, off + k, 1, cs, rfl, Nat.le_refl _, by unfold maxLen; omega, hb, fun i hi => ?_⟩, .inl ⟨_, _, rfl⟩⟩
  have : i = 0 := by simpa using hi
  subst this
  exact h3 k hk

set_option maxHeartbeats 1000000 in
theorem run_append_lv {w : World} {ty : TypeId} {v : Value} {L : List ByteArray} (h : LV w v L) (h1 : L.length < 1000000) (s : ByteArray) (g c : Nat) (hs : w.cell? ⟨g, 0, none⟩ = some (.string s)) :
    ∃ v' w', (Builtin.append_ #[22, 22] ty #[v, .slice (some ⟨g, 0, none⟩) 1 c]).run Try.prog w = .ok v' w' ∧ w'.ownsRow 0 9 1 v' (L.length + 1) (strs (L ++ [s])) ∧ w.grownBy w' v.ownBlock ∧ ∀ k, v'.ownBlock = some k → v.ownBlock = some k ∨ w.heap.size ≤ k := by
  obtain ⟨i0, hi, hz0, hz1, hz2⟩ := info_parts Try.info9
  have hn : ∀ (j : Nat) (u : Value), (strs [s])[j]? = some u → w.cell? ((⟨g, 0, none⟩ : Addr).add j) = some u := by
    intro j u hj
    match j, hj with
    | 0, hj =>
      simp [strs] at hj; subst hj
      rw [Addr.add_none]; exact hs
  rw [tstrs_append]
  rcases h.own with ⟨a, n, e⟩ | ho
  · obtain ⟨b, off, cc, cs, e2, _, _, hb, h3⟩ := h.sh
    rw [e2] at e
    have e3 : cc = L.length := by simp at e; omega
    subst e3
    subst e2
    have hold : ∀ (j : Nat) (u : Value), (strs L)[j]? = some u → w.cell? ((⟨b, off, none⟩ : Addr).add j) = some u := fun j u hj => by
      rw [Addr.add_none, cell_of_blk hb]
      have hj' : j < L.length := by
        have := (List.getElem?_eq_some_iff.mp hj).1
        rwa [strs_length] at this
      rw [strs_at hj'] at hj
      cases hj
      exact h3 j hj'
    obtain ⟨v', w', hr, how, hg⟩ := run_append_arg_grows (P := Try.prog) w 22 ty 9 i0 _ 1 16 Try.underlying22 hi hz0 hz1 hz2 rfl (by omega) ⟨b, off, none⟩ L.length L.length (strs L) (by rw [strs_length]; omega) hold ⟨g, 0, none⟩ 1 c (strs [s]) rfl hn (by omega) (by unfold maxLen; omega) (by omega)
    refine ⟨v', w', hr, owns_low how (Nat.zero_le _), ⟨hg.os, hg.tape, hg.output, hg.size, fun k hk _ => hg.block k hk (by simp)⟩, fun k hk => .inr ?_⟩
    have := how.lt k hk
    exact this.1
  · obtain ⟨v', w', hr, how, hg, _, hat⟩ := run_append_own_at (P := Try.prog) w 0 22 ty 9 i0 _ 1 16 Try.underlying22 hi hz0 hz1 hz2 rfl (by omega) v L.length (strs L) ho ⟨g, 0, none⟩ 1 c (strs [s]) rfl hn (strs_one _) (by unfold maxLen; omega) (by omega) (Nat.zero_le _)
    refine ⟨v', w', hr, how, hg, fun k hk => ?_⟩
    rcases hat with h5 | h5
    · exact .inl (h5 ▸ hk)
    · rw [h5] at hk; simp at hk; exact .inr (by omega)

/-- append of a text onto such a list, as one step of a region that draws. -/
theorem step_append_lv {w : World} {ops : Array Oper} {o : Oper} {a : Act} {K : Act → World → Prop} {Q : Exit → Act → World → Prop} {E : Prop} (hgd : o.guard = none) (s x : Operand)
    (ho : o.op = .call { callee := .builtin .append, args := #[s, x], argTypes := #[22, 22] }) (v : Value) (L : List ByteArray) (hs : a.eval s = v) (h : LV w v L) (h1 : L.length < 1000000)
    (d : ByteArray) (g c : Nat) (hx : a.eval x = .slice (some ⟨g, 0, none⟩) 1 c) (hd : w.cell? ⟨g, 0, none⟩ = some (.string d))
    (hK : ∀ v' w', w'.ownsRow 0 9 1 v' (L.length + 1) (strs (L ++ [d])) → w.grownBy w' v.ownBlock → (∀ k, v'.ownBlock = some k → v.ownBlock = some k ∨ w.heap.size ≤ k) → K (a.put o.dst v') w') :
    if Region.wanted o (yielded ops a.tmps) = true then Oper.wp Try.prog o a w K Q else E := by
  have hw : Region.wanted o (yielded ops a.tmps) = true := by simp [Region.wanted, hgd]
  rw [if_pos hw]
  obtain ⟨v', w', hr, h2, h3, h5⟩ := run_append_lv (ty := o.type) h h1 d g c hd
  unfold Oper.wp execOp
  simp only [ho, resolve, invoke, builtin, Sem.run_bind, Sem.run_pure, Result.andThen_ok, List.map_toArray, List.map_cons, List.map_nil, hs, hx, hr]
  exact hK v' w' h2 h3 h5

/-- A past: what each sector may have, and the images of the epochs. -/
structure PS where
  L : List (List ByteArray)
  E : List (Nat × List ByteArray)

def LAt (L : List (List ByteArray)) (i : Nat) : List ByteArray := L[i]?.getD []
def EAt (E : List (Nat × List ByteArray)) (j : Nat) : Nat × List ByteArray := E[j]?.getD (0, [])
def vAt (vs : List Value) (i : Nat) : Value := vs[i]?.getD (.slice none 0 0)
def lastB (l : List ByteArray) : ByteArray := lAt l (l.length - 1)

def isIn (L : List ByteArray) (s : ByteArray) : Bool := L.any fun x => decide (x = s)
theorem isIn_iff {L : List ByteArray} {s : ByteArray} : isIn L s = true ↔ ∃ i, i < L.length ∧ lAt L i = s := by
  unfold isIn
  rw [List.any_eq_true]
  constructor
  · rintro ⟨x, hx, e⟩
    obtain ⟨i, hi, rfl⟩ := List.getElem_of_mem hx
    refine ⟨i, hi, ?_⟩
    unfold lAt
    rw [List.getElem?_eq_getElem hi]
    simpa using e
  · rintro ⟨i, hi, e⟩
    refine ⟨L[i], List.getElem_mem hi, ?_⟩
    unfold lAt at e
    rw [List.getElem?_eq_getElem hi] at e
    simpa using e
def allIn (L : List (List ByteArray)) (F : List ByteArray) (n : Nat) : Bool := (List.range n).all fun i => isIn (LAt L i) (lAt F i)
theorem allIn_iff {L F n} : allIn L F n = true ↔ ∀ i, i < n → isIn (LAt L i) (lAt F i) = true := by simp [allIn]
def PS.has (S : PS) (i : Int) : Prop := 0 ≤ i ∧ i < (S.L.length : Int)
instance (S : PS) (i : Int) : Decidable (S.has i) := inferInstanceAs (Decidable (_ ∧ _))
def PS.write (S : PS) (i : Int) (s : ByteArray) : Int × PS := if S.has i then (if s.size = 64 then (0, ⟨S.L.set i.toNat (LAt S.L i.toNat ++ [s]), S.E⟩) else (4, S)) else (3, S)
def PS.flush (S : PS) : PS := ⟨S.L.map fun l => [lastB l], S.E⟩
def PS.crash (S : PS) (F : List ByteArray) : Int × PS := if F.length = S.L.length then (if allIn S.L F F.length = true then (0, ⟨F.map fun s => [s], S.E⟩) else (10, S)) else (8, S)
def PS.may (S : PS) (i : Int) (s : ByteArray) : Bool := decide (S.has i) && isIn (LAt S.L i.toNat) s
def PS.last (S : PS) (i : Int) : ByteArray × Int := if S.has i then (lastB (LAt S.L i.toNat), 0) else (noBytes, 3)
def PS.top (S : PS) : Nat := (EAt S.E (S.E.length - 1)).1
def PS.sealP (S : PS) (e : Nat) : Int × PS := if e = 0 ∨ (0 < S.E.length ∧ e ≤ S.top) then (14, S) else (0, ⟨S.L, S.E ++ [(e, S.L.map lastB)]⟩)
def PS.image (S : PS) (e : Nat) : List ByteArray × Int := match S.E.find? (fun x => x.1 == e) with | some x => (x.2, 0) | none => ([], 10)
def PS.new (l : List ByteArray) : PS := ⟨l.map fun s => [s], []⟩

structure PS.ok (S : PS) (N : Nat) : Prop where
  l : S.L.length ≤ N
  e : S.E.length ≤ N
  s : ∀ i, i < S.L.length → 0 < (LAt S.L i).length ∧ (LAt S.L i).length ≤ N
  p : ∀ j, j < S.E.length → (EAt S.E j).2.length ≤ N ∧ (EAt S.E j).1 < 18446744073709551616

theorem lat_set {L : List (List ByteArray)} {i j : Nat} {x : List ByteArray} (h : i < L.length) : LAt (L.set i x) j = if i = j then x else LAt L j := by
  unfold LAt
  by_cases e : i = j
  · subst e; simp [h]
  · rw [List.getElem?_set_ne e, if_neg e]
theorem vat_set {L : List Value} {i j : Nat} {x : Value} (h : i < L.length) : vAt (L.set i x) j = if i = j then x else vAt L j := by
  unfold vAt
  by_cases e : i = j
  · subst e; simp [h]
  · rw [List.getElem?_set_ne e, if_neg e]
theorem lat_push {L : List (List ByteArray)} {j : Nat} {x : List ByteArray} : LAt (L ++ [x]) j = if j = L.length then x else LAt L j := by
  unfold LAt
  by_cases h : j < L.length
  · rw [List.getElem?_append_left h, if_neg (by omega)]
  · rw [List.getElem?_append_right (by omega)]
    by_cases e : j = L.length
    · subst e; simp
    · rw [if_neg e, List.getElem?_eq_none (by simp; omega), List.getElem?_eq_none (by omega)]
theorem eat_push {L : List (Nat × List ByteArray)} {j : Nat} {x : Nat × List ByteArray} : EAt (L ++ [x]) j = if j = L.length then x else EAt L j := by
  unfold EAt
  by_cases h : j < L.length
  · rw [List.getElem?_append_left h, if_neg (by omega)]
  · rw [List.getElem?_append_right (by omega)]
    by_cases e : j = L.length
    · subst e; simp
    · rw [if_neg e, List.getElem?_eq_none (by simp; omega), List.getElem?_eq_none (by omega)]
theorem vat_push {L : List Value} {j : Nat} {x : Value} : vAt (L ++ [x]) j = if j = L.length then x else vAt L j := by
  unfold vAt
  by_cases h : j < L.length
  · rw [List.getElem?_append_left h, if_neg (by omega)]
  · rw [List.getElem?_append_right (by omega)]
    by_cases e : j = L.length
    · subst e; simp
    · rw [if_neg e, List.getElem?_eq_none (by simp; omega), List.getElem?_eq_none (by omega)]
theorem vat_get {vs : List Value} {i : Nat} (h : i < vs.length) : vs[i]? = some (vAt vs i) := by unfold vAt; rw [List.getElem?_eq_getElem h]; rfl

/-- The lists and the images in memory, no two in one block. -/
structure Co (w : World) (v1 : Value) (vs xs : List Value) (S : PS) : Prop where
  own1 : w.ownsRow 0 22 1 v1 S.L.length vs
  lists : ∀ i, i < S.L.length → LV w (vAt vs i) (LAt S.L i)
  apart : ∀ i j, i < S.L.length → j < S.L.length → i ≠ j → (vAt vs i).ownBlock ≠ (vAt vs j).ownBlock
  xlen : xs.length = S.E.length
  pics : ∀ j, j < S.E.length → w.ownsRow 0 9 1 (vAt xs j) (EAt S.E j).2.length (strs (EAt S.E j).2)
  cross : ∀ i j, i < S.L.length → j < S.E.length → (vAt vs i).ownBlock ≠ (vAt xs j).ownBlock

def cf (v1 : Value) (vs xs : List Value) (S : PS) (k : Nat) : Prop := v1.ownBlock = some k ∨ (∃ i, i < S.L.length ∧ (vAt vs i).ownBlock = some k) ∨ ∃ j, j < S.E.length ∧ (vAt xs j).ownBlock = some k

theorem Co.vlen {w v1 vs xs S} (h : Co w v1 vs xs S) : vs.length = S.L.length := by have := h.own1.1; omega

theorem Co.lt {w v1 vs xs S} (h : Co w v1 vs xs S) : ∀ k, cf v1 vs xs S k → k < w.heap.size := by
  rintro k (e | ⟨i, hi, e⟩ | ⟨j, hj, e⟩)
  · exact (h.own1.lt k e).2
  · obtain ⟨b, cs, eb, _, hb⟩ := (h.lists i hi).blk
    rw [eb] at e; cases e; exact hb
  · exact ((h.pics j hj).lt k e).2

theorem Co.kept {w w' : World} {v1 vs xs S} (h : Co w v1 vs xs S) (hk : ∀ k, cf v1 vs xs S k → w'.heap[k]? = w.heap[k]?) : Co w' v1 vs xs S :=
  ⟨owns_kept h.own1 fun k e => hk k (.inl e), fun i hi => (h.lists i hi).kept fun k e => hk k (.inr (.inl ⟨i, hi, e⟩)), h.apart, h.xlen, fun j hj => owns_kept (h.pics j hj) fun k e => hk k (.inr (.inr ⟨j, hj, e⟩)), h.cross⟩

theorem Co.ne1 {w v1 vs xs S} (h : Co w v1 vs xs S) {i : Nat} (hi : i < S.L.length) {k : Nat} (e : v1.ownBlock = some k) : (vAt vs i).ownBlock ≠ some k := fun e2 => by
  obtain ⟨b, cs, eb, hb, _⟩ := (h.lists i hi).blk
  rw [eb] at e2; cases e2
  obtain ⟨cur, hc⟩ := owns_type h.own1 e
  rw [hb] at hc
  simp at hc

theorem Co.nex {w v1 vs xs S} (h : Co w v1 vs xs S) {j : Nat} (hj : j < S.E.length) {k : Nat} (e : v1.ownBlock = some k) : (vAt xs j).ownBlock ≠ some k := fun e2 => by
  obtain ⟨cur, hc⟩ := owns_type h.own1 e
  obtain ⟨cur2, hc2⟩ := owns_type (h.pics j hj) e2
  rw [hc2] at hc
  simp at hc

/-- One sector's list is another one. -/
theorem Co.set {w1 w2 : World} {v1 vs xs S} (h : Co w1 v1 vs xs S) {i g1 : Nat} (hi : i < S.L.length) (hg : v1.ownBlock = some g1) (v' : Value) (L' : List ByteArray)
    (hk : ∀ k, cf v1 vs xs S k → (vAt vs i).ownBlock ≠ some k → w2.heap[k]? = w1.heap[k]?) (hv : LV w2 v' L') (hf : ∀ k, v'.ownBlock = some k → (vAt vs i).ownBlock = some k ∨ w1.heap.size ≤ k) :
    Co (w2.setCell ⟨g1, i, none⟩ v') v1 (vs.set i v') xs ⟨S.L.set i L', S.E⟩ := by
  have hvl := h.vlen
  have hg1 : g1 < w1.heap.size := h.lt g1 (.inl hg)
  obtain ⟨bi, _, ebi, _, hbi⟩ := (h.lists i hi).blk
  have hne1 : v'.ownBlock ≠ some g1 := fun e => by
    rcases hf g1 e with e2 | e2
    · exact h.ne1 hi hg e2
    · omega
  have hset : ∀ k, k ≠ g1 → (w2.setCell ⟨g1, i, none⟩ v').heap[k]? = w2.heap[k]? := fun k hk => by
    simp [World.setCell, Array.getElem?_modify]; intro e; exact absurd e.symm hk
  have hother : ∀ j, j < S.L.length → j ≠ i → v'.ownBlock ≠ (vAt vs j).ownBlock := fun j hj hji e => by
    obtain ⟨b, _, eb, _, hb⟩ := (h.lists j hj).blk
    rw [eb] at e
    rcases hf b e with e2 | e2
    · exact h.apart i j hi hj (Ne.symm hji) (by rw [e2, eb])
    · omega
  have hpic : ∀ j, j < S.E.length → v'.ownBlock ≠ (vAt xs j).ownBlock := fun j hj e => by
    obtain ⟨b, _, eb, _, hb⟩ := hv.blk
    rw [eb] at e
    rcases hf b eb with e2 | e2
    · exact h.cross i j hi hj (by rw [e2, e])
    · have := h.lt b (.inr (.inr ⟨j, hj, e.symm⟩)); omega
  refine ⟨?_, fun j hj => ?_, fun a b ha hb hab => ?_, h.xlen, fun j hj => ?_, fun a j ha hj => ?_⟩
  · show World.ownsRow _ _ _ _ _ (S.L.set i L').length _
    rw [List.length_set]
    exact owns_set (owns_kept h.own1 fun k e => hk k (.inl e) (h.ne1 hi e)) hg v' (by omega)
  · have hj' : j < S.L.length := by simpa using hj
    show LV _ (vAt (vs.set i v') j) (LAt (S.L.set i L') j)
    rw [vat_set (by omega), lat_set hi]
    by_cases e : i = j
    · rw [if_pos e, if_pos e]
      exact hv.kept fun k hk2 => hset k (fun e2 => hne1 (by rw [hk2, e2]))
    · rw [if_neg e, if_neg e]
      refine (h.lists j hj').kept fun k e2 => ?_
      rw [hset k (fun e3 => h.ne1 hj' hg (by rw [e2, e3]))]
      exact hk k (.inr (.inl ⟨j, hj', e2⟩)) (fun e3 => h.apart i j hi hj' e (by rw [e2, e3]))
  · have ha' : a < S.L.length := by simpa using ha
    have hb' : b < S.L.length := by simpa using hb
    rw [vat_set (by omega), vat_set (by omega)]
    by_cases e : i = a
    · rw [if_pos e, if_neg (by omega)]; exact hother b hb' (by omega)
    · rw [if_neg e]
      by_cases e2 : i = b
      · rw [if_pos e2]; exact (hother a ha' (by omega)).symm
      · rw [if_neg e2]; exact h.apart a b ha' hb' hab
  · refine owns_kept (h.pics j hj) fun k e => ?_
    rw [hset k (fun e3 => h.nex hj hg (by rw [e, e3]))]
    exact hk k (.inr (.inr ⟨j, hj, e⟩)) (fun e3 => h.cross i j hi hj (by rw [e, e3]))
  · have ha' : a < S.L.length := by simpa using ha
    rw [vat_set (by omega)]
    by_cases e : i = a
    · rw [if_pos e]; exact hpic j hj
    · rw [if_neg e]; exact h.cross a j ha' hj

theorem cf_set {w1 : World} {v1 vs xs S} (h : Co w1 v1 vs xs S) {i : Nat} (hi : i < S.L.length) (v' : Value) (L' : List ByteArray) (hf : ∀ k, v'.ownBlock = some k → (vAt vs i).ownBlock = some k ∨ w1.heap.size ≤ k) :
    ∀ k, cf v1 (vs.set i v') xs ⟨S.L.set i L', S.E⟩ k → cf v1 vs xs S k ∨ w1.heap.size ≤ k := by
  have hvl := h.vlen
  rintro k (e | ⟨a, ha, e⟩ | ⟨j, hj, e⟩)
  · exact .inl (.inl e)
  · have ha' : a < S.L.length := by simpa using ha
    rw [vat_set (by omega)] at e
    by_cases ei : i = a
    · rw [if_pos ei] at e
      rcases hf k e with e2 | e2
      · exact .inl (.inr (.inl ⟨i, hi, e2⟩))
      · exact .inr e2
    · rw [if_neg ei] at e
      exact .inl (.inr (.inl ⟨a, ha', e⟩))
  · exact .inl (.inr (.inr ⟨j, hj, e⟩))

end Ap
end Go.Proofs.Ythapcpfemmfhoaa


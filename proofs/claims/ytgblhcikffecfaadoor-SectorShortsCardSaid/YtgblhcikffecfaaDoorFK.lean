/-
  Contract of the program's Long, whatever read does with the parts (a premise).
-/
import Derived.Test.YtgblhcikffecfaaDoorFJ
import Derived.RangeFuncLeaves
import Derived.OneCell
import Derived.Shelf.RegionOpen
namespace Go.Proofs.YtgblhcikffecfaaDoor
open Go.RowKit Go.Shelf
set_option linter.unusedVariables false
set_option linter.unusedSimpArgs false
attribute [local go_sem] Oper.semAt_some

/-- What Long answers: the sector whose short form it is; or that there is none. -/
def LongR (t : List UInt8) (v : ByteArray) (why : Int) : Prop := (IsForm t v.data.toList ∧ why = 0) ∨ ((∀ x, ¬ IsForm t x) ∧ v = ⟨#[]⟩ ∧ why = 6)
/-- What read does with a part. -/
def ReadR (x : List UInt8) (c : Nat) (n : Int) : Prop := c < 256 ∧ ∀ r : Run, 1 ≤ r.2.val → x = spellR r → c = r.1.val ∧ n = (r.2.val : Int)

theorem boxes3 (w : World) (u v x : Value) (t1 t2 t3 : TypeId) : ∃ w3, w3 = ((w.alloc (.cells #[u] t1)).alloc (.cells #[v] t2)).alloc (.cells #[x] t3) ∧ Boxed w3 w.heap.size t1 u ∧ Boxed w3 (w.heap.size + 1) t2 v ∧ Boxed w3 (w.heap.size + 1 + 1) t3 x ∧ w3.heap.size = w.heap.size + 3 ∧ Below w.heap.size w w3 := by
  refine ⟨_, rfl, ((Boxed.new w t1 u).alloc _).alloc _, ?_, ?_, by simp, (((Below.refl _ w).alloc (Nat.le_refl _) _).alloc (by simp) _).alloc (by simp; omega) _⟩
  · have := (Boxed.new (w.alloc (.cells #[u] t1)) t2 v).alloc (.cells #[x] t3)
    simpa only [World.size_alloc] using this
  · have := Boxed.new ((w.alloc (.cells #[u] t1)).alloc (.cells #[v] t2)) t3 x
    simpa only [World.size_alloc] using this

theorem flat_append (a b : List Run) : flat (a ++ b) = flat a ++ flat b := by
  induction a with
  | nil => rfl
  | cons r a ih => simp [flat, ih]
theorem take_flat_len {t x : List UInt8} (h : IsForm t x) (k : Nat) : (flat ((rs x 64).1.take k)).length ≤ 64 := by
  have e := form_flat h
  have e2 := congrArg List.length e
  rw [h.1, ← List.take_append_drop k (rs x 64).1, flat_append, List.length_append] at e2
  omega
/-- The next part of a short form. -/
theorem form_next {t x : List UInt8} (h : IsForm t x) {pre : List (List UInt8)} {p : List UInt8} {more : List (List UInt8)} (hp : parts t = (pre ++ [p]) ++ more) :
    ∃ r : Run, (rs x 64).1[pre.length]? = some r ∧ p = spellR r ∧ 1 ≤ r.2.val ∧ flat ((rs x 64).1.take (pre.length + 1)) = flat ((rs x 64).1.take pre.length) ++ List.replicate r.2.val (UInt8.ofNat r.1.val) := by
  have hf := form_parts h
  rw [hp] at hf
  have hx := congrArg (fun l => l[pre.length]?) hf
  simp only [List.append_assoc, List.getElem?_append_right (Nat.le_refl _), Nat.sub_self, List.getElem?_map] at hx
  simp at hx
  cases hr : (rs x 64).1[pre.length]? with
  | none => rw [hr] at hx; cases hx
  | some r =>
    rw [hr] at hx
    simp at hx
    have hm := List.mem_of_getElem? hr
    refine ⟨r, rfl, hx, form_pos h r hm, ?_⟩
    rw [List.take_add_one, hr, flat_append]
    simp [flat]

theorem boxed_below {W W' : World} {n b : Nat} {t : TypeId} {v : Value} (h : Boxed W b t v) (hb : Below n W W') (hl : b < n) : Boxed W' b t v := (hb.block b hl).trans h

theorem put_end {W2 : World} {D b : Nat} {t : TypeId} {v : Value} (hK : W2.heap[D]? = some (.deferred (some []))) (h : Boxed W2 b t v) : Boxed (W2.putObj D (.deferred none)) b t v :=
  boxed_own b t (fun (_ : Unit) => v) () _ _ _ h (grownBy_putObj' _ D _) (fun r e => by cases e; exact ⟨_, hK, rfl⟩)
theorem neq_texts (u s : ByteArray) (w : World) : (binOp .neq 9 (.string u) (.string s)).run Tryd.prog w = .ok (.bool (decide (u ≠ s))) w := by
  by_cases h : u = s
  · subst h; simp [go_sem]
  · simp [go_sem, h]
    intro e
    apply h
    rw [ByteArray.toList_eq, ByteArray.toList_eq] at e
    cases u; cases s
    simp only [ByteArray.mk.injEq]
    exact Array.toList_inj.mp e
theorem form_len {t x : List UInt8} (h : IsForm t x) : flat ((rs x 64).1.take (parts t).length) = x := by
  rw [form_parts h, List.length_map, List.take_length, form_flat h]

/-- What stands in the boxes between two rounds. -/
structure LB (w : World) (out : ByteArray) (W : World) : Prop where
  res : Boxed W w.heap.size 9 (.string ⟨#[]⟩)
  why : Boxed W (w.heap.size + 1) 23 (.int .i64 0)
  out : Boxed W (w.heap.size + 1 + 1) 9 (.string out)
  size : w.heap.size + 6 ≤ W.heap.size
theorem LB.below {w : World} {out : ByteArray} {W W' : World} (h : LB w out W) (hb : Below W.heap.size W W') : LB w out W' :=
  ⟨boxed_below h.res hb h.res.lt, boxed_below h.why hb h.why.lt, boxed_below h.out hb h.out.lt, Nat.le_trans h.size hb.size⟩
theorem keeps_below {W W' : World} (hb : Below W.heap.size W W') : KeepsOthers W W' := ⟨hb.size, fun k o hk _ => (hb.block k (lt_of_block hk)).trans hk⟩
theorem keepS_below {Bs : Nat} {W W' : World} (hb : Below W.heap.size W W') (h : Bs + 2 < W.heap.size) : KeepS Bs W W' :=
  ⟨hb.cell (p := ⟨0, 0, none⟩) (by show 0 < _; omega), fun o ho _ => (hb.block Bs (by omega)).trans ho, hb.cell (p := ⟨Bs + 1, 0, none⟩) (by show Bs + 1 < _; omega), hb.cell (p := ⟨Bs + 2, 0, none⟩) (by show Bs + 2 < _; omega)⟩
theorem keepS_set {Bs b : Nat} {W : World} (v : Value) (h0 : 0 < b) (h : b < Bs) : KeepS Bs W (W.setCell ⟨b, 0, none⟩ v) := by
  have e : ∀ k, k ≠ b → (W.setCell ⟨b, 0, none⟩ v).cell? ⟨k, 0, none⟩ = W.cell? ⟨k, 0, none⟩ := fun k hk => World.cell?_setCell_other _ _ _ _ (fun e => hk (congrArg Addr.block e).symm)
  refine ⟨e 0 (by omega), fun o ho _ => ?_, e _ (by omega), e _ (by omega)⟩
  exact ((grownBy_setCell' W b v).block Bs (lt_of_block ho) (fun e => by have := Option.some.inj e; omega)).trans ho
def Good (t : List UInt8) (k : Nat) (out : ByteArray) : Prop := out.size ≤ 64 ∧ ∀ x, IsForm t x → out.data.toList = flat ((rs x 64).1.take k)

set_option maxRecDepth 100000 in
set_option maxHeartbeats 4000000 in
theorem long_in (s : ByteArray) (hs : s.size ≤ 1000) (m : Int) (w : World) (hm : w.cell? ⟨0, 0, none⟩ = some (.int .i64 m)) (h0 : 0 < w.heap.size)
    (hRd : ∀ x ∈ parts s.data.toList, ∀ W, Below w.heap.size w W → Calls Tryd.prog 31 #[strV x] W fun e W' => ∃ (c : Nat) (n : Int), e = .returned (.tuple #[.int .u8 c, .int .i64 n]) ∧ ReadR x c n ∧ Below W.heap.size W W') :
    CallsIn Fence.wide 12 Tryd.prog 20 #[.string s] w fun e w' => ∃ v why, e = .returned (.tuple #[.string v, .int .i64 why]) ∧ LongR s.data.toList v why ∧ Below w.heap.size w w' := by
  refine callsIn_of_wp_marks Tryd.func20 rfl trivial ?_ rfl
  simp only [Tryd.ntmps20, List.size_toArray, List.length_cons, List.length_nil, Nat.reduceAdd, Nat.reduceSub, Array.replicate_succ, Array.replicate_zero, List.push_toArray, List.append_toArray, List.nil_append, List.cons_append]
  have HM := Lib.hid hm
  have HRD := Lib.hid hRd
  clear hm hRd
  gi_wp2_with fail
  obtain ⟨w3, hw3, bR, bE, bO, hsz, hb3⟩ := boxes3 w (.string ⟨#[]⟩) (.int .i64 0) (.string ⟨#[]⟩) 9 23 9
  rw [← hw3]
  clear hw3
  refine ⟨trivial, (split_in 11 (by omega) s w3).mono ?_⟩
  rintro e w1 ⟨rfl, rfl⟩
  gi_wp2_with fail
  have hm3 : w3.cell? ⟨0, 0, none⟩ = some (.int .i64 m) := (hb3.cell (p := ⟨0, 0, none⟩) h0).trans HM.out
  have hP := splW_spl w3 s m hm3 (by omega)
  have hsW := splW_size w3 s
  have hbW := splW_below w3 s
  have bR0 := boxed_below bR hbW bR.lt
  have bE0 := boxed_below bE hbW bE.lt
  have bO0 := boxed_below bO hbW bO.lt
  have hB0 : Below w.heap.size w (splW w3 s) := hb3.trans (hbW.mono hb3.size)
  generalize splW w3 s = W0 at *
  rw [hsz] at hP hsW
  clear hm3 hbW bR bE bO hb3
  refine range_box rfl (by omega) (gf := 58) (lb := #[.pointer (some ⟨w.heap.size + 3 + 1, 0, none⟩), .pointer (some ⟨w.heap.size + 3, 0, none⟩), .pointer (some ⟨w.heap.size + 3 + 2, 0, none⟩)]) rfl trivial (enters_of Tryd.func58 (by kernel_rfl) rfl)
    (split1_gives 11 (by omega) (w.heap.size + 3) (by omega) s hs m W0 (by omega) hP) (by omega) (fun h k => h.trans k) (keepS_b (by omega)) (Below.refl _ _) rfl
    (fun pre W => (∃ out, LB w out W ∧ Good s.data.toList pre.length out) ∧ Below w.heap.size w W)
    (fun c pre W => (c = .ret ∧ (∀ x, ¬ IsForm s.data.toList x) ∧ Boxed W w.heap.size 9 (.string ⟨#[]⟩) ∧ Boxed W (w.heap.size + 1) 23 (.int .i64 6)) ∧ Below w.heap.size w W)
    (stays_and (stays_ex fun out => fun t X Y row hh hg hr => ⟨⟨stays_boxed (f := fun _ => _) (by omega) t X Y row hh.1.res hg hr, stays_boxed (f := fun _ => _) (by omega) t X Y row hh.1.why hg hr, stays_boxed (f := fun _ => _) (by omega) t X Y row hh.1.out hg hr, Nat.le_trans hh.1.size hg.size⟩, hh.2⟩) (stays_below (Nat.le_refl _) (by omega) (by omega)))
    (fun c => stays_and (fun t X Y row hh hg hr => ⟨hh.1, hh.2.1, stays_boxed (f := fun _ => _) (by omega) t X Y row hh.2.2.1 hg hr, stays_boxed (f := fun _ => _) (by omega) t X Y row hh.2.2.2 hg hr⟩) (stays_below (Nat.le_refl _) (by omega) (by omega)))
    ⟨⟨_, ⟨bR0, bE0, bO0, by omega⟩, by show 0 ≤ 64; omega, fun x h => rfl⟩, hB0⟩
    (fun x => { tmps := #[.string s, undef, .pointer (some ⟨w.heap.size, 0, none⟩), .pointer (some ⟨w.heap.size + 1, 0, none⟩), .pointer (some ⟨w.heap.size + 1 + 1, 0, none⟩), strV x, undef, undef, .string s, .func (.func 58) #[] #[.pointer (some ⟨w.heap.size + 3 + 1, 0, none⟩), .pointer (some ⟨w.heap.size + 3, 0, none⟩), .pointer (some ⟨w.heap.size + 3 + 2, 0, none⟩)], strV x, undef, undef, undef, undef, undef, undef, undef, undef, undef, undef, undef, undef, undef, undef, undef, undef, undef, undef, undef, undef, undef, undef, undef, undef, undef, undef, undef, undef, undef], defers := [] })
    ?assign ?body ?done ?stop
  case assign =>
    intro l x W K hK
    gi_wp2
    exact hK
  case body =>
    rintro l pre x W ⟨⟨out, hLB, hG⟩, hB⟩ ⟨more, hmore⟩
    have hx : x ∈ parts s.data.toList := by rw [hmore]; simp
    have hrd := fun W h => (callsIn_wide (n := 9)).2 (HRD.out x hx W h)
    have HRD1 := Lib.hid hrd
    have HG := Lib.hid hG
    have HB := Lib.hid hB
    have HL := Lib.hid hLB
    have HMO := Lib.hid hmore
    clear hrd hG hB hLB hx hmore
    generalize strV x = V at *
    gi_wp2_with fail
    refine ⟨trivial, (CallsIn.inRound l (HRD1.out W HB.out)).mono ?_⟩
    rintro e W1 ⟨c, n, rfl, hcn, hb1⟩
    have hLB1 := HL.out.below hb1
    have hk1 := keeps_below hb1
    have hs1 := keepS_below (Bs := w.heap.size + 3) hb1 (by have := HL.out.size; omega)
    have hB1 : Below w.heap.size w W1 := HB.out.trans (hb1.mono HB.out.size)
    obtain ⟨bR1, bE1, bO1, hz1⟩ := hLB1
    have hno : (n < 1 ∨ 64 - (out.size : Int) < n) → ∀ y, ¬ IsForm s.data.toList y := by
      intro hbad y hy
      obtain ⟨r, hr1, hr2, hr3, hr4⟩ := form_next hy HMO.out
      obtain ⟨e1, e2⟩ := hcn.2 r hr3 hr2
      have hl := take_flat_len hy (pre.length + 1)
      have ho := HG.out.2 y hy
      rw [hr4, ← ho, List.length_append, List.length_replicate] at hl
      have e3 : out.data.toList.length = out.size := rfl
      omega
    have cR := bR1.cell
    have fR := bR1.frozen
    have cE := bE1.cell
    have fE := bE1.frozen
    have cO := bO1.cell
    have fO := bO1.frozen
    have i1 : (0 : Int) ≤ (out.size : Int) := by omega
    have i2 : (out.size : Int) ≤ 64 := by have := HG.out.1; omega
    have HNO := Lib.hid hno
    have HCN := Lib.hid hcn
    have HK1 := Lib.hid hk1
    have HS1 := Lib.hid hs1
    have HB1 := Lib.hid hB1
    clear hno hcn hk1 hs1 hB1 hb1
    have away : (n < 1 ∨ 64 - (out.size : Int) < n) → ownPostK (KeepS (w.heap.size + 3)) (fun pre W => (∃ out, LB w out W ∧ Good s.data.toList pre.length out) ∧ Below w.heap.size w W) (fun c pre W => (c = .ret ∧ (∀ x, ¬ IsForm s.data.toList x) ∧ Boxed W w.heap.size 9 (.string ⟨#[]⟩) ∧ Boxed W (w.heap.size + 1) 23 (.int .i64 6)) ∧ Below w.heap.size w W) (pre ++ [x]) W .ret { tmps := #[], defers := [] } ((W1.setCell ⟨w.heap.size, 0, none⟩ (.string ⟨#[]⟩)).setCell ⟨w.heap.size + 1, 0, none⟩ (.int .i64 6)) := fun hbad =>
      ⟨(HK1.out.trans (KeepsOthers.setCell _ _ _)).trans (KeepsOthers.setCell _ _ _), ⟨rfl, HNO.out hbad, (bR1.set _).other (by omega) _, (bE1.other (by omega) _).set _⟩, (HB1.out.setCell (p := ⟨w.heap.size, 0, none⟩) (by simp) _).setCell (p := ⟨w.heap.size + 1, 0, none⟩) (by simp) _⟩
    by_cases h1 : n < 1
    · have AW := Lib.hid (away (.inl h1))
      clear away
      gi_wp2
      exact AW.out
    · by_cases h2 : 64 - (out.size : Int) < n
      · have AW := Lib.hid (away (.inr h2))
        clear away
        gi_wp2
        exact AW.out
      · obtain ⟨q, hq⟩ : ∃ q : Nat, n = (q : Int) := ⟨n.toNat, by omega⟩
        subst hq
        obtain ⟨S, hS⟩ : ∃ S : ByteArray, S = ⟨(List.replicate q (UInt8.ofNat c)).toArray⟩ := ⟨_, rfl⟩
        have hrep := fun w => (callsIn_wide (n := 9)).2 (repeat_any (c : Int) (UInt8.ofNat c) (by have := HCN.out.1; simp; omega) (q : Int) q rfl (by omega) S hS w)
        have hadd := add_texts out.data.toList (List.replicate q (UInt8.ofNat c)) (by have e3 : out.data.toList.length = out.size := rfl; simp; omega)
        obtain ⟨o2, ho2⟩ : ∃ o2 : ByteArray, o2 = ⟨(out.data.toList ++ List.replicate q (UInt8.ofNat c)).toArray⟩ := ⟨_, rfl⟩
        have hl2 : o2.data.toList = out.data.toList ++ List.replicate q (UInt8.ofNat c) := by rw [ho2]
        change ∀ w, (binOp .add 9 (.string out) (.string ⟨(List.replicate q (UInt8.ofNat c)).toArray⟩)).run _ w = .ok (.string ⟨(out.data.toList ++ List.replicate q (UInt8.ofNat c)).toArray⟩) w at hadd
        rw [← hS, ← ho2] at hadd
        have hkeep : ∀ w5, Below W1.drew.heap.size W1.drew w5 → w5.cell? ⟨w.heap.size + 1 + 1, 0, none⟩ = some (.string out) ∧ w5.frozen? ⟨w.heap.size + 1 + 1, 0, none⟩ = false := fun w5 hb => by
          have b5 := boxed_below (W := W1.drew) (W' := w5) (t := 9) (v := .string out) bO1 hb bO1.lt
          exact ⟨b5.cell, b5.frozen⟩
        have hfin : ∀ w5, Below W1.drew.heap.size W1.drew w5 → KeepsOthers W (w5.setCell ⟨w.heap.size + 1 + 1, 0, none⟩ (.string o2)) ∧ KeepS (w.heap.size + 3) W (w5.setCell ⟨w.heap.size + 1 + 1, 0, none⟩ (.string o2)) ∧
            (∃ out, LB w out (w5.setCell ⟨w.heap.size + 1 + 1, 0, none⟩ (.string o2)) ∧ Good s.data.toList (pre ++ [x]).length out) ∧ Below w.heap.size w (w5.setCell ⟨w.heap.size + 1 + 1, 0, none⟩ (.string o2)) := fun w5 hb => by
          have hb' : Below W1.heap.size W1 w5 := ⟨hb.os, hb.tape, hb.output, hb.size, hb.block⟩
          have hL5 := LB.below ⟨bR1, bE1, bO1, hz1⟩ hb'
          refine ⟨(HK1.out.trans (keeps_below hb')).trans (KeepsOthers.setCell _ _ _), (HS1.out.trans (keepS_below hb' (by omega))).trans (keepS_set _ (by omega) (by omega)), ⟨o2, ⟨hL5.res.other (by omega) _, hL5.why.other (by omega) _, hL5.out.set _, ?_⟩, ?_, fun y hy => ?_⟩, (HB1.out.trans (hb'.mono HB1.out.size)).setCell (p := ⟨w.heap.size + 1 + 1, 0, none⟩) (by simp; omega) _⟩
          · exact Nat.le_trans hL5.size (grownBy_setCell' w5 (w.heap.size + 1 + 1) (.string o2)).size
          · show o2.data.toList.length ≤ 64
            have e3 : out.data.toList.length = out.size := rfl
            rw [hl2, List.length_append, List.length_replicate]
            omega
          · obtain ⟨r, hr1, hr2, hr3, hr4⟩ := form_next hy HMO.out
            obtain ⟨e1, e2⟩ := HCN.out.2 r hr3 hr2
            have ho := HG.out.2 y hy
            have e4 : q = r.2.val := by omega
            rw [List.length_append, List.length_singleton, hr4, ← ho, hl2, e1, e4]
        have HFIN := Lib.hid hfin
        clear hfin
        have HREP := Lib.hid hrep
        have HL2 := Lib.hid hl2
        have HKEEP := Lib.hid hkeep
        have HADD := Lib.hid hadd
        clear hrep hl2 hkeep away hS ho2 hadd
        gi_wp2_with fail
        have cO1 : W1.drew.cell? ⟨w.heap.size + 1 + 1, 0, none⟩ = some (Value.string out) := cO
        have fO1 : W1.drew.frozen? ⟨w.heap.size + 1 + 1, 0, none⟩ = false := fO
        have hadd := HADD.out
        clear cO fO fR cR fE cE HADD
        generalize hVO : Value.string out = VO at *
        generalize hVS : Value.string S = VS at *
        have HVO := Lib.hid hVO
        clear hVO hVS
        have mixed : Tryd.prog.follows .mixedOrders = true := by kernel_rfl
        gi_region_with_o (go_simp; refine ⟨trivial, ?_⟩; gi_at_call 23; refine (CallsIn.inRound l (HREP.out _)).mono ?_; rintro e w5 ⟨rfl, hb5⟩; have c5 := (HKEEP.out w5 hb5).1; have f5 := (HKEEP.out w5 hb5).2)
        all_goals (simp only [Exit.inBlock]; exact HFIN.out _ hb5)
  case done =>
    rintro D W hD ⟨⟨out, hLB, hG⟩, hB⟩ hK
    have hfull : ∀ x, IsForm s.data.toList x → out.data.toList = x := fun x hx => by rw [hG.2 x hx, form_len hx]
    obtain ⟨bR1, bE1, bO1, hz1⟩ := hLB
    have cR := bR1.cell
    have fR := bR1.frozen
    have cE := bE1.cell
    have fE := bE1.frozen
    have cO := bO1.cell
    have hr := (callsIn_wide (n := 11)).2 (right_any out W)
    have HF := Lib.hid hfull
    have HB := Lib.hid hB
    have HK := Lib.hid hK
    clear hfull hG hB hK
    by_cases h64 : out.size = 64
    · rw [decide_eq_true h64] at hr
      obtain ⟨u, hu⟩ : ∃ u, shortV out = .string u := by unfold shortV; rw [if_pos h64]; exact ⟨_, rfl⟩
      have hsh := (callsIn_wide (n := 11)).2 (short_any out W)
      rw [hu] at hsh
      have hnq := neq_texts u s
      have hgu : ∀ w, Sem.run Tryd.prog (eqGuard BinOp.neq 9 (.tmp 35) (.tmp 36) (.string u) (.string s)) w = .ok () w := fun w => by simp [eqGuard, go_sem]
      have HU := Lib.hid hu
      have HSH := Lib.hid hsh
      have HR := Lib.hid hr
      have H64 := Lib.hid h64
      clear hu hsh hr h64
      by_cases hus : u = s
      · have hf : IsForm s.data.toList out.data.toList := (shortV_form H64.out).1 (by rw [HU.out, hus])
        have HFO := Lib.hid hf
        rw [decide_eq_false (fun h => h hus)] at hnq
        clear hf hus
        generalize hVU : Value.string u = VU at *
        generalize hVS : Value.string s = VS at *
        clear hVU hVS HU
        gi_wp2_with fail
        refine ⟨trivial, HR.out.mono ?_⟩
        rintro e w1 ⟨rfl, hw1⟩
        obtain rfl := hw1.symm
        clear hw1
        gi_wp2_with fail
        refine ⟨trivial, HSH.out.mono ?_⟩
        rintro e w1 ⟨rfl, hb1⟩
        have hK1 := (keeps_below hb1).same D _ HK.out rfl
        have bR1' := boxed_below bR1 hb1 bR1.lt
        have bE1' := boxed_below bE1 hb1 bE1.lt
        have bO1' := boxed_below bO1 hb1 bO1.lt
        have hB1 := HB.out.trans (hb1.mono HB.out.size)
        have HB1 := Lib.hid hB1
        have HK1 := Lib.hid hK1
        clear cR fR cE fE cO hb1 hB1 hK1
        have cR := bR1'.cell
        have fR := bR1'.frozen
        have cE := bE1'.cell
        have fE := bE1'.frozen
        have cO := bO1'.cell
        gi_wp2
        have hK2 := ((KeepsOthers.setCell w1 ⟨w.heap.size, 0, none⟩ (.string out)).trans (KeepsOthers.setCell _ ⟨w.heap.size + 1, 0, none⟩ (.int .i64 0))).same D _ HK1.out rfl
        have bR2 := put_end hK2 ((bR1'.set (.string out)).other (B' := w.heap.size + 1) (by omega) (.int .i64 0))
        have bE2 := put_end hK2 ((bE1'.other (B' := w.heap.size) (by omega) (.string out)).set (.int .i64 0))
        have hB2 := (HB1.out.setCell (p := ⟨w.heap.size, 0, none⟩) (by simp) (.string out)).setCell (p := ⟨w.heap.size + 1, 0, none⟩) (by simp) (.int .i64 0)
        refine ⟨by simp, .inl ⟨_, _, rfl, run_takeDeferred hK2, ?_⟩⟩
        refine ⟨.tuple #[.string out, .int .i64 0], ?_, out, 0, rfl, .inl ⟨HFO.out, rfl⟩, hB2.trans (belowK_b (w := w) (Nat.le_refl _) _ D _ _ (by omega) hK2 rfl rfl)⟩
        simp [results, Tryd.f20, go_sem, bR2.cell, bE2.cell]
      · have hno : ∀ x, ¬ IsForm s.data.toList x := fun x hx => hus (by
          have e := HF.out x hx
          rw [← e] at hx
          have := (shortV_form H64.out).2 hx
          rw [HU.out] at this
          exact Value.string.inj this)
        have HNO := Lib.hid hno
        rw [decide_eq_true (show u ≠ s from hus)] at hnq
        clear hno hus
        generalize hVU : Value.string u = VU at *
        generalize hVS : Value.string s = VS at *
        clear hVU hVS HU
        gi_wp2_with fail
        refine ⟨trivial, HR.out.mono ?_⟩
        rintro e w1 ⟨rfl, hw1⟩
        obtain rfl := hw1.symm
        clear hw1
        gi_wp2_with fail
        refine ⟨trivial, HSH.out.mono ?_⟩
        rintro e w1 ⟨rfl, hb1⟩
        have hK1 := (keeps_below hb1).same D _ HK.out rfl
        have bR1' := boxed_below bR1 hb1 bR1.lt
        have bE1' := boxed_below bE1 hb1 bE1.lt
        have hB1 := HB.out.trans (hb1.mono HB.out.size)
        have HB1 := Lib.hid hB1
        have HK1 := Lib.hid hK1
        clear cR fR cE fE cO hb1 hB1 hK1
        have cR := bR1'.cell
        have fR := bR1'.frozen
        have cE := bE1'.cell
        have fE := bE1'.frozen
        gi_wp2
        have hK2 := ((KeepsOthers.setCell w1 ⟨w.heap.size, 0, none⟩ (.string ⟨#[]⟩)).trans (KeepsOthers.setCell _ ⟨w.heap.size + 1, 0, none⟩ (.int .i64 6))).same D _ HK1.out rfl
        have bR2 := put_end hK2 ((bR1'.set (.string ⟨#[]⟩)).other (B' := w.heap.size + 1) (by omega) (.int .i64 6))
        have bE2 := put_end hK2 ((bE1'.other (B' := w.heap.size) (by omega) (.string ⟨#[]⟩)).set (.int .i64 6))
        have hB2 := (HB1.out.setCell (p := ⟨w.heap.size, 0, none⟩) (by simp) (.string ⟨#[]⟩)).setCell (p := ⟨w.heap.size + 1, 0, none⟩) (by simp) (.int .i64 6)
        refine ⟨by simp, .inl ⟨_, _, rfl, run_takeDeferred hK2, ?_⟩⟩
        refine ⟨.tuple #[.string ⟨#[]⟩, .int .i64 6], ?_, ⟨#[]⟩, 6, rfl, .inr ⟨HNO.out, rfl, rfl⟩, hB2.trans (belowK_b (w := w) (Nat.le_refl _) _ D _ _ (by omega) hK2 rfl rfl)⟩
        simp [results, Tryd.f20, go_sem, bR2.cell, bE2.cell]
    · rw [decide_eq_false h64] at hr
      have hno : ∀ x, ¬ IsForm s.data.toList x := fun x hx => h64 (by have := hx.1; rw [← HF.out x hx] at this; exact this)
      have HNO := Lib.hid hno
      have HR := Lib.hid hr
      clear hno hr h64
      gi_wp2_with fail
      refine ⟨trivial, HR.out.mono ?_⟩
      rintro e w1 ⟨rfl, hw1⟩
      obtain rfl := hw1.symm
      clear hw1
      gi_wp2
      refine ⟨trivial, ?_⟩
      gi_wp2
      have hK2 := ((KeepsOthers.setCell W ⟨w.heap.size, 0, none⟩ (.string ⟨#[]⟩)).trans (KeepsOthers.setCell _ ⟨w.heap.size + 1, 0, none⟩ (.int .i64 6))).same D _ HK.out rfl
      have bR2 := put_end hK2 ((bR1.set (.string ⟨#[]⟩)).other (B' := w.heap.size + 1) (by omega) (.int .i64 6))
      have bE2 := put_end hK2 ((bE1.other (B' := w.heap.size) (by omega) (.string ⟨#[]⟩)).set (.int .i64 6))
      have hB2 := (HB.out.setCell (p := ⟨w.heap.size, 0, none⟩) (by simp) (.string ⟨#[]⟩)).setCell (p := ⟨w.heap.size + 1, 0, none⟩) (by simp) (.int .i64 6)
      refine ⟨by simp, .inl ⟨_, _, rfl, run_takeDeferred hK2, ?_⟩⟩
      refine ⟨.tuple #[.string ⟨#[]⟩, .int .i64 6], ?_, ⟨#[]⟩, 6, rfl, .inr ⟨HNO.out, rfl, rfl⟩, hB2.trans (belowK_b (w := w) (Nat.le_refl _) _ D _ _ (by omega) hK2 rfl rfl)⟩
      simp [results, Tryd.f20, go_sem, bR2.cell, bE2.cell]
  case stop =>
    rintro D c pre W hD hR ⟨⟨rfl, hno, bR1, bE1⟩, hB⟩ hK
    have HNO := Lib.hid hno
    have HB := Lib.hid hB
    have HK := Lib.hid hK
    clear hno hB hK hR
    gi_wp2
    have bR2 := put_end HK.out bR1
    have bE2 := put_end HK.out bE1
    refine ⟨by simp, .inl ⟨_, _, rfl, run_takeDeferred HK.out, ?_⟩⟩
    refine ⟨.tuple #[.string ⟨#[]⟩, .int .i64 6], ?_, ⟨#[]⟩, 6, rfl, .inr ⟨HNO.out, rfl, rfl⟩, HB.out.trans (belowK_b (w := w) (Nat.le_refl _) _ D _ _ (by omega) HK.out rfl rfl)⟩
    simp [results, Tryd.f20, go_sem, bR2.cell, bE2.cell]
end Go.Proofs.YtgblhcikffecfaaDoor

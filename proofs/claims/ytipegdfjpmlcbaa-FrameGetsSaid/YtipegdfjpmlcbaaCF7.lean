/-
  The program's open: a frame out of its head and a body.
-/
import Derived.Test.YtipegdfjpmlcbaaCF6
import Derived.Deep.Cut
namespace Go.Proofs.Ytipegdfjpmlcbaa
open Go.RowKit
set_option linter.unusedVariables false
set_option linter.unusedSimpArgs false

/-- What open answers. -/
def OpenR (h : FR) (xs : List UInt8) (w : World) (e : Ending) (w' : World) : Prop :=
  (∃ x V, openP h xs = some x ∧ e = .returned (.tuple #[V, .int .i64 0]) ∧ Frm w' x V ∧ Below w.heap.size w w') ∨ (openP h xs = none ∧ e = .returned (.tuple #[frV fr0 (.slice none 0 0), .int .i64 6]) ∧ Below w.heap.size w w')

/-- The beginning of open. -/
theorem op_begin (h : FR) (hl : h.list = []) (a : Option Addr) (n c : Nat) (xs : List UInt8) (w w2 : World) (p : Nat) (hrd : Rd w a n c xs) (hp : ((w.alloc (.cells (frC h (.slice none 0 0)) 26)).alloc (.cells (frC fr0 (.slice none 0 0)) 26)).heap.size ≤ p) (hr : RW w2 p xs 0)
    (hb : Below ((w.alloc (.cells (frC h (.slice none 0 0)) 26)).alloc (.cells (frC fr0 (.slice none 0 0)) 26)).heap.size ((w.alloc (.cells (frC h (.slice none 0 0)) 26)).alloc (.cells (frC fr0 (.slice none 0 0)) 26)) w2) : OP w w2 p h (.slice none 0 0) xs 0 := by
  have hb1 : Below w.heap.size w ((w.alloc (.cells (frC h (.slice none 0 0)) 26)).alloc (.cells (frC fr0 (.slice none 0 0)) 26)) := ((Below.refl _ _).alloc (Nat.le_refl _) _).alloc (by simp) _
  have n2 := heap_alloc_new (w.alloc (.cells (frC h (.slice none 0 0)) 26)) (.cells (frC fr0 (.slice none 0 0)) 26)
  have n1 := (Below.heap_alloc (w.alloc (.cells (frC h (.slice none 0 0)) 26)) (.cells (frC fr0 (.slice none 0 0)) 26) w.heap.size (by simp)).trans (heap_alloc_new w (.cells (frC h (.slice none 0 0)) 26))
  have e1 : (w.alloc (.cells (frC h (.slice none 0 0)) 26)).heap.size = w.heap.size + 1 := by simp
  have e2 : ((w.alloc (.cells (frC h (.slice none 0 0)) 26)).alloc (.cells (frC fr0 (.slice none 0 0)) 26)).heap.size = w.heap.size + 2 := by simp
  rw [e1] at n2
  exact ⟨(hb.block _ (by omega)).trans n1, (hb.block _ (by omega)).trans n2, hr, by omega, by rw [hl]; exact World.ownsRow_nil _ _ _ _, hb1.trans (hb.mono hb1.size)⟩

theorem results_row_tmp {P : Program} {fn : Func} {p u : Tmp} {ty : TypeId} (h : fn.results = #[.cell p ty, .tmp u]) (tmps : Array Value) (w : World) (g : Nat) (t : TypeId) (cs : Array Value) (fr : Nat × Nat) (d : TypeDesc)
    (hp : tmps.getD p undef = .pointer (some ⟨g, 0, none⟩)) (hg : w.heap[g]? = some (.cells cs t fr))
    (hu : P.underlying ty = some d) (hd : (match d with | .struct _ | .array _ _ => true | _ => false) = true) (hi : (P.info? ty).map (·.size) = some cs.size) :
    (results fn tmps).run P w = .ok (.tuple #[.agg cs, tmps.getD u undef]) w := by
  have hp' : tmps[p]?.getD undef = .pointer (some ⟨g, 0, none⟩) := by simpa using hp
  simp [results, h, hp', asAddr, run_loadVar_row w g t ty cs fr d hg hu hd hi]


@[reducible] def frZ : Array Value := #[.int .i64 0, .int .u64 0, .int .u64 0, .int .u32 0, .int .u32 0, .int .i64 0, .int .i64 0, .int .i64 0, .int .i64 0, .string ⟨#[]⟩, .slice none 0 0]
theorem frZ_eq : frC fr0 (.slice none 0 0) = frZ := rfl
theorem frC_one (f : FR) (a : Option Addr) (n c : Nat) : (frC f (.slice a n c)).all (·.oneCell') = true := by
  simp [frC, strV, Value.oneCell']
/-- The result's place behind the end. -/
theorem op_row {w0 w : World} {p : Nat} {f : FR} {lv : Value} {ys : List UInt8} {e : Int} (h : OP w0 w p f lv ys e) (Y : Array Value) :
    (w.setRow (w0.heap.size + 1) Y).heap[w0.heap.size + 1]? = some (.cells Y 26 (0, 0)) ∧ Below w0.heap.size w0 (w.setRow (w0.heap.size + 1) Y) ∧ Frm (w.setRow (w0.heap.size + 1) Y) f (frV f lv) :=
  ⟨setRow_heap w _ _ Y _ _ h.res, below_setRow h.bel (by omega) Y, frm_own (owns_kept' h.own fun k hk => setRow_other w _ k _ (fun e2 => h.ne_res (by rw [hk, e2])))⟩

/-- The end: nothing was told. -/
theorem open_bad {h : FR} {xs : List UInt8} {w w' : World} {e : Ending} (ho : openP h xs = none) (he : e = .returned (.tuple #[.agg frZ, .int .i64 6])) (hb : Below w.heap.size w w') : OpenR h xs w e w' := .inr ⟨ho, by rw [he]; rfl, hb⟩
theorem open_good' {h x : FR} {lv : Value} {xs : List UInt8} {w w' : World} {e : Ending} (ho : openP h xs = some x) (he : e = .returned (.tuple #[.agg (frC x lv), .int .i64 0])) (hf : Frm w' x (frV x lv)) (hb : Below w.heap.size w w') : OpenR h xs w e w' := .inl ⟨x, _, ho, he, hf, hb⟩





/-! what the reader's answers say of the body -/
theorem rn_ok {ys ys1 : List UInt8} {e e1 : Int} {v : Nat} (wd : Nat) (wi : Int) (hw : wi = (wd : Int)) (h1 : 1 ≤ wd) (h8 : wd ≤ 8) (h : rnum ys e wi = (v, ys1, e1)) (h0 : e1 = 0) : e = 0 ∧ wd ≤ ys.length ∧ v = numN (ys.take wd) ∧ ys1 = ys.drop wd := by
  subst hw
  unfold rnum at h
  split at h
  · next he => simp at h; exact absurd (h.2.2.trans h0) he
  split at h
  · omega
  split at h
  · simp at h; omega
  · next he _ hl => simp at h; exact ⟨by simpa using he, by omega, h.1.symm, h.2.1.symm⟩
theorem rn_bad {ys ys1 : List UInt8} {e e1 : Int} {v : Nat} (wd : Nat) (wi : Int) (hw : wi = (wd : Int)) (h1 : 1 ≤ wd) (h8 : wd ≤ 8) (h : rnum ys e wi = (v, ys1, e1)) (h0 : e1 ≠ 0) : e ≠ 0 ∨ ys.length < wd := by
  subst hw
  unfold rnum at h
  split at h
  · next he => exact .inl he
  split at h
  · omega
  split at h
  · exact .inr (by omega)
  · simp at h; exact absurd h.2.2.symm h0
theorem rb_ok {ys b ys1 : List UInt8} {e e1 : Int} (h : rbytes ys e (ys.length : Int) = (b, ys1, e1)) (h0 : e1 = 0) : e = 0 ∧ b = ys ∧ ys1 = [] := by
  unfold rbytes at h
  split at h
  · next he => simp at h; exact absurd (h.2.2.trans h0) he
  split at h
  · omega
  split at h
  · omega
  · next he _ _ => simp at h; exact ⟨by simpa using he, h.1.symm, h.2.1⟩
theorem rb_bad {ys b ys1 : List UInt8} {e e1 : Int} (h : rbytes ys e (ys.length : Int) = (b, ys1, e1)) (h0 : e1 ≠ 0) : e ≠ 0 ∧ b = [] := by
  unfold rbytes at h
  split at h
  · next he => simp at h; exact ⟨he, h.1⟩
  split at h
  · omega
  split at h
  · omega
  · simp at h; exact absurd h.2.2.symm h0

set_option maxRecDepth 20000 in
set_option maxHeartbeats 1000000 in
theorem open_7 (h : FR) (hh : h = h.head) (hk : h.kind = 7) (a : Option Addr) (n c : Nat) (xs : List UInt8) (w : World) (hrd : Rd w a n c xs) :
    Calls Try.prog 15 #[frV h (.slice none 0 0), .slice a n c] w fun e w' => OpenR h xs w e w' := by
  have hl0 : h.list = [] := by rw [hh]; rfl
  have hal : Below w.heap.size w ((w.alloc (.cells (frC h (.slice none 0 0)) 26)).alloc (.cells (frC fr0 (.slice none 0 0)) 26)) := ((Below.refl _ _).alloc (Nat.le_refl _) _).alloc (by simp) _
  have hnw := new_any a n c xs _ (hrd.later hal)
  have HNW := Lib.hid hnw
  have HRD := Lib.hid hrd
  have HL0 := Lib.hid hl0
  have HH := Lib.hid hh
  have HKK := Lib.hid hk
  have HBG := Lib.hid (fun w2 p hp hr hb => op_begin h hl0 a n c xs w w2 p hrd hp hr hb)
  have hi0 : (Try.prog.info? 26).map (·.size) = some frZ.size := by kernel_rfl
  have ho0 : frZ.all (·.oneCell') = true := by simp [frZ, Value.oneCell']
  clear hnw hal hrd hl0 hh hk
  simp only [frC, fr0, strV, List.map_nil] at HNW
  unfold frV
  go_enter Try.func15, Try.ntmps15
  go_wp2
  refine wp_scope_once 0 rfl ?_
  go_wp2_with fail
  refine HNW.out.mono ?_
  rintro e w2 ⟨p, rfl, hp, hr, hb⟩
  have hop := HBG.out w2 p hp hr hb
  obtain ⟨f0, hf0⟩ : ∃ f, f = h := ⟨_, rfl⟩
  have HF0 := Lib.hid hf0
  have HOP0 := Lib.hid hop
  clear hp hr hb HBG HNW HRD hop hf0
  have k0 : w2.cell? ⟨w.heap.size, 0, none⟩ = some (.int .i64 7) := by rw [HOP0.out.cell 0, ← HKK.out]; rfl
  go_wp2_with fail
  have HW1 := Lib.hid (op_why HOP0.out)
  have HL1 := Lib.hid (op_left HOP0.out)
  obtain ⟨en, hen⟩ : ∃ l : Int, l = (0 : Int) := ⟨_, rfl⟩
  obtain ⟨ln, hln⟩ : ∃ l : Int, l = ((xs).length : Int) := ⟨_, rfl⟩
  rw [← hln] at HL1
  rw [← hen] at HW1
  have HEL := Lib.hid (And.intro hen hln)
  have hrs := HOP0.out.res
  rw [frZ_eq] at hrs
  clear hen hln
  by_cases hz : en = 0
  · by_cases hz2 : 0 < ln
    · have HNO := Lib.hid (show openP h xs = none from (by have := HEL.out; simp only [openP, HKK.out]; simp; intro h0; rw [h0] at this; simp at this; omega))
      obtain ⟨hw5, hb5, _⟩ := op_row HOP0.out frZ
      have HB5 := Lib.hid hb5
      clear hb5
      subst hz
      refine HW1.out.mono ?_
      rintro r9 w3 ⟨rfl, hw1⟩; obtain rfl := hw1.symm; clear hw1
      go_wp2_with fail
      refine HL1.out.mono ?_
      rintro r9 w3 ⟨rfl, hw1⟩; obtain rfl := hw1.symm; clear hw1
      go_wp2
      go_step3
      refine ⟨rfl, ?_⟩
      go_wp2_with (with_reducible refine wpList_store_row (o := ⟨none, _, _, _, _, _⟩) rfl 26 (.tmp 4) (.tmp 99) rfl (w.heap.size + 1) frZ rfl rfl 26 frZ hrs hi0 rfl ho0 ?_)
      rw [Exit.noGoto_ret]
      refine bodyPost_ret (results_row_tmp (p := 4) (u := 5) (ty := 26) rfl _ _ (w.heap.size + 1) 26 frZ (0, 0) _ rfl hw5 Try.underlying26 rfl hi0) rfl ?_
      exact open_bad HNO.out rfl HB5.out
    · have HSO := Lib.hid (show openP h xs = some h from (by have := HEL.out; simp only [openP, HKK.out]; simp; exact List.eq_nil_of_length_eq_zero (by omega)))
      obtain ⟨hw5, hb5, hfm⟩ := op_row HOP0.out (frC h (.slice none 0 0))
      have HB5 := Lib.hid hb5
      have HFM := Lib.hid hfm
      have hbx := HOP0.out.box
      have ho1 : (frC h (.slice none 0 0)).all (·.oneCell') = true := frC_one _ _ _ _
      have hi1 : (Try.prog.info? 26).map (·.size) = some (frC h (.slice none 0 0)).size := by kernel_rfl
      have hs1 : frZ.size = (frC h (.slice none 0 0)).size := rfl
      clear hb5 hfm
      obtain ⟨Y, hY⟩ : ∃ Y, Y = frC h (.slice none 0 0) := ⟨_, rfl⟩
      rw [← hY] at hbx ho1 hi1 hw5 hs1
      have HB6 : Hid (Below w.heap.size w (w2.setRow (w.heap.size + 1) Y)) := Lib.hid (by rw [hY]; exact HB5.out)
      have HF6 : Hid (Frm (w2.setRow (w.heap.size + 1) Y) h (frV h (.slice none 0 0))) := Lib.hid (by rw [hY]; exact HFM.out)
      have HY := Lib.hid hY
      have HS1 := Lib.hid hs1
      clear hY HB5 HFM hs1
      subst hz
      have e3 : decide (0 < ln) = false := by simpa using hz2
      refine HW1.out.mono ?_
      rintro r9 w3 ⟨rfl, hw1⟩; obtain rfl := hw1.symm; clear hw1
      go_wp2_with fail
      refine HL1.out.mono ?_
      rintro r9 w3 ⟨rfl, hw1⟩; obtain rfl := hw1.symm; clear hw1
      go_wp2_with (first | (with_reducible refine wpList_load_row (o := ⟨some 98, _, _, _, _, _⟩) rfl 26 (.tmp 2) rfl w.heap.size rfl 26 Y (0, 0) _ hbx Try.underlying26 rfl hi1 ?_) | (with_reducible refine wpList_store_row (o := ⟨none, _, _, _, _, _⟩) rfl 26 (.tmp 4) (.tmp 98) rfl (w.heap.size + 1) Y rfl rfl 26 frZ hrs hi1 HS1.out ho1 ?_))
      refine bodyPost_ret (results_row_tmp (p := 4) (u := 5) (ty := 26) rfl _ _ (w.heap.size + 1) 26 Y (0, 0) _ rfl hw5 Try.underlying26 rfl hi1) rfl ?_
      exact open_good' HSO.out (by rw [HY.out]; rfl) HF6.out HB6.out
  · have HNO := Lib.hid (show openP h xs = none from (absurd HEL.out.1 hz))
    obtain ⟨hw5, hb5, _⟩ := op_row HOP0.out frZ
    have HB5 := Lib.hid hb5
    clear hb5
    have e1x : (en == 0) = false := by simpa using hz
    have e2x : (en != 0) = true := by simpa using hz
    refine HW1.out.mono ?_
    rintro r9 w3 ⟨rfl, hw1⟩; obtain rfl := hw1.symm; clear hw1
    go_wp2
    go_step3
    refine ⟨rfl, ?_⟩
    go_wp2_with (with_reducible refine wpList_store_row (o := ⟨none, _, _, _, _, _⟩) rfl 26 (.tmp 4) (.tmp 99) rfl (w.heap.size + 1) frZ rfl rfl 26 frZ hrs hi0 rfl ho0 ?_)
    rw [Exit.noGoto_ret]
    refine bodyPost_ret (results_row_tmp (p := 4) (u := 5) (ty := 26) rfl _ _ (w.heap.size + 1) 26 frZ (0, 0) _ rfl hw5 Try.underlying26 rfl hi0) rfl ?_
    exact open_bad HNO.out rfl HB5.out
set_option maxRecDepth 20000 in
set_option maxHeartbeats 1000000 in
theorem open_2 (h : FR) (hh : h = h.head) (hk : h.kind = 2) (a : Option Addr) (n c : Nat) (xs : List UInt8) (w : World) (hrd : Rd w a n c xs) :
    Calls Try.prog 15 #[frV h (.slice none 0 0), .slice a n c] w fun e w' => OpenR h xs w e w' := by
  have hl0 : h.list = [] := by rw [hh]; rfl
  have hal : Below w.heap.size w ((w.alloc (.cells (frC h (.slice none 0 0)) 26)).alloc (.cells (frC fr0 (.slice none 0 0)) 26)) := ((Below.refl _ _).alloc (Nat.le_refl _) _).alloc (by simp) _
  have hnw := new_any a n c xs _ (hrd.later hal)
  have HNW := Lib.hid hnw
  have HRD := Lib.hid hrd
  have HL0 := Lib.hid hl0
  have HH := Lib.hid hh
  have HKK := Lib.hid hk
  have HBG := Lib.hid (fun w2 p hp hr hb => op_begin h hl0 a n c xs w w2 p hrd hp hr hb)
  have hi0 : (Try.prog.info? 26).map (·.size) = some frZ.size := by kernel_rfl
  have ho0 : frZ.all (·.oneCell') = true := by simp [frZ, Value.oneCell']
  clear hnw hal hrd hl0 hh hk
  simp only [frC, fr0, strV, List.map_nil] at HNW
  unfold frV
  go_enter Try.func15, Try.ntmps15
  go_wp2
  refine wp_scope_once 0 rfl ?_
  go_wp2_with fail
  refine HNW.out.mono ?_
  rintro e w2 ⟨p, rfl, hp, hr, hb⟩
  have hop := HBG.out w2 p hp hr hb
  obtain ⟨f0, hf0⟩ : ∃ f, f = h := ⟨_, rfl⟩
  have HF0 := Lib.hid hf0
  have HOP0 := Lib.hid hop
  clear hp hr hb HBG HNW HRD hop hf0
  have k0 : w2.cell? ⟨w.heap.size, 0, none⟩ = some (.int .i64 2) := by rw [HOP0.out.cell 0, ← HKK.out]; rfl
  go_wp2_with fail
  obtain ⟨v1, ys1, e1, hr1⟩ : ∃ v y e, rnum xs 0 1 = (v, y, e) := ⟨_, _, _, rfl⟩
  have hv1 : v1 < 256 ^ 1 := by have := rnum_lt xs 0 1 1 rfl; rw [hr1] at this; exact this
  have HN1 := Lib.hid (op_num HOP0.out 1)
  rw [hr1] at HN1
  have HR1 := Lib.hid hr1
  have HV1 := Lib.hid hv1
  clear hr1 hv1
  refine HN1.out.mono ?_
  rintro r1 wa1 ⟨rfl, hop⟩
  have HA1 := Lib.hid hop
  have c1 : wa1.cell? ⟨w.heap.size, 8, none⟩ = some (.int .i64 h.code) := by rw [hop.cell 8]; rfl
  have fr1 : wa1.frozen? ⟨w.heap.size, 8, none⟩ = false := hop.free 8
  have wr1 : IntKind.i64.wrap ((v1 : Nat) : Int) = (v1 : Int) := by have := HV1.out; exact wrap_small _ (by omega) (by omega)
  have HOP1 := Lib.hid (hop.set 8 (.int .i64 (v1 : Int)) (f' := (⟨h.kind, h.sess, h.ep, h.seq, h.vol, h.n, h.f, h.index, (v1 : Int), h.data, h.list⟩ : FR)) rfl rfl)
  clear hop
  obtain ⟨wb1, hwb1⟩ : ∃ x, x = wa1.setCell ⟨w.heap.size, 8, none⟩ (.int .i64 (v1 : Int)) := ⟨_, rfl⟩
  rw [← hwb1] at HOP1
  have HWB1 := Lib.hid hwb1
  clear hwb1
  go_wp2_with fail
  rw [← HWB1.out]
  have HW1 := Lib.hid (op_why HOP1.out)
  have HL1 := Lib.hid (op_left HOP1.out)
  obtain ⟨en, hen⟩ : ∃ l : Int, l = e1 := ⟨_, rfl⟩
  obtain ⟨ln, hln⟩ : ∃ l : Int, l = ((ys1).length : Int) := ⟨_, rfl⟩
  rw [← hln] at HL1
  rw [← hen] at HW1
  have HEL := Lib.hid (And.intro hen hln)
  have hrs := HOP1.out.res
  rw [frZ_eq] at hrs
  clear hen hln
  by_cases hz : en = 0
  · by_cases hz2 : 0 < ln
    · have HNO := Lib.hid (show openP h xs = none from (by obtain ⟨_, h2, h3, h4⟩ := rn_ok 1 1 rfl (by omega) (by omega) HR1.out (HEL.out.1.symm.trans hz); have h5 := HEL.out.2; rw [h4] at h5; simp at h5; have hl : xs.length ≠ 1 := (by omega); simp [openP, HKK.out, hl]))
      obtain ⟨hw5, hb5, _⟩ := op_row HOP1.out frZ
      have HB5 := Lib.hid hb5
      clear hb5
      subst hz
      refine HW1.out.mono ?_
      rintro r9 w3 ⟨rfl, hw1⟩; obtain rfl := hw1.symm; clear hw1
      go_wp2_with fail
      refine HL1.out.mono ?_
      rintro r9 w3 ⟨rfl, hw1⟩; obtain rfl := hw1.symm; clear hw1
      go_wp2
      go_step3
      refine ⟨rfl, ?_⟩
      go_wp2_with (with_reducible refine wpList_store_row (o := ⟨none, _, _, _, _, _⟩) rfl 26 (.tmp 4) (.tmp 99) rfl (w.heap.size + 1) frZ rfl rfl 26 frZ hrs hi0 rfl ho0 ?_)
      rw [Exit.noGoto_ret]
      refine bodyPost_ret (results_row_tmp (p := 4) (u := 5) (ty := 26) rfl _ _ (w.heap.size + 1) 26 frZ (0, 0) _ rfl hw5 Try.underlying26 rfl hi0) rfl ?_
      exact open_bad HNO.out rfl HB5.out
    · have HSO := Lib.hid (show openP h xs = some (⟨h.kind, h.sess, h.ep, h.seq, h.vol, h.n, h.f, h.index, (v1 : Int), h.data, h.list⟩ : FR) from (by obtain ⟨_, h2, h3, h4⟩ := rn_ok 1 1 rfl (by omega) (by omega) HR1.out (HEL.out.1.symm.trans hz); have h5 := HEL.out.2; rw [h4] at h5; simp at h5; have hl : xs.length = 1 := (by omega); rw [List.take_of_length_le (by omega)] at h3; simp [openP, HKK.out, hl, h3]))
      obtain ⟨hw5, hb5, hfm⟩ := op_row HOP1.out (frC (⟨h.kind, h.sess, h.ep, h.seq, h.vol, h.n, h.f, h.index, (v1 : Int), h.data, h.list⟩ : FR) (.slice none 0 0))
      have HB5 := Lib.hid hb5
      have HFM := Lib.hid hfm
      have hbx := HOP1.out.box
      have ho1 : (frC (⟨h.kind, h.sess, h.ep, h.seq, h.vol, h.n, h.f, h.index, (v1 : Int), h.data, h.list⟩ : FR) (.slice none 0 0)).all (·.oneCell') = true := frC_one _ _ _ _
      have hi1 : (Try.prog.info? 26).map (·.size) = some (frC (⟨h.kind, h.sess, h.ep, h.seq, h.vol, h.n, h.f, h.index, (v1 : Int), h.data, h.list⟩ : FR) (.slice none 0 0)).size := by kernel_rfl
      have hs1 : frZ.size = (frC (⟨h.kind, h.sess, h.ep, h.seq, h.vol, h.n, h.f, h.index, (v1 : Int), h.data, h.list⟩ : FR) (.slice none 0 0)).size := rfl
      clear hb5 hfm
      obtain ⟨Y, hY⟩ : ∃ Y, Y = frC (⟨h.kind, h.sess, h.ep, h.seq, h.vol, h.n, h.f, h.index, (v1 : Int), h.data, h.list⟩ : FR) (.slice none 0 0) := ⟨_, rfl⟩
      rw [← hY] at hbx ho1 hi1 hw5 hs1
      have HB6 : Hid (Below w.heap.size w (wb1.setRow (w.heap.size + 1) Y)) := Lib.hid (by rw [hY]; exact HB5.out)
      have HF6 : Hid (Frm (wb1.setRow (w.heap.size + 1) Y) (⟨h.kind, h.sess, h.ep, h.seq, h.vol, h.n, h.f, h.index, (v1 : Int), h.data, h.list⟩ : FR) (frV (⟨h.kind, h.sess, h.ep, h.seq, h.vol, h.n, h.f, h.index, (v1 : Int), h.data, h.list⟩ : FR) (.slice none 0 0))) := Lib.hid (by rw [hY]; exact HFM.out)
      have HY := Lib.hid hY
      have HS1 := Lib.hid hs1
      clear hY HB5 HFM hs1
      subst hz
      have e3 : decide (0 < ln) = false := by simpa using hz2
      refine HW1.out.mono ?_
      rintro r9 w3 ⟨rfl, hw1⟩; obtain rfl := hw1.symm; clear hw1
      go_wp2_with fail
      refine HL1.out.mono ?_
      rintro r9 w3 ⟨rfl, hw1⟩; obtain rfl := hw1.symm; clear hw1
      go_wp2_with (first | (with_reducible refine wpList_load_row (o := ⟨some 98, _, _, _, _, _⟩) rfl 26 (.tmp 2) rfl w.heap.size rfl 26 Y (0, 0) _ hbx Try.underlying26 rfl hi1 ?_) | (with_reducible refine wpList_store_row (o := ⟨none, _, _, _, _, _⟩) rfl 26 (.tmp 4) (.tmp 98) rfl (w.heap.size + 1) Y rfl rfl 26 frZ hrs hi1 HS1.out ho1 ?_))
      refine bodyPost_ret (results_row_tmp (p := 4) (u := 5) (ty := 26) rfl _ _ (w.heap.size + 1) 26 Y (0, 0) _ rfl hw5 Try.underlying26 rfl hi1) rfl ?_
      exact open_good' HSO.out (by rw [HY.out]; rfl) HF6.out HB6.out
  · have HNO := Lib.hid (show openP h xs = none from (by have hl : xs.length ≠ 1 := (rn_bad 1 1 rfl (by omega) (by omega) HR1.out (fun h9 => hz (HEL.out.1.trans h9))).elim (fun h9 => absurd rfl h9) (fun h9 => by omega); simp [openP, HKK.out, hl]))
    obtain ⟨hw5, hb5, _⟩ := op_row HOP1.out frZ
    have HB5 := Lib.hid hb5
    clear hb5
    have e1x : (en == 0) = false := by simpa using hz
    have e2x : (en != 0) = true := by simpa using hz
    refine HW1.out.mono ?_
    rintro r9 w3 ⟨rfl, hw1⟩; obtain rfl := hw1.symm; clear hw1
    go_wp2
    go_step3
    refine ⟨rfl, ?_⟩
    go_wp2_with (with_reducible refine wpList_store_row (o := ⟨none, _, _, _, _, _⟩) rfl 26 (.tmp 4) (.tmp 99) rfl (w.heap.size + 1) frZ rfl rfl 26 frZ hrs hi0 rfl ho0 ?_)
    rw [Exit.noGoto_ret]
    refine bodyPost_ret (results_row_tmp (p := 4) (u := 5) (ty := 26) rfl _ _ (w.heap.size + 1) 26 frZ (0, 0) _ rfl hw5 Try.underlying26 rfl hi0) rfl ?_
    exact open_bad HNO.out rfl HB5.out
set_option maxRecDepth 20000 in
set_option maxHeartbeats 1000000 in
theorem open_3 (h : FR) (hh : h = h.head) (hk : h.kind = 3) (a : Option Addr) (n c : Nat) (xs : List UInt8) (w : World) (hrd : Rd w a n c xs) :
    Calls Try.prog 15 #[frV h (.slice none 0 0), .slice a n c] w fun e w' => OpenR h xs w e w' := by
  have hl0 : h.list = [] := by rw [hh]; rfl
  have hal : Below w.heap.size w ((w.alloc (.cells (frC h (.slice none 0 0)) 26)).alloc (.cells (frC fr0 (.slice none 0 0)) 26)) := ((Below.refl _ _).alloc (Nat.le_refl _) _).alloc (by simp) _
  have hnw := new_any a n c xs _ (hrd.later hal)
  have HNW := Lib.hid hnw
  have HRD := Lib.hid hrd
  have HL0 := Lib.hid hl0
  have HH := Lib.hid hh
  have HKK := Lib.hid hk
  have HBG := Lib.hid (fun w2 p hp hr hb => op_begin h hl0 a n c xs w w2 p hrd hp hr hb)
  have hi0 : (Try.prog.info? 26).map (·.size) = some frZ.size := by kernel_rfl
  have ho0 : frZ.all (·.oneCell') = true := by simp [frZ, Value.oneCell']
  clear hnw hal hrd hl0 hh hk
  simp only [frC, fr0, strV, List.map_nil] at HNW
  unfold frV
  go_enter Try.func15, Try.ntmps15
  go_wp2
  refine wp_scope_once 0 rfl ?_
  go_wp2_with fail
  refine HNW.out.mono ?_
  rintro e w2 ⟨p, rfl, hp, hr, hb⟩
  have hop := HBG.out w2 p hp hr hb
  obtain ⟨f0, hf0⟩ : ∃ f, f = h := ⟨_, rfl⟩
  have HF0 := Lib.hid hf0
  have HOP0 := Lib.hid hop
  clear hp hr hb HBG HNW HRD hop hf0
  have k0 : w2.cell? ⟨w.heap.size, 0, none⟩ = some (.int .i64 3) := by rw [HOP0.out.cell 0, ← HKK.out]; rfl
  go_wp2_with fail
  obtain ⟨v1, ys1, e1, hr1⟩ : ∃ v y e, rnum xs 0 2 = (v, y, e) := ⟨_, _, _, rfl⟩
  have hv1 : v1 < 256 ^ 2 := by have := rnum_lt xs 0 2 2 rfl; rw [hr1] at this; exact this
  have HN1 := Lib.hid (op_num HOP0.out 2)
  rw [hr1] at HN1
  have HR1 := Lib.hid hr1
  have HV1 := Lib.hid hv1
  clear hr1 hv1
  refine HN1.out.mono ?_
  rintro r1 wa1 ⟨rfl, hop⟩
  have HA1 := Lib.hid hop
  have c1 : wa1.cell? ⟨w.heap.size, 7, none⟩ = some (.int .i64 h.index) := by rw [hop.cell 7]; rfl
  have fr1 : wa1.frozen? ⟨w.heap.size, 7, none⟩ = false := hop.free 7
  have wr1 : IntKind.i64.wrap ((v1 : Nat) : Int) = (v1 : Int) := by have := HV1.out; exact wrap_small _ (by omega) (by omega)
  have HOP1 := Lib.hid (hop.set 7 (.int .i64 (v1 : Int)) (f' := (⟨h.kind, h.sess, h.ep, h.seq, h.vol, h.n, h.f, (v1 : Int), h.code, h.data, h.list⟩ : FR)) rfl rfl)
  clear hop
  obtain ⟨wb1, hwb1⟩ : ∃ x, x = wa1.setCell ⟨w.heap.size, 7, none⟩ (.int .i64 (v1 : Int)) := ⟨_, rfl⟩
  rw [← hwb1] at HOP1
  have HWB1 := Lib.hid hwb1
  clear hwb1
  go_wp2_with fail
  rw [← HWB1.out]
  have HW1 := Lib.hid (op_why HOP1.out)
  have HL1 := Lib.hid (op_left HOP1.out)
  obtain ⟨en, hen⟩ : ∃ l : Int, l = e1 := ⟨_, rfl⟩
  obtain ⟨ln, hln⟩ : ∃ l : Int, l = ((ys1).length : Int) := ⟨_, rfl⟩
  rw [← hln] at HL1
  rw [← hen] at HW1
  have HEL := Lib.hid (And.intro hen hln)
  have hrs := HOP1.out.res
  rw [frZ_eq] at hrs
  clear hen hln
  by_cases hz : en = 0
  · by_cases hz2 : 0 < ln
    · have HNO := Lib.hid (show openP h xs = none from (by obtain ⟨_, h2, h3, h4⟩ := rn_ok 2 2 rfl (by omega) (by omega) HR1.out (HEL.out.1.symm.trans hz); have h5 := HEL.out.2; rw [h4] at h5; simp at h5; have hl : xs.length ≠ 2 := (by omega); simp [openP, HKK.out, hl]))
      obtain ⟨hw5, hb5, _⟩ := op_row HOP1.out frZ
      have HB5 := Lib.hid hb5
      clear hb5
      subst hz
      refine HW1.out.mono ?_
      rintro r9 w3 ⟨rfl, hw1⟩; obtain rfl := hw1.symm; clear hw1
      go_wp2_with fail
      refine HL1.out.mono ?_
      rintro r9 w3 ⟨rfl, hw1⟩; obtain rfl := hw1.symm; clear hw1
      go_wp2
      go_step3
      refine ⟨rfl, ?_⟩
      go_wp2_with (with_reducible refine wpList_store_row (o := ⟨none, _, _, _, _, _⟩) rfl 26 (.tmp 4) (.tmp 99) rfl (w.heap.size + 1) frZ rfl rfl 26 frZ hrs hi0 rfl ho0 ?_)
      rw [Exit.noGoto_ret]
      refine bodyPost_ret (results_row_tmp (p := 4) (u := 5) (ty := 26) rfl _ _ (w.heap.size + 1) 26 frZ (0, 0) _ rfl hw5 Try.underlying26 rfl hi0) rfl ?_
      exact open_bad HNO.out rfl HB5.out
    · have HSO := Lib.hid (show openP h xs = some (⟨h.kind, h.sess, h.ep, h.seq, h.vol, h.n, h.f, (v1 : Int), h.code, h.data, h.list⟩ : FR) from (by obtain ⟨_, h2, h3, h4⟩ := rn_ok 2 2 rfl (by omega) (by omega) HR1.out (HEL.out.1.symm.trans hz); have h5 := HEL.out.2; rw [h4] at h5; simp at h5; have hl : xs.length = 2 := (by omega); rw [List.take_of_length_le (by omega)] at h3; simp [openP, HKK.out, hl, h3]))
      obtain ⟨hw5, hb5, hfm⟩ := op_row HOP1.out (frC (⟨h.kind, h.sess, h.ep, h.seq, h.vol, h.n, h.f, (v1 : Int), h.code, h.data, h.list⟩ : FR) (.slice none 0 0))
      have HB5 := Lib.hid hb5
      have HFM := Lib.hid hfm
      have hbx := HOP1.out.box
      have ho1 : (frC (⟨h.kind, h.sess, h.ep, h.seq, h.vol, h.n, h.f, (v1 : Int), h.code, h.data, h.list⟩ : FR) (.slice none 0 0)).all (·.oneCell') = true := frC_one _ _ _ _
      have hi1 : (Try.prog.info? 26).map (·.size) = some (frC (⟨h.kind, h.sess, h.ep, h.seq, h.vol, h.n, h.f, (v1 : Int), h.code, h.data, h.list⟩ : FR) (.slice none 0 0)).size := by kernel_rfl
      have hs1 : frZ.size = (frC (⟨h.kind, h.sess, h.ep, h.seq, h.vol, h.n, h.f, (v1 : Int), h.code, h.data, h.list⟩ : FR) (.slice none 0 0)).size := rfl
      clear hb5 hfm
      obtain ⟨Y, hY⟩ : ∃ Y, Y = frC (⟨h.kind, h.sess, h.ep, h.seq, h.vol, h.n, h.f, (v1 : Int), h.code, h.data, h.list⟩ : FR) (.slice none 0 0) := ⟨_, rfl⟩
      rw [← hY] at hbx ho1 hi1 hw5 hs1
      have HB6 : Hid (Below w.heap.size w (wb1.setRow (w.heap.size + 1) Y)) := Lib.hid (by rw [hY]; exact HB5.out)
      have HF6 : Hid (Frm (wb1.setRow (w.heap.size + 1) Y) (⟨h.kind, h.sess, h.ep, h.seq, h.vol, h.n, h.f, (v1 : Int), h.code, h.data, h.list⟩ : FR) (frV (⟨h.kind, h.sess, h.ep, h.seq, h.vol, h.n, h.f, (v1 : Int), h.code, h.data, h.list⟩ : FR) (.slice none 0 0))) := Lib.hid (by rw [hY]; exact HFM.out)
      have HY := Lib.hid hY
      have HS1 := Lib.hid hs1
      clear hY HB5 HFM hs1
      subst hz
      have e3 : decide (0 < ln) = false := by simpa using hz2
      refine HW1.out.mono ?_
      rintro r9 w3 ⟨rfl, hw1⟩; obtain rfl := hw1.symm; clear hw1
      go_wp2_with fail
      refine HL1.out.mono ?_
      rintro r9 w3 ⟨rfl, hw1⟩; obtain rfl := hw1.symm; clear hw1
      go_wp2_with (first | (with_reducible refine wpList_load_row (o := ⟨some 98, _, _, _, _, _⟩) rfl 26 (.tmp 2) rfl w.heap.size rfl 26 Y (0, 0) _ hbx Try.underlying26 rfl hi1 ?_) | (with_reducible refine wpList_store_row (o := ⟨none, _, _, _, _, _⟩) rfl 26 (.tmp 4) (.tmp 98) rfl (w.heap.size + 1) Y rfl rfl 26 frZ hrs hi1 HS1.out ho1 ?_))
      refine bodyPost_ret (results_row_tmp (p := 4) (u := 5) (ty := 26) rfl _ _ (w.heap.size + 1) 26 Y (0, 0) _ rfl hw5 Try.underlying26 rfl hi1) rfl ?_
      exact open_good' HSO.out (by rw [HY.out]; rfl) HF6.out HB6.out
  · have HNO := Lib.hid (show openP h xs = none from (by have hl : xs.length ≠ 2 := (rn_bad 2 2 rfl (by omega) (by omega) HR1.out (fun h9 => hz (HEL.out.1.trans h9))).elim (fun h9 => absurd rfl h9) (fun h9 => by omega); simp [openP, HKK.out, hl]))
    obtain ⟨hw5, hb5, _⟩ := op_row HOP1.out frZ
    have HB5 := Lib.hid hb5
    clear hb5
    have e1x : (en == 0) = false := by simpa using hz
    have e2x : (en != 0) = true := by simpa using hz
    refine HW1.out.mono ?_
    rintro r9 w3 ⟨rfl, hw1⟩; obtain rfl := hw1.symm; clear hw1
    go_wp2
    go_step3
    refine ⟨rfl, ?_⟩
    go_wp2_with (with_reducible refine wpList_store_row (o := ⟨none, _, _, _, _, _⟩) rfl 26 (.tmp 4) (.tmp 99) rfl (w.heap.size + 1) frZ rfl rfl 26 frZ hrs hi0 rfl ho0 ?_)
    rw [Exit.noGoto_ret]
    refine bodyPost_ret (results_row_tmp (p := 4) (u := 5) (ty := 26) rfl _ _ (w.heap.size + 1) 26 frZ (0, 0) _ rfl hw5 Try.underlying26 rfl hi0) rfl ?_
    exact open_bad HNO.out rfl HB5.out
set_option maxRecDepth 20000 in
set_option maxHeartbeats 1000000 in
theorem open_5 (h : FR) (hh : h = h.head) (hk : h.kind = 5) (a : Option Addr) (n c : Nat) (xs : List UInt8) (w : World) (hrd : Rd w a n c xs) :
    Calls Try.prog 15 #[frV h (.slice none 0 0), .slice a n c] w fun e w' => OpenR h xs w e w' := by
  have hl0 : h.list = [] := by rw [hh]; rfl
  have hal : Below w.heap.size w ((w.alloc (.cells (frC h (.slice none 0 0)) 26)).alloc (.cells (frC fr0 (.slice none 0 0)) 26)) := ((Below.refl _ _).alloc (Nat.le_refl _) _).alloc (by simp) _
  have hnw := new_any a n c xs _ (hrd.later hal)
  have HNW := Lib.hid hnw
  have HRD := Lib.hid hrd
  have HL0 := Lib.hid hl0
  have HH := Lib.hid hh
  have HKK := Lib.hid hk
  have HBG := Lib.hid (fun w2 p hp hr hb => op_begin h hl0 a n c xs w w2 p hrd hp hr hb)
  have hi0 : (Try.prog.info? 26).map (·.size) = some frZ.size := by kernel_rfl
  have ho0 : frZ.all (·.oneCell') = true := by simp [frZ, Value.oneCell']
  clear hnw hal hrd hl0 hh hk
  simp only [frC, fr0, strV, List.map_nil] at HNW
  unfold frV
  go_enter Try.func15, Try.ntmps15
  go_wp2
  refine wp_scope_once 0 rfl ?_
  go_wp2_with fail
  refine HNW.out.mono ?_
  rintro e w2 ⟨p, rfl, hp, hr, hb⟩
  have hop := HBG.out w2 p hp hr hb
  obtain ⟨f0, hf0⟩ : ∃ f, f = h := ⟨_, rfl⟩
  have HF0 := Lib.hid hf0
  have HOP0 := Lib.hid hop
  clear hp hr hb HBG HNW HRD hop hf0
  have k0 : w2.cell? ⟨w.heap.size, 0, none⟩ = some (.int .i64 5) := by rw [HOP0.out.cell 0, ← HKK.out]; rfl
  go_wp2_with fail
  obtain ⟨v1, ys1, e1, hr1⟩ : ∃ v y e, rnum xs 0 2 = (v, y, e) := ⟨_, _, _, rfl⟩
  have hv1 : v1 < 256 ^ 2 := by have := rnum_lt xs 0 2 2 rfl; rw [hr1] at this; exact this
  have HN1 := Lib.hid (op_num HOP0.out 2)
  rw [hr1] at HN1
  have HR1 := Lib.hid hr1
  have HV1 := Lib.hid hv1
  clear hr1 hv1
  refine HN1.out.mono ?_
  rintro r1 wa1 ⟨rfl, hop⟩
  have HA1 := Lib.hid hop
  have c1 : wa1.cell? ⟨w.heap.size, 7, none⟩ = some (.int .i64 h.index) := by rw [hop.cell 7]; rfl
  have fr1 : wa1.frozen? ⟨w.heap.size, 7, none⟩ = false := hop.free 7
  have wr1 : IntKind.i64.wrap ((v1 : Nat) : Int) = (v1 : Int) := by have := HV1.out; exact wrap_small _ (by omega) (by omega)
  have HOP1 := Lib.hid (hop.set 7 (.int .i64 (v1 : Int)) (f' := (⟨h.kind, h.sess, h.ep, h.seq, h.vol, h.n, h.f, (v1 : Int), h.code, h.data, h.list⟩ : FR)) rfl rfl)
  clear hop
  obtain ⟨wb1, hwb1⟩ : ∃ x, x = wa1.setCell ⟨w.heap.size, 7, none⟩ (.int .i64 (v1 : Int)) := ⟨_, rfl⟩
  rw [← hwb1] at HOP1
  have HWB1 := Lib.hid hwb1
  clear hwb1
  go_wp2_with fail
  rw [← HWB1.out]
  have HW1 := Lib.hid (op_why HOP1.out)
  have HL1 := Lib.hid (op_left HOP1.out)
  obtain ⟨en, hen⟩ : ∃ l : Int, l = e1 := ⟨_, rfl⟩
  obtain ⟨ln, hln⟩ : ∃ l : Int, l = ((ys1).length : Int) := ⟨_, rfl⟩
  rw [← hln] at HL1
  rw [← hen] at HW1
  have HEL := Lib.hid (And.intro hen hln)
  have hrs := HOP1.out.res
  rw [frZ_eq] at hrs
  clear hen hln
  by_cases hz : en = 0
  · by_cases hz2 : 0 < ln
    · have HNO := Lib.hid (show openP h xs = none from (by obtain ⟨_, h2, h3, h4⟩ := rn_ok 2 2 rfl (by omega) (by omega) HR1.out (HEL.out.1.symm.trans hz); have h5 := HEL.out.2; rw [h4] at h5; simp at h5; have hl : xs.length ≠ 2 := (by omega); simp [openP, HKK.out, hl]))
      obtain ⟨hw5, hb5, _⟩ := op_row HOP1.out frZ
      have HB5 := Lib.hid hb5
      clear hb5
      subst hz
      refine HW1.out.mono ?_
      rintro r9 w3 ⟨rfl, hw1⟩; obtain rfl := hw1.symm; clear hw1
      go_wp2_with fail
      refine HL1.out.mono ?_
      rintro r9 w3 ⟨rfl, hw1⟩; obtain rfl := hw1.symm; clear hw1
      go_wp2
      go_step3
      refine ⟨rfl, ?_⟩
      go_wp2_with (with_reducible refine wpList_store_row (o := ⟨none, _, _, _, _, _⟩) rfl 26 (.tmp 4) (.tmp 99) rfl (w.heap.size + 1) frZ rfl rfl 26 frZ hrs hi0 rfl ho0 ?_)
      rw [Exit.noGoto_ret]
      refine bodyPost_ret (results_row_tmp (p := 4) (u := 5) (ty := 26) rfl _ _ (w.heap.size + 1) 26 frZ (0, 0) _ rfl hw5 Try.underlying26 rfl hi0) rfl ?_
      exact open_bad HNO.out rfl HB5.out
    · have HSO := Lib.hid (show openP h xs = some (⟨h.kind, h.sess, h.ep, h.seq, h.vol, h.n, h.f, (v1 : Int), h.code, h.data, h.list⟩ : FR) from (by obtain ⟨_, h2, h3, h4⟩ := rn_ok 2 2 rfl (by omega) (by omega) HR1.out (HEL.out.1.symm.trans hz); have h5 := HEL.out.2; rw [h4] at h5; simp at h5; have hl : xs.length = 2 := (by omega); rw [List.take_of_length_le (by omega)] at h3; simp [openP, HKK.out, hl, h3]))
      obtain ⟨hw5, hb5, hfm⟩ := op_row HOP1.out (frC (⟨h.kind, h.sess, h.ep, h.seq, h.vol, h.n, h.f, (v1 : Int), h.code, h.data, h.list⟩ : FR) (.slice none 0 0))
      have HB5 := Lib.hid hb5
      have HFM := Lib.hid hfm
      have hbx := HOP1.out.box
      have ho1 : (frC (⟨h.kind, h.sess, h.ep, h.seq, h.vol, h.n, h.f, (v1 : Int), h.code, h.data, h.list⟩ : FR) (.slice none 0 0)).all (·.oneCell') = true := frC_one _ _ _ _
      have hi1 : (Try.prog.info? 26).map (·.size) = some (frC (⟨h.kind, h.sess, h.ep, h.seq, h.vol, h.n, h.f, (v1 : Int), h.code, h.data, h.list⟩ : FR) (.slice none 0 0)).size := by kernel_rfl
      have hs1 : frZ.size = (frC (⟨h.kind, h.sess, h.ep, h.seq, h.vol, h.n, h.f, (v1 : Int), h.code, h.data, h.list⟩ : FR) (.slice none 0 0)).size := rfl
      clear hb5 hfm
      obtain ⟨Y, hY⟩ : ∃ Y, Y = frC (⟨h.kind, h.sess, h.ep, h.seq, h.vol, h.n, h.f, (v1 : Int), h.code, h.data, h.list⟩ : FR) (.slice none 0 0) := ⟨_, rfl⟩
      rw [← hY] at hbx ho1 hi1 hw5 hs1
      have HB6 : Hid (Below w.heap.size w (wb1.setRow (w.heap.size + 1) Y)) := Lib.hid (by rw [hY]; exact HB5.out)
      have HF6 : Hid (Frm (wb1.setRow (w.heap.size + 1) Y) (⟨h.kind, h.sess, h.ep, h.seq, h.vol, h.n, h.f, (v1 : Int), h.code, h.data, h.list⟩ : FR) (frV (⟨h.kind, h.sess, h.ep, h.seq, h.vol, h.n, h.f, (v1 : Int), h.code, h.data, h.list⟩ : FR) (.slice none 0 0))) := Lib.hid (by rw [hY]; exact HFM.out)
      have HY := Lib.hid hY
      have HS1 := Lib.hid hs1
      clear hY HB5 HFM hs1
      subst hz
      have e3 : decide (0 < ln) = false := by simpa using hz2
      refine HW1.out.mono ?_
      rintro r9 w3 ⟨rfl, hw1⟩; obtain rfl := hw1.symm; clear hw1
      go_wp2_with fail
      refine HL1.out.mono ?_
      rintro r9 w3 ⟨rfl, hw1⟩; obtain rfl := hw1.symm; clear hw1
      go_wp2_with (first | (with_reducible refine wpList_load_row (o := ⟨some 98, _, _, _, _, _⟩) rfl 26 (.tmp 2) rfl w.heap.size rfl 26 Y (0, 0) _ hbx Try.underlying26 rfl hi1 ?_) | (with_reducible refine wpList_store_row (o := ⟨none, _, _, _, _, _⟩) rfl 26 (.tmp 4) (.tmp 98) rfl (w.heap.size + 1) Y rfl rfl 26 frZ hrs hi1 HS1.out ho1 ?_))
      refine bodyPost_ret (results_row_tmp (p := 4) (u := 5) (ty := 26) rfl _ _ (w.heap.size + 1) 26 Y (0, 0) _ rfl hw5 Try.underlying26 rfl hi1) rfl ?_
      exact open_good' HSO.out (by rw [HY.out]; rfl) HF6.out HB6.out
  · have HNO := Lib.hid (show openP h xs = none from (by have hl : xs.length ≠ 2 := (rn_bad 2 2 rfl (by omega) (by omega) HR1.out (fun h9 => hz (HEL.out.1.trans h9))).elim (fun h9 => absurd rfl h9) (fun h9 => by omega); simp [openP, HKK.out, hl]))
    obtain ⟨hw5, hb5, _⟩ := op_row HOP1.out frZ
    have HB5 := Lib.hid hb5
    clear hb5
    have e1x : (en == 0) = false := by simpa using hz
    have e2x : (en != 0) = true := by simpa using hz
    refine HW1.out.mono ?_
    rintro r9 w3 ⟨rfl, hw1⟩; obtain rfl := hw1.symm; clear hw1
    go_wp2
    go_step3
    refine ⟨rfl, ?_⟩
    go_wp2_with (with_reducible refine wpList_store_row (o := ⟨none, _, _, _, _, _⟩) rfl 26 (.tmp 4) (.tmp 99) rfl (w.heap.size + 1) frZ rfl rfl 26 frZ hrs hi0 rfl ho0 ?_)
    rw [Exit.noGoto_ret]
    refine bodyPost_ret (results_row_tmp (p := 4) (u := 5) (ty := 26) rfl _ _ (w.heap.size + 1) 26 frZ (0, 0) _ rfl hw5 Try.underlying26 rfl hi0) rfl ?_
    exact open_bad HNO.out rfl HB5.out
end Go.Proofs.Ytipegdfjpmlcbaa


/-
  A frame is opened: the kinds with bytes in them.
-/
import Derived.Test.YtipegdfjpmlcbaaCF7
namespace Go.Proofs.Ytipegdfjpmlcbaa
open Go.RowKit
set_option linter.unusedVariables false
set_option linter.unusedSimpArgs false

theorem rn_fit {ys ys1 : List UInt8} {e1 : Int} {v : Nat} (wd : Nat) (wi : Int) (hw : wi = (wd : Int)) (h1 : 1 ≤ wd) (h8 : wd ≤ 8) (h : rnum ys 0 wi = (v, ys1, e1)) (hl : wd ≤ ys.length) : e1 = 0 ∧ ys1 = ys.drop wd := by
  rcases Decidable.em (e1 = 0) with h0 | h0
  · exact ⟨h0, (rn_ok wd wi hw h1 h8 h h0).2.2.2⟩
  · exact (rn_bad wd wi hw h1 h8 h h0).elim (fun h9 => absurd rfl h9) (fun h9 => by omega)
theorem rb_fit {ys b ys1 : List UInt8} {e1 : Int} (h : rbytes ys 0 (ys.length : Int) = (b, ys1, e1)) : b = ys := by
  rcases Decidable.em (e1 = 0) with h0 | h0
  · exact (rb_ok h h0).2.1
  · exact absurd rfl (rb_bad h h0).1
theorem rb_all {ys b ys1 : List UInt8} {e e1 : Int} (h : rbytes ys e (ys.length : Int) = (b, ys1, e1)) (hb : 0 < b.length) : e = 0 ∧ b = ys ∧ ys1 = [] ∧ e1 = 0 := by
  rcases Decidable.em (e1 = 0) with h0 | h0
  · exact ⟨(rb_ok h h0).1, (rb_ok h h0).2.1, (rb_ok h h0).2.2, h0⟩
  · rw [(rb_bad h h0).2] at hb; simp at hb
theorem open6_bad {h : FR} (hk : h.kind = 6) {xs y1 b y2 : List UInt8} {v : Nat} {e1 e2 : Int} (h1 : rnum xs 0 2 = (v, y1, e1)) (h2 : rbytes y1 e1 (y1.length : Int) = (b, y2, e2)) (hb : b.length ≠ 64) : openP h xs = none := by
  have hl : xs.length ≠ 66 := fun hl => by
    obtain ⟨h3, h4⟩ := rn_fit 2 2 rfl (by omega) (by omega) h1 (by omega)
    subst h3
    have := rb_fit h2
    rw [this, h4] at hb
    simp at hb; omega
  simp [openP, hk, hl]
theorem open6_good {h : FR} (hk : h.kind = 6) {xs y1 b y2 : List UInt8} {v : Nat} {e1 e2 : Int} (h1 : rnum xs 0 2 = (v, y1, e1)) (h2 : rbytes y1 e1 (y1.length : Int) = (b, y2, e2)) (hb : b.length = 64) : openP h xs = some ⟨h.kind, h.sess, h.ep, h.seq, h.vol, h.n, h.f, (v : Int), h.code, b, h.list⟩ := by
  obtain ⟨h3, h4, _, _⟩ := rb_all h2 (by omega)
  obtain ⟨_, h5, h6, h7⟩ := rn_ok 2 2 rfl (by omega) (by omega) h1 h3
  have hl : xs.length = 66 := by rw [h4, h7] at hb; simp at hb; omega
  simp [openP, hk, hl, h6, h4, h7]
theorem open1_bad {h : FR} (hk : h.kind = 1) {xs y1 y2 y3 b y4 : List UInt8} {v1 v2 v3 : Nat} {e1 e2 e3 e4 : Int} (h1 : rnum xs 0 4 = (v1, y1, e1)) (h2 : rnum y1 e1 2 = (v2, y2, e2)) (h3 : rnum y2 e2 1 = (v3, y3, e3)) (h4 : rbytes y3 e3 (y3.length : Int) = (b, y4, e4)) (hb : b.length ≠ 32) : openP h xs = none := by
  have hl : xs.length ≠ 39 := fun hl => by
    obtain ⟨a1, b1⟩ := rn_fit 4 4 rfl (by omega) (by omega) h1 (by omega)
    subst a1
    obtain ⟨a2, b2⟩ := rn_fit 2 2 rfl (by omega) (by omega) h2 (by rw [b1]; simp; omega)
    subst a2
    obtain ⟨a3, b3⟩ := rn_fit 1 1 rfl (by omega) (by omega) h3 (by rw [b2, b1]; simp; omega)
    subst a3
    have := rb_fit h4
    rw [this, b3, b2, b1] at hb
    simp at hb; omega
  simp [openP, hk, hl]
theorem open1_good {h : FR} (hk : h.kind = 1) {xs y1 y2 y3 b y4 : List UInt8} {v1 v2 v3 : Nat} {e1 e2 e3 e4 : Int} (h1 : rnum xs 0 4 = (v1, y1, e1)) (h2 : rnum y1 e1 2 = (v2, y2, e2)) (h3 : rnum y2 e2 1 = (v3, y3, e3)) (h4 : rbytes y3 e3 (y3.length : Int) = (b, y4, e4)) (hb : b.length = 32) : openP h xs = some ⟨h.kind, h.sess, h.ep, h.seq, v1, (v2 : Int), (v3 : Int), h.index, h.code, b, h.list⟩ := by
  obtain ⟨a3, c1, _, _⟩ := rb_all h4 (by omega)
  obtain ⟨a2, l3, d3, m3⟩ := rn_ok 1 1 rfl (by omega) (by omega) h3 a3
  obtain ⟨a1, l2, d2, m2⟩ := rn_ok 2 2 rfl (by omega) (by omega) h2 a2
  obtain ⟨_, l1, d1, m1⟩ := rn_ok 4 4 rfl (by omega) (by omega) h1 a1
  have hl : xs.length = 39 := by rw [c1, m3, m2, m1] at hb; simp at hb; omega
  subst c1 m3 d3
  subst m2 d2
  subst m1 d1
  simp [openP, hk, hl]

set_option maxRecDepth 20000 in
set_option maxHeartbeats 1000000 in
theorem open_6 (h : FR) (hh : h = h.head) (hk : h.kind = 6) (a : Option Addr) (n c : Nat) (xs : List UInt8) (w : World) (hrd : Rd w a n c xs) :
    Calls Try.prog 15 #[frV h (.slice none 0 0), .slice a n c] w fun e w' => OpenR h xs w e w' := by
  have hl0 : h.list = [] := by rw [hh]; rfl
  have hal : Below w.heap.size w ((w.alloc (.cells (frC h (.slice none 0 0)) 26)).alloc (.cells (frC fr0 (.slice none 0 0)) 26)) := ((Below.refl _ _).alloc (Nat.le_refl _) _).alloc (by simp) _
  have hnw := new_any a n c xs _ (hrd.later hal)
  have HNW := Lib.hid hnw
  have HRD := Lib.hid hrd
  have HL0 := Lib.hid hl0
  have HH := Lib.hid hh
  have HKK := Lib.hid hk
  have HBG := Lib.hid (fun w2 p hp hr hb => op_begin h hl0 a n c xs w w2 p hrd hp hr hb)
  have hi0 : (Try.prog.info? 26).map (·.size) = some frZ.size := by kernel_rfl
  have ho0 : frZ.all (·.oneCell') = true := by simp [frZ, Value.oneCell']
  clear hnw hal hrd hl0 hh hk
  simp only [frC, fr0, strV, List.map_nil] at HNW
  unfold frV
  go_enter Try.func15, Try.ntmps15
  go_wp2
  refine wp_scope_once 0 rfl ?_
  go_wp2_with fail
  refine HNW.out.mono ?_
  rintro e w2 ⟨p, rfl, hp, hr, hb⟩
  have hop := HBG.out w2 p hp hr hb
  obtain ⟨f0, hf0⟩ : ∃ f, f = h := ⟨_, rfl⟩
  have HF0 := Lib.hid hf0
  have HOP0 := Lib.hid hop
  clear hp hr hb HBG HNW HRD hop hf0
  have k0 : w2.cell? ⟨w.heap.size, 0, none⟩ = some (.int .i64 6) := by rw [HOP0.out.cell 0, ← HKK.out]; rfl
  go_wp2_with fail
  obtain ⟨v1, ys1, e1, hr1⟩ : ∃ v y e, rnum xs 0 2 = (v, y, e) := ⟨_, _, _, rfl⟩
  have hv1 : v1 < 256 ^ 2 := by have := rnum_lt xs 0 2 2 rfl; rw [hr1] at this; exact this
  have HN1 := Lib.hid (op_num HOP0.out 2)
  rw [hr1] at HN1
  have HR1 := Lib.hid hr1
  have HV1 := Lib.hid hv1
  clear hr1 hv1
  refine HN1.out.mono ?_
  rintro r1 wa1 ⟨rfl, hop⟩
  have HA1 := Lib.hid hop
  have c1 : wa1.cell? ⟨w.heap.size, 7, none⟩ = some (.int .i64 h.index) := by rw [hop.cell 7]; rfl
  have fr1 : wa1.frozen? ⟨w.heap.size, 7, none⟩ = false := hop.free 7
  have wr1 : IntKind.i64.wrap ((v1 : Nat) : Int) = (v1 : Int) := by have := HV1.out; exact wrap_small _ (by omega) (by omega)
  have HOP1 := Lib.hid (hop.set 7 (.int .i64 (v1 : Int)) (f' := (⟨h.kind, h.sess, h.ep, h.seq, h.vol, h.n, h.f, (v1 : Int), h.code, h.data, h.list⟩ : FR)) rfl rfl)
  clear hop
  obtain ⟨wb1, hwb1⟩ : ∃ x, x = wa1.setCell ⟨w.heap.size, 7, none⟩ (.int .i64 (v1 : Int)) := ⟨_, rfl⟩
  rw [← hwb1] at HOP1
  have HWB1 := Lib.hid hwb1
  clear hwb1
  go_wp2_with fail
  rw [← HWB1.out]
  have HL9 := Lib.hid (op_left HOP1.out)
  obtain ⟨bz, yz, ez, hrz⟩ : ∃ b y e, rbytes ys1 e1 (ys1.length : Int) = (b, y, e) := ⟨_, _, _, rfl⟩
  have HBY := Lib.hid (op_bytes HOP1.out (ys1.length : Int))
  rw [hrz] at HBY
  have HRZ := Lib.hid hrz
  clear hrz
  refine HL9.out.mono ?_
  rintro r9 w3 ⟨rfl, hw1⟩; obtain rfl := hw1.symm; clear hw1
  go_wp2_with fail
  refine HBY.out.mono ?_
  rintro r9 wz ⟨a9, n9, c9, rfl, hrd9, hop9⟩
  have hbig : bz.length ≤ 9223372036854775807 := by rw [hrd9.len]; have := hrd9.big; omega
  obtain ⟨sz, hsz⟩ : ∃ s : ByteArray, s = ⟨bz.toArray⟩ := ⟨_, rfl⟩
  have hcv : (convert 29 9 (.slice a9 n9 c9)).run Try.prog wz = .ok (.string sz) wz := by rw [hsz]; exact rd_string hrd9
  have hszl : sz.size = bz.length := by rw [hsz]; simp [ByteArray.size]
  have cz : wz.cell? ⟨w.heap.size, 9, none⟩ = some (strV h.data) := by rw [hop9.cell 9]; rfl
  have frz : wz.frozen? ⟨w.heap.size, 9, none⟩ = false := hop9.free 9
  have hopz : OP w (wz.setCell ⟨w.heap.size, 9, none⟩ (.string sz)) p (⟨h.kind, h.sess, h.ep, h.seq, h.vol, h.n, h.f, (v1 : Int), h.code, bz, h.list⟩ : FR) (.slice none 0 0) yz ez := by rw [hsz]; exact hop9.set 9 (strV bz) (f' := (⟨h.kind, h.sess, h.ep, h.seq, h.vol, h.n, h.f, (v1 : Int), h.code, bz, h.list⟩ : FR)) rfl rfl
  have HSZ := Lib.hid hszl
  have HBG := Lib.hid hbig
  clear hrd9 hop9 hbig hsz hszl
  obtain ⟨wq, hwq⟩ : ∃ x, x = wz.setCell ⟨w.heap.size, 9, none⟩ (.string sz) := ⟨_, rfl⟩
  rw [← hwq] at hopz
  have HOPZ := Lib.hid hopz
  have HWQ := Lib.hid hwq
  clear hwq hopz
  go_wp2_with fail
  rw [← HWQ.out]
  clear hcv cz frz
  have HRT := Lib.hid (sright_any sz wq)
  by_cases hb : bz.length = 64
  · have HB := Lib.hid hb
    clear hb
    have hrt : sz.size = 64 := HSZ.out.trans HB.out
    refine HRT.out.mono ?_
    rintro r9 w3 ⟨rfl, hw1⟩; obtain rfl := hw1.symm; clear hw1
    have hrt2 : decide (sz.size = 64) = true := by simpa using hrt
    rw [hrt2]
    clear hrt hrt2
    go_wp2_with fail
    have HW1 := Lib.hid (op_why HOPZ.out)
    have HL1 := Lib.hid (op_left HOPZ.out)
    obtain ⟨en, hen⟩ : ∃ l : Int, l = ez := ⟨_, rfl⟩
    obtain ⟨ln, hln⟩ : ∃ l : Int, l = ((yz).length : Int) := ⟨_, rfl⟩
    rw [← hln] at HL1
    rw [← hen] at HW1
    have HEL := Lib.hid (And.intro hen hln)
    have hrs := HOPZ.out.res
    rw [frZ_eq] at hrs
    clear hen hln
    by_cases hz : en = 0
    · by_cases hz2 : 0 < ln
      · have HNO := Lib.hid (show openP h xs = none from absurd hz2 (by have h9 := (rb_all HRZ.out (by have := HB.out; omega)).2.2.1; have h8 := HEL.out.2; rw [h9] at h8; simp at h8; omega))
        obtain ⟨hw5, hb5, _⟩ := op_row HOPZ.out frZ
        have HB5 := Lib.hid hb5
        clear hb5
        subst hz
        refine HW1.out.mono ?_
        rintro r9 w3 ⟨rfl, hw1⟩; obtain rfl := hw1.symm; clear hw1
        go_wp2_with fail
        refine HL1.out.mono ?_
        rintro r9 w3 ⟨rfl, hw1⟩; obtain rfl := hw1.symm; clear hw1
        go_wp2
        go_step3
        refine ⟨rfl, ?_⟩
        go_wp2_with (with_reducible refine wpList_store_row (o := ⟨none, _, _, _, _, _⟩) rfl 26 (.tmp 4) (.tmp 99) rfl (w.heap.size + 1) frZ rfl rfl 26 frZ hrs hi0 rfl ho0 ?_)
        rw [Exit.noGoto_ret]
        refine bodyPost_ret (results_row_tmp (p := 4) (u := 5) (ty := 26) rfl _ _ (w.heap.size + 1) 26 frZ (0, 0) _ rfl hw5 Try.underlying26 rfl hi0) rfl ?_
        exact open_bad HNO.out rfl HB5.out
      · have HSO := Lib.hid (show openP h xs = some (⟨h.kind, h.sess, h.ep, h.seq, h.vol, h.n, h.f, (v1 : Int), h.code, bz, h.list⟩ : FR) from (open6_good HKK.out HR1.out HRZ.out HB.out))
        obtain ⟨hw5, hb5, hfm⟩ := op_row HOPZ.out (frC (⟨h.kind, h.sess, h.ep, h.seq, h.vol, h.n, h.f, (v1 : Int), h.code, bz, h.list⟩ : FR) (.slice none 0 0))
        have HB5 := Lib.hid hb5
        have HFM := Lib.hid hfm
        have hbx := HOPZ.out.box
        have ho1 : (frC (⟨h.kind, h.sess, h.ep, h.seq, h.vol, h.n, h.f, (v1 : Int), h.code, bz, h.list⟩ : FR) (.slice none 0 0)).all (·.oneCell') = true := frC_one _ _ _ _
        have hi1 : (Try.prog.info? 26).map (·.size) = some (frC (⟨h.kind, h.sess, h.ep, h.seq, h.vol, h.n, h.f, (v1 : Int), h.code, bz, h.list⟩ : FR) (.slice none 0 0)).size := by kernel_rfl
        have hs1 : frZ.size = (frC (⟨h.kind, h.sess, h.ep, h.seq, h.vol, h.n, h.f, (v1 : Int), h.code, bz, h.list⟩ : FR) (.slice none 0 0)).size := rfl
        clear hb5 hfm
        obtain ⟨Y, hY⟩ : ∃ Y, Y = frC (⟨h.kind, h.sess, h.ep, h.seq, h.vol, h.n, h.f, (v1 : Int), h.code, bz, h.list⟩ : FR) (.slice none 0 0) := ⟨_, rfl⟩
        rw [← hY] at hbx ho1 hi1 hw5 hs1
        have HB6 : Hid (Below w.heap.size w (wq.setRow (w.heap.size + 1) Y)) := Lib.hid (by rw [hY]; exact HB5.out)
        have HF6 : Hid (Frm (wq.setRow (w.heap.size + 1) Y) (⟨h.kind, h.sess, h.ep, h.seq, h.vol, h.n, h.f, (v1 : Int), h.code, bz, h.list⟩ : FR) (frV (⟨h.kind, h.sess, h.ep, h.seq, h.vol, h.n, h.f, (v1 : Int), h.code, bz, h.list⟩ : FR) (.slice none 0 0))) := Lib.hid (by rw [hY]; exact HFM.out)
        have HY := Lib.hid hY
        have HS1 := Lib.hid hs1
        clear hY HB5 HFM hs1
        subst hz
        have e3 : decide (0 < ln) = false := by simpa using hz2
        refine HW1.out.mono ?_
        rintro r9 w3 ⟨rfl, hw1⟩; obtain rfl := hw1.symm; clear hw1
        go_wp2_with fail
        refine HL1.out.mono ?_
        rintro r9 w3 ⟨rfl, hw1⟩; obtain rfl := hw1.symm; clear hw1
        go_wp2_with (first | (with_reducible refine wpList_load_row (o := ⟨some 98, _, _, _, _, _⟩) rfl 26 (.tmp 2) rfl w.heap.size rfl 26 Y (0, 0) _ hbx Try.underlying26 rfl hi1 ?_) | (with_reducible refine wpList_store_row (o := ⟨none, _, _, _, _, _⟩) rfl 26 (.tmp 4) (.tmp 98) rfl (w.heap.size + 1) Y rfl rfl 26 frZ hrs hi1 HS1.out ho1 ?_))
        refine bodyPost_ret (results_row_tmp (p := 4) (u := 5) (ty := 26) rfl _ _ (w.heap.size + 1) 26 Y (0, 0) _ rfl hw5 Try.underlying26 rfl hi1) rfl ?_
        exact open_good' HSO.out (by rw [HY.out]; rfl) HF6.out HB6.out
    · have HNO := Lib.hid (show openP h xs = none from absurd (rb_all HRZ.out (by have := HB.out; omega)).2.2.2 (by rw [← HEL.out.1]; exact hz))
      obtain ⟨hw5, hb5, _⟩ := op_row HOPZ.out frZ
      have HB5 := Lib.hid hb5
      clear hb5
      have e1x : (en == 0) = false := by simpa using hz
      have e2x : (en != 0) = true := by simpa using hz
      refine HW1.out.mono ?_
      rintro r9 w3 ⟨rfl, hw1⟩; obtain rfl := hw1.symm; clear hw1
      go_wp2
      go_step3
      refine ⟨rfl, ?_⟩
      go_wp2_with (with_reducible refine wpList_store_row (o := ⟨none, _, _, _, _, _⟩) rfl 26 (.tmp 4) (.tmp 99) rfl (w.heap.size + 1) frZ rfl rfl 26 frZ hrs hi0 rfl ho0 ?_)
      rw [Exit.noGoto_ret]
      refine bodyPost_ret (results_row_tmp (p := 4) (u := 5) (ty := 26) rfl _ _ (w.heap.size + 1) 26 frZ (0, 0) _ rfl hw5 Try.underlying26 rfl hi0) rfl ?_
      exact open_bad HNO.out rfl HB5.out
  · have HNO := Lib.hid (show openP h xs = none from (open6_bad HKK.out HR1.out HRZ.out hb))
    have hrt2 : decide (sz.size = 64) = false := by rw [HSZ.out]; simpa using hb
    obtain ⟨hw5, hb5, _⟩ := op_row HOPZ.out frZ
    have hrs := HOPZ.out.res
    rw [frZ_eq] at hrs
    have HB5 := Lib.hid hb5
    clear hb5 hb
    refine HRT.out.mono ?_
    rintro r9 w3 ⟨rfl, hw1⟩; obtain rfl := hw1.symm; clear hw1
    rw [hrt2]
    clear hrt2
    go_wp2
    go_step3
    refine ⟨rfl, ?_⟩
    go_wp2_with (with_reducible refine wpList_store_row (o := ⟨none, _, _, _, _, _⟩) rfl 26 (.tmp 4) (.tmp 99) rfl (w.heap.size + 1) frZ rfl rfl 26 frZ hrs hi0 rfl ho0 ?_)
    rw [Exit.noGoto_ret]
    refine bodyPost_ret (results_row_tmp (p := 4) (u := 5) (ty := 26) rfl _ _ (w.heap.size + 1) 26 frZ (0, 0) _ rfl hw5 Try.underlying26 rfl hi0) rfl ?_
    exact open_bad HNO.out rfl HB5.out
set_option maxRecDepth 20000 in
set_option maxHeartbeats 1000000 in
theorem open_1 (h : FR) (hh : h = h.head) (hk : h.kind = 1) (a : Option Addr) (n c : Nat) (xs : List UInt8) (w : World) (hrd : Rd w a n c xs) :
    Calls Try.prog 15 #[frV h (.slice none 0 0), .slice a n c] w fun e w' => OpenR h xs w e w' := by
  have hl0 : h.list = [] := by rw [hh]; rfl
  have hal : Below w.heap.size w ((w.alloc (.cells (frC h (.slice none 0 0)) 26)).alloc (.cells (frC fr0 (.slice none 0 0)) 26)) := ((Below.refl _ _).alloc (Nat.le_refl _) _).alloc (by simp) _
  have hnw := new_any a n c xs _ (hrd.later hal)
  have HNW := Lib.hid hnw
  have HRD := Lib.hid hrd
  have HL0 := Lib.hid hl0
  have HH := Lib.hid hh
  have HKK := Lib.hid hk
  have HBG := Lib.hid (fun w2 p hp hr hb => op_begin h hl0 a n c xs w w2 p hrd hp hr hb)
  have hi0 : (Try.prog.info? 26).map (·.size) = some frZ.size := by kernel_rfl
  have ho0 : frZ.all (·.oneCell') = true := by simp [frZ, Value.oneCell']
  clear hnw hal hrd hl0 hh hk
  simp only [frC, fr0, strV, List.map_nil] at HNW
  unfold frV
  go_enter Try.func15, Try.ntmps15
  go_wp2
  refine wp_scope_once 0 rfl ?_
  go_wp2_with fail
  refine HNW.out.mono ?_
  rintro e w2 ⟨p, rfl, hp, hr, hb⟩
  have hop := HBG.out w2 p hp hr hb
  obtain ⟨f0, hf0⟩ : ∃ f, f = h := ⟨_, rfl⟩
  have HF0 := Lib.hid hf0
  have HOP0 := Lib.hid hop
  clear hp hr hb HBG HNW HRD hop hf0
  have k0 : w2.cell? ⟨w.heap.size, 0, none⟩ = some (.int .i64 1) := by rw [HOP0.out.cell 0, ← HKK.out]; rfl
  go_wp2_with fail
  obtain ⟨v1, ys1, e1, hr1⟩ : ∃ v y e, rnum xs 0 4 = (v, y, e) := ⟨_, _, _, rfl⟩
  have hv1 : v1 < 256 ^ 4 := by have := rnum_lt xs 0 4 4 rfl; rw [hr1] at this; exact this
  have HN1 := Lib.hid (op_num HOP0.out 4)
  rw [hr1] at HN1
  have HR1 := Lib.hid hr1
  have HV1 := Lib.hid hv1
  clear hr1 hv1
  refine HN1.out.mono ?_
  rintro r1 wa1 ⟨rfl, hop⟩
  have HA1 := Lib.hid hop
  have c1 : wa1.cell? ⟨w.heap.size, 4, none⟩ = some (.int .u32 (h.vol : Int)) := by rw [hop.cell 4]; rfl
  have fr1 : wa1.frozen? ⟨w.heap.size, 4, none⟩ = false := hop.free 4
  have wr1 : IntKind.u32.wrap ((v1 : Nat) : Int) = (v1 : Int) := by have := HV1.out; rw [IntKind.wrap_u32]; omega
  have HOP1 := Lib.hid (hop.set 4 (.int .u32 (v1 : Int)) (f' := (⟨h.kind, h.sess, h.ep, h.seq, v1, h.n, h.f, h.index, h.code, h.data, h.list⟩ : FR)) rfl rfl)
  clear hop
  obtain ⟨wb1, hwb1⟩ : ∃ x, x = wa1.setCell ⟨w.heap.size, 4, none⟩ (.int .u32 (v1 : Int)) := ⟨_, rfl⟩
  rw [← hwb1] at HOP1
  have HWB1 := Lib.hid hwb1
  clear hwb1
  go_wp2_with fail
  rw [← HWB1.out]
  obtain ⟨v2, ys2, e2, hr2⟩ : ∃ v y e, rnum ys1 e1 2 = (v, y, e) := ⟨_, _, _, rfl⟩
  have hv2 : v2 < 256 ^ 2 := by have := rnum_lt ys1 e1 2 2 rfl; rw [hr2] at this; exact this
  have HN2 := Lib.hid (op_num HOP1.out 2)
  rw [hr2] at HN2
  have HR2 := Lib.hid hr2
  have HV2 := Lib.hid hv2
  clear hr2 hv2
  refine HN2.out.mono ?_
  rintro r1 wa2 ⟨rfl, hop⟩
  have HA2 := Lib.hid hop
  have c2 : wa2.cell? ⟨w.heap.size, 5, none⟩ = some (.int .i64 h.n) := by rw [hop.cell 5]; rfl
  have fr2 : wa2.frozen? ⟨w.heap.size, 5, none⟩ = false := hop.free 5
  have wr2 : IntKind.i64.wrap ((v2 : Nat) : Int) = (v2 : Int) := by have := HV2.out; exact wrap_small _ (by omega) (by omega)
  have HOP2 := Lib.hid (hop.set 5 (.int .i64 (v2 : Int)) (f' := (⟨h.kind, h.sess, h.ep, h.seq, v1, (v2 : Int), h.f, h.index, h.code, h.data, h.list⟩ : FR)) rfl rfl)
  clear hop
  obtain ⟨wb2, hwb2⟩ : ∃ x, x = wa2.setCell ⟨w.heap.size, 5, none⟩ (.int .i64 (v2 : Int)) := ⟨_, rfl⟩
  rw [← hwb2] at HOP2
  have HWB2 := Lib.hid hwb2
  clear hwb2
  go_wp2_with fail
  rw [← HWB2.out]
  obtain ⟨v3, ys3, e3, hr3⟩ : ∃ v y e, rnum ys2 e2 1 = (v, y, e) := ⟨_, _, _, rfl⟩
  have hv3 : v3 < 256 ^ 1 := by have := rnum_lt ys2 e2 1 1 rfl; rw [hr3] at this; exact this
  have HN3 := Lib.hid (op_num HOP2.out 1)
  rw [hr3] at HN3
  have HR3 := Lib.hid hr3
  have HV3 := Lib.hid hv3
  clear hr3 hv3
  refine HN3.out.mono ?_
  rintro r1 wa3 ⟨rfl, hop⟩
  have HA3 := Lib.hid hop
  have c3 : wa3.cell? ⟨w.heap.size, 6, none⟩ = some (.int .i64 h.f) := by rw [hop.cell 6]; rfl
  have fr3 : wa3.frozen? ⟨w.heap.size, 6, none⟩ = false := hop.free 6
  have wr3 : IntKind.i64.wrap ((v3 : Nat) : Int) = (v3 : Int) := by have := HV3.out; exact wrap_small _ (by omega) (by omega)
  have HOP3 := Lib.hid (hop.set 6 (.int .i64 (v3 : Int)) (f' := (⟨h.kind, h.sess, h.ep, h.seq, v1, (v2 : Int), (v3 : Int), h.index, h.code, h.data, h.list⟩ : FR)) rfl rfl)
  clear hop
  obtain ⟨wb3, hwb3⟩ : ∃ x, x = wa3.setCell ⟨w.heap.size, 6, none⟩ (.int .i64 (v3 : Int)) := ⟨_, rfl⟩
  rw [← hwb3] at HOP3
  have HWB3 := Lib.hid hwb3
  clear hwb3
  go_wp2_with fail
  rw [← HWB3.out]
  have HL9 := Lib.hid (op_left HOP3.out)
  obtain ⟨bz, yz, ez, hrz⟩ : ∃ b y e, rbytes ys3 e3 (ys3.length : Int) = (b, y, e) := ⟨_, _, _, rfl⟩
  have HBY := Lib.hid (op_bytes HOP3.out (ys3.length : Int))
  rw [hrz] at HBY
  have HRZ := Lib.hid hrz
  clear hrz
  refine HL9.out.mono ?_
  rintro r9 w3 ⟨rfl, hw1⟩; obtain rfl := hw1.symm; clear hw1
  go_wp2_with fail
  refine HBY.out.mono ?_
  rintro r9 wz ⟨a9, n9, c9, rfl, hrd9, hop9⟩
  have hbig : bz.length ≤ 9223372036854775807 := by rw [hrd9.len]; have := hrd9.big; omega
  obtain ⟨sz, hsz⟩ : ∃ s : ByteArray, s = ⟨bz.toArray⟩ := ⟨_, rfl⟩
  have hcv : (convert 29 9 (.slice a9 n9 c9)).run Try.prog wz = .ok (.string sz) wz := by rw [hsz]; exact rd_string hrd9
  have hszl : sz.size = bz.length := by rw [hsz]; simp [ByteArray.size]
  have cz : wz.cell? ⟨w.heap.size, 9, none⟩ = some (strV h.data) := by rw [hop9.cell 9]; rfl
  have frz : wz.frozen? ⟨w.heap.size, 9, none⟩ = false := hop9.free 9
  have hopz : OP w (wz.setCell ⟨w.heap.size, 9, none⟩ (.string sz)) p (⟨h.kind, h.sess, h.ep, h.seq, v1, (v2 : Int), (v3 : Int), h.index, h.code, bz, h.list⟩ : FR) (.slice none 0 0) yz ez := by rw [hsz]; exact hop9.set 9 (strV bz) (f' := (⟨h.kind, h.sess, h.ep, h.seq, v1, (v2 : Int), (v3 : Int), h.index, h.code, bz, h.list⟩ : FR)) rfl rfl
  have HSZ := Lib.hid hszl
  have HBG := Lib.hid hbig
  clear hrd9 hop9 hbig hsz hszl
  obtain ⟨wq, hwq⟩ : ∃ x, x = wz.setCell ⟨w.heap.size, 9, none⟩ (.string sz) := ⟨_, rfl⟩
  rw [← hwq] at hopz
  have HOPZ := Lib.hid hopz
  have HWQ := Lib.hid hwq
  clear hwq hopz
  go_wp2_with fail
  rw [← HWQ.out]
  clear hcv cz frz
  have HRT := Lib.hid (dright_any sz wq (by rw [HSZ.out]; exact HBG.out))
  by_cases hb : bz.length = 32
  · have HB := Lib.hid hb
    clear hb
    have hrt : sz.size = 32 := HSZ.out.trans HB.out
    refine HRT.out.mono ?_
    rintro r9 w3 ⟨rfl, hw1⟩; obtain rfl := hw1.symm; clear hw1
    have hrt2 : decide (sz.size = 32) = true := by simpa using hrt
    rw [hrt2]
    clear hrt hrt2
    go_wp2_with fail
    have HW1 := Lib.hid (op_why HOPZ.out)
    have HL1 := Lib.hid (op_left HOPZ.out)
    obtain ⟨en, hen⟩ : ∃ l : Int, l = ez := ⟨_, rfl⟩
    obtain ⟨ln, hln⟩ : ∃ l : Int, l = ((yz).length : Int) := ⟨_, rfl⟩
    rw [← hln] at HL1
    rw [← hen] at HW1
    have HEL := Lib.hid (And.intro hen hln)
    have hrs := HOPZ.out.res
    rw [frZ_eq] at hrs
    clear hen hln
    by_cases hz : en = 0
    · by_cases hz2 : 0 < ln
      · have HNO := Lib.hid (show openP h xs = none from absurd hz2 (by have h9 := (rb_all HRZ.out (by have := HB.out; omega)).2.2.1; have h8 := HEL.out.2; rw [h9] at h8; simp at h8; omega))
        obtain ⟨hw5, hb5, _⟩ := op_row HOPZ.out frZ
        have HB5 := Lib.hid hb5
        clear hb5
        subst hz
        refine HW1.out.mono ?_
        rintro r9 w3 ⟨rfl, hw1⟩; obtain rfl := hw1.symm; clear hw1
        go_wp2_with fail
        refine HL1.out.mono ?_
        rintro r9 w3 ⟨rfl, hw1⟩; obtain rfl := hw1.symm; clear hw1
        go_wp2
        go_step3
        refine ⟨rfl, ?_⟩
        go_wp2_with (with_reducible refine wpList_store_row (o := ⟨none, _, _, _, _, _⟩) rfl 26 (.tmp 4) (.tmp 99) rfl (w.heap.size + 1) frZ rfl rfl 26 frZ hrs hi0 rfl ho0 ?_)
        rw [Exit.noGoto_ret]
        refine bodyPost_ret (results_row_tmp (p := 4) (u := 5) (ty := 26) rfl _ _ (w.heap.size + 1) 26 frZ (0, 0) _ rfl hw5 Try.underlying26 rfl hi0) rfl ?_
        exact open_bad HNO.out rfl HB5.out
      · have HSO := Lib.hid (show openP h xs = some (⟨h.kind, h.sess, h.ep, h.seq, v1, (v2 : Int), (v3 : Int), h.index, h.code, bz, h.list⟩ : FR) from (open1_good HKK.out HR1.out HR2.out HR3.out HRZ.out HB.out))
        obtain ⟨hw5, hb5, hfm⟩ := op_row HOPZ.out (frC (⟨h.kind, h.sess, h.ep, h.seq, v1, (v2 : Int), (v3 : Int), h.index, h.code, bz, h.list⟩ : FR) (.slice none 0 0))
        have HB5 := Lib.hid hb5
        have HFM := Lib.hid hfm
        have hbx := HOPZ.out.box
        have ho1 : (frC (⟨h.kind, h.sess, h.ep, h.seq, v1, (v2 : Int), (v3 : Int), h.index, h.code, bz, h.list⟩ : FR) (.slice none 0 0)).all (·.oneCell') = true := frC_one _ _ _ _
        have hi1 : (Try.prog.info? 26).map (·.size) = some (frC (⟨h.kind, h.sess, h.ep, h.seq, v1, (v2 : Int), (v3 : Int), h.index, h.code, bz, h.list⟩ : FR) (.slice none 0 0)).size := by kernel_rfl
        have hs1 : frZ.size = (frC (⟨h.kind, h.sess, h.ep, h.seq, v1, (v2 : Int), (v3 : Int), h.index, h.code, bz, h.list⟩ : FR) (.slice none 0 0)).size := rfl
        clear hb5 hfm
        obtain ⟨Y, hY⟩ : ∃ Y, Y = frC (⟨h.kind, h.sess, h.ep, h.seq, v1, (v2 : Int), (v3 : Int), h.index, h.code, bz, h.list⟩ : FR) (.slice none 0 0) := ⟨_, rfl⟩
        rw [← hY] at hbx ho1 hi1 hw5 hs1
        have HB6 : Hid (Below w.heap.size w (wq.setRow (w.heap.size + 1) Y)) := Lib.hid (by rw [hY]; exact HB5.out)
        have HF6 : Hid (Frm (wq.setRow (w.heap.size + 1) Y) (⟨h.kind, h.sess, h.ep, h.seq, v1, (v2 : Int), (v3 : Int), h.index, h.code, bz, h.list⟩ : FR) (frV (⟨h.kind, h.sess, h.ep, h.seq, v1, (v2 : Int), (v3 : Int), h.index, h.code, bz, h.list⟩ : FR) (.slice none 0 0))) := Lib.hid (by rw [hY]; exact HFM.out)
        have HY := Lib.hid hY
        have HS1 := Lib.hid hs1
        clear hY HB5 HFM hs1
        subst hz
        have e3 : decide (0 < ln) = false := by simpa using hz2
        refine HW1.out.mono ?_
        rintro r9 w3 ⟨rfl, hw1⟩; obtain rfl := hw1.symm; clear hw1
        go_wp2_with fail
        refine HL1.out.mono ?_
        rintro r9 w3 ⟨rfl, hw1⟩; obtain rfl := hw1.symm; clear hw1
        go_wp2_with (first | (with_reducible refine wpList_load_row (o := ⟨some 98, _, _, _, _, _⟩) rfl 26 (.tmp 2) rfl w.heap.size rfl 26 Y (0, 0) _ hbx Try.underlying26 rfl hi1 ?_) | (with_reducible refine wpList_store_row (o := ⟨none, _, _, _, _, _⟩) rfl 26 (.tmp 4) (.tmp 98) rfl (w.heap.size + 1) Y rfl rfl 26 frZ hrs hi1 HS1.out ho1 ?_))
        refine bodyPost_ret (results_row_tmp (p := 4) (u := 5) (ty := 26) rfl _ _ (w.heap.size + 1) 26 Y (0, 0) _ rfl hw5 Try.underlying26 rfl hi1) rfl ?_
        exact open_good' HSO.out (by rw [HY.out]; rfl) HF6.out HB6.out
    · have HNO := Lib.hid (show openP h xs = none from absurd (rb_all HRZ.out (by have := HB.out; omega)).2.2.2 (by rw [← HEL.out.1]; exact hz))
      obtain ⟨hw5, hb5, _⟩ := op_row HOPZ.out frZ
      have HB5 := Lib.hid hb5
      clear hb5
      have e1x : (en == 0) = false := by simpa using hz
      have e2x : (en != 0) = true := by simpa using hz
      refine HW1.out.mono ?_
      rintro r9 w3 ⟨rfl, hw1⟩; obtain rfl := hw1.symm; clear hw1
      go_wp2
      go_step3
      refine ⟨rfl, ?_⟩
      go_wp2_with (with_reducible refine wpList_store_row (o := ⟨none, _, _, _, _, _⟩) rfl 26 (.tmp 4) (.tmp 99) rfl (w.heap.size + 1) frZ rfl rfl 26 frZ hrs hi0 rfl ho0 ?_)
      rw [Exit.noGoto_ret]
      refine bodyPost_ret (results_row_tmp (p := 4) (u := 5) (ty := 26) rfl _ _ (w.heap.size + 1) 26 frZ (0, 0) _ rfl hw5 Try.underlying26 rfl hi0) rfl ?_
      exact open_bad HNO.out rfl HB5.out
  · have HNO := Lib.hid (show openP h xs = none from (open1_bad HKK.out HR1.out HR2.out HR3.out HRZ.out hb))
    have hrt2 : decide (sz.size = 32) = false := by rw [HSZ.out]; simpa using hb
    obtain ⟨hw5, hb5, _⟩ := op_row HOPZ.out frZ
    have hrs := HOPZ.out.res
    rw [frZ_eq] at hrs
    have HB5 := Lib.hid hb5
    clear hb5 hb
    refine HRT.out.mono ?_
    rintro r9 w3 ⟨rfl, hw1⟩; obtain rfl := hw1.symm; clear hw1
    rw [hrt2]
    clear hrt2
    go_wp2
    go_step3
    refine ⟨rfl, ?_⟩
    go_wp2_with (with_reducible refine wpList_store_row (o := ⟨none, _, _, _, _, _⟩) rfl 26 (.tmp 4) (.tmp 99) rfl (w.heap.size + 1) frZ rfl rfl 26 frZ hrs hi0 rfl ho0 ?_)
    rw [Exit.noGoto_ret]
    refine bodyPost_ret (results_row_tmp (p := 4) (u := 5) (ty := 26) rfl _ _ (w.heap.size + 1) 26 frZ (0, 0) _ rfl hw5 Try.underlying26 rfl hi0) rfl ?_
    exact open_bad HNO.out rfl HB5.out
end Go.Proofs.Ytipegdfjpmlcbaa


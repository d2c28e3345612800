/-
  Volumes as records: the reference's Config.
-/
import Derived.Test.YtfbkiohaoakahaaDoorRF
import Derived.Test.YtfbkiohaoakahaaDoorA7
namespace Go.Proofs.YtfbkiohaoakahaaDoor
open Go.RowKit
set_option linter.unusedVariables false
set_option linter.unusedSimpArgs false

/-- The reference's reader at p: what is left. -/
def RX (w : World) (p : Nat) (ys : List UInt8) : Prop := ∃ xs i, RS w p p xs i 0 ∧ xs.drop i = ys

theorem RX.frame {w w' : World} {p : Nat} {ys : List UInt8} (h : RX w p ys) (hs : w.heap.size ≤ w'.heap.size) (hb : ∀ k, k ≤ p → w'.heap[k]? = w.heap[k]?) : RX w' p ys := by
  obtain ⟨xs, i, hr, hd⟩ := h
  obtain ⟨a, n, cap, hbk, hrd, hi, hlB, hBq⟩ := hr.blk
  exact ⟨xs, i, ⟨a, n, cap, (hb p (Nat.le_refl _)).trans hbk, hrd.kept0 hs (fun b off e h0 => hb b (Nat.le_of_lt (hlB _ e h0))), hi, hlB, hBq⟩, hd⟩

theorem RX.lt {w : World} {p : Nat} {ys : List UInt8} (h : RX w p ys) : p < w.heap.size := by
  obtain ⟨xs, i, hr, hd⟩ := h
  exact hr.lt

theorem RX.new {w : World} {a : Option Addr} {n c : Nat} {b : List UInt8} (h : Rd w a n c b) : RX (w.alloc (.cells #[.slice a n c, .int .i64 0, .int .i64 0] 57)) w.heap.size b := by
  refine ⟨b, 0, ⟨a, n, c, heap_alloc_new w _, h.later ((Below.refl _ _).alloc (Nat.le_refl _) _), Nat.zero_le _, fun x e h0 => ?_, Nat.le_refl _⟩, rfl⟩
  obtain ⟨bb, off, ha, hlt, -⟩ := h.at0 h0
  rw [ha] at e
  cases e
  exact hlt

theorem rnum_ok (p : Nat) (ys : List UInt8) (wd : Nat) (w : World) (h : RX w p ys) (h1 : 1 ≤ wd) (h8 : wd ≤ 8) (hl : wd ≤ ys.length) :
    Calls Tryd.prog 32 #[.pointer (some ⟨p, 0, none⟩), .int .i64 wd] w fun r w' => r = .returned (.int .u64 (numN (ys.take wd) : Int)) ∧ RX w' p (ys.drop wd) ∧ w.grownBy w' (some p) := by
  obtain ⟨xs, i, hr, hd⟩ := h
  have hrest : restOf xs i 0 = ys := hd
  have hrn : rnum ys 0 wd = (numN (ys.take wd), ys.drop wd, 0) := by
    unfold rnum; rw [if_neg (by simp), if_neg (by omega), if_neg (by omega)]; simp
  have := rnum_any p p xs i 0 wd w hr
  rw [hrest, hrn] at this
  refine this.mono ?_
  rintro r w' ⟨he, hg, i', hr', hd'⟩
  exact ⟨he, ⟨xs, i', hr', hd'⟩, hg⟩

/-- While the reference reads a volume. -/
structure XSt (r p q : Nat) (w0 w : World) (ys : List UInt8) (c : Array Value) : Prop where
  rx : RX w p ys
  bq : w.heap[q]? = some (.cells c 36 (0, 0))
  rz : Rz w0 w r
  rp : r < p
  pq : p < q

theorem Rz.grown {w0 w w' : World} {r p : Nat} (h : Rz w0 w r) (hg : w.grownBy w' (some p)) (hrp : r < p) : Rz w0 w' r := by
  have hr := h.hr
  exact ⟨(hg.block r (lt_of_block h.br) (fun e => by cases e; omega)).trans h.br, hr, h.fr.grown hg h.fr.size (fun k e => by cases e; omega)⟩

theorem Rz.set {w0 w : World} {r q i : Nat} {v : Value} (h : Rz w0 w r) (hrq : r < q) : Rz w0 (w.setCell ⟨q, i, none⟩ v) r := by
  have hr := h.hr
  refine ⟨?_, hr, h.fr.setCell (by simp; omega) v⟩
  rw [Below.heap_setCell _ _ _ _ (by simp; omega)]; exact h.br

theorem XSt.num {r p q : Nat} {w0 w : World} {xs : List UInt8} {i : Nat} {c : Array Value} (wd : Nat) (h : XSt r p q w0 w (xs.drop i) c) (h1 : 1 ≤ wd) (h8 : wd ≤ 8) (hl : i + wd ≤ xs.length) :
    Calls Tryd.prog 32 #[.pointer (some ⟨p, 0, none⟩), .int .i64 wd] w fun e w' => e = .returned (.int .u64 (fld xs i wd : Int)) ∧ XSt r p q w0 w' (xs.drop (i + wd)) c := by
  refine (rnum_ok p (xs.drop i) wd w h.rx h1 h8 (by rw [List.length_drop]; omega)).mono ?_
  rintro e w' ⟨rfl, hrx, hg⟩
  rw [List.drop_drop] at hrx
  refine ⟨rfl, hrx, ?_, h.rz.grown hg h.rp, h.rp, h.pq⟩
  exact (hg.block q (lt_of_block h.bq) (fun e => by have := h.pq; cases e; omega)).trans h.bq

theorem XSt.set {r p q : Nat} {w0 w : World} {ys : List UInt8} {c : Array Value} (h : XSt r p q w0 w ys c) (i : Nat) (v : Value) :
    XSt r p q w0 (w.setCell ⟨q, i, none⟩ v) ys (c.setIfInBounds i v) := by
  have hpq := h.pq
  have hrp := h.rp
  refine ⟨h.rx.frame (by simp [World.setCell]) (fun k hk => ?_), blk_setCell h.bq, h.rz.set (by omega), hrp, hpq⟩
  rw [Below.heap_setCell _ _ _ _ (by simp; omega)]

theorem XSt.new {r p : Nat} {w0 w : World} {ys : List UInt8} (h : RX w p ys) (hz : Rz w0 w r) (hrp : r < p) (c : Array Value) :
    XSt r p w.heap.size w0 (w.alloc (.cells c 36)) ys c := by
  have hp := h.lt
  have hb : Below w.heap.size w (w.alloc (.cells c 36)) := (Below.refl _ _).alloc (Nat.le_refl _) _
  exact ⟨h.frame hb.size (fun k hk => hb.block k (by omega)), heap_alloc_new w _, hz.keep hb, hrp, hp⟩

theorem volP_2 (side V N F C U L : Int) : (volP side V N F C U L).2 = faultN side N F C U L := by
  unfold volP
  split
  · rename_i h
    unfold makeP
    rw [if_neg (by omega), if_neg (by rw [volL_length]; omega), h]
  · rfl

set_option maxRecDepth 20000 in
set_option maxHeartbeats 4000000 in
theorem rconfig_any (xs : List UInt8) (w : World) :
    Calls Tryd.prog 17 #[strV xs] w fun e w' => e = .returned (configV xs) ∧ Below w.heap.size w w' := by
  have ho := fun w => ropen_any 1 xs w
  unfold tupV at ho
  have hrz := Rz.new w
  by_cases h0 : (openP 1 xs).2 = 0
  · obtain ⟨b, hb⟩ : ∃ b, b = (openP 1 xs).1 := ⟨_, rfl⟩
    have hc : configV xs = if b.length ≠ 20 ∨ bodyN b ≠ 0 then sideV 0 0 0 0 0 0 0 6 else sideV (fld b 0 1) (fld b 1 4) (fld b 5 2) (fld b 7 1) (fld b 8 2) (fld b 10 2) (fld b 12 8) 0 := by
      rw [hb]; unfold configV; rw [if_neg (by omega)]
    rw [hc]
    rw [h0, ← hb] at ho
    clear h0 hb hc
    have hln := fun w => len_str b w
    have HO := Lib.hid ho
    have HZ := Lib.hid hrz
    by_cases hl : b.length = 20
    · have hcv := fun w => cv_str b (by omega) w
      rw [hl] at hcv
      have k1 : fld b 0 1 < 256 := fld_lt b 0 1 (by omega)
      have k2 : fld b 1 4 < 4294967296 := fld_lt b 1 4 (by omega)
      have k3 : fld b 5 2 < 65536 := fld_lt b 5 2 (by omega)
      have k4 : fld b 7 1 < 256 := fld_lt b 7 1 (by omega)
      have k5 : fld b 8 2 < 65536 := fld_lt b 8 2 (by omega)
      have k6 : fld b 10 2 < 65536 := fld_lt b 10 2 (by omega)
      have hrv := fun w => rvolume_any (fld b 0 1) (fld b 1 4) (fld b 5 2) (fld b 7 1) (fld b 8 2) (fld b 10 2) (fld b 12 8) (by omega) (by omega) w
      unfold tupV at hrv
      rw [volP_2] at hrv
      have hif : (if b.length ≠ 20 ∨ bodyN b ≠ 0 then sideV 0 0 0 0 0 0 0 6 else sideV (fld b 0 1) (fld b 1 4) (fld b 5 2) (fld b 7 1) (fld b 8 2) (fld b 10 2) (fld b 12 8) 0) = (if bodyN b ≠ 0 then sideV 0 0 0 0 0 0 0 6 else sideV (fld b 0 1) (fld b 1 4) (fld b 5 2) (fld b 7 1) (fld b 8 2) (fld b 10 2) (fld b 12 8) 0) := by
        by_cases hx : bodyN b ≠ 0
        · rw [if_pos (.inr hx), if_pos hx]
        · rw [if_neg (fun h => h.elim (fun h => h hl) hx), if_neg hx]
      rw [hif]
      have HL := Lib.hid hl
      rw [hl] at hln
      have hbe : faultN (fld b 0 1) (fld b 5 2) (fld b 7 1) (fld b 8 2) (fld b 10 2) (fld b 12 8) = bodyN b := rfl
      rw [hbe] at hrv
      unfold sideV
      generalize strV (volP (fld b 0 1) (fld b 1 4) (fld b 5 2) (fld b 7 1) (fld b 8 2) (fld b 10 2) (fld b 12 8)).1 = RV at *
      generalize bodyN b = bn at *
      generalize hB : strV b = B at *
      generalize strV xs = V at *
      have HRV := Lib.hid hrv
      have HCV := Lib.hid hcv
      unfold conf at *
      clear hif ho hrz hl hrv hcv hbe hB
      by_cases hbn : bn = 0
      · rw [if_neg (fun h => h hbn)]
        subst hbn
        go_enter Tryd.func17, Tryd.ntmps17
        go_wp2_with fail
        refine (HO.out _).mono ?_
        rintro r w1 ⟨rfl, hb⟩
        obtain ⟨cc, w2, hcv, hrd, hb2⟩ := HCV.out w1
        have hz1 := HZ.out.keep hb
        have HZ2 := Lib.hid (hz1.keep hb2)
        have HRP := Lib.hid (show w.heap.size < w2.heap.size from Nat.lt_of_lt_of_le (lt_of_block hz1.br) hb2.size)
        have HR2 := Lib.hid hrd
        obtain ⟨g, hg⟩ : ∃ g, g = w1.heap.size := ⟨_, rfl⟩
        rw [← hg] at HR2 hcv
        clear hb hb2 hz1 hrd hg
        go_wp2_with fail
        have h3 := rnum_ok w2.heap.size b 1 _ (RX.new HR2.out) (by omega) (by omega) (by have := HL.out; omega)
        refine h3.mono ?_
        rintro r w3 ⟨rfl, hrx, hgb⟩
        have HZ3 := Lib.hid ((HZ2.out.keep ((Below.refl _ _).alloc (Nat.le_refl _) _)).grown hgb HRP.out)
        have HX3 := Lib.hid hrx
        clear h3 hrx hgb hcv HR2
        have hk1 : numN (List.take 1 b) = fld b 0 1 := rfl
        rw [hk1]
        go_wp2_with fail
        have h4 := rnum_ok w2.heap.size (b.drop 1) 4 w3 HX3.out (by omega) (by omega) (by have := HL.out; rw [List.length_drop]; omega)
        refine h4.mono ?_
        rintro r w4 ⟨rfl, hrx, hgb⟩
        have HZ4 := Lib.hid (HZ3.out.grown hgb HRP.out)
        rw [List.drop_drop] at hrx
        have hk2 : numN (List.take 4 (b.drop 1)) = fld b 1 4 := rfl
        rw [hk2]
        have HX4 := Lib.hid (XSt.new hrx HZ4.out HRP.out #[.int .u32 (fld b 1 4), .int .i64 0, .int .i64 0, .int .i64 0, .int .i64 0, .int .u64 0])
        clear h4 hrx hgb HX3 HZ3
        go_wp2_with fail
        refine (XSt.num (i := 5) 2 HX4.out (by omega) (by omega) (by have := HL.out; omega)).mono ?_
        rintro r w5 ⟨rfl, hv⟩
        have c0 := cell_of_blk hv.bq 1
        have hz := free_of_blk hv.bq 1
        have HX5 := Lib.hid hv
        simp at c0
        clear hv HX4
        go_wp2_with fail
        clear c0 hz
        refine (XSt.num (i := 7) 1 (HX5.out.set 1 _) (by omega) (by omega) (by have := HL.out; omega)).mono ?_
        rintro r w6 ⟨rfl, hv⟩
        have c0 := cell_of_blk hv.bq 2
        have hz := free_of_blk hv.bq 2
        have HX6 := Lib.hid hv
        simp at c0
        clear hv HX5
        go_wp2_with fail
        clear c0 hz
        refine (XSt.num (i := 8) 2 (HX6.out.set 2 _) (by omega) (by omega) (by have := HL.out; omega)).mono ?_
        rintro r w7 ⟨rfl, hv⟩
        have c0 := cell_of_blk hv.bq 3
        have hz := free_of_blk hv.bq 3
        have HX7 := Lib.hid hv
        simp at c0
        clear hv HX6
        go_wp2_with fail
        clear c0 hz
        refine (XSt.num (i := 10) 2 (HX7.out.set 3 _) (by omega) (by omega) (by have := HL.out; omega)).mono ?_
        rintro r w8 ⟨rfl, hv⟩
        have c0 := cell_of_blk hv.bq 4
        have hz := free_of_blk hv.bq 4
        have HX8 := Lib.hid hv
        simp at c0
        clear hv HX7
        go_wp2_with fail
        clear c0 hz
        refine (XSt.num (i := 12) 8 (HX8.out.set 4 _) (by omega) (by omega) (by have := HL.out; omega)).mono ?_
        rintro r w9 ⟨rfl, hv⟩
        have c0 := cell_of_blk hv.bq 5
        have hz := free_of_blk hv.bq 5
        have HX9 := Lib.hid hv
        simp at c0
        have b0 := cell_of_blk hv.bq 0
        have b1 := cell_of_blk hv.bq 1
        have b2 := cell_of_blk hv.bq 2
        have b3 := cell_of_blk hv.bq 3
        have b4 := cell_of_blk hv.bq 4
        simp at b0 b1 b2 b3 b4
        clear hv HX8
        go_wp2_with fail
        refine (HRV.out _).mono ?_
        rintro r w10 ⟨rfl, hb⟩
        have hx := HX9.out.set 5 (.int .u64 (fld b 12 8))
        have HZ10 := Lib.hid (hx.rz.keep hb)
        obtain ⟨⟨r0, r1, r2, r3, r4, r5⟩, rz⟩ := HZ10.out.cells
        have hbq := (hb.block _ (lt_of_block hx.bq)).trans hx.bq
        clear b0 b1 b2 b3 b4 c0 hz
        have b0 := cell_of_blk hbq 0
        have b1 := cell_of_blk hbq 1
        have b2 := cell_of_blk hbq 2
        have b3 := cell_of_blk hbq 3
        have b4 := cell_of_blk hbq 4
        have b5 := cell_of_blk hbq 5
        simp at b0 b1 b2 b3 b4 b5
        have hne : w.heap.size ≠ w4.heap.size := by have := hx.rp; have := hx.pq; omega
        clear hb hx HX9 hbq
        obtain ⟨q, hq⟩ : ∃ q, q = w4.heap.size := ⟨_, rfl⟩
        rw [← hq] at b0 b1 b2 b3 b4 b5 hne ⊢
        clear hq
        go_wp2_with fail
        go_region
        change Exit.then _ _ _ _ (put6 w10 w.heap.size (.int .u32 (fld b 1 4)) (.int .i64 (fld b 5 2)) (.int .i64 (fld b 7 1)) (.int .i64 (fld b 8 2)) (.int .i64 (fld b 10 2)) (.int .u64 (fld b 12 8))).drew
        clear r0 r1 r2 r3 r4 r5 b0 b1 b2 b3 b4 b5 rz hne
        have hcs := put6_cells HZ10.out.br (.int .u32 (fld b 1 4)) (.int .i64 (fld b 5 2)) (.int .i64 (fld b 7 1)) (.int .i64 (fld b 8 2)) (.int .i64 (fld b 10 2)) (.int .u64 (fld b 12 8))
        have hfr := (put6_below HZ10.out.fr HZ10.out.hr (.int .u32 (fld b 1 4)) (.int .i64 (fld b 5 2)) (.int .i64 (fld b 7 1)) (.int .i64 (fld b 8 2)) (.int .i64 (fld b 10 2)) (.int .u64 (fld b 12 8))).drew
        obtain ⟨w11, hw⟩ : ∃ w11, w11 = (put6 w10 w.heap.size (.int .u32 (fld b 1 4)) (.int .i64 (fld b 5 2)) (.int .i64 (fld b 7 1)) (.int .i64 (fld b 8 2)) (.int .i64 (fld b 10 2)) (.int .u64 (fld b 12 8))).drew := ⟨_, rfl⟩
        rw [← hw] at hcs hfr ⊢
        obtain ⟨q0, q1, q2, q3, q4, q5⟩ := hcs
        clear k1 k2 k3 k4 k5 k6
        go_wp2
        refine bodyPost_ret (by simp [results, Tryd.results17, go_sem, q0, q1, q2, q3, q4, q5]; try rfl) rfl ?_
        exact ⟨rfl, hfr⟩
      · rw [if_pos hbn]
        have he : ((bn : Int) == 0) = false := by simpa using hbn
        have he2 : ((bn : Int) != 0) = true := by simpa using hbn
        go_enter Tryd.func17, Tryd.ntmps17
        go_wp2_with fail
        refine (HO.out _).mono ?_
        rintro r w1 ⟨rfl, hb⟩
        obtain ⟨cc, w2, hcv, hrd, hb2⟩ := HCV.out w1
        have hz1 := HZ.out.keep hb
        have HZ2 := Lib.hid (hz1.keep hb2)
        have HRP := Lib.hid (show w.heap.size < w2.heap.size from Nat.lt_of_lt_of_le (lt_of_block hz1.br) hb2.size)
        have HR2 := Lib.hid hrd
        obtain ⟨g, hg⟩ : ∃ g, g = w1.heap.size := ⟨_, rfl⟩
        rw [← hg] at HR2 hcv
        clear hb hb2 hz1 hrd hg
        go_wp2_with fail
        have h3 := rnum_ok w2.heap.size b 1 _ (RX.new HR2.out) (by omega) (by omega) (by have := HL.out; omega)
        refine h3.mono ?_
        rintro r w3 ⟨rfl, hrx, hgb⟩
        have HZ3 := Lib.hid ((HZ2.out.keep ((Below.refl _ _).alloc (Nat.le_refl _) _)).grown hgb HRP.out)
        have HX3 := Lib.hid hrx
        clear h3 hrx hgb hcv HR2
        have hk1 : numN (List.take 1 b) = fld b 0 1 := rfl
        rw [hk1]
        go_wp2_with fail
        have h4 := rnum_ok w2.heap.size (b.drop 1) 4 w3 HX3.out (by omega) (by omega) (by have := HL.out; rw [List.length_drop]; omega)
        refine h4.mono ?_
        rintro r w4 ⟨rfl, hrx, hgb⟩
        have HZ4 := Lib.hid (HZ3.out.grown hgb HRP.out)
        rw [List.drop_drop] at hrx
        have hk2 : numN (List.take 4 (b.drop 1)) = fld b 1 4 := rfl
        rw [hk2]
        have HX4 := Lib.hid (XSt.new hrx HZ4.out HRP.out #[.int .u32 (fld b 1 4), .int .i64 0, .int .i64 0, .int .i64 0, .int .i64 0, .int .u64 0])
        clear h4 hrx hgb HX3 HZ3
        go_wp2_with fail
        refine (XSt.num (i := 5) 2 HX4.out (by omega) (by omega) (by have := HL.out; omega)).mono ?_
        rintro r w5 ⟨rfl, hv⟩
        have c0 := cell_of_blk hv.bq 1
        have hz := free_of_blk hv.bq 1
        have HX5 := Lib.hid hv
        simp at c0
        clear hv HX4
        go_wp2_with fail
        clear c0 hz
        refine (XSt.num (i := 7) 1 (HX5.out.set 1 _) (by omega) (by omega) (by have := HL.out; omega)).mono ?_
        rintro r w6 ⟨rfl, hv⟩
        have c0 := cell_of_blk hv.bq 2
        have hz := free_of_blk hv.bq 2
        have HX6 := Lib.hid hv
        simp at c0
        clear hv HX5
        go_wp2_with fail
        clear c0 hz
        refine (XSt.num (i := 8) 2 (HX6.out.set 2 _) (by omega) (by omega) (by have := HL.out; omega)).mono ?_
        rintro r w7 ⟨rfl, hv⟩
        have c0 := cell_of_blk hv.bq 3
        have hz := free_of_blk hv.bq 3
        have HX7 := Lib.hid hv
        simp at c0
        clear hv HX6
        go_wp2_with fail
        clear c0 hz
        refine (XSt.num (i := 10) 2 (HX7.out.set 3 _) (by omega) (by omega) (by have := HL.out; omega)).mono ?_
        rintro r w8 ⟨rfl, hv⟩
        have c0 := cell_of_blk hv.bq 4
        have hz := free_of_blk hv.bq 4
        have HX8 := Lib.hid hv
        simp at c0
        clear hv HX7
        go_wp2_with fail
        clear c0 hz
        refine (XSt.num (i := 12) 8 (HX8.out.set 4 _) (by omega) (by omega) (by have := HL.out; omega)).mono ?_
        rintro r w9 ⟨rfl, hv⟩
        have c0 := cell_of_blk hv.bq 5
        have hz := free_of_blk hv.bq 5
        have HX9 := Lib.hid hv
        simp at c0
        have b0 := cell_of_blk hv.bq 0
        have b1 := cell_of_blk hv.bq 1
        have b2 := cell_of_blk hv.bq 2
        have b3 := cell_of_blk hv.bq 3
        have b4 := cell_of_blk hv.bq 4
        simp at b0 b1 b2 b3 b4
        clear hv HX8
        go_wp2_with fail
        refine (HRV.out _).mono ?_
        rintro r w10 ⟨rfl, hb⟩
        have hx := HX9.out.set 5 (.int .u64 (fld b 12 8))
        have HZ10 := Lib.hid (hx.rz.keep hb)
        obtain ⟨⟨r0, r1, r2, r3, r4, r5⟩, rz⟩ := HZ10.out.cells
        have hbq := (hb.block _ (lt_of_block hx.bq)).trans hx.bq
        clear b0 b1 b2 b3 b4 c0 hz
        clear hb hx HX9 hbq
        go_wp2
        change bodyPost _ _ _ _ _ (put6 w10 w.heap.size (.int .u32 0) (.int .i64 0) (.int .i64 0) (.int .i64 0) (.int .i64 0) (.int .u64 0))
        have hcs := put6_cells0 HZ10.out.br (.int .u32 0) (.int .i64 0) (.int .i64 0) (.int .i64 0) (.int .i64 0) (.int .u64 0)
        have hfr := put6_below HZ10.out.fr HZ10.out.hr (.int .u32 0) (.int .i64 0) (.int .i64 0) (.int .i64 0) (.int .i64 0) (.int .u64 0)
        obtain ⟨w11, hw⟩ : ∃ w11, w11 = (put6 w10 w.heap.size (.int .u32 0) (.int .i64 0) (.int .i64 0) (.int .i64 0) (.int .i64 0) (.int .u64 0)) := ⟨_, rfl⟩
        rw [← hw] at hcs hfr ⊢
        obtain ⟨q0, q1, q2, q3, q4, q5⟩ := hcs
        refine bodyPost_ret (by simp [results, Tryd.results17, go_sem, q0, q1, q2, q3, q4, q5]; try rfl) rfl ?_
        exact ⟨rfl, hfr⟩
    · have hif : (if b.length ≠ 20 ∨ bodyN b ≠ 0 then sideV 0 0 0 0 0 0 0 6 else sideV (fld b 0 1) (fld b 1 4) (fld b 5 2) (fld b 7 1) (fld b 8 2) (fld b 10 2) (fld b 12 8) 0) = sideV 0 0 0 0 0 0 0 6 := if_pos (.inl hl)
      rw [hif]
      unfold sideV conf
      generalize hbl : b.length = bl at *
      have hl2 : ((bl : Int) == 20) = false := by simpa using (by omega : ¬ ((bl : Int) = 20))
      have hl3 : ((bl : Int) != 20) = true := by simpa using (by omega : ¬ ((bl : Int) = 20))
      generalize strV b = B at *
      generalize strV xs = V at *
      clear hif hl hbl ho hrz
      go_enter Tryd.func17, Tryd.ntmps17
      go_wp2_with fail
      refine (HO.out _).mono ?_
      rintro r w1 ⟨rfl, hb⟩
      have HZ1 := Lib.hid (HZ.out.keep hb)
      obtain ⟨⟨r0, r1, r2, r3, r4, r5⟩, rz⟩ := HZ1.out.cells
      clear hb HZ HO
      go_wp2
      change bodyPost _ _ _ _ _ (put6 w1 w.heap.size (.int .u32 0) (.int .i64 0) (.int .i64 0) (.int .i64 0) (.int .i64 0) (.int .u64 0))
      have hcs := put6_cells0 HZ1.out.br (.int .u32 0) (.int .i64 0) (.int .i64 0) (.int .i64 0) (.int .i64 0) (.int .u64 0)
      have hfr := put6_below HZ1.out.fr HZ1.out.hr (.int .u32 0) (.int .i64 0) (.int .i64 0) (.int .i64 0) (.int .i64 0) (.int .u64 0)
      obtain ⟨w2, hw⟩ : ∃ w2, w2 = (put6 w1 w.heap.size (.int .u32 0) (.int .i64 0) (.int .i64 0) (.int .i64 0) (.int .i64 0) (.int .u64 0)) := ⟨_, rfl⟩
      rw [← hw] at hcs hfr ⊢
      obtain ⟨q0, q1, q2, q3, q4, q5⟩ := hcs
      refine bodyPost_ret (by simp [results, Tryd.results17, go_sem, q0, q1, q2, q3, q4, q5]; try rfl) rfl ?_
      exact ⟨rfl, hfr⟩
  · have hc : configV xs = sideV 0 0 0 0 0 0 0 (openP 1 xs).2 := if_pos h0
    rw [hc]
    generalize (openP 1 xs).2 = e at *
    generalize strV (openP 1 xs).1 = B at *
    generalize strV xs = V at *
    have he : ((e : Int) == 0) = false := by simpa using h0
    have he2 : ((e : Int) != 0) = true := by simpa using h0
    have HO := Lib.hid ho
    have HZ := Lib.hid hrz
    unfold sideV conf
    clear hc h0 ho hrz
    go_enter Tryd.func17, Tryd.ntmps17
    go_wp2_with fail
    refine (HO.out _).mono ?_
    rintro r w1 ⟨rfl, hb⟩
    have HZ1 := Lib.hid (HZ.out.keep hb)
    obtain ⟨⟨r0, r1, r2, r3, r4, r5⟩, rz⟩ := HZ1.out.cells
    clear hb HZ HO
    go_wp2
    change bodyPost _ _ _ _ _ (put6 w1 w.heap.size (.int .u32 0) (.int .i64 0) (.int .i64 0) (.int .i64 0) (.int .i64 0) (.int .u64 0))
    have hcs := put6_cells0 HZ1.out.br (.int .u32 0) (.int .i64 0) (.int .i64 0) (.int .i64 0) (.int .i64 0) (.int .u64 0)
    have hfr := put6_below HZ1.out.fr HZ1.out.hr (.int .u32 0) (.int .i64 0) (.int .i64 0) (.int .i64 0) (.int .i64 0) (.int .u64 0)
    obtain ⟨w2, hw⟩ : ∃ w2, w2 = (put6 w1 w.heap.size (.int .u32 0) (.int .i64 0) (.int .i64 0) (.int .i64 0) (.int .i64 0) (.int .u64 0)) := ⟨_, rfl⟩
    rw [← hw] at hcs hfr ⊢
    obtain ⟨q0, q1, q2, q3, q4, q5⟩ := hcs
    refine bodyPost_ret (by simp [results, Tryd.results17, go_sem, q0, q1, q2, q3, q4, q5]; try rfl) rfl ?_
    exact ⟨rfl, hfr⟩

end Go.Proofs.YtfbkiohaoakahaaDoor


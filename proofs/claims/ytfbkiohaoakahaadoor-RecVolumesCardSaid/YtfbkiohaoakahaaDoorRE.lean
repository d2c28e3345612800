/-
  Volumes as records: the program's reading of a volume's bytes.
-/
import Derived.Test.YtfbkiohaoakahaaDoorRD
import Derived.Test.YtfbkiohaoakahaaDoorA4
namespace Go.Proofs.YtfbkiohaoakahaaDoor
open Go.RowKit
set_option linter.unusedVariables false
set_option linter.unusedSimpArgs false

/-- A number inside bytes. -/
def fld (xs : List UInt8) (i k : Nat) : Nat := numN ((xs.drop i).take k)
theorem fld_lt (xs : List UInt8) (i k : Nat) (h : i + k ≤ xs.length) : fld xs i k < 256 ^ k := by
  unfold fld
  exact numN_lt (xs.drop i) k (by rw [List.length_drop]; omega)

/-- Cells of an empty configuration. -/
def z6 : Array Value := #[.int .u32 0, .int .i64 0, .int .i64 0, .int .i64 0, .int .i64 0, .int .u64 0]

/-- While a volume is read: the reader at p, the volume at q, the result at r. -/
structure VSt (B r p q : Nat) (w0 w : World) (ys : List UInt8) (c : Array Value) : Prop where
  rw : RW w p ys 0
  bq : w.heap[q]? = some (.cells c 36 (0, 0))
  br : w.heap[r]? = some (.cells z6 36 (0, 0))
  hB : B ≤ r
  rp : r < p
  pq : p < q
  sz : B ≤ w.heap.size
  fr : Below B w0 w

theorem num_ok (p : Nat) (ys : List UInt8) (wd : Nat) (w : World) (h : RW w p ys 0) (h1 : 1 ≤ wd) (h8 : wd ≤ 8) (hl : wd ≤ ys.length) :
    Calls Tryd.prog 48 #[.pointer (some ⟨p, 0, none⟩), .int .i64 wd] w fun r w' => r = .returned (.int .u64 (numN (ys.take wd) : Int)) ∧ RW w' p (ys.drop wd) 0 ∧ w.grownBy w' (some p) := by
  have hr : rnum ys 0 wd = (numN (ys.take wd), ys.drop wd, 0) := by
    unfold rnum; rw [if_neg (by simp), if_neg (by omega), if_neg (by omega)]; simp
  have := num_any p ys 0 wd w h
  rw [hr] at this
  exact this

theorem VSt.num {B r p q : Nat} {w0 w : World} {xs : List UInt8} {i : Nat} {c : Array Value} (wd : Nat) (h : VSt B r p q w0 w (xs.drop i) c) (h1 : 1 ≤ wd) (h8 : wd ≤ 8) (hl : i + wd ≤ xs.length) :
    Calls Tryd.prog 48 #[.pointer (some ⟨p, 0, none⟩), .int .i64 wd] w fun e w' => e = .returned (.int .u64 (fld xs i wd : Int)) ∧ VSt B r p q w0 w' (xs.drop (i + wd)) c := by
  refine (num_ok p (xs.drop i) wd w h.rw h1 h8 (by rw [List.length_drop]; omega)).mono ?_
  rintro e w' ⟨rfl, hrw, hg⟩
  rw [List.drop_drop] at hrw
  refine ⟨rfl, hrw, ?_, ?_, h.hB, h.rp, h.pq, ?_, ?_⟩
  · exact (hg.block q (lt_of_block h.bq) (fun e => by have := h.pq; cases e; omega)).trans h.bq
  · exact (hg.block r (lt_of_block h.br) (fun e => by have := h.rp; cases e; omega)).trans h.br
  · exact Nat.le_trans h.sz hg.size
  · exact h.fr.grown hg h.sz (fun k e => by cases e; have := h.hB; have := h.rp; omega)

theorem VSt.set {B r p q : Nat} {w0 w : World} {ys : List UInt8} {c : Array Value} (h : VSt B r p q w0 w ys c) (i : Nat) (v : Value) :
    VSt B r p q w0 (w.setCell ⟨q, i, none⟩ v) ys (c.setIfInBounds i v) := by
  have hpq := h.pq
  have hrp := h.rp
  have hBr := h.hB
  refine ⟨?_, blk_setCell h.bq, ?_, hBr, hrp, hpq, by simpa [World.setCell] using h.sz, h.fr.setCell (by simp; omega) v⟩
  · obtain ⟨a, n, cap, hb, hr, hl⟩ := h.rw.blk
    refine ⟨a, n, cap, ?_, hr.kept_set (fun x e _ => Nat.lt_trans (hl x e) hpq), hl⟩
    rw [Below.heap_setCell _ _ _ _ (by simp; omega)]; exact hb
  · rw [Below.heap_setCell _ _ _ _ (by simp; omega)]; exact h.br

theorem VSt.new {B r p : Nat} {w0 w : World} {ys : List UInt8} (h : RW w p ys 0) (hr : w.heap[r]? = some (.cells z6 36 (0, 0))) (hB : B ≤ r) (hrp : r < p) (hf : Below B w0 w) :
    VSt B r p w.heap.size w0 (w.alloc (.cells z6 36)) ys z6 := by
  have hp := h.lt
  have hb : Below w.heap.size w (w.alloc (.cells z6 36)) := (Below.refl _ _).alloc (Nat.le_refl _) _
  refine ⟨h.below hb, heap_alloc_new w _, (hb.block r (by omega)).trans hr, hB, hrp, hp, ?_, hf.trans (hb.mono (by omega))⟩
  have := hb.size
  omega

/-- Six cells put. -/
def put6 (w : World) (r : Nat) (v0 v1 v2 v3 v4 v5 : Value) : World :=
  ((((((w.setCell ⟨r, 0, none⟩ v0).setCell ⟨r, 1, none⟩ v1).setCell ⟨r, 2, none⟩ v2).setCell ⟨r, 3, none⟩ v3).setCell ⟨r, 4, none⟩ v4).setCell ⟨r, 5, none⟩ v5)

theorem put6_blk {w : World} {r : Nat} {c0 c1 c2 c3 c4 c5 : Value} {t : TypeId} (h : w.heap[r]? = some (.cells #[c0, c1, c2, c3, c4, c5] t (0, 0))) (v0 v1 v2 v3 v4 v5 : Value) :
    (put6 w r v0 v1 v2 v3 v4 v5).heap[r]? = some (.cells #[v0, v1, v2, v3, v4, v5] t (0, 0)) := by
  have := blk_setCell (i := 5) (u := v5) (blk_setCell (i := 4) (u := v4) (blk_setCell (i := 3) (u := v3) (blk_setCell (i := 2) (u := v2) (blk_setCell (i := 1) (u := v1) (blk_setCell (i := 0) (u := v0) h)))))
  refine this.trans ?_
  rfl

theorem put6_below {B : Nat} {w0 w : World} {r : Nat} (h : Below B w0 w) (hr : B ≤ r) (v0 v1 v2 v3 v4 v5 : Value) : Below B w0 (put6 w r v0 v1 v2 v3 v4 v5) :=
  ((((((h.setCell (p := ⟨r, 0, none⟩) hr v0).setCell (p := ⟨r, 1, none⟩) hr v1).setCell (p := ⟨r, 2, none⟩) hr v2).setCell (p := ⟨r, 3, none⟩) hr v3).setCell (p := ⟨r, 4, none⟩) hr v4).setCell (p := ⟨r, 5, none⟩) hr v5)

theorem put6_cells {w : World} {r : Nat} {c0 c1 c2 c3 c4 c5 : Value} {t : TypeId} (h : w.heap[r]? = some (.cells #[c0, c1, c2, c3, c4, c5] t (0, 0))) (v0 v1 v2 v3 v4 v5 : Value) :
    (put6 w r v0 v1 v2 v3 v4 v5).drew.cell? ⟨r, 0, none⟩ = some v0 ∧ (put6 w r v0 v1 v2 v3 v4 v5).drew.cell? ⟨r, 1, none⟩ = some v1 ∧ (put6 w r v0 v1 v2 v3 v4 v5).drew.cell? ⟨r, 2, none⟩ = some v2 ∧ (put6 w r v0 v1 v2 v3 v4 v5).drew.cell? ⟨r, 3, none⟩ = some v3 ∧ (put6 w r v0 v1 v2 v3 v4 v5).drew.cell? ⟨r, 4, none⟩ = some v4 ∧ (put6 w r v0 v1 v2 v3 v4 v5).drew.cell? ⟨r, 5, none⟩ = some v5 := by
  have hb : (put6 w r v0 v1 v2 v3 v4 v5).heap[r]? = some (.cells #[v0, v1, v2, v3, v4, v5] t (0, 0)) := put6_blk h v0 v1 v2 v3 v4 v5
  generalize put6 w r v0 v1 v2 v3 v4 v5 = w' at *
  have hb' : w'.drew.heap[r]? = some (.cells #[v0, v1, v2, v3, v4, v5] t (0, 0)) := hb
  exact ⟨cell_of_blk hb' 0, cell_of_blk hb' 1, cell_of_blk hb' 2, cell_of_blk hb' 3, cell_of_blk hb' 4, cell_of_blk hb' 5⟩

/-- What the body of a volume tells. -/
def volumeV (xs : List UInt8) : Value :=
  .tuple #[.int .i64 (fld xs 0 1), conf (fld xs 1 4) (fld xs 5 2) (fld xs 7 1) (fld xs 8 2) (fld xs 10 2) (fld xs 12 8)]

set_option maxRecDepth 20000 in
set_option maxHeartbeats 4000000 in
theorem read_any (xs : List UInt8) (hl : xs.length = 20) (w : World) :
    Calls Tryd.prog 31 #[strV xs] w fun e w' => e = .returned (volumeV xs) ∧ Below w.heap.size w w' := by
  unfold volumeV
  have k1 : fld xs 0 1 < 256 := fld_lt xs 0 1 (by omega)
  have k2 : fld xs 1 4 < 4294967296 := fld_lt xs 1 4 (by omega)
  have k3 : fld xs 5 2 < 65536 := fld_lt xs 5 2 (by omega)
  have k4 : fld xs 7 1 < 256 := fld_lt xs 7 1 (by omega)
  have k5 : fld xs 8 2 < 65536 := fld_lt xs 8 2 (by omega)
  have k6 : fld xs 10 2 < 65536 := fld_lt xs 10 2 (by omega)
  obtain ⟨c, w1, hcv, hrd, hb1⟩ := cv_str xs (by omega) (w.alloc (.cells #[.int .u32 0, .int .i64 0, .int .i64 0, .int .i64 0, .int .i64 0, .int .u64 0] 36))
  have hb0 : Below w.heap.size w (w.alloc (.cells #[.int .u32 0, .int .i64 0, .int .i64 0, .int .i64 0, .int .i64 0, .int .u64 0] 36)) := (Below.refl _ _).alloc (Nat.le_refl _) _
  have hr1 : w1.heap[w.heap.size]? = some (.cells z6 36 (0, 0)) := (hb1.block w.heap.size (by simp)).trans (heap_alloc_new w _)
  have hs1 : w.heap.size + 1 ≤ w1.heap.size := by have := hb1.size; simpa using this
  have hf1 : Below w.heap.size w w1 := hb0.trans (hb1.mono (by simp))
  rw [hl] at hcv hrd
  obtain ⟨g, hg⟩ : ∃ g, g = (w.alloc (.cells #[.int .u32 0, .int .i64 0, .int .i64 0, .int .i64 0, .int .i64 0, .int .u64 0] 36)).heap.size := ⟨_, rfl⟩
  rw [← hg] at hcv hrd
  obtain ⟨V, hV⟩ : ∃ V, V = strV xs := ⟨_, rfl⟩
  rw [← hV] at hcv ⊢
  have hn := new_any (some ⟨g, 0, none⟩) 20 c xs w1 hrd
  have HN := Lib.hid hn
  have HR1 := Lib.hid hr1
  have HS1 := Lib.hid hs1
  have HF1 := Lib.hid hf1
  have HL := Lib.hid hl
  clear hn hr1 hs1 hf1 hl hrd hb1 hb0 hg hV
  go_enter Tryd.func31, Tryd.ntmps31
  go_wp2_with fail
  refine HN.out.mono ?_
  rintro e w2 ⟨p, rfl, hp, hrw, hb⟩
  have h2 := num_ok p xs 1 w2 hrw (by omega) (by omega) (by have := HL.out; omega)
  have HF2 := Lib.hid (HF1.out.trans (hb.mono (by have := HS1.out; omega)))
  have HR2 := Lib.hid ((hb.block w.heap.size (by have := HS1.out; omega)).trans HR1.out)
  have HP := Lib.hid (show w.heap.size < p by have := HS1.out; omega)
  have HW2 := Lib.hid (show w.heap.size ≤ w2.heap.size by have := HS1.out; have := hb.size; omega)
  have H2 := Lib.hid h2
  clear h2 hb hrw hp hcv HR1 HF1 HS1 HN
  go_wp2_with fail
  refine H2.out.mono ?_
  rintro e w3 ⟨rfl, hrw, hgb⟩
  have hf3 := HF2.out.grown hgb HW2.out (fun k e => by cases e; have := HP.out; omega)
  have hr3 := (hgb.block w.heap.size (lt_of_block HR2.out) (fun e => by have := HP.out; cases e; omega)).trans HR2.out
  have HV3 := Lib.hid (VSt.new hrw hr3 (Nat.le_refl _) HP.out hf3)
  clear hrw hgb hf3 hr3 H2 HW2 HP HR2 HF2
  have hk1 : numN (List.take 1 xs) = fld xs 0 1 := rfl
  rw [hk1]
  go_wp2_with fail
  refine (VSt.num (i := 1) 4 HV3.out (by omega) (by omega) (by have := HL.out; omega)).mono ?_
  rintro e w4 ⟨rfl, hv⟩
  have c0 := cell_of_blk hv.bq 0
  have hz := free_of_blk hv.bq 0
  have HV4 := Lib.hid hv
  simp [z6] at c0
  clear hv HV3
  go_wp2_with fail
  clear c0 hz
  refine (VSt.num (i := 5) 2 (HV4.out.set 0 _) (by omega) (by omega) (by have := HL.out; omega)).mono ?_
  rintro e w5 ⟨rfl, hv⟩
  have c0 := cell_of_blk hv.bq 1
  have hz := free_of_blk hv.bq 1
  have HV5 := Lib.hid hv
  simp [z6] at c0
  clear hv HV4
  go_wp2_with fail
  clear c0 hz
  refine (VSt.num (i := 7) 1 (HV5.out.set 1 _) (by omega) (by omega) (by have := HL.out; omega)).mono ?_
  rintro e w6 ⟨rfl, hv⟩
  have c0 := cell_of_blk hv.bq 2
  have hz := free_of_blk hv.bq 2
  have HV6 := Lib.hid hv
  simp [z6] at c0
  clear hv HV5
  go_wp2_with fail
  clear c0 hz
  refine (VSt.num (i := 8) 2 (HV6.out.set 2 _) (by omega) (by omega) (by have := HL.out; omega)).mono ?_
  rintro e w7 ⟨rfl, hv⟩
  have c0 := cell_of_blk hv.bq 3
  have hz := free_of_blk hv.bq 3
  have HV7 := Lib.hid hv
  simp [z6] at c0
  clear hv HV6
  go_wp2_with fail
  clear c0 hz
  refine (VSt.num (i := 10) 2 (HV7.out.set 3 _) (by omega) (by omega) (by have := HL.out; omega)).mono ?_
  rintro e w8 ⟨rfl, hv⟩
  have c0 := cell_of_blk hv.bq 4
  have hz := free_of_blk hv.bq 4
  have HV8 := Lib.hid hv
  simp [z6] at c0
  clear hv HV7
  go_wp2_with fail
  clear c0 hz
  refine (VSt.num (i := 12) 8 (HV8.out.set 4 _) (by omega) (by omega) (by have := HL.out; omega)).mono ?_
  rintro e w9 ⟨rfl, hv⟩
  have c0 := cell_of_blk hv.bq 5
  have hz := free_of_blk hv.bq 5
  have HV9 := Lib.hid hv
  simp [z6] at c0
  clear hv HV8
  go_wp2_with fail
  have hv := HV9.out.set 5 (.int .u64 (fld xs 12 8))
  obtain ⟨w10, hw⟩ : ∃ w10, w10 = w9.setCell ⟨w3.heap.size, 5, none⟩ (.int .u64 (fld xs 12 8)) := ⟨_, rfl⟩
  rw [← hw] at hv ⊢
  obtain ⟨q, hq⟩ : ∃ q, q = w3.heap.size := ⟨_, rfl⟩
  rw [← hq] at hv ⊢
  have b0 := cell_of_blk hv.bq 0
  have b1 := cell_of_blk hv.bq 1
  have b2 := cell_of_blk hv.bq 2
  have b3 := cell_of_blk hv.bq 3
  have b4 := cell_of_blk hv.bq 4
  have b5 := cell_of_blk hv.bq 5
  have r0 := cell_of_blk hv.br 0
  have r1 := cell_of_blk hv.br 1
  have r2 := cell_of_blk hv.br 2
  have r3 := cell_of_blk hv.br 3
  have r4 := cell_of_blk hv.br 4
  have r5 := cell_of_blk hv.br 5
  have rz := free_of_blk hv.br
  simp [z6] at b0 b1 b2 b3 b4 b5 r0 r1 r2 r3 r4 r5
  have hne : w.heap.size ≠ q := by have := hv.rp; have := hv.pq; omega
  have HF := Lib.hid hv.fr
  have HBR := Lib.hid hv.br
  clear hv hw hq HV9 hk1 HL c0 hz
  go_region
  change Exit.then _ _ _ _ (put6 w10 w.heap.size (.int .u32 (fld xs 1 4)) (.int .i64 (fld xs 5 2)) (.int .i64 (fld xs 7 1)) (.int .i64 (fld xs 8 2)) (.int .i64 (fld xs 10 2)) (.int .u64 (fld xs 12 8))).drew
  have hcs := put6_cells HBR.out (.int .u32 (fld xs 1 4)) (.int .i64 (fld xs 5 2)) (.int .i64 (fld xs 7 1)) (.int .i64 (fld xs 8 2)) (.int .i64 (fld xs 10 2)) (.int .u64 (fld xs 12 8))
  have hfr := (put6_below HF.out (Nat.le_refl _) (.int .u32 (fld xs 1 4)) (.int .i64 (fld xs 5 2)) (.int .i64 (fld xs 7 1)) (.int .i64 (fld xs 8 2)) (.int .i64 (fld xs 10 2)) (.int .u64 (fld xs 12 8))).drew
  obtain ⟨w11, hw⟩ : ∃ w11, w11 = (put6 w10 w.heap.size (.int .u32 (fld xs 1 4)) (.int .i64 (fld xs 5 2)) (.int .i64 (fld xs 7 1)) (.int .i64 (fld xs 8 2)) (.int .i64 (fld xs 10 2)) (.int .u64 (fld xs 12 8))).drew := ⟨_, rfl⟩
  rw [← hw] at hcs hfr ⊢
  clear r0 r1 r2 r3 r4 r5
  obtain ⟨r0, r1, r2, r3, r4, r5⟩ := hcs
  have HF2 := Lib.hid hfr
  clear HBR HF b0 b1 b2 b3 b4 b5 rz hne hw hfr k1 k2 k3 k4 k5 k6
  go_wp2
  refine bodyPost_ret (by simp [results, Tryd.results31, go_sem, r0, r1, r2, r3, r4, r5]; try rfl) rfl ?_
  exact ⟨rfl, HF2.out⟩

end Go.Proofs.YtfbkiohaoakahaaDoor


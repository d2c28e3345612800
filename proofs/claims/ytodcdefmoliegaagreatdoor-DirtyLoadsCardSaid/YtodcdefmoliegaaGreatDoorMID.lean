/-
  Texts put together: ID.
-/
import Derived.Test.YtodcdefmoliegaaGreatDoorMIC
import Derived.Test.YtodcdefmoliegaaGreatDoorA4
/-
  Contracts: both From.
-/
namespace Go.Proofs.YtodcdefmoliegaaGreatDoor
open Go.RowKit
set_option linter.unusedVariables false
set_option linter.unusedSimpArgs false

def fromP (xs : List UInt8) : (Nat × Nat) × Nat := if xs.length = 16 then ((numN (xs.take 8), numN (xs.drop 8)), 0) else ((0, 0), 4)
def fromV (xs : List UInt8) : Value := .tuple #[setV (fromP xs).1.1 (fromP xs).1.2, .int .i64 ((fromP xs).2 : Int)]
theorem brnum_eight (ys : List UInt8) (h : 8 ≤ ys.length) : rnum ys 0 8 = (numN (ys.take 8), ys.drop 8, 0) := by
  unfold rnum
  rw [if_neg (by simp), if_neg (by omega), if_neg (by omega)]
  rfl
theorem Box2.grown {W W' b t x y row} (h : Box2 W b t x y) (hg : W.grownBy W' row) (hne : row ≠ some b) : Box2 W' b t x y := (hg.block b h.lt (fun e => hne e.symm)).trans h
theorem RW.setc {w : World} {p : Nat} {ys : List UInt8} {e : Int} (h : RW w p ys e) (b i : Nat) (v : Value) (hb : p < b) : RW (w.setCell ⟨b, i, none⟩ v) p ys e := by
  obtain ⟨a, n, cap, h1, h2, h3⟩ := h.blk
  have hk : ∀ k, k ≠ b → (w.setCell ⟨b, i, none⟩ v).heap[k]? = w.heap[k]? := fun k hk => by simp [World.setCell, Array.getElem?_modify]; intro e; exact absurd e.symm hk
  refine ⟨⟨a, n, cap, (hk p (by omega)).trans h1, ?_, h3⟩⟩
  refine ⟨h2.len, h2.le, h2.big, h2.cm, fun h0 => ?_, h2.nil⟩
  obtain ⟨g, off, e, hl, hc⟩ := h2.at0 h0
  have hgp := h3 _ e
  have hgp' : g < p := hgp
  refine ⟨g, off, e, by simpa using hl, fun j hj => ?_⟩
  rw [World.cell?_setCell_other _ _ _ _ (fun e => by have := congrArg Addr.block e; simp at this; omega)]
  exact hc j hj

theorem numN8 (xs : List UInt8) (h : 8 ≤ xs.length) : numN (xs.take 8) < 18446744073709551616 := numN_lt xs 8 h
theorem numN8' (xs : List UInt8) (h : xs.length = 16) : numN (xs.drop 8) < 18446744073709551616 := by
  have e : (xs.drop 8).take 8 = xs.drop 8 := List.take_of_length_le (by rw [List.length_drop]; omega)
  have := numN_lt (xs.drop 8) 8 (by rw [List.length_drop]; omega)
  rwa [e] at this

set_option maxRecDepth 20000 in
set_option maxHeartbeats 4000000 in
theorem from_any (s : ByteArray) (w : World) :
    Calls Tryz.prog 54 #[.string s] w fun e w' => e = .returned (fromV s.data.toList) ∧ Below w.heap.size w w' := by
  have hsl : s.data.toList.length = s.size := rfl
  have bR := Box2.new w 39 (.int .u64 0) (.int .u64 0)
  have hB0 : Below w.heap.size w (w.alloc (.cells #[.int .u64 0, .int .u64 0] 39)) := (Below.refl _ w).alloc (Nat.le_refl _) _
  by_cases h16 : s.size = 16
  · have hv : fromV s.data.toList = .tuple #[setV (numN (s.data.toList.take 8)) (numN (s.data.toList.drop 8)), .int .i64 0] := by
      unfold fromV fromP
      rw [if_pos (by rw [hsl]; exact h16)]; rfl
    rw [hv]
    obtain ⟨c, w1, hcv, hrd, hb1⟩ := cv_rd s (by omega) (w.alloc (.cells #[.int .u64 0, .int .u64 0] 39))
    obtain ⟨g, hg⟩ : ∃ g, g = (w.alloc (.cells #[.int .u64 0, .int .u64 0] 39)).heap.size := ⟨_, rfl⟩
    rw [← hg, h16] at hcv hrd
    have hR1 := bR.below hb1 bR.lt
    have hB1 := hB0.trans (hb1.mono hB0.size)
    have i1 : (s.size : Int) = 16 := by omega
    have hn := new_any (some ⟨g, 0, none⟩) 16 c s.data.toList w1 hrd
    have hnum := fun (p : Nat) (ys : List UInt8) (h8 : 8 ≤ ys.length) w (h : RW w p ys 0) => num_any p ys 0 8 w h
    have HNUM := Lib.hid hnum
    have HN := Lib.hid hn
    have HR1 := Lib.hid hR1
    have HB1 := Lib.hid hB1
    have hxl : s.data.toList.length = 16 := by omega
    generalize s.data.toList = xs at *
    have HXL := Lib.hid hxl
    have HCV := Lib.hid hcv
    clear hn hR1 hB1 hv hg hrd hb1 hnum hB0 bR hsl hxl hcv h16
    have hcv := HCV.out
    unfold setV
    go_enter Tryz.func54, Tryz.ntmps54
    go_wp2_with fail
    refine HN.out.mono ?_
    rintro r w2 ⟨p, rfl, hp, hrw, hb2⟩
    have hR2 := HR1.out.below hb2 HR1.out.lt
    have hB2 := HB1.out.trans (hb2.mono HB1.out.size)
    have hpl := hrw.lt
    have hwp : w.heap.size < p := Nat.lt_of_lt_of_le HR1.out.lt hp
    have hS0 := Box2.new w2 39 (.int .u64 0) (.int .u64 0)
    have hR3 := hR2.alloc (.cells #[.int .u64 0, .int .u64 0] 39)
    have hB3 : Below w.heap.size w (w2.alloc (.cells #[.int .u64 0, .int .u64 0] 39)) := hB2.alloc hB2.size _
    have hrw3 : RW (w2.alloc (.cells #[.int .u64 0, .int .u64 0] 39)) p xs 0 := hrw.below ((Below.refl _ _).alloc (Nat.le_refl _) _)
    have HR3 := Lib.hid hR3
    have HS3 := Lib.hid hS0
    have HB3 := Lib.hid hB3
    have HRW := Lib.hid hrw3
    have hq : p < w2.heap.size := hpl
    clear hR2 hB2 hpl hp hrw hb2 hS0 hR3 hB3 hrw3 hcv
    go_wp2
    obtain ⟨q, hqq⟩ : ∃ q, q = w2.heap.size := ⟨_, rfl⟩
    rw [← hqq] at HS3 hq ⊢
    clear hqq
    generalize w2.alloc (.cells #[.int .u64 0, .int .u64 0] 39) = W3 at *
    go_loopw [14] (fun i wr => (∃ (k : Nat) (x y : Nat) (ys : List UInt8), i = .int .i64 (k : Int) ∧ (k = 0 ∧ x = 0 ∧ y = 0 ∧ ys = xs ∨ k = 1 ∧ x = numN (xs.take 8) ∧ y = 0 ∧ ys = xs.drop 8 ∨ k = 2 ∧ x = numN (xs.take 8) ∧ y = numN (xs.drop 8) ∧ ys = []) ∧ (k < 2 → RW wr p ys 0) ∧ Box2 wr q 39 (.int .u64 (x : Int)) (.int .u64 (y : Int))) ∧ Box2 wr w.heap.size 39 (.int .u64 0) (.int .u64 0) ∧ Below w.heap.size w wr) (fun i _ => 2 - (intOf i).toNat)
    case atStart => exact ⟨⟨0, 0, 0, xs, rfl, .inl ⟨rfl, rfl, rfl, rfl⟩, fun _ => HRW.out, HS3.out⟩, HR3.out, HB3.out⟩
    case round =>
      clear HR3 HS3 HB3 HRW
      obtain ⟨⟨k, x, y, ys, rfl, hk, hrw, hS⟩, hR, hB⟩ := hrel
      have HR := Lib.hid hR
      have HS := Lib.hid hS
      have HB := Lib.hid hB
      rcases hk with ⟨rfl, rfl, rfl, rfl⟩ | ⟨rfl, rfl, rfl, rfl⟩ | ⟨rfl, rfl, rfl, rfl⟩
      · have hn := HNUM.out p ys (by have := HXL.out; omega) wr (hrw (by omega))
        rw [brnum_eight ys (by have := HXL.out; omega)] at hn
        have H := Lib.hid hn
        generalize hz : numN (List.take 8 ys) = z at *
        clear hn hrw hR hS hB
        go_wp2_with fail
        refine H.out.mono ?_
        rintro r w5 ⟨rfl, hrw5, hg5⟩
        have hS5 := HS.out.grown hg5 (by intro e; cases e; omega)
        have hR5 := HR.out.grown hg5 (by intro e; cases e; omega)
        have hB5 := HB.out.grown hg5 HB.out.size (fun k e => by cases e; omega)
        have f0 := hS5.f0
        have f1 := hS5.f1
        have c0 := hS5.c0
        have c1 := hS5.c1
        have HS5 := Lib.hid hS5
        have HR5 := Lib.hid hR5
        have HB5 := Lib.hid hB5
        have HRW5 := Lib.hid hrw5
        clear hg5 hS5 hR5 hB5 hrw5
        go_wp2
        exact ⟨⟨⟨1, z, 0, _, rfl, .inr (.inl ⟨rfl, rfl, rfl, rfl⟩), fun _ => HRW5.out.setc _ _ _ hq, HS5.out.set0 _⟩, HR5.out.other 0 (by omega) _, below_set HB5.out (by omega)⟩, by simp [intOf]⟩
      · have hn := HNUM.out p (xs.drop 8) (by rw [List.length_drop]; have := HXL.out; omega) wr (hrw (by omega))
        rw [brnum_eight (xs.drop 8) (by rw [List.length_drop]; have := HXL.out; omega), List.take_of_length_le (by rw [List.length_drop]; have := HXL.out; omega)] at hn
        have H := Lib.hid hn
        generalize hz : numN (List.drop 8 xs) = z at *
        clear hn hrw hR hS hB
        go_wp2_with fail
        refine H.out.mono ?_
        rintro r w5 ⟨rfl, hrw5, hg5⟩
        have hS5 := HS.out.grown hg5 (by intro e; cases e; omega)
        have hR5 := HR.out.grown hg5 (by intro e; cases e; omega)
        have hB5 := HB.out.grown hg5 HB.out.size (fun k e => by cases e; omega)
        have f0 := hS5.f0
        have f1 := hS5.f1
        have c0 := hS5.c0
        have c1 := hS5.c1
        have HS5 := Lib.hid hS5
        have HR5 := Lib.hid hR5
        have HB5 := Lib.hid hB5
        clear hg5 hS5 hR5 hB5 hrw5
        go_wp2
        exact ⟨⟨⟨2, _, z, [], rfl, .inr (.inr ⟨rfl, rfl, rfl, rfl⟩), fun h => by omega, HS5.out.set1 _⟩, HR5.out.other 1 (by omega) _, below_set HB5.out (by omega)⟩, by simp [intOf]⟩
      · generalize hx : numN (List.take 8 xs) = x at *
        generalize hy : numN (List.drop 8 xs) = y at *
        have HX := Lib.hid hx
        have HY := Lib.hid hy
        clear hx hy
        have s0 := hS.c0
        have s1 := hS.c1
        have r0 := hR.c0
        have r1 := hR.c1
        have g0 := hR.f0
        have g1 := hR.f1
        have hR7 := (hR.set0 (.int .u64 (x : Int))).set1 (.int .u64 (y : Int))
        have hB7 := below_set (b := w.heap.size) (i := 1) (v := .int .u64 (y : Int)) (below_set (b := w.heap.size) (i := 0) (v := .int .u64 (x : Int)) hB (by omega)) (by omega)
        have HB7 := Lib.hid hB7
        have HR7 := Lib.hid hR7
        clear hB hB7 hR hR7 hS hrw
        go_wp2
        refine bodyPost_ret (by simp [results, Tryz.f54, go_sem, HR7.out.c0, HR7.out.c1]; try rfl) rfl ?_
        exact ⟨by rw [HX.out, HY.out], HB7.out⟩
  · have hv : fromV s.data.toList = .tuple #[setV 0 0, .int .i64 4] := by
      unfold fromV fromP
      rw [if_neg (by rw [hsl]; exact h16)]; rfl
    rw [hv]
    unfold setV
    have i1 : ((s.size : Int) == 16) = false := by simpa using (by omega : ¬ (s.size : Int) = 16)
    have r0 := bR.c0
    have r1 := bR.c1
    have g0 := bR.f0
    have g1 := bR.f1
    have hR7 := (bR.set0 (.int .u64 0)).set1 (.int .u64 0)
    have hB7 := below_set (b := w.heap.size) (i := 1) (v := .int .u64 0) (below_set (b := w.heap.size) (i := 0) (v := .int .u64 0) hB0 (by omega)) (by omega)
    clear hv h16 hsl
    go_enter Tryz.func54, Tryz.ntmps54
    go_wp2
    refine bodyPost_ret (by simp [results, Tryz.f54, go_sem, hR7.c0, hR7.c1]; try rfl) rfl ?_
    first | exact ⟨rfl, hB7⟩ | exact ⟨rfl, hB0⟩

set_option maxRecDepth 20000 in
set_option maxHeartbeats 4000000 in
theorem rfrom_any (s : ByteArray) (w : World) :
    Calls Tryz.prog 37 #[.string s] w fun e w' => e = .returned (fromV s.data.toList) ∧ Below w.heap.size w w' := by
  have hsl : s.data.toList.length = s.size := rfl
  have bR := Box2.new w 24 (.int .u64 0) (.int .u64 0)
  have hB0 : Below w.heap.size w (w.alloc (.cells #[.int .u64 0, .int .u64 0] 24)) := (Below.refl _ w).alloc (Nat.le_refl _) _
  by_cases h16 : s.size = 16
  · have hv : fromV s.data.toList = .tuple #[setV (numN (s.data.toList.take 8)) (numN (s.data.toList.drop 8)), .int .i64 0] := by
      unfold fromV fromP
      rw [if_pos (by rw [hsl]; exact h16)]; rfl
    rw [hv]
    obtain ⟨c, w1, hcv, hrd, hb1⟩ := cv_rd s (by omega) (w.alloc (.cells #[.int .u64 0, .int .u64 0] 24))
    obtain ⟨c2, w2, hcv2, hrd2, hb2⟩ := cv_rd s (by omega) w1
    obtain ⟨g, hg⟩ : ∃ g, g = (w.alloc (.cells #[.int .u64 0, .int .u64 0] 24)).heap.size := ⟨_, rfl⟩
    obtain ⟨g2, hg2⟩ : ∃ g, g = w1.heap.size := ⟨_, rfl⟩
    rw [← hg, h16] at hcv hrd
    rw [← hg2, h16] at hcv2 hrd2
    have hR1 := (bR.below hb1 bR.lt).below hb2 (bR.below hb1 bR.lt).lt
    have hB1 := hB0.trans (hb1.mono hB0.size)
    have hB2 := hB1.trans (hb2.mono hB1.size)
    have i1 : (s.size : Int) = 16 := by omega
    have hxl : s.data.toList.length = 16 := by omega
    have h1 : Calls Tryz.prog 38 #[.slice (some ⟨g, 0, none⟩) 16 c, .int .i64 0, .int .i64 8] w1 fun e w' => e = .returned (.tuple #[.int .u64 (numN (s.data.toList.take 8) : Int), .int .i64 0]) ∧ w1 = w' := rget_ok (some ⟨g, 0, none⟩) 16 c s.data.toList 0 8 w1 hrd (by omega) (by omega) (by omega)
    have h2 : Calls Tryz.prog 38 #[.slice (some ⟨g2, 0, none⟩) 16 c2, .int .i64 8, .int .i64 8] w2 fun e w' => e = .returned (.tuple #[.int .u64 (numN ((s.data.toList.drop 8).take 8) : Int), .int .i64 0]) ∧ w2 = w' := rget_ok (some ⟨g2, 0, none⟩) 16 c2 s.data.toList 8 8 w2 hrd2 (by omega) (by omega) (by omega)
    rw [List.take_of_length_le (by rw [List.length_drop]; omega)] at h2
    generalize numN (List.take 8 s.data.toList) = x at *
    generalize numN (List.drop 8 s.data.toList) = y at *
    have H1 := Lib.hid h1
    have H2 := Lib.hid h2
    have r0 := hR1.c0
    have r1 := hR1.c1
    have g0 := hR1.f0
    have g1 := hR1.f1
    have hR7 := (hR1.set0 (.int .u64 (x : Int))).set1 (.int .u64 (y : Int))
    have hB7 := below_set (b := w.heap.size) (i := 1) (v := .int .u64 (y : Int)) (below_set (b := w.heap.size) (i := 0) (v := .int .u64 (x : Int)) hB2 (by omega)) (by omega)
    have HB7 := Lib.hid hB7
    have HR7 := Lib.hid hR7
    clear h1 h2 hrd hrd2 hb1 hb2 hB0 bR hR1 hB1 hB2 hv hg hg2 hsl hxl h16 hR7 hB7
    unfold setV
    go_enter Tryz.func37, Tryz.ntmps37
    go_wp2_with fail
    refine H1.out.mono ?_
    rintro r w3 ⟨rfl, hw⟩
    obtain rfl := hw
    go_wp2_with fail
    refine H2.out.mono ?_
    rintro r w3 ⟨rfl, hw⟩
    obtain rfl := hw
    go_wp2
    refine bodyPost_ret (by simp [results, Tryz.f37, go_sem, HR7.out.c0, HR7.out.c1]; try rfl) rfl ?_
    exact ⟨rfl, HB7.out⟩
  · have hv : fromV s.data.toList = .tuple #[setV 0 0, .int .i64 4] := by
      unfold fromV fromP
      rw [if_neg (by rw [hsl]; exact h16)]; rfl
    rw [hv]
    unfold setV
    have i1 : ((s.size : Int) == 16) = false := by simpa using (by omega : ¬ (s.size : Int) = 16)
    have r0 := bR.c0
    have r1 := bR.c1
    have g0 := bR.f0
    have g1 := bR.f1
    have hR7 := (bR.set0 (.int .u64 0)).set1 (.int .u64 0)
    have hB7 := below_set (b := w.heap.size) (i := 1) (v := .int .u64 0) (below_set (b := w.heap.size) (i := 0) (v := .int .u64 0) hB0 (by omega)) (by omega)
    clear hv h16 hsl
    go_enter Tryz.func37, Tryz.ntmps37
    go_wp2
    refine bodyPost_ret (by simp [results, Tryz.f37, go_sem, hR7.c0, hR7.c1]; try rfl) rfl ?_
    first | exact ⟨rfl, hB7⟩ | exact ⟨rfl, hB0⟩
end Go.Proofs.YtodcdefmoliegaaGreatDoor

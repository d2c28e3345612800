/-
  Texts put together: PC, PD.
-/
import Derived.Test.YtjohgagiccndpaaGreatDoorMP5
import Derived.Test.YtjohgagiccndpaaGreatDoorMA
import Derived.Test.YtjohgagiccndpaaGreatDoorMR4
import Derived.RangeFuncNested
import Derived.RangeFuncFrom
import Derived.RangeFuncIn
import Derived.RangeFuncWrites
import Derived.Below
/-
  The program's decode: a head, read back.
-/
namespace Go.Proofs.YtjohgagiccndpaaGreatDoor
open Go.RowKit
set_option linter.unusedVariables false
set_option linter.unusedSimpArgs false

/-- A head in memory. -/
def HB5 (W : World) (p : Nat) (a b c d e : Value) : Prop := W.heap[p]? = some (.cells #[a, b, c, d, e] 105 (0, 0))
theorem HB5.c0 {W p a b c d e} (h : HB5 W p a b c d e) : W.cell? ⟨p, 0, none⟩ = some a := by rw [cell_of_blk h]; rfl
theorem HB5.c1 {W p a b c d e} (h : HB5 W p a b c d e) : W.cell? ⟨p, 1, none⟩ = some b := by rw [cell_of_blk h]; rfl
theorem HB5.c2 {W p a b c d e} (h : HB5 W p a b c d e) : W.cell? ⟨p, 2, none⟩ = some c := by rw [cell_of_blk h]; rfl
theorem HB5.c3 {W p a b c d e} (h : HB5 W p a b c d e) : W.cell? ⟨p, 3, none⟩ = some d := by rw [cell_of_blk h]; rfl
theorem HB5.c4 {W p a b c d e} (h : HB5 W p a b c d e) : W.cell? ⟨p, 4, none⟩ = some e := by rw [cell_of_blk h]; rfl
theorem HB5.fr {W p a b c d e} (h : HB5 W p a b c d e) (i : Nat) : W.frozen? ⟨p, i, none⟩ = false := free_of_blk h i
theorem HB5.lt {W p a b c d e} (h : HB5 W p a b c d e) : p < W.heap.size := lt_of_block h
theorem HB5.below {W W' p a b c d e n} (h : HB5 W p a b c d e) (hb : Below n W W') (hl : p < n) : HB5 W' p a b c d e := (hb.block p hl).trans h
theorem HB5.grown {W W' p a b c d e row} (h : HB5 W p a b c d e) (hg : W.grownBy W' row) (hne : row ≠ some p) : HB5 W' p a b c d e := (hg.block p h.lt (fun e => hne e.symm)).trans h
/-- A head stored there. -/
def setH (W : World) (p : Nat) (a b c d e : Value) : World := ((((W.setCell ⟨p, 0, none⟩ a).setCell ⟨p, 1, none⟩ b).setCell ⟨p, 2, none⟩ c).setCell ⟨p, 3, none⟩ d).setCell ⟨p, 4, none⟩ e
theorem HB5.set {W p a b c d e} (h : HB5 W p a b c d e) (a' b' c' d' e' : Value) : HB5 (setH W p a' b' c' d' e') p a' b' c' d' e' :=
  blk_setCell (blk_setCell (blk_setCell (blk_setCell (blk_setCell h))))
theorem below_setH {W W' : World} {n p : Nat} {a b c d e : Value} (h : Below n W W') (hp : n ≤ p) : Below n W (setH W' p a b c d e) :=
  ((((h.setCell (p := ⟨p, 0, none⟩) hp _).setCell (p := ⟨p, 1, none⟩) hp _).setCell (p := ⟨p, 2, none⟩) hp _).setCell (p := ⟨p, 3, none⟩) hp _).setCell (p := ⟨p, 4, none⟩) hp _

structure Hd where
  tag : Nat
  epoch : Nat
  num : Nat
  place : Nat
  sum : Nat
def noHd : Hd := ⟨0, 0, 0, 0, 0⟩
def Hd.val (h : Hd) : Value := headV h.tag h.epoch h.num h.place h.sum
def HBox (W : World) (p : Nat) (h : Hd) : Prop := HB5 W p (.int .u64 (h.tag : Int)) (.int .u64 (h.epoch : Int)) (.int .i64 (h.num : Int)) (.int .i64 (h.place : Int)) (.int .u32 (h.sum : Int))
def hfld (ys : List UInt8) (i n : Nat) : Nat := numN ((ys.drop i).take n)
def bodyHd (ys : List UInt8) : Hd := ⟨hfld ys 0 8, hfld ys 8 8, hfld ys 16 4, hfld ys 20 4, hfld ys 24 4⟩
def decP (xs : List UInt8) : Hd := if (openP 7 xs).2 = 0 ∧ (openP 7 xs).1.length = 28 then bodyHd (openP 7 xs).1 else noHd

theorem hfld_lt (ys : List UInt8) (i n : Nat) (h : i + n ≤ ys.length) : hfld ys i n < 256 ^ n := by
  unfold hfld
  exact numN_lt _ _ (by simp; omega)
theorem hfld_4 (ys : List UInt8) (i : Nat) (h : i + 4 ≤ ys.length) : hfld ys i 4 < 4294967296 := hfld_lt ys i 4 h

theorem hnum_any (p i n : Nat) (ys : List UInt8) (w : World) (h : RW w p (ys.drop i) 0) (h1 : 1 ≤ n) (h8 : n ≤ 8) (hl : i + n ≤ ys.length) :
    Calls Tryz.prog 112 #[.pointer (some ⟨p, 0, none⟩), .int .i64 (n : Int)] w fun r w' => r = .returned (.int .u64 (hfld ys i n : Int)) ∧ RW w' p (ys.drop (i + n)) 0 ∧ w.grownBy w' (some p) := by
  have e : rnum (ys.drop i) 0 (n : Int) = (hfld ys i n, ys.drop (i + n), 0) := by
    unfold rnum hfld
    rw [if_neg (by simp), if_neg (by omega), if_neg (by simp; omega)]
    simp [List.drop_drop]
  have := num_any p (ys.drop i) 0 (n : Int) w h
  rw [e] at this
  exact this

set_option maxRecDepth 20000 in
set_option maxHeartbeats 4000000 in
theorem decode_any (xs : List UInt8) (w : World) :
    Calls Tryz.prog 104 #[strV xs] w fun e w' => e = .returned (decP xs).val ∧ Below w.heap.size w w' := by
  have bR : HB5 (w.alloc (.cells #[.int .u64 0, .int .u64 0, .int .i64 0, .int .i64 0, .int .u32 0] 105)) w.heap.size (.int .u64 0) (.int .u64 0) (.int .i64 0) (.int .i64 0) (.int .u32 0) := heap_alloc_new w _
  have hB0 : Below w.heap.size w (w.alloc (.cells #[.int .u64 0, .int .u64 0, .int .i64 0, .int .i64 0, .int .u32 0] 105)) := (Below.refl _ w).alloc (Nat.le_refl _) _
  have ho := fun w => open_any 7 xs w
  have HB0 := Lib.hid hB0
  have HBR := Lib.hid bR
  clear hB0 bR
  unfold decP
  obtain ⟨ys, q, hoq⟩ : ∃ ys q, openP 7 xs = (ys, q) := ⟨_, _, rfl⟩
  rw [hoq] at ho ⊢
  have hyl : q = 0 → ys.length ≤ 58 := fun e => by subst e; exact (make_kind (open_make hoq)).2.2.2
  unfold tupV at ho
  dsimp only at ho ⊢
  obtain ⟨V, hV⟩ : ∃ V : ByteArray, V = ⟨ys.toArray⟩ := ⟨_, rfl⟩
  have hVs : V.size = ys.length := by rw [hV]; exact List.size_toArray
  have hVV : strV ys = .string V := by rw [hV]; rfl
  rw [hVV] at ho
  have HO := Lib.hid ho
  have HVV := Lib.hid hVV
  clear ho hoq hV hVV
  by_cases hq : q = 0
  · subst hq
    have hyl := hyl rfl
    by_cases h28 : ys.length = 28
    · rw [if_pos ⟨rfl, h28⟩]
      unfold bodyHd Hd.val
      dsimp only
      have h4a := hfld_4 ys 16 (by omega)
      have h4b := hfld_4 ys 20 (by omega)
      have h4c := hfld_4 ys 24 (by omega)
      obtain ⟨F, hF⟩ : ∃ F, F = hfld ys := ⟨_, rfl⟩
      rw [← hF] at h4a h4b h4c ⊢
      have HF := Lib.hid hF
      have H28 := Lib.hid h28
      have A := Lib.hid (And.intro h4a (And.intro h4b h4c))
      clear h4a h4b h4c hF
      have w16 : IntKind.i64.wrap (F 16 4 : Int) = (F 16 4 : Int) := IntWalk.i64_in _ (by have := A.out; omega)
      have w20 : IntKind.i64.wrap (F 20 4 : Int) = (F 20 4 : Int) := IntWalk.i64_in _ (by have := A.out; omega)
      have w24 : IntKind.u32.wrap (F 24 4 : Int) = (F 24 4 : Int) := IntWalk.u32_in _ (by have := A.out; omega)
      have hVi : (V.size : Int) = 28 := by omega
      have hVi2 : ((V.size : Int) != 28) = false := by simp [hVi]
      clear h28
      unfold headV
      go_enter Tryz.func104, Tryz.ntmps104
      go_wp2_with fail
      refine (HO.out _).mono ?_
      rintro r w2 ⟨rfl, hb⟩
      have b2 := HBR.out.below hb HBR.out.lt
      have hB2 := HB0.out.trans (hb.mono HB0.out.size)
      obtain ⟨c, w3, hcv, hrd, hb3⟩ := cv_str ys (by omega) w2
      have b3 := b2.below hb3 b2.lt
      have hB3 := hB2.trans (hb3.mono hB2.size)
      obtain ⟨g, hg⟩ : ∃ g, g = w2.heap.size := ⟨_, rfl⟩
      rw [← hg] at hcv hrd
      rw [HVV.out] at hcv
      have hn := new_any (some ⟨g, 0, none⟩) ys.length c ys w3 hrd
      obtain ⟨m, hm⟩ : ∃ m, m = ys.length := ⟨_, rfl⟩
      rw [← hm] at hcv hn
      have HN := Lib.hid hn
      have HR3 := Lib.hid b3
      have HB3 := Lib.hid hB3
      have HMM := Lib.hid hm
      clear hb b2 hB2 hrd hb3 b3 hB3 hg hn HO hm
      go_wp2_with fail
      refine HN.out.mono ?_
      rintro r w4 ⟨p', rfl, hp, hrw, hb⟩
      have b4 := HR3.out.below hb HR3.out.lt
      have hB4 := HB3.out.trans (hb.mono HB3.out.size)
      have hne : w.heap.size < p' := Nat.lt_of_lt_of_le HR3.out.lt hp
      have hnum := hnum_any p' 0 8 ys w4 hrw (by omega) (by omega) (by have := H28.out; omega)
      rw [← HF.out] at hnum
      have HNE := Lib.hid hne
      have HNUM := Lib.hid hnum
      have HR4 := Lib.hid b4
      have HB4 := Lib.hid hB4
      clear hb hp hrw b4 hB4 hne hcv HN HR3 HB3 hnum
      go_wp2_with fail
      refine HNUM.out.mono ?_
      rintro r w5 ⟨rfl, hrw, hg⟩
      have b5 := HR4.out.grown hg (by intro e; cases e; have := HNE.out; omega)
      have hB5 := HB4.out.grown hg HB4.out.size (fun k e => by cases e; have := HNE.out; omega)
      have hnum := hnum_any p' 8 8 ys w5 hrw (by omega) (by omega) (by have := H28.out; omega)
      rw [← HF.out] at hnum
      have HNUM5 := Lib.hid hnum
      have HR5 := Lib.hid b5
      have HB5' := Lib.hid hB5
      clear hrw hg b5 hB5 HNUM HR4 HB4 hnum
      go_wp2_with fail
      refine HNUM5.out.mono ?_
      rintro r w6 ⟨rfl, hrw, hg⟩
      have b6 := HR5.out.grown hg (by intro e; cases e; have := HNE.out; omega)
      have hB6 := HB5'.out.grown hg HB5'.out.size (fun k e => by cases e; have := HNE.out; omega)
      have hnum := hnum_any p' 16 4 ys w6 hrw (by omega) (by omega) (by have := H28.out; omega)
      rw [← HF.out] at hnum
      have HNUM6 := Lib.hid hnum
      have HR6 := Lib.hid b6
      have HB6 := Lib.hid hB6
      clear hrw hg b6 hB6 HNUM5 HR5 HB5' hnum
      go_wp2_with fail
      refine HNUM6.out.mono ?_
      rintro r w7 ⟨rfl, hrw, hg⟩
      have b7 := HR6.out.grown hg (by intro e; cases e; have := HNE.out; omega)
      have hB7 := HB6.out.grown hg HB6.out.size (fun k e => by cases e; have := HNE.out; omega)
      have hnum := hnum_any p' 20 4 ys w7 hrw (by omega) (by omega) (by have := H28.out; omega)
      rw [← HF.out] at hnum
      have HNUM7 := Lib.hid hnum
      have HR7 := Lib.hid b7
      have HB7 := Lib.hid hB7
      clear hrw hg b7 hB7 HNUM6 HR6 HB6 hnum
      go_wp2_with fail
      refine HNUM7.out.mono ?_
      rintro r w8 ⟨rfl, hrw, hg⟩
      have b8 := HR7.out.grown hg (by intro e; cases e; have := HNE.out; omega)
      have hB8 := HB7.out.grown hg HB7.out.size (fun k e => by cases e; have := HNE.out; omega)
      have hnum := hnum_any p' 24 4 ys w8 hrw (by omega) (by omega) (by have := H28.out; omega)
      rw [← HF.out] at hnum
      have HNUM8 := Lib.hid hnum
      have HR8 := Lib.hid b8
      have HB8 := Lib.hid hB8
      clear hrw hg b8 hB8 HNUM7 HR7 HB7 hnum
      go_wp2_with fail
      refine HNUM8.out.mono ?_
      rintro r w9 ⟨rfl, hrw, hg⟩
      have b9 := HR8.out.grown hg (by intro e; cases e; have := HNE.out; omega)
      have hB9 := HB8.out.grown hg HB8.out.size (fun k e => by cases e; have := HNE.out; omega)
      have r0 := b9.c0
      have r1 := b9.c1
      have r2 := b9.c2
      have r3 := b9.c3
      have r4 := b9.c4
      have g0 := b9.fr 0
      have g1 := b9.fr 1
      have g2 := b9.fr 2
      have g3 := b9.fr 3
      have g4 := b9.fr 4
      have hRz := b9.set (.int .u64 (F 0 8 : Int)) (.int .u64 (F 8 8 : Int)) (.int .i64 (F 16 4 : Int)) (.int .i64 (F 20 4 : Int)) (.int .u32 (F 24 4 : Int))
      have hBz := below_setH (p := w.heap.size) (a := .int .u64 (F 0 8 : Int)) (b := .int .u64 (F 8 8 : Int)) (c := .int .i64 (F 16 4 : Int)) (d := .int .i64 (F 20 4 : Int)) (e := .int .u32 (F 24 4 : Int)) hB9 (Nat.le_refl _)
      unfold setH at hRz hBz
      have HRz := Lib.hid hRz
      have HBz := Lib.hid hBz
      clear hrw hg b9 hB9 HNUM8 HR8 HB8 hRz hBz
      go_wp2
      refine bodyPost_ret (by simp [results, Tryz.f104, go_sem, HRz.out.c0, HRz.out.c1, HRz.out.c2, HRz.out.c3, HRz.out.c4]; try rfl) rfl ?_
      exact ⟨rfl, HBz.out⟩
    · rw [if_neg (by omega)]
      have hVi2 : ((V.size : Int) != 28) = true := by simp only [bne_iff_ne, ne_eq]; omega
      clear h28
      unfold noHd Hd.val headV
      go_enter Tryz.func104, Tryz.ntmps104
      go_wp2_with fail
      refine (HO.out _).mono ?_
      rintro r w2 ⟨rfl, hb⟩
      have b9 := HBR.out.below hb HBR.out.lt
      have hB9 := HB0.out.trans (hb.mono HB0.out.size)
      have r0 := b9.c0
      have r1 := b9.c1
      have r2 := b9.c2
      have r3 := b9.c3
      have r4 := b9.c4
      have g0 := b9.fr 0
      have g1 := b9.fr 1
      have g2 := b9.fr 2
      have g3 := b9.fr 3
      have g4 := b9.fr 4
      have hRz := b9.set (.int .u64 0) (.int .u64 0) (.int .i64 0) (.int .i64 0) (.int .u32 0)
      have hBz := below_setH (p := w.heap.size) (a := .int .u64 0) (b := .int .u64 0) (c := .int .i64 0) (d := .int .i64 0) (e := .int .u32 0) hB9 (Nat.le_refl _)
      unfold setH at hRz hBz
      have HRz := Lib.hid hRz
      have HBz := Lib.hid hBz
      clear b9 hB9 HO hRz hBz hb
      go_wp2
      refine bodyPost_ret (by simp [results, Tryz.f104, go_sem, HRz.out.c0, HRz.out.c1, HRz.out.c2, HRz.out.c3, HRz.out.c4]; try rfl) rfl ?_
      exact ⟨rfl, HBz.out⟩
  · rw [if_neg (fun h => hq h.1)]
    have hq2 : (q == 0) = false := by simpa using hq
    unfold noHd Hd.val headV
    go_enter Tryz.func104, Tryz.ntmps104
    go_wp2_with fail
    refine (HO.out _).mono ?_
    rintro r w2 ⟨rfl, hb⟩
    have b9 := HBR.out.below hb HBR.out.lt
    have hB9 := HB0.out.trans (hb.mono HB0.out.size)
    have r0 := b9.c0
    have r1 := b9.c1
    have r2 := b9.c2
    have r3 := b9.c3
    have r4 := b9.c4
    have g0 := b9.fr 0
    have g1 := b9.fr 1
    have g2 := b9.fr 2
    have g3 := b9.fr 3
    have g4 := b9.fr 4
    have hRz := b9.set (.int .u64 0) (.int .u64 0) (.int .i64 0) (.int .i64 0) (.int .u32 0)
    have hBz := below_setH (p := w.heap.size) (a := .int .u64 0) (b := .int .u64 0) (c := .int .i64 0) (d := .int .i64 0) (e := .int .u32 0) hB9 (Nat.le_refl _)
    unfold setH at hRz hBz
    have HRz := Lib.hid hRz
    have HBz := Lib.hid hBz
    clear b9 hB9 HO hRz hBz hb
    go_wp2
    refine bodyPost_ret (by simp [results, Tryz.f104, go_sem, HRz.out.c0, HRz.out.c1, HRz.out.c2, HRz.out.c3, HRz.out.c4]; try rfl) rfl ?_
    exact ⟨rfl, HBz.out⟩
end Go.Proofs.YtjohgagiccndpaaGreatDoor
/-
  A range over a function whose iterator keeps boxes of its own, of one type that the body has none of: the caller's law.
-/
namespace Go.Proofs.YtjohgagiccndpaaGreatDoor
open Go.RowKit Go.Shelf
set_option linter.unusedVariables false
set_option linter.unusedSimpArgs false

/-- The iterator's moves: new blocks, and from B on writes to boxes of the type T. -/
structure Mv (T : TypeId) (B : Nat) (W W' : World) : Prop where
  os : W'.os = W.os
  tape : W'.tape = W.tape
  output : W'.output = W.output
  size : W.heap.size ≤ W'.heap.size
  same : ∀ (k : Nat) (o : Obj), W.heap[k]? = some o → (k < B ∨ ∀ cs l, o ≠ .cells cs T l) → W'.heap[k]? = some o
/-- The book-keeping's moves: new blocks, and from B on writes to what is no cells. -/
structure Bk (B : Nat) (W W' : World) : Prop where
  os : W'.os = W.os
  tape : W'.tape = W.tape
  output : W'.output = W.output
  size : W.heap.size ≤ W'.heap.size
  same : ∀ (k : Nat) (o : Obj), W.heap[k]? = some o → (k < B ∨ o.isCells = true) → W'.heap[k]? = some o
theorem Mv.refl (T B W) : Mv T B W W := ⟨rfl, rfl, rfl, Nat.le_refl _, fun _ _ h _ => h⟩
theorem Mv.trans {T B X Y Z} (h : Mv T B X Y) (k : Mv T B Y Z) : Mv T B X Z :=
  ⟨k.os.trans h.os, k.tape.trans h.tape, k.output.trans h.output, Nat.le_trans h.size k.size, fun i o hi hc => k.same i o (h.same i o hi hc) hc⟩
theorem Mv.mono {T B C X Y} (h : Mv T B X Y) (hc : C ≤ B) : Mv T C X Y := ⟨h.os, h.tape, h.output, h.size, fun k o hk hx => h.same k o hk (hx.imp (fun h => Nat.lt_of_lt_of_le h hc) id)⟩
theorem Mv.below {T B X Y} (h : Below X.heap.size X Y) : Mv T B X Y :=
  ⟨h.os, h.tape, h.output, h.size, fun k o hk _ => (h.block k (Array.getElem?_eq_some_iff.1 hk).1).trans hk⟩
theorem Mv.toBelow {T B X Y} (h : Mv T B X Y) (hB : B ≤ X.heap.size) : Below B X Y :=
  ⟨h.os, h.tape, h.output, h.size, fun k hk => by
    have hl : k < X.heap.size := Nat.lt_of_lt_of_le hk hB
    have e : X.heap[k]? = some X.heap[k] := Array.getElem?_eq_getElem hl
    rw [h.same k _ e (.inl hk), e]⟩
theorem Mv.set {T B X Y b i v cs l} (h : Mv T B X Y) (hY : Y.heap[b]? = some (.cells cs T l)) (hb : B ≤ b) : Mv T B X (Y.setCell ⟨b, i, none⟩ v) :=
  ⟨h.os, h.tape, h.output, by rw [World.size_setCell]; exact h.size, fun k o hk hx => by
    have e := h.same k o hk hx
    by_cases hkb : k = b
    · subst hkb
      rw [hY] at e
      rcases hx with hx | hx
      · omega
      · cases e; exact (hx _ _ rfl).elim
    · exact (Below.heap_setCell _ _ _ _ (fun h => hkb (by simpa using h))).trans e⟩
theorem bk_new (B : Nat) (W : World) (o : Obj) : Bk B W (W.alloc o) := ⟨rfl, rfl, rfl, by simp, fun k o' hk _ => (Below.heap_alloc _ _ _ (Array.getElem?_eq_some_iff.1 hk).1).trans hk⟩
theorem bk_put {B : Nat} {W : World} {l : Nat} {o : Obj} (o' : Obj) (hB : B ≤ l) (hl : W.heap[l]? = some o) (ho : o.isCells = false) : Bk B W (W.putObj l o') := by
  have hg := grownBy_putObj' W l o'
  have hb := (Below.refl B W).grown hg (Nat.le_trans hB (Nat.le_of_lt (Array.getElem?_eq_some_iff.1 hl).1)) (fun k e => by cases e; exact hB)
  refine ⟨hb.os, hb.tape, hb.output, hb.size, fun k x hk hx => ?_⟩
  by_cases hkl : k = l
  · subst hkl
    rw [hl] at hk
    cases hk
    rcases hx with hx | hx
    · omega
    · rw [ho] at hx; cases hx
  · exact (hg.block k (Array.getElem?_eq_some_iff.1 hk).1 (fun e => hkl (by cases e; rfl))).trans hk

def StayI {β : Type} (T : TypeId) (B : Nat) (J : β → World → Prop) : Prop := ∀ s W W', J s W → Mv T B W W' → J s W'
def StayB {β : Type} (B : Nat) (J : β → World → Prop) : Prop := ∀ s W W', J s W → Bk B W W' → J s W'

/-- What the iterator gives. -/
def GivesH {α : Type} (F : Fence) (n : Nat) (P : Program) (g : Nat) (lb : Array Value) (encs : α → Array Value) (T : TypeId) (Kp : World → World → Prop) (S Sp : List α → Prop) (N : Nat) (w : World) : Prop :=
  ∀ (l : Nat) (J Jx : List α → World → Prop) (W : World), Below w.heap.size w W → StayI T W.heap.size J → StayI T W.heap.size Jx →
    (∀ pre x W1, J pre W1 → pre.length < N → YieldAt F (n - 1) P l (encs x) W1 fun e W' =>
      (e = .returned (.bool true) ∧ J (pre ++ [x]) W' ∧ Kp W1 W') ∨ (e = .returned (.bool false) ∧ Jx (pre ++ [x]) W')) →
    J [] W →
    CallsIn F n P g (#[.func (.yield l) #[] #[]] ++ lb) W fun e W' => (∃ v, e = .returned v) ∧ ((∃ xs, S xs ∧ J xs W') ∨ (∃ pre, Sp pre ∧ Jx pre W'))

variable {F : Fence} {n : Nat} {P : Program}

set_option maxHeartbeats 1000000 in
theorem range_own {α : Type} {g : Operand} {ps : Array Tmp} {assign body : Code} {Q : Exit → Act → World → Prop} {a : Act} {w : World}
    (hro : F.round = none) (h1 : 1 ≤ n) {gf : Nat} {lb : Array Value} (hg : a.eval g = .func (.func gf) #[] lb) (hFg : F.fn gf) (eg : ∀ args w, (callFunc gf args).run P w = .ok (.enter gf args) w)
    {encs : α → Array Value} {T : TypeId} {Kp : World → World → Prop} {S Sp : List α → Prop} {N : Nat} {w0 : World} (hseq : GivesH F (n - 1) P gf lb encs T Kp S Sp N w0)
    (hKt : ∀ {A B C : World}, Kp A B → Kp B C → Kp A C) (hKb : ∀ (W : World) (l : Nat) (o o' : Obj), w.heap.size ≤ l → W.heap[l]? = some o → o.isCells = false → Kp W (W.putObj l o')) (hb0 : Below w0.heap.size w0 w) (hps : ∀ x, (encs x).size = ps.size)
    (I : List α → World → Prop) (Ix : Code → List α → World → Prop) (hI : StayI T w.heap.size I) (hIb : StayB w.heap.size I) (hIx : ∀ c, StayI T w.heap.size (Ix c)) (hIxb : ∀ c, StayB w.heap.size (Ix c)) (h0 : I [] w) (Ax : α → Act → World → Prop) (hAx : ∀ x a', StayB w.heap.size (fun (_ : Unit) W => Ax x a' W))
    (hassign : ∀ (l : Nat) (pre : List α) (x : α) (W : World) (K : Act → World → Prop), I pre W → (∀ a' W', KeepsFrom w.heap.size W W' → Kp W W' → I pre W' → Ax x a' W' → K a' W') →
      assign.wpIn (F.inRound l) (n - 1 - 1) P (Exit.then K (fun _ _ _ => False)) { tmps := (ps.zip (encs x)).foldl (fun t (p, v) => t.setIfInBounds p v) a.tmps, defers := [] } W)
    (hbody : ∀ (l : Nat) (pre : List α) (x : α) (a' : Act) (W : World), I pre W → Ax x a' W → pre.length < N → body.wpIn (F.inRound l) (n - 1 - 1) P (ownPostG w.heap.size Kp I Ix (pre ++ [x]) W) a' W)
    (hdone : ∀ (D : Nat) (xs : List α) (W : World), w.heap.size ≤ D → S xs → I xs W → W.heap[D]? = some (.deferred (some [])) → Q .normal { a with defers := { target := .collected D, args := #[] } :: a.defers } W)
    (hstop : ∀ (D : Nat) (c : Code) (pre : List α) (W : World), w.heap.size ≤ D → Sp pre → Ix c pre W → W.heap[D]? = some (.deferred (some [])) → c.wpIn F n P Q { a with defers := { target := .collected D, args := #[] } :: a.defers } W) :
    (Code.rangeFunc g ps assign body).wpIn F n P Q a w := by
  refine wpIn_rangeFunc fun fn hfn => ?_
  rw [hro]
  obtain ⟨rec, hrec⟩ : ∃ rec : LoopState → Option Code → Loop, rec = fun st pe => { state := st, pending := pe, fn, tmps := a.tmps, params := ps, assign, body, defers := w.heap.size } := ⟨_, rfl⟩
  obtain ⟨V, hV⟩ : ∃ V, (w.alloc (.deferred (some []))).alloc (.loop (rec .ready none)) = V := ⟨_, rfl⟩
  have vL : V.heap[w.heap.size + 1]? = some (.loop (rec .ready none)) := by
    rw [← hV]; have := World.alloc_heap_new (w.alloc (.deferred (some []))) (.loop (rec .ready none)); rwa [World.size_alloc] at this
  have vD : V.heap[w.heap.size]? = some (.deferred (some [])) := by
    rw [← hV]; exact (Below.heap_alloc _ _ _ (by simp)).trans (World.alloc_heap_new w _)
  have vS : w.heap.size ≤ V.heap.size := by rw [← hV]; simp; omega
  have vI : I [] V := by rw [← hV]; exact hIb _ _ _ (hIb _ _ _ h0 (bk_new _ _ _)) (bk_new _ _ _)
  have vB : Below w0.heap.size w0 V := by
    rw [← hV]; exact hb0.trans ((((Below.refl _ w).alloc (Nat.le_refl _) _).alloc (by simp) _).mono hb0.size)
  refine ⟨w.heap.size + 1, [{ target := .collected w.heap.size, args := #[] }], V, { target := .fn (.func gf) lb, args := #[.func (.yield (w.heap.size + 1)) #[] #[]] }, V, gf,
    #[.func (.yield (w.heap.size + 1)) #[] #[]] ++ lb, V, ?_, ?_, ?_, ?_, fun _ => h1, ?_⟩
  · rw [← hV, hrec]; exact run_enterLoop_outer _ _ _ _ _
  · simp only [resolve, hg]; simp [go_sem]
  · intro f' hf'; simp [Target.leads] at hf'; subst hf'; exact hFg
  · simp [invoke, go_sem, eg]
  refine (hseq (w.heap.size + 1)
      (fun pre W => I pre W ∧ W.heap[w.heap.size + 1]? = some (.loop (rec .ready none)) ∧ W.heap[w.heap.size]? = some (.deferred (some [])))
      (fun pre W => ∃ c, Ix c pre W ∧ W.heap[w.heap.size + 1]? = some (.loop (rec .done (some c))) ∧ W.heap[w.heap.size]? = some (.deferred (some [])))
      V vB
      (fun s A B hs hm => ⟨hI s A B hs.1 (hm.mono vS), hm.same _ _ hs.2.1 (.inr (fun _ _ => nofun)), hm.same _ _ hs.2.2 (.inr (fun _ _ => nofun))⟩)
      (fun s A B ⟨c, hc, hl, hk⟩ hm => ⟨c, hIx c s A B hc (hm.mono vS), hm.same _ _ hl (.inr (fun _ _ => nofun)), hm.same _ _ hk (.inr (fun _ _ => nofun))⟩)
      ?_ ⟨vI, vL, vD⟩).mono ?_
  · rintro pre x W ⟨hi, hl, hk⟩ hN
    have hy := run_yield (P := P) (args := encs x) hl (by rw [hrec]; exact hps x)
    rw [hrec] at hy
    refine ⟨fn, _, assign, body, hy, roundIn_of_wpIn hfn (hassign _ pre x W _ hi ?_)⟩
    clear hy
    intro a' Wa hkf hkp hia hax
    have hl := hkf.same _ _ (by omega) hl rfl
    have hk := hkf.same _ _ (Nat.le_refl _) hk rfl
    have hlt : w.heap.size + 1 < Wa.heap.size := (Array.getElem?_eq_some_iff.1 hl).1
    refine ⟨_, run_beginRound hl (by rw [hrec]), ?_⟩
    obtain ⟨U, hU⟩ : ∃ U, Wa.putObj (w.heap.size + 1) (.loop { rec .ready none with state := .busy }) = U := ⟨_, rfl⟩
    have uL : U.heap[w.heap.size + 1]? = some (.loop { rec .ready none with state := .busy }) := by rw [← hU]; exact World.putObj_heap_same hlt
    have uD : U.heap[w.heap.size]? = some (.deferred (some [])) := by rw [← hU]; exact (World.putObj_heap_other (by omega)).trans hk
    have uK : Kp Wa U := by rw [← hU]; exact hKb _ _ _ _ (by omega) hl rfl
    have uI : I pre U := by rw [← hU]; exact hIb _ _ _ hia (bk_put _ (by omega) hl rfl)
    have uA : Ax x a' U := by rw [← hU]; exact hAx x a' () _ _ hax (bk_put _ (by omega) hl rfl)
    show body.wpIn _ _ _ _ _ (Wa.putObj _ (.loop { rec .ready none with state := .busy }))
    rw [hU]
    refine wpIn_mono (hbody _ pre x a' U uI uA hN) ?_
    have close : ∀ (jump : Option Code) (Z : World), KeepsFrom w.heap.size U Z →
        (Instr.endRound (w.heap.size + 1) jump).run P Z = .ok (.bool jump.isNone) (Z.putObj (w.heap.size + 1) (.loop (rec (if jump.isNone then .ready else .done) jump))) ∧
        Z.heap[w.heap.size + 1]? = some (.loop { rec .ready none with state := .busy }) ∧
        (Z.putObj (w.heap.size + 1) (.loop (rec (if jump.isNone then .ready else .done) jump))).heap[w.heap.size + 1]? = some (.loop (rec (if jump.isNone then .ready else .done) jump)) ∧
        (Z.putObj (w.heap.size + 1) (.loop (rec (if jump.isNone then .ready else .done) jump))).heap[w.heap.size]? = some (.deferred (some [])) := fun jump Z hZ => by
      have z1 := hZ.same _ _ (by omega) uL rfl
      have ze := run_endRound (P := P) jump z1
      rw [hrec] at ze ⊢
      exact ⟨ze, by rw [hrec] at z1; exact z1, World.putObj_heap_same (Array.getElem?_eq_some_iff.1 z1).1, (World.putObj_heap_other (by omega)).trans (hZ.same _ _ (Nat.le_refl _) uD rfl)⟩
    have away : ∀ (c : Code) (Z : World), KeepsFrom w.heap.size U Z → Ix c (pre ++ [x]) Z → _ := fun c Z hZ hi3 => by
      obtain ⟨hr, z1, z2, z3⟩ := close (some c) Z hZ
      exact (⟨_, _, hr, .inr ⟨rfl, c, hIxb c _ _ _ hi3 (bk_put _ (by omega) z1 rfl), z2, z3⟩⟩ : ∃ v W', (Instr.endRound (w.heap.size + 1) (some c)).run P Z = .ok v W' ∧ (((Ending.returned v) = .returned (.bool true) ∧ (I (pre ++ [x]) W' ∧ W'.heap[w.heap.size + 1]? = some (.loop (rec .ready none)) ∧ W'.heap[w.heap.size]? = some (.deferred (some []))) ∧ Kp W W') ∨ ((Ending.returned v) = .returned (.bool false) ∧ ∃ c, Ix c (pre ++ [x]) W' ∧ W'.heap[w.heap.size + 1]? = some (.loop (rec .done (some c))) ∧ W'.heap[w.heap.size]? = some (.deferred (some [])))))
    rintro e a3 Z hp
    cases e with
    | normal =>
      obtain ⟨hZ, hk3, hi3⟩ := hp
      obtain ⟨hr, z1, z2, z3⟩ := close none Z hZ
      exact ⟨_, _, hr, .inl ⟨rfl, ⟨hIb _ _ _ hi3 (bk_put _ (by omega) z1 rfl), z2, z3⟩, hKt hkp (hKt (hKt uK hk3) (hKb _ _ _ _ (by omega) z1 rfl))⟩⟩
    | ret => exact away .ret Z hp.1 hp.2
    | exit id => exact away (.exit id) Z hp.1 hp.2
    | goto t => exact away (.goto t) Z hp.1 hp.2
    | panic ch => exact hp.elim
    | outgrown => exact hp.elim
  · rintro e Z ⟨⟨v, rfl⟩, (⟨xs, hS, hi, hl, hk⟩ | ⟨pre, hR, c, hi, hl, hk⟩)⟩
    · exact ⟨none, _, by have := run_endLoop (P := P) hl (by rw [hrec]; simp); rw [hrec] at this; exact this, hdone _ xs _ (Nat.le_refl _) hS (hIb _ _ _ hi (bk_put _ (by omega) hl rfl)) ((World.putObj_heap_other (by omega)).trans hk)⟩
    · exact ⟨some c, _, by have := run_endLoop (P := P) hl (by rw [hrec]; simp); rw [hrec] at this; exact this, hstop _ c pre _ (Nat.le_refl _) hR (hIxb c _ _ _ hi (bk_put _ (by omega) hl rfl)) ((World.putObj_heap_other (by omega)).trans hk)⟩
end Go.Proofs.YtjohgagiccndpaaGreatDoor

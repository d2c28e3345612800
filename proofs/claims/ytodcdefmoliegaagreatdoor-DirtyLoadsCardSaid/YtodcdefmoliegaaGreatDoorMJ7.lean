/-
  Texts put together: J7.
-/
import Derived.Test.YtodcdefmoliegaaGreatDoorMJ6
import Derived.Test.YtodcdefmoliegaaGreatDoorMT0
/-
  A map's sector: the contracts of Save and Load.
-/
namespace Go.Proofs.YtodcdefmoliegaaGreatDoor
open Go.RowKit
set_option linter.unusedVariables false
set_option linter.unusedSimpArgs false

structure MT where
  a : Nat
  b : Nat
  c : Nat
  d : Nat
  e : Nat
def MT.val (m : MT) : Value := mapV m.a m.b m.c m.d m.e
def MT.ok (m : MT) : Prop := m.a < 18446744073709551616 ∧ m.b < 18446744073709551616 ∧ m.c < 18446744073709551616 ∧ m.d < 18446744073709551616 ∧ m.e < 18446744073709551616
def MT.text (m : MT) : List UInt8 := mapT m.a m.b m.c m.d m.e
def noMT : MT := ⟨0, 0, 0, 0, 0⟩
def decP (xs : List UInt8) : MT := ⟨dA xs, dB xs, dC xs, dD xs, dE xs⟩
theorem decP_val (xs) : (decP xs).val = decV xs := rfl
/-- A map's record. -/
def mapB (m : MT) : ByteArray := ⟨(recL 5 m.text).toArray⟩
theorem mapP_make (m : MT) : makeP 5 m.text = (recL 5 m.text, 0) := by
  unfold makeP
  rw [if_neg (by omega), if_neg (by unfold MT.text; rw [mapT_length]; omega)]
  rfl
theorem mapB_size (m : MT) : (mapB m).size = 64 := by
  show (List.toArray (recL 5 m.text)).size = 64
  rw [List.size_toArray, recL_length _ _ (by unfold MT.text; rw [mapT_length]; omega)]

/-- A map is saved: the answer, and the disk then. -/
def dsaveP (S : DS) (m : MT) : Int × DS := if (S.write 5 (mapB m)).1 ≠ 0 then S.write 5 (mapB m) else (S.write 5 (mapB m)).2.flush
/-- A map, or why there is none. -/
def dopenP (xs : List UInt8) : MT × Int := if (openP 5 xs).2 ≠ 0 then (noMT, ((openP 5 xs).2 : Int)) else if (openP 5 xs).1.length ≠ 40 then (noMT, 6) else (decP (openP 5 xs).1, 0)
def dloadP (S : DS) : MT × Int := if (S.read 5).2 ≠ 0 then (noMT, (S.read 5).2) else dopenP (S.read 5).1.data.toList
def dloadV (r : MT × Int) : Value := .tuple #[r.1.val, .int .i64 r.2]

theorem dsaveP_ok {S : DS} {N : Nat} (h : S.ok N) (m : MT) : (dsaveP S m).2.ok (N + 2) := by
  unfold dsaveP
  split
  · exact (h.write _ _).mono (by omega)
  · exact (h.write _ _).flush

set_option maxRecDepth 20000 in
set_option maxHeartbeats 4000000 in
theorem dsave_any (B p : Nat) (v1 v2 : Value) (S : DS) (m : MT) (w : World) (h : PD w B p v1 v2 S) (hB : B ≤ w.heap.size) (N : Nat) (hok : S.ok N) (hN : N + 1 ≤ 1000000) (hm : m.ok) :
    Calls Tryz.prog 13 #[.pointer (some ⟨p, 0, none⟩), m.val] w fun e w' => e = .returned (.int .i64 (dsaveP S m).1) ∧ PP w B p v1 v2 (dsaveP S m).2 w' := by
  have hen := fun w => encode_any m.a m.b m.c m.d m.e w hm.1 hm.2.1 hm.2.2.1 hm.2.2.2.1 hm.2.2.2.2
  have hmk := fun w => make_any 5 ⟨m.text.toArray⟩ w (by show (List.toArray m.text).size ≤ _; rw [List.size_toArray]; unfold MT.text; rw [mapT_length]; omega)
  rw [show (⟨m.text.toArray⟩ : ByteArray).data.toList = m.text from rfl, mapP_make] at hmk
  unfold tupV at hmk
  dsimp only at hmk
  change ∀ w, Calls _ _ #[mapV m.a m.b m.c m.d m.e] w (fun x w' => x = .returned (.string ⟨m.text.toArray⟩) ∧ _) at hen
  rw [show strV (recL 5 m.text) = .string (mapB m) from rfl, show ((0 : Nat) : Int) = 0 from rfl] at hmk
  have hb0 : Below w.heap.size w (w.alloc (.cells #[.int .u64 (m.a : Int), .int .u64 (m.b : Int), .int .u64 (m.c : Int), .int .u64 (m.d : Int), .int .u64 (m.e : Int)] 41)) := (Below.refl _ w).alloc (Nat.le_refl _) _
  have bM := Box5.new w 41 (.int .u64 (m.a : Int)) (.int .u64 (m.b : Int)) (.int .u64 (m.c : Int)) (.int .u64 (m.d : Int)) (.int .u64 (m.e : Int))
  unfold dsaveP MT.val
  generalize m.text = tx at *
  generalize mapB m = V3 at *
  generalize (⟨tx.toArray⟩ : ByteArray) = V1 at *
  generalize m.a = a at *
  generalize m.b = b at *
  generalize m.c = c at *
  generalize m.d = d at *
  generalize m.e = e at *
  unfold mapV at *
  have hwt := fun w2 (hb : Below w.heap.size w w2) => write_any B p v1 v2 S 5 V3 w2 (h.below hb) (Nat.le_trans hB hb.size) N hok (by omega)
  have hwo := hok.write 5 V3
  obtain ⟨r, T, hrT⟩ : ∃ r T, S.write 5 V3 = (r, T) := ⟨_, _, rfl⟩
  rw [hrT] at hwt hwo ⊢
  dsimp only at hwt hwo ⊢
  have HEN := Lib.hid hen
  have HMK := Lib.hid hmk
  have HB0 := Lib.hid hb0
  have HBM := Lib.hid bM
  have HWT := Lib.hid hwt
  have HWO := Lib.hid hwo
  have HB := Lib.hid hB
  have HN := Lib.hid hN
  clear hen hmk hb0 bM hwt hwo hrT h hok hB hN hm
  have hstart : True := trivial
  by_cases hr : r = 0
  · subst hr
    rw [if_neg (by simp)]
    have hfl := fun w3 a b (h3 : PD w3 B p a b T) (hB3 : B ≤ w3.heap.size) => flush_any B p a b T w3 h3 hB3 (N + 1) HWO.out HN.out
    obtain ⟨r2, T2, hT2⟩ : ∃ r T', T.flush = (r, T') := ⟨_, _, rfl⟩
    rw [hT2] at hfl ⊢
    dsimp only at hfl ⊢
    have HFL := Lib.hid hfl
    clear hfl hT2
    go_enter Tryz.func13, Tryz.ntmps13
    go_wp2_with fail
    refine (HEN.out _).mono ?_
    rintro r1 w1 ⟨rfl, hb⟩
    have HB1 := Lib.hid (HB0.out.trans (hb.mono HB0.out.size))
    clear hb
    go_wp2_with fail
    refine (HMK.out _).mono ?_
    rintro r1 w2 ⟨rfl, hb⟩
    have HB2 := Lib.hid (HB1.out.trans (hb.mono HB1.out.size))
    clear hb HB1 HMK
    go_wp2_with fail
    refine (HWT.out w2 HB2.out).mono ?_
    rintro r1 w3 ⟨rfl, hpp⟩
    have HPP := Lib.hid (pp_below HB2.out hpp)
    clear hpp HWT
    go_wp2_with fail
    obtain ⟨x, y, hp3, hf3, ht3⟩ := HPP.out
    refine (HFL.out w3 x y hp3 (Nat.le_trans HB.out hf3.size)).mono ?_
    rintro r1 w4 ⟨rfl, hpp⟩
    have hfin : PP w B p v1 v2 T2 w4 := by
      obtain ⟨a2, b2, hp4, hf4, ht4⟩ := hpp
      exact ⟨a2, b2, hp4, hf3.trans hf4 (fun i hi => ht3 i hi), fun i hi => (ht4 i hi).elim (ht3 i) (fun h => .inr (Nat.le_trans hf3.size h))⟩
    have HFIN := Lib.hid hfin
    clear hp3 hf3 ht3 hpp hfin HFL HPP
    go_wp2
    go_ret
    exact ⟨rfl, HFIN.out⟩
  · have hr2 : (r == 0) = false := by simpa using hr
    have hr3 : (r != 0) = true := by simp [hr]
    rw [if_pos hr]
    dsimp only
    clear hr
    go_enter Tryz.func13, Tryz.ntmps13
    go_wp2_with fail
    refine (HEN.out _).mono ?_
    rintro r1 w1 ⟨rfl, hb⟩
    have HB1 := Lib.hid (HB0.out.trans (hb.mono HB0.out.size))
    clear hb
    go_wp2_with fail
    refine (HMK.out _).mono ?_
    rintro r1 w2 ⟨rfl, hb⟩
    have HB2 := Lib.hid (HB1.out.trans (hb.mono HB1.out.size))
    clear hb HB1 HMK
    go_wp2_with fail
    refine (HWT.out w2 HB2.out).mono ?_
    rintro r1 w3 ⟨rfl, hpp⟩
    have HPP := Lib.hid (pp_below HB2.out hpp)
    clear hpp HWT
    go_wp2
    go_ret
    exact ⟨rfl, HPP.out⟩

set_option maxRecDepth 20000 in
set_option maxHeartbeats 4000000 in
theorem dload_any (B p : Nat) (v1 v2 : Value) (S : DS) (w : World) (h : PD w B p v1 v2 S) (hf : S.W.length ≤ 1000000) (hl : S.L.length ≤ 1000000) :
    Calls Tryz.prog 11 #[.pointer (some ⟨p, 0, none⟩)] w fun e w' => e = .returned (dloadV (dloadP S)) ∧ Below w.heap.size w w' := by
  have bR := Box5.new w 41 (.int .u64 0) (.int .u64 0) (.int .u64 0) (.int .u64 0) (.int .u64 0)
  have hB0 : Below w.heap.size w (w.alloc (.cells #[.int .u64 0, .int .u64 0, .int .u64 0, .int .u64 0, .int .u64 0] 41)) := (Below.refl _ w).alloc (Nat.le_refl _) _
  have hr := read_any B p v1 v2 S 5 _ (h.below hB0) hf hl
  unfold two at hr
  obtain ⟨xs, hxs, hxl⟩ := bytes_of (S.read 5).1
  obtain ⟨k, hk⟩ : ∃ k, k = (S.read 5).2 := ⟨_, rfl⟩
  unfold dloadP
  rw [hxs, ← hk] at hr
  rw [hxl, ← hk]
  change Calls _ _ _ _ (fun e w' => e = .returned (.tuple #[strV xs, .int .i64 k]) ∧ _) at hr
  have ho := fun w => open_any 5 xs w
  unfold tupV at ho
  obtain ⟨ys, q, hq⟩ : ∃ ys q, openP 5 xs = (ys, q) := ⟨_, _, rfl⟩
  unfold dopenP
  rw [hq] at ho ⊢
  dsimp only at ho ⊢
  have hyl : q = 0 → ys.length ≤ 58 := fun e => by subst e; exact (make_kind (open_make hq)).2.2.2
  have hdec := fun (e : ys.length = 40) w => decode_any ys w e
  have hlen := fun w => len_str ys w
  obtain ⟨VX, hVX⟩ : ∃ V, strV xs = V := ⟨_, rfl⟩
  obtain ⟨VY, hVY⟩ : ∃ V, strV ys = V := ⟨_, rfl⟩
  rw [hVX] at hr ho
  rw [hVY] at ho hdec hlen
  have HR := Lib.hid hr
  have HO := Lib.hid ho
  have HB0 := Lib.hid hB0
  have HBR := Lib.hid bR
  clear hr ho hB0 bR hxs hxl hk hq hVX hVY h hf hl
  have zero5 : noMT.val = .agg #[.int .u64 0, .int .u64 0, .int .u64 0, .int .u64 0, .int .u64 0] := rfl
  have hz : ∀ w6, Box5 w6 w.heap.size 41 (.int .u64 0) (.int .u64 0) (.int .u64 0) (.int .u64 0) (.int .u64 0) → Box5 (((((w6.setCell ⟨w.heap.size, 0, none⟩ (.int .u64 0)).setCell ⟨w.heap.size, 1, none⟩ (.int .u64 0)).setCell ⟨w.heap.size, 2, none⟩ (.int .u64 0)).setCell ⟨w.heap.size, 3, none⟩ (.int .u64 0)).setCell ⟨w.heap.size, 4, none⟩ (.int .u64 0)) w.heap.size 41 (.int .u64 0) (.int .u64 0) (.int .u64 0) (.int .u64 0) (.int .u64 0) := fun w6 h => h.set _ _ _ _ _
  have HZ := Lib.hid hz
  clear hz
  by_cases hk : k = 0
  · subst hk
    rw [if_neg (by simp)]
    by_cases hq : q = 0
    · subst hq
      rw [if_neg (by simp)]
      by_cases h4 : ys.length = 40
      · rw [if_neg (by simp [h4])]
        have hd := hdec h4
        unfold dloadV
        rw [decP_val]
        unfold decV mapV at hd ⊢
        generalize dA ys = a at *
        generalize dB ys = b at *
        generalize dC ys = c at *
        generalize dD ys = d at *
        generalize dE ys = e at *
        have i4 : (ys.length : Int) = 40 := by omega
        have HD := Lib.hid hd
        clear hd hdec hyl h4
        generalize ys.length = yl at *
        go_enter Tryz.func11, Tryz.ntmps11
        go_wp2_with fail
        refine HR.out.mono ?_
        rintro r w1 ⟨rfl, hb⟩
        have HB1 := Lib.hid (HB0.out.trans (hb.mono HB0.out.size))
        have HX1 := Lib.hid (HBR.out.below hb HBR.out.lt)
        clear hb HR HB0 HBR
        go_wp2_with fail
        refine (HO.out _).mono ?_
        rintro r w2 ⟨rfl, hb⟩
        have HB2 := Lib.hid (HB1.out.trans (hb.mono HB1.out.size))
        have HX2 := Lib.hid (HX1.out.below hb HX1.out.lt)
        clear hb HO HB1 HX1
        go_wp2_with fail
        refine (HD.out _).mono ?_
        rintro r w3 ⟨rfl, hb⟩
        have HB3 := Lib.hid (HB2.out.trans (hb.mono HB2.out.size))
        have x3 := HX2.out.below hb HX2.out.lt
        have c0 := x3.c0
        have c1 := x3.c1
        have c2 := x3.c2
        have c3 := x3.c3
        have c4 := x3.c4
        have f0 := x3.fr 0
        have f1 := x3.fr 1
        have f2 := x3.fr 2
        have f3 := x3.fr 3
        have f4 := x3.fr 4
        have H6 := Lib.hid (x3.set (.int .u64 (a : Int)) (.int .u64 (b : Int)) (.int .u64 (c : Int)) (.int .u64 (d : Int)) (.int .u64 (e : Int)))
        have HF := Lib.hid (below5 (p := w.heap.size) (a := .int .u64 (a : Int)) (b := .int .u64 (b : Int)) (c := .int .u64 (c : Int)) (d := .int .u64 (d : Int)) (e := .int .u64 (e : Int)) HB3.out (Nat.le_refl _))
        clear hb x3 HB2 HX2 HB3 HD
        go_wp2
        have b6 := H6.out
        refine bodyPost_ret (by simp [results, Tryz.f11, go_sem, b6.c0, b6.c1, b6.c2, b6.c3, b6.c4]; try rfl) rfl ?_
        exact ⟨rfl, HF.out⟩
      · rw [if_pos h4]
        unfold dloadV
        rw [zero5]
        have i4 : ((ys.length : Int) == 40) = false := by simp; omega
        have i5 : ((ys.length : Int) != 40) = true := by simp; omega
        clear hdec hyl h4
        generalize ys.length = yl at *
        go_enter Tryz.func11, Tryz.ntmps11
        go_wp2_with fail
        refine HR.out.mono ?_
        rintro r w1 ⟨rfl, hb⟩
        have HB1 := Lib.hid (HB0.out.trans (hb.mono HB0.out.size))
        have HX1 := Lib.hid (HBR.out.below hb HBR.out.lt)
        clear hb HR HB0 HBR
        go_wp2_with fail
        refine (HO.out _).mono ?_
        rintro r w2 ⟨rfl, hb⟩
        have HB2 := Lib.hid (HB1.out.trans (hb.mono HB1.out.size))
        have x3 := HX1.out.below hb HX1.out.lt
        have c0 := x3.c0
        have c1 := x3.c1
        have c2 := x3.c2
        have c3 := x3.c3
        have c4 := x3.c4
        have f0 := x3.fr 0
        have f1 := x3.fr 1
        have f2 := x3.fr 2
        have f3 := x3.fr 3
        have f4 := x3.fr 4
        have H6 := Lib.hid (HZ.out _ x3)
        have HF := Lib.hid (below5 (p := w.heap.size) (a := .int .u64 0) (b := .int .u64 0) (c := .int .u64 0) (d := .int .u64 0) (e := .int .u64 0) HB2.out (Nat.le_refl _))
        clear hb x3 HB1 HX1 HB2 HO
        go_wp2
        have b6 := H6.out
        refine bodyPost_ret (by simp [results, Tryz.f11, go_sem, b6.c0, b6.c1, b6.c2, b6.c3, b6.c4]; try rfl) rfl ?_
        exact ⟨rfl, HF.out⟩
    · rw [if_pos hq]
      unfold dloadV
      rw [zero5]
      dsimp only
      have i4 : ((q : Int) == 0) = false := by simp; omega
      have i5 : ((q : Int) != 0) = true := by simp; omega
      clear hdec hyl hq hlen
      go_enter Tryz.func11, Tryz.ntmps11
      go_wp2_with fail
      refine HR.out.mono ?_
      rintro r w1 ⟨rfl, hb⟩
      have HB1 := Lib.hid (HB0.out.trans (hb.mono HB0.out.size))
      have HX1 := Lib.hid (HBR.out.below hb HBR.out.lt)
      clear hb HR HB0 HBR
      go_wp2_with fail
      refine (HO.out _).mono ?_
      rintro r w2 ⟨rfl, hb⟩
      have HB2 := Lib.hid (HB1.out.trans (hb.mono HB1.out.size))
      have x3 := HX1.out.below hb HX1.out.lt
      have c0 := x3.c0
      have c1 := x3.c1
      have c2 := x3.c2
      have c3 := x3.c3
      have c4 := x3.c4
      have f0 := x3.fr 0
      have f1 := x3.fr 1
      have f2 := x3.fr 2
      have f3 := x3.fr 3
      have f4 := x3.fr 4
      have H6 := Lib.hid (HZ.out _ x3)
      have HF := Lib.hid (below5 (p := w.heap.size) (a := .int .u64 0) (b := .int .u64 0) (c := .int .u64 0) (d := .int .u64 0) (e := .int .u64 0) HB2.out (Nat.le_refl _))
      clear hb x3 HB1 HX1 HB2 HO
      go_wp2
      have b6 := H6.out
      refine bodyPost_ret (by simp [results, Tryz.f11, go_sem, b6.c0, b6.c1, b6.c2, b6.c3, b6.c4]; try rfl) rfl ?_
      exact ⟨rfl, HF.out⟩
  · rw [if_pos hk]
    unfold dloadV
    rw [zero5]
    dsimp only
    have i4 : (k == 0) = false := by simpa using hk
    have i5 : (k != 0) = true := by simp [hk]
    clear hdec hyl hk hlen
    go_enter Tryz.func11, Tryz.ntmps11
    go_wp2_with fail
    refine HR.out.mono ?_
    rintro r w1 ⟨rfl, hb⟩
    have HB1 := Lib.hid (HB0.out.trans (hb.mono HB0.out.size))
    have x3 := HBR.out.below hb HBR.out.lt
    have c0 := x3.c0
    have c1 := x3.c1
    have c2 := x3.c2
    have c3 := x3.c3
    have c4 := x3.c4
    have f0 := x3.fr 0
    have f1 := x3.fr 1
    have f2 := x3.fr 2
    have f3 := x3.fr 3
    have f4 := x3.fr 4
    have H6 := Lib.hid (HZ.out _ x3)
    have HF := Lib.hid (below5 (p := w.heap.size) (a := .int .u64 0) (b := .int .u64 0) (c := .int .u64 0) (d := .int .u64 0) (e := .int .u64 0) HB1.out (Nat.le_refl _))
    clear hb HR HB0 HBR x3
    go_wp2
    have b6 := H6.out
    refine bodyPost_ret (by simp [results, Tryz.f11, go_sem, b6.c0, b6.c1, b6.c2, b6.c3, b6.c4]; try rfl) rfl ?_
    exact ⟨rfl, HF.out⟩
end Go.Proofs.YtodcdefmoliegaaGreatDoor

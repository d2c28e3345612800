/-
  Texts put together: JC, J8, J2, J9, JK.
-/
import Derived.Test.YtodcdefmoliegaaGreatDoorMJ7
import Derived.Test.YtodcdefmoliegaaGreatDoorMT8
import Derived.Deep.RegionHeld3
import Derived.Deep.DeepCutAuto
import Derived.Test.YtodcdefmoliegaaGreatDoorMT4
import Derived.Test.YtodcdefmoliegaaGreatDoorMJ0
import Derived.Test.YtodcdefmoliegaaGreatDoorEA
/-
  The document's own Save and Load of a map.
-/
namespace Go.Proofs.YtodcdefmoliegaaGreatDoor
open Go.RowKit
set_option linter.unusedVariables false
set_option linter.unusedSimpArgs false

set_option maxRecDepth 20000 in
set_option maxHeartbeats 4000000 in
theorem rdsave_any (B p : Nat) (v1 v2 : Value) (S : DS) (m : MT) (w : World) (h : RD w B p v1 v2 S) (hB : B ≤ w.heap.size) (N : Nat) (hok : S.ok N) (hN : N + 1 ≤ 1000000) (hm : m.ok) :
    Calls Tryz.prog 15 #[.pointer (some ⟨p, 0, none⟩), m.val] w fun e w' => e = .returned (.int .i64 (dsaveP S m).1) ∧ RP w B p v1 v2 (dsaveP S m).2 w' := by
  have h1 := fun w => rbytes_any m.a m.b w hm.1 hm.2.1
  have h2 := fun w => rbytes_any m.c m.d w hm.2.2.1 hm.2.2.2.1
  have h3 := fun w => text_any 8 m.e w (by omega) (by omega) hm.2.2.2.2
  have a1 := fun w => add_texts (setT m.a m.b) (setT m.c m.d) (by simp [setT_length]) w
  have a2 := fun w => add_texts (setT m.a m.b ++ setT m.c m.d) (enc m.e 8) (by simp [setT_length, enc_length]) w
  rw [show strV (setT m.a m.b ++ setT m.c m.d ++ enc m.e 8) = .string ⟨m.text.toArray⟩ from rfl] at a2
  have hmk := fun w => rmake_any 5 ⟨m.text.toArray⟩ w (by show (List.toArray m.text).size ≤ _; rw [List.size_toArray]; unfold MT.text; rw [mapT_length]; omega)
  rw [show (⟨m.text.toArray⟩ : ByteArray).data.toList = m.text from rfl, mapP_make] at hmk
  unfold tupV at hmk
  dsimp only at hmk
  obtain ⟨X1, hX1⟩ : ∃ V, strV (setT m.a m.b) = V := ⟨_, rfl⟩
  obtain ⟨X2, hX2⟩ : ∃ V, strV (setT m.c m.d) = V := ⟨_, rfl⟩
  obtain ⟨X3, hX3⟩ : ∃ V, strV (setT m.a m.b ++ setT m.c m.d) = V := ⟨_, rfl⟩
  obtain ⟨X4, hX4⟩ : ∃ V, strV (enc m.e 8) = V := ⟨_, rfl⟩
  obtain ⟨X5, hX5⟩ : ∃ V, Value.string ⟨m.text.toArray⟩ = V := ⟨_, rfl⟩
  simp only [hX1] at h1 a1
  simp only [hX2] at h2 a1
  simp only [hX3] at a1 a2
  simp only [hX4] at h3 a2
  simp only [hX5] at a2 hmk
  simp only [show ((8 : Nat) : Int) = 8 from rfl] at h3
  clear hX1 hX2 hX3 hX4 hX5
  unfold setV at h1 h2
  rw [show strV (recL 5 m.text) = .string (mapB m) from rfl, show ((0 : Nat) : Int) = 0 from rfl] at hmk
  have hb0 : Below w.heap.size w (w.alloc (.cells #[.int .u64 (m.a : Int), .int .u64 (m.b : Int), .int .u64 (m.c : Int), .int .u64 (m.d : Int), .int .u64 (m.e : Int)] 26)) := (Below.refl _ w).alloc (Nat.le_refl _) _
  have bM := Box5.new w 26 (.int .u64 (m.a : Int)) (.int .u64 (m.b : Int)) (.int .u64 (m.c : Int)) (.int .u64 (m.d : Int)) (.int .u64 (m.e : Int))
  unfold dsaveP MT.val
  generalize mapB m = V3 at *
  generalize m.a = a at *
  generalize m.b = b at *
  generalize m.c = c at *
  generalize m.d = d at *
  generalize m.e = e at *
  unfold mapV at *
  have hwt := fun w2 (hb : Below w.heap.size w w2) => rwrite_any B p v1 v2 S 5 V3 w2 (h.below hb) (Nat.le_trans hB hb.size) N hok (by omega)
  have hwo := hok.write 5 V3
  obtain ⟨r, T, hrT⟩ : ∃ r T, S.write 5 V3 = (r, T) := ⟨_, _, rfl⟩
  rw [hrT] at hwt hwo ⊢
  dsimp only at hwt hwo ⊢
  have H1 := Lib.hid h1
  have H2 := Lib.hid h2
  have H3 := Lib.hid h3
  have HQ := Lib.hid (And.intro a1 a2)
  have HMK := Lib.hid hmk
  have HB0 := Lib.hid hb0
  have HBM := Lib.hid bM
  have HWT := Lib.hid hwt
  have HWO := Lib.hid hwo
  have HB := Lib.hid hB
  have HN := Lib.hid hN
  clear h1 h2 h3 a1 a2 hmk hb0 bM hwt hwo hrT h hok hB hN hm
  obtain ⟨W0, hW0⟩ : ∃ W, W = w.alloc (.cells #[.int .u64 (a : Int), .int .u64 (b : Int), .int .u64 (c : Int), .int .u64 (d : Int), .int .u64 (e : Int)] 26) := ⟨_, rfl⟩
  rw [← hW0] at HBM HB0
  have HW0 := Lib.hid hW0
  clear hW0
  have hkp : ∀ w', Below W0.drew.heap.size W0.drew w' → (w'.cell? ⟨w.heap.size, 0, none⟩ = some (.int .u64 (a : Int)) ∧ w'.cell? ⟨w.heap.size, 1, none⟩ = some (.int .u64 (b : Int)) ∧ w'.cell? ⟨w.heap.size, 2, none⟩ = some (.int .u64 (c : Int)) ∧ w'.cell? ⟨w.heap.size, 3, none⟩ = some (.int .u64 (d : Int)) ∧ w'.cell? ⟨w.heap.size, 4, none⟩ = some (.int .u64 (e : Int))) := fun w' h =>
    have x := (show Box5 W0.drew _ _ _ _ _ _ _ from HBM.out).below h HBM.out.lt
    ⟨x.c0, x.c1, x.c2, x.c3, x.c4⟩
  have HKP := Lib.hid hkp
  clear hkp
  by_cases hr : r = 0
  · subst hr
    rw [if_neg (by simp)]
    have hfl := fun w3 a b (h3 : RD w3 B p a b T) (hB3 : B ≤ w3.heap.size) => rflush_any B p a b T w3 h3 hB3 (N + 1) HWO.out HN.out
    obtain ⟨r2, T2, hT2⟩ : ∃ r T', T.flush = (r, T') := ⟨_, _, rfl⟩
    rw [hT2] at hfl ⊢
    dsimp only at hfl ⊢
    have HFL := Lib.hid hfl
    clear hfl hT2
    go_enter Tryz.func15, Tryz.ntmps15
    go_upto_region 1 with fail
    rw [← HW0.out]
    obtain ⟨q1, q2⟩ := HQ.out
    have hG : Below W0.drew.heap.size W0.drew W0.drew := Below.refl _ _
    go_region_held3 (fun w' => (w'.cell? ⟨w.heap.size, 0, none⟩ = some (.int .u64 (a : Int)) ∧ w'.cell? ⟨w.heap.size, 1, none⟩ = some (.int .u64 (b : Int)) ∧ w'.cell? ⟨w.heap.size, 2, none⟩ = some (.int .u64 (c : Int)) ∧ w'.cell? ⟨w.heap.size, 3, none⟩ = some (.int .u64 (d : Int)) ∧ w'.cell? ⟨w.heap.size, 4, none⟩ = some (.int .u64 (e : Int))))
      (exact HKP.out _ hG)
      (first
      | (go_at_call 43; with_reducible refine (H1.out _).mono ?_; rintro r w' ⟨rfl, hb⟩; replace hG := hG.trans (hb.mono hG.size); clear hb)
      | (go_at_call 43; with_reducible refine (H2.out _).mono ?_; rintro r w' ⟨rfl, hb⟩; replace hG := hG.trans (hb.mono hG.size); clear hb)
      | (go_at_call 44; with_reducible refine (H3.out _).mono ?_; rintro r w' ⟨rfl, hb⟩; replace hG := hG.trans (hb.mono hG.size); clear hb)
      | (go_at_call 42; with_reducible refine (HMK.out _).mono ?_; rintro r w' ⟨rfl, hb⟩; replace hG := hG.trans (hb.mono hG.size); clear hb))
    rename_i hHeld
    clear hHeld
    have HB2 := Lib.hid (HB0.out.trans (Below.mono ⟨hG.os, hG.tape, hG.output, hG.size, hG.block⟩ HB0.out.size))
    clear hG q1 q2
    go_wp2_with fail
    refine (HWT.out _ HB2.out).mono ?_
    rintro r1 w3 ⟨rfl, hpp⟩
    have HPP := Lib.hid (rp_below HB2.out hpp)
    clear hpp HWT
    go_wp2_with fail
    obtain ⟨x, y, hp3, hf3, ht3⟩ := HPP.out
    refine (HFL.out w3 x y hp3 (Nat.le_trans HB.out hf3.size)).mono ?_
    rintro r1 w4 ⟨rfl, hpp⟩
    have hfin : RP w B p v1 v2 T2 w4 := by
      obtain ⟨a2, b2, hp4, hf4, ht4⟩ := hpp
      exact ⟨a2, b2, hp4, hf3.trans hf4 (fun i hi => ht3 i hi), fun i hi => (ht4 i hi).elim (ht3 i) (fun h => .inr (Nat.le_trans hf3.size h))⟩
    have HFIN := Lib.hid hfin
    clear hp3 hf3 ht3 hpp hfin HFL HPP
    go_wp2
    go_ret
    exact ⟨rfl, HFIN.out⟩
  · have hr2 : (r == 0) = false := by simpa using hr
    have hr3 : (r != 0) = true := by simp [hr]
    rw [if_pos hr]
    dsimp only
    clear hr
    go_enter Tryz.func15, Tryz.ntmps15
    go_upto_region 1 with fail
    rw [← HW0.out]
    obtain ⟨q1, q2⟩ := HQ.out
    have hG : Below W0.drew.heap.size W0.drew W0.drew := Below.refl _ _
    go_region_held3 (fun w' => (w'.cell? ⟨w.heap.size, 0, none⟩ = some (.int .u64 (a : Int)) ∧ w'.cell? ⟨w.heap.size, 1, none⟩ = some (.int .u64 (b : Int)) ∧ w'.cell? ⟨w.heap.size, 2, none⟩ = some (.int .u64 (c : Int)) ∧ w'.cell? ⟨w.heap.size, 3, none⟩ = some (.int .u64 (d : Int)) ∧ w'.cell? ⟨w.heap.size, 4, none⟩ = some (.int .u64 (e : Int))))
      (exact HKP.out _ hG)
      (first
      | (go_at_call 43; with_reducible refine (H1.out _).mono ?_; rintro r w' ⟨rfl, hb⟩; replace hG := hG.trans (hb.mono hG.size); clear hb)
      | (go_at_call 43; with_reducible refine (H2.out _).mono ?_; rintro r w' ⟨rfl, hb⟩; replace hG := hG.trans (hb.mono hG.size); clear hb)
      | (go_at_call 44; with_reducible refine (H3.out _).mono ?_; rintro r w' ⟨rfl, hb⟩; replace hG := hG.trans (hb.mono hG.size); clear hb)
      | (go_at_call 42; with_reducible refine (HMK.out _).mono ?_; rintro r w' ⟨rfl, hb⟩; replace hG := hG.trans (hb.mono hG.size); clear hb))
    rename_i hHeld
    clear hHeld
    have HB2 := Lib.hid (HB0.out.trans (Below.mono ⟨hG.os, hG.tape, hG.output, hG.size, hG.block⟩ HB0.out.size))
    clear hG q1 q2
    go_wp2_with fail
    refine (HWT.out _ HB2.out).mono ?_
    rintro r1 w3 ⟨rfl, hpp⟩
    have HPP := Lib.hid (rp_below HB2.out hpp)
    clear hpp HWT
    go_wp2
    go_ret
    exact ⟨rfl, HPP.out⟩

theorem rfrom_ok (xs : List UInt8) (h : xs.length = 16) (w : World) :
    Calls Tryz.prog 37 #[strV xs] w fun e w' => e = .returned (.tuple #[setV (numN (xs.take 8)) (numN (xs.drop 8)), .int .i64 0]) ∧ Below w.heap.size w w' := by
  have := rfrom_any ⟨xs.toArray⟩ w
  rw [show (⟨xs.toArray⟩ : ByteArray).data.toList = xs from rfl] at this
  have hv : fromV xs = .tuple #[setV (numN (xs.take 8)) (numN (xs.drop 8)), .int .i64 0] := by
    unfold fromV fromP
    rw [if_pos h]; rfl
  rw [hv] at this
  exact this

set_option maxRecDepth 20000 in
set_option maxHeartbeats 4000000 in
theorem rdload_any (B p : Nat) (v1 v2 : Value) (S : DS) (w : World) (h : RD w B p v1 v2 S) (hf : S.W.length ≤ 1000000) (hl : S.L.length ≤ 1200) :
    Calls Tryz.prog 12 #[.pointer (some ⟨p, 0, none⟩)] w fun e w' => e = .returned (dloadV (dloadP S)) ∧ Below w.heap.size w w' := by
  have bR := Box5.new w 26 (.int .u64 0) (.int .u64 0) (.int .u64 0) (.int .u64 0) (.int .u64 0)
  have hB0 : Below w.heap.size w (w.alloc (.cells #[.int .u64 0, .int .u64 0, .int .u64 0, .int .u64 0, .int .u64 0] 26)) := (Below.refl _ w).alloc (Nat.le_refl _) _
  have hr := (rread_any B p v1 v2 S 5 _ (h.below hB0) hf (by omega)).mono (R' := fun e w' => e = .returned (two (S.read 5)) ∧ Below (w.alloc (.cells #[.int .u64 0, .int .u64 0, .int .u64 0, .int .u64 0, .int .u64 0] 26)).heap.size (w.alloc (.cells #[.int .u64 0, .int .u64 0, .int .u64 0, .int .u64 0, .int .u64 0] 26)) w') (by rintro e w' ⟨rfl, rfl⟩; exact ⟨rfl, Below.refl _ _⟩)
  unfold two at hr
  obtain ⟨xs, hxs, hxl⟩ := bytes_of (S.read 5).1
  obtain ⟨k, hk⟩ : ∃ k, k = (S.read 5).2 := ⟨_, rfl⟩
  unfold dloadP
  rw [hxs, ← hk] at hr
  rw [hxl, ← hk]
  change Calls _ _ _ _ (fun e w' => e = .returned (.tuple #[strV xs, .int .i64 k]) ∧ _) at hr
  have ho := fun w => ropen_any 5 xs w
  unfold tupV at ho
  obtain ⟨ys, q, hq⟩ : ∃ ys q, openP 5 xs = (ys, q) := ⟨_, _, rfl⟩
  unfold dopenP
  rw [hq] at ho ⊢
  dsimp only at ho ⊢
  have hyl : q = 0 → ys.length ≤ 58 := fun e => by subst e; exact (make_kind (open_make hq)).2.2.2
  have hlen := fun w => len_str ys w
  obtain ⟨VX, hVX⟩ : ∃ V, strV xs = V := ⟨_, rfl⟩
  obtain ⟨VY, hVY⟩ : ∃ V, strV ys = V := ⟨_, rfl⟩
  rw [hVX] at hr ho
  rw [hVY] at ho hlen
  have HR := Lib.hid hr
  have HO := Lib.hid ho
  have HB0 := Lib.hid hB0
  have HBR := Lib.hid bR
  clear hr ho hB0 bR hxs hxl hk hq hVX h hf hl
  have zero5 : noMT.val = .agg #[.int .u64 0, .int .u64 0, .int .u64 0, .int .u64 0, .int .u64 0] := rfl
  have hz : ∀ w6, Box5 w6 w.heap.size 26 (.int .u64 0) (.int .u64 0) (.int .u64 0) (.int .u64 0) (.int .u64 0) → Box5 (((((w6.setCell ⟨w.heap.size, 0, none⟩ (.int .u64 0)).setCell ⟨w.heap.size, 1, none⟩ (.int .u64 0)).setCell ⟨w.heap.size, 2, none⟩ (.int .u64 0)).setCell ⟨w.heap.size, 3, none⟩ (.int .u64 0)).setCell ⟨w.heap.size, 4, none⟩ (.int .u64 0)) w.heap.size 26 (.int .u64 0) (.int .u64 0) (.int .u64 0) (.int .u64 0) (.int .u64 0) := fun w6 h => h.set _ _ _ _ _
  have HZ := Lib.hid hz
  clear hz
  by_cases hk : k = 0
  · subst hk
    rw [if_neg (by simp)]
    by_cases hq : q = 0
    · subst hq
      rw [if_neg (by simp)]
      by_cases h4 : ys.length = 40
      · rw [if_neg (by simp [h4])]
        unfold dloadV
        rw [decP_val]
        have g1 := fun w => rfrom_ok (ys.take 16) (by rw [List.length_take]; omega) w
        have g2 := fun w => rfrom_ok ((ys.take 32).drop 16) (by rw [List.length_drop, List.length_take]; omega) w
        have s1 := fun w => cut_to ys 16 (by omega) w
        have s2 := fun w => cut_both ys 16 32 (by omega) (by omega) w
        have hcv := fun w => cv_str ys (by omega) w
        have hget := fun a n c w (h : Rd w a n c ys) (h3 : 32 + 8 ≤ n) => rget_ok a n c ys 32 8 w h (by omega) (by omega) h3
        unfold decV mapV
        rw [show numN ((ys.take 16).take 8) = dA ys from rfl, show numN ((ys.take 16).drop 8) = dB ys from rfl] at g1
        rw [show numN (((ys.take 32).drop 16).take 8) = dC ys from rfl, show numN (((ys.take 32).drop 16).drop 8) = dD ys from rfl] at g2
        rw [show numN ((ys.drop 32).take 8) = dE ys from rfl] at hget
        generalize dA ys = a at *
        generalize dB ys = b at *
        generalize dC ys = c at *
        generalize dD ys = d at *
        generalize dE ys = e at *
        have i4 : (ys.length : Int) = 40 := by omega
        obtain ⟨Z1, hZ1⟩ : ∃ V, strV (ys.take 16) = V := ⟨_, rfl⟩
        obtain ⟨Z2, hZ2⟩ : ∃ V, strV ((ys.take 32).drop 16) = V := ⟨_, rfl⟩
        rw [hZ1] at g1 s1
        rw [hZ2] at g2 s2
        rw [hVY] at s1 s2 hcv
        simp only [show ((16 : Nat) : Int) = 16 from rfl, show ((32 : Nat) : Int) = 32 from rfl, show ((8 : Nat) : Int) = 8 from rfl] at s1 s2 hget
        unfold setV at g1 g2
        have G1 := Lib.hid g1
        have G2 := Lib.hid g2
        have HCV := Lib.hid hcv
        have HG := Lib.hid hget
        have HL := Lib.hid h4
        clear g1 g2 hcv hget hyl h4 hZ1 hZ2 hVY
        generalize ys.length = yl at *
        go_enter Tryz.func12, Tryz.ntmps12
        go_wp2_with fail
        refine HR.out.mono ?_
        rintro r w1 ⟨rfl, hb⟩
        have HB1 := Lib.hid (HB0.out.trans (hb.mono HB0.out.size))
        have HX1 := Lib.hid (HBR.out.below hb HBR.out.lt)
        clear hb HR HB0 HBR
        go_wp2_with fail
        refine (HO.out _).mono ?_
        rintro r w2 ⟨rfl, hb⟩
        have HB2 := Lib.hid (HB1.out.trans (hb.mono HB1.out.size))
        have HX2 := Lib.hid (HX1.out.below hb HX1.out.lt)
        clear hb HO HB1 HX1
        go_wp2_with fail
        refine (G1.out _).mono ?_
        rintro r w3 ⟨rfl, hb⟩
        have hb3 := HB2.out.trans (hb.mono HB2.out.size)
        have x3 := (HX2.out.below hb HX2.out.lt).alloc (.cells #[.int .u64 (a : Int), .int .u64 (b : Int)] 24)
        have s3 := Box2.new w3 24 (.int .u64 (a : Int)) (.int .u64 (b : Int))
        have hb4 : Below w.heap.size w (w3.alloc (.cells #[.int .u64 (a : Int), .int .u64 (b : Int)] 24)) := hb3.alloc hb3.size _
        go_upto_region 10 with fail
        obtain ⟨p7, hp7⟩ : ∃ p, p = w3.heap.size := ⟨_, rfl⟩
        obtain ⟨W3, hW3⟩ : ∃ W, W = w3.alloc (.cells #[.int .u64 (a : Int), .int .u64 (b : Int)] 24) := ⟨_, rfl⟩
        rw [← hp7] at s3 ⊢
        rw [← hW3] at s3 x3 hb4 ⊢
        have HB3 := Lib.hid hb4
        have HX3 := Lib.hid x3
        have HS3 := Lib.hid s3
        clear hb hb3 x3 s3 hb4 hp7 hW3 HB2 HX2 G1
        go_wp2_with fail
        refine (G2.out _).mono ?_
        rintro r w4 ⟨rfl, hb⟩
        have hb4 := HB3.out.trans (hb.mono HB3.out.size)
        have x4 := (HX3.out.below hb HX3.out.lt).alloc (.cells #[.int .u64 (c : Int), .int .u64 (d : Int)] 24)
        have t4 := (HS3.out.below hb HS3.out.lt).alloc (.cells #[.int .u64 (c : Int), .int .u64 (d : Int)] 24)
        have s4 := Box2.new w4 24 (.int .u64 (c : Int)) (.int .u64 (d : Int))
        have hb5 : Below w.heap.size w (w4.alloc (.cells #[.int .u64 (c : Int), .int .u64 (d : Int)] 24)) := hb4.alloc hb4.size _
        go_upto_region 11 with fail
        obtain ⟨p9, hp9⟩ : ∃ p, p = w4.heap.size := ⟨_, rfl⟩
        obtain ⟨W4, hW4⟩ : ∃ W, W = w4.alloc (.cells #[.int .u64 (c : Int), .int .u64 (d : Int)] 24) := ⟨_, rfl⟩
        rw [← hp9] at s4 ⊢
        rw [← hW4] at s4 x4 t4 hb5 ⊢
        obtain ⟨cc, w5, hcv, hrd, hb6⟩ := HCV.out W4
        have HX5 := Lib.hid (x4.below hb6 x4.lt)
        have HT5 := Lib.hid (t4.below hb6 t4.lt)
        have HS5 := Lib.hid (s4.below hb6 s4.lt)
        have HB5 := Lib.hid (hb5.trans (hb6.mono hb5.size))
        obtain ⟨g, hg⟩ : ∃ g, g = W4.heap.size := ⟨_, rfl⟩
        rw [← hg] at hcv hrd
        have hgt := HG.out _ _ _ w5 hrd (by have := HL.out; omega)
        have HGT := Lib.hid hgt
        clear hb hb4 x4 t4 s4 hb5 hp9 hW4 hb6 hg hrd hgt HB3 HX3 HS3 G2 HCV HG
        go_wp2_with fail
        refine HGT.out.mono ?_
        rintro r w6 ⟨rfl, rfl⟩
        clear hcv HGT
        have x3 := HX5.out
        have r0 := x3.c0
        have r1 := x3.c1
        have r2 := x3.c2
        have r3 := x3.c3
        have r4 := x3.c4
        have f0 := x3.fr 0
        have f1 := x3.fr 1
        have f2 := x3.fr 2
        have f3 := x3.fr 3
        have f4 := x3.fr 4
        have k0 := HT5.out.c0
        have k1 := HT5.out.c1
        have k2 := HS5.out.c0
        have k3 := HS5.out.c1
        have H6 := Lib.hid (x3.set (.int .u64 (a : Int)) (.int .u64 (b : Int)) (.int .u64 (c : Int)) (.int .u64 (d : Int)) (.int .u64 (e : Int)))
        have HF := Lib.hid (below5 (p := w.heap.size) (a := .int .u64 (a : Int)) (b := .int .u64 (b : Int)) (c := .int .u64 (c : Int)) (d := .int .u64 (d : Int)) (e := .int .u64 (e : Int)) HB5.out (Nat.le_refl _))
        clear x3 HX5 HT5 HS5 HB5
        go_wp2
        have b6 := H6.out
        refine bodyPost_ret (by simp [results, Tryz.f12, go_sem, b6.c0, b6.c1, b6.c2, b6.c3, b6.c4]; try rfl) rfl ?_
        exact ⟨rfl, HF.out⟩
      · rw [if_pos h4]
        unfold dloadV
        rw [zero5]
        have i4 : ((ys.length : Int) == 40) = false := by simp; omega
        have i5 : ((ys.length : Int) != 40) = true := by simp; omega
        clear hyl h4
        generalize ys.length = yl at *
        go_enter Tryz.func12, Tryz.ntmps12
        go_wp2_with fail
        refine HR.out.mono ?_
        rintro r w1 ⟨rfl, hb⟩
        have HB1 := Lib.hid (HB0.out.trans (hb.mono HB0.out.size))
        have HX1 := Lib.hid (HBR.out.below hb HBR.out.lt)
        clear hb HR HB0 HBR
        go_wp2_with fail
        refine (HO.out _).mono ?_
        rintro r w2 ⟨rfl, hb⟩
        have HB2 := Lib.hid (HB1.out.trans (hb.mono HB1.out.size))
        have x3 := HX1.out.below hb HX1.out.lt
        have c0 := x3.c0
        have c1 := x3.c1
        have c2 := x3.c2
        have c3 := x3.c3
        have c4 := x3.c4
        have f0 := x3.fr 0
        have f1 := x3.fr 1
        have f2 := x3.fr 2
        have f3 := x3.fr 3
        have f4 := x3.fr 4
        have H6 := Lib.hid (HZ.out _ x3)
        have HF := Lib.hid (below5 (p := w.heap.size) (a := .int .u64 0) (b := .int .u64 0) (c := .int .u64 0) (d := .int .u64 0) (e := .int .u64 0) HB2.out (Nat.le_refl _))
        clear hb x3 HB1 HX1 HB2 HO
        go_wp2
        have b6 := H6.out
        refine bodyPost_ret (by simp [results, Tryz.f12, go_sem, b6.c0, b6.c1, b6.c2, b6.c3, b6.c4]; try rfl) rfl ?_
        exact ⟨rfl, HF.out⟩
    · rw [if_pos hq]
      unfold dloadV
      rw [zero5]
      dsimp only
      have i4 : ((q : Int) == 0) = false := by simp; omega
      have i5 : ((q : Int) != 0) = true := by simp; omega
      clear hyl hq hlen
      go_enter Tryz.func12, Tryz.ntmps12
      go_wp2_with fail
      refine HR.out.mono ?_
      rintro r w1 ⟨rfl, hb⟩
      have HB1 := Lib.hid (HB0.out.trans (hb.mono HB0.out.size))
      have HX1 := Lib.hid (HBR.out.below hb HBR.out.lt)
      clear hb HR HB0 HBR
      go_wp2_with fail
      refine (HO.out _).mono ?_
      rintro r w2 ⟨rfl, hb⟩
      have HB2 := Lib.hid (HB1.out.trans (hb.mono HB1.out.size))
      have x3 := HX1.out.below hb HX1.out.lt
      have c0 := x3.c0
      have c1 := x3.c1
      have c2 := x3.c2
      have c3 := x3.c3
      have c4 := x3.c4
      have f0 := x3.fr 0
      have f1 := x3.fr 1
      have f2 := x3.fr 2
      have f3 := x3.fr 3
      have f4 := x3.fr 4
      have H6 := Lib.hid (HZ.out _ x3)
      have HF := Lib.hid (below5 (p := w.heap.size) (a := .int .u64 0) (b := .int .u64 0) (c := .int .u64 0) (d := .int .u64 0) (e := .int .u64 0) HB2.out (Nat.le_refl _))
      clear hb x3 HB1 HX1 HB2 HO
      go_wp2
      have b6 := H6.out
      refine bodyPost_ret (by simp [results, Tryz.f12, go_sem, b6.c0, b6.c1, b6.c2, b6.c3, b6.c4]; try rfl) rfl ?_
      exact ⟨rfl, HF.out⟩
  · rw [if_pos hk]
    unfold dloadV
    rw [zero5]
    dsimp only
    have i4 : (k == 0) = false := by simpa using hk
    have i5 : (k != 0) = true := by simp [hk]
    clear hyl hk hlen
    go_enter Tryz.func12, Tryz.ntmps12
    go_wp2_with fail
    refine HR.out.mono ?_
    rintro r w1 ⟨rfl, hb⟩
    have HB1 := Lib.hid (HB0.out.trans (hb.mono HB0.out.size))
    have x3 := HBR.out.below hb HBR.out.lt
    have c0 := x3.c0
    have c1 := x3.c1
    have c2 := x3.c2
    have c3 := x3.c3
    have c4 := x3.c4
    have f0 := x3.fr 0
    have f1 := x3.fr 1
    have f2 := x3.fr 2
    have f3 := x3.fr 3
    have f4 := x3.fr 4
    have H6 := Lib.hid (HZ.out _ x3)
    have HF := Lib.hid (below5 (p := w.heap.size) (a := .int .u64 0) (b := .int .u64 0) (c := .int .u64 0) (d := .int .u64 0) (e := .int .u64 0) HB1.out (Nat.le_refl _))
    clear hb HR HB0 HBR x3
    go_wp2
    have b6 := H6.out
    refine bodyPost_ret (by simp [results, Tryz.f12, go_sem, b6.c0, b6.c1, b6.c2, b6.c3, b6.c4]; try rfl) rfl ?_
    exact ⟨rfl, HF.out⟩
end Go.Proofs.YtodcdefmoliegaaGreatDoor
/-
  What a save of a map leaves on a disk, and what is loaded then.
-/
namespace Go.Proofs.YtodcdefmoliegaaGreatDoor
open Go.RowKit
set_option linter.unusedVariables false
set_option linter.unusedSimpArgs false

theorem numN_enc8 (n : Nat) (h : n < 18446744073709551616) : numN (enc n 8) = n := by rw [enc_num, Nat.mod_eq_of_lt (by omega)]
theorem take_left {xs ys : List UInt8} {n : Nat} (h : xs.length = n) : (xs ++ ys).take n = xs := by
  rw [List.take_append_of_le_length (by omega), List.take_of_length_le (by omega)]
theorem drop_left {xs ys : List UInt8} {n : Nat} (h : xs.length = n) : (xs ++ ys).drop n = ys := by
  rw [List.drop_append_of_le_length (by omega), List.drop_of_length_le (by omega)]; rfl
theorem decP_text {m : MT} (h : m.ok) : decP m.text = m := by
  obtain ⟨a, b, c, d, e⟩ := m
  obtain ⟨ha, hb, hc, hd, he⟩ := h
  dsimp only at ha hb hc hd he
  have t16 : (mapT a b c d e).take 16 = setT a b := by unfold mapT; rw [List.append_assoc]; exact take_left (setT_length a b)
  have t32 : ((mapT a b c d e).take 32).drop 16 = setT c d := by
    unfold mapT
    rw [take_left (by simp [setT_length])]
    exact drop_left (setT_length a b)
  have d32 : (mapT a b c d e).drop 32 = enc e 8 := by unfold mapT; exact drop_left (by simp [setT_length])
  have f : ∀ x y, x < 18446744073709551616 → y < 18446744073709551616 → numN ((setT x y).take 8) = x ∧ numN ((setT x y).drop 8) = y := fun x y hx hy => by
    unfold setT
    rw [take_left (enc_length x 8), drop_left (enc_length x 8), numN_enc8 x hx, numN_enc8 y hy]
    exact ⟨rfl, rfl⟩
  show MT.mk _ _ _ _ _ = _
  unfold dA dB dC dD dE MT.text
  dsimp only
  rw [t16, t32, d32, (f a b ha hb).1, (f a b ha hb).2, (f c d hc hd).1, (f c d hc hd).2, List.take_of_length_le (by rw [enc_length]; omega), numN_enc8 e he]

theorem dopen_map {m : MT} (h : m.ok) : dopenP (mapB m).data.toList = (m, 0) := by
  have ho : openP 5 (mapB m).data.toList = (m.text, 0) := make_open (mapP_make m)
  unfold dopenP
  rw [ho]
  dsimp only
  rw [if_neg (by simp), if_neg (by unfold MT.text; rw [mapT_length]; simp), decP_text h]

theorem has5 (L : List ByteArray) (W left off did) (h : 5 < L.length) : (DS.mk L W left off did).has 5 := ⟨by omega, by dsimp only; omega⟩
theorem dload_flat (L : List ByteArray) (left did) (h : 5 < L.length) : dloadP ⟨L, [], left, false, did⟩ = dopenP (lAt L 5).data.toList := by
  have hr : (DS.mk L [] left false did).read 5 = (lAt L 5, 0) := by
    unfold DS.read
    rw [if_neg (by simp), if_pos (has5 _ _ _ _ _ h)]
    simp [look]
  unfold dloadP
  rw [hr]
  simp
theorem dload_set {L : List ByteArray} {m : MT} (left did) (h : 5 < L.length) (hm : m.ok) : dloadP ⟨L.set 5 (mapB m), [], left, false, did⟩ = (m, 0) := by
  rw [dload_flat _ _ _ (by rw [List.length_set]; exact h)]
  have e : lAt (L.set 5 (mapB m)) 5 = mapB m := by unfold lAt; rw [List.getElem?_set_self (by omega)]; rfl
  rw [e]
  exact dopen_map hm

theorem dsave_whole (L : List ByteArray) (left : Int) (did : Nat) (m : MT) (hl : left = -1 ∨ left = 2) (hL : 5 < L.length) :
    dsaveP ⟨L, [], left, false, did⟩ m = (0, ⟨L.set 5 (mapB m), [], if left = 2 then 0 else -1, false, did + 2⟩) := by
  unfold dsaveP
  have hw : (DS.mk L [] left false did).write 5 (mapB m) = (0, ⟨L, [(5, mapB m)], if left = 2 then 1 else -1, false, did + 1⟩) := by
    unfold DS.write
    rw [if_neg (by simp), if_pos (has5 _ _ _ _ _ hL), if_pos (mapB_size m)]
    rcases hl with rfl | rfl <;> simp [DS.burnt]
  rw [hw, if_neg (by simp)]
  unfold DS.flush
  rcases hl with rfl | rfl <;> simp [DS.burnt, appW, wAt]
theorem dsave_none (L : List ByteArray) (did : Nat) (m : MT) (hL : 5 < L.length) : dsaveP ⟨L, [], 0, false, did⟩ m = (5, ⟨L, [], -1, true, did⟩) := by
  unfold dsaveP
  have hw : (DS.mk L [] 0 false did).write 5 (mapB m) = (5, ⟨L, [], -1, true, did⟩) := by
    unfold DS.write
    rw [if_neg (by simp), if_pos (has5 _ _ _ _ _ hL), if_pos (mapB_size m)]
    simp [DS.burnt]
  rw [hw, if_pos (by simp)]
theorem dsave_half (L : List ByteArray) (did : Nat) (m : MT) (hL : 5 < L.length) : dsaveP ⟨L, [], 1, false, did⟩ m = (5, ⟨L, [(5, mapB m)], -1, true, did + 1⟩) := by
  unfold dsaveP
  have hw : (DS.mk L [] 1 false did).write 5 (mapB m) = (0, ⟨L, [(5, mapB m)], 0, false, did + 1⟩) := by
    unfold DS.write
    rw [if_neg (by simp), if_pos (has5 _ _ _ _ _ hL), if_pos (mapB_size m)]
    simp [DS.burnt]
  rw [hw, if_neg (by simp)]
  unfold DS.flush
  simp [DS.burnt]

def z6 : List ByteArray := List.replicate 6 (secOf 0)
theorem ds0_six : ds0 6 = ⟨z6, [], -1, false, 0⟩ := rfl

/-- What there is behind a save that may go down. -/
theorem dkeeps_math (m1 m2 : MT) (f : Int) (K : List Bool) (hm1 : m1.ok) (hm2 : m2.ok) (h0 : 0 ≤ f) (h2 : f ≤ 2) :
    ∃ D1 r D3 D5 c, dsaveP ⟨z6, [], -1, false, 0⟩ m1 = (0, D1) ∧ (D1.fuse f).ok 1000 ∧ dsaveP (D1.fuse f) m2 = (r, D3) ∧ D3.ok 1000 ∧ (D3.crash K).up = (0, D5) ∧ D5.ok 1000 ∧ dloadP D5 = (c, 0) ∧
      ((r == 0) = (f == 2)) ∧ (c = m2 ∨ ((r == 0) = false ∧ c = m1)) := by
  have e1 := dsave_whole z6 (-1) 0 m1 (.inl rfl) (by decide)
  have l1 := fun left did => dload_set (L := z6) (m := m1) left did (by decide) hm1
  obtain ⟨L1, hL1⟩ : ∃ L, z6.set 5 (mapB m1) = L := ⟨_, rfl⟩
  have hl : L1.length = 6 := by rw [← hL1]; simp [z6]
  rw [hL1] at e1
  simp only [hL1] at l1
  change dsaveP ⟨z6, [], -1, false, 0⟩ m1 = (0, ⟨L1, [], -1, false, 2⟩) at e1
  have l2 := fun left did => dload_set (L := L1) (m := m2) left did (by omega) hm2
  have hf : (DS.mk L1 [] (-1) false 2).fuse f = ⟨L1, [], f, false, 2⟩ := by unfold DS.fuse; rw [if_pos h0]
  have hok : (DS.mk L1 [] f false 2).ok 1000 := flat_ok L1 f false 2 (by omega) (by omega) (by omega) (by omega)
  have hc : f = 0 ∨ f = 1 ∨ f = 2 := by omega
  rcases hc with rfl | rfl | rfl
  · have e2 := dsave_none L1 2 m2 (by omega)
    refine ⟨_, 5, ⟨L1, [], -1, true, 2⟩, ⟨L1, [], -1, false, 2⟩, m1, e1, ?_, ?_, flat_ok L1 (-1) true 2 (by omega) (by omega) (by omega) (by omega), ?_, flat_ok L1 (-1) false 2 (by omega) (by omega) (by omega) (by omega), l1 _ _, rfl, .inr ⟨rfl, rfl⟩⟩
    · rw [hf]; exact hok
    · rw [hf]; exact e2
    · simp [DS.crash, DS.up, appK]
  · have e2 := dsave_half L1 2 m2 (by omega)
    have hokh : (DS.mk L1 [(5, mapB m2)] (-1) true 3).ok 1000 := by
      refine ⟨fun i hi => ?_, by dsimp only; omega, by dsimp only; omega, by simp, by dsimp only; omega, by dsimp only; omega⟩
      obtain rfl : i = 0 := by simpa using hi
      exact has5 _ _ _ _ _ (by omega)
    by_cases hk : K[0]?.getD false = true
    · refine ⟨_, 5, _, ⟨L1.set 5 (mapB m2), [], -1, false, 3⟩, m2, e1, ?_, ?_, hokh, ?_, flat_ok _ (-1) false 3 (by omega) (by omega) (by omega) (by rw [List.length_set]; omega), l2 _ _, rfl, .inl rfl⟩
      · rw [hf]; exact hok
      · rw [hf]; exact e2
      · have e : (DS.mk L1 [(5, mapB m2)] (-1) true 3).crash K = ⟨L1.set 5 (mapB m2), [], -1, true, 3⟩ := by
          have e3 : appK L1 [(5, mapB m2)] K 1 = L1.set 5 (mapB m2) := by
            show (if K[0]?.getD false = true then L1.set _ _ else L1) = _
            rw [if_pos hk]
            rfl
          unfold DS.crash
          exact congrArg (fun l => DS.mk l [] (-1) true 3) e3
        rw [e]
        rfl
    · refine ⟨_, 5, _, ⟨L1, [], -1, false, 3⟩, m1, e1, ?_, ?_, hokh, ?_, flat_ok _ (-1) false 3 (by omega) (by omega) (by omega) (by omega), l1 _ _, rfl, .inr ⟨rfl, rfl⟩⟩
      · rw [hf]; exact hok
      · rw [hf]; exact e2
      · have e : (DS.mk L1 [(5, mapB m2)] (-1) true 3).crash K = ⟨L1, [], -1, true, 3⟩ := by
          have e3 : appK L1 [(5, mapB m2)] K 1 = L1 := by
            show (if K[0]?.getD false = true then L1.set _ _ else L1) = _
            rw [if_neg hk]
          unfold DS.crash
          exact congrArg (fun l => DS.mk l [] (-1) true 3) e3
        rw [e]
        rfl
  · have e2 := dsave_whole L1 2 2 m2 (.inr rfl) (by omega)
    rw [if_pos rfl] at e2
    refine ⟨_, 0, ⟨L1.set 5 (mapB m2), [], 0, false, 4⟩, ⟨L1.set 5 (mapB m2), [], -1, false, 4⟩, m2, e1, ?_, ?_, flat_ok _ 0 false 4 (by omega) (by omega) (by omega) (by rw [List.length_set]; omega), ?_, flat_ok _ (-1) false 4 (by omega) (by omega) (by omega) (by rw [List.length_set]; omega), l2 _ _, rfl, .inl rfl⟩
    · rw [hf]; exact hok
    · rw [hf]; exact e2
    · simp [DS.crash, DS.up, appK]

theorem st_dload {w0 w : World} {p : Nat} {S : DS} (h : St w0 w p S) (hok : S.ok 1000) :
    Calls Tryz.prog 11 #[.pointer (some ⟨p, 0, none⟩)] w fun e w' => e = .returned (dloadV (dloadP S)) ∧ St w0 w' p S := by
  have h' := h
  obtain ⟨v1, v2, hp, hb⟩ := h
  refine (dload_any _ p v1 v2 S w hp (by have := hok.few; have := hok.did; omega) (by have := hok.len; omega)).mono ?_
  rintro e w' ⟨rfl, hb'⟩
  exact ⟨rfl, h'.below hb'⟩
theorem st_dsave {w0 w : World} {p : Nat} {S : DS} (m : MT) (h : St w0 w p S) (hok : S.ok 1000) (hm : m.ok) :
    Calls Tryz.prog 13 #[.pointer (some ⟨p, 0, none⟩), m.val] w fun e w' => e = .returned (.int .i64 (dsaveP S m).1) ∧ St w0 w' p (dsaveP S m).2 := by
  obtain ⟨v1, v2, hp, hb⟩ := h
  refine (dsave_any _ p v1 v2 S m w hp hb.size 1000 hok (by omega) hm).mono ?_
  rintro e w' ⟨rfl, hpp⟩
  exact ⟨rfl, St.pp hp hb hpp⟩
end Go.Proofs.YtodcdefmoliegaaGreatDoor
/-
  The walk of DirtyTurns; its fixed calls.
-/
namespace Go.Proofs.YtodcdefmoliegaaGreatDoor
open Go.RowKit
set_option linter.unusedVariables false
set_option linter.unusedSimpArgs false

theorem of_fix34 : ofV [3, 4] = .tuple #[setV 24 0, .int .i64 0] := by
  have h : ofP [3, 4] = ((24, 0), 0) := by decide +kernel
  unfold ofV; rw [h]; rfl
theorem mark_fix3 : markV 0 0 0 0 0 3 = .tuple #[mapV 8 0 0 0 0, .int .i64 0] := by
  unfold markV markP
  rw [if_pos (by decide)]
  rw [show 0 ||| oneA 3 = 8 from by decide +kernel, show 0 ||| oneB 3 = 0 from by decide +kernel]
  rfl
theorem mark_fix4 : markV 0 0 8 0 1 4 = .tuple #[mapV 16 0 8 0 1, .int .i64 0] := by
  unfold markV markP
  rw [if_pos (by decide)]
  rw [show 0 ||| oneA 4 = 16 from by decide +kernel, show 0 ||| oneB 4 = 0 from by decide +kernel]
  rfl
theorem build_zero (w : World) : (Instr.build 41 #[]).run Tryz.prog w = .ok (mapV 0 0 0 0 0) w := run_build w 41 _ _ (by kernel_rfl)
theorem build_now (a b : Int) (w : World) : (Instr.build 41 #[(0, .agg #[.int .u64 a, .int .u64 b])]).run Tryz.prog w = .ok (.agg #[.int .u64 a, .int .u64 b, .int .u64 0, .int .u64 0, .int .u64 0]) w := run_build w 41 _ _ (by kernel_rfl)

theorem field_frozen (a b c d e : Int) (w : World) : (Instr.field 41 (.agg #[.int .u64 a, .int .u64 b, .int .u64 c, .int .u64 d, .int .u64 e]) 1).run Tryz.prog w = .ok (.agg #[.int .u64 c, .int .u64 d]) w := by
  have a4 := Tryz.isAgg39
  have z4 := Tryz.sizeOf39
  unfold Instr.field
  go_simp
  rfl

set_option maxRecDepth 20000 in
set_option maxHeartbeats 4000000 in
theorem dknown_any (w : World) :
    Calls Tryz.prog 4 #[] w fun e w' => e = .returned (.bool true) ∧ Below w.heap.size w w' := by
  have h1 := fun w => mark_any 0 0 0 0 0 3 w (by omega) (by omega)
  rw [mark_fix3] at h1
  have h2 := fun w => freeze_any 8 0 0 0 0 1 w
  have h3 := fun w => mark_any 0 0 8 0 1 4 w (by omega) (by omega)
  rw [mark_fix4] at h3
  have h4 := fun (w : World) => of_any (.slice (some ⟨w.heap.size, 0, none⟩) 2 2) [3, 4] (w.alloc (.cells #[.int .i64 3, .int .i64 4] 3)) (li_new w [3, 4] (by simp))
  rw [of_fix34] at h4
  have h5 := fun w => merge_any 16 0 8 0 1 w (by omega) (by omega) (by omega) (by omega)
  have h6 := fun w => close_any 16 0 8 0 1 w
  simp only [show (16 : Nat) ||| 8 = 24 from by decide, show (0 : Nat) ||| 0 = 0 from by decide] at h5
  have q1 := fun w => eql_map 24 0 0 0 0 24 0 0 0 0 w
  have q2 := fun op x y w => guard_map op x y 24 0 0 0 0 24 0 0 0 0 w
  have qf := fun w => field_frozen 16 0 0 0 0 w
  have q3 := fun w => eql_set 0 0 0 0 w
  have q4 := fun op x y w => guard_set op x y 0 0 0 0 w
  rw [show decide (((24 : Nat) = 24 ∧ (0 : Nat) = 0) ∧ ((0 : Nat) = 0 ∧ (0 : Nat) = 0) ∧ (0 : Nat) = 0) = true from by decide] at q1
  rw [show decide ((0 : Nat) = 0 ∧ (0 : Nat) = 0) = true from by decide] at q3
  unfold mapV setV at *
  simp only [Int.natCast_zero, Int.cast_ofNat_Int, Int.natCast_one] at *
  have H1 := Lib.hid h1
  have H2 := Lib.hid h2
  have H3 := Lib.hid h3
  have H4 := Lib.hid h4
  have H5 := Lib.hid h5
  have H6 := Lib.hid h6
  clear h1 h2 h3 h4 h5 h6
  go_enter Tryz.func4, Tryz.ntmps4
  go_wp2_with fail
  refine (H1.out _).mono ?_
  rintro r w1 ⟨rfl, hb1⟩
  have b1 := Box5.new w1 41 (.int .u64 8) (.int .u64 0) (.int .u64 0) (.int .u64 0) (.int .u64 0)
  have hB1 : Below w.heap.size w (w1.alloc (.cells #[.int .u64 8, .int .u64 0, .int .u64 0, .int .u64 0, .int .u64 0] 41)) := hb1.alloc hb1.size _
  have z1 : w.heap.size ≤ w1.heap.size := hb1.size
  obtain ⟨p1, hp1⟩ : ∃ p, p = w1.heap.size := ⟨_, rfl⟩
  rw [← hp1] at b1 z1
  obtain ⟨W1, hW1⟩ : ∃ W, W = w1.alloc (.cells #[.int .u64 8, .int .u64 0, .int .u64 0, .int .u64 0, .int .u64 0] 41) := ⟨_, rfl⟩
  rw [← hW1] at b1 hB1
  have k0 := b1.c0
  have k1 := b1.c1
  have k2 := b1.c2
  have k3 := b1.c3
  have k4 := b1.c4
  have HB1 := Lib.hid hB1
  have HX1 := Lib.hid b1
  clear hb1 hB1 b1
  go_wp2_with fail
  rw [← hp1, ← hW1]
  clear hW1 hp1
  go_wp2_with fail
  refine (H2.out _).mono ?_
  rintro r w2 ⟨rfl, hb2⟩
  have hB2 := HB1.out.trans (hb2.mono HB1.out.size)
  have HB2 := Lib.hid hB2
  clear hb2 hB2 k0 k1 k2 k3 k4
  go_wp2_with fail
  refine (H3.out _).mono ?_
  rintro r w3 ⟨rfl, hb3⟩
  have hB3 := HB2.out.trans (hb3.mono HB2.out.size)
  have b3 := Box5.new w3 41 (.int .u64 16) (.int .u64 0) (.int .u64 8) (.int .u64 0) (.int .u64 1)
  have hB4 : Below w.heap.size w (w3.alloc (.cells #[.int .u64 16, .int .u64 0, .int .u64 8, .int .u64 0, .int .u64 1] 41)) := hB3.alloc hB3.size _
  have z3 : w.heap.size ≤ w3.heap.size := hB3.size
  obtain ⟨p3, hp3⟩ : ∃ p, p = w3.heap.size := ⟨_, rfl⟩
  have hz3 : (w3.alloc (.cells #[.int .u64 16, .int .u64 0, .int .u64 8, .int .u64 0, .int .u64 1] 41)).heap.size = w3.heap.size + 1 := World.size_alloc _ _
  rw [← hp3] at b3 z3 hz3
  obtain ⟨W3, hW3⟩ : ∃ W, W = w3.alloc (.cells #[.int .u64 16, .int .u64 0, .int .u64 8, .int .u64 0, .int .u64 1] 41) := ⟨_, rfl⟩
  rw [← hW3] at b3 hB4 hz3
  have h4' := H4.out W3
  rw [hz3] at h4'
  have H4' := Lib.hid h4'
  clear h4'
  have HB4 := Lib.hid hB4
  have HX3 := Lib.hid b3
  clear hb3 hB3 hB4 b3 HB2 HB1 HX1
  go_wp2_with fail
  rw [← hp3, ← hW3]
  clear hW3 hp3
  have HZ3 := Lib.hid hz3
  go_wp2_with fail
  refine H4'.out.mono ?_
  rintro r w5 ⟨rfl, hb5⟩
  have hb50 := (HB4.out.alloc HB4.out.size (.cells #[.int .i64 3, .int .i64 4] 3))
  have hB5 := hb50.trans (hb5.mono hb50.size)
  have b5 := (HX3.out.alloc (.cells #[.int .i64 3, .int .i64 4] 3)).below hb5 (HX3.out.alloc _).lt
  have b6 := b5.alloc (.cells #[.int .u64 24, .int .u64 0] 39)
  have s6 := Box2.new w5 39 (.int .u64 24) (.int .u64 0)
  have hB6 : Below w.heap.size w (w5.alloc (.cells #[.int .u64 24, .int .u64 0] 39)) := hB5.alloc hB5.size _
  obtain ⟨p6, hp6⟩ : ∃ p, p = w5.heap.size := ⟨_, rfl⟩
  rw [← hp6] at s6
  obtain ⟨W6, hW6⟩ : ∃ W, W = w5.alloc (.cells #[.int .u64 24, .int .u64 0] 39) := ⟨_, rfl⟩
  rw [← hW6] at s6 hB6 b6
  have HB6 := Lib.hid hB6
  have HX6 := Lib.hid b6
  have HS6 := Lib.hid s6
  clear hb50 hb5 hB5 b5 b6 s6 hB6 HB4 HX3
  go_wp2_with fail
  rw [← hp6, ← hW6]
  clear hW6 hp6
  have bd := HX6.out
  have sd := HS6.out
  have hkp : ∀ w', Below W6.drew.heap.size W6.drew w' → (w'.cell? ⟨p3, 0, none⟩ = some (.int .u64 16) ∧ w'.cell? ⟨p3, 1, none⟩ = some (.int .u64 0) ∧ w'.cell? ⟨p3, 2, none⟩ = some (.int .u64 8) ∧ w'.cell? ⟨p3, 3, none⟩ = some (.int .u64 0) ∧ w'.cell? ⟨p3, 4, none⟩ = some (.int .u64 1) ∧ w'.cell? ⟨p6, 0, none⟩ = some (.int .u64 24) ∧ w'.cell? ⟨p6, 1, none⟩ = some (.int .u64 0)) := fun w' h =>
    have b := (show Box5 W6.drew _ _ _ _ _ _ _ from bd).below h bd.lt
    have s := (show Box2 W6.drew _ _ _ _ from sd).below h sd.lt
    ⟨b.c0, b.c1, b.c2, b.c3, b.c4, s.c0, s.c1⟩
  have hG : Below W6.drew.heap.size W6.drew W6.drew := Below.refl _ _
  have HKP := Lib.hid hkp
  clear hkp bd sd
  go_wp2_with fail
  go_region_held3 (fun w' => (w'.cell? ⟨p3, 0, none⟩ = some (.int .u64 16) ∧ w'.cell? ⟨p3, 1, none⟩ = some (.int .u64 0) ∧ w'.cell? ⟨p3, 2, none⟩ = some (.int .u64 8) ∧ w'.cell? ⟨p3, 3, none⟩ = some (.int .u64 0) ∧ w'.cell? ⟨p3, 4, none⟩ = some (.int .u64 1) ∧ w'.cell? ⟨p6, 0, none⟩ = some (.int .u64 24) ∧ w'.cell? ⟨p6, 1, none⟩ = some (.int .u64 0)))
    (exact HKP.out _ hG)
    (first
    | (go_at_call 20; with_reducible refine (H5.out _).mono ?_; rintro r w' ⟨rfl, hb⟩; replace hG := hG.trans (hb.mono hG.size); clear hb)
    | (go_at_call 21; with_reducible refine (H6.out _).mono ?_; rintro r w' ⟨rfl, hb⟩; replace hG := hG.trans (hb.mono hG.size); clear hb))
  rename_i hHeld
  clear hHeld
  have hF := HB6.out.trans (Below.mono ⟨hG.os, hG.tape, hG.output, hG.size, hG.block⟩ HB6.out.size)
  have HF := Lib.hid hF
  clear hF hG
  go_wp2
  go_ret
  exact ⟨rfl, HF.out⟩
end Go.Proofs.YtodcdefmoliegaaGreatDoor
/-
  The walk of DirtyKeeps, as far as its last statement.
-/
namespace Go.Proofs.YtodcdefmoliegaaGreatDoor
open Go.RowKit
set_option linter.unusedVariables false
set_option linter.unusedSimpArgs false

theorem known_one (w : World) : Calls Tryz.prog 4 #[] w fun e w' => e = .returned (.bool true) ∧ Below w.heap.size w w' := dknown_any w
theorem given_val (m : MT) (w : World) : Calls Tryz.prog 14 #[m.val] w fun e w' => e = .returned m.val ∧ Below w.heap.size w w' := given_any m.a m.b m.c m.d m.e w
theorem taken_val (m : MT) (w : World) : Calls Tryz.prog 16 #[m.val] w fun e w' => e = .returned m.val ∧ Below w.heap.size w w' := taken_any m.a m.b m.c m.d m.e w
theorem MT.val_cells (m : MT) : m.val = .agg #[.int .u64 (m.a : Int), .int .u64 (m.b : Int), .int .u64 (m.c : Int), .int .u64 (m.d : Int), .int .u64 (m.e : Int)] := rfl
theorem MT.ext (m n : MT) (h : (m.a = n.a ∧ m.b = n.b) ∧ (m.c = n.c ∧ m.d = n.d) ∧ m.e = n.e) : m = n := by
  obtain ⟨⟨h1, h2⟩, ⟨h3, h4⟩, h5⟩ := h
  cases m; cases n; simp_all
instance : DecidableEq MT := fun m n => decidable_of_iff ((m.a = n.a ∧ m.b = n.b) ∧ (m.c = n.c ∧ m.d = n.d) ∧ m.e = n.e) ⟨MT.ext m n, fun h => by subst h; exact ⟨⟨rfl, rfl⟩, ⟨rfl, rfl⟩, rfl⟩⟩
theorem eql_mt (m n : MT) (w : World) : (binOp .eql 26 m.val n.val).run Tryz.prog w = .ok (.bool (decide (m = n))) w := by
  have h := eql_rmap m.a m.b m.c m.d m.e n.a n.b n.c n.d n.e w
  rw [show decide (m = n) = decide ((m.a = n.a ∧ m.b = n.b) ∧ (m.c = n.c ∧ m.d = n.d) ∧ m.e = n.e) from decide_eq_decide.2 ⟨fun h => by subst h; exact ⟨⟨rfl, rfl⟩, ⟨rfl, rfl⟩, rfl⟩, MT.ext m n⟩]
  exact h
theorem guard_mt (op : BinOp) (x y : Operand) (m n : MT) (w : World) : Sem.run Tryz.prog (eqGuard op 26 x y m.val n.val) w = .ok () w := guard_rmap op x y m.a m.b m.c m.d m.e n.a n.b n.c n.d n.e w
end Go.Proofs.YtodcdefmoliegaaGreatDoor
/-
  Two disks, the program's and the document's, that a call made, act by act.
-/
namespace Go.Proofs.YtodcdefmoliegaaGreatDoor
open Go.RowKit
set_option linter.unusedVariables false
set_option linter.unusedSimpArgs false

/-- A list of boxes of maps: block, type, map. -/
def Bx (W : World) (l : List (Nat × TypeId × MT)) : Prop := ∀ e ∈ l, Box5 W e.1 e.2.1 (.int .u64 (e.2.2.a : Int)) (.int .u64 (e.2.2.b : Int)) (.int .u64 (e.2.2.c : Int)) (.int .u64 (e.2.2.d : Int)) (.int .u64 (e.2.2.e : Int))
theorem Bx.below {W W' : World} {l} (h : Bx W l) (hb : Below W.heap.size W W') : Bx W' l := fun e he => (h e he).below hb (h e he).lt
theorem Bx.new {W : World} {l} (h : Bx W l) (m : MT) (t : TypeId) : Bx (W.alloc (.cells #[.int .u64 (m.a : Int), .int .u64 (m.b : Int), .int .u64 (m.c : Int), .int .u64 (m.d : Int), .int .u64 (m.e : Int)] t)) ((W.heap.size, t, m) :: l) := fun e he => by
  rcases List.mem_cons.1 he with rfl | he
  · exact Box5.new W t _ _ _ _ _
  · exact (h e he).alloc _
theorem Bx.get {W : World} {l} (h : Bx W l) {p : Nat} {t : TypeId} {m : MT} (hm : (p, t, m) ∈ l) : Box5 W p t (.int .u64 (m.a : Int)) (.int .u64 (m.b : Int)) (.int .u64 (m.c : Int)) (.int .u64 (m.d : Int)) (.int .u64 (m.e : Int)) := h _ hm

/-- The program's disk at p in the state S, the document's at q in T, both made since w0, no block in both; the boxes l. -/
def St2 (w0 w : World) (p q : Nat) (S T : DS) (l : List (Nat × TypeId × MT)) : Prop :=
  ∃ v1 v2 u1 u2, PD w w0.heap.size p v1 v2 S ∧ RD w w0.heap.size q u1 u2 T ∧ (∀ k, foot p v1 v2 k → ¬ foot q u1 u2 k) ∧ Below w0.heap.size w0 w ∧ Bx w l ∧ ∀ e ∈ l, ¬ foot p v1 v2 e.1 ∧ ¬ foot q u1 u2 e.1

theorem St2.fin {w0 w : World} {p q : Nat} {S T : DS} {l} (h : St2 w0 w p q S T l) : Below w0.heap.size w0 w := by obtain ⟨_, _, _, _, _, _, _, hb, _⟩ := h; exact hb
theorem St2.bx {w0 w : World} {p q : Nat} {S T : DS} {l} (h : St2 w0 w p q S T l) : Bx w l := by obtain ⟨_, _, _, _, _, _, _, _, hb, _⟩ := h; exact hb
theorem St2.below {w0 w w' : World} {p q : Nat} {S T : DS} {l} (h : St2 w0 w p q S T l) (hb : Below w.heap.size w w') : St2 w0 w' p q S T l := by
  obtain ⟨v1, v2, u1, u2, hp, hq, hd, h0, hx, hn⟩ := h
  exact ⟨v1, v2, u1, u2, hp.below hb, hq.below hb, hd, h0.trans (hb.mono h0.size), hx.below hb, hn⟩
theorem St2.box {w0 w : World} {p q : Nat} {S T : DS} {l} (h : St2 w0 w p q S T l) (m : MT) (t : TypeId) : St2 w0 (w.alloc (.cells #[.int .u64 (m.a : Int), .int .u64 (m.b : Int), .int .u64 (m.c : Int), .int .u64 (m.d : Int), .int .u64 (m.e : Int)] t)) p q S T ((w.heap.size, t, m) :: l) := by
  obtain ⟨v1, v2, u1, u2, hp, hq, hd, h0, hx, hn⟩ := h
  have hb : Below w.heap.size w (w.alloc (.cells #[.int .u64 (m.a : Int), .int .u64 (m.b : Int), .int .u64 (m.c : Int), .int .u64 (m.d : Int), .int .u64 (m.e : Int)] t)) := (Below.refl _ _).alloc (Nat.le_refl _) _
  refine ⟨v1, v2, u1, u2, hp.below hb, hq.below hb, hd, h0.trans (hb.mono h0.size), hx.new m t, fun e he => ?_⟩
  rcases List.mem_cons.1 he with rfl | he
  · exact ⟨fun hf => by have := (hp.foot_low _ hf).2; dsimp only at this; omega, fun hf => by have := (hq.foot_low _ hf).2; dsimp only at this; omega⟩
  · exact hn e he
theorem bx_fr {A : Nat → Prop} {w w' : World} {l : List (Nat × TypeId × MT)} (h : Bx w l) (hf : Fr A w w') (hn : ∀ e ∈ l, ¬ A e.1) : Bx w' l := fun e he => (hf.block e.1 (h e he).lt (hn e he)).trans (h e he)
theorem st2_pp {w0 w w' : World} {p q : Nat} {v1 v2 u1 u2 : Value} {S S' T : DS} {l} (hp : PD w w0.heap.size p v1 v2 S) (hq : RD w w0.heap.size q u1 u2 T) (hd : ∀ k, foot p v1 v2 k → ¬ foot q u1 u2 k) (h0 : Below w0.heap.size w0 w)
    (hx : Bx w l) (hn : ∀ e ∈ l, ¬ foot p v1 v2 e.1 ∧ ¬ foot q u1 u2 e.1) (h : PP w w0.heap.size p v1 v2 S' w') : St2 w0 w' p q S' T l := by
  have hq' := rd_after hq hd h
  obtain ⟨a, b, hp', hf, ht⟩ := h
  refine ⟨a, b, u1, u2, hp', hq', fun k hk hk2 => ?_, h0.trans (hf.below (fun k hk => (hp.foot_low k hk).1) h0.size), bx_fr hx hf fun e he => (hn e he).1, fun e he => ⟨fun hk => ?_, (hn e he).2⟩⟩
  · rcases ht k hk with h | h
    · exact hd k h hk2
    · have := (hq.foot_low k hk2).2; omega
  · rcases ht e.1 hk with h | h
    · exact (hn e he).1 h
    · have := (hx e he).lt; omega
theorem st2_rp {w0 w w' : World} {p q : Nat} {v1 v2 u1 u2 : Value} {S T T' : DS} {l} (hp : PD w w0.heap.size p v1 v2 S) (hq : RD w w0.heap.size q u1 u2 T) (hd : ∀ k, foot p v1 v2 k → ¬ foot q u1 u2 k) (h0 : Below w0.heap.size w0 w)
    (hx : Bx w l) (hn : ∀ e ∈ l, ¬ foot p v1 v2 e.1 ∧ ¬ foot q u1 u2 e.1) (h : RP w w0.heap.size q u1 u2 T' w') : St2 w0 w' p q S T' l := by
  obtain ⟨a, b, hq', hf, ht⟩ := h
  refine ⟨v1, v2, a, b, hp.fr hf fun k hk hk2 => hd k hk hk2, hq', fun k hk hk2 => ?_, h0.trans (hf.below (fun k hk => (hq.foot_low k hk).1) h0.size), bx_fr hx hf fun e he => (hn e he).2, fun e he => ⟨(hn e he).1, fun hk => ?_⟩⟩
  · rcases ht k hk2 with h | h
    · exact hd k hk h
    · have := (hp.foot_low k hk).2; omega
  · rcases ht e.1 hk with h | h
    · exact (hn e he).2 h
    · have := (hx e he).lt; omega

theorem jowns_low {w : World} {B B' e size n : Nat} {v : Value} {xs : List Value} (h : w.ownsRow B e size v n xs) (hl : B' ≤ B) : w.ownsRow B' e size v n xs := by
  refine ⟨h.1, ?_⟩
  rcases h.2 with hn | ⟨g, cap, cur, rfl, hb, rest⟩
  · exact .inl hn
  · exact .inr ⟨g, cap, cur, rfl, by omega, rest⟩
theorem RD.lower {w : World} {B B' p : Nat} {v1 v2 : Value} {S : DS} (h : RD w B p v1 v2 S) (hl : B' ≤ B) : RD w B' p v1 v2 S :=
  ⟨h.blk, Nat.le_trans hl h.low, jowns_low h.own1 hl, jowns_low h.own2 hl⟩
theorem s2_new {w0 w : World} {p : Nat} {S : DS} {l} (n : Nat) (h : St w0 w p S) (hx : Bx w0 l) (h0 : 1 ≤ n) (h1 : n ≤ 1200) :
    Calls Tryz.prog 6 #[.int .i64 n] w fun e w' => ∃ q, e = .returned (.tuple #[.pointer (some ⟨q, 0, none⟩), .int .i64 0]) ∧ St2 w0 w' p q S (ds0 n) l := by
  obtain ⟨v1, v2, hp, hb⟩ := h
  refine (rnew_any n w h0 h1).mono ?_
  rintro e w' ⟨q, u1, rfl, hq, hb'⟩
  have hb2 := hb.trans (hb'.mono hb.size)
  refine ⟨q, rfl, v1, v2, u1, .slice none 0 0, hp.below hb', RD.lower hq hb.size, fun k hk hk2 => ?_, hb2, hx.below hb2, fun e he => ⟨fun hk => ?_, fun hk => ?_⟩⟩
  · have h1 := (hp.foot_low k hk).2
    have h2 := (hq.foot_low k hk2).1
    omega
  · have h1 := (hp.foot_low _ hk).1
    have h2 := (hx e he).lt
    omega
  · have h1 := (hq.foot_low _ hk).1
    have h2 := (hx e he).lt
    have h3 := hb.size
    omega
theorem s2_write {w0 w : World} {p q : Nat} {S T : DS} {l} (at' : Int) (d : ByteArray) (h : St2 w0 w p q S T l) (hok : S.ok 1000) :
    Calls Tryz.prog 7 #[.pointer (some ⟨p, 0, none⟩), .int .i64 at', .string d] w fun e w' => e = .returned (.int .i64 (S.write at' d).1) ∧ St2 w0 w' p q (S.write at' d).2 T l := by
  obtain ⟨v1, v2, u1, u2, hp, hq, hd, hb, hx, hn⟩ := h
  refine (write_any _ p v1 v2 S at' d w hp hb.size 1000 hok (by omega)).mono ?_
  rintro e w' ⟨rfl, hpp⟩
  exact ⟨rfl, st2_pp hp hq hd hb hx hn hpp⟩
theorem s2_rwrite {w0 w : World} {p q : Nat} {S T : DS} {l} (at' : Int) (d : ByteArray) (h : St2 w0 w p q S T l) (hok : T.ok 1000) :
    Calls Tryz.prog 8 #[.pointer (some ⟨q, 0, none⟩), .int .i64 at', .string d] w fun e w' => e = .returned (.int .i64 (T.write at' d).1) ∧ St2 w0 w' p q S (T.write at' d).2 l := by
  obtain ⟨v1, v2, u1, u2, hp, hq, hd, hb, hx, hn⟩ := h
  refine (rwrite_any _ q u1 u2 T at' d w hq hb.size 1000 hok (by omega)).mono ?_
  rintro e w' ⟨rfl, hpp⟩
  exact ⟨rfl, st2_rp hp hq hd hb hx hn hpp⟩
theorem s2_crash {w0 w : World} {p q : Nat} {S T : DS} {l} (h : St2 w0 w p q S T l) (hok : S.ok 1000) :
    Calls Tryz.prog 9 #[.pointer (some ⟨p, 0, none⟩), .slice (some ⟨w.heap.size, 0, none⟩) 1 1] (w.alloc (.cells #[.bool true] 4)) fun e w' => e = .returned (.tuple #[]) ∧ St2 w0 w' p q (S.crash [true]) T l := by
  have hal : Below w.heap.size w (w.alloc (.cells #[.bool true] 4)) := (Below.refl _ _).alloc (Nat.le_refl _) _
  obtain ⟨v1, v2, u1, u2, hp, hq, hd, hb, hx, hn⟩ := h
  have hb' : Below w0.heap.size w0 (w.alloc (.cells #[.bool true] 4)) := hb.trans (hal.mono hb.size)
  refine (crash_any _ p v1 v2 S _ 1 1 [true] _ (hp.below hal) hb'.size 1000 hok (by omega) (Bl.one w true) (fun b off e h0 hf => by cases e; have := (hp.foot_low _ hf).2; omega)).mono ?_
  rintro e w' ⟨rfl, hpp⟩
  exact ⟨rfl, st2_pp (hp.below hal) (hq.below hal) hd hb' (hx.below hal) hn hpp⟩
theorem s2_rcrash {w0 w : World} {p q : Nat} {S T : DS} {l} (h : St2 w0 w p q S T l) (hok : T.ok 1000) :
    Calls Tryz.prog 10 #[.pointer (some ⟨q, 0, none⟩), .slice (some ⟨w.heap.size, 0, none⟩) 1 1] (w.alloc (.cells #[.bool true] 4)) fun e w' => e = .returned (.tuple #[]) ∧ St2 w0 w' p q S (T.crash [true]) l := by
  have hal : Below w.heap.size w (w.alloc (.cells #[.bool true] 4)) := (Below.refl _ _).alloc (Nat.le_refl _) _
  obtain ⟨v1, v2, u1, u2, hp, hq, hd, hb, hx, hn⟩ := h
  have hb' : Below w0.heap.size w0 (w.alloc (.cells #[.bool true] 4)) := hb.trans (hal.mono hb.size)
  refine (rcrash_any _ q u1 u2 T _ 1 1 [true] _ (hq.below hal) hb'.size 1000 hok (by omega) (Bl.one w true) (fun b off e h0 hf => by cases e; have := (hq.foot_low _ hf).2; omega)).mono ?_
  rintro e w' ⟨rfl, hpp⟩
  exact ⟨rfl, st2_rp (hp.below hal) (hq.below hal) hd hb' (hx.below hal) hn hpp⟩
theorem s2_load {w0 w : World} {p q : Nat} {S T : DS} {l} (h : St2 w0 w p q S T l) (hok : S.ok 1000) :
    Calls Tryz.prog 11 #[.pointer (some ⟨p, 0, none⟩)] w fun e w' => e = .returned (dloadV (dloadP S)) ∧ St2 w0 w' p q S T l := by
  have h' := h
  obtain ⟨v1, v2, u1, u2, hp, hq, hd, hb, hx, hn⟩ := h
  refine (dload_any _ p v1 v2 S w hp (by have := hok.few; have := hok.did; omega) (by have := hok.len; omega)).mono ?_
  rintro e w' ⟨rfl, hb'⟩
  exact ⟨rfl, h'.below hb'⟩
theorem s2_rload {w0 w : World} {p q : Nat} {S T : DS} {l} (h : St2 w0 w p q S T l) (hok : T.ok 1000) :
    Calls Tryz.prog 12 #[.pointer (some ⟨q, 0, none⟩)] w fun e w' => e = .returned (dloadV (dloadP T)) ∧ St2 w0 w' p q S T l := by
  have h' := h
  obtain ⟨v1, v2, u1, u2, hp, hq, hd, hb, hx, hn⟩ := h
  refine (rdload_any _ q u1 u2 T w hq (by have := hok.few; have := hok.did; omega) hok.len).mono ?_
  rintro e w' ⟨rfl, hb'⟩
  exact ⟨rfl, h'.below hb'⟩
theorem s2_save {w0 w : World} {p q : Nat} {S T : DS} {l} (m : MT) (h : St2 w0 w p q S T l) (hok : S.ok 1000) (hm : m.ok) :
    Calls Tryz.prog 13 #[.pointer (some ⟨p, 0, none⟩), m.val] w fun e w' => e = .returned (.int .i64 (dsaveP S m).1) ∧ St2 w0 w' p q (dsaveP S m).2 T l := by
  obtain ⟨v1, v2, u1, u2, hp, hq, hd, hb, hx, hn⟩ := h
  refine (dsave_any _ p v1 v2 S m w hp hb.size 1000 hok (by omega) hm).mono ?_
  rintro e w' ⟨rfl, hpp⟩
  exact ⟨rfl, st2_pp hp hq hd hb hx hn hpp⟩
theorem s2_rsave {w0 w : World} {p q : Nat} {S T : DS} {l} (m : MT) (h : St2 w0 w p q S T l) (hok : T.ok 1000) (hm : m.ok) :
    Calls Tryz.prog 15 #[.pointer (some ⟨q, 0, none⟩), m.val] w fun e w' => e = .returned (.int .i64 (dsaveP T m).1) ∧ St2 w0 w' p q S (dsaveP T m).2 l := by
  obtain ⟨v1, v2, u1, u2, hp, hq, hd, hb, hx, hn⟩ := h
  refine (rdsave_any _ q u1 u2 T m w hq hb.size 1000 hok (by omega) hm).mono ?_
  rintro e w' ⟨rfl, hpp⟩
  exact ⟨rfl, st2_rp hp hq hd hb hx hn hpp⟩

/-- What was saved is loaded. -/
theorem dsave_then {S : DS} {m : MT} (hm : m.ok) (h : (dsaveP S m).1 = 0) : dloadP (dsaveP S m).2 = (m, 0) := by
  unfold dsaveP at h ⊢
  by_cases hw : (S.write 5 (mapB m)).1 = 0
  · rw [if_neg (by simp [hw])] at h ⊢
    obtain ⟨hoff, hhas, hl, hS⟩ : S.off = false ∧ S.has 5 ∧ S.left ≠ 0 ∧ (S.write 5 (mapB m)).2 = ⟨S.burnt.L, S.W ++ [(5, mapB m)], S.burnt.left, S.burnt.off, S.burnt.did⟩ := by
      unfold DS.write at hw ⊢
      by_cases h1 : S.off = true
      · rw [if_pos h1] at hw; exact absurd hw (by simp)
      · rw [if_neg h1] at hw ⊢
        by_cases h2 : S.has 5
        · rw [if_pos h2, if_pos (mapB_size m)] at hw ⊢
          by_cases h3 : S.left = 0
          · rw [if_pos h3] at hw; exact absurd hw (by simp)
          · rw [if_neg h3]
            exact ⟨by simpa using h1, h2, h3, rfl⟩
        · rw [if_neg h2] at hw; exact absurd hw (by simp)
    have hbl : S.burnt.L = S.L ∧ S.burnt.off = false := by unfold DS.burnt; rw [if_neg hl]; exact ⟨rfl, hoff⟩
    rw [hS] at h ⊢
    unfold DS.flush at h ⊢
    dsimp only at h ⊢
    rw [hbl.2, if_neg (by simp)] at h ⊢
    by_cases h4 : S.burnt.left = 0
    · rw [if_pos h4] at h; exact absurd h (by simp)
    · rw [if_neg h4] at h ⊢
      dsimp only
      have e : (appW S.burnt.L (S.W ++ [(5, mapB m)]) (S.W ++ [(5, mapB m)]).length) = (appW S.burnt.L (S.W ++ [(5, mapB m)]) S.W.length).set 5 (mapB m) := by
        rw [List.length_append]
        show (appW S.burnt.L (S.W ++ [(5, mapB m)]) S.W.length).set (wAt (S.W ++ [(5, mapB m)]) S.W.length).1.toNat (wAt (S.W ++ [(5, mapB m)]) S.W.length).2 = _
        have e1 : wAt (S.W ++ [(5, mapB m)]) S.W.length = (5, mapB m) := by unfold wAt; simp
        rw [e1]
        rfl
      rw [e]
      have hlen : 5 < (appW S.burnt.L (S.W ++ [(5, mapB m)]) S.W.length).length := by
        rw [appW_length, hbl.1]
        have := hhas.2
        omega
      generalize appW S.burnt.L (S.W ++ [(5, mapB m)]) S.W.length = X at *
      have hb2 : (DS.mk S.burnt.L (S.W ++ [(5, mapB m)]) S.burnt.left false S.burnt.did).burnt.off = false := by
        unfold DS.burnt
        dsimp only
        rw [if_neg (by unfold DS.burnt at h4; exact h4)]
      rw [hb2]
      exact dload_set _ _ hlen hm
  · rw [if_pos hw] at h
    exact absurd h hw
end Go.Proofs.YtodcdefmoliegaaGreatDoor

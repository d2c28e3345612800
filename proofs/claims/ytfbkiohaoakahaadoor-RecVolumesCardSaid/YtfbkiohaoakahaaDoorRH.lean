/-
  The walk of RecVolumes.
-/
import Derived.Test.YtfbkiohaoakahaaDoorRG
namespace Go.Proofs.YtfbkiohaoakahaaDoor
open Go.RowKit
set_option linter.unusedVariables false
set_option linter.unusedSimpArgs false

theorem config_form (xs : List UInt8) : ∃ s V N F C U L e : Int, configV xs = sideV s V N F C U L e := by
  unfold configV
  split
  · exact ⟨_, _, _, _, _, _, _, _, rfl⟩
  · split
    · exact ⟨_, _, _, _, _, _, _, _, rfl⟩
    · exact ⟨_, _, _, _, _, _, _, _, rfl⟩

theorem fld_mid (p m r : List UInt8) (i k : Nat) (hi : p.length = i) (hk : m.length = k) : fld (p ++ (m ++ r)) i k = numN m := by
  subst hi hk
  unfold fld
  rw [List.drop_left, List.take_left]

theorem enc_back (n k : Nat) (h : n < 256 ^ k) : numN (enc n k) = n := by rw [enc_num, Nat.mod_eq_of_lt h]

theorem config_volume {side V N F C U L : Int} (h : faultN side N F C U L = 0) (hV0 : 0 ≤ V) (hV : V < 4294967296) :
    configV (volP side V N F C U L).1 = sideV side V N F C U L 0 := by
  have hp : volP side V N F C U L = makeP 1 (volL side V N F C U L) := if_pos h
  rw [hp]
  obtain ⟨hs, ⟨n1, n2, f1, f2, c1, c2, u1, u2⟩, l1, l2⟩ := fault_0 h
  have hln := volL_length side V N F C U L
  have hm : makeP 1 (volL side V N F C U L) = (recL 1 (volL side V N F C U L), 0) := by
    unfold makeP; rw [if_neg (by omega), if_neg (by omega)]; rfl
  have ho := make_open hm
  rw [hm]
  have e1 : fld (volL side V N F C U L) 0 1 = side.toNat := by
    rw [show volL side V N F C U L = [] ++ (enc side.toNat 1 ++ (enc V.toNat 4 ++ enc N.toNat 2 ++ enc F.toNat 1 ++ enc C.toNat 2 ++ enc U.toNat 2 ++ enc L.toNat 8)) from by simp [volL], fld_mid _ _ _ _ _ (by simp) (enc_length _ _), enc_back _ _ (by omega)]
  have e2 : fld (volL side V N F C U L) 1 4 = V.toNat := by
    rw [show volL side V N F C U L = enc side.toNat 1 ++ (enc V.toNat 4 ++ (enc N.toNat 2 ++ enc F.toNat 1 ++ enc C.toNat 2 ++ enc U.toNat 2 ++ enc L.toNat 8)) from by simp [volL], fld_mid _ _ _ _ _ (by simp [enc_length]) (enc_length _ _), enc_back _ _ (by omega)]
  have e3 : fld (volL side V N F C U L) 5 2 = N.toNat := by
    rw [show volL side V N F C U L = (enc side.toNat 1 ++ enc V.toNat 4) ++ (enc N.toNat 2 ++ (enc F.toNat 1 ++ enc C.toNat 2 ++ enc U.toNat 2 ++ enc L.toNat 8)) from by simp [volL], fld_mid _ _ _ _ _ (by simp [enc_length]) (enc_length _ _), enc_back _ _ (by omega)]
  have e4 : fld (volL side V N F C U L) 7 1 = F.toNat := by
    rw [show volL side V N F C U L = (enc side.toNat 1 ++ enc V.toNat 4 ++ enc N.toNat 2) ++ (enc F.toNat 1 ++ (enc C.toNat 2 ++ enc U.toNat 2 ++ enc L.toNat 8)) from by simp [volL], fld_mid _ _ _ _ _ (by simp [enc_length]) (enc_length _ _), enc_back _ _ (by omega)]
  have e5 : fld (volL side V N F C U L) 8 2 = C.toNat := by
    rw [show volL side V N F C U L = (enc side.toNat 1 ++ enc V.toNat 4 ++ enc N.toNat 2 ++ enc F.toNat 1) ++ (enc C.toNat 2 ++ (enc U.toNat 2 ++ enc L.toNat 8)) from by simp [volL], fld_mid _ _ _ _ _ (by simp [enc_length]) (enc_length _ _), enc_back _ _ (by omega)]
  have e6 : fld (volL side V N F C U L) 10 2 = U.toNat := by
    rw [show volL side V N F C U L = (enc side.toNat 1 ++ enc V.toNat 4 ++ enc N.toNat 2 ++ enc F.toNat 1 ++ enc C.toNat 2) ++ (enc U.toNat 2 ++ enc L.toNat 8) from by simp [volL], fld_mid _ _ _ _ _ (by simp [enc_length]) (enc_length _ _), enc_back _ _ (by omega)]
  have e7 : fld (volL side V N F C U L) 12 8 = L.toNat := by
    rw [show volL side V N F C U L = (enc side.toNat 1 ++ enc V.toNat 4 ++ enc N.toNat 2 ++ enc F.toNat 1 ++ enc C.toNat 2 ++ enc U.toNat 2) ++ (enc L.toNat 8 ++ []) from by simp [volL], fld_mid _ _ _ _ _ (by simp [enc_length]) (enc_length _ _), enc_back _ _ (by omega)]
  have i1 : (side.toNat : Int) = side := by omega
  have i2 : (V.toNat : Int) = V := by omega
  have i3 : (N.toNat : Int) = N := by omega
  have i4 : (F.toNat : Int) = F := by omega
  have i5 : (C.toNat : Int) = C := by omega
  have i6 : (U.toNat : Int) = U := by omega
  have i7 : (L.toNat : Int) = L := by omega
  have hbn : bodyN (volL side V N F C U L) = 0 := by
    unfold bodyN
    rw [e1, e3, e4, e5, e6, e7, i1, i3, i4, i5, i6, i7]; exact h
  unfold configV
  simp only [ho]
  rw [if_neg (by simp), if_neg (by rw [hln, hbn]; simp), e1, e2, e3, e4, e5, e6, e7, i1, i2, i3, i4, i5, i6, i7]

theorem neq_conf (V N F C U L : Int) (w : World) : (binOp .neq 36 (conf V N F C U L) (conf V N F C U L)).run Tryd.prog w = .ok (.bool false) w := by
  unfold conf
  go_simp
theorem eql_conf (V N F C U L : Int) (w : World) : (binOp .eql 36 (conf V N F C U L) (conf V N F C U L)).run Tryd.prog w = .ok (.bool true) w := by
  unfold conf
  go_simp
theorem nguard_conf (V N F C U L V' N' F' C' U' L' : Int) (x y : Operand) (w : World) : (eqGuard .neq 36 x y (conf V N F C U L) (conf V' N' F' C' U' L')).run Tryd.prog w = .ok () w := by
  unfold conf
  go_simp
theorem eguard_conf (V N F C U L V' N' F' C' U' L' : Int) (x y : Operand) (w : World) : (eqGuard .eql 36 x y (conf V N F C U L) (conf V' N' F' C' U' L')).run Tryd.prog w = .ok () w := by
  unfold conf
  go_simp

set_option maxRecDepth 20000 in
set_option maxHeartbeats 8000000 in
theorem volumes_walk (side V N F C U L : Int) (s : ByteArray) (w : World) (hV0 : 0 ≤ V) (hV : V < 4294967296) :
    Calls Tryd.prog 6 #[.int .i64 side, conf V N F C U L, .string s] w fun e w' => e = .returned (.bool true) ∧ Below w.heap.size w w' := by
  have h1 := fun w => volume_any side V N F C U L hV0 hV w
  have h2 := fun w => rvolume_any side V N F C U L hV0 hV w
  have h3 := fun w => config_any s.data.toList w
  have h4 := fun w => rconfig_any s.data.toList w
  have h6 := known_any
  have h5 := fun w => config_any (volP side V N F C U L).1 w
  obtain ⟨ka, kV, kN, kF, kC, kU, kL, ke, hk⟩ := config_form s.data.toList
  have hx : (volP side V N F C U L).2 = 0 → configV (volP side V N F C U L).1 = sideV side V N F C U L 0 := fun h => config_volume (by rw [← volP_2 side V N F C U L]; exact h) hV0 hV
  have hy := config_form (volP side V N F C U L).1
  unfold tupV at h1 h2
  generalize (volP side V N F C U L).2 = e at *
  generalize (volP side V N F C U L).1 = X at *
  rw [hk] at h3 h4
  change ∀ w, Calls Tryd.prog _ #[.string s] w _ at h3
  change ∀ w, Calls Tryd.prog _ #[.string s] w _ at h4
  generalize configV X = CX at *
  have q1 := neq_self X
  have q2 := nguard_str X X
  have q3 := neq_conf kV kN kF kC kU kL
  have q4 := nguard_conf kV kN kF kC kU kL kV kN kF kC kU kL
  have q5 := eql_conf V N F C U L
  have q6 := eguard_conf V N F C U L V N F C U L
  generalize strV X = VX at *
  have hb0 : Below w.heap.size w (w.alloc (cbox V N F C U L)) := (Below.refl _ _).alloc (Nat.le_refl _) _
  have hc0 := Cf.box w V N F C U L
  have hs0 : w.heap.size < (w.alloc (cbox V N F C U L)).heap.size := by simp
  have HB0 := Lib.hid hb0
  have HC0 := Lib.hid hc0
  have HS0 := Lib.hid hs0
  unfold sideV at *
  have HY := Lib.hid hy
  have HX := Lib.hid hx
  have H5 := Lib.hid h5
  clear hk hb0 hc0 hs0 hx hy h5 hV hV0
  unfold conf cbox at *
  have H1 := Lib.hid h1
  have H2 := Lib.hid h2
  have H3 := Lib.hid h3
  have H4 := Lib.hid h4
  have H6 := Lib.hid h6
  clear h1 h2 h3 h4 h6
  go_enter Tryd.func6, Tryd.ntmps6
  go_wp2_with fail
  refine (H1.out _).mono ?_
  rintro r w1 ⟨rfl, hb⟩
  have HB1 := Lib.hid (HB0.out.trans (hb.mono (Nat.le_of_lt HS0.out)))
  have HC1 := Lib.hid (HC0.out.keep hb HS0.out)
  have HS1 := Lib.hid (Nat.lt_of_lt_of_le HS0.out hb.size)
  obtain ⟨c0, c1, c2, c3, c4, c5⟩ := HC1.out
  clear hb HB0 HC0 HS0
  go_wp2_with fail
  refine (H2.out _).mono ?_
  rintro r w2 ⟨rfl, hb⟩
  have HB2 := Lib.hid (HB1.out.trans (hb.mono (Nat.le_of_lt HS1.out)))
  have HC2 := Lib.hid (HC1.out.keep hb HS1.out)
  have HS2 := Lib.hid (Nat.lt_of_lt_of_le HS1.out hb.size)
  clear hb HB1 HC1 HS1 c0 c1 c2 c3 c4 c5
  go_wp2_with fail
  refine (H3.out _).mono ?_
  rintro r w3 ⟨rfl, hb⟩
  have HB3 := Lib.hid (HB2.out.trans (hb.mono (Nat.le_of_lt HS2.out)))
  have HC3 := Lib.hid (HC2.out.keep hb HS2.out)
  have HS3 := Lib.hid (Nat.lt_of_lt_of_le HS2.out hb.size)
  clear hb HB2 HC2 HS2
  go_wp2_with fail
  refine (H4.out _).mono ?_
  rintro r w4 ⟨rfl, hb⟩
  have hal3 := (Below.refl w3.heap.size w3).alloc (Nat.le_refl _) (cbox kV kN kF kC kU kL)
  have hsz3 : w3.heap.size < (w3.alloc (cbox kV kN kF kC kU kL)).heap.size := by simp
  unfold cbox at hal3 hsz3
  have hB4 := HB3.out.trans ((hal3.trans (hb.mono (Nat.le_of_lt hsz3))).mono (Nat.le_of_lt HS3.out))
  have hC4 := (HC3.out.keep hal3 HS3.out).keep hb (Nat.lt_trans HS3.out hsz3)
  have hS4 := Nat.lt_of_lt_of_le HS3.out (Nat.le_trans (Nat.le_of_lt hsz3) hb.size)
  have hD4 := (Cf.box w3 kV kN kF kC kU kL).keep hb hsz3
  have hT4 := Nat.lt_of_lt_of_le hsz3 hb.size
  have hal4 := (Below.refl w4.heap.size w4).alloc (Nat.le_refl _) (cbox kV kN kF kC kU kL)
  have hsz4 : w4.heap.size < (w4.alloc (cbox kV kN kF kC kU kL)).heap.size := by simp
  unfold cbox at hal4 hsz4
  obtain ⟨d0, d1, d2, d3, d4, d5⟩ := hD4.keep hal4 hT4
  have HC5 := Lib.hid (hC4.keep hal4 hS4)
  have HB5 := Lib.hid (hB4.trans (hal4.mono (Nat.le_of_lt hS4)))
  have HS5 := Lib.hid (Nat.lt_trans hS4 hsz4)
  clear hb hal3 hsz3 hB4 hC4 hS4 hD4 hT4 hal4 hsz4 HB3 HC3 HS3
  go_wp2_with fail
  clear d0 d1 d2 d3 d4 d5 q1 q2 q3 q4 H1 H2 H3 H4
  by_cases he : e = 0
  · have hcx := HX.out he
    subst hcx he
    clear HX HY
    refine (H5.out _).mono ?_
    rintro r w6 ⟨rfl, hb⟩
    have hB6 := HB5.out.trans (hb.mono (Nat.le_of_lt HS5.out))
    have hC6 := HC5.out.keep hb HS5.out
    have hS6 := Nat.lt_of_lt_of_le HS5.out hb.size
    have hal6 := (Below.refl w6.heap.size w6).alloc (Nat.le_refl _) (cbox V N F C U L)
    have hsz6 : w6.heap.size < (w6.alloc (cbox V N F C U L)).heap.size := by simp
    unfold cbox at hal6 hsz6
    obtain ⟨d0, d1, d2, d3, d4, d5⟩ := hC6.keep hal6 hS6
    have HB7 := Lib.hid (hB6.trans (hal6.mono (Nat.le_of_lt hS6)))
    have HS7 := Lib.hid (Nat.lt_trans hS6 hsz6)
    clear hb hB6 hC6 hS6 hal6 hsz6 HB5 HC5 HS5
    go_wp2_with fail
    refine (H6.out _).mono ?_
    rintro r w8 ⟨rfl, hb⟩
    have hB8 := HB7.out.trans (hb.mono (Nat.le_of_lt HS7.out))
    clear hb
    go_wp2
    go_ret
    exact ⟨rfl, hB8⟩
  · obtain ⟨ja, jV, jN, jF, jC, jU, jL, je, hcx⟩ := HY.out
    subst hcx
    have he1 : ((e : Int) == 0) = false := by simpa using he
    have he2 : ((e : Int) != 0) = true := by simpa using he
    clear HX HY he q5 q6
    refine (H5.out _).mono ?_
    rintro r w6 ⟨rfl, hb⟩
    have hB6 := HB5.out.trans (hb.mono (Nat.le_of_lt HS5.out))
    have hC6 := HC5.out.keep hb HS5.out
    have hS6 := Nat.lt_of_lt_of_le HS5.out hb.size
    have hal6 := (Below.refl w6.heap.size w6).alloc (Nat.le_refl _) (cbox jV jN jF jC jU jL)
    have hsz6 : w6.heap.size < (w6.alloc (cbox jV jN jF jC jU jL)).heap.size := by simp
    unfold cbox at hal6 hsz6
    obtain ⟨d0, d1, d2, d3, d4, d5⟩ := hC6.keep hal6 hS6
    have HB7 := Lib.hid (hB6.trans (hal6.mono (Nat.le_of_lt hS6)))
    have HS7 := Lib.hid (Nat.lt_trans hS6 hsz6)
    clear hb hB6 hC6 hS6 hal6 hsz6 HB5 HC5 HS5
    go_wp2_with fail
    refine (H6.out _).mono ?_
    rintro r w8 ⟨rfl, hb⟩
    have hB8 := HB7.out.trans (hb.mono (Nat.le_of_lt HS7.out))
    clear hb
    go_wp2
    go_ret
    exact ⟨rfl, hB8⟩

end Go.Proofs.YtfbkiohaoakahaaDoor


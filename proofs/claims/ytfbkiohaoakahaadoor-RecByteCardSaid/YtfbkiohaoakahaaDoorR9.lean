/-
  The walk of RecByte.
-/
import Derived.Test.YtfbkiohaoakahaaDoorR8
import Derived.Test.YtfbkiohaoakahaaDoorB1
namespace Go.Proofs.YtfbkiohaoakahaaDoor
open Go.RowKit
set_option linter.unusedVariables false
set_option linter.unusedSimpArgs false

theorem set_parts (P : List UInt8) (j : Nat) (x : UInt8) (h : j < P.length) : P.take j ++ [x] ++ P.drop (j + 1) = P.set j x := by
  rw [List.set_eq_take_append_cons_drop, if_pos h, List.append_assoc]
  rfl

set_option maxRecDepth 20000 in
set_option maxHeartbeats 2000000 in
theorem byte_walk (kind : Int) (s : ByteArray) (at' c : Int) (w : World) (hs : s.size ≤ 9223372036854775807) (hc : (Lit.int .u8 c).wf = true) :
    Calls Tryd.prog 5 #[.int .i64 kind, .string s, .int .i64 at', .int .u8 c] w fun e w' => e = .returned (.bool true) ∧ Below w.heap.size w w' := by
  obtain ⟨x, rfl⟩ : ∃ x : UInt8, c = (x.toNat : Int) := ⟨UInt8.ofNat c.toNat, (u8_of_wf hc).symm⟩
  clear hc
  have h1 := fun w => make_any kind s w hs
  have h4 := known_any
  unfold tupV at h1
  obtain ⟨P, e, hP⟩ : ∃ P e, makeP kind s.data.toList = (P, e) := ⟨_, _, rfl⟩
  rw [hP] at h1
  dsimp only at h1
  have hx8 := UInt8.toNat_lt x
  by_cases he : e = 0
  · subst he
    obtain ⟨hPe, k1, k8, hbl⟩ := make_kind hP
    have hPl : P.length = 64 := by rw [hPe]; exact recL_length _ _ hbl
    have hln := len_str P
    rw [hPl] at hln
    by_cases hat : 0 ≤ at' ∧ at' < 64
    · obtain ⟨j, rfl⟩ : ∃ j : Nat, at' = j := ⟨at'.toNat, by omega⟩
      have hj : j < 64 := by omega
      have hix := fun w => idx_str P j (by omega) w
      have y1 : (0 : Int) ≤ (j : Int) := by omega
      have y2 : (j : Int) < 64 := by omega
      by_cases hne : nb P j = x.toNat
      · rw [hne] at hix
        generalize x.toNat = xn at *
        obtain ⟨VP, hVP⟩ : ∃ V, V = strV P := ⟨_, rfl⟩
        simp only [← hVP] at h1 hln hix
        have hln' : ∀ w, (Builtin.len_ #[9] 3 #[VP]).run Tryd.prog w = .ok (.int .i64 64) w := hln
        have H1 := Lib.hid h1
        have H4 := Lib.hid h4
        clear h1 h4 hVP hP hPe hPl hln hbl k1 k8 hne hat
        go_enter Tryd.func5, Tryd.ntmps5
        go_wp2_with fail
        refine (H1.out _).mono ?_
        rintro r w1 ⟨rfl, hb⟩
        have HB1 := Lib.hid hb
        clear hb
        go_wp2_with fail
        refine (H4.out _).mono ?_
        rintro r w2 ⟨rfl, hb⟩
        have hB2 := HB1.out.trans (hb.mono HB1.out.size)
        clear hb
        go_wp2
        go_ret
        exact ⟨rfl, hB2⟩
      · have hne2 : (((nb P j : Nat) : Int) == (x.toNat : Int)) = false := by
          rw [beq_eq_false_iff_ne]; omega
        have hkd := fun w => kind_any (P.set j x) w
        have hko : kindP (P.set j x) = (0, 9) := by
          rw [hPe]
          exact byte_other (pre60_length _ _ hbl) hj (fun g => hne (by unfold nb; rw [hPe]; unfold recL; rw [g]))
        rw [hko] at hkd
        unfold kindV at hkd
        have hc1 := fun w => cut_to P j (by omega) w
        have hc2 := fun w => cut_from P (j + 1) (by omega) w
        have ha1 := add_texts (P.take j) [x] (by simp; omega)
        have ha2 := add_texts (P.take j ++ [x]) (P.drop (j + 1)) (by simp; omega)
        rw [set_parts P j x (by omega)] at ha2
        obtain ⟨VP, hVP⟩ : ∃ V, V = strV P := ⟨_, rfl⟩
        obtain ⟨VA, hVA⟩ : ∃ V, V = strV (P.take j) := ⟨_, rfl⟩
        obtain ⟨VX, hVX⟩ : ∃ V, V = strV [x] := ⟨_, rfl⟩
        obtain ⟨VB, hVB⟩ : ∃ V, V = strV (P.take j ++ [x]) := ⟨_, rfl⟩
        obtain ⟨VC, hVC⟩ : ∃ V, V = strV (P.drop (j + 1)) := ⟨_, rfl⟩
        obtain ⟨VD, hVD⟩ : ∃ V, V = strV (P.set j x) := ⟨_, rfl⟩
        simp only [← hVP] at h1 hln hix hc1 hc2
        simp only [← hVA] at hc1 ha1
        simp only [← hVX] at ha1
        simp only [← hVB] at ha1 ha2
        simp only [← hVC] at hc2 ha2
        simp only [← hVD] at ha2 hkd
        have hln' : ∀ w, (Builtin.len_ #[9] 3 #[VP]).run Tryd.prog w = .ok (.int .i64 64) w := hln
        have hc2' : ∀ w, (Instr.sliceAt 9 VP (some (.int .i64 ((j : Int) + 1))) none none).run Tryd.prog w = .ok VC w := hc2
        have hcv : ∀ w : World, (convert 29 9 (.slice (some ⟨w.heap.size, 0, none⟩) 1 1)).run Tryd.prog (w.alloc (.cells #[.int .u8 (x.toNat : Int)] 5)).drew = .ok VX (w.alloc (.cells #[.int .u8 (x.toNat : Int)] 5)).drew := fun w => by
          rw [hVX]
          exact rd_string (one_rd w _ x rfl).drew
        have H1 := Lib.hid h1
        have H4 := Lib.hid h4
        have HK := Lib.hid hkd
        have wr1 : IntKind.i64.wrap ((j : Int) + 1) = (j : Int) + 1 := by rw [IntKind.wrap_i64]; omega
        generalize nb P j = nj at *
        generalize x.toNat = xn at *
        clear h1 h4 hkd hVP hVA hVX hVB hVC hVD hP hPe hPl hln hbl k1 k8 hne hat hko hc2
        go_enter Tryd.func5, Tryd.ntmps5
        go_wp2_with fail
        refine (H1.out _).mono ?_
        rintro r w1 ⟨rfl, hb⟩
        have HB1 := Lib.hid hb
        have hcv1 := hcv w1
        clear hb hcv
        go_wp2_with fail
        go_region_with (first
          | (go_at_call 12; refine (HK.out _).mono ?_; rintro r w2 ⟨rfl, hb2⟩))
        have hal : Below w1.heap.size w1 (w1.alloc (.cells #[.int .u8 (xn : Int)] 5)).drew := ((Below.refl _ _).alloc (Nat.le_refl _) _).drew
        have hB2 := HB1.out.trans ((hal.trans (hb2.mono hal.size)).mono HB1.out.size)
        have HB2 := Lib.hid hB2
        clear hb2 hal hB2 HB1 hcv1
        go_wp2_with fail
        refine (H4.out _).mono ?_
        rintro r w3 ⟨rfl, hb⟩
        have hB3 := HB2.out.trans (hb.mono HB2.out.size)
        clear hb
        go_wp2
        go_ret
        exact ⟨rfl, hB3⟩
    · generalize x.toNat = xn at *
      obtain ⟨VP, hVP⟩ : ∃ V, V = strV P := ⟨_, rfl⟩
      simp only [← hVP] at h1 hln
      have hln' : ∀ w, (Builtin.len_ #[9] 3 #[VP]).run Tryd.prog w = .ok (.int .i64 64) w := hln
      have H1 := Lib.hid h1
      have H4 := Lib.hid h4
      clear h1 h4 hVP hP hPe hPl hln hbl k1 k8
      go_enter Tryd.func5, Tryd.ntmps5
      go_wp2_with fail
      refine (H1.out _).mono ?_
      rintro r w1 ⟨rfl, hb⟩
      have HB1 := Lib.hid hb
      clear hb
      by_cases h0 : at' < 0
      · clear hat
        go_wp2_with fail
        refine (H4.out _).mono ?_
        rintro r w2 ⟨rfl, hb⟩
        have hB2 := HB1.out.trans (hb.mono HB1.out.size)
        clear hb
        go_wp2
        go_ret
        exact ⟨rfl, hB2⟩
      · have h64 : 64 ≤ at' := by omega
        clear hat
        go_wp2_with fail
        refine (H4.out _).mono ?_
        rintro r w2 ⟨rfl, hb⟩
        have hB2 := HB1.out.trans (hb.mono HB1.out.size)
        clear hb
        go_wp2
        go_ret
        exact ⟨rfl, hB2⟩
  · have he2 : ((e : Int) == 0) = false := by simpa using he
    have he3 : ((e : Int) != 0) = true := by simpa using he
    generalize x.toNat = xn at *
    generalize strV P = VP at *
    have H1 := Lib.hid h1
    have H4 := Lib.hid h4
    clear h1 h4 hP he
    go_enter Tryd.func5, Tryd.ntmps5
    go_wp2_with fail
    refine (H1.out _).mono ?_
    rintro r w1 ⟨rfl, hb⟩
    have HB1 := Lib.hid hb
    clear hb
    go_wp2_with fail
    refine (H4.out _).mono ?_
    rintro r w2 ⟨rfl, hb⟩
    have hB2 := HB1.out.trans (hb.mono HB1.out.size)
    clear hb
    go_wp2
    go_ret
    exact ⟨rfl, hB2⟩

end Go.Proofs.YtfbkiohaoakahaaDoor


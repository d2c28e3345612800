/-
  The walk of SectorShorts.
-/
import Derived.Test.YtgblhcikffecfaaDoorFQ
import Derived.LaidMore
import Derived.Lay
namespace Go.Proofs.YtgblhcikffecfaaDoor
open Go.RowKit Go.Shelf
set_option linter.unusedVariables false
set_option linter.unusedSimpArgs false

theorem longR_one {t : List UInt8} {v z : ByteArray} {e f : Int} (h : LongR t v e) (k : LongR t z f) : v = z ∧ e = f := by
  rcases h with ⟨h1, h2⟩ | ⟨h1, h2, h3⟩
  · rcases k with ⟨k1, k2⟩ | ⟨k1, _⟩
    · refine ⟨?_, by rw [h2, k2]⟩
      have := form_one h1 k1
      cases v; cases z
      simp only [ByteArray.mk.injEq]
      exact Array.toList_inj.mp this
    · exact absurd h1 (k1 _)
  · rcases k with ⟨k1, k2⟩ | ⟨k1, k2, k3⟩
    · exact absurd k1 (h1 _)
    · exact ⟨by rw [h2, k2], by rw [h3, k3]⟩
theorem longR_own {s X v : ByteArray} {e : Int} (hs : s.size = 64) (hx : shortV s = .string X) (h : LongR X.data.toList v e) : v = s ∧ e = 0 := by
  have hf := (shortV_form hs).1 hx
  rcases h with ⟨h1, h2⟩ | ⟨h1, _⟩
  · refine ⟨?_, h2⟩
    have := form_one h1 hf
    cases v; cases s
    simp only [ByteArray.mk.injEq]
    exact Array.toList_inj.mp this
  · exact absurd hf (h1 _)
theorem longR_short {t y : ByteArray} {e : Int} (h : LongR t.data.toList y e) : (e = 0 ∧ shortV y = .string t) ∨ e = 6 := by
  rcases h with ⟨h1, h2⟩ | ⟨_, _, h2⟩
  · exact .inl ⟨h2, (shortV_form h1.1).2 h1⟩
  · exact .inr h2
theorem shortV_str (s : ByteArray) : ∃ X : ByteArray, shortV s = .string X ∧ X.size ≤ 1000 := by
  unfold shortV
  by_cases h : s.size = 64
  · rw [if_pos h]
    refine ⟨_, rfl, ?_⟩
    have h1 := txt_len (rs s.data.toList 64).1
    have h2 := (rs_le s.data.toList 64).1
    show (List.toArray _).size ≤ _
    rw [List.size_toArray]
    omega
  · rw [if_neg h]
    exact ⟨_, rfl, by show (List.toArray _).size ≤ _; simp⟩
theorem known_kon (m : Int) (w : World) (hk : Kon m w) : Calls Tryd.prog 16 #[] w fun e w' => e = .returned (.bool true) ∧ Below w.heap.size w w' := known_any m w hk.zero hk.lt.1

set_option maxRecDepth 20000 in
set_option maxHeartbeats 2000000 in
theorem shorts_far (s t : ByteArray) (m : Int) (w : World) (hk : Kon m w) (hf : 500 < s.size ∨ 500 < t.size) :
    Calls Tryd.prog 5 #[.string s, .string t] w fun e w' => e = .returned (.bool true) ∧ Below w.heap.size w w' := by
  have h := known_kon m w hk
  have H := Lib.hid h
  clear h hk
  by_cases h1 : 500 < s.size
  · have i1 : (500 : Int) < (s.size : Int) := by omega
    clear h1 hf
    go_enter Tryd.func5, Tryd.ntmps5
    go_wp2_with fail
    refine H.out.mono ?_
    rintro r w1 ⟨rfl, hb⟩
    go_wp2
    go_ret
    exact ⟨rfl, hb⟩
  · have i1 : ¬ (500 : Int) < (s.size : Int) := by omega
    have i2 : (500 : Int) < (t.size : Int) := by omega
    clear h1 hf
    go_enter Tryd.func5, Tryd.ntmps5
    go_wp2_with fail
    refine H.out.mono ?_
    rintro r w1 ⟨rfl, hb⟩
    go_wp2
    go_ret
    exact ⟨rfl, hb⟩

set_option maxRecDepth 20000 in
set_option maxHeartbeats 4000000 in
theorem shorts_near (s t : ByteArray) (m : Int) (w : World) (hk : Kon m w) (hs : s.size ≤ 500) (ht : t.size ≤ 500) :
    Calls Tryd.prog 5 #[.string s, .string t] w fun e w' => e = .returned (.bool true) ∧ Below w.heap.size w w' := by
  have hlt := hk.lt
  obtain ⟨X, hX, hXs⟩ := shortV_str s
  have h1 := fun w => short_any s w
  have h2 := fun w => rshort_any s w
  rw [hX] at h1 h2
  have h3 := fun w' (hb : Below w.heap.size w w') => long_any t m w' (by omega) (hk.below hb hlt)
  have h4 := fun w => rlong_any t w
  have h5 := fun w' (hb : Below w.heap.size w w') => long_any X m w' hXs (hk.below hb hlt)
  have h6 := fun w => rright_any s w
  have h7 := fun y w => short_any y w
  have h8 := fun w' (hb : Below w.heap.size w w') => known_kon m w' (hk.below hb hlt)
  have i1 : (s.size : Int) ≤ 500 := by omega
  have i2 : (t.size : Int) ≤ 500 := by omega
  have H1 := Lib.hid h1
  have H2 := Lib.hid h2
  have H3 := Lib.hid h3
  have H4 := Lib.hid h4
  have H5 := Lib.hid h5
  have H6 := Lib.hid h6
  have H7 := Lib.hid h7
  have H8 := Lib.hid h8
  have HX := Lib.hid hX
  clear h1 h2 h3 h4 h5 h6 h7 h8 hX hXs hk hlt hs ht
  go_enter Tryd.func5, Tryd.ntmps5
  go_wp2_with fail
  refine (H1.out _).mono ?_
  rintro r w1 ⟨rfl, hb⟩
  have HB1 := Lib.hid hb
  clear hb
  go_wp2_with fail
  refine (H3.out _ HB1.out).mono ?_
  rintro r w2 ⟨y, e, rfl, hy, hb⟩
  have HY := Lib.hid hy
  have HB2 := Lib.hid (HB1.out.trans (hb.mono HB1.out.size))
  clear hb hy
  go_wp2_with fail
  refine (H4.out _).mono ?_
  rintro r w3 ⟨z, f, rfl, hz, hb⟩
  obtain ⟨rfl, rfl⟩ := longR_one HY.out hz
  have HB3 := Lib.hid (HB2.out.trans (hb.mono HB2.out.size))
  clear hb hz
  have n1 := neq_texts X X
  rw [decide_eq_false (fun h => h rfl)] at n1
  have g1 := fun op a b => guard_text op a b X X
  have n2 := neq_texts y y
  rw [decide_eq_false (fun h => h rfl)] at n2
  have g2 := fun op a b => guard_text op a b y y
  obtain ⟨VX, hVX⟩ : ∃ V, V = Value.string X := ⟨_, rfl⟩
  obtain ⟨VY, hVY⟩ : ∃ V, V = Value.string y := ⟨_, rfl⟩
  have H2' := Lib.hid (show ∀ w, Calls Tryd.prog 22 #[.string s] w fun e w' => e = .returned VX ∧ Below w.heap.size w w' from by rw [hVX]; exact H2.out)
  have H5' := Lib.hid (show ∀ w', Below w.heap.size w w' → Calls Tryd.prog 20 #[VX] w' fun e w2 => ∃ v why, e = .returned (.tuple #[.string v, .int .i64 why]) ∧ LongR X.data.toList v why ∧ Below w'.heap.size w' w2 from by rw [hVX]; exact H5.out)
  have H7' := Lib.hid (show ∀ w, Calls Tryd.prog 19 #[VY] w fun e w' => e = .returned (shortV y) ∧ Below w.heap.size w w' from by rw [hVY]; exact H7.out y)
  rw [← hVX] at n1 ⊢
  simp only [← hVX] at g1
  simp only [← hVY] at n2 g2 ⊢
  have HYS := Lib.hid (longR_short HY.out)
  clear hVX hVY H2 H5 H7
  go_wp2_with fail
  refine (H2'.out _).mono ?_
  rintro r w4 ⟨rfl, hb⟩
  have HB4 := Lib.hid (HB3.out.trans (hb.mono HB3.out.size))
  clear hb
  go_wp2_with fail
  refine (H5'.out _ HB4.out).mono ?_
  rintro r w5 ⟨v, g, rfl, hv, hb⟩
  have HB5 := Lib.hid (HB4.out.trans (hb.mono HB4.out.size))
  have HV := Lib.hid hv
  clear hb hv
  by_cases h64 : s.size = 64
  · rcases HYS.out with hys | hys
    · have hr := H6.out
      rw [decide_eq_true h64] at hr
      obtain ⟨rfl, rfl⟩ := longR_own h64 HX.out HV.out
      have q1 := eql_same v
      have q2 := fun op a b => guard_text op a b v v
      have HR := Lib.hid hr
      clear hr h64
      obtain ⟨he, hsy⟩ := hys
      subst he
      have h7 := H7'.out
      rw [hsy] at h7
      have q3 := eql_same t
      have q4 := fun op a b => guard_text op a b t t
      have H7B := Lib.hid h7
      clear h7 hsy
      generalize Value.string v = VV at *
      generalize Value.string t = VT at *
      go_wp2_with fail
      refine (HR.out _).mono ?_
      rintro r w6 ⟨rfl, hw6⟩
      obtain rfl := hw6.symm
      clear hw6
      go_wp2_with fail
      refine (H7B.out _).mono ?_
      rintro r w7 ⟨rfl, hb⟩
      have HB6 := Lib.hid (HB5.out.trans (hb.mono HB5.out.size))
      clear hb
      go_wp2_with fail
      refine (H8.out _ HB6.out).mono ?_
      rintro r w8 ⟨rfl, hb⟩
      have hB8 := HB6.out.trans (hb.mono HB6.out.size)
      clear hb
      go_wp2
      go_ret
      exact ⟨rfl, hB8⟩
    · have hr := H6.out
      rw [decide_eq_true h64] at hr
      obtain ⟨rfl, rfl⟩ := longR_own h64 HX.out HV.out
      have q1 := eql_same v
      have q2 := fun op a b => guard_text op a b v v
      have HR := Lib.hid hr
      clear hr h64
      subst hys
      generalize Value.string v = VV at *
      go_wp2_with fail
      refine (HR.out _).mono ?_
      rintro r w6 ⟨rfl, hw6⟩
      obtain rfl := hw6.symm
      clear hw6
      go_wp2_with fail
      refine (H8.out _ HB5.out).mono ?_
      rintro r w8 ⟨rfl, hb⟩
      have hB8 := HB5.out.trans (hb.mono HB5.out.size)
      clear hb
      go_wp2
      go_ret
      exact ⟨rfl, hB8⟩
  · rcases HYS.out with hys | hys
    · have hr := H6.out
      rw [decide_eq_false h64] at hr
      have HR := Lib.hid hr
      clear hr h64
      obtain ⟨he, hsy⟩ := hys
      subst he
      have h7 := H7'.out
      rw [hsy] at h7
      have q3 := eql_same t
      have q4 := fun op a b => guard_text op a b t t
      have H7B := Lib.hid h7
      clear h7 hsy
      generalize Value.string t = VT at *
      go_wp2_with fail
      refine (HR.out _).mono ?_
      rintro r w6 ⟨rfl, hw6⟩
      obtain rfl := hw6.symm
      clear hw6
      go_wp2_with fail
      refine (H7B.out _).mono ?_
      rintro r w7 ⟨rfl, hb⟩
      have HB6 := Lib.hid (HB5.out.trans (hb.mono HB5.out.size))
      clear hb
      go_wp2_with fail
      refine (H8.out _ HB6.out).mono ?_
      rintro r w8 ⟨rfl, hb⟩
      have hB8 := HB6.out.trans (hb.mono HB6.out.size)
      clear hb
      go_wp2
      go_ret
      exact ⟨rfl, hB8⟩
    · have hr := H6.out
      rw [decide_eq_false h64] at hr
      have HR := Lib.hid hr
      clear hr h64
      subst hys
      go_wp2_with fail
      refine (HR.out _).mono ?_
      rintro r w6 ⟨rfl, hw6⟩
      obtain rfl := hw6.symm
      clear hw6
      go_wp2_with fail
      refine (H8.out _ HB5.out).mono ?_
      rintro r w8 ⟨rfl, hb⟩
      have hB8 := HB5.out.trans (hb.mono HB5.out.size)
      clear hb
      go_wp2
      go_ret
      exact ⟨rfl, hB8⟩

theorem shorts_walk (s t : ByteArray) (m : Int) (w : World) (hm : w.cell? ⟨0, 0, none⟩ = some (.int .i64 m)) (h0 : 0 < w.heap.size)
    (he : (∃ t p, w.cell? ⟨3, 0, none⟩ = some (.iface t p)) ∧ ∃ t p, w.cell? ⟨4, 0, none⟩ = some (.iface t p)) :
    Calls Tryd.prog 5 #[.string s, .string t] w fun e w' => e = .returned (.bool true) ∧ Below w.heap.size w w' := by
  have hk : Kon m w := ⟨hm, he.1, he.2⟩
  by_cases hs : s.size ≤ 500
  · by_cases ht : t.size ≤ 500
    · exact shorts_near s t m w hk hs ht
    · exact shorts_far s t m w hk (.inr (by omega))
  · exact shorts_far s t m w hk (.inl (by omega))

theorem starE : "*" ++ "errors.errorString" = "*errors.errorString" := by decide
theorem rowE (u : TypeId) (h : Tryd.prog.typeName? 3 u = some "*errors.errorString") : u = 116 :=
  typeName_ptr_named (nm := "errors.errorString") (by rw [starE]; kernel_rfl) (by kernel_rfl) (by decide) u (by rw [starE]; exact h)
theorem laid_err {W : World} (h : laidMetH Tryd.prog laidR W) : (∃ t p, W.cell? ⟨3, 0, none⟩ = some (.iface t p)) ∧ ∃ t p, W.cell? ⟨4, 0, none⟩ = some (.iface t p) := by
  rw [MakeChecks.laidMetH_plain _ _ _ (by kernel_rfl)] at h
  have h4 := h.tail.tail.tail.tail
  obtain ⟨a0, s0, hv0, _⟩ := laid_sentinel h4 (g := 4) (ti := 64) (by kernel_rfl) (by kernel_rfl) Tryd.underlying64 rowE Tryd.underlying116 Tryd.underlying118 rfl rfl Tryd.underlying9 (by kernel_rfl) (by kernel_rfl)
  obtain ⟨a1, s1, hv1, _⟩ := laid_sentinel h4.tail (g := 3) (ti := 64) (by kernel_rfl) (by kernel_rfl) Tryd.underlying64 rowE Tryd.underlying116 Tryd.underlying118 rfl rfl Tryd.underlying9 (by kernel_rfl) (by kernel_rfl)
  have c0 := World.var?_cell (g := 4) (by kernel_rfl) hv0 0
  have c1 := World.var?_cell (g := 3) (by kernel_rfl) hv1 0
  exact ⟨⟨_, _, by simpa using c1⟩, ⟨_, _, by simpa using c0⟩⟩
end Go.Proofs.YtgblhcikffecfaaDoor

/-
  The walks of RecMakes and RecOpens.
-/
import Derived.Test.YtfbkiohaoakahaaDoorR7
namespace Go.Proofs.YtfbkiohaoakahaaDoor
open Go.RowKit
set_option linter.unusedVariables false
set_option linter.unusedSimpArgs false

theorem neq_self (xs : List UInt8) (w : World) : (binOp .neq 9 (strV xs) (strV xs)).run Tryd.prog w = .ok (.bool false) w := by
  have := neq_str xs xs w
  rwa [show decide (xs = xs) = true from by simp] at this
theorem eql_self (xs : List UInt8) (w : World) : (binOp .eql 9 (strV xs) (strV xs)).run Tryd.prog w = .ok (.bool true) w := by
  have := eql_str xs xs w
  rwa [show decide (xs = xs) = true from by simp] at this

set_option maxRecDepth 20000 in
set_option maxHeartbeats 2000000 in
theorem makes_walk (kind : Int) (s : ByteArray) (w : World) (hs : s.size ≤ 9223372036854775807) :
    Calls Tryd.prog 3 #[.int .i64 kind, .string s] w fun e w' => e = .returned (.bool true) ∧ Below w.heap.size w w' := by
  have h1 := fun w => make_any kind s w hs
  have h2 := fun w => rmake_any kind s w hs
  have h4 := known_any
  unfold tupV at h1 h2
  obtain ⟨P, e, hP⟩ : ∃ P e, makeP kind s.data.toList = (P, e) := ⟨_, _, rfl⟩
  rw [hP] at h1 h2
  dsimp only at h1 h2
  have hop : e = 0 → openP kind P = (s.data.toList, 0) := fun h => by subst h; exact make_open hP
  have h3 := fun w => open_any kind P w
  unfold tupV at h3
  have q1 := neq_self P
  have q2 := nguard_str P P
  have q3 := eql_self s.data.toList
  have q4 := eguard_str s.data.toList s.data.toList
  obtain ⟨VP, hVP⟩ : ∃ V, V = strV P := ⟨_, rfl⟩
  obtain ⟨VS, hVS⟩ : ∃ V, V = (.string s : Value) := ⟨_, rfl⟩
  have hVS' : VS = strV s.data.toList := hVS
  simp only [← hVP] at h1 h2 h3 q1 q2
  simp only [← hVS'] at q3 q4
  simp only [← hVS] at h1 h2 ⊢
  have h3' : e = 0 → ∀ w, Calls Tryd.prog 10 #[.int .i64 kind, VP] w fun e w' => e = .returned (.tuple #[VS, .int .i64 0]) ∧ Below w.heap.size w w' := fun h w => by
    have := h3 w
    rw [hop h] at this
    rw [hVS']
    exact this
  have H1 := Lib.hid h1
  have H2 := Lib.hid h2
  have H3 := Lib.hid h3'
  have H4 := Lib.hid h4
  clear h1 h2 h3 h4 h3' hop hP hVP hVS hVS'
  go_enter Tryd.func3, Tryd.ntmps3
  go_wp2_with fail
  refine (H1.out _).mono ?_
  rintro r w1 ⟨rfl, hb⟩
  have HB1 := Lib.hid hb
  clear hb
  go_wp2_with fail
  refine (H2.out _).mono ?_
  rintro r w2 ⟨rfl, hb⟩
  have HB2 := Lib.hid (HB1.out.trans (hb.mono HB1.out.size))
  clear hb
  by_cases he : e = 0
  · have h3b := H3.out he
    have H3b := Lib.hid h3b
    clear H3 h3b
    subst he
    go_wp2_with fail
    refine (H3b.out _).mono ?_
    rintro r w3 ⟨rfl, hb⟩
    have HB3 := Lib.hid (HB2.out.trans (hb.mono HB2.out.size))
    clear hb
    go_wp2_with fail
    refine (H4.out _).mono ?_
    rintro r w4 ⟨rfl, hb⟩
    have hB4 := HB3.out.trans (hb.mono HB3.out.size)
    clear hb
    go_wp2
    go_ret
    exact ⟨rfl, hB4⟩
  · have he2 : ((e : Int) == 0) = false := by simpa using he
    clear he
    go_wp2_with fail
    refine (H4.out _).mono ?_
    rintro r w4 ⟨rfl, hb⟩
    have hB4 := HB2.out.trans (hb.mono HB2.out.size)
    clear hb
    go_wp2
    go_ret
    exact ⟨rfl, hB4⟩

set_option maxRecDepth 20000 in
set_option maxHeartbeats 2000000 in
theorem opens_walk (kind : Int) (s : ByteArray) (w : World) (hs : s.size ≤ 9223372036854775807) :
    Calls Tryd.prog 4 #[.int .i64 kind, .string s] w fun e w' => e = .returned (.bool true) ∧ Below w.heap.size w w' := by
  have h1 := fun w => open_any kind s.data.toList w
  have h2 := fun w => ropen_any kind s.data.toList w
  have h3 := fun w => kind_any s.data.toList w
  have h4 := fun w => rkind_any s.data.toList w
  have h6 := known_any
  have hbl : (openP kind s.data.toList).1.length ≤ 9223372036854775807 := by
    unfold openP
    split
    · simp
    · split
      · simp
      · have : s.data.toList.length = s.size := rfl
        simp only [List.length_drop, List.length_take]
        omega
  unfold tupV at h1 h2
  unfold kindV at h3 h4
  obtain ⟨P, e, hP⟩ : ∃ P e, openP kind s.data.toList = (P, e) := ⟨_, _, rfl⟩
  obtain ⟨k, e2, hK⟩ : ∃ k e2, kindP s.data.toList = (k, e2) := ⟨_, _, rfl⟩
  rw [hP] at h1 h2 hbl
  rw [hK] at h3 h4
  dsimp only at h1 h2 h3 h4 hbl
  have hmk : e = 0 → makeP kind P = (s.data.toList, 0) := fun h => by subst h; exact open_make hP
  have h5 := fun w => make_any kind ⟨P.toArray⟩ w (by rw [size_str]; exact hbl)
  unfold tupV at h5
  have e5 : (⟨P.toArray⟩ : ByteArray).data.toList = P := rfl
  rw [e5] at h5
  obtain ⟨Q, e3, hQ⟩ : ∃ Q e3, makeP kind P = (Q, e3) := ⟨_, _, rfl⟩
  rw [hQ] at h5 hmk
  dsimp only at h5
  have q1 := neq_self P
  have q2 := nguard_str P P
  have q3 := eql_str Q s.data.toList
  have q4 := eguard_str Q s.data.toList
  obtain ⟨VP, hVP⟩ : ∃ V, V = strV P := ⟨_, rfl⟩
  obtain ⟨VQ, hVQ⟩ : ∃ V, V = strV Q := ⟨_, rfl⟩
  obtain ⟨VS, hVS⟩ : ∃ V, V = (.string s : Value) := ⟨_, rfl⟩
  have hVS' : VS = strV s.data.toList := hVS
  have hVP' : (.string ⟨P.toArray⟩ : Value) = VP := hVP.symm
  rw [hVP'] at h5
  simp only [← hVP] at h1 h2 q1 q2
  simp only [← hVQ] at h5 q3 q4
  simp only [← hVS'] at h1 h2 h3 h4 q3 q4
  rw [← hVS]
  have hq : e = 0 → decide (Q = s.data.toList) = true ∧ e3 = 0 := fun h => by
    have := hmk h
    simp only [Prod.mk.injEq] at this
    exact ⟨by simpa using this.1, this.2⟩
  obtain ⟨B, hB⟩ : ∃ B, decide (Q = s.data.toList) = B := ⟨_, rfl⟩
  rw [hB] at q3 hq
  have H1 := Lib.hid h1
  have H2 := Lib.hid h2
  have H3 := Lib.hid h3
  have H4 := Lib.hid h4
  have H5 := Lib.hid h5
  have H6 := Lib.hid h6
  have HQ := Lib.hid hq
  clear h1 h2 h3 h4 h5 h6 hmk hP hK hQ hVP hVS hVS' hVQ hVP' hB hq e5 hbl
  go_enter Tryd.func4, Tryd.ntmps4
  go_wp2_with fail
  refine (H1.out _).mono ?_
  rintro r w1 ⟨rfl, hb⟩
  have HB1 := Lib.hid hb
  clear hb
  go_wp2_with fail
  refine (H2.out _).mono ?_
  rintro r w2 ⟨rfl, hb⟩
  have HB2 := Lib.hid (HB1.out.trans (hb.mono HB1.out.size))
  clear hb
  go_wp2_with fail
  refine (H3.out _).mono ?_
  rintro r w3 ⟨rfl, hb⟩
  have HB3 := Lib.hid (HB2.out.trans (hb.mono HB2.out.size))
  clear hb
  go_wp2_with fail
  refine (H4.out _).mono ?_
  rintro r w4 ⟨rfl, hb⟩
  have HB4 := Lib.hid (HB3.out.trans (hb.mono HB3.out.size))
  clear hb
  go_wp2_with fail
  refine (H5.out _).mono ?_
  rintro r w5 ⟨rfl, hb⟩
  have HB5 := Lib.hid (HB4.out.trans (hb.mono HB4.out.size))
  clear hb
  by_cases he : e = 0
  · obtain ⟨rfl, rfl⟩ := HQ.out he
    subst he
    go_wp2_with fail
    refine (H6.out _).mono ?_
    rintro r w6 ⟨rfl, hb⟩
    have hB6 := HB5.out.trans (hb.mono HB5.out.size)
    clear hb
    go_wp2
    go_ret
    exact ⟨rfl, hB6⟩
  · have he2 : ((e : Int) == 0) = false := by simpa using he
    have he3 : ((e : Int) != 0) = true := by simpa using he
    clear HQ he
    go_wp2_with fail
    refine (H6.out _).mono ?_
    rintro r w6 ⟨rfl, hb⟩
    have hB6 := HB5.out.trans (hb.mono HB5.out.size)
    clear hb
    go_wp2
    go_ret
    exact ⟨rfl, hB6⟩

end Go.Proofs.YtfbkiohaoakahaaDoor


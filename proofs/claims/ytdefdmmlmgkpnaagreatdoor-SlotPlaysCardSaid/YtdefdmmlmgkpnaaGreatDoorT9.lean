/-
  The document's own Load.
-/
import Derived.Test.YtdefdmmlmgkpnaaGreatDoorT8
namespace Go.Proofs.YtdefdmmlmgkpnaaGreatDoor
open Go.RowKit
set_option linter.unusedVariables false
set_option linter.unusedSimpArgs false

theorem slotP_form (kind : Int) (xs : List UInt8) : slotP kind xs = noCT ∨ (slotP kind xs).f = true := by
  unfold slotP
  split
  · exact .inr rfl
  · exact .inl rfl
theorem readP_form (S : DS) (at' kind : Int) : (readP S at' kind).1 = noCT ∨ (readP S at' kind).1.f = true := by
  unfold readP
  split
  · exact .inl rfl
  · exact slotP_form _ _
theorem readP_far {S : DS} {at' kind : Int} (hl : S.L.length ≤ 1200) (h : 1200 < at') : readP S at' kind = readP S (-1) kind ∧ (readP S (-1) kind).2 ≠ 0 := by
  have h1 : ¬ S.has at' := by unfold DS.has; omega
  have h2 : ¬ S.has (-1) := by unfold DS.has; omega
  have h3 : S.read at' = S.read (-1) := by unfold DS.read; rw [if_neg h1, if_neg h2]
  refine ⟨by unfold readP; rw [h3], fun h0 => h2 (readP_has h0)⟩

set_option maxRecDepth 20000 in
set_option maxHeartbeats 4000000 in
theorem rload_any (B p : Nat) (v1 v2 : Value) (S : DS) (at' kind : Int) (w : World) (h : RD w B p v1 v2 S) (hf : S.W.length ≤ 1000000) (hl : S.L.length ≤ 1200) :
    Calls Tryz.prog 16 #[.pointer (some ⟨p, 0, none⟩), .int .i64 at', .int .i64 kind] w fun e w' => e = .returned (loadV (loadP S at' kind)) ∧ Below w.heap.size w w' := by
  have h0 : strV noCT.s = .string ⟨#[]⟩ := rfl
  by_cases hfar : 1200 < at'
  · obtain ⟨hr, hn⟩ := readP_far (kind := kind) hl hfar
    have h1 := rone_any B p v1 v2 S (-1) kind w h hf (by omega)
    unfold loadP loadV
    rw [hr, if_pos hn]
    dsimp only
    obtain ⟨a, k1, ha⟩ : ∃ a k1, readP S (-1) kind = (a, k1) := ⟨_, _, rfl⟩
    rw [ha] at h1 hn ⊢
    unfold oneV at h1
    dsimp only at h1 hn ⊢
    rw [h0]
    have hk2 : (k1 == 0) = false := by simpa using hn
    have hk3 : (k1 != 0) = true := by simp [hn]
    obtain ⟨V, hV⟩ : ∃ V : Value, strV a.s = V := ⟨_, rfl⟩
    rw [hV] at h1
    have H1 := Lib.hid h1
    clear h1 hn hr ha h hf hl hV h0
    go_enter Tryz.func16, Tryz.ntmps16
    go_wp2_with fail
    refine H1.out.mono ?_
    rintro r w1 ⟨rfl, hb⟩
    have HB := Lib.hid hb
    clear hb H1
    go_wp2
    refine bodyPost_ret (by simp [results, Tryz.f16, go_sem]; try rfl) rfl ?_
    exact ⟨rfl, HB.out⟩
  · have h1 := rone_any B p v1 v2 S at' kind w h hf (by omega)
    have h2 := fun w' (hb : Below w.heap.size w w') => rone_any B p v1 v2 S (at' + 1) kind w' (h.below hb) hf (by omega)
    have fa := readP_form S at' kind
    have fb := readP_form S (at' + 1) kind
    unfold loadP loadV
    have hh := fun e => readP_has (S := S) (at' := at') (kind := kind) e
    unfold DS.has at hh
    obtain ⟨a, k1, ha⟩ : ∃ a k1, readP S at' kind = (a, k1) := ⟨_, _, rfl⟩
    obtain ⟨b, k2, hb⟩ : ∃ b k2, readP S (at' + 1) kind = (b, k2) := ⟨_, _, rfl⟩
    rw [ha] at h1 hh fa ⊢
    rw [hb] at h2 fb ⊢
    unfold oneV at h1 h2
    dsimp only at h1 h2 hh fa fb ⊢
    clear ha hb h hf
    obtain ⟨V, hV⟩ : ∃ V : Value, strV a.s = V := ⟨_, rfl⟩
    obtain ⟨V', hV'⟩ : ∃ V : Value, strV b.s = V := ⟨_, rfl⟩
    by_cases hk : k1 = 0
    · have hh := hh hk
      subst hk
      rw [if_neg (by simp)]
      have hwr : IntKind.i64.wrap (at' + 1) = at' + 1 := IntWalk.i64_in _ (by omega)
      by_cases hk : k2 = 0
      · subst hk
        rw [if_neg (by simp)]
        rcases fa with rfl | fa
        · rcases fb with rfl | fb
          · have e : laterP noCT noCT = noCT := by unfold laterP; rw [if_pos (.inl (by unfold CT.no noCT; simp))]
            rw [e, if_pos (by unfold CT.no noCT; simp)]
            dsimp only
            rw [h0]
            unfold noCT at h1 h2
            dsimp only at h1 h2
            unfold noCT at hV hV'
            dsimp only at hV hV'
            rw [hV] at h1
            simp only [hV'] at h2
            have H1 := Lib.hid h1
            have H2 := Lib.hid h2
            clear h1 h2 hh hl hV hV' h0
            go_enter Tryz.func16, Tryz.ntmps16
            go_wp2_with fail
            refine H1.out.mono ?_
            rintro r w1 ⟨rfl, hb⟩
            have HB := Lib.hid hb
            clear hb H1
            go_wp2_with fail
            refine (H2.out _ HB.out).mono ?_
            rintro r w2 ⟨rfl, hb⟩
            have HB2 := Lib.hid (HB.out.trans (hb.mono HB.out.size))
            clear hb H2 HB
            go_wp2
            refine bodyPost_ret (by simp [results, Tryz.f16, go_sem]; try rfl) rfl ?_
            exact ⟨rfl, HB2.out⟩
          · have e : laterP noCT b = b := by unfold laterP; rw [if_pos (.inl (by unfold CT.no noCT; simp))]
            rw [e, if_neg (by unfold CT.no; simp [fb])]
            dsimp only
            rw [fb] at h2
            rw [hV']
            unfold noCT at h1
            dsimp only at h1
            unfold noCT at hV
            dsimp only at hV
            rw [hV] at h1
            simp only [hV'] at h2
            have H1 := Lib.hid h1
            have H2 := Lib.hid h2
            clear h1 h2 hh hl hV hV' h0
            go_enter Tryz.func16, Tryz.ntmps16
            go_wp2_with fail
            refine H1.out.mono ?_
            rintro r w1 ⟨rfl, hb⟩
            have HB := Lib.hid hb
            clear hb H1
            go_wp2_with fail
            refine (H2.out _ HB.out).mono ?_
            rintro r w2 ⟨rfl, hb⟩
            have HB2 := Lib.hid (HB.out.trans (hb.mono HB.out.size))
            clear hb H2 HB
            go_wp2
            refine bodyPost_ret (by simp [results, Tryz.f16, go_sem]; try rfl) rfl ?_
            exact ⟨rfl, HB2.out⟩
        · rcases fb with rfl | fb
          · have e : laterP a noCT = a := by unfold laterP CT.no noCT; rw [if_neg (by simp [fa])]
            rw [e, if_neg (by unfold CT.no; simp [fa])]
            dsimp only
            rw [fa] at h1
            rw [hV]
            unfold noCT at h2
            dsimp only at h2
            unfold noCT at hV'
            dsimp only at hV'
            rw [hV] at h1
            simp only [hV'] at h2
            have H1 := Lib.hid h1
            have H2 := Lib.hid h2
            clear h1 h2 hh hl hV hV' h0
            go_enter Tryz.func16, Tryz.ntmps16
            go_wp2_with fail
            refine H1.out.mono ?_
            rintro r w1 ⟨rfl, hb⟩
            have HB := Lib.hid hb
            clear hb H1
            go_wp2_with fail
            refine (H2.out _ HB.out).mono ?_
            rintro r w2 ⟨rfl, hb⟩
            have HB2 := Lib.hid (HB.out.trans (hb.mono HB.out.size))
            clear hb H2 HB
            go_wp2
            refine bodyPost_ret (by simp [results, Tryz.f16, go_sem]; try rfl) rfl ?_
            exact ⟨rfl, HB2.out⟩
          · rw [fa] at h1
            rw [fb] at h2
            by_cases hlt : a.n < b.n
            · have e : laterP a b = b := by unfold laterP; rw [if_pos (.inr hlt)]
              rw [e, if_neg (by unfold CT.no; simp [fb])]
              dsimp only
              rw [hV']
              have hlt' : (a.n : Int) < (b.n : Int) := by omega
              clear hlt e
              rw [hV] at h1
              simp only [hV'] at h2
              have H1 := Lib.hid h1
              have H2 := Lib.hid h2
              clear h1 h2 hh hl hV hV' h0
              go_enter Tryz.func16, Tryz.ntmps16
              go_wp2_with fail
              refine H1.out.mono ?_
              rintro r w1 ⟨rfl, hb⟩
              have HB := Lib.hid hb
              clear hb H1
              go_wp2_with fail
              refine (H2.out _ HB.out).mono ?_
              rintro r w2 ⟨rfl, hb⟩
              have HB2 := Lib.hid (HB.out.trans (hb.mono HB.out.size))
              clear hb H2 HB
              go_wp2
              refine bodyPost_ret (by simp [results, Tryz.f16, go_sem]; try rfl) rfl ?_
              exact ⟨rfl, HB2.out⟩
            · have e : laterP a b = a := by unfold laterP CT.no; rw [if_neg (by simp [fa]; omega)]
              rw [e, if_neg (by unfold CT.no; simp [fa])]
              dsimp only
              rw [hV]
              have hlt' : ¬ (a.n : Int) < (b.n : Int) := by omega
              clear hlt e
              rw [hV] at h1
              simp only [hV'] at h2
              have H1 := Lib.hid h1
              have H2 := Lib.hid h2
              clear h1 h2 hh hl hV hV' h0
              go_enter Tryz.func16, Tryz.ntmps16
              go_wp2_with fail
              refine H1.out.mono ?_
              rintro r w1 ⟨rfl, hb⟩
              have HB := Lib.hid hb
              clear hb H1
              go_wp2_with fail
              refine (H2.out _ HB.out).mono ?_
              rintro r w2 ⟨rfl, hb⟩
              have HB2 := Lib.hid (HB.out.trans (hb.mono HB.out.size))
              clear hb H2 HB
              go_wp2
              refine bodyPost_ret (by simp [results, Tryz.f16, go_sem]; try rfl) rfl ?_
              exact ⟨rfl, HB2.out⟩
      · have hk2 : (k2 == 0) = false := by simpa using hk
        have hk3 : (k2 != 0) = true := by simp [hk]
        rw [if_pos hk]
        dsimp only
        rw [h0]
        rw [hV] at h1
        simp only [hV'] at h2
        have H1 := Lib.hid h1
        have H2 := Lib.hid h2
        clear hk h1 h2 hh hl fa fb hV hV' h0
        go_enter Tryz.func16, Tryz.ntmps16
        go_wp2_with fail
        refine H1.out.mono ?_
        rintro r w1 ⟨rfl, hb⟩
        have HB := Lib.hid hb
        clear hb H1
        go_wp2_with fail
        refine (H2.out _ HB.out).mono ?_
        rintro r w2 ⟨rfl, hb⟩
        have HB2 := Lib.hid (HB.out.trans (hb.mono HB.out.size))
        clear hb H2 HB
        go_wp2
        refine bodyPost_ret (by simp [results, Tryz.f16, go_sem]; try rfl) rfl ?_
        exact ⟨rfl, HB2.out⟩
    · have hk2 : (k1 == 0) = false := by simpa using hk
      have hk3 : (k1 != 0) = true := by simp [hk]
      rw [if_pos hk]
      dsimp only
      rw [h0]
      rw [hV] at h1
      have H1 := Lib.hid h1
      clear hk h1 h2 hh hl fa fb hV hV' h0
      go_enter Tryz.func16, Tryz.ntmps16
      go_wp2_with fail
      refine H1.out.mono ?_
      rintro r w1 ⟨rfl, hb⟩
      have HB := Lib.hid hb
      clear hb H1
      go_wp2
      refine bodyPost_ret (by simp [results, Tryz.f16, go_sem]; try rfl) rfl ?_
      exact ⟨rfl, HB.out⟩
end Go.Proofs.YtdefdmmlmgkpnaaGreatDoor


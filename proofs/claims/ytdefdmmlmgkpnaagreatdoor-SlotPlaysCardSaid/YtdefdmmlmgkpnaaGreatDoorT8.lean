/-
  The document's own one sector, and Load.
-/
import Derived.Test.YtdefdmmlmgkpnaaGreatDoorT5
import Derived.Test.YtdefdmmlmgkpnaaGreatDoorEA
namespace Go.Proofs.YtdefdmmlmgkpnaaGreatDoor
open Go.RowKit
set_option linter.unusedVariables false
set_option linter.unusedSimpArgs false

def oneV (r : CT × Int) : Value := .tuple #[.bool r.1.f, .int .u64 (r.1.n : Int), strV r.1.s, .int .i64 r.2]

set_option maxRecDepth 20000 in
set_option maxHeartbeats 4000000 in
theorem rone_any (B p : Nat) (v1 v2 : Value) (S : DS) (at' kind : Int) (w : World) (h : RD w B p v1 v2 S) (hf : S.W.length ≤ 1000000) (hl : (S.L.length : Int) ≤ 1200) :
    Calls Tryz.prog 36 #[.pointer (some ⟨p, 0, none⟩), .int .i64 at', .int .i64 kind] w fun e w' => e = .returned (oneV (readP S at' kind)) ∧ Below w.heap.size w w' := by
  have hr := rread_any B p v1 v2 S at' w h hf hl
  unfold two at hr
  obtain ⟨xs, hxs, hxl⟩ := bytes_of (S.read at').1
  obtain ⟨k, hk⟩ : ∃ k, k = (S.read at').2 := ⟨_, rfl⟩
  unfold readP oneV
  rw [hxs, ← hk] at hr
  rw [hxl, ← hk]
  change Calls _ _ _ _ (fun e w' => e = .returned (.tuple #[strV xs, .int .i64 k]) ∧ _) at hr
  have HR := Lib.hid hr
  have ho := fun w => ropen_any kind xs w
  clear hr hxs hxl hk h hf hl
  have h0 : strV noCT.s = .string ⟨#[]⟩ := rfl
  obtain ⟨VX, hVX⟩ : ∃ V : Value, strV xs = V := ⟨_, rfl⟩
  rw [hVX] at HR ho
  by_cases hk : k = 0
  · subst hk
    rw [if_neg (by simp)]
    unfold slotP
    obtain ⟨ys, q, hoq⟩ : ∃ ys q, openP kind xs = (ys, q) := ⟨_, _, rfl⟩
    have hyl : q = 0 → ys.length ≤ 58 := fun e => by subst e; exact (make_kind (open_make hoq)).2.2.2
    rw [hoq] at ho ⊢
    unfold tupV at ho
    dsimp only at ho ⊢
    have hln := fun w => len_str ys w
    by_cases hq : q = 0
    · subst hq
      have hyl := hyl rfl
      by_cases h8 : 8 ≤ ys.length
      · rw [if_pos ⟨rfl, h8⟩]
        dsimp only
        have hcv := fun w => cv_str ys (by omega) w
        have hcf := fun w => cut_from ys 8 h8 w
        have hg := fun g c w (h : Rd w (some ⟨g, 0, none⟩) ys.length c ys) => rget_ok (some ⟨g, 0, none⟩) ys.length c ys 0 8 w h (by omega) (by omega) (by omega)
        simp only [List.drop_zero] at hg
        obtain ⟨n, hnn⟩ : ∃ n, n = numN (ys.take 8) := ⟨_, rfl⟩
        obtain ⟨VZ, hVZ⟩ : ∃ V : Value, strV (ys.drop 8) = V := ⟨_, rfl⟩
        obtain ⟨VY, hVY⟩ : ∃ V : Value, strV ys = V := ⟨_, rfl⟩
        rw [← hnn]
        simp only [← hnn] at hg
        rw [hVZ]
        rw [hVY] at ho
        simp only [hVY] at hcv hln
        simp only [hVY, hVZ] at hcf
        have hcf' : ∀ w, (Instr.sliceAt 9 VY (some (.int .i64 8)) none none).run Tryz.prog w = .ok VZ w := hcf
        have hl8 : ¬ (ys.length : Int) < 8 := by omega
        have HO := Lib.hid ho
        have HG := Lib.hid hg
        have HCV := Lib.hid hcv
        clear ho hg hcv hcf hoq hnn hVZ hVY hyl h8 hVX h0
        generalize ys.length = l at *
        go_enter Tryz.func36, Tryz.ntmps36
        go_wp2_with fail
        refine HR.out.mono ?_
        rintro r w1 ⟨rfl, hw1⟩; obtain rfl := hw1.symm; clear hw1
        go_wp2_with fail
        refine (HO.out _).mono ?_
        rintro r w2 ⟨rfl, hb⟩
        obtain ⟨c, w3, hcv, hrd, hb3⟩ := HCV.out w2
        have HB3 := Lib.hid (hb.trans (hb3.mono hb.size))
        obtain ⟨g, hgg⟩ : ∃ g, g = w2.heap.size := ⟨_, rfl⟩
        rw [← hgg] at hcv hrd
        have HGG := Lib.hid (HG.out g c w3 hrd)
        clear hb hb3 hrd hgg HO HG HR HCV
        go_wp2_with fail
        refine HGG.out.mono ?_
        rintro r w4 ⟨rfl, rfl⟩
        clear HGG hcv
        go_wp2_with fail
        go_region
        go_wp2
        refine bodyPost_ret (by simp [results, Tryz.f36, go_sem]; try rfl) rfl ?_
        exact ⟨rfl, HB3.out.drew⟩
      · rw [if_neg (by omega)]
        rw [h0]
        have hl8 : (ys.length : Int) < 8 := by omega
        obtain ⟨VY, hVY⟩ : ∃ V : Value, strV ys = V := ⟨_, rfl⟩
        rw [hVY] at ho
        simp only [hVY] at hln
        have HO := Lib.hid ho
        clear ho hoq hyl hVY hVX h0 h8
        generalize ys.length = l at *
        go_enter Tryz.func36, Tryz.ntmps36
        go_wp2_with fail
        refine HR.out.mono ?_
        rintro r w1 ⟨rfl, hw1⟩; obtain rfl := hw1.symm; clear hw1
        go_wp2_with fail
        refine (HO.out _).mono ?_
        rintro r w2 ⟨rfl, hb⟩
        have HB := Lib.hid hb
        clear hb HO HR
        go_wp2
        refine bodyPost_ret (by simp [results, Tryz.f36, go_sem]; try rfl) rfl ?_
        exact ⟨rfl, HB.out⟩
    · have hq2 : ((q : Int) == 0) = false := by simpa using hq
      have hq3 : ((q : Int) != 0) = true := by simp [hq]
      rw [if_neg (by omega)]
      rw [h0]
      obtain ⟨VY, hVY⟩ : ∃ V : Value, strV ys = V := ⟨_, rfl⟩
      rw [hVY] at ho
      have HO := Lib.hid ho
      clear ho hoq hyl hVY hVX h0 hln hq
      go_enter Tryz.func36, Tryz.ntmps36
      go_wp2_with fail
      refine HR.out.mono ?_
      rintro r w1 ⟨rfl, hw1⟩; obtain rfl := hw1.symm; clear hw1
      go_wp2_with fail
      refine (HO.out _).mono ?_
      rintro r w2 ⟨rfl, hb⟩
      have HB := Lib.hid hb
      clear hb HO HR
      go_wp2
      refine bodyPost_ret (by simp [results, Tryz.f36, go_sem]; try rfl) rfl ?_
      exact ⟨rfl, HB.out⟩
  · have hk2 : (k == 0) = false := by simpa using hk
    have hk3 : (k != 0) = true := by simp [hk]
    rw [if_pos hk]
    dsimp only
    rw [h0]
    clear hk ho hVX h0
    go_enter Tryz.func36, Tryz.ntmps36
    go_wp2_with fail
    refine HR.out.mono ?_
    rintro r w1 ⟨rfl, hw1⟩; obtain rfl := hw1.symm; clear hw1
    go_wp2
    refine bodyPost_ret (by simp [results, Tryz.f36, go_sem]; try rfl) rfl ?_
    exact ⟨rfl, Below.refl _ _⟩
end Go.Proofs.YtdefdmmlmgkpnaaGreatDoor


/-
  Contracts of digest: the reference's Leaf and Node.
-/
import Derived.Test.YtlockgfokfhokaaDoorD8
namespace Go.Proofs.YtlockgfokfhokaaDoor
open Go.RowKit
set_option linter.unusedVariables false
set_option linter.unusedSimpArgs false

theorem add_text (xs : List UInt8) (s : ByteArray) (hx : xs.length + s.size ≤ 9223372036854775807) (w : World) : (binOp .add 9 (strV xs) (.string s)).run Tryd.prog w = .ok (strV (xs ++ s.data.toList)) w := by
  have := add_texts xs s.data.toList hx w
  rw [strV_data] at this
  exact this

set_option maxRecDepth 20000 in
set_option maxHeartbeats 400000 in
theorem rleaf_any (s : ByteArray) (w : World) (hl : s.size ≤ 1000000000) :
    Calls Tryd.prog 32 #[.string s] w fun e w' => e = .returned (strV (dig (0 :: s.data.toList))) ∧ Below w.heap.size w w' := by
  have ha : ∀ w, (binOp .add 9 (.string ⟨#[0]⟩) (.string s)).run Tryd.prog w = .ok (.string ⟨(0 :: s.data.toList).toArray⟩) w := fun w => add_text [0] s (by simp; omega) w
  obtain ⟨T, hT⟩ : ∃ T : ByteArray, T = ⟨(0 :: s.data.toList).toArray⟩ := ⟨_, rfl⟩
  rw [← hT] at ha
  have hTl : T.data.toList = 0 :: s.data.toList := by subst hT; rfl
  have hTs : T.size = s.size + 1 := by
    have h : T.data.toList.length = T.size := rfl
    have h2 : s.data.toList.length = s.size := rfl
    rw [hTl] at h; simp only [List.length_cons] at h; omega
  obtain ⟨cp, w3, hcv, hrd, hb3⟩ := cv_rd T (by omega) w
  have hs := rsum_any _ _ cp _ w3 hrd (by omega)
  rw [hTl] at hs
  have HS := Lib.hid hs
  have HB := Lib.hid hb3
  generalize T.size = n at HS hcv
  generalize (Value.string T) = VT at ha hcv
  generalize (Value.string s) = VS at ha ⊢
  clear hs hb3 hrd hT hTl hTs
  go_enter Tryd.func32, Tryd.ntmps32
  go_wp2_with fail
  refine HS.out.mono ?_
  rintro e w4 ⟨rfl, hb4⟩
  go_wp2
  go_ret
  exact ⟨rfl, HB.out.trans (hb4.mono HB.out.size)⟩

set_option maxRecDepth 20000 in
set_option maxHeartbeats 1000000 in
theorem rnode_any (a : Option Addr) (l cap : Nat) (S : Nat → ByteArray) (w : World) (hP : Strs w a l S) (hl : (jn S l).length ≤ 1000000000) (hl2 : l ≤ 9223372036854775807) :
    Calls Tryd.prog 35 #[.slice a l cap] w fun e w' => e = .returned (strV (dig (1 :: jn S l))) ∧ Below w.heap.size w w' := by
  have HP := Lib.hid hP
  have h1 : (.string ⟨#[1]⟩ : Value) = strV (1 :: jn S 0) := rfl
  have hB := Below.refl w.heap.size w
  clear hP
  go_enter Tryd.func35, Tryd.ntmps35
  go_wp2
  go_loopw [3, 4] (fun v i wr => ∃ k : Nat, k ≤ l ∧ i = .int .i64 k ∧ v = strV (1 :: jn S k) ∧ Below w.heap.size w wr) (fun _ i _ => l - (intOf i).toNat)
  case atStart => exact ⟨0, by omega, rfl, h1, hB⟩
  case round =>
    clear hB h1
    obtain ⟨k, hk, rfl, rfl, hB⟩ := hrel
    by_cases hlt : k < l
    · have i1 : (k : Int) < (l : Int) := by omega
      obtain ⟨b, off, rfl, hbl, hel⟩ := HP.out.at0 (by omega)
      have hc : wr.cell? ⟨b, off + k, none⟩ = some (.string (S k)) := by rw [hB.cell (by exact hbl)]; exact hel k hlt
      have hkl := jn_part S hlt
      have ha := add_text (1 :: jn S k) (S k) (by simp; omega)
      change ∀ w, _ = Result.ok (strV (1 :: jn S (k + 1))) w at ha
      obtain ⟨V0, hV0⟩ : ∃ V, V = strV (1 :: jn S k) := ⟨_, rfl⟩
      obtain ⟨V1, hV1⟩ : ∃ V, V = strV (1 :: jn S (k + 1)) := ⟨_, rfl⟩
      rw [← hV0, ← hV1] at ha
      rw [← hV0]
      have HV := Lib.hid hV1
      have HB := Lib.hid hB
      clear hV0 hV1 hB hel hkl
      go_wp2
      go_roundw
      case rel => exact ⟨k + 1, by omega, by go_num, HV.out, HB.out⟩
      case measure => simp [intOf]; omega
    · obtain rfl : k = l := by omega
      have i1 : ¬ (k : Int) < (k : Int) := by omega
      obtain ⟨T, hT⟩ : ∃ T : ByteArray, T = ⟨(1 :: jn S k).toArray⟩ := ⟨_, rfl⟩
      have hTl : T.data.toList = 1 :: jn S k := by subst hT; rfl
      have hTs : T.size = (jn S k).length + 1 := by
        have h : T.data.toList.length = T.size := rfl
        rw [hTl] at h; simp only [List.length_cons] at h; omega
      rw [show strV (1 :: jn S k) = .string T from by subst hT; rfl]
      obtain ⟨cp, w3, hcv, hrd, hb3⟩ := cv_rd T (by omega) wr
      have hs := rsum_any _ _ cp _ w3 hrd (by omega)
      rw [hTl] at hs
      have HS := Lib.hid hs
      have HB := Lib.hid (hB.trans (hb3.mono hB.size))
      clear hs hb3 hrd hT hTl hTs hB
      go_wp2_with fail
      refine HS.out.mono ?_
      rintro e w4 ⟨rfl, hb4⟩
      go_wp2
      go_ret
      exact ⟨rfl, HB.out.trans (hb4.mono HB.out.size)⟩
end Go.Proofs.YtlockgfokfhokaaDoor


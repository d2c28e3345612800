/-
  Texts put together: IC.
-/
import Derived.Test.YtodcdefmoliegaaGreatDoorMI0
import Derived.Test.YtodcdefmoliegaaGreatDoorR7
import Derived.Laws.Concat
import Derived.Laws.BytesArg
import Derived.Laws.IdiomStrings
import Derived.Deep.Strs
import Derived.Deep.RegionHeldLaw
import Derived.Deep.RegionHeld3
/-
  Contracts: both Bytes.
-/
namespace Go.Proofs.YtodcdefmoliegaaGreatDoor
open Go.RowKit
set_option linter.unusedVariables false
set_option linter.unusedSimpArgs false

def setT (a b : Nat) : List UInt8 := enc a 8 ++ enc b 8
theorem setT_length (a b : Nat) : (setT a b).length = 16 := by simp [setT, enc_length]

set_option maxRecDepth 20000 in
set_option maxHeartbeats 2000000 in
theorem sbytes_any (a b : Nat) (w : World) (ha : a < 18446744073709551616) (hb : b < 18446744073709551616) :
    Calls Tryz.prog 62 #[setV a b] w fun e w' => e = .returned (strV (setT a b)) ∧ Below w.heap.size w w' := by
  have hB0 : Below w.heap.size w (w.alloc (.cells #[.int .u64 (a : Int), .int .u64 (b : Int)] 39)) := (Below.refl _ w).alloc (Nat.le_refl _) _
  have h1 := fun w => put_ok none 0 0 [] 8 a w (rd_nil w) (by omega) (by omega) ha (by omega)
  have h2 := fun g c w (h : Rd w (some ⟨g, 0, none⟩) (0 + 8) c ([] ++ enc a 8)) => put_ok (some ⟨g, 0, none⟩) (0 + 8) c ([] ++ enc a 8) 8 b w h (by omega) (by omega) hb (by omega)
  obtain ⟨V, hV⟩ : ∃ V, V = strV (setT a b) := ⟨_, rfl⟩
  rw [← hV]
  unfold setV
  have x0 := fun w => (index_set (.int .u64 (a : Int)) (.int .u64 (b : Int)) w).1
  have x1 := fun w => (index_set (.int .u64 (a : Int)) (.int .u64 (b : Int)) w).2
  have H1 := Lib.hid h1
  have H2 := Lib.hid h2
  have HB0 := Lib.hid hB0
  have HV := Lib.hid hV
  clear h1 h2 ha hb hB0 hV
  go_enter Tryz.func62, Tryz.ntmps62
  go_wp2
  go_loopw [3, 7] (fun s i wr => (((s = .slice none 0 0 ∧ i = .int .i64 0) ∨ (∃ g c, s = .slice (some ⟨g, 0, none⟩) (0 + 8) c ∧ i = .int .i64 1 ∧ Rd wr (some ⟨g, 0, none⟩) (0 + 8) c ([] ++ enc a 8)) ∨ (∃ g c, s = .slice (some ⟨g, 0, none⟩) (0 + 8 + 8) c ∧ i = .int .i64 2 ∧ Rd wr (some ⟨g, 0, none⟩) (0 + 8 + 8) c ([] ++ enc a 8 ++ enc b 8)))) ∧ Below w.heap.size w wr) (fun _ i _ => 2 - (intOf i).toNat)
  case atStart => exact ⟨.inl ⟨rfl, rfl⟩, HB0.out⟩
  case round =>
    obtain ⟨hk, hB⟩ := hrel
    have HB := Lib.hid hB
    clear hB
    rcases hk with ⟨rfl, rfl⟩ | ⟨g, c, rfl, rfl, hrd⟩ | ⟨g, c, rfl, rfl, hrd⟩
    · go_wp2_with fail
      refine (H1.out _).mono ?_
      rintro r w1 ⟨g, c, rfl, _, hrd, hb1⟩
      have HB1 := Lib.hid (HB.out.trans (hb1.mono HB.out.size))
      have HRD := Lib.hid hrd
      clear hb1 hrd
      go_wp2
      exact ⟨⟨.inr (.inl ⟨g, c, rfl, rfl, HRD.out⟩), HB1.out⟩, by simp [intOf]⟩
    · have h2' := H2.out g c wr hrd
      have H2' := Lib.hid h2'
      clear h2' hrd
      go_wp2_with fail
      refine H2'.out.mono ?_
      rintro r w1 ⟨g', c', rfl, _, hrd, hb1⟩
      have HB1 := Lib.hid (HB.out.trans (hb1.mono HB.out.size))
      have HRD := Lib.hid hrd
      clear hb1 hrd
      go_wp2
      exact ⟨⟨.inr (.inr ⟨g', c', rfl, rfl, HRD.out⟩), HB1.out⟩, by simp [intOf]⟩
    · have hcv := rd_string hrd
      rw [show ([] ++ enc a 8 ++ enc b 8) = setT a b from rfl] at hcv
      change _ = Result.ok (strV (setT a b)) wr at hcv
      rw [← HV.out] at hcv
      clear hrd
      go_wp2
      refine bodyPost_ret (results_tmp rfl _ _ _) rfl ?_
      exact ⟨rfl, HB.out⟩

set_option maxRecDepth 20000 in
set_option maxHeartbeats 2000000 in
theorem rbytes_any (a b : Nat) (w : World) (ha : a < 18446744073709551616) (hb : b < 18446744073709551616) :
    Calls Tryz.prog 43 #[setV a b] w fun e w' => e = .returned (strV (setT a b)) ∧ Below w.heap.size w w' := by
  have bS := Box2.new w 24 (.int .u64 (a : Int)) (.int .u64 (b : Int))
  have hB0 : Below w.heap.size w (w.alloc (.cells #[.int .u64 (a : Int), .int .u64 (b : Int)] 24)) := (Below.refl _ w).alloc (Nat.le_refl _) _
  have hA : ∀ w, Calls Tryz.prog 44 #[.int .i64 8, .int .u64 (a : Int)] w fun e w' => e = .returned (strV (enc a 8)) ∧ Below w.heap.size w w' := fun w => text_any 8 a w (by omega) (by omega) ha
  have hB : ∀ w, Calls Tryz.prog 44 #[.int .i64 8, .int .u64 (b : Int)] w fun e w' => e = .returned (strV (enc b 8)) ∧ Below w.heap.size w w' := fun w => text_any 8 b w (by omega) (by omega) hb
  have hadd := add_texts (enc a 8) (enc b 8) (by simp [enc_length])
  change ∀ w, _ = Result.ok (strV (setT a b)) w at hadd
  generalize strV (setT a b) = V at *
  generalize strV (enc a 8) = VA at *
  generalize strV (enc b 8) = VB at *
  unfold setV
  have HA := Lib.hid hA
  have HBB := Lib.hid hB
  clear hA hB ha hb
  go_enter Tryz.func43, Tryz.ntmps43
  go_wp2_with fail
  generalize w.alloc (.cells #[.int .u64 (a : Int), .int .u64 (b : Int)] 24) = W0 at *
  have hkp : ∀ w', Below W0.drew.heap.size W0.drew w' → Box2 w' w.heap.size 24 (.int .u64 (a : Int)) (.int .u64 (b : Int)) ∧ Below w.heap.size w w' := fun w' h => ⟨(show Box2 W0.drew _ _ _ _ from bS).below h bS.lt, hB0.trans (Below.mono ⟨h.os, h.tape, h.output, h.size, h.block⟩ hB0.size)⟩
  have hG : Below W0.drew.heap.size W0.drew W0.drew := Below.refl _ _
  have HKP := Lib.hid hkp
  have HST := Lib.hid (And.intro bS.c0 bS.c1)
  clear hkp bS hB0
  go_region_held3 (fun w' => w'.cell? ⟨w.heap.size, 0, none⟩ = some (.int .u64 (a : Int)) ∧ w'.cell? ⟨w.heap.size, 1, none⟩ = some (.int .u64 (b : Int)))
    (first | exact HST.out | exact ⟨(HKP.out _ hG).1.c0, (HKP.out _ hG).1.c1⟩)
    (first
    | (go_at_call 44; with_reducible refine (HA.out _).mono ?_; rintro r w' ⟨rfl, hb⟩; replace hG := hG.trans (hb.mono hG.size); clear hb)
    | (go_at_call 44; with_reducible refine (HBB.out _).mono ?_; rintro r w' ⟨rfl, hb⟩; replace hG := hG.trans (hb.mono hG.size); clear hb))
  rename_i hHeld
  clear hHeld
  have HF := Lib.hid (HKP.out _ hG).2
  go_wp2
  refine bodyPost_ret (results_tmp rfl _ _ _) rfl ?_
  exact ⟨rfl, HF.out⟩
end Go.Proofs.YtodcdefmoliegaaGreatDoor

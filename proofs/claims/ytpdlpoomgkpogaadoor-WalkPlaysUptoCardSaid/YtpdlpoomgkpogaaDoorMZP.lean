/-
  Texts put together: ZP.
-/
import Derived.Test.YtpdlpoomgkpogaaDoorMZH
import Derived.Test.YtpdlpoomgkpogaaDoorMZ8
import Derived.Test.YtpdlpoomgkpogaaDoorMV2
import Derived.Test.YtpdlpoomgkpogaaDoorMX1
/-
  The walk of WalkPlays.
-/
namespace Go.Proofs.YtpdlpoomgkpogaaDoor
open Go.RowKit
set_option linter.unusedVariables false
set_option linter.unusedSimpArgs false

theorem zgbox_cells {w w' : World} {N F C U : Int} (hb : Below (w.heap.size + 1) (w.alloc (gbox N F C U)) w') : w'.cell? ⟨w.heap.size, 0, none⟩ = some (.int .i64 N) ∧ w'.cell? ⟨w.heap.size, 1, none⟩ = some (.int .i64 F) ∧ w'.cell? ⟨w.heap.size, 2, none⟩ = some (.int .i64 C) ∧ w'.cell? ⟨w.heap.size, 3, none⟩ = some (.int .i64 U) := by
  have e := (hb.block w.heap.size (Nat.lt_succ_self _)).trans (heap_alloc_new w _)
  unfold gbox at e
  refine ⟨?_, ?_, ?_, ?_⟩ <;> (rw [cell_of_blk e]; rfl)
theorem fromErr_okZ {N F C U : Int} {Ss : List ByteArray} (h : fromErr N F C U Ss = 0) : okG N F C U ∧ Ss.length = nodes N F C U := by
  unfold fromErr at h
  split at h
  · exact absurd h (by omega)
  · split at h
    · exact absurd h (by omega)
    · rename_i h1 h2
      exact ⟨by simpa using h1, by omega⟩

set_option maxRecDepth 20000 in
set_option maxHeartbeats 4000000 in
theorem wplays_far (N F C U : Int) (a : Option Addr) (l cap : Nat) (root : ByteArray) (a2 : Option Addr) (l2 cap2 : Nat) (w : World) (hK : Kon w) (hx : 20 < N ∨ 60 < l ∨ 60 < l2) :
    Calls Tryd.prog 3 #[geo N F C U, .slice a l cap, .string root, .slice a2 l2 cap2] w fun e w' => e = .returned (.bool true) ∧ Below w.heap.size w w' := by
  have hkn := fun w' (hb : Below w.heap.size w w') => wknown_any w' (hK.below hb)
  have HKN := Lib.hid hkn
  have HB0 := Lib.hid ((Below.refl w.heap.size w).alloc (Nat.le_refl _) (.cells #[.int .i64 N, .int .i64 F, .int .i64 C, .int .i64 U] 23))
  have e0 := heap_alloc_new w (.cells #[.int .i64 N, .int .i64 F, .int .i64 C, .int .i64 U] 23)
  unfold geo
  clear hkn hK
  by_cases h1 : 20 < N
  · have c0 : (w.alloc (.cells #[.int .i64 N, .int .i64 F, .int .i64 C, .int .i64 U] 23)).cell? ⟨w.heap.size, 0, none⟩ = some (.int .i64 N) := by rw [cell_of_blk e0]; rfl
    clear hx e0
    go_enter Tryd.func3, Tryd.ntmps3
    go_wp2_with fail
    refine (HKN.out _ HB0.out).mono ?_
    rintro e w1 ⟨rfl, hb⟩
    have HB := Lib.hid (HB0.out.trans (hb.mono HB0.out.size))
    clear hb
    go_wp2
    go_ret
    exact ⟨rfl, HB.out⟩
  · by_cases h2 : 60 < l
    · have h2' : (60 : Int) < (l : Int) := by omega
      clear hx e0
      go_enter Tryd.func3, Tryd.ntmps3
      go_wp2_with fail
      refine (HKN.out _ HB0.out).mono ?_
      rintro e w1 ⟨rfl, hb⟩
      have HB := Lib.hid (HB0.out.trans (hb.mono HB0.out.size))
      clear hb
      go_wp2
      go_ret
      exact ⟨rfl, HB.out⟩
    · have h2' : ¬ (60 : Int) < (l : Int) := by omega
      have h3' : (60 : Int) < (l2 : Int) := by omega
      clear hx e0
      go_enter Tryd.func3, Tryd.ntmps3
      go_wp2_with fail
      refine (HKN.out _ HB0.out).mono ?_
      rintro e w1 ⟨rfl, hb⟩
      have HB := Lib.hid (HB0.out.trans (hb.mono HB0.out.size))
      clear hb
      go_wp2
      go_ret
      exact ⟨rfl, HB.out⟩

theorem zpend_ok {f : FuncId} {args : Array Value} {er : Int} {N F C U : Int} {L : List ByteArray} {w : World} (h : Calls Tryd.prog f args w fun e w' => PEnd er N F C U L w e w') (he : er = 0) : Calls Tryd.prog f args w fun e w' => ∃ p v, e = .returned (.tuple #[.pointer (some ⟨p, 0, none⟩), .int .i64 0]) ∧ PT w' w.heap.size p v N F C U L ∧ Below w.heap.size w w' :=
  h.mono fun e w' h => by
    rcases h with ⟨_, h⟩ | ⟨h, _⟩
    · exact h
    · exact absurd he h
theorem zpend_no {f : FuncId} {args : Array Value} {er : Int} {N F C U : Int} {L : List ByteArray} {w : World} (h : Calls Tryd.prog f args w fun e w' => PEnd er N F C U L w e w') (he : er ≠ 0) : Calls Tryd.prog f args w fun e w' => e = .returned (.tuple #[.pointer none, .int .i64 er]) ∧ Below w.heap.size w w' :=
  h.mono fun e w' h => by
    rcases h with ⟨h, _⟩ | ⟨_, h⟩
    · exact absurd h he
    · exact h
theorem ztend_ok {f : FuncId} {args : Array Value} {er : Int} {N F C U : Int} {L : List ByteArray} {w : World} (h : Calls Tryd.prog f args w fun e w' => TEnd er N F C U L w e w') (he : er = 0) : Calls Tryd.prog f args w fun e w' => ∃ p v, e = .returned (.tuple #[.pointer (some ⟨p, 0, none⟩), .int .i64 0]) ∧ RT w' w.heap.size p v N F C U L ∧ Below w.heap.size w w' :=
  h.mono fun e w' h => by
    rcases h with ⟨_, h⟩ | ⟨h, _⟩
    · exact h
    · exact absurd he h
theorem ztend_no {f : FuncId} {args : Array Value} {er : Int} {N F C U : Int} {L : List ByteArray} {w : World} (h : Calls Tryd.prog f args w fun e w' => TEnd er N F C U L w e w') (he : er ≠ 0) : Calls Tryd.prog f args w fun e w' => e = .returned (.tuple #[.pointer none, .int .i64 er]) ∧ Below w.heap.size w w' :=
  h.mono fun e w' h => by
    rcases h with ⟨h, _⟩ | ⟨_, h⟩
    · exact absurd h he
    · exact h

set_option maxRecDepth 20000 in
set_option maxHeartbeats 8000000 in
theorem wplays_none (N F C U : Int) (a : Option Addr) (l cap : Nat) (Own : List ByteArray) (root : ByteArray) (a2 : Option Addr) (l2 cap2 M : Nat) (X : Nat → WAct) (w : World) (hP : Rs w a l cap Own) (hA : WActs w a2 l2 cap2 M X) (hM : M ≤ 2000000) (hK : Kon w) (hN : ¬ 20 < N) (hl : l ≤ 60) (hl2 : l2 ≤ 60) (er : Int) (hde : er = fromErr N F C U Own) (he : er ≠ 0) :
    Calls Tryd.prog 3 #[geo N F C U, .slice a l cap, .string root, .slice a2 l2 cap2] w fun e w' => e = .returned (.bool true) ∧ Below w.heap.size w w' := by
  have hkn := fun w' (hb : Below w.heap.size w w') => wknown_any w' (hK.below hb)
  have hf1 := fun w' (hb : Below w.heap.size w w') => tfrom_any N F C U a l cap Own w' (hP.later hb)
  have hf2 := fun w' (hb : Below w.heap.size w w') => rfrom_any N F C U a l cap Own w' (hP.later hb)
  simp only [← hde] at hf1 hf2
  have hgc : ∀ wr, Below (w.heap.size + 1) (w.alloc (gbox N F C U)) wr → wr.cell? ⟨w.heap.size, 0, none⟩ = some (.int .i64 N) ∧ wr.cell? ⟨w.heap.size, 1, none⟩ = some (.int .i64 F) ∧ wr.cell? ⟨w.heap.size, 2, none⟩ = some (.int .i64 C) ∧ wr.cell? ⟨w.heap.size, 3, none⟩ = some (.int .i64 U) := fun wr h => zgbox_cells h
  have hcx2 : (cap2 : Int) ≤ 9223372036854775807 := by have := hA.cm; unfold maxLen at this; omega
  have hle2 := hA.le
  have h2' : ¬ (60 : Int) < (l : Int) := by omega
  have h3' : ¬ (60 : Int) < (l2 : Int) := by omega
  have hb0 : Below w.heap.size w (w.alloc (gbox N F C U)) := (Below.refl w.heap.size w).alloc (Nat.le_refl _) _
  have hs0 : (w.alloc (gbox N F C U)).heap.size = w.heap.size + 1 := World.size_alloc _ _
  unfold gbox at hgc hb0 hs0
  unfold geo at hf1 hf2 ⊢
  obtain ⟨W, hW⟩ : ∃ W, W = w.alloc (.cells #[.int .i64 N, .int .i64 F, .int .i64 C, .int .i64 U] 23) := ⟨_, rfl⟩
  rw [← hW] at hgc hb0 hs0
  have HKN := Lib.hid hkn
  have HGC := Lib.hid hgc
  have HB0 := Lib.hid hb0
  have HS0 := Lib.hid hs0
  have HW := Lib.hid hW
  have HP := Lib.hid hP
  have HA := Lib.hid hA
  clear hkn hgc hb0 hs0 hW hP hA
  replace hf1 := fun w' hb => zpend_no (hf1 w' hb) he
  replace hf2 := fun w' hb => ztend_no (hf2 w' hb) he
  have HF1 := Lib.hid hf1
  have HF2 := Lib.hid hf2
  clear hf1 hf2
  obtain ⟨c0, c1, c2, c3⟩ := HGC.out _ (by rw [← HS0.out]; exact Below.refl _ _)
  rw [HW.out] at c0 c1 c2 c3
  go_enter Tryd.func3, Tryd.ntmps3
  go_upto_region 3 with fail
  rw [← HW.out] at *
  go_wp2_with fail
  refine (HF1.out _ HB0.out).mono ?_
  rintro e w1 ⟨rfl, hb⟩
  have HX1 := Lib.hid (show Below (w.heap.size + 1) W w1 from hb.mono (by have := HS0.out; omega))
  have HB1 := Lib.hid (HB0.out.trans (hb.mono HB0.out.size))
  clear hb c0 c1 c2 c3 HF1
  obtain ⟨c0, c1, c2, c3⟩ := HGC.out _ HX1.out
  go_wp2_with fail
  refine (HF2.out _ HB1.out).mono ?_
  rintro e w2 ⟨rfl, hb⟩
  have HB2 := Lib.hid (HB1.out.trans (hb.mono HB1.out.size))
  clear hb c0 c1 c2 c3 HF2 HX1 HB1
  go_wp2_with fail
  refine (wnew_nil root _).mono ?_
  rintro e w3 ⟨rfl, hb⟩
  have HB3 := Lib.hid (HB2.out.trans (hb.mono HB2.out.size))
  clear hb HB2
  go_wp2_with fail
  refine (rwnew_nil root _).mono ?_
  rintro e w4 ⟨rfl, hb⟩
  have HB4 := Lib.hid (HB3.out.trans (hb.mono HB3.out.size))
  clear hb HB3
  go_wp2
  go_loopw [17] (fun i wr => i = .int .i64 0 ∧ wr = w4) (fun _ _ => 0)
  case atStart => exact ⟨rfl, rfl⟩
  case round =>
    obtain ⟨rfl, hwr⟩ := hrel
    subst hwr
    by_cases h0 : 0 < l2
    · have i1 : (0 : Int) < (l2 : Int) := by omega
      go_wp2_with fail
      refine (HKN.out _ HB4.out).mono ?_
      rintro e w5 ⟨rfl, hb⟩
      have HB5 := Lib.hid (HB4.out.trans (hb.mono HB4.out.size))
      clear hb
      go_wp2
      go_ret
      exact ⟨rfl, HB5.out⟩
    · have i1 : ¬ (0 : Int) < (l2 : Int) := by omega
      go_wp2_with fail
      refine (HKN.out _ HB4.out).mono ?_
      rintro e w5 ⟨rfl, hb⟩
      have HB5 := Lib.hid (HB4.out.trans (hb.mono HB4.out.size))
      clear hb
      go_wp2
      go_ret
      exact ⟨rfl, HB5.out⟩

set_option maxRecDepth 20000 in
set_option maxHeartbeats 8000000 in
theorem wplays_root (N F C U : Int) (a : Option Addr) (l cap : Nat) (Own : List ByteArray) (root : ByteArray) (a2 : Option Addr) (l2 cap2 M : Nat) (X : Nat → WAct) (w : World) (hP : Rs w a l cap Own) (hA : WActs w a2 l2 cap2 M X) (hM : M ≤ 2000000) (hK : Kon w) (hN : ¬ 20 < N) (hl : l ≤ 60) (hl2 : l2 ≤ 60) (he : fromErr N F C U Own = 0) (hroot : root.size ≠ 32) :
    Calls Tryd.prog 3 #[geo N F C U, .slice a l cap, .string root, .slice a2 l2 cap2] w fun e w' => e = .returned (.bool true) ∧ Below w.heap.size w w' := by
  have hkn := fun w' (hb : Below w.heap.size w w') => wknown_any w' (hK.below hb)
  have hf1 := fun w' (hb : Below w.heap.size w w') => tfrom_any N F C U a l cap Own w' (hP.later hb)
  have hf2 := fun w' (hb : Below w.heap.size w w') => rfrom_any N F C U a l cap Own w' (hP.later hb)
  have hgc : ∀ wr, Below (w.heap.size + 1) (w.alloc (gbox N F C U)) wr → wr.cell? ⟨w.heap.size, 0, none⟩ = some (.int .i64 N) ∧ wr.cell? ⟨w.heap.size, 1, none⟩ = some (.int .i64 F) ∧ wr.cell? ⟨w.heap.size, 2, none⟩ = some (.int .i64 C) ∧ wr.cell? ⟨w.heap.size, 3, none⟩ = some (.int .i64 U) := fun wr h => zgbox_cells h
  have hcx2 : (cap2 : Int) ≤ 9223372036854775807 := by have := hA.cm; unfold maxLen at this; omega
  have hle2 := hA.le
  have h2' : ¬ (60 : Int) < (l : Int) := by omega
  have h3' : ¬ (60 : Int) < (l2 : Int) := by omega
  have hb0 : Below w.heap.size w (w.alloc (gbox N F C U)) := (Below.refl w.heap.size w).alloc (Nat.le_refl _) _
  have hs0 : (w.alloc (gbox N F C U)).heap.size = w.heap.size + 1 := World.size_alloc _ _
  unfold gbox at hgc hb0 hs0
  unfold geo at hf1 hf2 ⊢
  obtain ⟨W, hW⟩ : ∃ W, W = w.alloc (.cells #[.int .i64 N, .int .i64 F, .int .i64 C, .int .i64 U] 23) := ⟨_, rfl⟩
  rw [← hW] at hgc hb0 hs0
  have HKN := Lib.hid hkn
  have HGC := Lib.hid hgc
  have HB0 := Lib.hid hb0
  have HS0 := Lib.hid hs0
  have HW := Lib.hid hW
  have HP := Lib.hid hP
  have HA := Lib.hid hA
  clear hkn hgc hb0 hs0 hW hP hA
  obtain ⟨hok, hL⟩ := fromErr_okZ he
  replace hf1 := fun w' hb => zpend_ok (hf1 w' hb) he
  replace hf2 := fun w' hb => ztend_ok (hf2 w' hb) he
  have HF1 := Lib.hid hf1
  have HF2 := Lib.hid hf2
  clear hf1 hf2
  obtain ⟨c0, c1, c2, c3⟩ := HGC.out _ (by rw [← HS0.out]; exact Below.refl _ _)
  rw [HW.out] at c0 c1 c2 c3
  go_enter Tryd.func3, Tryd.ntmps3
  go_upto_region 3 with fail
  rw [← HW.out] at *
  go_wp2_with fail
  refine (HF1.out _ HB0.out).mono ?_
  rintro e w1 ⟨p, v, rfl, hT, hb⟩
  have HX1 := Lib.hid (show Below (w.heap.size + 1) W w1 from hb.mono (by have := HS0.out; omega))
  have HB1 := Lib.hid (HB0.out.trans (hb.mono HB0.out.size))
  have HT := Lib.hid hT
  clear hb c0 c1 c2 c3 HF1 hT
  obtain ⟨c0, c1, c2, c3⟩ := HGC.out _ HX1.out
  go_wp2_with fail
  refine (HF2.out _ HB1.out).mono ?_
  rintro e w2 ⟨q, u, rfl, hR, hb⟩
  have HB2 := Lib.hid (HB1.out.trans (hb.mono HB1.out.size))
  have hn1 := wnew_any _ p v N F C U Own root w2 (HT.out.below hb) hok hL
  have HN1 := Lib.hid hn1
  have HR := Lib.hid hR
  have HLOW := Lib.hid (show w.heap.size ≤ w1.heap.size from HB1.out.size)
  have HS12 := Lib.hid (show w1.heap.size ≤ w2.heap.size from hb.size)
  clear hb c0 c1 c2 c3 HF2 HX1 HB1 hn1 hR HT
  go_wp2_with fail
  refine HN1.out.mono ?_
  unfold WEnd
  rintro e w3 (⟨h32, _⟩ | ⟨h32, rfl, hb⟩)
  · exact absurd h32 hroot
  have HB3 := Lib.hid (HB2.out.trans (hb.mono HB2.out.size))
  have hn2 := rwnew_any _ q u N F C U Own root w3 (HR.out.below hb) hok hL
  have HN2 := Lib.hid hn2
  clear hb hn2 HN1 HB2 HR
  go_wp2_with fail
  refine HN2.out.mono ?_
  unfold WEnd
  rintro e w4 (⟨h32, _⟩ | ⟨h32, rfl, hb⟩)
  · exact absurd h32 hroot
  have HB4 := Lib.hid (HB3.out.trans (hb.mono HB3.out.size))
  clear hb HB3 HN2
  go_wp2
  go_loopw [17] (fun i wr => i = .int .i64 0 ∧ wr = w4) (fun _ _ => 0)
  case atStart => exact ⟨rfl, rfl⟩
  case round =>
    obtain ⟨rfl, hwr⟩ := hrel
    subst hwr
    by_cases h0 : 0 < l2
    · have i1 : (0 : Int) < (l2 : Int) := by omega
      go_wp2_with fail
      refine (HKN.out _ HB4.out).mono ?_
      rintro e w5 ⟨rfl, hb⟩
      have HB5 := Lib.hid (HB4.out.trans (hb.mono HB4.out.size))
      clear hb
      go_wp2
      go_ret
      exact ⟨rfl, HB5.out⟩
    · have i1 : ¬ (0 : Int) < (l2 : Int) := by omega
      go_wp2_with fail
      refine (HKN.out _ HB4.out).mono ?_
      rintro e w5 ⟨rfl, hb⟩
      have HB5 := Lib.hid (HB4.out.trans (hb.mono HB4.out.size))
      clear hb
      go_wp2
      go_ret
      exact ⟨rfl, HB5.out⟩

set_option maxRecDepth 20000 in
set_option maxHeartbeats 8000000 in
theorem wplays_some (N F C U : Int) (a : Option Addr) (l cap : Nat) (Own : List ByteArray) (root : ByteArray) (a2 : Option Addr) (l2 cap2 M : Nat) (X : Nat → WAct) (w : World) (hP : Rs w a l cap Own) (hA : WActs w a2 l2 cap2 M X) (hM : M ≤ 2000000) (hK : Kon w) (hN : ¬ 20 < N) (hl : l ≤ 60) (hl2 : l2 ≤ 60) (he : fromErr N F C U Own = 0) (hroot : root.size = 32) :
    Calls Tryd.prog 3 #[geo N F C U, .slice a l cap, .string root, .slice a2 l2 cap2] w fun e w' => e = .returned (.bool true) ∧ Below w.heap.size w w' := by
  have hkn := fun w' (hb : Below w.heap.size w w') => wknown_any w' (hK.below hb)
  have hf1 := fun w' (hb : Below w.heap.size w w') => tfrom_any N F C U a l cap Own w' (hP.later hb)
  have hf2 := fun w' (hb : Below w.heap.size w w') => rfrom_any N F C U a l cap Own w' (hP.later hb)
  have hgc : ∀ wr, Below (w.heap.size + 1) (w.alloc (gbox N F C U)) wr → wr.cell? ⟨w.heap.size, 0, none⟩ = some (.int .i64 N) ∧ wr.cell? ⟨w.heap.size, 1, none⟩ = some (.int .i64 F) ∧ wr.cell? ⟨w.heap.size, 2, none⟩ = some (.int .i64 C) ∧ wr.cell? ⟨w.heap.size, 3, none⟩ = some (.int .i64 U) := fun wr h => zgbox_cells h
  have hcx2 : (cap2 : Int) ≤ 9223372036854775807 := by have := hA.cm; unfold maxLen at this; omega
  have hle2 := hA.le
  have h2' : ¬ (60 : Int) < (l : Int) := by omega
  have h3' : ¬ (60 : Int) < (l2 : Int) := by omega
  have hb0 : Below w.heap.size w (w.alloc (gbox N F C U)) := (Below.refl w.heap.size w).alloc (Nat.le_refl _) _
  have hs0 : (w.alloc (gbox N F C U)).heap.size = w.heap.size + 1 := World.size_alloc _ _
  unfold gbox at hgc hb0 hs0
  unfold geo at hf1 hf2 ⊢
  obtain ⟨W, hW⟩ : ∃ W, W = w.alloc (.cells #[.int .i64 N, .int .i64 F, .int .i64 C, .int .i64 U] 23) := ⟨_, rfl⟩
  rw [← hW] at hgc hb0 hs0
  have HKN := Lib.hid hkn
  have HGC := Lib.hid hgc
  have HB0 := Lib.hid hb0
  have HS0 := Lib.hid hs0
  have HW := Lib.hid hW
  have HP := Lib.hid hP
  have HA := Lib.hid hA
  clear hkn hgc hb0 hs0 hW hP hA
  obtain ⟨hok, hL⟩ := fromErr_okZ he
  replace hf1 := fun w' hb => zpend_ok (hf1 w' hb) he
  replace hf2 := fun w' hb => ztend_ok (hf2 w' hb) he
  have HF1 := Lib.hid hf1
  have HF2 := Lib.hid hf2
  clear hf1 hf2
  obtain ⟨c0, c1, c2, c3⟩ := HGC.out _ (by rw [← HS0.out]; exact Below.refl _ _)
  rw [HW.out] at c0 c1 c2 c3
  go_enter Tryd.func3, Tryd.ntmps3
  go_upto_region 3 with fail
  rw [← HW.out] at *
  go_wp2_with fail
  refine (HF1.out _ HB0.out).mono ?_
  rintro e w1 ⟨p, v, rfl, hT, hb⟩
  have HX1 := Lib.hid (show Below (w.heap.size + 1) W w1 from hb.mono (by have := HS0.out; omega))
  have HB1 := Lib.hid (HB0.out.trans (hb.mono HB0.out.size))
  have HT := Lib.hid hT
  clear hb c0 c1 c2 c3 HF1 hT
  obtain ⟨c0, c1, c2, c3⟩ := HGC.out _ HX1.out
  go_wp2_with fail
  refine (HF2.out _ HB1.out).mono ?_
  rintro e w2 ⟨q, u, rfl, hR, hb⟩
  have HB2 := Lib.hid (HB1.out.trans (hb.mono HB1.out.size))
  have hn1 := wnew_any _ p v N F C U Own root w2 (HT.out.below hb) hok hL
  have HN1 := Lib.hid hn1
  have HR := Lib.hid hR
  have HLOW := Lib.hid (show w.heap.size ≤ w1.heap.size from HB1.out.size)
  have HS12 := Lib.hid (show w1.heap.size ≤ w2.heap.size from hb.size)
  clear hb c0 c1 c2 c3 HF2 HX1 HB1 hn1 hR HT
  go_wp2_with fail
  refine HN1.out.mono ?_
  unfold WEnd
  rintro e w3 (⟨h32, pw, va, vw, p2, v2, rfl, hPW, hlow, hb⟩ | ⟨h32, _⟩)
  · have HB3 := Lib.hid (HB2.out.trans (hb.mono HB2.out.size))
    have hn2 := rwnew_at _ q u N F C U Own root w3 (HR.out.below hb) hok hL hroot
    have HN2 := Lib.hid hn2
    have HPW := Lib.hid hPW
    have HRF := Lib.hid (show ∀ k, tfoot q u k → w1.heap.size ≤ k ∧ k < w2.heap.size from fun k hk => HR.out.foot_low k hk)
    have HRU := Lib.hid (HR.out.below hb)
    have HBB := Lib.hid hb
    have HLO := Lib.hid hlow
    clear hb hn2 hPW HN1 HB2 HR hlow
    go_wp2_with fail
    refine HN2.out.mono ?_
    rintro e w4 ⟨qw, ua, uw, rfl, hRW, hb⟩
    · have hww : WW w.heap.size pw p2 v2 qw q u N F C U Own (findS N Own ws0 ((nodes N F C U - 1 : Nat) : Int) root) (findS N Own ws0 ((nodes N F C U - 1 : Nat) : Int) root) va vw ua uw w4 := by
        have hs3 := HB3.out.size
        have hs2 := HBB.out.size
        have hs1 := HLOW.out
        have hs12 : w1.heap.size ≤ w2.heap.size := HS12.out
        refine ⟨(HPW.out.below hb).lowB (by omega), hRW.lowB (by omega), fun k hk hx => ?_, fun k hk hx => ?_, by have := hb.size; omega⟩
        · have h1 := HPW.out.foot k hk
          rcases hx with hx | hx
          · have := (hRW.foot k hx).1; omega
          · have := HRF.out k hx; omega
        · have h1 := (hRW.foot k hk).1
          rcases hx with hx | hx
          · have := (HPW.out.foot k hx).2; omega
          · have := (HPW.out.tree.foot_low k hx).2; omega
      have hsm := WSm.start N Own ((nodes N F C U - 1 : Nat) : Int) root
      have HWW := Lib.hid hww
      have HSM := Lib.hid hsm
      have HB4 := Lib.hid (HB3.out.trans (hb.mono HB3.out.size))
      clear hb hRW hww hsm HN2 HB3 HPW HRF HRU HBB HLO
      generalize findS N Own ws0 ((nodes N F C U - 1 : Nat) : Int) root = s0 at *
      go_wp2
      go_loopw [17] (fun i wr => ∃ (k : Nat) (s : WS) (va vw ua uw : Value), k ≤ l2 ∧ i = .int .i64 k ∧ WSm s k ∧ WW w.heap.size pw p2 v2 qw q u N F C U Own s s va vw ua uw wr ∧ Below w.heap.size w wr) (fun i _ => l2 - (intOf i).toNat)
      case atStart => exact ⟨0, s0, va, vw, ua, uw, by omega, rfl, HSM.out, HWW.out, HB4.out⟩
      case round =>
        clear HB4 HWW HSM
        obtain ⟨k, s, va, vw, ua, uw, hk, rfl, hsm, hww, hB⟩ := hrel
        by_cases hlt : k < l2
        · have hAw := HA.out.later hB
          obtain ⟨b, off, rfl, hbl, hcl⟩ := hAw.at0 (by omega)
          obtain ⟨d0, d1, d2, d3⟩ := hcl k hlt
          have hrows := hAw.rows k hlt
          have hlow := HA.out.low k hlt
          have hsmall := hAw.small k hlt
          have hKw := hK.below hB
          have i1 : (0 : Int) ≤ (k : Int) := by omega
          have i2 : (k : Int) < (l2 : Int) := by omega
          obtain ⟨dd, kk, sx, la, ln, lc, lL, hX⟩ : ∃ dd kk sx la ln lc lL, X k = ⟨dd, kk, sx, la, ln, lc, lL⟩ := ⟨_, _, _, _, _, _, _, rfl⟩
          have hX0 := hX
          rw [hX] at d0 d1 d2 d3 hrows hlow hsmall
          dsimp only at d0 d1 d2 d3 hrows hlow hsmall
          clear hcl hAw hX
          have hal : Below wr.heap.size wr (wr.alloc (.cells #[.bool dd, .int .i64 kk, .string sx, .slice la ln lc] 41)) := (Below.refl _ wr).alloc (Nat.le_refl _) _
          have hnew := heap_alloc_new wr (.cells #[.bool dd, .int .i64 kk, .string sx, .slice la ln lc] 41)
          have hsz := World.size_alloc wr (.cells #[.bool dd, .int .i64 kk, .string sx, .slice la ln lc] 41)
          have hww0 := hww.below hal
          have hB0 := hB.trans (hal.mono hB.size)
          obtain ⟨W0, hW0⟩ : ∃ W0, W0 = wr.alloc (.cells #[.bool dd, .int .i64 kk, .string sx, .slice la ln lc] 41) := ⟨_, rfl⟩
          rw [← hW0] at hal hnew hsz hww0 hB0
          obtain ⟨ba, hba⟩ : ∃ ba, ba = wr.heap.size := ⟨_, rfl⟩
          have hlnle := hrows.le
          have hlcx : (lc : Int) ≤ 9223372036854775807 := by have := hrows.cm; unfold maxLen at this; omega
          by_cases hlong : 10 < ln
          · have g1 : (10 : Int) < (ln : Int) := by omega
            have HB0' := Lib.hid hB0
            have HW0 := Lib.hid hW0
            clear hww hww0 hsm hrows hlow hsmall hnew hsz hal hba hX0 hKw
            have e3 : W0.cell? ⟨wr.heap.size, 3, none⟩ = some (.slice la ln lc) := by rw [HW0.out, cell_of_blk (heap_alloc_new wr _)]; rfl
            go_upto_region 13 with fail
            rw [← HW0.out]
            clear hW0
            go_wp2_with fail
            refine (HKN.out _ HB0'.out).mono ?_
            rintro e w5 ⟨rfl, hb⟩
            have HB5 := Lib.hid (HB0'.out.trans (hb.mono HB0'.out.size))
            clear hb
            go_wp2
            go_ret
            exact ⟨rfl, HB5.out⟩
          · have g1 : ¬ (10 : Int) < (ln : Int) := by omega
            by_cases hlong2 : 200 < sx.size
            · have g2 : (200 : Int) < (sx.size : Int) := by omega
              have HB0' := Lib.hid hB0
              have HW0 := Lib.hid hW0
              have e3 : W0.cell? ⟨wr.heap.size, 3, none⟩ = some (.slice la ln lc) := by rw [hW0, cell_of_blk (heap_alloc_new wr _)]; rfl
              have e2 : W0.cell? ⟨wr.heap.size, 2, none⟩ = some (.string sx) := by rw [hW0, cell_of_blk (heap_alloc_new wr _)]; rfl
              clear hww hww0 hsm hrows hlow hsmall hnew hsz hal hba hX0 hKw
              go_upto_region 13 with fail
              rw [← HW0.out]
              clear hW0
              go_wp2_with fail
              refine (HKN.out _ HB0'.out).mono ?_
              rintro e w5 ⟨rfl, hb⟩
              have HB5 := Lib.hid (HB0'.out.trans (hb.mono HB0'.out.size))
              clear hb
              go_wp2
              go_ret
              exact ⟨rfl, HB5.out⟩
            · have g2 : ¬ (200 : Int) < (sx.size : Int) := by omega
              have HWX := Lib.hid (show WX w pw p2 v2 qw q u N F C U Own ba #[.bool dd, .int .i64 kk, .string sx, .slice la ln lc] s s W0 from ⟨va, vw, ua, uw, hww0, by rw [hba]; exact hnew, fun hx => by have := (hww.pk.foot _ hx).2; omega, fun hx => by have := (hww.rk.foot _ hx).2; omega, hB0⟩)
              have e0 : W0.cell? ⟨wr.heap.size, 0, none⟩ = some (.bool dd) := by rw [hW0, cell_of_blk (heap_alloc_new wr _)]; rfl
              have e2 : W0.cell? ⟨wr.heap.size, 2, none⟩ = some (.string sx) := by rw [hW0, cell_of_blk (heap_alloc_new wr _)]; rfl
              have e3 : W0.cell? ⟨wr.heap.size, 3, none⟩ = some (.slice la ln lc) := by rw [hW0, cell_of_blk (heap_alloc_new wr _)]; rfl
              have hrow0 := HA.out.rows k hlt
              have hlow0 := HA.out.low k hlt
              rw [hX0] at hrow0 hlow0
              dsimp only at hrow0 hlow0
              have HRW0 := Lib.hid (And.intro hrow0 (And.intro hlow0 (And.intro hsmall hrows.len)))
              have HSMK := Lib.hid hsm
              have HW0 := Lib.hid hW0
              have HBA := Lib.hid hba
              clear hww hww0 hsm hrows hlow hsmall hnew hsz hal hB0 hrow0 hlow0 hX0 hKw
              cases dd with
              | true =>
                have hc1 := fun w1 t (hx : WX w pw p2 v2 qw q u N F C U Own ba #[.bool true, .int .i64 kk, .string sx, .slice la ln lc] s t w1) => hx.progs (s' := dataS s kk sx) (f := 9) (args := #[.pointer (some ⟨pw, 0, none⟩), .int .i64 kk, .string sx]) (R := .returned (.int .i64 (dataErr s kk sx))) fun va vw hp hf hb => data_any w.heap.size pw va vw p2 v2 N F C U Own s kk sx w1 hp (hK.below hb) (by have := HSMK.out.2.2.2; omega) (by have := HSMK.out.1; omega)
                have hc2 := fun w1 t (hx : WX w pw p2 v2 qw q u N F C U Own ba #[.bool true, .int .i64 kk, .string sx, .slice la ln lc] t s w1) => hx.docs (s' := dataS s kk sx) (f := 10) (args := #[.pointer (some ⟨qw, 0, none⟩), .int .i64 kk, .string sx]) (R := .returned (.int .i64 (dataErr s kk sx))) fun va vw hp hf hb => rdata_any w.heap.size qw va vw q u N F C U Own s kk sx w1 hp (hK.below hb) (by have := HSMK.out.2.2.2; omega) (by have := HSMK.out.1; omega)
                have hsn := HSMK.out.data kk sx
                obtain ⟨er, her⟩ : ∃ er, er = dataErr s kk sx := ⟨_, rfl⟩
                obtain ⟨s1, hs1⟩ : ∃ s1, s1 = dataS s kk sx := ⟨_, rfl⟩
                simp only [← her, ← hs1] at hc1 hc2
                rw [← hs1] at hsn
                have HC1 := Lib.hid hc1
                have HC2 := Lib.hid hc2
                have HSN := Lib.hid hsn
                have qe : (er != er) = false := by simp
                have qe2 : (er == er) = true := by simp
                clear hc1 hc2 hsn her hs1 HSMK
                go_upto_region 15 with fail
                rw [← HW0.out, ← HBA.out]
                clear hW0 hba e0 e2 e3
                have hWX := HWX.out.below (Below.refl _ _).drew
                refine wp_region_held_drew (S := fun w' => w'.cell? ⟨ba, 0, none⟩ = some (.bool true) ∧ w'.cell? ⟨ba, 1, none⟩ = some (.int .i64 kk) ∧ w'.cell? ⟨ba, 2, none⟩ = some (.string sx) ∧ w'.cell? ⟨ba, 3, none⟩ = some (.slice la ln lc)) (by kernel_rfl) (hWX.cells) (fun hHeld => ?_)
                refine wpAnyH_take (i := 0) (oi := { dst := some 99, op := Op.fieldAddr 41 (Operand.tmp 18) 0, type := 0, pos := "law.go:56", after := #[], guard := none }) (v := ?_) rfl (by kernel_rfl) (by kernel_rfl) (by kernel_rfl) (fun _ _ _ h => h) (Or.inl ⟨by rfl, ?_⟩) (by assumption) ?_
                rotate_left
                · (intro w hSw; (try dsimp only at hSw); go_simp <;> with_reducible rfl)
                try simp only [Act.put, List.setIfInBounds_toArray, List.set_cons_zero, List.set_cons_succ]
                refine wpAnyH_take (i := 1) (oi := { dst := some 100, op := Op.load 4 (Operand.tmp 99), type := 4, pos := "law.go:56", after := #[{ on := 0, ground := Ground.data }], guard := none }) (v := ?_) rfl (by kernel_rfl) (by kernel_rfl) (by kernel_rfl) (fun _ _ _ h => h) (Or.inl ⟨by rfl, ?_⟩) (by assumption) ?_
                rotate_left
                · (intro w hSw; (try dsimp only at hSw); go_simp <;> with_reducible rfl)
                try simp only [Act.put, List.setIfInBounds_toArray, List.set_cons_zero, List.set_cons_succ]
                refine wpAnyH_take (i := 2) (oi := { dst := some 101, op := Op.move (Operand.tmp 100), type := 4, pos := "law.go:56", after := #[{ on := 1, ground := Ground.data }], guard := none }) (v := ?_) rfl (by kernel_rfl) (by kernel_rfl) (by kernel_rfl) (fun _ _ _ h => h) (Or.inl ⟨by rfl, ?_⟩) (by assumption) ?_
                rotate_left
                · (intro w hSw; (try dsimp only at hSw); go_simp <;> with_reducible rfl)
                try simp only [Act.put, List.setIfInBounds_toArray, List.set_cons_zero, List.set_cons_succ]
                refine wpAnyH_take (i := 3) (oi := { dst := some 102, op := Op.move (Operand.tmp 13), type := 34, pos := "law.go:56", after := #[{ on := 2, ground := Ground.guard }], guard := some (2, true) }) (v := ?_) rfl (by kernel_rfl) (by kernel_rfl) (by kernel_rfl) (fun _ _ _ h => h) (Or.inl ⟨by rfl, ?_⟩) (by assumption) ?_
                rotate_left
                · (intro w hSw; (try dsimp only at hSw); go_simp <;> with_reducible rfl)
                try simp only [Act.put, List.setIfInBounds_toArray, List.set_cons_zero, List.set_cons_succ]
                refine wpAnyH_take (i := 4) (oi := { dst := some 103, op := Op.fieldAddr 41 (Operand.tmp 18) 1, type := 0, pos := "law.go:56", after := #[{ on := 2, ground := Ground.guard }], guard := some (2, true) }) (v := ?_) rfl (by kernel_rfl) (by kernel_rfl) (by kernel_rfl) (fun _ _ _ h => h) (Or.inl ⟨by rfl, ?_⟩) (by assumption) ?_
                rotate_left
                · (intro w hSw; (try dsimp only at hSw); go_simp <;> with_reducible rfl)
                try simp only [Act.put, List.setIfInBounds_toArray, List.set_cons_zero, List.set_cons_succ]
                refine wpAnyH_take (i := 5) (oi := { dst := some 104, op := Op.load 3 (Operand.tmp 103), type := 3, pos := "law.go:56", after := #[{ on := 4, ground := Ground.data }, { on := 2, ground := Ground.guard }], guard := some (2, true) }) (v := ?_) rfl (by kernel_rfl) (by kernel_rfl) (by kernel_rfl) (fun _ _ _ h => h) (Or.inl ⟨by rfl, ?_⟩) (by assumption) ?_
                rotate_left
                · (intro w hSw; (try dsimp only at hSw); go_simp <;> with_reducible rfl)
                try simp only [Act.put, List.setIfInBounds_toArray, List.set_cons_zero, List.set_cons_succ]
                refine wpAnyH_take (i := 6) (oi := { dst := some 105, op := Op.fieldAddr 41 (Operand.tmp 18) 2, type := 0, pos := "law.go:56", after := #[{ on := 2, ground := Ground.guard }], guard := some (2, true) }) (v := ?_) rfl (by kernel_rfl) (by kernel_rfl) (by kernel_rfl) (fun _ _ _ h => h) (Or.inl ⟨by rfl, ?_⟩) (by assumption) ?_
                rotate_left
                · (intro w hSw; (try dsimp only at hSw); go_simp <;> with_reducible rfl)
                try simp only [Act.put, List.setIfInBounds_toArray, List.set_cons_zero, List.set_cons_succ]
                refine wpAnyH_take (i := 7) (oi := { dst := some 106, op := Op.load 9 (Operand.tmp 105), type := 9, pos := "law.go:56", after := #[{ on := 6, ground := Ground.data }, { on := 2, ground := Ground.guard }], guard := some (2, true) }) (v := ?_) rfl (by kernel_rfl) (by kernel_rfl) (by kernel_rfl) (fun _ _ _ h => h) (Or.inl ⟨by rfl, ?_⟩) (by assumption) ?_
                rotate_left
                · (intro w hSw; (try dsimp only at hSw); go_simp <;> with_reducible rfl)
                try simp only [Act.put, List.setIfInBounds_toArray, List.set_cons_zero, List.set_cons_succ]
                refine wpAnyH_take (i := 9) (oi := { dst := some 108, op := Op.move (Operand.tmp 15), type := 37, pos := "law.go:56", after := #[{ on := 2, ground := Ground.guard }], guard := some (2, true) }) (v := ?_) rfl (by kernel_rfl) (by kernel_rfl) (by kernel_rfl) (fun _ _ _ h => h) (Or.inl ⟨by rfl, ?_⟩) (by assumption) ?_
                rotate_left
                · (intro w hSw; (try dsimp only at hSw); go_simp <;> with_reducible rfl)
                try simp only [Act.put, List.setIfInBounds_toArray, List.set_cons_zero, List.set_cons_succ]
                refine wpAnyH_take (i := 10) (oi := { dst := some 109, op := Op.fieldAddr 41 (Operand.tmp 18) 1, type := 0, pos := "law.go:56", after := #[{ on := 2, ground := Ground.guard }], guard := some (2, true) }) (v := ?_) rfl (by kernel_rfl) (by kernel_rfl) (by kernel_rfl) (fun _ _ _ h => h) (Or.inl ⟨by rfl, ?_⟩) (by assumption) ?_
                rotate_left
                · (intro w hSw; (try dsimp only at hSw); go_simp <;> with_reducible rfl)
                try simp only [Act.put, List.setIfInBounds_toArray, List.set_cons_zero, List.set_cons_succ]
                refine wpAnyH_take (i := 11) (oi := { dst := some 110, op := Op.load 3 (Operand.tmp 109), type := 3, pos := "law.go:56", after := #[{ on := 10, ground := Ground.data }, { on := 2, ground := Ground.guard }], guard := some (2, true) }) (v := ?_) rfl (by kernel_rfl) (by kernel_rfl) (by kernel_rfl) (fun _ _ _ h => h) (Or.inl ⟨by rfl, ?_⟩) (by assumption) ?_
                rotate_left
                · (intro w hSw; (try dsimp only at hSw); go_simp <;> with_reducible rfl)
                try simp only [Act.put, List.setIfInBounds_toArray, List.set_cons_zero, List.set_cons_succ]
                refine wpAnyH_take (i := 12) (oi := { dst := some 111, op := Op.fieldAddr 41 (Operand.tmp 18) 2, type := 0, pos := "law.go:56", after := #[{ on := 2, ground := Ground.guard }], guard := some (2, true) }) (v := ?_) rfl (by kernel_rfl) (by kernel_rfl) (by kernel_rfl) (fun _ _ _ h => h) (Or.inl ⟨by rfl, ?_⟩) (by assumption) ?_
                rotate_left
                · (intro w hSw; (try dsimp only at hSw); go_simp <;> with_reducible rfl)
                try simp only [Act.put, List.setIfInBounds_toArray, List.set_cons_zero, List.set_cons_succ]
                refine wpAnyH_take (i := 13) (oi := { dst := some 112, op := Op.load 9 (Operand.tmp 111), type := 9, pos := "law.go:56", after := #[{ on := 12, ground := Ground.data }, { on := 2, ground := Ground.guard }], guard := some (2, true) }) (v := ?_) rfl (by kernel_rfl) (by kernel_rfl) (by kernel_rfl) (fun _ _ _ h => h) (Or.inl ⟨by rfl, ?_⟩) (by assumption) ?_
                rotate_left
                · (intro w hSw; (try dsimp only at hSw); go_simp <;> with_reducible rfl)
                try simp only [Act.put, List.setIfInBounds_toArray, List.set_cons_zero, List.set_cons_succ]
                refine wpAnyH_ready (rs := [8]) (by kernel_rfl) (by simp) ?_
                refine AllReadyH.cons (o := { dst := some 107, op := Op.call { callee := Callee.value (Operand.func 9), args := #[Operand.tmp 102, Operand.tmp 104, Operand.tmp 106], argTypes := #[34, 3, 9] }, type := 28, pos := "law.go:56", after := #[{ on := 3, ground := Ground.data }, { on := 5, ground := Ground.data }, { on := 7, ground := Ground.data }, { on := 2, ground := Ground.chain }, { on := 2, ground := Ground.guard }], guard := some (2, true) }) rfl (fun KZ hKZ => ?_) AllReadyH.nil
                go_simp
                go_at_call 9
                refine (HC1.out _ _ hWX).mono ?_
                rintro r wk ⟨rfl, hWX2⟩
                replace hKZ := Lib.hid hKZ
                refine hKZ.out _ _ hWX2.cells (fun hHeld => ?_)
                clear hKZ KZ
                have hWX := hWX2
                clear hWX2
                try simp only [Act.put, List.setIfInBounds_toArray, List.set_cons_zero, List.set_cons_succ]
                refine wpAnyH_ready (rs := [14]) (by kernel_rfl) (by simp) ?_
                refine AllReadyH.cons (o := { dst := some 113, op := Op.call { callee := Callee.value (Operand.func 10), args := #[Operand.tmp 108, Operand.tmp 110, Operand.tmp 112], argTypes := #[37, 3, 9] }, type := 28, pos := "law.go:56", after := #[{ on := 9, ground := Ground.data }, { on := 11, ground := Ground.data }, { on := 13, ground := Ground.data }, { on := 8, ground := Ground.chain }, { on := 2, ground := Ground.guard }], guard := some (2, true) }) rfl (fun KZ hKZ => ?_) AllReadyH.nil
                go_simp
                go_at_call 10
                refine (HC2.out _ _ hWX).mono ?_
                rintro r wk ⟨rfl, hWX2⟩
                replace hKZ := Lib.hid hKZ
                refine hKZ.out _ _ hWX2.cells (fun hHeld => ?_)
                clear hKZ KZ
                have hWX := hWX2
                clear hWX2
                try simp only [Act.put, List.setIfInBounds_toArray, List.set_cons_zero, List.set_cons_succ]
                refine wpAnyH_take (i := 15) (oi := { dst := some 114, op := Op.binOp BinOp.neq 28 (Operand.tmp 107) (Operand.tmp 113) 28, type := 4, pos := "law.go:56", after := #[{ on := 8, ground := Ground.data }, { on := 14, ground := Ground.data }, { on := 2, ground := Ground.guard }], guard := some (2, true) }) (v := ?_) rfl (by kernel_rfl) (by kernel_rfl) (by kernel_rfl) (fun _ _ _ h => h) (Or.inl ⟨by rfl, ?_⟩) (by assumption) ?_
                rotate_left
                · (intro w hSw; (try dsimp only at hSw); go_simp <;> with_reducible rfl)
                try simp only [Act.put, List.setIfInBounds_toArray, List.set_cons_zero, List.set_cons_succ]
                refine wpAnyH_take (i := 16) (oi := { dst := some 115, op := Op.pick (Operand.tmp 101) (Operand.tmp 114) (Operand.const (Value.bool false)), type := 4, pos := "law.go:56", after := #[{ on := 2, ground := Ground.data }, { on := 15, ground := Ground.data }], guard := none }) (v := ?_) rfl (by kernel_rfl) (by kernel_rfl) (by kernel_rfl) (fun _ _ _ h => h) (Or.inl ⟨by rfl, ?_⟩) (by assumption) ?_
                rotate_left
                · (intro w hSw; (try dsimp only at hSw); go_simp <;> with_reducible rfl)
                try simp only [Act.put, List.setIfInBounds_toArray, List.set_cons_zero, List.set_cons_succ]
                refine wpAnyH_take (i := 17) (oi := { dst := some 116, op := Op.move (Operand.tmp 115), type := 4, pos := "law.go:56", after := #[{ on := 16, ground := Ground.data }, { on := 14, ground := Ground.chain }], guard := none }) (v := ?_) rfl (by kernel_rfl) (by kernel_rfl) (by kernel_rfl) (fun _ _ _ h => h) (Or.inl ⟨by rfl, ?_⟩) (by assumption) ?_
                rotate_left
                · (intro w hSw; (try dsimp only at hSw); go_simp <;> with_reducible rfl)
                try simp only [Act.put, List.setIfInBounds_toArray, List.set_cons_zero, List.set_cons_succ]
                refine wpAnyH_take (i := 18) (oi := { dst := some 117, op := Op.fieldAddr 41 (Operand.tmp 18) 0, type := 0, pos := "law.go:56", after := #[{ on := 17, ground := Ground.guard }], guard := some (17, false) }) (v := ?_) rfl (by kernel_rfl) (by kernel_rfl) (by kernel_rfl) (fun _ _ _ h => h) (Or.inl ⟨by rfl, ?_⟩) (by assumption) ?_
                rotate_left
                · (intro w hSw; (try dsimp only at hSw); go_simp <;> with_reducible rfl)
                try simp only [Act.put, List.setIfInBounds_toArray, List.set_cons_zero, List.set_cons_succ]
                refine wpAnyH_take (i := 19) (oi := { dst := some 118, op := Op.load 4 (Operand.tmp 117), type := 4, pos := "law.go:56", after := #[{ on := 18, ground := Ground.data }, { on := 17, ground := Ground.guard }], guard := some (17, false) }) (v := ?_) rfl (by kernel_rfl) (by kernel_rfl) (by kernel_rfl) (fun _ _ _ h => h) (Or.inl ⟨by rfl, ?_⟩) (by assumption) ?_
                rotate_left
                · (intro w hSw; (try dsimp only at hSw); go_simp <;> with_reducible rfl)
                try simp only [Act.put, List.setIfInBounds_toArray, List.set_cons_zero, List.set_cons_succ]
                refine wpAnyH_take (i := 20) (oi := { dst := some 119, op := Op.unOp UnOp.not 4 (Operand.tmp 118), type := 4, pos := "law.go:56", after := #[{ on := 19, ground := Ground.data }, { on := 17, ground := Ground.guard }], guard := some (17, false) }) (v := ?_) rfl (by kernel_rfl) (by kernel_rfl) (by kernel_rfl) (fun _ _ _ h => h) (Or.inl ⟨by rfl, ?_⟩) (by assumption) ?_
                rotate_left
                · (intro w hSw; (try dsimp only at hSw); go_simp <;> with_reducible rfl)
                try simp only [Act.put, List.setIfInBounds_toArray, List.set_cons_zero, List.set_cons_succ]
                refine wpAnyH_take (i := 21) (oi := { dst := some 120, op := Op.move (Operand.tmp 119), type := 4, pos := "law.go:56", after := #[{ on := 20, ground := Ground.data }, { on := 17, ground := Ground.chain }, { on := 17, ground := Ground.guard }], guard := some (17, false) }) (v := ?_) rfl (by kernel_rfl) (by kernel_rfl) (by kernel_rfl) (fun _ _ _ h => h) (Or.inl ⟨by rfl, ?_⟩) (by assumption) ?_
                rotate_left
                · (intro w hSw; (try dsimp only at hSw); go_simp <;> with_reducible rfl)
                try simp only [Act.put, List.setIfInBounds_toArray, List.set_cons_zero, List.set_cons_succ]
                refine wpAnyH_take (i := 22) (oi := { dst := some 121, op := Op.move (Operand.tmp 13), type := 34, pos := "law.go:56", after := #[{ on := 21, ground := Ground.guard }], guard := some (21, true) }) (v := undef) rfl (by kernel_rfl) (by kernel_rfl) (by kernel_rfl) (fun _ _ _ h => h) (Or.inr ⟨by rfl, rfl⟩) (by assumption) ?_
                try simp only [Act.put, List.setIfInBounds_toArray, List.set_cons_zero, List.set_cons_succ]
                refine wpAnyH_take (i := 23) (oi := { dst := some 122, op := Op.fieldAddr 41 (Operand.tmp 18) 1, type := 0, pos := "law.go:56", after := #[{ on := 21, ground := Ground.guard }], guard := some (21, true) }) (v := undef) rfl (by kernel_rfl) (by kernel_rfl) (by kernel_rfl) (fun _ _ _ h => h) (Or.inr ⟨by rfl, rfl⟩) (by assumption) ?_
                try simp only [Act.put, List.setIfInBounds_toArray, List.set_cons_zero, List.set_cons_succ]
                refine wpAnyH_take (i := 24) (oi := { dst := some 123, op := Op.load 3 (Operand.tmp 122), type := 3, pos := "law.go:56", after := #[{ on := 23, ground := Ground.data }, { on := 21, ground := Ground.guard }], guard := some (21, true) }) (v := undef) rfl (by kernel_rfl) (by kernel_rfl) (by kernel_rfl) (fun _ _ _ h => h) (Or.inr ⟨by rfl, rfl⟩) (by assumption) ?_
                try simp only [Act.put, List.setIfInBounds_toArray, List.set_cons_zero, List.set_cons_succ]
                refine wpAnyH_take (i := 25) (oi := { dst := some 124, op := Op.fieldAddr 41 (Operand.tmp 18) 3, type := 0, pos := "law.go:56", after := #[{ on := 21, ground := Ground.guard }], guard := some (21, true) }) (v := undef) rfl (by kernel_rfl) (by kernel_rfl) (by kernel_rfl) (fun _ _ _ h => h) (Or.inr ⟨by rfl, rfl⟩) (by assumption) ?_
                try simp only [Act.put, List.setIfInBounds_toArray, List.set_cons_zero, List.set_cons_succ]
                refine wpAnyH_take (i := 26) (oi := { dst := some 125, op := Op.load 24 (Operand.tmp 124), type := 24, pos := "law.go:56", after := #[{ on := 25, ground := Ground.data }, { on := 21, ground := Ground.guard }], guard := some (21, true) }) (v := undef) rfl (by kernel_rfl) (by kernel_rfl) (by kernel_rfl) (fun _ _ _ h => h) (Or.inr ⟨by rfl, rfl⟩) (by assumption) ?_
                try simp only [Act.put, List.setIfInBounds_toArray, List.set_cons_zero, List.set_cons_succ]
                refine wpAnyH_take (i := 27) (oi := { dst := some 126, op := Op.call { callee := Callee.value (Operand.func 11), args := #[Operand.tmp 121, Operand.tmp 123, Operand.tmp 125], argTypes := #[34, 3, 24] }, type := 28, pos := "law.go:56", after := #[{ on := 22, ground := Ground.data }, { on := 24, ground := Ground.data }, { on := 26, ground := Ground.data }, { on := 21, ground := Ground.chain }, { on := 21, ground := Ground.guard }], guard := some (21, true) }) (v := undef) rfl (by kernel_rfl) (by kernel_rfl) (by kernel_rfl) (fun _ _ _ h => h) (Or.inr ⟨by rfl, rfl⟩) (by assumption) ?_
                try simp only [Act.put, List.setIfInBounds_toArray, List.set_cons_zero, List.set_cons_succ]
                refine wpAnyH_take (i := 28) (oi := { dst := some 127, op := Op.move (Operand.tmp 15), type := 37, pos := "law.go:56", after := #[{ on := 21, ground := Ground.guard }], guard := some (21, true) }) (v := undef) rfl (by kernel_rfl) (by kernel_rfl) (by kernel_rfl) (fun _ _ _ h => h) (Or.inr ⟨by rfl, rfl⟩) (by assumption) ?_
                try simp only [Act.put, List.setIfInBounds_toArray, List.set_cons_zero, List.set_cons_succ]
                refine wpAnyH_take (i := 29) (oi := { dst := some 128, op := Op.fieldAddr 41 (Operand.tmp 18) 1, type := 0, pos := "law.go:56", after := #[{ on := 21, ground := Ground.guard }], guard := some (21, true) }) (v := undef) rfl (by kernel_rfl) (by kernel_rfl) (by kernel_rfl) (fun _ _ _ h => h) (Or.inr ⟨by rfl, rfl⟩) (by assumption) ?_
                try simp only [Act.put, List.setIfInBounds_toArray, List.set_cons_zero, List.set_cons_succ]
                refine wpAnyH_take (i := 30) (oi := { dst := some 129, op := Op.load 3 (Operand.tmp 128), type := 3, pos := "law.go:56", after := #[{ on := 29, ground := Ground.data }, { on := 21, ground := Ground.guard }], guard := some (21, true) }) (v := undef) rfl (by kernel_rfl) (by kernel_rfl) (by kernel_rfl) (fun _ _ _ h => h) (Or.inr ⟨by rfl, rfl⟩) (by assumption) ?_
                try simp only [Act.put, List.setIfInBounds_toArray, List.set_cons_zero, List.set_cons_succ]
                refine wpAnyH_take (i := 31) (oi := { dst := some 130, op := Op.fieldAddr 41 (Operand.tmp 18) 3, type := 0, pos := "law.go:56", after := #[{ on := 21, ground := Ground.guard }], guard := some (21, true) }) (v := undef) rfl (by kernel_rfl) (by kernel_rfl) (by kernel_rfl) (fun _ _ _ h => h) (Or.inr ⟨by rfl, rfl⟩) (by assumption) ?_
                try simp only [Act.put, List.setIfInBounds_toArray, List.set_cons_zero, List.set_cons_succ]
                refine wpAnyH_take (i := 32) (oi := { dst := some 131, op := Op.load 24 (Operand.tmp 130), type := 24, pos := "law.go:56", after := #[{ on := 31, ground := Ground.data }, { on := 21, ground := Ground.guard }], guard := some (21, true) }) (v := undef) rfl (by kernel_rfl) (by kernel_rfl) (by kernel_rfl) (fun _ _ _ h => h) (Or.inr ⟨by rfl, rfl⟩) (by assumption) ?_
                try simp only [Act.put, List.setIfInBounds_toArray, List.set_cons_zero, List.set_cons_succ]
                refine wpAnyH_take (i := 33) (oi := { dst := some 132, op := Op.call { callee := Callee.value (Operand.func 12), args := #[Operand.tmp 127, Operand.tmp 129, Operand.tmp 131], argTypes := #[37, 3, 24] }, type := 28, pos := "law.go:56", after := #[{ on := 28, ground := Ground.data }, { on := 30, ground := Ground.data }, { on := 32, ground := Ground.data }, { on := 27, ground := Ground.chain }, { on := 21, ground := Ground.guard }], guard := some (21, true) }) (v := undef) rfl (by kernel_rfl) (by kernel_rfl) (by kernel_rfl) (fun _ _ _ h => h) (Or.inr ⟨by rfl, rfl⟩) (by assumption) ?_
                try simp only [Act.put, List.setIfInBounds_toArray, List.set_cons_zero, List.set_cons_succ]
                refine wpAnyH_take (i := 34) (oi := { dst := some 133, op := Op.binOp BinOp.neq 28 (Operand.tmp 126) (Operand.tmp 132) 28, type := 4, pos := "law.go:56", after := #[{ on := 27, ground := Ground.data }, { on := 33, ground := Ground.data }, { on := 21, ground := Ground.guard }], guard := some (21, true) }) (v := undef) rfl (by kernel_rfl) (by kernel_rfl) (by kernel_rfl) (fun _ _ _ h => h) (Or.inr ⟨by rfl, rfl⟩) (by assumption) ?_
                try simp only [Act.put, List.setIfInBounds_toArray, List.set_cons_zero, List.set_cons_succ]
                refine wpAnyH_take (i := 35) (oi := { dst := some 134, op := Op.pick (Operand.tmp 120) (Operand.tmp 133) (Operand.const (Value.bool false)), type := 4, pos := "law.go:56", after := #[{ on := 21, ground := Ground.data }, { on := 34, ground := Ground.data }, { on := 17, ground := Ground.guard }], guard := some (17, false) }) (v := ?_) rfl (by kernel_rfl) (by kernel_rfl) (by kernel_rfl) (fun _ _ _ h => h) (Or.inl ⟨by rfl, ?_⟩) (by assumption) ?_
                rotate_left
                · (intro w hSw; (try dsimp only at hSw); go_simp <;> with_reducible rfl)
                try simp only [Act.put, List.setIfInBounds_toArray, List.set_cons_zero, List.set_cons_succ]
                refine wpAnyH_take (i := 36) (oi := { dst := some 135, op := Op.pick (Operand.tmp 116) (Operand.const (Value.bool true)) (Operand.tmp 134), type := 4, pos := "law.go:56", after := #[{ on := 17, ground := Ground.data }, { on := 35, ground := Ground.data }], guard := none }) (v := ?_) rfl (by kernel_rfl) (by kernel_rfl) (by kernel_rfl) (fun _ _ _ h => h) (Or.inl ⟨by rfl, ?_⟩) (by assumption) ?_
                rotate_left
                · (intro w hSw; (try dsimp only at hSw); go_simp <;> with_reducible rfl)
                try simp only [Act.put, List.setIfInBounds_toArray, List.set_cons_zero, List.set_cons_succ]
                refine wpAnyH_done (by kernel_rfl) ?_ _
                rename_i hHeldZ
                clear hHeldZ HC1 HC2
                obtain ⟨va3, vw3, ua3, uw3, hW3, -, -, -, hB3⟩ := hWX
                obtain ⟨k0, n0, d0, hF3⟩ : ∃ k n d, firstP s1 = (k, (n, d)) := ⟨_, _, _, rfl⟩
                have hnx := fun w' (h : WW w.heap.size pw p2 v2 qw q u N F C U Own s1 s1 va3 vw3 ua3 uw3 w') => next_of (.pointer (some ⟨pw, 0, none⟩)) k0 n0 d0 w' (by have := wfirst_any _ pw va3 vw3 p2 v2 N F C U Own s1 w' h.pk; rw [hF3] at this; exact this)
                have hdn := fun w' (h : WW w.heap.size pw p2 v2 qw q u N F C U Own s1 s1 va3 vw3 ua3 uw3 w') => done_of (.pointer (some ⟨pw, 0, none⟩)) k0 n0 d0 w' (by have := wfirst_any _ pw va3 vw3 p2 v2 N F C U Own s1 w' h.pk; rw [hF3] at this; exact this)
                have hrn := fun w' (h : WW w.heap.size pw p2 v2 qw q u N F C U Own s1 s1 va3 vw3 ua3 uw3 w') => rnext_any _ qw ua3 uw3 q u N F C U Own s1 w' h.rk
                have hrd := fun w' (h : WW w.heap.size pw p2 v2 qw q u N F C U Own s1 s1 va3 vw3 ua3 uw3 w') => rdone_any _ qw ua3 uw3 q u N F C U Own s1 w' h.rk (by have := HSN.out.1; omega) (by have := HSN.out.1; omega)
                have hct := fun w' (h : WW w.heap.size pw p2 v2 qw q u N F C U Own s1 s1 va3 vw3 ua3 uw3 w') => counts_any _ pw va3 vw3 p2 v2 N F C U Own s1 w' h.pk
                have hcl := fun w' (h : WW w.heap.size pw p2 v2 qw q u N F C U Own s1 s1 va3 vw3 ua3 uw3 w') => (show w'.cell? ⟨qw, 3, none⟩ = some (.int .i64 (s1.asked : Int)) ∧ w'.cell? ⟨qw, 4, none⟩ = some (.int .i64 (s1.told : Int)) ∧ w'.cell? ⟨qw, 5, none⟩ = some (.int .i64 (s1.came : Int)) from ⟨h.rk.cells.2.2.2.1, h.rk.cells.2.2.2.2.1, h.rk.cells.2.2.2.2.2.1⟩)
                simp only [show nextP s1 = (k0, n0) from by unfold nextP; rw [hF3]] at hrn
                simp only [hF3] at hrd
                obtain ⟨b0, hb0⟩ : ∃ b : Bool, b = (k0 == 0) := ⟨_, rfl⟩
                simp only [← hb0] at hdn hrd
                have HNX := Lib.hid hnx
                have HDN := Lib.hid hdn
                have HRN := Lib.hid hrn
                have HRD := Lib.hid hrd
                have HCT := Lib.hid hct
                have HCL := Lib.hid hcl
                have HW3 := Lib.hid hW3
                have HB3' := Lib.hid hB3
                clear hnx hdn hrn hrd hct hcl hW3 hB3 hb0 hF3 qe qe2
                obtain ⟨y3, hy3⟩ : ∃ y : Int, y = (s1.asked : Int) := ⟨_, rfl⟩
                obtain ⟨y4, hy4⟩ : ∃ y : Int, y = (s1.told : Int) := ⟨_, rfl⟩
                obtain ⟨y5, hy5⟩ : ∃ y : Int, y = (s1.came : Int) := ⟨_, rfl⟩
                rw [← hy3, ← hy4, ← hy5] at HCT HCL
                clear hy3 hy4 hy5
                have q0 : (k0 != k0) = false := by simp
                have q1 : (n0 != n0) = false := by simp
                have q2 : (b0 != b0) = false := by simp
                have q3 : (y3 != y3) = false := by simp
                have q4 : (y4 != y4) = false := by simp
                have q5 : (y5 != y5) = false := by simp
                go_wp2_with fail
                refine (HNX.out _ HW3.out).mono ?_
                rintro e w5 ⟨rfl, hb⟩
                have HW5 := Lib.hid (HW3.out.below hb)
                have HB5 := Lib.hid (HB3'.out.trans (hb.mono HB3'.out.size))
                clear hb HW3 HB3' HNX
                go_wp2_with fail
                refine (HRN.out _ HW5.out).mono ?_
                rintro e w6 ⟨rfl, hb⟩
                have HW6 := Lib.hid (HW5.out.below hb)
                have HB6 := Lib.hid (HB5.out.trans (hb.mono HB5.out.size))
                clear hb HW5 HB5 HRN
                go_wp2_with fail
                refine (HCT.out _ HW6.out).mono ?_
                rintro e w7 ⟨rfl, hb⟩
                have HW7 := Lib.hid (HW6.out.below hb)
                have HB7 := Lib.hid (HB6.out.trans (hb.mono HB6.out.size))
                clear hb HW6 HB6 HCT
                go_wp2_with fail
                refine (HDN.out _ HW7.out).mono ?_
                rintro e w8 ⟨rfl, hb⟩
                have HW8 := Lib.hid (HW7.out.below hb)
                have HB8 := Lib.hid (HB7.out.trans (hb.mono HB7.out.size))
                clear hb HW7 HB7 HDN
                go_wp2_with fail
                refine (HRD.out _ HW8.out).mono ?_
                rintro e w9 ⟨rfl, hb⟩
                have HW9 := Lib.hid (HW8.out.below hb)
                have HB9 := Lib.hid (HB8.out.trans (hb.mono HB8.out.size))
                obtain ⟨z3, z4, z5⟩ := HCL.out _ HW9.out
                clear hb HW8 HB8 HRD HCL
                go_wp2
                go_roundw
                case rel => exact ⟨k + 1, s1, va3, vw3, ua3, uw3, by omega, by go_num, HSN.out, HW9.out, HB9.out⟩
                case measure => simp [intOf]; omega
              | false =>
                have hc1 := fun w1 t (hx : WX w pw p2 v2 qw q u N F C U Own ba #[.bool false, .int .i64 kk, .string sx, .slice la ln lc] s t w1) => hx.progs (s' := nodesN N F C U Own s kk lL) (f := 11) (args := #[.pointer (some ⟨pw, 0, none⟩), .int .i64 kk, .slice la ln lc]) (R := .returned (.int .i64 (nodesErr N F C U s kk lL))) fun va vw hp hf hb => nodes_all w.heap.size pw va vw p2 v2 N F C U Own s kk la ln lc lL w1 hp (hK.below hb) (fun i hi => Nat.le_trans (HRW0.out.2.2.1 i hi) hM) hL (HRW0.out.1.later hb) (fun b off e h0 hx => by have h1 := HRW0.out.2.1 b off e h0; have h2 := hf b hx; omega) (by have := HSMK.out.1; omega) (by have h1 := HSMK.out.2.1; have h2 := HSMK.out.2.2.1; exact ⟨by omega, by omega⟩)
                have hc2 := fun w1 t (hx : WX w pw p2 v2 qw q u N F C U Own ba #[.bool false, .int .i64 kk, .string sx, .slice la ln lc] t s w1) => hx.docs (s' := nodesN N F C U Own s kk lL) (f := 12) (args := #[.pointer (some ⟨qw, 0, none⟩), .int .i64 kk, .slice la ln lc]) (R := .returned (.int .i64 (nodesErr N F C U s kk lL))) fun va vw hp hf hb => rnodes_all w.heap.size qw va vw q u N F C U Own s kk la ln lc lL w1 hp (fun i hi => Nat.le_trans (HRW0.out.2.2.1 i hi) hM) hL (HRW0.out.1.later hb) (fun b off e h0 hx => by have h1 := HRW0.out.2.1 b off e h0; have h2 := hf b hx; omega) (by have := HSMK.out.1; omega) (by have h1 := HSMK.out.2.1; have h2 := HSMK.out.2.2.1; exact ⟨by omega, by omega⟩)
                have hsn := HSMK.out.nodes N F C U Own kk lL
                obtain ⟨er, her⟩ : ∃ er, er = nodesErr N F C U s kk lL := ⟨_, rfl⟩
                obtain ⟨s1, hs1⟩ : ∃ s1, s1 = nodesN N F C U Own s kk lL := ⟨_, rfl⟩
                simp only [← her, ← hs1] at hc1 hc2
                rw [← hs1] at hsn
                have HC1 := Lib.hid hc1
                have HC2 := Lib.hid hc2
                have HSN := Lib.hid hsn
                have qe : (er != er) = false := by simp
                have qe2 : (er == er) = true := by simp
                clear hc1 hc2 hsn her hs1 HSMK
                go_upto_region 15 with fail
                rw [← HW0.out, ← HBA.out]
                clear hW0 hba e0 e2 e3
                have hWX := HWX.out.below (Below.refl _ _).drew
                refine wp_region_held_drew (S := fun w' => w'.cell? ⟨ba, 0, none⟩ = some (.bool false) ∧ w'.cell? ⟨ba, 1, none⟩ = some (.int .i64 kk) ∧ w'.cell? ⟨ba, 2, none⟩ = some (.string sx) ∧ w'.cell? ⟨ba, 3, none⟩ = some (.slice la ln lc)) (by kernel_rfl) (hWX.cells) (fun hHeld => ?_)
                refine wpAnyH_take (i := 0) (oi := { dst := some 99, op := Op.fieldAddr 41 (Operand.tmp 18) 0, type := 0, pos := "law.go:56", after := #[], guard := none }) (v := ?_) rfl (by kernel_rfl) (by kernel_rfl) (by kernel_rfl) (fun _ _ _ h => h) (Or.inl ⟨by rfl, ?_⟩) (by assumption) ?_
                rotate_left
                · (intro w hSw; (try dsimp only at hSw); go_simp <;> with_reducible rfl)
                try simp only [Act.put, List.setIfInBounds_toArray, List.set_cons_zero, List.set_cons_succ]
                refine wpAnyH_take (i := 1) (oi := { dst := some 100, op := Op.load 4 (Operand.tmp 99), type := 4, pos := "law.go:56", after := #[{ on := 0, ground := Ground.data }], guard := none }) (v := ?_) rfl (by kernel_rfl) (by kernel_rfl) (by kernel_rfl) (fun _ _ _ h => h) (Or.inl ⟨by rfl, ?_⟩) (by assumption) ?_
                rotate_left
                · (intro w hSw; (try dsimp only at hSw); go_simp <;> with_reducible rfl)
                try simp only [Act.put, List.setIfInBounds_toArray, List.set_cons_zero, List.set_cons_succ]
                refine wpAnyH_take (i := 2) (oi := { dst := some 101, op := Op.move (Operand.tmp 100), type := 4, pos := "law.go:56", after := #[{ on := 1, ground := Ground.data }], guard := none }) (v := ?_) rfl (by kernel_rfl) (by kernel_rfl) (by kernel_rfl) (fun _ _ _ h => h) (Or.inl ⟨by rfl, ?_⟩) (by assumption) ?_
                rotate_left
                · (intro w hSw; (try dsimp only at hSw); go_simp <;> with_reducible rfl)
                try simp only [Act.put, List.setIfInBounds_toArray, List.set_cons_zero, List.set_cons_succ]
                refine wpAnyH_take (i := 3) (oi := { dst := some 102, op := Op.move (Operand.tmp 13), type := 34, pos := "law.go:56", after := #[{ on := 2, ground := Ground.guard }], guard := some (2, true) }) (v := undef) rfl (by kernel_rfl) (by kernel_rfl) (by kernel_rfl) (fun _ _ _ h => h) (Or.inr ⟨by rfl, rfl⟩) (by assumption) ?_
                try simp only [Act.put, List.setIfInBounds_toArray, List.set_cons_zero, List.set_cons_succ]
                refine wpAnyH_take (i := 4) (oi := { dst := some 103, op := Op.fieldAddr 41 (Operand.tmp 18) 1, type := 0, pos := "law.go:56", after := #[{ on := 2, ground := Ground.guard }], guard := some (2, true) }) (v := undef) rfl (by kernel_rfl) (by kernel_rfl) (by kernel_rfl) (fun _ _ _ h => h) (Or.inr ⟨by rfl, rfl⟩) (by assumption) ?_
                try simp only [Act.put, List.setIfInBounds_toArray, List.set_cons_zero, List.set_cons_succ]
                refine wpAnyH_take (i := 5) (oi := { dst := some 104, op := Op.load 3 (Operand.tmp 103), type := 3, pos := "law.go:56", after := #[{ on := 4, ground := Ground.data }, { on := 2, ground := Ground.guard }], guard := some (2, true) }) (v := undef) rfl (by kernel_rfl) (by kernel_rfl) (by kernel_rfl) (fun _ _ _ h => h) (Or.inr ⟨by rfl, rfl⟩) (by assumption) ?_
                try simp only [Act.put, List.setIfInBounds_toArray, List.set_cons_zero, List.set_cons_succ]
                refine wpAnyH_take (i := 6) (oi := { dst := some 105, op := Op.fieldAddr 41 (Operand.tmp 18) 2, type := 0, pos := "law.go:56", after := #[{ on := 2, ground := Ground.guard }], guard := some (2, true) }) (v := undef) rfl (by kernel_rfl) (by kernel_rfl) (by kernel_rfl) (fun _ _ _ h => h) (Or.inr ⟨by rfl, rfl⟩) (by assumption) ?_
                try simp only [Act.put, List.setIfInBounds_toArray, List.set_cons_zero, List.set_cons_succ]
                refine wpAnyH_take (i := 7) (oi := { dst := some 106, op := Op.load 9 (Operand.tmp 105), type := 9, pos := "law.go:56", after := #[{ on := 6, ground := Ground.data }, { on := 2, ground := Ground.guard }], guard := some (2, true) }) (v := undef) rfl (by kernel_rfl) (by kernel_rfl) (by kernel_rfl) (fun _ _ _ h => h) (Or.inr ⟨by rfl, rfl⟩) (by assumption) ?_
                try simp only [Act.put, List.setIfInBounds_toArray, List.set_cons_zero, List.set_cons_succ]
                refine wpAnyH_take (i := 8) (oi := { dst := some 107, op := Op.call { callee := Callee.value (Operand.func 9), args := #[Operand.tmp 102, Operand.tmp 104, Operand.tmp 106], argTypes := #[34, 3, 9] }, type := 28, pos := "law.go:56", after := #[{ on := 3, ground := Ground.data }, { on := 5, ground := Ground.data }, { on := 7, ground := Ground.data }, { on := 2, ground := Ground.chain }, { on := 2, ground := Ground.guard }], guard := some (2, true) }) (v := undef) rfl (by kernel_rfl) (by kernel_rfl) (by kernel_rfl) (fun _ _ _ h => h) (Or.inr ⟨by rfl, rfl⟩) (by assumption) ?_
                try simp only [Act.put, List.setIfInBounds_toArray, List.set_cons_zero, List.set_cons_succ]
                refine wpAnyH_take (i := 9) (oi := { dst := some 108, op := Op.move (Operand.tmp 15), type := 37, pos := "law.go:56", after := #[{ on := 2, ground := Ground.guard }], guard := some (2, true) }) (v := undef) rfl (by kernel_rfl) (by kernel_rfl) (by kernel_rfl) (fun _ _ _ h => h) (Or.inr ⟨by rfl, rfl⟩) (by assumption) ?_
                try simp only [Act.put, List.setIfInBounds_toArray, List.set_cons_zero, List.set_cons_succ]
                refine wpAnyH_take (i := 10) (oi := { dst := some 109, op := Op.fieldAddr 41 (Operand.tmp 18) 1, type := 0, pos := "law.go:56", after := #[{ on := 2, ground := Ground.guard }], guard := some (2, true) }) (v := undef) rfl (by kernel_rfl) (by kernel_rfl) (by kernel_rfl) (fun _ _ _ h => h) (Or.inr ⟨by rfl, rfl⟩) (by assumption) ?_
                try simp only [Act.put, List.setIfInBounds_toArray, List.set_cons_zero, List.set_cons_succ]
                refine wpAnyH_take (i := 11) (oi := { dst := some 110, op := Op.load 3 (Operand.tmp 109), type := 3, pos := "law.go:56", after := #[{ on := 10, ground := Ground.data }, { on := 2, ground := Ground.guard }], guard := some (2, true) }) (v := undef) rfl (by kernel_rfl) (by kernel_rfl) (by kernel_rfl) (fun _ _ _ h => h) (Or.inr ⟨by rfl, rfl⟩) (by assumption) ?_
                try simp only [Act.put, List.setIfInBounds_toArray, List.set_cons_zero, List.set_cons_succ]
                refine wpAnyH_take (i := 12) (oi := { dst := some 111, op := Op.fieldAddr 41 (Operand.tmp 18) 2, type := 0, pos := "law.go:56", after := #[{ on := 2, ground := Ground.guard }], guard := some (2, true) }) (v := undef) rfl (by kernel_rfl) (by kernel_rfl) (by kernel_rfl) (fun _ _ _ h => h) (Or.inr ⟨by rfl, rfl⟩) (by assumption) ?_
                try simp only [Act.put, List.setIfInBounds_toArray, List.set_cons_zero, List.set_cons_succ]
                refine wpAnyH_take (i := 13) (oi := { dst := some 112, op := Op.load 9 (Operand.tmp 111), type := 9, pos := "law.go:56", after := #[{ on := 12, ground := Ground.data }, { on := 2, ground := Ground.guard }], guard := some (2, true) }) (v := undef) rfl (by kernel_rfl) (by kernel_rfl) (by kernel_rfl) (fun _ _ _ h => h) (Or.inr ⟨by rfl, rfl⟩) (by assumption) ?_
                try simp only [Act.put, List.setIfInBounds_toArray, List.set_cons_zero, List.set_cons_succ]
                refine wpAnyH_take (i := 14) (oi := { dst := some 113, op := Op.call { callee := Callee.value (Operand.func 10), args := #[Operand.tmp 108, Operand.tmp 110, Operand.tmp 112], argTypes := #[37, 3, 9] }, type := 28, pos := "law.go:56", after := #[{ on := 9, ground := Ground.data }, { on := 11, ground := Ground.data }, { on := 13, ground := Ground.data }, { on := 8, ground := Ground.chain }, { on := 2, ground := Ground.guard }], guard := some (2, true) }) (v := undef) rfl (by kernel_rfl) (by kernel_rfl) (by kernel_rfl) (fun _ _ _ h => h) (Or.inr ⟨by rfl, rfl⟩) (by assumption) ?_
                try simp only [Act.put, List.setIfInBounds_toArray, List.set_cons_zero, List.set_cons_succ]
                refine wpAnyH_take (i := 15) (oi := { dst := some 114, op := Op.binOp BinOp.neq 28 (Operand.tmp 107) (Operand.tmp 113) 28, type := 4, pos := "law.go:56", after := #[{ on := 8, ground := Ground.data }, { on := 14, ground := Ground.data }, { on := 2, ground := Ground.guard }], guard := some (2, true) }) (v := undef) rfl (by kernel_rfl) (by kernel_rfl) (by kernel_rfl) (fun _ _ _ h => h) (Or.inr ⟨by rfl, rfl⟩) (by assumption) ?_
                try simp only [Act.put, List.setIfInBounds_toArray, List.set_cons_zero, List.set_cons_succ]
                refine wpAnyH_take (i := 16) (oi := { dst := some 115, op := Op.pick (Operand.tmp 101) (Operand.tmp 114) (Operand.const (Value.bool false)), type := 4, pos := "law.go:56", after := #[{ on := 2, ground := Ground.data }, { on := 15, ground := Ground.data }], guard := none }) (v := ?_) rfl (by kernel_rfl) (by kernel_rfl) (by kernel_rfl) (fun _ _ _ h => h) (Or.inl ⟨by rfl, ?_⟩) (by assumption) ?_
                rotate_left
                · (intro w hSw; (try dsimp only at hSw); go_simp <;> with_reducible rfl)
                try simp only [Act.put, List.setIfInBounds_toArray, List.set_cons_zero, List.set_cons_succ]
                refine wpAnyH_take (i := 17) (oi := { dst := some 116, op := Op.move (Operand.tmp 115), type := 4, pos := "law.go:56", after := #[{ on := 16, ground := Ground.data }, { on := 14, ground := Ground.chain }], guard := none }) (v := ?_) rfl (by kernel_rfl) (by kernel_rfl) (by kernel_rfl) (fun _ _ _ h => h) (Or.inl ⟨by rfl, ?_⟩) (by assumption) ?_
                rotate_left
                · (intro w hSw; (try dsimp only at hSw); go_simp <;> with_reducible rfl)
                try simp only [Act.put, List.setIfInBounds_toArray, List.set_cons_zero, List.set_cons_succ]
                refine wpAnyH_take (i := 18) (oi := { dst := some 117, op := Op.fieldAddr 41 (Operand.tmp 18) 0, type := 0, pos := "law.go:56", after := #[{ on := 17, ground := Ground.guard }], guard := some (17, false) }) (v := ?_) rfl (by kernel_rfl) (by kernel_rfl) (by kernel_rfl) (fun _ _ _ h => h) (Or.inl ⟨by rfl, ?_⟩) (by assumption) ?_
                rotate_left
                · (intro w hSw; (try dsimp only at hSw); go_simp <;> with_reducible rfl)
                try simp only [Act.put, List.setIfInBounds_toArray, List.set_cons_zero, List.set_cons_succ]
                refine wpAnyH_take (i := 19) (oi := { dst := some 118, op := Op.load 4 (Operand.tmp 117), type := 4, pos := "law.go:56", after := #[{ on := 18, ground := Ground.data }, { on := 17, ground := Ground.guard }], guard := some (17, false) }) (v := ?_) rfl (by kernel_rfl) (by kernel_rfl) (by kernel_rfl) (fun _ _ _ h => h) (Or.inl ⟨by rfl, ?_⟩) (by assumption) ?_
                rotate_left
                · (intro w hSw; (try dsimp only at hSw); go_simp <;> with_reducible rfl)
                try simp only [Act.put, List.setIfInBounds_toArray, List.set_cons_zero, List.set_cons_succ]
                refine wpAnyH_take (i := 20) (oi := { dst := some 119, op := Op.unOp UnOp.not 4 (Operand.tmp 118), type := 4, pos := "law.go:56", after := #[{ on := 19, ground := Ground.data }, { on := 17, ground := Ground.guard }], guard := some (17, false) }) (v := ?_) rfl (by kernel_rfl) (by kernel_rfl) (by kernel_rfl) (fun _ _ _ h => h) (Or.inl ⟨by rfl, ?_⟩) (by assumption) ?_
                rotate_left
                · (intro w hSw; (try dsimp only at hSw); go_simp <;> with_reducible rfl)
                try simp only [Act.put, List.setIfInBounds_toArray, List.set_cons_zero, List.set_cons_succ]
                refine wpAnyH_take (i := 21) (oi := { dst := some 120, op := Op.move (Operand.tmp 119), type := 4, pos := "law.go:56", after := #[{ on := 20, ground := Ground.data }, { on := 17, ground := Ground.chain }, { on := 17, ground := Ground.guard }], guard := some (17, false) }) (v := ?_) rfl (by kernel_rfl) (by kernel_rfl) (by kernel_rfl) (fun _ _ _ h => h) (Or.inl ⟨by rfl, ?_⟩) (by assumption) ?_
                rotate_left
                · (intro w hSw; (try dsimp only at hSw); go_simp <;> with_reducible rfl)
                try simp only [Act.put, List.setIfInBounds_toArray, List.set_cons_zero, List.set_cons_succ]
                refine wpAnyH_take (i := 22) (oi := { dst := some 121, op := Op.move (Operand.tmp 13), type := 34, pos := "law.go:56", after := #[{ on := 21, ground := Ground.guard }], guard := some (21, true) }) (v := ?_) rfl (by kernel_rfl) (by kernel_rfl) (by kernel_rfl) (fun _ _ _ h => h) (Or.inl ⟨by rfl, ?_⟩) (by assumption) ?_
                rotate_left
                · (intro w hSw; (try dsimp only at hSw); go_simp <;> with_reducible rfl)
                try simp only [Act.put, List.setIfInBounds_toArray, List.set_cons_zero, List.set_cons_succ]
                refine wpAnyH_take (i := 23) (oi := { dst := some 122, op := Op.fieldAddr 41 (Operand.tmp 18) 1, type := 0, pos := "law.go:56", after := #[{ on := 21, ground := Ground.guard }], guard := some (21, true) }) (v := ?_) rfl (by kernel_rfl) (by kernel_rfl) (by kernel_rfl) (fun _ _ _ h => h) (Or.inl ⟨by rfl, ?_⟩) (by assumption) ?_
                rotate_left
                · (intro w hSw; (try dsimp only at hSw); go_simp <;> with_reducible rfl)
                try simp only [Act.put, List.setIfInBounds_toArray, List.set_cons_zero, List.set_cons_succ]
                refine wpAnyH_take (i := 24) (oi := { dst := some 123, op := Op.load 3 (Operand.tmp 122), type := 3, pos := "law.go:56", after := #[{ on := 23, ground := Ground.data }, { on := 21, ground := Ground.guard }], guard := some (21, true) }) (v := ?_) rfl (by kernel_rfl) (by kernel_rfl) (by kernel_rfl) (fun _ _ _ h => h) (Or.inl ⟨by rfl, ?_⟩) (by assumption) ?_
                rotate_left
                · (intro w hSw; (try dsimp only at hSw); go_simp <;> with_reducible rfl)
                try simp only [Act.put, List.setIfInBounds_toArray, List.set_cons_zero, List.set_cons_succ]
                refine wpAnyH_take (i := 25) (oi := { dst := some 124, op := Op.fieldAddr 41 (Operand.tmp 18) 3, type := 0, pos := "law.go:56", after := #[{ on := 21, ground := Ground.guard }], guard := some (21, true) }) (v := ?_) rfl (by kernel_rfl) (by kernel_rfl) (by kernel_rfl) (fun _ _ _ h => h) (Or.inl ⟨by rfl, ?_⟩) (by assumption) ?_
                rotate_left
                · (intro w hSw; (try dsimp only at hSw); go_simp <;> with_reducible rfl)
                try simp only [Act.put, List.setIfInBounds_toArray, List.set_cons_zero, List.set_cons_succ]
                refine wpAnyH_take (i := 26) (oi := { dst := some 125, op := Op.load 24 (Operand.tmp 124), type := 24, pos := "law.go:56", after := #[{ on := 25, ground := Ground.data }, { on := 21, ground := Ground.guard }], guard := some (21, true) }) (v := ?_) rfl (by kernel_rfl) (by kernel_rfl) (by kernel_rfl) (fun _ _ _ h => h) (Or.inl ⟨by rfl, ?_⟩) (by assumption) ?_
                rotate_left
                · (intro w hSw; (try dsimp only at hSw); go_simp <;> with_reducible rfl)
                try simp only [Act.put, List.setIfInBounds_toArray, List.set_cons_zero, List.set_cons_succ]
                refine wpAnyH_take (i := 28) (oi := { dst := some 127, op := Op.move (Operand.tmp 15), type := 37, pos := "law.go:56", after := #[{ on := 21, ground := Ground.guard }], guard := some (21, true) }) (v := ?_) rfl (by kernel_rfl) (by kernel_rfl) (by kernel_rfl) (fun _ _ _ h => h) (Or.inl ⟨by rfl, ?_⟩) (by assumption) ?_
                rotate_left
                · (intro w hSw; (try dsimp only at hSw); go_simp <;> with_reducible rfl)
                try simp only [Act.put, List.setIfInBounds_toArray, List.set_cons_zero, List.set_cons_succ]
                refine wpAnyH_take (i := 29) (oi := { dst := some 128, op := Op.fieldAddr 41 (Operand.tmp 18) 1, type := 0, pos := "law.go:56", after := #[{ on := 21, ground := Ground.guard }], guard := some (21, true) }) (v := ?_) rfl (by kernel_rfl) (by kernel_rfl) (by kernel_rfl) (fun _ _ _ h => h) (Or.inl ⟨by rfl, ?_⟩) (by assumption) ?_
                rotate_left
                · (intro w hSw; (try dsimp only at hSw); go_simp <;> with_reducible rfl)
                try simp only [Act.put, List.setIfInBounds_toArray, List.set_cons_zero, List.set_cons_succ]
                refine wpAnyH_take (i := 30) (oi := { dst := some 129, op := Op.load 3 (Operand.tmp 128), type := 3, pos := "law.go:56", after := #[{ on := 29, ground := Ground.data }, { on := 21, ground := Ground.guard }], guard := some (21, true) }) (v := ?_) rfl (by kernel_rfl) (by kernel_rfl) (by kernel_rfl) (fun _ _ _ h => h) (Or.inl ⟨by rfl, ?_⟩) (by assumption) ?_
                rotate_left
                · (intro w hSw; (try dsimp only at hSw); go_simp <;> with_reducible rfl)
                try simp only [Act.put, List.setIfInBounds_toArray, List.set_cons_zero, List.set_cons_succ]
                refine wpAnyH_take (i := 31) (oi := { dst := some 130, op := Op.fieldAddr 41 (Operand.tmp 18) 3, type := 0, pos := "law.go:56", after := #[{ on := 21, ground := Ground.guard }], guard := some (21, true) }) (v := ?_) rfl (by kernel_rfl) (by kernel_rfl) (by kernel_rfl) (fun _ _ _ h => h) (Or.inl ⟨by rfl, ?_⟩) (by assumption) ?_
                rotate_left
                · (intro w hSw; (try dsimp only at hSw); go_simp <;> with_reducible rfl)
                try simp only [Act.put, List.setIfInBounds_toArray, List.set_cons_zero, List.set_cons_succ]
                refine wpAnyH_take (i := 32) (oi := { dst := some 131, op := Op.load 24 (Operand.tmp 130), type := 24, pos := "law.go:56", after := #[{ on := 31, ground := Ground.data }, { on := 21, ground := Ground.guard }], guard := some (21, true) }) (v := ?_) rfl (by kernel_rfl) (by kernel_rfl) (by kernel_rfl) (fun _ _ _ h => h) (Or.inl ⟨by rfl, ?_⟩) (by assumption) ?_
                rotate_left
                · (intro w hSw; (try dsimp only at hSw); go_simp <;> with_reducible rfl)
                try simp only [Act.put, List.setIfInBounds_toArray, List.set_cons_zero, List.set_cons_succ]
                refine wpAnyH_ready (rs := [27]) (by kernel_rfl) (by simp) ?_
                refine AllReadyH.cons (o := { dst := some 126, op := Op.call { callee := Callee.value (Operand.func 11), args := #[Operand.tmp 121, Operand.tmp 123, Operand.tmp 125], argTypes := #[34, 3, 24] }, type := 28, pos := "law.go:56", after := #[{ on := 22, ground := Ground.data }, { on := 24, ground := Ground.data }, { on := 26, ground := Ground.data }, { on := 21, ground := Ground.chain }, { on := 21, ground := Ground.guard }], guard := some (21, true) }) rfl (fun KZ hKZ => ?_) AllReadyH.nil
                go_simp
                go_at_call 11
                refine (HC1.out _ _ hWX).mono ?_
                rintro r wk ⟨rfl, hWX2⟩
                replace hKZ := Lib.hid hKZ
                refine hKZ.out _ _ hWX2.cells (fun hHeld => ?_)
                clear hKZ KZ
                have hWX := hWX2
                clear hWX2
                try simp only [Act.put, List.setIfInBounds_toArray, List.set_cons_zero, List.set_cons_succ]
                refine wpAnyH_ready (rs := [33]) (by kernel_rfl) (by simp) ?_
                refine AllReadyH.cons (o := { dst := some 132, op := Op.call { callee := Callee.value (Operand.func 12), args := #[Operand.tmp 127, Operand.tmp 129, Operand.tmp 131], argTypes := #[37, 3, 24] }, type := 28, pos := "law.go:56", after := #[{ on := 28, ground := Ground.data }, { on := 30, ground := Ground.data }, { on := 32, ground := Ground.data }, { on := 27, ground := Ground.chain }, { on := 21, ground := Ground.guard }], guard := some (21, true) }) rfl (fun KZ hKZ => ?_) AllReadyH.nil
                go_simp
                go_at_call 12
                refine (HC2.out _ _ hWX).mono ?_
                rintro r wk ⟨rfl, hWX2⟩
                replace hKZ := Lib.hid hKZ
                refine hKZ.out _ _ hWX2.cells (fun hHeld => ?_)
                clear hKZ KZ
                have hWX := hWX2
                clear hWX2
                try simp only [Act.put, List.setIfInBounds_toArray, List.set_cons_zero, List.set_cons_succ]
                refine wpAnyH_take (i := 34) (oi := { dst := some 133, op := Op.binOp BinOp.neq 28 (Operand.tmp 126) (Operand.tmp 132) 28, type := 4, pos := "law.go:56", after := #[{ on := 27, ground := Ground.data }, { on := 33, ground := Ground.data }, { on := 21, ground := Ground.guard }], guard := some (21, true) }) (v := ?_) rfl (by kernel_rfl) (by kernel_rfl) (by kernel_rfl) (fun _ _ _ h => h) (Or.inl ⟨by rfl, ?_⟩) (by assumption) ?_
                rotate_left
                · (intro w hSw; (try dsimp only at hSw); go_simp <;> with_reducible rfl)
                try simp only [Act.put, List.setIfInBounds_toArray, List.set_cons_zero, List.set_cons_succ]
                refine wpAnyH_take (i := 35) (oi := { dst := some 134, op := Op.pick (Operand.tmp 120) (Operand.tmp 133) (Operand.const (Value.bool false)), type := 4, pos := "law.go:56", after := #[{ on := 21, ground := Ground.data }, { on := 34, ground := Ground.data }, { on := 17, ground := Ground.guard }], guard := some (17, false) }) (v := ?_) rfl (by kernel_rfl) (by kernel_rfl) (by kernel_rfl) (fun _ _ _ h => h) (Or.inl ⟨by rfl, ?_⟩) (by assumption) ?_
                rotate_left
                · (intro w hSw; (try dsimp only at hSw); go_simp <;> with_reducible rfl)
                try simp only [Act.put, List.setIfInBounds_toArray, List.set_cons_zero, List.set_cons_succ]
                refine wpAnyH_take (i := 36) (oi := { dst := some 135, op := Op.pick (Operand.tmp 116) (Operand.const (Value.bool true)) (Operand.tmp 134), type := 4, pos := "law.go:56", after := #[{ on := 17, ground := Ground.data }, { on := 35, ground := Ground.data }], guard := none }) (v := ?_) rfl (by kernel_rfl) (by kernel_rfl) (by kernel_rfl) (fun _ _ _ h => h) (Or.inl ⟨by rfl, ?_⟩) (by assumption) ?_
                rotate_left
                · (intro w hSw; (try dsimp only at hSw); go_simp <;> with_reducible rfl)
                try simp only [Act.put, List.setIfInBounds_toArray, List.set_cons_zero, List.set_cons_succ]
                refine wpAnyH_done (by kernel_rfl) ?_ _
                rename_i hHeldZ
                clear hHeldZ HC1 HC2
                obtain ⟨va3, vw3, ua3, uw3, hW3, -, -, -, hB3⟩ := hWX
                obtain ⟨k0, n0, d0, hF3⟩ : ∃ k n d, firstP s1 = (k, (n, d)) := ⟨_, _, _, rfl⟩
                have hnx := fun w' (h : WW w.heap.size pw p2 v2 qw q u N F C U Own s1 s1 va3 vw3 ua3 uw3 w') => next_of (.pointer (some ⟨pw, 0, none⟩)) k0 n0 d0 w' (by have := wfirst_any _ pw va3 vw3 p2 v2 N F C U Own s1 w' h.pk; rw [hF3] at this; exact this)
                have hdn := fun w' (h : WW w.heap.size pw p2 v2 qw q u N F C U Own s1 s1 va3 vw3 ua3 uw3 w') => done_of (.pointer (some ⟨pw, 0, none⟩)) k0 n0 d0 w' (by have := wfirst_any _ pw va3 vw3 p2 v2 N F C U Own s1 w' h.pk; rw [hF3] at this; exact this)
                have hrn := fun w' (h : WW w.heap.size pw p2 v2 qw q u N F C U Own s1 s1 va3 vw3 ua3 uw3 w') => rnext_any _ qw ua3 uw3 q u N F C U Own s1 w' h.rk
                have hrd := fun w' (h : WW w.heap.size pw p2 v2 qw q u N F C U Own s1 s1 va3 vw3 ua3 uw3 w') => rdone_any _ qw ua3 uw3 q u N F C U Own s1 w' h.rk (by have := HSN.out.1; omega) (by have := HSN.out.1; omega)
                have hct := fun w' (h : WW w.heap.size pw p2 v2 qw q u N F C U Own s1 s1 va3 vw3 ua3 uw3 w') => counts_any _ pw va3 vw3 p2 v2 N F C U Own s1 w' h.pk
                have hcl := fun w' (h : WW w.heap.size pw p2 v2 qw q u N F C U Own s1 s1 va3 vw3 ua3 uw3 w') => (show w'.cell? ⟨qw, 3, none⟩ = some (.int .i64 (s1.asked : Int)) ∧ w'.cell? ⟨qw, 4, none⟩ = some (.int .i64 (s1.told : Int)) ∧ w'.cell? ⟨qw, 5, none⟩ = some (.int .i64 (s1.came : Int)) from ⟨h.rk.cells.2.2.2.1, h.rk.cells.2.2.2.2.1, h.rk.cells.2.2.2.2.2.1⟩)
                simp only [show nextP s1 = (k0, n0) from by unfold nextP; rw [hF3]] at hrn
                simp only [hF3] at hrd
                obtain ⟨b0, hb0⟩ : ∃ b : Bool, b = (k0 == 0) := ⟨_, rfl⟩
                simp only [← hb0] at hdn hrd
                have HNX := Lib.hid hnx
                have HDN := Lib.hid hdn
                have HRN := Lib.hid hrn
                have HRD := Lib.hid hrd
                have HCT := Lib.hid hct
                have HCL := Lib.hid hcl
                have HW3 := Lib.hid hW3
                have HB3' := Lib.hid hB3
                clear hnx hdn hrn hrd hct hcl hW3 hB3 hb0 hF3 qe qe2
                obtain ⟨y3, hy3⟩ : ∃ y : Int, y = (s1.asked : Int) := ⟨_, rfl⟩
                obtain ⟨y4, hy4⟩ : ∃ y : Int, y = (s1.told : Int) := ⟨_, rfl⟩
                obtain ⟨y5, hy5⟩ : ∃ y : Int, y = (s1.came : Int) := ⟨_, rfl⟩
                rw [← hy3, ← hy4, ← hy5] at HCT HCL
                clear hy3 hy4 hy5
                have q0 : (k0 != k0) = false := by simp
                have q1 : (n0 != n0) = false := by simp
                have q2 : (b0 != b0) = false := by simp
                have q3 : (y3 != y3) = false := by simp
                have q4 : (y4 != y4) = false := by simp
                have q5 : (y5 != y5) = false := by simp
                go_wp2_with fail
                refine (HNX.out _ HW3.out).mono ?_
                rintro e w5 ⟨rfl, hb⟩
                have HW5 := Lib.hid (HW3.out.below hb)
                have HB5 := Lib.hid (HB3'.out.trans (hb.mono HB3'.out.size))
                clear hb HW3 HB3' HNX
                go_wp2_with fail
                refine (HRN.out _ HW5.out).mono ?_
                rintro e w6 ⟨rfl, hb⟩
                have HW6 := Lib.hid (HW5.out.below hb)
                have HB6 := Lib.hid (HB5.out.trans (hb.mono HB5.out.size))
                clear hb HW5 HB5 HRN
                go_wp2_with fail
                refine (HCT.out _ HW6.out).mono ?_
                rintro e w7 ⟨rfl, hb⟩
                have HW7 := Lib.hid (HW6.out.below hb)
                have HB7 := Lib.hid (HB6.out.trans (hb.mono HB6.out.size))
                clear hb HW6 HB6 HCT
                go_wp2_with fail
                refine (HDN.out _ HW7.out).mono ?_
                rintro e w8 ⟨rfl, hb⟩
                have HW8 := Lib.hid (HW7.out.below hb)
                have HB8 := Lib.hid (HB7.out.trans (hb.mono HB7.out.size))
                clear hb HW7 HB7 HDN
                go_wp2_with fail
                refine (HRD.out _ HW8.out).mono ?_
                rintro e w9 ⟨rfl, hb⟩
                have HW9 := Lib.hid (HW8.out.below hb)
                have HB9 := Lib.hid (HB8.out.trans (hb.mono HB8.out.size))
                obtain ⟨z3, z4, z5⟩ := HCL.out _ HW9.out
                clear hb HW8 HB8 HRD HCL
                go_wp2
                go_roundw
                case rel => exact ⟨k + 1, s1, va3, vw3, ua3, uw3, by omega, by go_num, HSN.out, HW9.out, HB9.out⟩
                case measure => simp [intOf]; omega
        · obtain rfl : k = l2 := by omega
          have i2 : ¬ (k : Int) < (k : Int) := by omega
          have HBB := Lib.hid hB
          clear hww hB hsm
          go_wp2_with fail
          refine (HKN.out _ HBB.out).mono ?_
          rintro e w5 ⟨rfl, hb⟩
          have HB5 := Lib.hid (HBB.out.trans (hb.mono HBB.out.size))
          clear hb
          go_wp2
          go_ret
          exact ⟨rfl, HB5.out⟩
  · exact absurd hroot h32

theorem wplays_any (N F C U : Int) (a : Option Addr) (l cap : Nat) (Own : List ByteArray) (root : ByteArray) (a2 : Option Addr) (l2 cap2 M : Nat) (X : Nat → WAct) (w : World) (hP : Rs w a l cap Own) (hA : WActs w a2 l2 cap2 M X) (hM : M ≤ 2000000) (hK : Kon w) :
    Calls Tryd.prog 3 #[geo N F C U, .slice a l cap, .string root, .slice a2 l2 cap2] w fun e w' => e = .returned (.bool true) ∧ Below w.heap.size w w' := by
  by_cases hx : 20 < N ∨ 60 < l ∨ 60 < l2
  · exact wplays_far N F C U a l cap root a2 l2 cap2 w hK hx
  · by_cases he : fromErr N F C U Own = 0
    · by_cases hr : root.size = 32
      · exact wplays_some N F C U a l cap Own root a2 l2 cap2 M X w hP hA hM hK (by omega) (by omega) (by omega) he hr
      · exact wplays_root N F C U a l cap Own root a2 l2 cap2 M X w hP hA hM hK (by omega) (by omega) (by omega) he hr
    · exact wplays_none N F C U a l cap Own root a2 l2 cap2 M X w hP hA hM hK (by omega) (by omega) (by omega) _ rfl he
end Go.Proofs.YtpdlpoomgkpogaaDoor

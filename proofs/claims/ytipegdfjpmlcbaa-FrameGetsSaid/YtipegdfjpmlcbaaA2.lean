/-
  Contracts: Put of the program and of the reference.
-/
import Derived.Test.YtipegdfjpmlcbaaA1
namespace Go.Proofs.Ytipegdfjpmlcbaa
open Go.RowKit
set_option linter.unusedVariables false

set_option maxRecDepth 20000 in
set_option maxHeartbeats 1000000 in
theorem put_ok (a : Option Addr) (n cap : Nat) (xs : List UInt8) (wd : Nat) (v : Nat) (w : World) (h : Rd w a n cap xs) (h1 : 1 ≤ wd) (h2 : wd ≤ 8) (hv : v < 18446744073709551616) (hn : n + 8 ≤ 140737488355328) :
    Calls Try.prog 17 #[.slice a n cap, .int .i64 wd, .int .u64 v] w fun e w' => ∃ g c, e = .returned (.slice (some ⟨g, 0, none⟩) (n + wd) c) ∧ w.heap.size ≤ g ∧ Rd w' (some ⟨g, 0, none⟩) (n + wd) c (xs ++ enc v wd) ∧ Below w.heap.size w w' := by
  have hlen := Lib.hid h.len
  have hle := h.le
  have hmk := make_run n (by omega)
  obtain ⟨i5, hi, hz0, hz1, hz2⟩ := info_parts Try.info5
  have hsz5 : (Try.prog.info? 5).map (·.size) = some 1 := by rw [hi]; simp [hz1]
  have hb1 : Below w.heap.size w (w.alloc (.cells (madeCells #[.int .u8 0] (n + 8)) 5)) := (Below.refl _ _).alloc (Nat.le_refl _) _
  go_enter Try.func17, Try.ntmps17
  go_wp2_with (with_reducible refine wpList_copy_splice (o := ⟨some 17, _, _, _, _, _⟩) rfl (.tmp 15) (.tmp 16) 29 29 rfl 5 Try.underlying29 hsz5 _ _ _ _ _ _ rfl rfl w.heap.size 0 (madeCells #[.int .u8 0] (n + 8)).toList 5 ?hg (bvs xs) ?hn ?hpos ?hfit (bvs_one xs) w.heap.size w hb1 (Nat.le_refl _) ?_)
  case hg => simpa using heap_alloc_new w _
  case hn => rw [bvs_length, hlen.out]; simp
  case hpos => exact h.src hb1
  case hfit => simp [bvs_length, hlen.out, size_madeCells]
  intro w1 HG hB1
  have hown := owns_splice (Nat.le_refl _) hlen.out (by omega) hn HG.out
  clear HG hb1 hmk hsz5
  go_wp2_with (go_at_call 35; refine (isWidth_yes _ _ (by omega) (by omega)).mono ?_; rintro e w' ⟨rfl, rfl⟩)
  have hx0 : encTo v wd 0 = [] := rfl
  go_loopw [7, 23] (fun o i wr => ∃ k : Nat, k ≤ wd ∧ i = .int .i64 k ∧ o = .slice (some ⟨w.heap.size, 0, none⟩) (n + k) (n + 8) ∧
      wr.ownsRow w.heap.size 5 1 (.slice (some ⟨w.heap.size, 0, none⟩) (n + k) (n + 8)) (n + k) (bvs (xs ++ encTo v wd k)) ∧ Below w.heap.size w wr) (fun _ i _ => wd - (intOf i).toNat)
  case atStart => exact ⟨0, by omega, rfl, rfl, by simpa [hx0] using hown, hB1⟩
  case round =>
    clear hown hx0
    obtain ⟨k, hk, rfl, rfl, hown, hB⟩ := hrel
    by_cases hlt : k < wd
    · go_wp2_with (first
        | (at_builtin; refine wpList_append_fits (o := ⟨some 37, _, _, _, _, _⟩) _ rfl (.tmp 26) (.tmp 36) 29 rfl w.heap.size 5 i5 1 Try.underlying29 hi hz1 w.heap.size (n + k) (n + 8) _ rfl (hown.alloc _) ⟨wr.heap.size, 0, none⟩ 1 1 (bvs [byteAt v (wd - 1 - k)]) rfl rfl ?d2 (bvs_one _) (by omega) ?d3))
      case d2 => rw [shr_byte]; exact one_cell _ _
      intro w2 hown2 hgrow
      have hB2 := (hB.alloc (by have := hB.size; omega) _).grown hgrow (by have := hB.size; simp; omega) (fun j hj => by cases hj; exact Nat.le_refl _)
      rw [← bvs_append, List.append_assoc, ← encTo_snoc v wd k hlt] at hown2
      clear hown hB hgrow
      go_wp2
      go_roundw
      case rel => exact ⟨k + 1, by omega, by go_num, rfl, hown2, hB2⟩
      case measure => simp [intOf]; omega
    · go_wp2
      go_ret
      obtain rfl : k = wd := by omega
      refine ⟨_, _, rfl, Nat.le_refl _, ?_, hB⟩
      have := rd_of_owns hown (by omega)
      rwa [show encTo v k k = enc v k from List.take_of_length_le (by rw [enc_length]; omega)] at this
set_option maxRecDepth 20000 in
set_option maxHeartbeats 1000000 in
theorem put_no (a : Option Addr) (n cap : Nat) (xs : List UInt8) (wd : Int) (v : Value) (w : World) (h : Rd w a n cap xs) (h1 : wd < 1 ∨ 8 < wd) (hn : n + 8 ≤ 140737488355328) :
    Calls Try.prog 17 #[.slice a n cap, .int .i64 wd, v] w fun e w' => ∃ a' c, e = .returned (.slice a' n c) ∧ Rd w' a' n c xs ∧ Below w.heap.size w w' := by
  have hlen := Lib.hid h.len
  have hle := h.le
  have hmk := make_run n (by omega)
  obtain ⟨i5, hi, hz0, hz1, hz2⟩ := info_parts Try.info5
  have hsz5 : (Try.prog.info? 5).map (·.size) = some 1 := by rw [hi]; simp [hz1]
  have hb1 : Below w.heap.size w (w.alloc (.cells (madeCells #[.int .u8 0] (n + 8)) 5)) := (Below.refl _ _).alloc (Nat.le_refl _) _
  go_enter Try.func17, Try.ntmps17
  go_wp2_with (with_reducible refine wpList_copy_splice (o := ⟨some 17, _, _, _, _, _⟩) rfl (.tmp 15) (.tmp 16) 29 29 rfl 5 Try.underlying29 hsz5 _ _ _ _ _ _ rfl rfl w.heap.size 0 (madeCells #[.int .u8 0] (n + 8)).toList 5 ?hg (bvs xs) ?hn ?hpos ?hfit (bvs_one xs) w.heap.size w hb1 (Nat.le_refl _) ?_)
  case hg => simpa using heap_alloc_new w _
  case hn => rw [bvs_length, hlen.out]; simp
  case hpos => exact h.src hb1
  case hfit => simp [bvs_length, hlen.out, size_madeCells]
  intro w1 HG hB1
  have hown := owns_splice (Nat.le_refl _) hlen.out (by omega) hn HG.out
  clear HG hb1 hmk hsz5
  go_wp2_with (go_at_call 35; refine (isWidth_no _ _ h1).mono ?_; rintro e w' ⟨rfl, rfl⟩)
  go_ret
  exact ⟨_, _, rfl, rd_of_owns hown (by omega), hB1⟩

/-! ### the reference's Put -/
set_option maxRecDepth 20000 in
set_option maxHeartbeats 1000000 in
theorem rput_no (a : Option Addr) (n cap : Nat) (xs : List UInt8) (wd : Int) (v : Value) (w : World) (h : Rd w a n cap xs) (h1 : wd < 1 ∨ 8 < wd) :
    Calls Try.prog 40 #[.slice a n cap, .int .i64 wd, v] w fun e w' => ∃ a' c, e = .returned (.slice a' n c) ∧ Rd w' a' n c xs ∧ Below w.heap.size w w' := by
  have hbig := h.big
  obtain ⟨i5, hi, hz0, hz1, hz2⟩ := info_parts Try.info5
  by_cases h2 : wd < 1
  · go_enter Try.func40, Try.ntmps40
    go_wp2_with (at_builtin; refine wpList_append_rd (o := ⟨some 11, _, _, _, _, _⟩) rfl (.tmp 9) (.tmp 10) 29 rfl w.heap.size 5 i5 Try.underlying29 hi hz0 hz1 hz2 (.slice none 0 0) 0 [] rfl (World.ownsRow_nil _ _ _ _) a n cap xs rfl h (by omega) (Nat.le_refl _) ?_)
    intro v' w1 hown hgrow
    have hB := (Below.refl w.heap.size w).grown hgrow (Nat.le_refl _) (fun k e => by cases e)
    obtain ⟨a', c, rfl, hrd, hblk⟩ := owns_shape hown hbig
    clear hown hgrow
    go_wp2
    go_ret
    exact ⟨_, _, rfl, hrd, hB⟩
  · have h3 : 8 < wd := by omega
    go_enter Try.func40, Try.ntmps40
    go_wp2_with (at_builtin; refine wpList_append_rd (o := ⟨some 11, _, _, _, _, _⟩) rfl (.tmp 9) (.tmp 10) 29 rfl w.heap.size 5 i5 Try.underlying29 hi hz0 hz1 hz2 (.slice none 0 0) 0 [] rfl (World.ownsRow_nil _ _ _ _) a n cap xs rfl h (by omega) (Nat.le_refl _) ?_)
    intro v' w1 hown hgrow
    have hB := (Below.refl w.heap.size w).grown hgrow (Nat.le_refl _) (fun k e => by cases e)
    obtain ⟨a', c, rfl, hrd, hblk⟩ := owns_shape hown hbig
    clear hown hgrow
    go_wp2
    go_ret
    exact ⟨_, _, rfl, hrd, hB⟩

set_option maxRecDepth 20000 in
set_option maxHeartbeats 1000000 in
theorem rput_ok (a : Option Addr) (n cap : Nat) (xs : List UInt8) (wd : Nat) (v : Nat) (w : World) (h : Rd w a n cap xs) (h1 : 1 ≤ wd) (h2 : wd ≤ 8) (hv : v < 18446744073709551616) (hn : n + 8 ≤ 140737488355328) :
    Calls Try.prog 40 #[.slice a n cap, .int .i64 wd, .int .u64 v] w fun e w' => ∃ a' c, e = .returned (.slice a' (n + wd) c) ∧ Rd w' a' (n + wd) c (xs ++ enc v wd) ∧ Below w.heap.size w w' := by
  have hbig := h.big
  obtain ⟨i5, hi, hz0, hz1, hz2⟩ := info_parts Try.info5
  go_enter Try.func40, Try.ntmps40
  go_wp2_with (at_builtin; refine wpList_append_rd (o := ⟨some 11, _, _, _, _, _⟩) rfl (.tmp 9) (.tmp 10) 29 rfl w.heap.size 5 i5 Try.underlying29 hi hz0 hz1 hz2 (.slice none 0 0) 0 [] rfl (World.ownsRow_nil _ _ _ _) a n cap xs rfl h (by omega) (Nat.le_refl _) ?_)
  intro v' w1 hown hgrow
  have hB := (Below.refl w.heap.size w).grown hgrow (Nat.le_refl _) (fun k e => by cases e)
  clear hgrow
  go_wp2
  have hx0 : encTo v wd 0 = [] := rfl
  go_loopw [7, 8] (fun o i wr => ∃ k : Nat, k ≤ wd ∧ i = .int .i64 ((wd : Int) - 1 - k) ∧
      wr.ownsRow w.heap.size 5 1 o (n + k) (bvs (xs ++ encTo v wd k)) ∧ Below w.heap.size w wr) (fun _ i _ => (intOf i + 1).toNat)
  case atStart => exact ⟨0, by omega, by go_num, by simpa [hx0] using hown, hB⟩
  case round =>
    clear hown hx0 hB
    obtain ⟨k, hk, rfl, hown, hB⟩ := hrel
    by_cases hlt : k < wd
    · have hge : (0 : Int) ≤ (wd : Int) - 1 - k := by omega
      go_wp2_with (at_builtin; refine wpList_append_rd (o := ⟨some 33, _, _, _, _, _⟩) rfl (.tmp 25) (.tmp 32) 29 rfl w.heap.size 5 i5 Try.underlying29 hi hz0 hz1 hz2 _ (n + k) (xs ++ encTo v wd k) rfl (hown.alloc _) (some ⟨wr.heap.size, 0, none⟩) 1 1 [byteAt v (wd - 1 - k)] rfl (one_rd wr _ _ (shr_byte _ _)) (by omega) (by have := hB.size; simp; omega) ?_)
      intro v2 w2 hown2 hgrow
      have hB2 := (hB.alloc (by have := hB.size; omega) _).grown hgrow (by have := hB.size; simp; omega) (fun j hj => (hown.lt j hj).1)
      rw [← encTo_snoc v wd k hlt] at hown2
      clear hown hB hgrow
      go_wp2
      go_roundw
      case rel => exact ⟨k + 1, by omega, by go_num, hown2, hB2⟩
      case measure => simp [intOf]; omega
    · obtain rfl : k = wd := by omega
      obtain ⟨a', c, rfl, hrd, hblk⟩ := owns_shape hown (by omega)
      rw [show encTo v k k = enc v k from List.take_of_length_le (by rw [enc_length]; omega)] at hrd
      have hneg : ¬ (0 : Int) ≤ (k : Int) - 1 - k := by omega
      clear hown
      go_wp2
      go_ret
      exact ⟨_, _, rfl, hrd, hB⟩
end Go.Proofs.Ytipegdfjpmlcbaa


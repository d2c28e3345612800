/-
  Texts put together: A1, A2, A3, A4.
-/
import Derived.Test.YtjohgagiccndpaaGreatDoorRows
import Derived.Test.YtjohgagiccndpaaGreatDoorA0
import Derived.Test.YtjohgagiccndpaaGreatDoorB0
import Derived.WalkKit
import Derived.WalkSpells
import Derived.WalkLawsBesides
import Derived.Lib.Hide
import Derived.RegionTactic
import Derived.WalkMore
import Derived.ScopeJumps
import Derived.BigRegion
/-
  Contracts: isWidth, number, Get of the program and of the reference.
-/
namespace Go.Proofs.YtjohgagiccndpaaGreatDoor
open Go.RowKit
set_option linter.unusedVariables false

theorem ret_u64 {a b : Int} (h : a = b) : Ending.returned (.int .u64 a) = .returned (.int .u64 b) := by rw [h]

set_option maxRecDepth 20000 in
set_option maxHeartbeats 400000 in
theorem isWidth_yes (n : Int) (w : World) (h1 : 1 ≤ n) (h2 : n ≤ 8) :
    Calls Tryz.prog 124 #[.int .i64 n] w fun e w' => e = .returned (.bool true) ∧ w = w' := by
  go_enter Tryz.func124, Tryz.ntmps124
  go_wp2
  go_ret
  exact ⟨rfl, rfl⟩

set_option maxRecDepth 20000 in
set_option maxHeartbeats 400000 in
theorem isWidth_no (n : Int) (w : World) (h : n < 1 ∨ 8 < n) :
    Calls Tryz.prog 124 #[.int .i64 n] w fun e w' => e = .returned (.bool false) ∧ w = w' := by
  rcases h with h | h
  · go_enter Tryz.func124, Tryz.ntmps124
    go_wp2
    go_ret
    exact ⟨rfl, rfl⟩
  · have h1 : 1 ≤ n := by omega
    have h2 : decide (n ≤ 8) = false := by simp; omega
    go_enter Tryz.func124, Tryz.ntmps124
    go_wp2
    go_ret
    exact ⟨rfl, rfl⟩

set_option maxRecDepth 20000 in
set_option maxHeartbeats 400000 in
theorem number_any (a : Option Addr) (n cap : Nat) (xs : List UInt8) (w : World) (h : Rd w a n cap xs) (h8 : n ≤ 8) :
    Calls Tryz.prog 131 #[.slice a n cap] w fun e w' => e = .returned (.int .u64 (numN xs : Int)) ∧ w = w' := by
  have hlen := Lib.hid h.len
  go_enter Tryz.func131, Tryz.ntmps131
  go_wp2
  go_loop [3, 8] (fun t i => ∃ k : Nat, k ≤ n ∧ i = .int .i64 k ∧ t = .int .u64 (numN (xs.take k) : Int)) (fun _ i => n - (intOf i).toNat)
  case atStart => exact ⟨0, Nat.zero_le _, rfl, rfl⟩
  case round =>
    obtain ⟨k, hk, rfl, rfl⟩ := hrel
    by_cases hlt : k < n
    · obtain ⟨b, off, rfl, hb, hc⟩ := h.at0 (by omega)
      have hcell := hc k hlt
      clear hc
      go_wp2
      go_round
      case rel => exact ⟨k + 1, by omega, by go_num, by rw [num_step xs k (by rw [hlen.out]; exact hlt) (by omega)]⟩
      case measure => simp [intOf]; omega
    · go_wp2
      go_ret
      exact ⟨ret_u64 (by rw [List.take_of_length_le (by rw [hlen.out]; omega)]), rfl⟩

/-! ### Get -/



/-! ### the reference's Get -/
set_option maxRecDepth 20000 in
set_option maxHeartbeats 400000 in
theorem rget_arg (v : Value) (at_ wd : Int) (w : World) (h : wd < 1 ∨ 8 < wd ∨ at_ < 0) :
    Calls Tryz.prog 92 #[v, .int .i64 at_, .int .i64 wd] w fun e w' => e = .returned (.tuple #[.int .u64 0, .int .i64 2]) ∧ w = w' := by
  by_cases h1 : wd < 1
  · go_enter Tryz.func92, Tryz.ntmps92
    go_wp2
    go_ret2
    exact ⟨rfl, rfl⟩
  · by_cases h2 : 8 < wd
    · go_enter Tryz.func92, Tryz.ntmps92
      go_wp2
      go_ret2
      exact ⟨rfl, rfl⟩
    · have h3 : at_ < 0 := by omega
      go_enter Tryz.func92, Tryz.ntmps92
      go_wp2
      go_ret2
      exact ⟨rfl, rfl⟩

set_option maxRecDepth 20000 in
set_option maxHeartbeats 400000 in
theorem rget_short (a : Option Addr) (n cap : Nat) (at_ wd : Int) (w : World) (hn : n ≤ 140737488355328) (h1 : 1 ≤ wd) (h2 : wd ≤ 8) (h3 : 0 ≤ at_) (h4 : at_ ≤ 9223372036854775807) (h : (n : Int) - at_ < wd) :
    Calls Tryz.prog 92 #[.slice a n cap, .int .i64 at_, .int .i64 wd] w fun e w' => e = .returned (.tuple #[.int .u64 0, .int .i64 7]) ∧ w = w' := by
  by_cases h5 : (n : Int) < at_
  · go_enter Tryz.func92, Tryz.ntmps92
    go_wp2
    go_ret2
    exact ⟨rfl, rfl⟩
  · go_enter Tryz.func92, Tryz.ntmps92
    go_wp2
    go_ret2
    exact ⟨rfl, rfl⟩

theorem part_at (xs : List UInt8) (i m k : Nat) (hk : k < m) : ((xs.drop i).take m)[k]?.getD 0 = xs[i + k]?.getD 0 := by
  rw [List.getElem?_take_of_lt hk, List.getElem?_drop]

set_option maxRecDepth 20000 in
set_option maxHeartbeats 400000 in
theorem rget_ok (a : Option Addr) (n cap : Nat) (xs : List UInt8) (at_ wd : Nat) (w : World) (h : Rd w a n cap xs) (h1 : 1 ≤ wd) (h2 : wd ≤ 8) (h3 : at_ + wd ≤ n) :
    Calls Tryz.prog 92 #[.slice a n cap, .int .i64 at_, .int .i64 wd] w fun e w' => e = .returned (.tuple #[.int .u64 (numN ((xs.drop at_).take wd) : Int), .int .i64 0]) ∧ w = w' := by
  obtain ⟨b, off, rfl, hb, hc⟩ := h.at0 (by omega)
  have hbig := h.big
  have hle := h.le
  have hlen := Lib.hid h.len
  have HC := Lib.hid hc
  clear hc
  go_enter Tryz.func92, Tryz.ntmps92
  go_wp2
  go_loop [8, 9] (fun t i => ∃ k : Nat, k ≤ wd ∧ i = .int .i64 k ∧ t = .int .u64 (numN (((xs.drop at_).take wd).take k) : Int)) (fun _ i => wd - (intOf i).toNat)
  case atStart => exact ⟨0, Nat.zero_le _, rfl, rfl⟩
  case round =>
    obtain ⟨k, hk, rfl, rfl⟩ := hrel
    by_cases hlt : k < wd
    · have hcell := HC.out (at_ + k) (by omega)
      go_wp2
      go_round
      case rel => exact ⟨k + 1, by omega, by go_num, by rw [← num_step_add ((xs.drop at_).take wd) k (by simp; rw [hlen.out]; omega) (by omega), part_at xs at_ wd k hlt]⟩
      case measure => simp [intOf]; omega
    · go_wp2
      go_ret2
      obtain rfl : k = wd := by omega
      exact ⟨by rw [List.take_of_length_le (by simp; omega)]; rfl, rfl⟩
end Go.Proofs.YtjohgagiccndpaaGreatDoor
/-
  Contracts: Put of the program and of the reference.
-/
namespace Go.Proofs.YtjohgagiccndpaaGreatDoor
open Go.RowKit
set_option linter.unusedVariables false

set_option maxRecDepth 20000 in
set_option maxHeartbeats 1000000 in
theorem put_ok (a : Option Addr) (n cap : Nat) (xs : List UInt8) (wd : Nat) (v : Nat) (w : World) (h : Rd w a n cap xs) (h1 : 1 ≤ wd) (h2 : wd ≤ 8) (hv : v < 18446744073709551616) (hn : n + 8 ≤ 140737488355328) :
    Calls Tryz.prog 101 #[.slice a n cap, .int .i64 wd, .int .u64 v] w fun e w' => ∃ g c, e = .returned (.slice (some ⟨g, 0, none⟩) (n + wd) c) ∧ w.heap.size ≤ g ∧ Rd w' (some ⟨g, 0, none⟩) (n + wd) c (xs ++ enc v wd) ∧ Below w.heap.size w w' := by
  have hlen := Lib.hid h.len
  have hle := h.le
  have hmk := make_run n (by omega)
  obtain ⟨i5, hi, hz0, hz1, hz2⟩ := info_parts Tryz.info5
  have hsz5 : (Tryz.prog.info? 5).map (·.size) = some 1 := by rw [hi]; simp [hz1]
  have hb1 : Below w.heap.size w (w.alloc (.cells (madeCells #[.int .u8 0] (n + 8)) 5)) := (Below.refl _ _).alloc (Nat.le_refl _) _
  go_enter Tryz.func101, Tryz.ntmps101
  go_wp2_with (with_reducible refine wpList_copy_splice (o := ⟨some 17, _, _, _, _, _⟩) rfl (.tmp 15) (.tmp 16) 103 103 rfl 5 Tryz.underlying103 hsz5 _ _ _ _ _ _ rfl rfl w.heap.size 0 (madeCells #[.int .u8 0] (n + 8)).toList 5 ?hg (bvs xs) ?hn ?hpos ?hfit (bvs_one xs) w.heap.size w hb1 (Nat.le_refl _) ?_)
  case hg => simpa using heap_alloc_new w _
  case hn => rw [bvs_length, hlen.out]; simp
  case hpos => exact h.src hb1
  case hfit => simp [bvs_length, hlen.out, size_madeCells]
  intro w1 HG hB1
  have hown := owns_splice (Nat.le_refl _) hlen.out (by omega) hn HG.out
  clear HG hb1 hmk hsz5
  go_wp2_with (go_at_call 124; refine (isWidth_yes _ _ (by omega) (by omega)).mono ?_; rintro e w' ⟨rfl, rfl⟩)
  have hx0 : encTo v wd 0 = [] := rfl
  go_loopw [7, 23] (fun o i wr => ∃ k : Nat, k ≤ wd ∧ i = .int .i64 k ∧ o = .slice (some ⟨w.heap.size, 0, none⟩) (n + k) (n + 8) ∧
      wr.ownsRow w.heap.size 5 1 (.slice (some ⟨w.heap.size, 0, none⟩) (n + k) (n + 8)) (n + k) (bvs (xs ++ encTo v wd k)) ∧ Below w.heap.size w wr) (fun _ i _ => wd - (intOf i).toNat)
  case atStart => exact ⟨0, by omega, rfl, rfl, by simpa [hx0] using hown, hB1⟩
  case round =>
    clear hown hx0
    obtain ⟨k, hk, rfl, rfl, hown, hB⟩ := hrel
    by_cases hlt : k < wd
    · go_wp2_with (first
        | (at_builtin; refine wpList_append_fits (o := ⟨some 37, _, _, _, _, _⟩) _ rfl (.tmp 26) (.tmp 36) 103 rfl w.heap.size 5 i5 1 Tryz.underlying103 hi hz1 w.heap.size (n + k) (n + 8) _ rfl (hown.alloc _) ⟨wr.heap.size, 0, none⟩ 1 1 (bvs [byteAt v (wd - 1 - k)]) rfl rfl ?d2 (bvs_one _) (by omega) ?d3))
      case d2 => rw [shr_byte]; exact one_cell _ _
      intro w2 hown2 hgrow
      have hB2 := (hB.alloc (by have := hB.size; omega) _).grown hgrow (by have := hB.size; simp; omega) (fun j hj => by cases hj; exact Nat.le_refl _)
      rw [← bvs_append, List.append_assoc, ← encTo_snoc v wd k hlt] at hown2
      clear hown hB hgrow
      go_wp2
      go_roundw
      case rel => exact ⟨k + 1, by omega, by go_num, rfl, hown2, hB2⟩
      case measure => simp [intOf]; omega
    · go_wp2
      go_ret
      obtain rfl : k = wd := by omega
      refine ⟨_, _, rfl, Nat.le_refl _, ?_, hB⟩
      have := rd_of_owns hown (by omega)
      rwa [show encTo v k k = enc v k from List.take_of_length_le (by rw [enc_length]; omega)] at this
set_option maxRecDepth 20000 in
set_option maxHeartbeats 1000000 in
theorem put_no (a : Option Addr) (n cap : Nat) (xs : List UInt8) (wd : Int) (v : Value) (w : World) (h : Rd w a n cap xs) (h1 : wd < 1 ∨ 8 < wd) (hn : n + 8 ≤ 140737488355328) :
    Calls Tryz.prog 101 #[.slice a n cap, .int .i64 wd, v] w fun e w' => ∃ a' c, e = .returned (.slice a' n c) ∧ Rd w' a' n c xs ∧ Below w.heap.size w w' := by
  have hlen := Lib.hid h.len
  have hle := h.le
  have hmk := make_run n (by omega)
  obtain ⟨i5, hi, hz0, hz1, hz2⟩ := info_parts Tryz.info5
  have hsz5 : (Tryz.prog.info? 5).map (·.size) = some 1 := by rw [hi]; simp [hz1]
  have hb1 : Below w.heap.size w (w.alloc (.cells (madeCells #[.int .u8 0] (n + 8)) 5)) := (Below.refl _ _).alloc (Nat.le_refl _) _
  go_enter Tryz.func101, Tryz.ntmps101
  go_wp2_with (with_reducible refine wpList_copy_splice (o := ⟨some 17, _, _, _, _, _⟩) rfl (.tmp 15) (.tmp 16) 103 103 rfl 5 Tryz.underlying103 hsz5 _ _ _ _ _ _ rfl rfl w.heap.size 0 (madeCells #[.int .u8 0] (n + 8)).toList 5 ?hg (bvs xs) ?hn ?hpos ?hfit (bvs_one xs) w.heap.size w hb1 (Nat.le_refl _) ?_)
  case hg => simpa using heap_alloc_new w _
  case hn => rw [bvs_length, hlen.out]; simp
  case hpos => exact h.src hb1
  case hfit => simp [bvs_length, hlen.out, size_madeCells]
  intro w1 HG hB1
  have hown := owns_splice (Nat.le_refl _) hlen.out (by omega) hn HG.out
  clear HG hb1 hmk hsz5
  go_wp2_with (go_at_call 124; refine (isWidth_no _ _ h1).mono ?_; rintro e w' ⟨rfl, rfl⟩)
  go_ret
  exact ⟨_, _, rfl, rd_of_owns hown (by omega), hB1⟩

/-! ### the reference's Put -/
set_option maxRecDepth 20000 in
set_option maxHeartbeats 1000000 in
theorem rput_no (a : Option Addr) (n cap : Nat) (xs : List UInt8) (wd : Int) (v : Value) (w : World) (h : Rd w a n cap xs) (h1 : wd < 1 ∨ 8 < wd) :
    Calls Tryz.prog 107 #[.slice a n cap, .int .i64 wd, v] w fun e w' => ∃ a' c, e = .returned (.slice a' n c) ∧ Rd w' a' n c xs ∧ Below w.heap.size w w' := by
  have hbig := h.big
  obtain ⟨i5, hi, hz0, hz1, hz2⟩ := info_parts Tryz.info5
  by_cases h2 : wd < 1
  · go_enter Tryz.func107, Tryz.ntmps107
    go_wp2_with (at_builtin; refine wpList_append_rd (o := ⟨some 11, _, _, _, _, _⟩) rfl (.tmp 9) (.tmp 10) 103 rfl w.heap.size 5 i5 Tryz.underlying103 hi hz0 hz1 hz2 (.slice none 0 0) 0 [] rfl (World.ownsRow_nil _ _ _ _) a n cap xs rfl h (by omega) (Nat.le_refl _) ?_)
    intro v' w1 hown hgrow
    have hB := (Below.refl w.heap.size w).grown hgrow (Nat.le_refl _) (fun k e => by cases e)
    obtain ⟨a', c, rfl, hrd, hblk⟩ := owns_shape hown hbig
    clear hown hgrow
    go_wp2
    go_ret
    exact ⟨_, _, rfl, hrd, hB⟩
  · have h3 : 8 < wd := by omega
    go_enter Tryz.func107, Tryz.ntmps107
    go_wp2_with (at_builtin; refine wpList_append_rd (o := ⟨some 11, _, _, _, _, _⟩) rfl (.tmp 9) (.tmp 10) 103 rfl w.heap.size 5 i5 Tryz.underlying103 hi hz0 hz1 hz2 (.slice none 0 0) 0 [] rfl (World.ownsRow_nil _ _ _ _) a n cap xs rfl h (by omega) (Nat.le_refl _) ?_)
    intro v' w1 hown hgrow
    have hB := (Below.refl w.heap.size w).grown hgrow (Nat.le_refl _) (fun k e => by cases e)
    obtain ⟨a', c, rfl, hrd, hblk⟩ := owns_shape hown hbig
    clear hown hgrow
    go_wp2
    go_ret
    exact ⟨_, _, rfl, hrd, hB⟩

set_option maxRecDepth 20000 in
set_option maxHeartbeats 1000000 in
theorem rput_ok (a : Option Addr) (n cap : Nat) (xs : List UInt8) (wd : Nat) (v : Nat) (w : World) (h : Rd w a n cap xs) (h1 : 1 ≤ wd) (h2 : wd ≤ 8) (hv : v < 18446744073709551616) (hn : n + 8 ≤ 140737488355328) :
    Calls Tryz.prog 107 #[.slice a n cap, .int .i64 wd, .int .u64 v] w fun e w' => ∃ a' c, e = .returned (.slice a' (n + wd) c) ∧ Rd w' a' (n + wd) c (xs ++ enc v wd) ∧ Below w.heap.size w w' := by
  have hbig := h.big
  obtain ⟨i5, hi, hz0, hz1, hz2⟩ := info_parts Tryz.info5
  go_enter Tryz.func107, Tryz.ntmps107
  go_wp2_with (at_builtin; refine wpList_append_rd (o := ⟨some 11, _, _, _, _, _⟩) rfl (.tmp 9) (.tmp 10) 103 rfl w.heap.size 5 i5 Tryz.underlying103 hi hz0 hz1 hz2 (.slice none 0 0) 0 [] rfl (World.ownsRow_nil _ _ _ _) a n cap xs rfl h (by omega) (Nat.le_refl _) ?_)
  intro v' w1 hown hgrow
  have hB := (Below.refl w.heap.size w).grown hgrow (Nat.le_refl _) (fun k e => by cases e)
  clear hgrow
  go_wp2
  have hx0 : encTo v wd 0 = [] := rfl
  go_loopw [7, 8] (fun o i wr => ∃ k : Nat, k ≤ wd ∧ i = .int .i64 ((wd : Int) - 1 - k) ∧
      wr.ownsRow w.heap.size 5 1 o (n + k) (bvs (xs ++ encTo v wd k)) ∧ Below w.heap.size w wr) (fun _ i _ => (intOf i + 1).toNat)
  case atStart => exact ⟨0, by omega, by go_num, by simpa [hx0] using hown, hB⟩
  case round =>
    clear hown hx0 hB
    obtain ⟨k, hk, rfl, hown, hB⟩ := hrel
    by_cases hlt : k < wd
    · have hge : (0 : Int) ≤ (wd : Int) - 1 - k := by omega
      go_wp2_with (at_builtin; refine wpList_append_rd (o := ⟨some 33, _, _, _, _, _⟩) rfl (.tmp 25) (.tmp 32) 103 rfl w.heap.size 5 i5 Tryz.underlying103 hi hz0 hz1 hz2 _ (n + k) (xs ++ encTo v wd k) rfl (hown.alloc _) (some ⟨wr.heap.size, 0, none⟩) 1 1 [byteAt v (wd - 1 - k)] rfl (one_rd wr _ _ (shr_byte _ _)) (by omega) (by have := hB.size; simp; omega) ?_)
      intro v2 w2 hown2 hgrow
      have hB2 := (hB.alloc (by have := hB.size; omega) _).grown hgrow (by have := hB.size; simp; omega) (fun j hj => (hown.lt j hj).1)
      rw [← encTo_snoc v wd k hlt] at hown2
      clear hown hB hgrow
      go_wp2
      go_roundw
      case rel => exact ⟨k + 1, by omega, by go_num, hown2, hB2⟩
      case measure => simp [intOf]; omega
    · obtain rfl : k = wd := by omega
      obtain ⟨a', c, rfl, hrd, hblk⟩ := owns_shape hown (by omega)
      rw [show encTo v k k = enc v k from List.take_of_length_le (by rw [enc_length]; omega)] at hrd
      have hneg : ¬ (0 : Int) ≤ (k : Int) - 1 - k := by omega
      clear hown
      go_wp2
      go_ret
      exact ⟨_, _, rfl, hrd, hB⟩
end Go.Proofs.YtjohgagiccndpaaGreatDoor
/-
  Contracts: the program's reader: New, Why, Left, next.
-/
namespace Go.Proofs.YtjohgagiccndpaaGreatDoor
open Go.RowKit
set_option linter.unusedVariables false

/-- The program's reader at block p: what is left is ys, why it stopped e. -/
structure RW (w : World) (p : Nat) (ys : List UInt8) (e : Int) : Prop where
  blk : ∃ a n cap, w.heap[p]? = some (.cells #[.slice a n cap, .int .i64 e] 170 (0, 0)) ∧ Rd w a n cap ys ∧ ∀ x, a = some x → x.block < p

theorem RW.lt {w : World} {p : Nat} {ys : List UInt8} {e : Int} (h : RW w p ys e) : p < w.heap.size := by
  obtain ⟨a, n, cap, h, _⟩ := h.blk
  exact (Array.getElem?_eq_some_iff.1 h).1

set_option maxRecDepth 20000 in
set_option maxHeartbeats 400000 in
theorem why_any (p : Nat) (ys : List UInt8) (e : Int) (w : World) (h : RW w p ys e) :
    Calls Tryz.prog 138 #[.pointer (some ⟨p, 0, none⟩)] w fun r w' => r = .returned (.int .i64 e) ∧ w = w' := by
  obtain ⟨a, n, cap, hb, hr, hl⟩ := h.blk
  have hc : w.cell? ⟨p, 1, none⟩ = some (.int .i64 e) := cell_of_blk hb 1
  clear hb
  go_enter Tryz.func138, Tryz.ntmps138
  go_wp2
  go_ret
  exact ⟨rfl, rfl⟩

set_option maxRecDepth 20000 in
set_option maxHeartbeats 400000 in
theorem why_nil (w : World) :
    Calls Tryz.prog 138 #[.pointer none] w fun r w' => r = .returned (.int .i64 1) ∧ w = w' := by
  go_enter Tryz.func138, Tryz.ntmps138
  go_wp2
  go_ret
  exact ⟨rfl, rfl⟩



set_option maxRecDepth 20000 in
set_option maxHeartbeats 1000000 in
theorem new_any (a : Option Addr) (n cap : Nat) (xs : List UInt8) (w : World) (h : Rd w a n cap xs) :
    Calls Tryz.prog 111 #[.slice a n cap] w fun e w' => ∃ p, e = .returned (.pointer (some ⟨p, 0, none⟩)) ∧ w.heap.size ≤ p ∧ RW w' p xs 0 ∧ Below w.heap.size w w' := by
  have hlen := Lib.hid h.len
  have hbig := h.big
  have hmk := make_same n hbig
  have hsz5 : (Tryz.prog.info? 5).map (·.size) = some 1 := by kernel_rfl
  have hb1 : Below w.heap.size w (w.alloc (.cells (madeCells #[.int .u8 0] n) 5)) := (Below.refl _ _).alloc (Nat.le_refl _) _
  go_enter Tryz.func111, Tryz.ntmps111
  go_wp2_with (with_reducible refine wpList_copy_splice (o := ⟨some 9, _, _, _, _, _⟩) rfl (.tmp 7) (.tmp 8) 103 103 rfl 5 Tryz.underlying103 hsz5 _ _ _ _ _ _ rfl rfl w.heap.size 0 (madeCells #[.int .u8 0] n).toList 5 ?hg (bvs xs) ?hn ?hpos ?hfit (bvs_one xs) w.heap.size w hb1 (Nat.le_refl _) ?_)
  case hg => simpa using heap_alloc_new w _
  case hn => rw [bvs_length, hlen.out]; simp
  case hpos => exact h.src hb1
  case hfit => simp [bvs_length, hlen.out, size_madeCells]
  intro w1 HG hB1
  have hown := owns_splice (Nat.le_refl _) hlen.out (Nat.le_refl _) hbig HG.out
  have hrd := rd_of_owns hown hbig
  have hlt := (hown.lt w.heap.size rfl).2
  clear HG hb1 hmk hsz5 hown
  go_wp2
  go_ret
  refine ⟨_, rfl, by omega, ⟨_, _, _, heap_alloc_new w1 _, ?_, ?_⟩, hB1.alloc (by omega) _⟩
  · exact hrd.kept (by simp) fun b off e => by cases e; exact Below.heap_alloc _ _ _ hlt
  · intro x e; cases e; exact hlt

/-! ### next -/
set_option maxRecDepth 20000 in
set_option maxHeartbeats 400000 in
theorem next_stop (p : Nat) (ys : List UInt8) (e : Int) (v : Value) (f : Bool) (w : World) (h : RW w p ys e) (he : (e == 0) = false) :
    Calls Tryz.prog 132 #[.pointer (some ⟨p, 0, none⟩), v, .bool f] w fun r w' => r = .returned (.slice none 0 0) ∧ w = w' := by
  have he2 : (e != 0) = true := by rw [bne, he]; rfl
  go_enter Tryz.func132, Tryz.ntmps132
  go_wp2
  refine wp_scope_once 0 rfl ?_
  go_wp2_with (go_at_call 138; refine (why_any p ys e _ h).mono ?_; rintro r w' ⟨rfl, rfl⟩)
  go_step3
  refine ⟨rfl, ?_⟩
  go_wp2
  rw [Exit.noGoto_ret]
  go_ret
  exact ⟨rfl, rfl⟩

set_option maxRecDepth 20000 in
set_option maxHeartbeats 400000 in
theorem next_nil (v : Value) (f : Bool) (w : World) :
    Calls Tryz.prog 132 #[.pointer none, v, .bool f] w fun r w' => r = .returned (.slice none 0 0) ∧ w = w' := by
  go_enter Tryz.func132, Tryz.ntmps132
  go_wp2
  refine wp_scope_once 0 rfl ?_
  go_wp2_with (go_at_call 138; refine (why_nil _).mono ?_; rintro r w' ⟨rfl, rfl⟩)
  go_step3
  refine ⟨rfl, ?_⟩
  go_wp2
  rw [Exit.noGoto_ret]
  go_ret
  exact ⟨rfl, rfl⟩

set_option maxRecDepth 20000 in
set_option maxHeartbeats 400000 in
theorem next_unfit (p : Nat) (ys : List UInt8) (v : Value) (w : World) (h : RW w p ys 0) :
    Calls Tryz.prog 132 #[.pointer (some ⟨p, 0, none⟩), v, .bool false] w fun r w' => r = .returned (.slice none 0 0) ∧ RW w' p [] 2 ∧ w.grownBy w' (some p) := by
  obtain ⟨a, n, cap, hb, hr, hl⟩ := h.blk
  have c0 : w.cell? ⟨p, 0, none⟩ = some (.slice a n cap) := cell_of_blk hb 0
  have c1 : w.cell? ⟨p, 1, none⟩ = some (.int .i64 0) := cell_of_blk hb 1
  have f0 : w.frozen? ⟨p, 0, none⟩ = false := free_of_blk hb 0
  have f1 : w.frozen? ⟨p, 1, none⟩ = false := free_of_blk hb 1
  have HB := Lib.hid hb
  clear hb
  go_enter Tryz.func132, Tryz.ntmps132
  go_wp2
  refine wp_scope_once 0 rfl ?_
  go_wp2_with (go_at_call 138; refine (why_any p ys 0 _ h).mono ?_; rintro r w' ⟨rfl, rfl⟩)
  go_step3
  refine ⟨rfl, ?_⟩
  go_wp2
  rw [Exit.noGoto_ret]
  go_ret
  exact ⟨rfl, ⟨none, 0, 0, blk_setCell (blk_setCell HB.out), rd_nil _, fun _ e => by cases e⟩, gb_setCell (gb_setCell (World.grownBy.refl _ _))⟩

set_option maxRecDepth 20000 in
set_option maxHeartbeats 400000 in
theorem next_short (p : Nat) (ys : List UInt8) (m : Int) (w : World) (h : RW w p ys 0) (hm : (ys.length : Int) < m) :
    Calls Tryz.prog 132 #[.pointer (some ⟨p, 0, none⟩), .int .i64 m, .bool true] w fun r w' => r = .returned (.slice none 0 0) ∧ RW w' p [] 7 ∧ w.grownBy w' (some p) := by
  obtain ⟨a, n, cap, hb, hr, hl⟩ := h.blk
  have c0 : w.cell? ⟨p, 0, none⟩ = some (.slice a n cap) := cell_of_blk hb 0
  have c1 : w.cell? ⟨p, 1, none⟩ = some (.int .i64 0) := cell_of_blk hb 1
  have f0 : w.frozen? ⟨p, 0, none⟩ = false := free_of_blk hb 0
  have f1 : w.frozen? ⟨p, 1, none⟩ = false := free_of_blk hb 1
  have HB := Lib.hid hb
  clear hb
  rw [hr.len] at hm
  go_enter Tryz.func132, Tryz.ntmps132
  go_wp2
  refine wp_scope_once 0 rfl ?_
  go_wp2_with (go_at_call 138; refine (why_any p ys 0 _ h).mono ?_; rintro r w' ⟨rfl, rfl⟩)
  go_step3
  refine ⟨rfl, ?_⟩
  go_wp2
  rw [Exit.noGoto_ret]
  go_ret
  exact ⟨rfl, ⟨none, 0, 0, blk_setCell (blk_setCell HB.out), rd_nil _, fun _ e => by cases e⟩, gb_setCell (gb_setCell (World.grownBy.refl _ _))⟩

set_option maxRecDepth 20000 in
set_option maxHeartbeats 1000000 in
theorem next_ok (p : Nat) (ys : List UInt8) (m : Nat) (w : World) (h : RW w p ys 0) (hm : m ≤ ys.length) :
    Calls Tryz.prog 132 #[.pointer (some ⟨p, 0, none⟩), .int .i64 m, .bool true] w fun r w' => ∃ a c, r = .returned (.slice a m c) ∧ Rd w' a m c (ys.take m) ∧ (∀ x, a = some x → x.block < p) ∧ RW w' p (ys.drop m) 0 ∧ w.grownBy w' (some p) := by
  obtain ⟨a, n, cap, hb, hr, hl⟩ := h.blk
  have c0 : w.cell? ⟨p, 0, none⟩ = some (.slice a n cap) := cell_of_blk hb 0
  have c1 : w.cell? ⟨p, 1, none⟩ = some (.int .i64 0) := cell_of_blk hb 1
  have f0 : w.frozen? ⟨p, 0, none⟩ = false := free_of_blk hb 0
  have f1 : w.frozen? ⟨p, 1, none⟩ = false := free_of_blk hb 1
  have HB := Lib.hid hb
  clear hb
  rw [hr.len] at hm
  have hle := hr.le
  have hbig := hr.big
  go_enter Tryz.func132, Tryz.ntmps132
  go_wp2
  refine wp_scope_once 0 rfl ?_
  go_wp2_with (go_at_call 138; refine (why_any p ys 0 _ h).mono ?_; rintro r w' ⟨rfl, rfl⟩)
  go_region
  all_goals go_wp2
  all_goals go_step3
  all_goals go_wp2
  all_goals simp only [Exit.jump]
  all_goals go_ret
  · have hcm : cap = m := by assumption
    subst hcm
    have hb2 : ∀ x, a = some x → (w.setCell ⟨p, 0, none⟩ (.slice a (n - cap) 0)).drew.heap[x.block]? = w.heap[x.block]? := fun x e => Below.heap_setCell _ _ _ _ (fun e2 => by have := hl x e; simp at e2; omega)
    exact ⟨_, _, rfl, (hr.pre hm).kept (by simp [World.setCell, World.drew]) (fun b off e => hb2 ⟨b, off, none⟩ e), hl, ⟨_, _, _, blk_setCell HB.out, (hr.suf_end hm rfl).kept (by simp [World.setCell, World.drew]) (fun b off e => hb2 ⟨b, off, none⟩ e), hl⟩, gb_drew (gb_setCell (World.grownBy.refl _ _))⟩
  · have hl2 : ∀ x, Option.map (fun x => x.add m) a = some x → x.block < p := fun x e => by
      cases a with
      | none => cases e
      | some y => simp only [Option.map_some, Option.some.injEq] at e; subst e; rw [add_block]; exact hl y rfl
    have hb2 : ∀ x : Addr, x.block < p → (w.setCell ⟨p, 0, none⟩ (.slice (Option.map (fun x => x.add m) a) (n - m) (cap - m))).drew.heap[x.block]? = w.heap[x.block]? := fun x e => Below.heap_setCell _ _ _ _ (fun e2 => by simp at e2; omega)
    exact ⟨_, _, rfl, (hr.pre hm).kept (by simp [World.setCell, World.drew]) (fun b off e => hb2 ⟨b, off, none⟩ (hl _ e)), hl, ⟨_, _, _, blk_setCell HB.out, (hr.suf hm).kept (by simp [World.setCell, World.drew]) (fun b off e => hb2 ⟨b, off, none⟩ (hl2 _ e)), hl2⟩, gb_drew (gb_setCell (World.grownBy.refl _ _))⟩
end Go.Proofs.YtjohgagiccndpaaGreatDoor
/-
  Contracts: the program's reader: Num, Bytes.
-/
namespace Go.Proofs.YtjohgagiccndpaaGreatDoor
open Go.RowKit
set_option linter.unusedVariables false

/-- What a reader answers that is asked for a number of wd bytes; what is left; why it stopped. -/
def rnum (ys : List UInt8) (e wd : Int) : Nat × List UInt8 × Int :=
  if e ≠ 0 then (0, ys, e) else if wd < 1 ∨ 8 < wd then (0, [], 2) else if (ys.length : Int) < wd then (0, [], 7) else (numN (ys.take wd.toNat), ys.drop wd.toNat, 0)

/-- The same for m bytes. -/
def rbytes (ys : List UInt8) (e m : Int) : List UInt8 × List UInt8 × Int :=
  if e ≠ 0 then ([], ys, e) else if m < 0 then ([], [], 2) else if (ys.length : Int) < m then ([], [], 7) else (ys.take m.toNat, ys.drop m.toNat, 0)

set_option maxRecDepth 20000 in
set_option maxHeartbeats 1000000 in
theorem num_any (p : Nat) (ys : List UInt8) (e wd : Int) (w : World) (h : RW w p ys e) :
    Calls Tryz.prog 112 #[.pointer (some ⟨p, 0, none⟩), .int .i64 wd] w fun r w' => r = .returned (.int .u64 ((rnum ys e wd).1 : Int)) ∧ RW w' p (rnum ys e wd).2.1 (rnum ys e wd).2.2 ∧ w.grownBy w' (some p) := by
  by_cases he : e ≠ 0
  · have hr : rnum ys e wd = (0, ys, e) := by unfold rnum; rw [if_pos he]
    rw [hr]
    have he2 : (e == 0) = false := by simpa using he
    clear hr he
    by_cases hw : wd < 1 ∨ 8 < wd
    · go_enter Tryz.func112, Tryz.ntmps112
      go_wp2_with (first | (go_at_call 124; refine (isWidth_no _ _ hw).mono ?_; rintro r w' ⟨rfl, rfl⟩) | (go_at_call 132; refine (next_stop p ys e _ _ _ h he2).mono ?_; rintro r w' ⟨rfl, rfl⟩) | (go_at_call 131; refine (number_any _ _ _ _ _ (rd_nil _) (by omega)).mono ?_; rintro r w' ⟨rfl, rfl⟩))
      go_ret
      exact ⟨rfl, h, World.grownBy.refl _ _⟩
    · go_enter Tryz.func112, Tryz.ntmps112
      go_wp2_with (first | (go_at_call 124; refine (isWidth_yes _ _ (by omega) (by omega)).mono ?_; rintro r w' ⟨rfl, rfl⟩) | (go_at_call 132; refine (next_stop p ys e _ _ _ h he2).mono ?_; rintro r w' ⟨rfl, rfl⟩) | (go_at_call 131; refine (number_any _ _ _ _ _ (rd_nil _) (by omega)).mono ?_; rintro r w' ⟨rfl, rfl⟩))
      go_ret
      exact ⟨rfl, h, World.grownBy.refl _ _⟩
  · have he0 : e = 0 := by omega
    subst he0
    clear he
    by_cases hw : wd < 1 ∨ 8 < wd
    · have hr : rnum ys 0 wd = (0, [], 2) := by unfold rnum; rw [if_neg (by simp), if_pos hw]
      rw [hr]
      clear hr
      go_enter Tryz.func112, Tryz.ntmps112
      go_wp2_with (first | (go_at_call 124; refine (isWidth_no _ _ hw).mono ?_; rintro r w' ⟨rfl, rfl⟩) | (go_at_call 132; refine (next_unfit p ys _ _ h).mono ?_; rintro r w' ⟨rfl, hrw, hg⟩) | (go_at_call 131; refine (number_any _ _ _ _ _ (rd_nil _) (by omega)).mono ?_; rintro r w' ⟨rfl, rfl⟩))
      go_ret
      exact ⟨rfl, by assumption, by assumption⟩
    · by_cases hs : (ys.length : Int) < wd
      · have hr : rnum ys 0 wd = (0, [], 7) := by unfold rnum; rw [if_neg (by simp), if_neg hw, if_pos hs]
        rw [hr]
        clear hr
        go_enter Tryz.func112, Tryz.ntmps112
        go_wp2_with (first | (go_at_call 124; refine (isWidth_yes _ _ (by omega) (by omega)).mono ?_; rintro r w' ⟨rfl, rfl⟩) | (go_at_call 132; refine (next_short p ys _ _ h hs).mono ?_; rintro r w' ⟨rfl, hrw, hg⟩) | (go_at_call 131; refine (number_any _ _ _ _ _ (rd_nil _) (by omega)).mono ?_; rintro r w' ⟨rfl, rfl⟩))
        go_ret
        exact ⟨rfl, by assumption, by assumption⟩
      · have hr : rnum ys 0 wd = (numN (ys.take wd.toNat), ys.drop wd.toNat, 0) := by unfold rnum; rw [if_neg (by simp), if_neg hw, if_neg hs]
        rw [hr]
        clear hr
        obtain ⟨m, rfl⟩ := Int.eq_ofNat_of_zero_le (a := wd) (by omega)
        rw [Int.toNat_natCast]
        go_enter Tryz.func112, Tryz.ntmps112
        go_wp2_with (first | (go_at_call 124; refine (isWidth_yes _ _ (by omega) (by omega)).mono ?_; rintro r w' ⟨rfl, rfl⟩))
        refine (next_ok p ys m _ h (by omega)).mono ?_
        rintro r w1 ⟨a, c, rfl, hrd, hbl, hrw, hg⟩
        go_wp2_with (go_at_call 131; refine (number_any _ _ _ _ _ hrd (by omega)).mono ?_; rintro r w' ⟨rfl, rfl⟩)
        go_ret
        exact ⟨rfl, hrw, hg⟩

set_option maxRecDepth 20000 in
theorem num_nil (v : Int) (w : World) :
    Calls Tryz.prog 112 #[.pointer none, .int .i64 v] w fun r w' => r = .returned (.int .u64 0) ∧ w = w' := by
  by_cases hw : v < 1 ∨ 8 < v
  · go_enter Tryz.func112, Tryz.ntmps112
    go_wp2_with (first | (go_at_call 124; refine (isWidth_no _ _ hw).mono ?_; rintro r w' ⟨rfl, rfl⟩) | (go_at_call 132; refine (next_nil _ _ _).mono ?_; rintro r w' ⟨rfl, rfl⟩) | (go_at_call 131; refine (number_any _ _ _ _ _ (rd_nil _) (by omega)).mono ?_; rintro r w' ⟨rfl, rfl⟩))
    go_ret
    exact ⟨rfl, rfl⟩
  · go_enter Tryz.func112, Tryz.ntmps112
    go_wp2_with (first | (go_at_call 124; refine (isWidth_yes _ _ (by omega) (by omega)).mono ?_; rintro r w' ⟨rfl, rfl⟩) | (go_at_call 132; refine (next_nil _ _ _).mono ?_; rintro r w' ⟨rfl, rfl⟩) | (go_at_call 131; refine (number_any _ _ _ _ _ (rd_nil _) (by omega)).mono ?_; rintro r w' ⟨rfl, rfl⟩))
    go_ret
    exact ⟨rfl, rfl⟩

/-! ### Bytes -/
/-- What Bytes does with the part that next gave: a copy of its own. -/
theorem gb_below {w w1 w2 : World} {p : Nat} (h : w.grownBy w1 (some p)) (hb : Below w1.heap.size w1 w2) : w.grownBy w2 (some p) :=
  ⟨hb.os.trans h.os, hb.tape.trans h.tape, hb.output.trans h.output, Nat.le_trans h.size hb.size, fun k hk hne => (hb.block k (Nat.lt_of_lt_of_le hk h.size)).trans (h.block k hk hne)⟩

theorem RW.below {w w' : World} {p : Nat} {ys : List UInt8} {e : Int} (h : RW w p ys e) (hb : Below w.heap.size w w') : RW w' p ys e := by
  have hlt := h.lt
  obtain ⟨a, n, cap, hbk, hr, hl⟩ := h.blk
  exact ⟨a, n, cap, (hb.block p hlt).trans hbk, hr.below hb (fun b off e => Nat.lt_trans (hl _ e) hlt), hl⟩

theorem make_zero (w : World) : (Instr.makeSlice 103 (.int .i64 0) (.int .i64 0)).run Tryz.prog w = .ok (.slice (some ⟨w.heap.size, 0, none⟩) 0 0) (w.alloc (.cells (madeCells #[.int .u8 0] 0) 5)) := make_same 0 (by omega) w

theorem rd_empty (w : World) (g : Nat) : Rd w (some ⟨g, 0, none⟩) 0 0 [] := ⟨rfl, Nat.le_refl _, by omega, by unfold maxLen; omega, fun h => by omega, fun e => by cases e⟩



end Go.Proofs.YtjohgagiccndpaaGreatDoor

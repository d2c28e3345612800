/-
  The fixed calls ('known') and the law of the reader that is not there.
-/
import Derived.Test.YtdedkaolghodoaaA4
import Derived.Laws.IdiomStrings
namespace Go.Proofs.Ytdedkaolghodoaa
open Go.RowKit
set_option linter.unusedVariables false

theorem run_string_rd {w : World} {a : Option Addr} {n cap : Nat} {xs : List UInt8} (h : Rd w a n cap xs) :
    (convert 22 9 (.slice a n cap)).run Try.prog w = .ok (.string ⟨xs.toArray⟩) w := by
  cases a with
  | none =>
    have hc := h.nil rfl
    have hn : n = 0 := by have := h.le; omega
    subst hn
    obtain rfl : xs = [] := List.eq_nil_of_length_eq_zero h.len
    rw [run_convert_bytes_string w 22 9 5 none 0 cap Try.underlying22 Try.underlying5 Try.underlying9]
    simp [Conv.bytesToString]
    rfl
  | some x =>
    have := run_convert_bytes_back (P := Try.prog) w 22 9 5 x cap xs Try.underlying22 Try.underlying5 Try.underlying9 (fun j hj => by
      obtain ⟨b, off, e, hlt, hc⟩ := h.at0 (by rw [← h.len]; omega)
      cases e
      rw [Addr.add_none, hc j (by rw [← h.len]; exact hj), List.getElem?_eq_getElem hj]
      rfl)
    rwa [h.len] at this

theorem three_rd (w : World) : Rd (w.alloc (.cells #[.int .u8 1, .int .u8 2, .int .u8 3] 5)) (some ⟨w.heap.size, 0, none⟩) 3 3 [1, 2, 3] := by
  refine ⟨rfl, Nat.le_refl _, by omega, by unfold maxLen; omega, fun _ => ⟨_, _, rfl, by simp, fun i hi => ?_⟩, fun e => by cases e⟩
  rw [World.cell?_alloc_at _ _ _ _ rfl, Nat.zero_add]
  match i, hi with
  | 0, _ => rfl
  | 1, _ => rfl
  | 2, _ => rfl

theorem gb_low {w w1 : World} {B p : Nat} (h : w.grownBy w1 (some p)) (hp : B ≤ p) (hB : B ≤ w.heap.size) : Below B w w1 :=
  ⟨h.os, h.tape, h.output, h.size, fun k hk => h.block k (by omega) (by simp; omega)⟩

set_option maxHeartbeats 2000000 in
theorem known_true (w : World) : Calls Try.prog 11 #[] w fun e w' => e = .returned (.bool true) ∧ Below w.heap.size w w' := by
  have h3 := three_rd w
  have hb0 : Below w.heap.size w (w.alloc (.cells #[.int .u8 1, .int .u8 2, .int .u8 3] 5)) := (Below.refl _ _).alloc (Nat.le_refl _) _
  go_enter Try.func11, Try.ntmps11
  go_wp2_with fail
  refine (new_any _ _ _ _ _ h3).mono ?_
  rintro e w1 ⟨p, rfl, hp, hrw, hb1⟩
  have hb2 := hb0.trans (hb1.mono (by simp))
  have hp2 : w.heap.size ≤ p := by simp at hp; omega
  clear hb0 hb1 h3 hp
  go_wp2_with fail
  refine (num_any p _ _ _ _ hrw).mono ?_
  rintro e w2 ⟨rfl, hrw2, hg2⟩
  have hb3 := hb2.trans (gb_low hg2 hp2 hb2.size)
  rw [show rnum [1, 2, 3] 0 2 = (258, [3], 0) from by decide] at *
  clear hrw hg2 hb2
  go_wp2_with fail
  refine (num_any p _ _ _ _ hrw2).mono ?_
  rintro e w3 ⟨rfl, hrw3, hg3⟩
  have hb4 := hb3.trans (gb_low hg3 hp2 hb3.size)
  rw [show rnum [3] 0 2 = (0, [], 7) from by decide] at *
  clear hrw2 hg3 hb3
  go_wp2_with fail
  refine (put_ok none 0 0 [] 2 66051 w3 (rd_nil _) (by omega) (by omega) (by omega) (by omega)).mono ?_
  rintro e w4 ⟨g, c, rfl, hg, hrd, hb5⟩
  have hconv := run_string_rd hrd
  rw [show [] ++ enc 66051 2 = [2, 3] from by decide] at hconv
  have hrw4 := hrw3.below hb5
  have hb6 := hb4.trans (hb5.mono hb4.size)
  clear hrd hb5 hb4 hrw3
  go_wp2_with (first | (go_at_call 19; refine (why_any p _ _ _ hrw4).mono ?_; rintro r w' ⟨rfl, rfl⟩) | (go_at_call 17; refine (left_any p _ _ _ hrw4).mono ?_; rintro r w' ⟨rfl, rfl⟩))
  go_ret
  exact ⟨rfl, hb6⟩
end Go.Proofs.Ytdedkaolghodoaa

/-
  A frame is written (Put), whatever it is.
-/
import Derived.Test.YtipegdfjpmlcbaaCFF
namespace Go.Proofs.Ytipegdfjpmlcbaa
open Go.RowKit
set_option linter.unusedVariables false
set_option linter.unusedSimpArgs false

theorem fput_any (f : FR) (a : Option Addr) (n c : Nat) (w : World) (hT : Tx w a n c f.list) (hv : f.vol < 4294967296) (hse : f.sess < 18446744073709551616) (hep : f.ep < 18446744073709551616) (hsq : f.seq < 4294967296)
    (hd : f.data.length ≤ 1099511627776) (hl : ∀ k, ((f.list.take k).flatten).length ≤ 1099511627776) :
    Calls Try.prog 8 #[frV f (.slice a n c)] w fun e w' => ∃ a' m c', e = .returned (.tuple #[.slice a' m c', .int .i64 (putP f).2]) ∧ Rd w' a' m c' (putP f).1 ∧ Below w.heap.size w w' := by
  have bad : ¬ good f → ∀ (e : Ending) (w' : World), (e = .returned (.tuple #[.slice none 0 0, .int .i64 6]) ∧ Below w.heap.size w w') → ∃ a' m c', e = .returned (.tuple #[.slice a' m c', .int .i64 (putP f).2]) ∧ Rd w' a' m c' (putP f).1 ∧ Below w.heap.size w w' := fun hg e w' h => by
    unfold putP
    rw [if_neg hg]
    exact ⟨none, 0, 0, h.1, rd_nil _, h.2⟩
  cases ho : openP f.head (bodyP f) with
  | none =>
    have hg : ¬ good f := fun hg => by rw [open_body f hg] at ho; cases ho
    exact (put_bad f a n c w hT hv hd hl ho).mono fun e w' h => bad hg e w' h
  | some x =>
    by_cases hx : x = f
    · have hg : good f := hx ▸ (open_good f.head x (bodyP f) rfl ho).1
      refine (put_same f a n c w hT hv hd hl hse hep hsq x hx ho).mono fun e w' h => ?_
      unfold putP
      rw [if_pos hg]
      exact h
    · have hg : ¬ good f := fun hg => by rw [open_body f hg] at ho; exact hx (Option.some.inj ho).symm
      exact (put_diff f a n c w hT hv hd hl x hx ho).mono fun e w' h => bad hg e w' h
end Go.Proofs.Ytipegdfjpmlcbaa


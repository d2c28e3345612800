/-
  A frame is opened, of any kind.
-/
import Derived.Test.YtipegdfjpmlcbaaCFB
namespace Go.Proofs.Ytipegdfjpmlcbaa
open Go.RowKit
set_option linter.unusedVariables false
set_option linter.unusedSimpArgs false

theorem open_any (h : FR) (hh : h = h.head) (a : Option Addr) (n c : Nat) (xs : List UInt8) (w : World) (hrd : Rd w a n c xs) :
    Calls Try.prog 15 #[frV h (.slice none 0 0), .slice a n c] w fun e w' => OpenR h xs w e w' := by
  by_cases k1 : h.kind = 1
  · exact open_1 h hh k1 a n c xs w hrd
  by_cases k2 : h.kind = 2
  · exact open_2 h hh k2 a n c xs w hrd
  by_cases k3 : h.kind = 3
  · exact open_3 h hh k3 a n c xs w hrd
  by_cases k4 : h.kind = 4
  · exact open_4 h hh k4 a n c xs w hrd
  by_cases k5 : h.kind = 5
  · exact open_5 h hh k5 a n c xs w hrd
  by_cases k6 : h.kind = 6
  · exact open_6 h hh k6 a n c xs w hrd
  by_cases k7 : h.kind = 7
  · exact open_7 h hh k7 a n c xs w hrd
  exact open_else h hh ⟨k1, k2, k3, k4, k5, k6, k7⟩ a n c xs w hrd
end Go.Proofs.Ytipegdfjpmlcbaa


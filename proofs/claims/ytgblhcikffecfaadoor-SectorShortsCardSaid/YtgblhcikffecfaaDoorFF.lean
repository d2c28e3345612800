/-
  strconv.ParseUint at base 16, 8 bits, where the text is a number.
-/
import Derived.Test.YtgblhcikffecfaaDoorFE
namespace Go.Proofs.YtgblhcikffecfaaDoor
open Go.RowKit Go.Shelf
set_option linter.unusedVariables false
set_option linter.unusedSimpArgs false

set_option maxHeartbeats 1000000 in
theorem pup_ok (s : ByteArray) (n : Nat) (w : World) (hs : s.size ≤ 140737488355328) (hp : puP s = (0, n)) :
    Calls Tryd.prog 49 #[.string s, .int .i64 16, .int .i64 8] w fun e w' => e = .returned (.tuple #[.int .u64 n, .nilIface]) ∧ Below w.heap.size w w' := by
  have h := pu16_any s w hs
  rw [puV_ok hp] at h
  generalize Value.string s = V at *
  have H := Lib.hid h
  clear h hp hs
  go_enter Tryd.func49, Tryd.ntmps49
  go_wp2_with fail
  refine H.out.mono ?_
  rintro e w1 ⟨rfl, hb⟩
  have HB := Lib.hid hb
  clear hb
  go_wp2
  refine bodyPost_ret (results_tmp2 rfl _ _ _) rfl ?_
  exact ⟨rfl, HB.out⟩

end Go.Proofs.YtgblhcikffecfaaDoor

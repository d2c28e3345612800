/-
  Pasts: the walk of PastNil.
-/
import Derived.Test.YthapcpfemmfhoaaAPD
namespace Go.Proofs.Ythapcpfemmfhoaa
namespace Ap
open Go.RowKit
set_option linter.unusedVariables false
set_option linter.unusedSimpArgs false

set_option maxRecDepth 20000 in
set_option maxHeartbeats 4000000 in
theorem nil_walk (i : Int) (s : ByteArray) (w : World) : Calls Try.prog 5 #[.int .i64 i, .string s] w fun e w' => e = .returned (.bool true) ∧ Below w.heap.size w w' := by
  have HFL := Lib.hid (pflush_nil w)
  have hla := plast_nil i w
  unfold twoV at hla
  have HLA := Lib.hid hla
  have HIM := Lib.hid (pimage_nil 1 w)
  have HWR := Lib.hid (fun w' => pwrite_nil i s w')
  have HCR := Lib.hid (fun w' => pcrash_nil (.slice none 0 0) w')
  have HMY := Lib.hid (fun w' => pmay_nil i s w')
  have HSE := Lib.hid (fun w' => pseal_nil (.int .u64 1) w')
  have HEP := Lib.hid (fun w' => pepochs_nil w')
  have HKN := Lib.hid (fun w' => known_any w')
  have hE : noBytes.toList.isEmpty = true := by decide +kernel
  clear hla
  go_enter Try.func5, Try.ntmps5
  go_wp2_with fail
  refine HFL.out.mono ?_
  rintro e w1 ⟨rfl, hw1⟩; obtain rfl := hw1.symm; clear hw1
  go_wp2_with fail
  refine HLA.out.mono ?_
  rintro e w1 ⟨rfl, hw1⟩; obtain rfl := hw1.symm; clear hw1
  go_wp2_with fail
  refine HIM.out.mono ?_
  rintro e w1 ⟨rfl, hb1⟩
  go_wp2_with fail
  refine (HWR.out w1).mono ?_
  rintro e w2 ⟨rfl, hw1⟩; obtain rfl := hw1.symm; clear hw1
  go_wp2_with fail
  refine (HCR.out _).mono ?_
  rintro e w1 ⟨rfl, hw1⟩; obtain rfl := hw1.symm; clear hw1
  go_wp2_with fail
  refine (HMY.out _).mono ?_
  rintro e w1 ⟨rfl, hw1⟩; obtain rfl := hw1.symm; clear hw1
  go_wp2_with fail
  refine (HSE.out _).mono ?_
  rintro e w1 ⟨rfl, hw1⟩; obtain rfl := hw1.symm; clear hw1
  go_wp2_with fail
  refine (HEP.out _).mono ?_
  rintro e w1 ⟨rfl, hw1⟩; obtain rfl := hw1.symm; clear hw1
  go_wp2_with fail
  refine (HKN.out _).mono ?_
  rintro e w1 ⟨rfl, hb2⟩
  have HB := Lib.hid (hb1.trans (hb2.mono hb1.size))
  clear hb1 hb2
  go_wp2
  go_ret
  exact ⟨rfl, HB.out⟩

end Ap
end Go.Proofs.Ythapcpfemmfhoaa


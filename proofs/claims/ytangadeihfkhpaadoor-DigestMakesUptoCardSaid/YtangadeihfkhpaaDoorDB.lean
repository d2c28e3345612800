/-
  The walk of DigestMakes.
-/
import Derived.Test.YtangadeihfkhpaaDoorDA
import Derived.Test.YtangadeihfkhpaaDoorD9
import Derived.Lib.MinMax
namespace Go.Proofs.YtangadeihfkhpaaDoor
open Go.RowKit
set_option linter.unusedVariables false
set_option linter.unusedSimpArgs false

set_option maxRecDepth 20000 in
set_option maxHeartbeats 1000000 in
theorem makes_any (s0 : ByteArray) (a : Option Addr) (l cap : Nat) (S : Nat → ByteArray) (w : World) (hK : Kon w) (hP : Strs w a l S) (hs : s0.size ≤ 1048576) (ht : (jn S l).length ≤ 1048576) (hl : l ≤ 1048576) :
    Calls Tryd.prog 3 #[.string s0, .slice a l cap] w fun e w' => e = .returned (.bool true) ∧ Below w.heap.size w w' := by
  have HK := Lib.hid hK
  have HP := Lib.hid hP
  have HT := Lib.hid ht
  have hB := Below.refl w.heap.size w
  clear hK hP ht
  go_enter Tryd.func3, Tryd.ntmps3
  go_wp2
  go_loopw [5, 6] (fun v i wr => ∃ (k : Nat) (m : Nat), k ≤ l ∧ i = .int .i64 k ∧ v = .int .i64 m ∧ m ≤ 1048576 ∧ Below w.heap.size w wr) (fun _ i _ => l - (intOf i).toNat)
  case atStart => exact ⟨0, s0.size, by omega, rfl, rfl, hs, hB⟩
  case round =>
    clear hB
    obtain ⟨k, m, hk, rfl, rfl, hm, hB⟩ := hrel
    by_cases hlt : k < l
    · have i1 : (k : Int) < (l : Int) := by omega
      obtain ⟨b, off, rfl, hbl, hel⟩ := HP.out.at0 (by omega)
      have hc : wr.cell? ⟨b, off + k, none⟩ = some (.string (S k)) := by rw [hB.cell (by exact hbl)]; exact hel k hlt
      have hkl := jn_part S hlt
      have hsz : (S k).size ≤ 1048576 := by have := HT.out; omega
      have HB := Lib.hid hB
      clear hB hel hkl
      go_wp2
      go_roundw
      case rel => exact ⟨k + 1, min m 10000 + min (S k).size 10000, by omega, by go_num, by go_num, by omega, HB.out⟩
      case measure => simp [intOf]; omega
    · obtain rfl : k = l := by omega
      have i1 : ¬ (k : Int) < (k : Int) := by omega
      by_cases g1 : (100 : Int) < (k : Int)
      · have HB := Lib.hid hB
        have HKr := Lib.hid (HK.out.below hB)
        clear hB
        go_wp2_with fail
        refine (known_true _ HKr.out).mono ?_
        rintro e w4 ⟨rfl, hb4⟩
        go_wp2
        go_ret
        exact ⟨rfl, HB.out.trans (hb4.mono HB.out.size)⟩
      by_cases g2 : (10000 : Int) < (m : Int)
      · have HB := Lib.hid hB
        have HKr := Lib.hid (HK.out.below hB)
        clear hB
        go_wp2_with fail
        refine (known_true _ HKr.out).mono ?_
        rintro e w4 ⟨rfl, hb4⟩
        go_wp2
        go_ret
        exact ⟨rfl, HB.out.trans (hb4.mono HB.out.size)⟩
      by_cases g3 : (10000 : Int) < (s0.size : Int)
      · have HB := Lib.hid hB
        have HKr := Lib.hid (HK.out.below hB)
        clear hB
        go_wp2_with fail
        refine (known_true _ HKr.out).mono ?_
        rintro e w4 ⟨rfl, hb4⟩
        go_wp2
        go_ret
        exact ⟨rfl, HB.out.trans (hb4.mono HB.out.size)⟩
      obtain ⟨VL, hVL⟩ : ∃ V, V = strV (dig (0 :: s0.data.toList)) := ⟨_, rfl⟩
      obtain ⟨VN, hVN⟩ : ∃ V, V = strV (dig (1 :: jn S k)) := ⟨_, rfl⟩
      have HVL : Hid (VL = .string _) := Lib.hid (hVL.trans rfl)
      have HVN : Hid (VN = .string _) := Lib.hid (hVN.trans rfl)
      have e1 := eql_V HVL
      have e2 := guard_V HVL
      have e3 := eql_V HVN
      have e4 := guard_V HVN
      have c1 := fun (w : World) (h : Kon w) => leaf_any s0 w h (by omega)
      have c2 := fun (w : World) => rleaf_any s0 w (by omega)
      have c3 := fun (w : World) (h : Kon w) (p : Strs w a k S) => node_any a k cap S w p h (by have := HT.out; omega) (by omega)
      have c4 := fun (w : World) (p : Strs w a k S) => rnode_any a k cap S w p (by have := HT.out; omega) (by omega)
      have c5 := fun (w : World) => right_any s0 w (by omega)
      have c6 := fun (w : World) => rright_any s0 w (by omega)
      rw [← hVL] at c1 c2
      rw [← hVN] at c3 c4
      generalize decide (s0.size = 32) = r at c5 c6
      have C1 := Lib.hid c1
      have C2 := Lib.hid c2
      have C3 := Lib.hid c3
      have C4 := Lib.hid c4
      have C5 := Lib.hid c5
      have C6 := Lib.hid c6
      have HKr := Lib.hid (HK.out.below hB)
      have HPr := Lib.hid (HP.out.later hB)
      have HB := Lib.hid hB
      clear c1 c2 c3 c4 c5 c6 hVL hVN hB
      go_wp2_with fail
      refine (C1.out _ HKr.out).mono ?_
      rintro e w1 ⟨rfl, hb1⟩
      have HB1 := Lib.hid hb1
      clear hb1
      go_wp2_with fail
      refine (C2.out _).mono ?_
      rintro e w2 ⟨rfl, hb2⟩
      have HB2 := Lib.hid (HB1.out.trans (hb2.mono HB1.out.size))
      have HK2 := Lib.hid (HKr.out.below HB2.out)
      have HP2 := Lib.hid (HPr.out.later HB2.out)
      clear hb2
      go_wp2_with fail
      refine (C3.out _ HK2.out HP2.out).mono ?_
      rintro e w3 ⟨rfl, hb3⟩
      have HB3 := Lib.hid (HB2.out.trans (hb3.mono HB2.out.size))
      have HP3 := Lib.hid (HPr.out.later HB3.out)
      clear hb3
      go_wp2_with fail
      refine (C4.out _ HP3.out).mono ?_
      rintro e w4 ⟨rfl, hb4⟩
      have HB4 := Lib.hid (HB3.out.trans (hb4.mono HB3.out.size))
      have HK4 := Lib.hid (HKr.out.below HB4.out)
      clear hb4
      go_wp2_with fail
      refine (C5.out _).mono ?_
      rintro e w5 ⟨rfl, rfl⟩
      go_wp2_with fail
      refine (C6.out _).mono ?_
      rintro e w6 ⟨rfl, rfl⟩
      go_wp2_with fail
      refine (known_true _ HK4.out).mono ?_
      rintro e w7 ⟨rfl, hb7⟩
      have HB7 := Lib.hid (HB4.out.trans (hb7.mono HB4.out.size))
      go_wp2
      go_ret
      exact ⟨rfl, HB.out.trans (HB7.out.mono HB.out.size)⟩
end Go.Proofs.YtangadeihfkhpaaDoor

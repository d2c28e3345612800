/-
  read: a run that is written as a word, where all is well.
-/
import Derived.Test.YtgblhcikffecfaaDoorFF
namespace Go.Proofs.YtgblhcikffecfaaDoor
open Go.RowKit Go.Shelf
set_option linter.unusedVariables false
set_option linter.unusedSimpArgs false

set_option maxRecDepth 20000 in
set_option maxHeartbeats 1000000 in
theorem read_one (s : ByteArray) (n : Nat) (m : Int) (w : World) (hs : s.size ≤ 1000) (hm : w.cell? ⟨0, 0, none⟩ = some (.int .i64 m)) (hcut : Lib.cut s.data.toList [42] = (s.data.toList, [], false)) (hp : puP s = (0, n)) :
    Calls Tryd.prog 31 #[.string s] w fun e w' => e = .returned (.tuple #[.int .u8 n, .int .i64 1]) ∧ Below w.heap.size w w' := by
  have hc := Tryd.strings_Cut s ⟨#[42]⟩ m w (by omega) hm
  have hcc : Lib.cut s.data.toList (⟨#[42]⟩ : ByteArray).data.toList = (s.data.toList, [], false) := hcut
  rw [hcc] at hc
  have hu := fun w => pup_ok s n w (by omega) hp
  have hn : n ≤ 255 := by
    have := puS_le s.data.toList s.size
    unfold puP at hp
    split at hp
    · cases hp
    · rw [hp] at this; exact this
  change Calls _ _ _ _ (fun e w' => e = .returned (.tuple #[.string s, .string ⟨#[]⟩, .bool false]) ∧ _) at hc
  generalize Value.string s = V at *
  have H := Lib.hid hc
  have HU := Lib.hid hu
  clear hc hcc hcut hu hp hs hm
  go_enter Tryd.func31, Tryd.ntmps31
  go_wp2_with fail
  refine H.out.mono ?_
  rintro e w1 ⟨rfl, k, rfl⟩
  go_wp2_with fail
  refine (HU.out _).mono ?_
  rintro e w2 ⟨rfl, hb⟩
  have HB : Hid (Below w.heap.size w w2) := Lib.hid (Below.trans (b := w.drewN k) ⟨rfl, rfl, rfl, Nat.le_refl _, fun _ _ => rfl⟩ hb)
  clear hb
  go_wp2
  refine bodyPost_ret (results_tmp2 rfl _ _ _) rfl ?_
  exact ⟨rfl, HB.out⟩

theorem below_bw (w : World) (e : TypeId) (s : ByteArray) : Below w.heap.size w (Lib.bytesWorld w e s) :=
  ⟨rfl, rfl, rfl, by rw [Lib.bytesWorld_size]; omega, fun k hk => Lib.bytesWorld_at_old w e s k hk⟩

set_option maxRecDepth 20000 in
set_option maxHeartbeats 1000000 in
theorem read_star (s : ByteArray) (a b : List UInt8) (n : Nat) (l : Int) (m : Int) (w : World) (hs : s.size ≤ 1000) (hm : w.cell? ⟨0, 0, none⟩ = some (.int .i64 m)) (hcut : Lib.cut s.data.toList [42] = (a, b, true)) (ha : a.length ≤ 1000) (hp : puP ⟨a.toArray⟩ = (0, n)) (hb : b.length ≤ 18) (hl : Lib.atoi b = some l) :
    Calls Tryd.prog 31 #[.string s] w fun e w' => e = .returned (.tuple #[.int .u8 n, .int .i64 l]) ∧ Below w.heap.size w w' := by
  have hc := Tryd.strings_Cut s ⟨#[42]⟩ m w (by omega) hm
  have hcc : Lib.cut s.data.toList (⟨#[42]⟩ : ByteArray).data.toList = (a, b, true) := hcut
  rw [hcc] at hc
  have hu := fun w => pup_ok ⟨a.toArray⟩ n w (by show (List.toArray a).size ≤ _; rw [List.size_toArray]; omega) hp
  have hat := fun w => Tryd.strconv_Atoi ⟨b.toArray⟩ l (by show (List.toArray b).size ≤ _; rw [List.size_toArray]; omega) hl w
  have hn : n ≤ 255 := by
    have := puS_le (⟨a.toArray⟩ : ByteArray).data.toList (⟨a.toArray⟩ : ByteArray).size
    unfold puP at hp
    split at hp
    · cases hp
    · rw [hp] at this; exact this
  change Calls _ _ _ _ (fun e w' => e = .returned (.tuple #[strV a, strV b, .bool true]) ∧ _) at hc
  change ∀ w, Calls _ _ #[strV a, _, _] w _ at hu
  change ∀ w, Calls _ _ #[strV b] w _ at hat
  generalize strV a = VA at *
  generalize strV b = VB at *
  generalize Value.string s = V at *
  have H := Lib.hid hc
  have HU := Lib.hid hu
  have HAT := Lib.hid hat
  clear hc hcc hcut hu hat hp hs hm ha hb hl
  go_enter Tryd.func31, Tryd.ntmps31
  go_wp2_with fail
  refine H.out.mono ?_
  rintro e w1 ⟨rfl, k, rfl⟩
  go_wp2_with fail
  refine (HU.out _).mono ?_
  rintro e w2 ⟨rfl, hb⟩
  have HB : Hid (Below w.heap.size w w2) := Lib.hid (Below.trans (b := w.drewN k) ⟨rfl, rfl, rfl, Nat.le_refl _, fun _ _ => rfl⟩ hb)
  clear hb
  go_wp2_with fail
  refine (HAT.out _).mono ?_
  rintro e w3 ⟨rfl, t, rfl⟩
  have HB3 := Lib.hid (HB.out.trans ((below_bw w2 5 t).mono HB.out.size))
  generalize Lib.bytesWorld w2 5 t = w3 at *
  go_wp2
  refine bodyPost_ret (results_tmp2 rfl _ _ _) rfl ?_
  exact ⟨rfl, HB3.out⟩

end Go.Proofs.YtgblhcikffecfaaDoor

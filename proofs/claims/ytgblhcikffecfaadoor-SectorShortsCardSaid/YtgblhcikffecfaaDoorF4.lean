/-
  Contracts of spell; digest's Digits, the reference's.
-/
import Derived.Test.YtgblhcikffecfaaDoorF3
namespace Go.Proofs.YtgblhcikffecfaaDoor
open Go.RowKit
set_option linter.unusedVariables false
set_option linter.unusedSimpArgs false

set_option maxRecDepth 20000 in
set_option maxHeartbeats 1000000 in
theorem rdigits_any (s : ByteArray) (w : World) (hl : s.size ≤ 1000000000) :
    Calls Tryd.prog 35 #[.string s] w fun e w' => e = .returned (strV (hexL s.data.toList)) ∧ Below w.heap.size w w' := by
  go_enter Tryd.func35, Tryd.ntmps35
  go_wp2
  go_loopw [4, 5] (fun o i wr => ∃ k : Nat, k ≤ s.size ∧ i = .int .i64 k ∧ o = strV (hexL (s.data.toList.take k)) ∧ Below w.heap.size w wr) (fun _ i _ => s.size - (intOf i).toNat)
  case atStart => exact ⟨0, by omega, rfl, rfl, Below.refl _ _⟩
  case round =>
    obtain ⟨k, hk, rfl, rfl, hB⟩ := hrel
    by_cases hlt : k < s.size
    · have hls : k < s.data.toList.length := hlt
      have hst := hexL_step s.data.toList k hls
      have hix := index_text s k hlt
      generalize (s.data.toList)[k]?.getD 0 = b at hst hix
      have hb := b.toNat_lt
      obtain ⟨N, hN⟩ : ∃ N, N = b.toNat := ⟨_, rfl⟩
      rw [← hN] at hst hix hb
      have hd1 := digit_cut (N / 16) (by omega)
      have hd2 := digit_cut (N % 16) (by omega)
      rw [show ((N / 16 : Nat) : Int) = (N : Int) / 16 from by omega] at hd1
      rw [show ((N % 16 : Nat) : Int) = (N : Int) % 16 from by omega] at hd2
      have hw1 : IntKind.u8.wrap ((N : Int) / 16 + 1) = (N : Int) / 16 + 1 := by rw [IntKind.wrap_u8]; omega
      have hw2 : IntKind.u8.wrap ((N : Int) % 16 + 1) = (N : Int) % 16 + 1 := by rw [IntKind.wrap_u8]; omega
      have hlen : (hexL (s.data.toList.take k)).length ≤ 2000000000 := by rw [hexL_length]; simp; omega
      have ha1 := add_texts (hexL (s.data.toList.take k)) [hx (N / 16)] (by simp; omega)
      have ha2 := add_texts (hexL (s.data.toList.take k) ++ [hx (N / 16)]) [hx (N % 16)] (by simp; omega)
      rw [List.append_assoc, List.cons_append, List.nil_append, ← hst] at ha2
      generalize strV (hexL (s.data.toList.take k) ++ [hx (N / 16)]) = V1 at ha1 ha2
      obtain ⟨V0, hV0⟩ : ∃ V, V = strV (hexL (s.data.toList.take k)) := ⟨_, rfl⟩
      obtain ⟨V2, hV2⟩ : ∃ V, V = strV (hexL (s.data.toList.take (k + 1))) := ⟨_, rfl⟩
      obtain ⟨D1, hD1⟩ : ∃ V, V = strV [hx (N / 16)] := ⟨_, rfl⟩
      obtain ⟨D2, hD2⟩ : ∃ V, V = strV [hx (N % 16)] := ⟨_, rfl⟩
      change ∀ w, _ = Result.ok (strV [hx (N / 16)]) w at hd1
      change ∀ w, _ = Result.ok (strV [hx (N % 16)]) w at hd2
      rw [← hV0, ← hD1] at ha1
      rw [← hD2, ← hV2] at ha2
      rw [← hD1] at hd1
      rw [← hD2] at hd2
      rw [← hV0]
      have HV2 := Lib.hid hV2
      have HB := Lib.hid hB
      have i1 : (0 : Int) ≤ (k : Int) := by omega
      have i2 : (k : Int) < (s.size : Int) := by omega
      clear hst hN hV0 hV2 hD1 hD2 hB hlen
      go_wp2_with fail
      go_quiet (fail)
      go_wp2
      go_roundw
      case rel => exact ⟨k + 1, by omega, by go_num, HV2.out, HB.out.grown (gb_drewN _ _ none) HB.out.size (fun j h => by cases h)⟩
      case measure => simp [intOf]; omega
    · obtain rfl : k = s.size := by omega
      have ht : s.data.toList.take s.size = s.data.toList := List.take_of_length_le (Nat.le_refl _)
      rw [ht]
      have i2 : ¬ (s.size : Int) < (s.size : Int) := by omega
      go_wp2
      go_ret
      exact ⟨rfl, hB⟩
theorem two_rd (w : World) (t : TypeId) (x y : UInt8) : Rd (w.alloc (.cells #[.int .u8 (x.toNat : Int), .int .u8 (y.toNat : Int)] t)) (some ⟨w.heap.size, 0, none⟩) 2 2 [x, y] := by
  have hb := heap_alloc_new w (.cells #[.int .u8 (x.toNat : Int), .int .u8 (y.toNat : Int)] t)
  refine ⟨rfl, Nat.le_refl _, by omega, by unfold maxLen; omega, fun _ => ⟨_, _, rfl, by simp, fun j hj => ?_⟩, fun h => by cases h⟩
  rw [cell_of_blk hb]
  match j, hj with
  | 0, _ => rfl
  | 1, _ => rfl

/-- A run's short form. -/
def spellL (c : Nat) (n : Nat) : List UInt8 := [hx (c / 16), hx (c % 16)] ++ if 1 < n then 42 :: Lib.decDigits n else []

set_option maxRecDepth 20000 in
set_option maxHeartbeats 1000000 in
theorem spell_any (c : Nat) (n : Nat) (w : World) (hc : c < 256) (hn : n < 100) :
    Calls Tryd.prog 28 #[.int .u8 (c : Int), .int .i64 (n : Int)] w fun e w' => e = .returned (strV (spellL c n)) ∧ Below w.heap.size w w' := by
  have hd1 := index_digit (c / 16) (by omega)
  have hd2 := index_digit (c % 16) (by omega)
  have hand : bits .and .u8 (c : Int) 15 = (c : Int) % 16 := u8_and15 _ (by omega) (by omega)
  rw [show ((c / 16 : Nat) : Int) = (c : Int) / 16 from by omega] at hd1
  rw [show ((c % 16 : Nat) : Int) = (c : Int) % 16 from by omega] at hd2
  obtain ⟨R, hR⟩ : ∃ R, R = strV (spellL c n) := ⟨_, rfl⟩
  rw [← hR]
  unfold spellL at hR
  generalize hx (c / 16) = c1 at hd1 hR
  generalize hx (c % 16) = c2 at hd2 hR
  have hlen : (Lib.decDigits n).length ≤ 2 := by
    unfold Lib.decDigits
    split
    · simp
    · unfold Lib.decDigits
      rw [dif_pos (by omega)]; simp
  have hrd : (convert 37 9 (.slice (some ⟨w.heap.size, 0, none⟩) 2 2)).run Tryd.prog (w.alloc (.cells #[.int .u8 (c1.toNat : Int), .int .u8 (c2.toNat : Int)] 5)).drew = .ok (strV [c1, c2]) (w.alloc (.cells #[.int .u8 (c1.toNat : Int), .int .u8 (c2.toNat : Int)] 5)).drew :=
    rd_string ((two_rd w 5 c1 c2).later ((Below.refl _ _).drew))
  have hI := fun w => Tryd.strconv_Itoa_small n hn w
  have ha1 := add_texts [42] (Lib.decDigits n) (by simp; omega)
  have ha2 := add_texts [c1, c2] (42 :: Lib.decDigits n) (by simp; omega)
  have hB : Below w.heap.size w (w.alloc (.cells #[.int .u8 (c1.toNat : Int), .int .u8 (c2.toNat : Int)] 5)).drew := ((Below.refl _ _).alloc (Nat.le_refl _) _).drew
  change ∀ w, Calls _ _ _ _ fun e w' => e = .returned (strV (Lib.decDigits n)) ∧ w' = w at hI
  change ∀ w, (binOp .add 9 (.string ⟨#[42]⟩) _).run _ w = .ok (strV (42 :: Lib.decDigits n)) w at ha1
  change ∀ w, (binOp .add 9 _ _).run _ w = .ok (strV (c1 :: c2 :: 42 :: Lib.decDigits n)) w at ha2
  have hR1 : 1 < n → R = strV (c1 :: c2 :: 42 :: Lib.decDigits n) := fun h => by rw [hR, if_pos h]; rfl
  have hR2 : ¬ 1 < n → R = strV [c1, c2] := fun h => by rw [hR, if_neg h]; rfl
  clear hR hlen
  generalize strV (c1 :: c2 :: 42 :: Lib.decDigits n) = V3 at ha2 hR1
  generalize strV (42 :: Lib.decDigits n) = V2 at ha1 ha2
  generalize strV (Lib.decDigits n) = V1 at ha1 hI
  generalize strV [c1, c2] = V0 at ha2 hrd hR2
  have HI := Lib.hid hI
  have HB := Lib.hid hB
  clear hI hB
  by_cases h : 1 < n
  · obtain rfl := hR1 h
    have i1 : (1 : Int) < (n : Int) := by omega
    clear hR2 hR1
    go_enter Tryd.func28, Tryd.ntmps28
    go_wp2_with fail
    go_region
    go_wp2_with fail
    refine (HI.out _).mono ?_
    rintro e w1 ⟨rfl, hw1⟩
    subst hw1
    go_wp2
    go_ret
    exact ⟨rfl, HB.out⟩
  · obtain rfl := hR2 h
    have i1 : ¬ (1 : Int) < (n : Int) := by omega
    clear hR1 hR2
    go_enter Tryd.func28, Tryd.ntmps28
    go_wp2_with fail
    go_region
    go_wp2
    go_ret
    exact ⟨rfl, HB.out⟩

end Go.Proofs.YtgblhcikffecfaaDoor

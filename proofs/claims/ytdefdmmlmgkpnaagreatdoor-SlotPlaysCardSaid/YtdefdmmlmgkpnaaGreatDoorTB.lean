/-
  A text with zeros behind it, 64 bytes (padded).
-/
import Derived.Test.YtdefdmmlmgkpnaaGreatDoorTA
namespace Go.Proofs.YtdefdmmlmgkpnaaGreatDoor
open Go.RowKit
set_option linter.unusedVariables false
set_option linter.unusedSimpArgs false

def pad64 (xs : List UInt8) : List UInt8 := (xs ++ List.replicate (64 - xs.length) 0).take 64
def sLen : Value → Nat
  | .string b => b.size
  | _ => 0
theorem sLen_str (xs : List UInt8) : sLen (strV xs) = xs.length := size_str xs

set_option maxRecDepth 20000 in
set_option maxHeartbeats 1000000 in
theorem padded_any (xs : List UInt8) (w : World) (hx : xs.length ≤ 9223372036854775000) :
    Calls Tryz.prog 19 #[strV xs] w fun e w' => e = .returned (strV (pad64 xs)) ∧ w' = w := by
  obtain ⟨V, hV⟩ : ∃ V : Value, strV xs = V := ⟨_, rfl⟩
  rw [hV]
  have HX := Lib.hid hx
  clear hx
  go_enter Tryz.func19, Tryz.ntmps19
  go_wp2
  go_loopw [0] (fun s wr => ∃ k : Nat, k ≤ 64 - xs.length ∧ s = strV (xs ++ List.replicate k 0) ∧ wr = w) (fun s _ => 64 - sLen s)
  case atStart => exact ⟨0, by omega, by rw [← hV]; simp, rfl⟩
  case round =>
    obtain ⟨k, hk, hs, hwr⟩ := hrel
    subst hwr
    have hlen : (xs ++ List.replicate k (0 : UInt8)).length = xs.length + k := by simp
    have hln := fun w => len_str (xs ++ List.replicate k 0) w
    rw [hlen] at hln
    by_cases hlt : xs.length + k < 64
    · have hadd := add_texts (xs ++ List.replicate k 0) [0] (by rw [hlen]; simp; omega)
      have e : xs ++ List.replicate k (0 : UInt8) ++ [0] = xs ++ List.replicate (k + 1) 0 := by rw [List.append_assoc, ← List.replicate_succ']
      rw [e] at hadd
      have hadd' : ∀ w, (binOp .add 9 (strV (xs ++ List.replicate k 0)) (.string ⟨#[0]⟩)).run Tryz.prog w = .ok (strV (xs ++ List.replicate (k + 1) 0)) w := hadd
      have h1 : ((xs.length + k : Nat) : Int) < 64 := by omega
      obtain ⟨V2, hV2⟩ : ∃ V : Value, strV (xs ++ List.replicate (k + 1) 0) = V := ⟨_, rfl⟩
      rw [← hs] at hln hadd'
      rw [hV2] at hadd'
      have HS := Lib.hid (And.intro hs hV2)
      have HL := Lib.hid (And.intro hk (And.intro hlen hlt))
      clear hs hV2 hadd e hk hlen hlt
      generalize ((xs.length + k : Nat) : Int) = m at *
      go_wp2
      go_roundw
      case rel => exact ⟨k + 1, by have := HL.out.2.2; omega, HS.out.2.symm, by first | rfl | trivial⟩
      case measure =>
        rw [HS.out.1, ← HS.out.2, sLen_str, sLen_str]
        have := HL.out.2.2
        simp
        omega
    · have h1 : ¬ ((xs.length + k : Nat) : Int) < 64 := by omega
      have hcut := fun w => cut_to (xs ++ List.replicate k 0) 64 (by rw [hlen]; omega) w
      have e : (xs ++ List.replicate k (0 : UInt8)).take 64 = pad64 xs := by
        unfold pad64
        by_cases h64 : xs.length < 64
        · rw [show k = 64 - xs.length from by omega]
        · rw [show k = 0 from by omega, show 64 - xs.length = 0 from by omega]
      rw [e] at hcut
      obtain ⟨V2, hV2⟩ : ∃ V : Value, strV (pad64 xs) = V := ⟨_, rfl⟩
      rw [← hs] at hln hcut
      simp only [hV2] at hcut
      have HV := Lib.hid hV2
      have hcut' : ∀ w, (Instr.sliceAt 9 _ none (some (.int .i64 64)) none).run Tryz.prog w = .ok V2 w := hcut
      clear hs hV2 e hk hlen hcut
      generalize ((xs.length + k : Nat) : Int) = m at *
      go_wp2
      go_ret
      exact ⟨by rw [HV.out]; rfl, rfl⟩
end Go.Proofs.YtdefdmmlmgkpnaaGreatDoor


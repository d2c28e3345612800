/-
  Records as lists of bytes.
-/
import Derived.Test.YtpkeikbiblfidaaGreatDoorA0
import Derived.Test.YtpkeikbiblfidaaGreatDoorK0
namespace Go.Proofs.YtpkeikbiblfidaaGreatDoor
set_option linter.unusedVariables false
set_option linter.unusedSimpArgs false

def nb (s : List UInt8) (i : Nat) : Nat := (s[i]?.getD 0).toNat
theorem nb_lt (s : List UInt8) (i : Nat) : nb s i < 256 := UInt8.toNat_lt _

/-- A record's bytes, and their sum behind them. -/
def sealL (xs : List UInt8) : List UInt8 := xs ++ enc (addN 0 xs) 4
/-- Kind, length, body, and zeros. -/
def pre60 (k : Nat) (b : List UInt8) : List UInt8 := UInt8.ofNat k :: UInt8.ofNat b.length :: (b ++ List.replicate (58 - b.length) 0)
def recL (k : Nat) (b : List UInt8) : List UInt8 := sealL (pre60 k b)
/-- Whether all bytes behind the body are zero. -/
def allz (s : List UInt8) : Bool := ((s.take 60).drop (2 + nb s 1)).all (· == 0)

def kindP (s : List UInt8) : Nat × Nat :=
  if s.length ≠ 64 then (0, 4) else if s ≠ sealL (s.take 60) then (0, 9) else if ¬ (1 ≤ nb s 0 ∧ nb s 0 ≤ 8 ∧ nb s 1 ≤ 58 ∧ allz s = true) then (0, 6) else (nb s 0, 0)
def openP (kind : Int) (s : List UInt8) : List UInt8 × Nat :=
  if (kindP s).2 ≠ 0 then ([], (kindP s).2) else if ((kindP s).1 : Int) ≠ kind then ([], 22) else ((s.take (2 + nb s 1)).drop 2, 0)
def makeP (kind : Int) (b : List UInt8) : List UInt8 × Nat :=
  if kind < 1 ∨ 8 < kind then ([], 22) else if 58 < b.length then ([], 8) else (recL kind.toNat b, 0)

theorem sealL_length (xs : List UInt8) : (sealL xs).length = xs.length + 4 := by simp [sealL, enc_length]
theorem pre60_length (k : Nat) (b : List UInt8) (h : b.length ≤ 58) : (pre60 k b).length = 60 := by simp [pre60]; omega
theorem recL_length (k : Nat) (b : List UInt8) (h : b.length ≤ 58) : (recL k b).length = 64 := by unfold recL; rw [sealL_length, pre60_length k b h]
theorem recL_take (k : Nat) (b : List UInt8) (h : b.length ≤ 58) : (recL k b).take 60 = pre60 k b := by
  unfold recL sealL
  rw [List.take_append_of_le_length (by rw [pre60_length k b h]; omega), List.take_of_length_le (by rw [pre60_length k b h]; omega)]

theorem ofNat_small (k : Nat) (h : k < 256) : (UInt8.ofNat k).toNat = k := by simp [UInt8.toNat_ofNat']; omega

theorem recL_0 (k : Nat) (b : List UInt8) (hk : k < 256) : nb (recL k b) 0 = k := by
  show (UInt8.ofNat k).toNat = k; exact ofNat_small k hk
theorem recL_1 (k : Nat) (b : List UInt8) (h : b.length ≤ 58) : nb (recL k b) 1 = b.length := by
  show (UInt8.ofNat b.length).toNat = b.length; exact ofNat_small _ (by omega)

theorem pre60_drop (k : Nat) (b : List UInt8) : (pre60 k b).drop (2 + b.length) = List.replicate (58 - b.length) 0 := by
  rw [Nat.add_comm]
  simp [pre60]
theorem pre60_body (k : Nat) (b : List UInt8) : ((pre60 k b).take (2 + b.length)).drop 2 = b := by
  rw [Nat.add_comm]
  simp [pre60]

theorem recL_kind (k : Nat) (b : List UInt8) (h1 : 1 ≤ k) (h8 : k ≤ 8) (h : b.length ≤ 58) : kindP (recL k b) = (k, 0) := by
  have e0 := recL_0 k b (by omega)
  have e1 := recL_1 k b h
  have ez : allz (recL k b) = true := by
    unfold allz
    rw [recL_take k b h, e1, pre60_drop]
    simp
  have es : recL k b = sealL ((recL k b).take 60) := by rw [recL_take k b h]; rfl
  unfold kindP
  rw [if_neg (by rw [recL_length k b h]; omega), if_neg (fun g => g es), e0, e1, ez, if_neg (by simp; omega)]

theorem make_kind {kind : Int} {b s : List UInt8} (h : makeP kind b = (s, 0)) : s = recL kind.toNat b ∧ 1 ≤ kind ∧ kind ≤ 8 ∧ b.length ≤ 58 := by
  unfold makeP at h
  split at h
  · simp at h
  · split at h
    · simp at h
    · simp at h
      exact ⟨h.symm, by omega, by omega, by omega⟩

theorem make_open {kind : Int} {b s : List UInt8} (h : makeP kind b = (s, 0)) : openP kind s = (b, 0) := by
  obtain ⟨rfl, h1, h8, hl⟩ := make_kind h
  have hk := recL_kind kind.toNat b (by omega) (by omega) hl
  unfold openP
  rw [hk, if_neg (by simp), if_neg (by simp; omega), recL_1 _ b hl]
  have : (recL kind.toNat b).take (2 + b.length) = (pre60 kind.toNat b).take (2 + b.length) := by
    rw [← recL_take kind.toNat b hl, List.take_take, Nat.min_eq_left (by omega)]
  rw [this, pre60_body]

theorem open_make {kind : Int} {s b : List UInt8} (h : openP kind s = (b, 0)) : makeP kind b = (s, 0) := by
  unfold openP at h
  split at h
  · rename_i g; simp at h; exact absurd h.2 g
  · rename_i g
    split at h
    · simp at h
    · rename_i g2
      simp only [Prod.mk.injEq, and_true] at h
      have hk : (kindP s).2 = 0 := by simpa using g
      unfold kindP at hk g2
      split at hk
      · simp at hk
      · rename_i k1
        split at hk
        · simp at hk
        · rename_i k2
          split at hk
          · simp at hk
          · rename_i k3
            rw [if_neg k1, if_neg k2, if_neg k3] at g2
            have hl : s.length = 64 := by simpa using k1
            have hs : s = sealL (s.take 60) := by simpa using k2
            have k4 : 1 ≤ nb s 0 ∧ nb s 0 ≤ 8 ∧ nb s 1 ≤ 58 ∧ allz s = true := by
              have := Classical.not_not.1 k3; exact this
            have hkind : kind = (nb s 0 : Int) := by
              have : ((nb s 0 : Nat) : Int) = kind := by simpa using g2
              exact this.symm
            subst hkind
            have hbl : b.length = nb s 1 := by rw [← h]; simp; omega
            have hz := k4.2.2.2
            unfold allz at hz
            have hzz : (s.take 60).drop (2 + nb s 1) = List.replicate (58 - nb s 1) 0 := by
              rw [List.eq_replicate_iff]
              refine ⟨by simp; omega, fun x hx => ?_⟩
              have := List.all_eq_true.1 hz x hx
              simpa using this
            have hp : pre60 (nb s 0) b = s.take 60 := by
              have e : s.take 60 = (s.take 60).take (2 + nb s 1) ++ (s.take 60).drop (2 + nb s 1) := (List.take_append_drop _ _).symm
              rw [e, hzz, List.take_take, Nat.min_eq_left (by omega)]
              unfold pre60
              rw [hbl]
              have e2 : s.take (2 + nb s 1) = (s.take (2 + nb s 1)).take 2 ++ (s.take (2 + nb s 1)).drop 2 := (List.take_append_drop _ _).symm
              rw [e2, h, List.take_take, Nat.min_eq_left (by omega)]
              have e3 : s.take 2 = [UInt8.ofNat (nb s 0), UInt8.ofNat (nb s 1)] := by
                match s, hl with
                | x :: y :: r, _ => simp [nb, UInt8.ofNat_toNat]
              rw [e3]
              rfl
            unfold makeP
            rw [if_neg (by omega), if_neg (by omega)]
            simp only [Int.toNat_natCast, Prod.mk.injEq, and_true]
            unfold recL
            rw [hp, ← hs]

theorem enc4_inj {a c : Nat} (ha : a < 4294967296) (hc : c < 4294967296) (h : enc a 4 = enc c 4) : a = c := by
  have h1 := enc_num a 4
  have h2 := enc_num c 4
  rw [h] at h1
  have : a % 256 ^ 4 = c % 256 ^ 4 := h1.symm.trans h2
  have e : (256 : Nat) ^ 4 = 4294967296 := by decide
  rw [e, Nat.mod_eq_of_lt ha, Nat.mod_eq_of_lt hc] at this
  exact this

theorem byte_other {xs : List UInt8} (hx : xs.length = 60) {at' : Nat} {to : UInt8} (ha : at' < 64) (hne : (sealL xs)[at']?.getD 0 ≠ to) : kindP ((sealL xs).set at' to) = (0, 9) := by
  have hl : (sealL xs).length = 64 := by rw [sealL_length, hx]
  unfold kindP
  rw [if_neg (by rw [List.length_set, hl]; simp), if_pos]
  intro he
  by_cases h60 : at' < 60
  · have e1 : ((sealL xs).set at' to).take 60 = xs.set at' to := by
      unfold sealL
      rw [List.set_append_left _ _ (by omega), List.take_append_of_le_length (by simp; omega), List.take_of_length_le (by simp; omega)]
    rw [e1] at he
    unfold sealL at he
    rw [List.set_append_left _ _ (by omega)] at he
    have h2 := List.append_cancel_left he
    have h3 := enc4_inj (addN_lt _ _) (addN_lt _ _) h2
    refine addN_set 0 xs at' (by omega) to ?_ h3.symm
    have e2 : (sealL xs)[at']?.getD 0 = xs[at']'(by omega) := by
      unfold sealL
      rw [List.getElem?_append_left (by omega), List.getElem?_eq_getElem (by omega)]
      rfl
    rw [e2] at hne
    exact hne
  · have e1 : ((sealL xs).set at' to).take 60 = xs := by
      unfold sealL
      rw [List.set_append_right _ _ (by omega), List.take_append_of_le_length (by omega), List.take_of_length_le (by omega)]
    rw [e1] at he
    have := congrArg (fun l => l[at']?.getD 0) he
    simp only [List.getElem?_set, hl] at this
    rw [if_pos trivial, if_pos ha] at this
    exact hne this.symm

end Go.Proofs.YtpkeikbiblfidaaGreatDoor


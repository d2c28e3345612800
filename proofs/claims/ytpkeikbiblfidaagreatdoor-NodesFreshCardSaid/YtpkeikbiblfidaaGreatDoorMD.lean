/-
  Texts put together: D1, D2, D3, D4, D5, D6, D7, D8, DA.
-/
import Derived.Test.YtpkeikbiblfidaaGreatDoorMS5
import Derived.Laws.IdiomStrings
import Derived.Deep.RegionHeldLaw
import Derived.Laws.BitsLemmas
import Derived.BigQuiet
import Derived.Laws.Concat
/-
  Contracts of digest: Right, worth, and the reference's digit.
-/
namespace Go.Proofs.YtpkeikbiblfidaaGreatDoor.Dg
open Go.RowKit
set_option linter.unusedVariables false
set_option linter.unusedSimpArgs false

/-- What a digit stands for; -1: it is none. -/
def wor (c : Nat) : Int := if 48 ≤ c ∧ c ≤ 57 then (c : Int) - 48 else if 97 ≤ c ∧ c ≤ 102 then (c : Int) - 87 else -1
end Go.Proofs.YtpkeikbiblfidaaGreatDoor.Dg
/-
  Contracts of digest: marked, Leaf, Node, Right; and the reference's.
-/
namespace Go.Proofs.YtpkeikbiblfidaaGreatDoor.Dg
open Go.RowKit
set_option linter.unusedVariables false
set_option linter.unusedSimpArgs false

theorem strV_data (s : ByteArray) : strV s.data.toList = .string s := by
  unfold strV; rw [Array.toArray_toList]

theorem bytesRow_at (s : ByteArray) (c i : Nat) (h : i < s.size) : (bytesRow s c)[i]? = some (.int .u8 (((s.data.toList)[i]?.getD 0).toNat : Int)) := by
  have h' : i < s.data.size := h
  simp [bytesRow, Array.getElem?_append, h', Array.getElem?_eq_getElem h']
  omega

/-- '[]byte(s)': the new row reads as the text's bytes. -/
theorem cv_rd (s : ByteArray) (hs : s.size ≤ 140737488355328) (w : World) : ∃ c w', (convert 9 128 (.string s)).run Tryz.prog w = .ok (.slice (some ⟨w.heap.size, 0, none⟩) s.size c) w' ∧
    Rd w' (some ⟨w.heap.size, 0, none⟩) s.size c s.data.toList ∧ Below w.heap.size w w' := by
  refine ⟨_, _, run_bytes_of_string w 9 128 5 s Tryz.underlying9 Tryz.underlying128 Tryz.underlying5, ?_, ((Below.refl _ _).drew).alloc (Nat.le_refl _) _⟩
  refine ⟨rfl, grownCap_ge _ _ _ _, hs, grownCap_le_maxLen _ _ _ _ (by unfold maxLen; omega), fun _ => ⟨_, _, rfl, by simp, fun i hi => ?_⟩, fun e => by cases e⟩
  have := World.cell?_alloc_mark w.drew (bytesRow s (grownCap w s.size 0 5)) 5 ((bytesRow s (grownCap w s.size 0 5)).size, (bytesRow s (grownCap w s.size 0 5)).size + 1) (0 + i)
  refine this.trans ?_
  rw [Nat.zero_add]
  exact bytesRow_at s _ i hi

/-- The texts one behind the other. -/
def jn (S : Nat → ByteArray) : Nat → List UInt8
  | 0 => []
  | k + 1 => jn S k ++ (S k).data.toList

theorem jn_mono (S : Nat → ByteArray) {i j : Nat} (h : i ≤ j) : (jn S i).length ≤ (jn S j).length := by
  induction j with
  | zero => obtain rfl : i = 0 := by omega
            exact Nat.le_refl _
  | succ j ih =>
    rcases Nat.lt_or_ge j i with h1 | h1
    · obtain rfl : i = j + 1 := by omega
      exact Nat.le_refl _
    · have := ih h1
      simp only [jn, List.length_append]; omega

theorem jn_part (S : Nat → ByteArray) {i j : Nat} (h : i < j) : (jn S i).length + (S i).size ≤ (jn S j).length := by
  have := jn_mono S (show i + 1 ≤ j by omega)
  simp only [jn, List.length_append] at this
  have e : (S i).data.toList.length = (S i).size := rfl
  omega

/-- The slice value reads as the texts S 0, S 1, .. -/
structure Strs (w : World) (a : Option Addr) (l : Nat) (S : Nat → ByteArray) : Prop where
  at0 : 0 < l → ∃ b off, a = some ⟨b, off, none⟩ ∧ b < w.heap.size ∧ ∀ i, i < l → w.cell? ⟨b, off + i, none⟩ = some (.string (S i))

theorem Strs.later {w w' : World} {a : Option Addr} {l : Nat} {S : Nat → ByteArray} (h : Strs w a l S) (hb : Below w.heap.size w w') : Strs w' a l S where
  at0 := fun h0 => by
    obtain ⟨b, off, ha, hlt, hc⟩ := h.at0 h0
    exact ⟨b, off, ha, Nat.lt_of_lt_of_le hlt hb.size, fun i hi => by rw [hb.cell (by exact hlt)]; exact hc i hi⟩

set_option maxRecDepth 20000 in
set_option maxHeartbeats 1000000 in
theorem marked_any (c : Int) (x : UInt8) (hc : c = (x.toNat : Int)) (a : Option Addr) (l cap : Nat) (S : Nat → ByteArray) (w : World) (hP : Strs w a l S) (hK : Kon w) (hl : (jn S l).length ≤ 1000000000) (hl2 : l ≤ 9223372036854775807) :
    Calls Tryz.prog 165 #[.int .u8 c, .slice a l cap] w fun e w' => e = .returned (strV (dig (x :: jn S l))) ∧ Below w.heap.size w w' := by
  subst hc
  have HK := Lib.hid hK
  have HP := Lib.hid hP
  clear hK hP
  go_enter Tryz.func165, Tryz.ntmps165
  go_wp2_with fail
  refine (new_hash _).mono ?_
  rintro e w1 ⟨p, rfl, hp, hh, hb1⟩
  have hp0 : p ≠ 2 := by have := HK.out.lt; omega
  have HK1 := Lib.hid (HK.out.below hb1)
  have HH := Lib.hid hh
  have HB1 := Lib.hid hb1
  have hpl := hh.lt
  clear hh hb1
  go_wp2_with fail
  have hba : Below w1.heap.size w1 (w1.alloc (.cells #[.int .u8 (x.toNat : Int)] 5)) := (Below.refl _ _).alloc (Nat.le_refl _) _
  refine (write_any p [] (some ⟨w1.heap.size, 0, none⟩) 1 1 [x] _ (HH.out.below hba) (one_rd w1 _ x rfl) (fun x e _ => by cases e; show w1.heap.size ≠ p; omega) (HK1.out.below hba) hp0 (by simp)).mono ?_
  rintro e w2 ⟨rfl, hst, hgr⟩
  have hH2 : Hsh w2 p (x :: jn S 0) := hst.hsh (by simp)
  have hB1a := HB1.out.trans (hba.mono HB1.out.size)
  have hB2 : Below w.heap.size w w2 := hB1a.grown hgr hB1a.size (fun j hj => by cases hj; exact hp)
  clear hst hgr hba hB1a hpl
  go_wp2
  go_loopw [15] (fun i wr => ∃ k : Nat, k ≤ l ∧ i = .int .i64 k ∧ Hsh wr p (x :: jn S k) ∧ Below w.heap.size w wr) (fun i _ => l - (intOf i).toNat)
  case atStart => exact ⟨0, by omega, rfl, hH2, hB2⟩
  case round =>
    clear hH2 hB2
    obtain ⟨k, hk, rfl, hh, hB⟩ := hrel
    by_cases hlt : k < l
    · have i1 : (k : Int) < (l : Int) := by omega
      obtain ⟨b, off, rfl, hbl, hel⟩ := HP.out.at0 (by omega)
      have hc : wr.cell? ⟨b, off + k, none⟩ = some (.string (S k)) := by rw [hB.cell (by exact hbl)]; exact hel k hlt
      have hkl := jn_part S hlt
      have hk1 := jn_mono S (show k ≤ l by omega)
      obtain ⟨cp, w3, hcv, hrd, hb3⟩ := cv_rd (S k) (by omega) wr
      have hne : ∀ x, some (⟨wr.heap.size, 0, none⟩ : Addr) = some x → 0 < (S k).size → x.block ≠ p := fun x e _ => by
        cases e; have := hh.lt; show wr.heap.size ≠ p; omega
      have hw := write_any p (x :: jn S k) _ _ cp _ w3 (hh.below hb3) hrd hne ((HK.out.below hB).below hb3) hp0 (by simp; omega)
      have HW := Lib.hid hw
      have HB3 := Lib.hid (hB.trans (hb3.mono hB.size))
      have HJ := Lib.hid hkl
      have HJ1 := Lib.hid hk1
      clear hw hB hb3 hh hrd hel hne hkl hk1
      go_wp2_with fail
      refine HW.out.mono ?_
      rintro e w4 ⟨rfl, hst, hgr⟩
      have hB4 := HB3.out.grown hgr HB3.out.size (fun j hj => by cases hj; exact hp)
      have hH4 : Hsh w4 p (x :: jn S (k + 1)) := hst.hsh (by have h1 := HJ.out; have h2 := HJ1.out; have e : (S k).data.toList.length = (S k).size := rfl; simp; omega)
      clear hst hgr hcv
      go_wp2
      go_roundw
      case rel => exact ⟨k + 1, by omega, by go_num, hH4, hB4⟩
      case measure => simp [intOf]; omega
    · obtain rfl : k = l := by omega
      have i1 : ¬ (k : Int) < (k : Int) := by omega
      have hs := hsum_any p (x :: jn S k) wr hh (HK.out.below hB) (by simp; omega)
      have HS := Lib.hid hs
      have HB := Lib.hid hB
      clear hs hB hh
      go_wp2_with fail
      refine HS.out.mono ?_
      rintro e w4 ⟨rfl, hb4⟩
      go_wp2
      go_ret
      exact ⟨rfl, HB.out.trans (hb4.mono HB.out.size)⟩

set_option maxRecDepth 20000 in
set_option maxHeartbeats 400000 in
theorem leaf_any (s : ByteArray) (w : World) (hK : Kon w) (hl : s.size ≤ 1000000000) :
    Calls Tryz.prog 148 #[.string s] w fun e w' => e = .returned (strV (dig (0 :: s.data.toList))) ∧ Below w.heap.size w w' := by
  have hba : Below w.heap.size w (w.alloc (.cells #[.string s] 9)) := (Below.refl _ _).alloc (Nat.le_refl _) _
  have hm := marked_any 0 0 rfl (some ⟨w.heap.size, 0, none⟩) 1 1 (fun _ => s) (w.alloc (.cells #[.string s] 9)) ⟨fun _ => ⟨_, _, rfl, by simp, fun i hi => by
    obtain rfl : i = 0 := by omega
    exact World.cell?_alloc_at _ _ _ _ rfl⟩⟩ (hK.below hba) (by simpa [jn] using hl) (by omega)
  have hj : jn (fun _ => s) 1 = s.data.toList := by simp [jn]
  rw [hj] at hm
  have HM := Lib.hid hm
  have HBA := Lib.hid hba
  clear hm hj hba hK
  go_enter Tryz.func148, Tryz.ntmps148
  go_wp2_with fail
  refine HM.out.mono ?_
  rintro e w4 ⟨rfl, hb4⟩
  go_wp2
  go_ret
  exact ⟨rfl, HBA.out.trans (hb4.mono HBA.out.size)⟩

set_option maxRecDepth 20000 in
set_option maxHeartbeats 400000 in
theorem node_any (a : Option Addr) (l cap : Nat) (S : Nat → ByteArray) (w : World) (hP : Strs w a l S) (hK : Kon w) (hl : (jn S l).length ≤ 1000000000) (hl2 : l ≤ 9223372036854775807) :
    Calls Tryz.prog 150 #[.slice a l cap] w fun e w' => e = .returned (strV (dig (1 :: jn S l))) ∧ Below w.heap.size w w' := by
  have hm := marked_any 1 1 rfl a l cap S w hP hK hl hl2
  have HM := Lib.hid hm
  clear hm hP hK
  go_enter Tryz.func150, Tryz.ntmps150
  go_wp2_with fail
  refine HM.out.mono ?_
  rintro e w4 ⟨rfl, hb4⟩
  go_wp2
  go_ret
  exact ⟨rfl, hb4⟩

set_option maxRecDepth 20000 in
theorem dright_any (s : ByteArray) (w : World) (hl : s.size ≤ 9223372036854775807) :
    Calls Tryz.prog 96 #[.string s] w fun e w' => e = .returned (.bool (decide (s.size = 32))) ∧ w' = w := by
  go_enter Tryz.func96, Tryz.ntmps96
  go_wp2
  go_ret
  refine ⟨?_, rfl⟩
  by_cases h : s.size = 32 <;> simp [h] <;> omega

set_option maxRecDepth 20000 in
theorem drright_any (s : ByteArray) (w : World) (hl : s.size ≤ 9223372036854775807) :
    Calls Tryz.prog 105 #[.string s] w fun e w' => e = .returned (.bool (decide (s.size = 32))) ∧ w' = w := by
  go_enter Tryz.func105, Tryz.ntmps105
  go_wp2
  go_ret
  refine ⟨?_, rfl⟩
  by_cases h : s.size = 32 <;> simp [h] <;> omega
end Go.Proofs.YtpkeikbiblfidaaGreatDoor.Dg
/-
  Contracts of digest: Hex and the reference's.
-/
namespace Go.Proofs.YtpkeikbiblfidaaGreatDoor.Dg
open Go.RowKit
set_option linter.unusedVariables false
set_option linter.unusedSimpArgs false

/-- One of the sixteen digits. -/
def hx (n : Nat) : UInt8 := [48, 49, 50, 51, 52, 53, 54, 55, 56, 57, 97, 98, 99, 100, 101, 102].getD n 0
/-- Bytes in digits of base 16. -/
def hexL : List UInt8 → List UInt8
  | [] => []
  | b :: bs => hx (b.toNat / 16) :: hx (b.toNat % 16) :: hexL bs

theorem hexL_append (xs ys : List UInt8) : hexL (xs ++ ys) = hexL xs ++ hexL ys := by
  induction xs with
  | nil => rfl
  | cons x xs ih => simp [hexL, ih]

theorem hexL_length (xs : List UInt8) : (hexL xs).length = 2 * xs.length := by
  induction xs with
  | nil => rfl
  | cons x xs ih => simp [hexL, ih]; omega

theorem take_next (xs : List UInt8) (k : Nat) (h : k < xs.length) : xs.take (k + 1) = xs.take k ++ [xs[k]?.getD 0] := by
  rw [List.take_add_one, List.getElem?_eq_getElem h]; rfl

theorem hexL_step (xs : List UInt8) (k : Nat) (h : k < xs.length) : hexL (xs.take (k + 1)) = hexL (xs.take k) ++ [hx ((xs[k]?.getD 0).toNat / 16), hx ((xs[k]?.getD 0).toNat % 16)] := by
  rw [take_next xs k h, hexL_append]; rfl

theorem make_c (c : Nat) (h : c ≤ 1000) (w : World) : (Instr.makeSlice 128 (.int .i64 0) (.int .i64 (c : Int))).run Tryz.prog w = .ok (.slice (some ⟨w.heap.size, 0, none⟩) 0 c) (w.alloc (.cells (madeCells #[.int .u8 0] c) 5)) := by
  obtain ⟨i, hi, hz, hs, hb⟩ := info_parts Tryz.info5
  have := run_make (P := Tryz.prog) w 128 5 i (.int .u8 0) Tryz.underlying128 hi hz .i64 .i64 0 (c : Int) (by omega) (by omega) (by rw [hb]; omega) (by omega)
  simp [hs] at this
  exact this

theorem owns_madec {w : World} {B g c : Nat} (hB : B ≤ g) (hc : c ≤ 1000) (h : w.heap[g]? = some (.cells (madeCells #[.int .u8 0] c) 5 (0, 0))) : w.ownsRow B 5 1 (.slice (some ⟨g, 0, none⟩) 0 c) 0 (bvs []) :=
  ⟨rfl, .inr ⟨g, c, _, rfl, hB, h, by omega, by unfold maxLen; omega, by simp [size_madeCells], by simp [bvs]⟩⟩

/-- Byte k of a text. -/
theorem index_text (s : ByteArray) (k : Nat) (h : k < s.size) (w : World) : (Instr.index 9 (.string s) (.int .i64 (k : Int))).run Tryz.prog w = .ok (.int .u8 (((s.data.toList)[k]?.getD 0).toNat : Int)) w := by
  rw [run_index_string w 9 s .i64 (k : Int) Tryz.underlying9, dif_pos ⟨by omega, by omega⟩]
  have h' : k < s.data.size := h
  have e : (s.data.toList)[k]?.getD 0 = s[k] := by
    rw [List.getElem?_eq_getElem (by simpa using h')]; rfl
  rw [e]
  rfl

def sixteen : ByteArray := ⟨#[48, 49, 50, 51, 52, 53, 54, 55, 56, 57, 97, 98, 99, 100, 101, 102]⟩
theorem index_digit (n : Nat) (h : n < 16) (w : World) : (Instr.index 9 (.string ⟨#[48, 49, 50, 51, 52, 53, 54, 55, 56, 57, 97, 98, 99, 100, 101, 102]⟩) (.int .u8 (n : Int))).run Tryz.prog w = .ok (.int .u8 ((hx n).toNat : Int)) w := by
  rw [run_index_string w 9 ⟨#[48, 49, 50, 51, 52, 53, 54, 55, 56, 57, 97, 98, 99, 100, 101, 102]⟩ .u8 (n : Int) Tryz.underlying9, dif_pos ⟨by omega, by show (n : Int) < (16 : Nat); omega⟩]
  match n, h with
  | 0, _ => rfl
  | 1, _ => rfl
  | 2, _ => rfl
  | 3, _ => rfl
  | 4, _ => rfl
  | 5, _ => rfl
  | 6, _ => rfl
  | 7, _ => rfl
  | 8, _ => rfl
  | 9, _ => rfl
  | 10, _ => rfl
  | 11, _ => rfl
  | 12, _ => rfl
  | 13, _ => rfl
  | 14, _ => rfl
  | 15, _ => rfl
  | n + 16, h => exact absurd h (by omega)

/-- What Hex answers. -/
def hexV (s : ByteArray) : Value := if s.size = 32 then strV (hexL s.data.toList) else strV []
end Go.Proofs.YtpkeikbiblfidaaGreatDoor.Dg
/-
  Contracts of digest: the reference's Digits and Hex.
-/
namespace Go.Proofs.YtpkeikbiblfidaaGreatDoor.Dg
open Go.RowKit
set_option linter.unusedVariables false
set_option linter.unusedSimpArgs false

set_option maxRecDepth 20000 in
theorem digit_cut (n : Nat) (h : n < 16) (w : World) : (Instr.sliceAt 9 (.string ⟨#[48, 49, 50, 51, 52, 53, 54, 55, 56, 57, 97, 98, 99, 100, 101, 102]⟩) (some (.int .u8 (n : Int))) (some (.int .u8 ((n : Int) + 1))) none).run Tryz.prog w = .ok (.string ⟨#[hx n]⟩) w := by
  match n, h with
  | 0, _ => (change _ = _; kernel_rfl)
  | 1, _ => (change _ = _; kernel_rfl)
  | 2, _ => (change _ = _; kernel_rfl)
  | 3, _ => (change _ = _; kernel_rfl)
  | 4, _ => (change _ = _; kernel_rfl)
  | 5, _ => (change _ = _; kernel_rfl)
  | 6, _ => (change _ = _; kernel_rfl)
  | 7, _ => (change _ = _; kernel_rfl)
  | 8, _ => (change _ = _; kernel_rfl)
  | 9, _ => (change _ = _; kernel_rfl)
  | 10, _ => (change _ = _; kernel_rfl)
  | 11, _ => (change _ = _; kernel_rfl)
  | 12, _ => (change _ = _; kernel_rfl)
  | 13, _ => (change _ = _; kernel_rfl)
  | 14, _ => (change _ = _; kernel_rfl)
  | 15, _ => (change _ = _; kernel_rfl)
  | n + 16, h => exact absurd h (by omega)

/-- Two texts, one behind the other. -/
theorem add_texts (xs ys : List UInt8) (hx : xs.length + ys.length ≤ 9223372036854775807) (w : World) : (binOp .add 9 (strV xs) (strV ys)).run Tryz.prog w = .ok (strV (xs ++ ys)) w := by
  unfold strV
  rw [binOp_string_add, run_string_add_sum w _ _ (by simp [ByteArray.size]; omega), ByteArray.mk_append_mk]
end Go.Proofs.YtpkeikbiblfidaaGreatDoor.Dg
/-
  Contracts of digest: digits read back, on lists; the reference's Hex.
-/
namespace Go.Proofs.YtpkeikbiblfidaaGreatDoor.Dg
open Go.RowKit
set_option linter.unusedVariables false
set_option linter.unusedSimpArgs false

/-- Byte i of a text. -/
def bt (xs : List UInt8) (i : Nat) : Nat := (xs[i]?.getD 0).toNat
theorem bt_lt (xs : List UInt8) (i : Nat) : bt xs i < 256 := UInt8.toNat_lt _

/-- The byte that two digits stand for. -/
def pairB (a b : Nat) : UInt8 := UInt8.ofNat (16 * (wor a).toNat + (wor b).toNat)

/-- The first k pairs of digits read back. -/
def unP (xs : List UInt8) : Nat → Option (List UInt8)
  | 0 => some []
  | k + 1 => match unP xs k with
    | none => none
    | some o => if wor (bt xs (2 * k)) < 0 ∨ wor (bt xs (2 * k + 1)) < 0 then none else some (o ++ [pairB (bt xs (2 * k)) (bt xs (2 * k + 1))])

theorem wor_lt (c : Nat) : wor c < 16 ∧ -1 ≤ wor c := by
  unfold wor
  split
  · omega
  · split <;> omega

theorem unP_bad {xs : List UInt8} {k : Nat} {o : List UInt8} (h : unP xs k = some o) (hb : wor (bt xs (2 * k)) < 0 ∨ wor (bt xs (2 * k + 1)) < 0) : unP xs (k + 1) = none := by
  simp only [unP, h, if_pos hb]

theorem unP_good {xs : List UInt8} {k : Nat} {o : List UInt8} (h : unP xs k = some o) (h1 : ¬ wor (bt xs (2 * k)) < 0) (h2 : ¬ wor (bt xs (2 * k + 1)) < 0) :
    unP xs (k + 1) = some (o ++ [pairB (bt xs (2 * k)) (bt xs (2 * k + 1))]) := by
  simp only [unP, h]; rw [if_neg (by omega)]

theorem unP_none {xs : List UInt8} {i j : Nat} (hij : i ≤ j) (h : unP xs i = none) : unP xs j = none := by
  induction j with
  | zero => obtain rfl : i = 0 := by omega
            exact h
  | succ j ih =>
    rcases Nat.lt_or_ge j i with h1 | h1
    · obtain rfl : i = j + 1 := by omega
      exact h
    · simp only [unP, ih h1]

theorem unP_length {xs : List UInt8} : ∀ {k : Nat} {o : List UInt8}, unP xs k = some o → o.length = k := by
  intro k
  induction k with
  | zero => intro o h; simp only [unP, Option.some.injEq] at h; subst h; rfl
  | succ k ih =>
    intro o h
    cases hk : unP xs k with
    | none => simp only [unP, hk] at h; cases h
    | some o1 =>
      simp only [unP, hk] at h
      split at h
      · cases h
      · simp only [Option.some.injEq] at h
        subst h
        have := ih hk
        simp; omega

theorem pair_nat (a b : Nat) : (pairB a b).toNat = 16 * (wor a).toNat + (wor b).toNat := by
  have h1 := wor_lt a; have h2 := wor_lt b
  unfold pairB
  rw [UInt8.toNat_ofNat']
  omega

theorem wor_hx : ∀ n, n < 16 → wor (hx n).toNat = (n : Int) := by decide +kernel
theorem hx_wor : ∀ c, c < 256 → 0 ≤ wor c → hx (wor c).toNat = UInt8.ofNat c := by decide +kernel

theorem hexL_at (xs : List UInt8) : ∀ (k : Nat), k < xs.length → bt (hexL xs) (2 * k) = (hx ((xs[k]?.getD 0).toNat / 16)).toNat ∧ bt (hexL xs) (2 * k + 1) = (hx ((xs[k]?.getD 0).toNat % 16)).toNat := by
  induction xs with
  | nil => intro k h; simp at h
  | cons x xs ih =>
    intro k h
    cases k with
    | zero => exact ⟨rfl, rfl⟩
    | succ k =>
      have := ih k (by simpa using h)
      rw [show 2 * (k + 1) = 2 * k + 2 from by omega]
      simpa [bt, hexL] using this

/-- What is told is read back. -/
theorem unP_hex (xs : List UInt8) : ∀ (k : Nat), k ≤ xs.length → unP (hexL xs) k = some (xs.take k) := by
  intro k
  induction k with
  | zero => intro _; rfl
  | succ k ih =>
    intro h
    have h0 := ih (by omega)
    obtain ⟨h1, h2⟩ := hexL_at xs k (by omega)
    have hb := (xs[k]?.getD 0).toNat_lt
    have w1 := wor_hx ((xs[k]?.getD 0).toNat / 16) (by omega)
    have w2 := wor_hx ((xs[k]?.getD 0).toNat % 16) (by omega)
    rw [← h1] at w1
    rw [← h2] at w2
    rw [unP_good h0 (by omega) (by omega), take_next xs k (by omega)]
    have : pairB (bt (hexL xs) (2 * k)) (bt (hexL xs) (2 * k + 1)) = xs[k]?.getD 0 := by
      apply UInt8.toNat_inj.1
      rw [pair_nat, w1, w2]
      omega
    rw [this]

/-- And back. -/
theorem hex_unP (xs : List UInt8) : ∀ (k : Nat) (o : List UInt8), 2 * k ≤ xs.length → unP xs k = some o → hexL o = xs.take (2 * k) := by
  intro k
  induction k with
  | zero => intro o _ h; simp only [unP, Option.some.injEq] at h; subst h; rfl
  | succ k ih =>
    intro o hl h
    cases hk : unP xs k with
    | none => simp only [unP, hk] at h; cases h
    | some o1 =>
      simp only [unP, hk] at h
      split at h
      · cases h
      · rename_i hn
        simp only [Option.some.injEq] at h
        subst h
        have a1 := wor_lt (bt xs (2 * k)); have a2 := wor_lt (bt xs (2 * k + 1))
        have c1 := hx_wor _ (bt_lt xs (2 * k)) (by omega)
        have c2 := hx_wor _ (bt_lt xs (2 * k + 1)) (by omega)
        have e1 : UInt8.ofNat (bt xs (2 * k)) = xs[2 * k]?.getD 0 := by unfold bt; simp
        have e2 : UInt8.ofNat (bt xs (2 * k + 1)) = xs[2 * k + 1]?.getD 0 := by unfold bt; simp
        rw [hexL_append, ih o1 (by omega) hk, show 2 * (k + 1) = 2 * k + 1 + 1 from by omega, take_next xs (2 * k + 1) (by omega), take_next xs (2 * k) (by omega)]
        simp only [hexL, pair_nat, List.append_assoc, List.cons_append, List.nil_append]
        rw [show (16 * (wor (bt xs (2 * k))).toNat + (wor (bt xs (2 * k + 1))).toNat) / 16 = (wor (bt xs (2 * k))).toNat from by omega,
          show (16 * (wor (bt xs (2 * k))).toNat + (wor (bt xs (2 * k + 1))).toNat) % 16 = (wor (bt xs (2 * k + 1))).toNat from by omega, c1, c2, e1, e2]

/-- What Back answers: the digest, and why not. -/
def backP (xs : List UInt8) : List UInt8 × Int := if xs.length = 64 then match unP xs 32 with
  | none => ([], 6)
  | some o => (o, 0) else ([], 4)
def backV (s : ByteArray) : Value := .tuple #[strV (backP s.data.toList).1, .int .i64 (backP s.data.toList).2]
end Go.Proofs.YtpkeikbiblfidaaGreatDoor.Dg
/-
  Contracts of digest: Back.
-/
namespace Go.Proofs.YtpkeikbiblfidaaGreatDoor.Dg
open Go.RowKit
set_option linter.unusedVariables false
set_option linter.unusedSimpArgs false

theorem or_pair : ∀ A, A < 16 → ∀ B, B < 16 → bits .or .i64 ((A : Nat) * 16 : Int) (B : Nat) = ((16 * A + B : Nat) : Int) := by decide +kernel
end Go.Proofs.YtpkeikbiblfidaaGreatDoor.Dg
/-
  Contracts of digest: the reference's Undigits and Back.
-/
namespace Go.Proofs.YtpkeikbiblfidaaGreatDoor.Dg
open Go.RowKit
set_option linter.unusedVariables false
set_option linter.unusedSimpArgs false

/-- What Undigits answers for 64 digits. -/
def undP (xs : List UInt8) : List UInt8 × Bool := match unP xs 32 with
  | none => ([], false)
  | some o => (o, true)
def undV (s : ByteArray) : Value := .tuple #[strV (undP s.data.toList).1, .bool (undP s.data.toList).2]
end Go.Proofs.YtpkeikbiblfidaaGreatDoor.Dg
/-
  The fixed calls of the laws of digest; the reference's Leaf and Node.
-/
namespace Go.Proofs.YtpkeikbiblfidaaGreatDoor.Dg
open Go.RowKit
set_option linter.unusedVariables false
set_option linter.unusedSimpArgs false

def dA : List UInt8 := [110, 52, 11, 156, 255, 179, 122, 152, 156, 165, 68, 230, 187, 120, 10, 44, 120, 144, 29, 63, 179, 55, 56, 118, 133, 17, 163, 6, 23, 175, 160, 29]
def dN : List UInt8 := [75, 245, 18, 47, 52, 69, 84, 197, 59, 222, 46, 187, 140, 210, 183, 227, 209, 96, 10, 214, 49, 195, 133, 165, 215, 204, 226, 60, 119, 133, 69, 154]
def dX : List UInt8 := [54, 101, 51, 52, 48, 98, 57, 99, 102, 102, 98, 51, 55, 97, 57, 56, 57, 99, 97, 53, 52, 52, 101, 54, 98, 98, 55, 56, 48, 97, 50, 99, 55, 56, 57, 48, 49, 100, 51, 102, 98, 51, 51, 55, 51, 56, 55, 54, 56, 53, 49, 49, 97, 51, 48, 54, 49, 55, 97, 102, 97, 48, 49, 100]
theorem dig_A : dig [0] = dA := by decide +kernel
theorem dig_N : dig [1] = dN := by decide +kernel
theorem hex_A : hexL dA = dX := by decide +kernel
theorem back_A : backP dX = (dA, 0) := by decide +kernel

theorem len_A (w : World) : (Builtin.len_ #[9] 3 #[strV dA]).run Tryz.prog w = .ok (.int .i64 32) w := by kernel_rfl
theorem len_X (w : World) : (Builtin.len_ #[9] 3 #[strV dX]).run Tryz.prog w = .ok (.int .i64 64) w := by kernel_rfl
theorem neq_NA (w : World) : (binOp .neq 9 (strV dN) (strV dA)).run Tryz.prog w = .ok (.bool true) w := by kernel_rfl
theorem guard_NA (x y : Operand) (w : World) : (eqGuard .neq 9 x y (strV dN) (strV dA)).run Tryz.prog w = .ok () w := by unfold strV; go_simp
end Go.Proofs.YtpkeikbiblfidaaGreatDoor.Dg
/-
  Contracts of digest: the reference's Leaf and Node.
-/
namespace Go.Proofs.YtpkeikbiblfidaaGreatDoor.Dg
open Go.RowKit
set_option linter.unusedVariables false
set_option linter.unusedSimpArgs false

theorem add_text (xs : List UInt8) (s : ByteArray) (hx : xs.length + s.size ≤ 9223372036854775807) (w : World) : (binOp .add 9 (strV xs) (.string s)).run Tryz.prog w = .ok (strV (xs ++ s.data.toList)) w := by
  have := add_texts xs s.data.toList hx w
  rw [strV_data] at this
  exact this

set_option maxRecDepth 20000 in
set_option maxHeartbeats 400000 in
theorem rleaf_any (s : ByteArray) (w : World) (hl : s.size ≤ 1000000000) :
    Calls Tryz.prog 44 #[.string s] w fun e w' => e = .returned (strV (dig (0 :: s.data.toList))) ∧ Below w.heap.size w w' := by
  have ha : ∀ w, (binOp .add 9 (.string ⟨#[0]⟩) (.string s)).run Tryz.prog w = .ok (.string ⟨(0 :: s.data.toList).toArray⟩) w := fun w => add_text [0] s (by simp; omega) w
  obtain ⟨T, hT⟩ : ∃ T : ByteArray, T = ⟨(0 :: s.data.toList).toArray⟩ := ⟨_, rfl⟩
  rw [← hT] at ha
  have hTl : T.data.toList = 0 :: s.data.toList := by subst hT; rfl
  have hTs : T.size = s.size + 1 := by
    have h : T.data.toList.length = T.size := rfl
    have h2 : s.data.toList.length = s.size := rfl
    rw [hTl] at h; simp only [List.length_cons] at h; omega
  obtain ⟨cp, w3, hcv, hrd, hb3⟩ := cv_rd T (by omega) w
  have hs := rsum_any _ _ cp _ w3 hrd (by omega)
  rw [hTl] at hs
  have HS := Lib.hid hs
  have HB := Lib.hid hb3
  generalize T.size = n at HS hcv
  generalize (Value.string T) = VT at ha hcv
  generalize (Value.string s) = VS at ha ⊢
  clear hs hb3 hrd hT hTl hTs
  go_enter Tryz.func44, Tryz.ntmps44
  go_wp2_with fail
  refine HS.out.mono ?_
  rintro e w4 ⟨rfl, hb4⟩
  go_wp2
  go_ret
  exact ⟨rfl, HB.out.trans (hb4.mono HB.out.size)⟩

set_option maxRecDepth 20000 in
set_option maxHeartbeats 1000000 in
theorem rnode_any (a : Option Addr) (l cap : Nat) (S : Nat → ByteArray) (w : World) (hP : Strs w a l S) (hl : (jn S l).length ≤ 1000000000) (hl2 : l ≤ 9223372036854775807) :
    Calls Tryz.prog 121 #[.slice a l cap] w fun e w' => e = .returned (strV (dig (1 :: jn S l))) ∧ Below w.heap.size w w' := by
  have HP := Lib.hid hP
  have h1 : (.string ⟨#[1]⟩ : Value) = strV (1 :: jn S 0) := rfl
  have hB := Below.refl w.heap.size w
  clear hP
  go_enter Tryz.func121, Tryz.ntmps121
  go_wp2
  go_loopw [3, 4] (fun v i wr => ∃ k : Nat, k ≤ l ∧ i = .int .i64 k ∧ v = strV (1 :: jn S k) ∧ Below w.heap.size w wr) (fun _ i _ => l - (intOf i).toNat)
  case atStart => exact ⟨0, by omega, rfl, h1, hB⟩
  case round =>
    clear hB h1
    obtain ⟨k, hk, rfl, rfl, hB⟩ := hrel
    by_cases hlt : k < l
    · have i1 : (k : Int) < (l : Int) := by omega
      obtain ⟨b, off, rfl, hbl, hel⟩ := HP.out.at0 (by omega)
      have hc : wr.cell? ⟨b, off + k, none⟩ = some (.string (S k)) := by rw [hB.cell (by exact hbl)]; exact hel k hlt
      have hkl := jn_part S hlt
      have ha := add_text (1 :: jn S k) (S k) (by simp; omega)
      change ∀ w, _ = Result.ok (strV (1 :: jn S (k + 1))) w at ha
      obtain ⟨V0, hV0⟩ : ∃ V, V = strV (1 :: jn S k) := ⟨_, rfl⟩
      obtain ⟨V1, hV1⟩ : ∃ V, V = strV (1 :: jn S (k + 1)) := ⟨_, rfl⟩
      rw [← hV0, ← hV1] at ha
      rw [← hV0]
      have HV := Lib.hid hV1
      have HB := Lib.hid hB
      clear hV0 hV1 hB hel hkl
      go_wp2
      go_roundw
      case rel => exact ⟨k + 1, by omega, by go_num, HV.out, HB.out⟩
      case measure => simp [intOf]; omega
    · obtain rfl : k = l := by omega
      have i1 : ¬ (k : Int) < (k : Int) := by omega
      obtain ⟨T, hT⟩ : ∃ T : ByteArray, T = ⟨(1 :: jn S k).toArray⟩ := ⟨_, rfl⟩
      have hTl : T.data.toList = 1 :: jn S k := by subst hT; rfl
      have hTs : T.size = (jn S k).length + 1 := by
        have h : T.data.toList.length = T.size := rfl
        rw [hTl] at h; simp only [List.length_cons] at h; omega
      rw [show strV (1 :: jn S k) = .string T from by subst hT; rfl]
      obtain ⟨cp, w3, hcv, hrd, hb3⟩ := cv_rd T (by omega) wr
      have hs := rsum_any _ _ cp _ w3 hrd (by omega)
      rw [hTl] at hs
      have HS := Lib.hid hs
      have HB := Lib.hid (hB.trans (hb3.mono hB.size))
      clear hs hb3 hrd hT hTl hTs hB
      go_wp2_with fail
      refine HS.out.mono ?_
      rintro e w4 ⟨rfl, hb4⟩
      go_wp2
      go_ret
      exact ⟨rfl, HB.out.trans (hb4.mono HB.out.size)⟩
end Go.Proofs.YtpkeikbiblfidaaGreatDoor.Dg

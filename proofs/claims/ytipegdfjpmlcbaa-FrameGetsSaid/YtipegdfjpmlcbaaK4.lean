/-
  Contracts: the program's Add and Sum; the fixed calls.
-/
import Derived.Test.YtipegdfjpmlcbaaK3
import Derived.Lib.SlBytesConst
namespace Go.Proofs.Ytipegdfjpmlcbaa
open Go.RowKit
set_option linter.unusedVariables false

theorem tab_at {T : Array Value} (hT : T = ((List.range 256).map fun i => Value.int .u32 (ent i : Int)).toArray) (j : Nat) (hj : j < 256) : T[j]? = some (.int .u32 (ent j : Int)) := by
  subst hT
  simp [hj]

set_option maxRecDepth 20000 in
set_option maxHeartbeats 1000000 in
theorem add_any (s : Nat) (a : Option Addr) (n cap : Nat) (xs : List UInt8) (w : World) (hR : Rd w a n cap xs) (hs : s < 4294967296) :
    Calls Try.prog 36 #[.int .u32 s, .slice a n cap] w fun e w' => e = .returned (.int .u32 (addN s xs : Int)) ∧ Below w.heap.size w w' := by
  obtain ⟨Z, hZ⟩ : ∃ Z : Array Value, Z = Array.replicate 256 (.int .u32 0) := ⟨_, rfl⟩
  have hz := zero_table
  rw [← hZ] at hz
  have hzs : Z.size = 256 := by rw [hZ]; simp
  obtain ⟨T, hT⟩ : ∃ T : Array Value, T = ((List.range 256).map fun i => Value.int .u32 (ent i : Int)).toArray := ⟨_, rfl⟩
  have hts : T.size = 256 := by rw [hT]; simp
  have ht := table_any
  rw [← hT] at ht
  have hone : T.all (·.oneCell') = true := by rw [hT]; exact all_ent
  have hi31 : (Try.prog.info? 70).map (·.size) = some T.size := by rw [hts]; kernel_rfl
  have hZT : Z.size = T.size := by rw [hzs, hts]
  have htab := Lib.hid (tab_at hT)
  have HT := Lib.hid ht
  have hbig := hR.big
  have hlen := Lib.hid hR.len
  obtain ⟨t, htt⟩ : ∃ t, t = 4294967295 - s := ⟨_, rfl⟩
  have hnot := not_u32 s hs
  rw [← htt] at hnot
  have htl : t < 4294967296 := by omega
  have H1 := Lib.hid htt
  clear htt hT hts ht hZ hzs
  go_enter Try.func36, Try.ntmps36
  go_wp2_with fail
  refine (HT.out _).mono ?_
  rintro e w1 ⟨rfl, hb1⟩
  have hnew := heap_alloc_new w1 (.cells Z 70)
  go_wp2_with (with_reducible refine wpList_store_row (o := ⟨none, _, _, _, _, _⟩) rfl 70 (.tmp 5) (.tmp 9) rfl w1.heap.size T rfl rfl 70 Z hnew hi31 hZT hone ?_)
  have hB2 : Below w.heap.size w ((w1.alloc (.cells Z 70)).setRow w1.heap.size T) := below_setRow (hb1.alloc hb1.size _) hb1.size _
  have hrow := setRow_heap (w1.alloc (.cells Z 70)) w1.heap.size Z T 70 (0, 0) hnew
  obtain ⟨g, hg⟩ : ∃ g, g = w1.heap.size := ⟨_, rfl⟩
  rw [← hg] at hB2 hrow ⊢
  obtain ⟨w2, hw2⟩ : ∃ w2, w2 = (w1.alloc (.cells Z 70)).setRow g T := ⟨_, rfl⟩
  rw [← hw2] at hB2 hrow ⊢
  have hR2 := hR.later hB2
  clear hw2 hg hnew hz hi31 hZT hone hb1 hR
  go_loop [6, 14] (fun t' i => ∃ k : Nat, k ≤ n ∧ i = .int .i64 k ∧ t' = .int .u32 (foldN t (xs.take k) : Int)) (fun _ i => n - (intOf i).toNat)
  case atStart => exact ⟨0, by omega, rfl, rfl⟩
  case round =>
    clear hnot
    obtain ⟨k, hk, rfl, rfl⟩ := hrel
    have hfl := foldN_lt t htl (xs.take k)
    by_cases hlt : k < n
    · obtain ⟨b, off, rfl, hb, hc⟩ := hR2.at0 (by omega)
      have hcell := hc k hlt
      clear hc
      have hst := foldN_step t xs k (by rw [hlen.out]; exact hlt)
      obtain ⟨m, hm⟩ : ∃ m, m = foldN t (xs.take k) := ⟨_, rfl⟩
      rw [← hm] at hfl hst ⊢
      generalize xs[k]?.getD 0 = x at hcell hst
      have hx := UInt8.toNat_lt x
      have hj := xor_byte_lt (m % 256) x.toNat (by omega) hx
      have e1 := xor_u8 m x
      have e2 := xor_upd m x hfl
      generalize (m % 256) ^^^ x.toNat = j at hj e1 e2
      have hent : w2.cell? ⟨g, j, none⟩ = some (.int .u32 (ent j : Int)) := (cell_of_row w2 g j T 70 (0, 0) hrow).trans (htab.out j hj)
      have i1 : (0 : Int) ≤ (j : Int) := by omega
      have i2 : (j : Int) < 256 := by omega
      have HS := Lib.hid hst
      clear hst hm hrow
      go_wp2
      go_round
      case rel => exact ⟨k + 1, by omega, by go_num, by rw [HS.out]⟩
      case measure => simp [intOf]; omega
    · have hfin := not_u32 _ hfl
      obtain rfl : k = n := by omega
      have htk : xs.take k = xs := List.take_of_length_le (by rw [hlen.out]; omega)
      rw [htk] at hfin ⊢
      clear hrow
      go_wp2
      go_ret
      exact ⟨by unfold addN; rw [← H1.out]; rfl, hB2⟩

set_option maxRecDepth 20000 in
set_option maxHeartbeats 400000 in
theorem sum_any (a : Option Addr) (n cap : Nat) (xs : List UInt8) (w : World) (hR : Rd w a n cap xs) :
    Calls Try.prog 18 #[.slice a n cap] w fun e w' => e = .returned (.int .u32 (addN 0 xs : Int)) ∧ Below w.heap.size w w' := by
  go_enter Try.func18, Try.ntmps18
  go_wp2_with fail
  refine (add_any 0 a n cap xs _ hR (by omega)).mono ?_
  rintro e w1 ⟨rfl, hb⟩
  go_wp2
  go_ret
  exact ⟨rfl, hb⟩

/-! ### the fixed calls -/
def nine : Array Value := #[.int .u8 49, .int .u8 50, .int .u8 51, .int .u8 52, .int .u8 53, .int .u8 54, .int .u8 55, .int .u8 56, .int .u8 57]

theorem nine_rd (w : World) : Rd (w.alloc (.cells #[.int .u8 49, .int .u8 50, .int .u8 51, .int .u8 52, .int .u8 53, .int .u8 54, .int .u8 55, .int .u8 56, .int .u8 57] 5 (9, 10))) (some ⟨w.heap.size, 0, none⟩) 9 9 [49, 50, 51, 52, 53, 54, 55, 56, 57] := by
  refine ⟨rfl, Nat.le_refl _, by omega, by unfold maxLen; omega, fun _ => ⟨_, _, rfl, by simp, fun i hi => ?_⟩, fun e => by cases e⟩
  rw [World.cell?_alloc_mark, Nat.zero_add]
  match i, hi with
  | 0, _ => rfl
  | 1, _ => rfl
  | 2, _ => rfl
  | 3, _ => rfl
  | 4, _ => rfl
  | 5, _ => rfl
  | 6, _ => rfl
  | 7, _ => rfl
  | 8, _ => rfl

theorem sum_nine : addN 0 [49, 50, 51, 52, 53, 54, 55, 56, 57] = 3808858755 := by decide +kernel
theorem ent_one : ent 1 = 4067132163 := by decide +kernel


end Go.Proofs.Ytipegdfjpmlcbaa


/-
  Texts put together: K1, K2, K3, K4.
-/
import Derived.Test.YtpkeikbiblfidaaGreatDoorB0
import Derived.Test.YtpkeikbiblfidaaGreatDoorK0
import Derived.RegionTactic
import Derived.BigRegion
import Derived.Laws.Tables
import Derived.Lib.SlBytesConst
/-
  Contracts: the table entry, of the program and of the reference.
-/
namespace Go.Proofs.YtpkeikbiblfidaaGreatDoor
open Go.RowKit
set_option linter.unusedVariables false

theorem and_one (n : Nat) (h : n < 4294967296) : bits .and .u32 (n : Int) 1 = ((n % 2 : Nat) : Int) := by
  have := u32_and_nat n 1 h (by omega)
  rw [Nat.and_one_is_mod] at this
  exact this

theorem xor_poly (n : Nat) (h : n < 4294967296) : bits .xor .u32 ((n : Int) / 2) 2197175160 = (((n / 2) ^^^ 2197175160 : Nat) : Int) := by
  have := u32_xor_nat (n / 2) 2197175160 (by omega) (by omega)
  rw [← this]
  simp

theorem step_odd (n : Nat) (h : n % 2 = 1) : stepN n = (n / 2) ^^^ 2197175160 := by unfold stepN; rw [if_pos h]
theorem step_even (n : Nat) (h : ¬ n % 2 = 1) : stepN n = n / 2 := by unfold stepN; rw [if_neg h]

set_option maxRecDepth 20000 in
set_option maxHeartbeats 400000 in
theorem entry_any (i : Nat) (w : World) (hi : i < 256) :
    Calls Tryz.prog 191 #[.int .u8 i] w fun e w' => e = .returned (.int .u32 (ent i : Int)) ∧ w = w' := by
  go_enter Tryz.func191, Tryz.ntmps191
  go_wp2
  go_loop [3, 7] (fun t c => ∃ k : Nat, k ≤ 8 ∧ c = .int .i64 k ∧ t = .int .u32 (stepK k i : Int)) (fun _ c => 8 - (intOf c).toNat)
  case atStart => exact ⟨0, by omega, rfl, by simp [stepK]⟩
  case round =>
    obtain ⟨k, hk, rfl, rfl⟩ := hrel
    have hlt := stepK_lt i (by omega) k
    obtain ⟨n, hn⟩ : ∃ n, n = stepK k i := ⟨_, rfl⟩
    have hs : stepK (k + 1) i = stepN (stepK k i) := rfl
    rw [← hn] at hlt hs ⊢
    have HN := Lib.hid hn
    have HS := Lib.hid hs
    have ha := and_one n hlt
    clear hn hs
    by_cases h8 : k < 8
    · by_cases hodd : n % 2 = 1
      · rw [hodd] at ha
        go_wp2
        go_round
        case rel => exact ⟨k + 1, by omega, by go_num, by rw [HS.out, step_odd n hodd, xor_poly n hlt]⟩
        case measure => simp [intOf]; omega
      · rw [show n % 2 = 0 from by omega] at ha
        go_wp2
        go_round
        case rel => exact ⟨k + 1, by omega, by go_num, by rw [HS.out, step_even n hodd]; simp⟩
        case measure => simp [intOf]; omega
    · obtain rfl : k = 8 := by omega
      clear ha
      go_wp2
      go_ret
      exact ⟨by rw [HN.out]; rfl, rfl⟩

set_option maxRecDepth 20000 in
set_option maxHeartbeats 400000 in
theorem rentry_any (i : Nat) (w : World) (hi : i < 256) :
    Calls Tryz.prog 171 #[.int .u8 i] w fun e w' => e = .returned (.int .u32 (ent i : Int)) ∧ w = w' := by
  go_enter Tryz.func171, Tryz.ntmps171
  go_wp2
  go_loop [3, 4] (fun t c => ∃ k : Nat, k ≤ 8 ∧ c = .int .i64 k ∧ t = .int .u32 (stepK k i : Int)) (fun _ c => 8 - (intOf c).toNat)
  case atStart => exact ⟨0, by omega, rfl, by simp [stepK]⟩
  case round =>
    obtain ⟨k, hk, rfl, rfl⟩ := hrel
    have hlt := stepK_lt i (by omega) k
    obtain ⟨n, hn⟩ : ∃ n, n = stepK k i := ⟨_, rfl⟩
    have hs : stepK (k + 1) i = stepN (stepK k i) := rfl
    rw [← hn] at hlt hs ⊢
    have HN := Lib.hid hn
    have HS := Lib.hid hs
    clear hn hs
    by_cases h8 : k < 8
    · by_cases hodd : n % 2 = 1
      · have hodd2 : (n : Int) % 2 = 1 := by omega
        go_wp2
        go_round
        case rel => exact ⟨k + 1, by omega, by go_num, by rw [HS.out, step_odd n hodd, xor_poly n hlt]⟩
        case measure => simp [intOf]; omega
      · have hodd2 : (n : Int) % 2 = 0 := by omega
        go_wp2
        go_round
        case rel => exact ⟨k + 1, by omega, by go_num, by rw [HS.out, step_even n hodd]; simp⟩
        case measure => simp [intOf]; omega
    · obtain rfl : k = 8 := by omega
      go_wp2
      go_ret
      exact ⟨by rw [HN.out]; rfl, rfl⟩

end Go.Proofs.YtpkeikbiblfidaaGreatDoor
/-
  Contracts: the reference's Add and Sum.
-/
namespace Go.Proofs.YtpkeikbiblfidaaGreatDoor
open Go.RowKit
set_option linter.unusedVariables false

theorem xor_u8 (n : Nat) (x : UInt8) : bits .xor .u8 ((n : Int) % 256) (x.toNat : Int) = (((n % 256) ^^^ x.toNat : Nat) : Int) := by
  have hx := UInt8.toNat_lt x
  have := u8_xor_nat (n % 256) x.toNat (by omega) (by omega)
  rw [← this]
  simp

theorem xor_upd (n : Nat) (x : UInt8) (h : n < 4294967296) : bits .xor .u32 ((n : Int) / 256) (ent ((n % 256) ^^^ x.toNat) : Int) = ((upd n x.toNat : Nat) : Int) := by
  have hx := UInt8.toNat_lt x
  have hj := xor_byte_lt (n % 256) x.toNat (by omega) hx
  have := u32_xor_nat (n / 256) (ent ((n % 256) ^^^ x.toNat)) (by omega) (ent_lt _ (by omega))
  unfold upd
  rw [← this]
  simp

theorem not_nat (s : Nat) (h : s < 4294967296) : 4294967295 ^^^ s = 4294967295 - s := by
  have h1 : (BitVec.allOnes 32 ^^^ BitVec.ofNat 32 s).toNat = 4294967295 ^^^ s := by
    rw [BitVec.toNat_xor, BitVec.toNat_allOnes, BitVec.toNat_ofNat, Nat.mod_eq_of_lt (by omega)]
  have h2 : (BitVec.allOnes 32 ^^^ BitVec.ofNat 32 s) = ~~~ (BitVec.ofNat 32 s) := by
    rw [BitVec.allOnes_xor]
  rw [← h1, h2, BitVec.toNat_not, BitVec.toNat_ofNat, Nat.mod_eq_of_lt (by omega)]

theorem not_u32 (s : Nat) (h : s < 4294967296) : bits .xor .u32 IntKind.u32.max (s : Int) = ((4294967295 - s : Nat) : Int) := by
  have := u32_xor_nat 4294967295 s (by omega) h
  rw [not_nat s h] at this
  exact this

set_option maxRecDepth 20000 in
set_option maxHeartbeats 400000 in
theorem radd_any (s : Nat) (a : Option Addr) (n cap : Nat) (xs : List UInt8) (w : World) (hR : Rd w a n cap xs) (hs : s < 4294967296) :
    Calls Tryz.prog 161 #[.int .u32 s, .slice a n cap] w fun e w' => e = .returned (.int .u32 (addN s xs : Int)) ∧ w = w' := by
  have hbig := hR.big
  have hlen := Lib.hid hR.len
  obtain ⟨t, ht⟩ : ∃ t, t = 4294967295 - s := ⟨_, rfl⟩
  have hnot := not_u32 s hs
  rw [← ht] at hnot
  have htl : t < 4294967296 := by omega
  have HT := Lib.hid ht
  clear ht
  go_enter Tryz.func161, Tryz.ntmps161
  go_wp2
  go_loop [5, 6] (fun t' i => ∃ k : Nat, k ≤ n ∧ i = .int .i64 k ∧ t' = .int .u32 (foldN t (xs.take k) : Int)) (fun _ i => n - (intOf i).toNat)
  case atStart => exact ⟨0, by omega, rfl, rfl⟩
  case round =>
    clear hnot
    obtain ⟨k, hk, rfl, rfl⟩ := hrel
    have hfl := foldN_lt t htl (xs.take k)
    by_cases hlt : k < n
    · obtain ⟨b, off, rfl, hb, hc⟩ := hR.at0 (by omega)
      have hcell := hc k hlt
      clear hc
      have hst := foldN_step t xs k (by rw [hlen.out]; exact hlt)
      obtain ⟨m, hm⟩ : ∃ m, m = foldN t (xs.take k) := ⟨_, rfl⟩
      rw [← hm] at hfl hst ⊢
      generalize xs[k]?.getD 0 = x at hcell hst
      have hx := UInt8.toNat_lt x
      have hj := xor_byte_lt (m % 256) x.toNat (by omega) hx
      have e1 := xor_u8 m x
      have e2 := xor_upd m x hfl
      generalize (m % 256) ^^^ x.toNat = j at hj e1 e2
      have HS := Lib.hid hst
      clear hst hm
      go_wp2_with (go_at_call 171; refine (rentry_any j _ hj).mono ?_; rintro r w' ⟨rfl, rfl⟩)
      go_round
      case rel => exact ⟨k + 1, by omega, by go_num, by rw [HS.out]⟩
      case measure => simp [intOf]; omega
    · have hfin := not_u32 _ hfl
      obtain rfl : k = n := by omega
      have htk : xs.take k = xs := List.take_of_length_le (by rw [hlen.out]; omega)
      rw [htk] at hfin ⊢
      go_wp2
      go_ret
      exact ⟨by unfold addN; rw [← HT.out]; rfl, rfl⟩

set_option maxRecDepth 20000 in
set_option maxHeartbeats 400000 in
theorem rsum_any (a : Option Addr) (n cap : Nat) (xs : List UInt8) (w : World) (h : Rd w a n cap xs) :
    Calls Tryz.prog 131 #[.slice a n cap] w fun e w' => e = .returned (.int .u32 (addN 0 xs : Int)) ∧ w = w' := by
  go_enter Tryz.func131, Tryz.ntmps131
  go_wp2_with (go_at_call 161; refine (radd_any 0 a n cap xs _ h (by omega)).mono ?_; rintro r w' ⟨rfl, rfl⟩)
  go_ret
  exact ⟨rfl, rfl⟩

end Go.Proofs.YtpkeikbiblfidaaGreatDoor
/-
  Contracts: the table.
-/
namespace Go.Proofs.YtpkeikbiblfidaaGreatDoor
open Go.RowKit
set_option linter.unusedVariables false

/-- The lowest bit of k, as the code reckons it; and k without it. -/
def lowN (k : Nat) : Nat := (bits .and .i64 (k : Int) (-(k : Int))).toNat
def hiN (k : Nat) : Nat := (bits .xor .i64 (k : Int) (lowN k : Int)).toNat

theorem low_facts : ∀ k : Fin 256, bits .and .i64 (k.val : Int) (-(k.val : Int)) = (lowN k.val : Int) ∧
    (lowN k.val = k.val ∨ (lowN k.val < k.val ∧ bits .xor .i64 (k.val : Int) (lowN k.val : Int) = (hiN k.val : Int) ∧ hiN k.val < k.val ∧
      bits .xor .u32 (ent (lowN k.val) : Int) (ent (hiN k.val) : Int) = (ent k.val : Int))) := by decide +kernel

theorem zero_table (w : World) : (zeroValue 197).run Tryz.prog w = .ok (.agg (Array.replicate 256 (.int .u32 0))) w := by kernel_rfl

/-- A row of the call's own whose first k cells are the first k entries. -/
structure Tab (w : World) (g k : Nat) : Prop where
  row : ∃ C : Array Value, w.heap[g]? = some (.cells C 197 (0, 0)) ∧ C.size = 256 ∧ ∀ j, j < k → C[j]? = some (.int .u32 (ent j : Int))

theorem Tab.step {w : World} {g k : Nat} (h : Tab w g k) (hk : k < 256) : Tab (w.setCell ⟨g, k, none⟩ (.int .u32 (ent k : Int))) g (k + 1) := by
  obtain ⟨C, hC, hs, hc⟩ := h.row
  refine ⟨C.setIfInBounds k (.int .u32 (ent k : Int)), heap_setCell_same w g k C 197 _ hC, by simp [hs], fun j hj => ?_⟩
  by_cases e : j = k
  · subst e; rw [Array.getElem?_setIfInBounds_self, if_pos (by omega)]
  · rw [Array.getElem?_setIfInBounds_ne (by omega)]; exact hc j (by omega)

theorem Tab.other {w : World} {b g k : Nat} {v : Value} {o : Obj} (h : w.heap[b]? = some o) (hne : b ≠ g) : (w.setCell ⟨g, k, none⟩ v).heap[b]? = some o := by
  rw [heap_setCell_other w _ b _ hne]; exact h

theorem Tab.drew {w : World} {g k : Nat} (h : Tab w g k) : Tab w.drew g k := ⟨h.row⟩

theorem tab_eq {C : Array Value} (hs : C.size = 256) (hc : ∀ j, j < 256 → C[j]? = some (.int .u32 (ent j : Int))) : C = ((List.range 256).map fun i => Value.int .u32 (ent i : Int)).toArray := by
  apply Array.ext
  · simp [hs]
  · intro j h1 h2
    have := hc j (by omega)
    rw [Array.getElem?_eq_getElem h1] at this
    simpa using this

theorem all_ent : (((List.range 256).map fun i => Value.int .u32 (ent i : Int)).toArray).all (·.oneCell') = true :=
  Array.all_eq_true_iff_forall_mem.2 (fun v hv => by
    simp only [List.mem_toArray, List.mem_map] at hv
    obtain ⟨_, _, rfl⟩ := hv
    rfl)

set_option maxRecDepth 20000 in
set_option maxHeartbeats 1000000 in
theorem table_any (w : World) :
    Calls Tryz.prog 180 #[] w fun e w' => e = .returned (.agg ((List.range 256).map fun i => Value.int .u32 (ent i : Int)).toArray) ∧ Below w.heap.size w w' := by
  obtain ⟨Z, hZ⟩ : ∃ Z : Array Value, Z = Array.replicate 256 (.int .u32 0) := ⟨_, rfl⟩
  have hz := zero_table
  rw [← hZ] at hz
  have hzs : Z.size = 256 := by rw [hZ]; simp
  have HZ := Lib.hid hzs
  clear hzs hZ
  go_enter Tryz.func180, Tryz.ntmps180
  go_wp2
  generalize hg : w.heap.size + 1 = g
  have HG := Lib.hid hg
  have hrow : Tab ((w.alloc (.cells Z 197)).alloc (.cells Z 197)) g 0 := ⟨Z, by rw [← hg]; exact heap_alloc2_new w _ _, HZ.out, fun j hj => by omega⟩
  have hold : ((w.alloc (.cells Z 197)).alloc (.cells Z 197)).heap[w.heap.size]? = some (.cells Z 197 (0, 0)) := heap_alloc2_old w _ _
  have hB : Below w.heap.size w ((w.alloc (.cells Z 197)).alloc (.cells Z 197)) := ((Below.refl _ _).alloc (Nat.le_refl _) _).alloc (by simp) _
  clear hg
  go_loopw [4] (fun i wr => ∃ k : Nat, k ≤ 256 ∧ i = .int .i64 k ∧ Tab wr g k ∧ wr.heap[w.heap.size]? = some (.cells Z 197 (0, 0)) ∧ Below w.heap.size w wr) (fun i _ => 256 - (intOf i).toNat)
  case atStart => exact ⟨0, by omega, rfl, hrow, hold, hB⟩
  case round =>
    clear hrow hold hB hz
    obtain ⟨k, hk, rfl, hrow, hold, hB⟩ := hrel
    by_cases hlt : k < 256
    · obtain ⟨h1, h2⟩ := low_facts ⟨k, hlt⟩
      simp only at h1 h2
      obtain ⟨C, hC, hsz, hcs⟩ := hrow.row
      have hcell : ∀ j, j < k → wr.cell? ⟨g, j, none⟩ = some (.int .u32 (ent j : Int)) := fun j hj => (cell_of_row wr g j C 197 (0, 0) hC).trans (hcs j hj)
      have hfree : wr.frozen? ⟨g, k, none⟩ = false := frozen_of_row wr g k C 197 hC
      obtain ⟨u, hu⟩ : ∃ u, C[k]? = some u := ⟨_, Array.getElem?_eq_getElem (by omega)⟩
      have hck : wr.cell? ⟨g, k, none⟩ = some u := (cell_of_row wr g k C 197 (0, 0) hC).trans hu
      have HC := Lib.hid hC
      have HB := Lib.hid hB
      have HO := Lib.hid hold
      clear hC hold hB hu
      rcases h2 with h2 | ⟨h2, h3, h4, h5⟩
      · rw [h2] at h1
        clear h2 hcell
        go_wp2_with (go_at_call 191; refine (entry_any k _ hlt).mono ?_; rintro r w' ⟨rfl, rfl⟩)
        go_roundw
        case rel => exact ⟨k + 1, by omega, by go_num, Tab.step hrow (by omega), Tab.other HO.out (by have := HG.out; omega), HB.out.setCell (by have := HG.out; show w.heap.size ≤ g; omega) _⟩
        case measure => simp [intOf]; omega
      · have hl := hcell _ h2
        have hh := hcell _ h4
        generalize lowN k = l at h1 h2 h3 hl h5
        generalize hiN k = m at h3 h4 hh h5
        clear hcell hcs
        have hne : ¬ (k : Int) = l := by omega
        have i1 : (0 : Int) ≤ (l : Int) := by omega
        have i2 : (l : Int) < 256 := by omega
        have i3 : (0 : Int) ≤ (m : Int) := by omega
        have i4 : (m : Int) < 256 := by omega
        have i5 : (0 : Int) ≤ (k : Int) := by omega
        have i6 : (k : Int) < 256 := by omega
        go_wp2
        go_region
        all_goals go_wp2
        go_roundw
        case rel => exact ⟨k + 1, by omega, by go_num, Tab.drew (Tab.step hrow (by omega)), Tab.other HO.out (by have := HG.out; omega), (HB.out.setCell (by have := HG.out; show w.heap.size ≤ g; omega) _).drew⟩
        case measure => simp [intOf]; omega
    · obtain rfl : k = 256 := by omega
      obtain ⟨C, hC, hsz, hcs⟩ := hrow.row
      have hCT : C = ((List.range 256).map fun i => Value.int .u32 (ent i : Int)).toArray := tab_eq hsz hcs
      have hone : C.all (·.oneCell') = true := by
        rw [hCT]; exact all_ent
      have hi31 : (Tryz.prog.info? 197).map (·.size) = some C.size := by rw [hsz]; kernel_rfl
      have hZC : Z.size = C.size := by rw [HZ.out, hsz]
      have H1 := Lib.hid hCT
      have hB2 : Below w.heap.size w (wr.setRow w.heap.size C) := below_setRow hB (Nat.le_refl _) _
      have hrw := setRow_heap wr w.heap.size Z C 197 (0, 0) hold
      clear hCT hcs hrow
      go_wp2_with (first | (with_reducible refine wpList_load_row (o := ⟨some 31, _, _, _, _, _⟩) rfl 197 (.tmp 1) rfl g rfl 197 C (0, 0) _ hC Tryz.underlying197 rfl hi31 ?_) | (with_reducible refine wpList_store_row (o := ⟨none, _, _, _, _, _⟩) rfl 197 (.tmp 0) (.tmp 31) rfl w.heap.size C rfl rfl 197 Z hold hi31 hZC hone ?_))
      refine bodyPost_ret (v := .agg C) (results_cell_row (p := 0) (ty := 197) rfl _ _ w.heap.size 197 C (0, 0) _ rfl hrw Tryz.underlying197 rfl hi31) rfl ⟨by rw [H1.out], hB2⟩
end Go.Proofs.YtpkeikbiblfidaaGreatDoor
/-
  Contracts: the program's Add and Sum; the fixed calls.
-/
namespace Go.Proofs.YtpkeikbiblfidaaGreatDoor
open Go.RowKit
set_option linter.unusedVariables false

theorem tab_at {T : Array Value} (hT : T = ((List.range 256).map fun i => Value.int .u32 (ent i : Int)).toArray) (j : Nat) (hj : j < 256) : T[j]? = some (.int .u32 (ent j : Int)) := by
  subst hT
  simp [hj]

set_option maxRecDepth 20000 in
set_option maxHeartbeats 1000000 in
theorem add_any (s : Nat) (a : Option Addr) (n cap : Nat) (xs : List UInt8) (w : World) (hR : Rd w a n cap xs) (hs : s < 4294967296) :
    Calls Tryz.prog 166 #[.int .u32 s, .slice a n cap] w fun e w' => e = .returned (.int .u32 (addN s xs : Int)) ∧ Below w.heap.size w w' := by
  obtain ⟨Z, hZ⟩ : ∃ Z : Array Value, Z = Array.replicate 256 (.int .u32 0) := ⟨_, rfl⟩
  have hz := zero_table
  rw [← hZ] at hz
  have hzs : Z.size = 256 := by rw [hZ]; simp
  obtain ⟨T, hT⟩ : ∃ T : Array Value, T = ((List.range 256).map fun i => Value.int .u32 (ent i : Int)).toArray := ⟨_, rfl⟩
  have hts : T.size = 256 := by rw [hT]; simp
  have ht := table_any
  rw [← hT] at ht
  have hone : T.all (·.oneCell') = true := by rw [hT]; exact all_ent
  have hi31 : (Tryz.prog.info? 197).map (·.size) = some T.size := by rw [hts]; kernel_rfl
  have hZT : Z.size = T.size := by rw [hzs, hts]
  have htab := Lib.hid (tab_at hT)
  have HT := Lib.hid ht
  have hbig := hR.big
  have hlen := Lib.hid hR.len
  obtain ⟨t, htt⟩ : ∃ t, t = 4294967295 - s := ⟨_, rfl⟩
  have hnot := not_u32 s hs
  rw [← htt] at hnot
  have htl : t < 4294967296 := by omega
  have H1 := Lib.hid htt
  clear htt hT hts ht hZ hzs
  go_enter Tryz.func166, Tryz.ntmps166
  go_wp2_with fail
  refine (HT.out _).mono ?_
  rintro e w1 ⟨rfl, hb1⟩
  have hnew := heap_alloc_new w1 (.cells Z 197)
  go_wp2_with (with_reducible refine wpList_store_row (o := ⟨none, _, _, _, _, _⟩) rfl 197 (.tmp 5) (.tmp 9) rfl w1.heap.size T rfl rfl 197 Z hnew hi31 hZT hone ?_)
  have hB2 : Below w.heap.size w ((w1.alloc (.cells Z 197)).setRow w1.heap.size T) := below_setRow (hb1.alloc hb1.size _) hb1.size _
  have hrow := setRow_heap (w1.alloc (.cells Z 197)) w1.heap.size Z T 197 (0, 0) hnew
  obtain ⟨g, hg⟩ : ∃ g, g = w1.heap.size := ⟨_, rfl⟩
  rw [← hg] at hB2 hrow ⊢
  obtain ⟨w2, hw2⟩ : ∃ w2, w2 = (w1.alloc (.cells Z 197)).setRow g T := ⟨_, rfl⟩
  rw [← hw2] at hB2 hrow ⊢
  have hR2 := hR.later hB2
  clear hw2 hg hnew hz hi31 hZT hone hb1 hR
  go_loop [6, 14] (fun t' i => ∃ k : Nat, k ≤ n ∧ i = .int .i64 k ∧ t' = .int .u32 (foldN t (xs.take k) : Int)) (fun _ i => n - (intOf i).toNat)
  case atStart => exact ⟨0, by omega, rfl, rfl⟩
  case round =>
    clear hnot
    obtain ⟨k, hk, rfl, rfl⟩ := hrel
    have hfl := foldN_lt t htl (xs.take k)
    by_cases hlt : k < n
    · obtain ⟨b, off, rfl, hb, hc⟩ := hR2.at0 (by omega)
      have hcell := hc k hlt
      clear hc
      have hst := foldN_step t xs k (by rw [hlen.out]; exact hlt)
      obtain ⟨m, hm⟩ : ∃ m, m = foldN t (xs.take k) := ⟨_, rfl⟩
      rw [← hm] at hfl hst ⊢
      generalize xs[k]?.getD 0 = x at hcell hst
      have hx := UInt8.toNat_lt x
      have hj := xor_byte_lt (m % 256) x.toNat (by omega) hx
      have e1 := xor_u8 m x
      have e2 := xor_upd m x hfl
      generalize (m % 256) ^^^ x.toNat = j at hj e1 e2
      have hent : w2.cell? ⟨g, j, none⟩ = some (.int .u32 (ent j : Int)) := (cell_of_row w2 g j T 197 (0, 0) hrow).trans (htab.out j hj)
      have i1 : (0 : Int) ≤ (j : Int) := by omega
      have i2 : (j : Int) < 256 := by omega
      have HS := Lib.hid hst
      clear hst hm hrow
      go_wp2
      go_round
      case rel => exact ⟨k + 1, by omega, by go_num, by rw [HS.out]⟩
      case measure => simp [intOf]; omega
    · have hfin := not_u32 _ hfl
      obtain rfl : k = n := by omega
      have htk : xs.take k = xs := List.take_of_length_le (by rw [hlen.out]; omega)
      rw [htk] at hfin ⊢
      clear hrow
      go_wp2
      go_ret
      exact ⟨by unfold addN; rw [← H1.out]; rfl, hB2⟩

set_option maxRecDepth 20000 in
set_option maxHeartbeats 400000 in
theorem sum_any (a : Option Addr) (n cap : Nat) (xs : List UInt8) (w : World) (hR : Rd w a n cap xs) :
    Calls Tryz.prog 153 #[.slice a n cap] w fun e w' => e = .returned (.int .u32 (addN 0 xs : Int)) ∧ Below w.heap.size w w' := by
  go_enter Tryz.func153, Tryz.ntmps153
  go_wp2_with fail
  refine (add_any 0 a n cap xs _ hR (by omega)).mono ?_
  rintro e w1 ⟨rfl, hb⟩
  go_wp2
  go_ret
  exact ⟨rfl, hb⟩

/-! ### the fixed calls -/
def nine : Array Value := #[.int .u8 49, .int .u8 50, .int .u8 51, .int .u8 52, .int .u8 53, .int .u8 54, .int .u8 55, .int .u8 56, .int .u8 57]

theorem nine_rd (w : World) : Rd (w.alloc (.cells #[.int .u8 49, .int .u8 50, .int .u8 51, .int .u8 52, .int .u8 53, .int .u8 54, .int .u8 55, .int .u8 56, .int .u8 57] 5 (9, 10))) (some ⟨w.heap.size, 0, none⟩) 9 9 [49, 50, 51, 52, 53, 54, 55, 56, 57] := by
  refine ⟨rfl, Nat.le_refl _, by omega, by unfold maxLen; omega, fun _ => ⟨_, _, rfl, by simp, fun i hi => ?_⟩, fun e => by cases e⟩
  rw [World.cell?_alloc_mark, Nat.zero_add]
  match i, hi with
  | 0, _ => rfl
  | 1, _ => rfl
  | 2, _ => rfl
  | 3, _ => rfl
  | 4, _ => rfl
  | 5, _ => rfl
  | 6, _ => rfl
  | 7, _ => rfl
  | 8, _ => rfl

theorem sum_nine : addN 0 [49, 50, 51, 52, 53, 54, 55, 56, 57] = 3808858755 := by decide +kernel
theorem ent_one : ent 1 = 4067132163 := by decide +kernel


end Go.Proofs.YtpkeikbiblfidaaGreatDoor

/-
  Contracts: slices.Clone, Waits, Copy, slices.Repeat, New.
-/
import Derived.Test.YtodcdefmoliegaaGreatDoorE3
import Derived.Deep.RegionLaw
import Derived.Deep.RegionHeldLaw
import Derived.Laws.CopyOwn
import Derived.IntWalk
namespace Go.Proofs.YtodcdefmoliegaaGreatDoor
open Go.RowKit
set_option linter.unusedVariables false
set_option linter.unusedSimpArgs false

theorem owns_src {w : World} {B e size n : Nat} {xs : List Value} {g c : Nat} (h : w.ownsRow B e size (.slice (some ⟨g, 0, none⟩) n c) n xs) (o : Obj) :
    ∀ (j : Nat) (u : Value), xs[j]? = some u → (w.alloc o).cell? ((⟨g, 0, none⟩ : Addr).add j) = some u := fun j u hj => by
  have h1 := h.cells (g := g) rfl j u hj
  have hl := (h.lt g rfl).2
  rw [Addr.add_none] at h1 ⊢
  rw [World.cell?_of_block (w := w) (Below.heap_alloc _ _ _ hl)]; exact h1

theorem owns_shape2 {w : World} {B n : Nat} {v : Value} {e size : Nat} {xs : List Value} (h : w.ownsRow B e size v n xs) : (v = .slice none 0 0 ∧ n = 0 ∧ xs = []) ∨ ∃ g c, v = .slice (some ⟨g, 0, none⟩) n c := by
  obtain ⟨h1, h2⟩ := h
  rcases h2 with ⟨rfl, rfl⟩ | ⟨g, cap, cur, rfl, hB, hh, hle, hm, _, _⟩
  · exact .inl ⟨rfl, rfl, List.eq_nil_of_length_eq_zero (by simpa using h1)⟩
  · exact .inr ⟨g, cap, rfl⟩






theorem owns_low {w : World} {B B' e size n : Nat} {v : Value} {xs : List Value} (h : w.ownsRow B e size v n xs) (hl : B' ≤ B) : w.ownsRow B' e size v n xs := by
  refine ⟨h.1, ?_⟩
  rcases h.2 with hn | ⟨g, cap, cur, rfl, hb, rest⟩
  · exact .inl hn
  · exact .inr ⟨g, cap, cur, rfl, by omega, rest⟩


theorem splice_take' {α : Type} {blk ys : List α} (i : Nat) (h : i + ys.length ≤ blk.length) : (splice blk i ys).take (i + ys.length) = blk.take i ++ ys := by
  unfold splice
  rw [← List.append_assoc, List.take_append_of_le_length (by simp; omega), List.take_of_length_le (by simp; omega)]

theorem make_strs (n : Nat) (h : n ≤ 1000000) (w : World) :
    (Instr.makeSlice 56 (.int .i64 (n : Int)) (.int .i64 (n : Int))).run Tryz.prog w = .ok (.slice (some ⟨w.heap.size, 0, none⟩) n n) (w.alloc (.cells (madeCells #[.string noBytes] n) 9)) :=
  run_make_row' 56 9 (.string noBytes) 16 Tryz.underlying56 Tryz.info9 rfl .i64 .i64 n (by omega) (by omega) w

theorem slice_from_s (g n m : Nat) (hm : m < n) (w : World) :
    (Instr.sliceAt 56 (.slice (some ⟨g, 0, none⟩) n n) (some (.int .i64 (m : Int))) none none).run Tryz.prog w = .ok (.slice (some ⟨g, m, none⟩) (n - m) (n - m)) w := by
  have hu := Tryz.underlying56
  have hz : ∀ w, (sizeOf 9).run Tryz.prog w = .ok 1 w := fun _ => by kernel_rfl
  have h1 : (0 : Int) ≤ (m : Int) ∧ (m : Int) ≤ (n : Int) := by omega
  have h2 : ¬ n = m := by omega
  have h3 : (⟨g, 0, none⟩ : Addr).add m = ⟨g, m, none⟩ := by rw [Addr.add_none, Nat.zero_add]
  have h4 : m ≤ n := by omega
  simp [Instr.sliceAt, Instr.slice, Instr.sliceBounds, Instr.sliceBound, run_underlying hu, asIntOf, h1, h2, h4, hz, h3, go_sem]
theorem slice_to_s (g n m : Nat) (hm : m ≤ n) (h0 : 0 < n) (w : World) :
    (Instr.sliceAt 56 (.slice (some ⟨g, 0, none⟩) n n) none (some (.int .i64 (m : Int))) none).run Tryz.prog w = .ok (.slice (some ⟨g, 0, none⟩) m n) w := by
  have hu := Tryz.underlying56
  have hz : ∀ w, (sizeOf 9).run Tryz.prog w = .ok 1 w := fun _ => by kernel_rfl
  have h1 : (0 : Int) ≤ (m : Int) ∧ (m : Int) ≤ (n : Int) := by omega
  have h2 : ¬ n = 0 := by omega
  have h3 : (⟨g, 0, none⟩ : Addr).add 0 = ⟨g, 0, none⟩ := by rw [Addr.add_none]
  simp [Instr.sliceAt, Instr.slice, Instr.sliceBounds, Instr.sliceBound, run_underlying hu, asIntOf, h1, h2, hm, hz, h3, go_sem]

set_option maxRecDepth 20000 in
set_option maxHeartbeats 2000000 in
theorem repeat_strs (b : Nat) (z : ByteArray) (n : Nat) (w : World) (hc : w.cell? ⟨b, 0, none⟩ = some (.string z)) (hb : b < w.heap.size) (h0 : 1 ≤ n) (hn : n ≤ 1000000) :
    Calls Tryz.prog 22 #[.slice (some ⟨b, 0, none⟩) 1 1, .int .i64 n] w fun e w' => ∃ v', e = .returned v' ∧ w'.ownsRow w.heap.size 9 1 v' n (strs (List.replicate n z)) ∧ Below w.heap.size w w' := by
  have hm := Tryz.bits_Mul 1 n (by omega) (by omega) w
  have m1 : 1 * n / 18446744073709551616 = 0 := by omega
  have m2 : 1 * n % 18446744073709551616 = n := by omega
  rw [m1, m2, show ((0 : Nat) : Int) = 0 from rfl] at hm
  have hmk := make_strs n hn
  have HM := Lib.hid hm
  clear hm m1 m2
  have i1 : (1 : Int) ≤ (n : Int) := by omega
  have i2 : (n : Int) ≤ 1000000 := by omega
  go_enter Tryz.func22, Tryz.ntmps22
  go_wp2_with fail
  refine HM.out.mono ?_
  rintro e w1 ⟨rfl, hw1⟩
  obtain rfl := hw1.symm
  clear hw1
  have hnew : (w.alloc (.cells (madeCells #[.string noBytes] n) 9)).heap[w.heap.size]? = some (.cells (madeCells #[.string noBytes] n).toList.toArray 9 (0, 0)) := by rw [Array.toArray_toList]; exact heap_alloc_new w _
  have hsrc : ∀ (j : Nat) (u : Value), [Value.string z][j]? = some u → (w.alloc (.cells (madeCells #[.string noBytes] n) 9)).cell? ((⟨b, 0, none⟩ : Addr).add j) = some u := fun j u hj => by
    match j, hj with
    | 0, hj =>
      simp at hj; subst hj
      rw [Addr.add_none, World.cell?_of_block (w := w) (Below.heap_alloc _ _ _ hb)]; exact hc
  have hlen : (madeCells #[.string noBytes] n).toList.length = n := by simp [size_madeCells]
  have hba : Below w.heap.size w (w.alloc (.cells (madeCells #[.string noBytes] n) 9)) := (Below.refl _ _).alloc (Nat.le_refl _) _
  have hs9 : (Tryz.prog.info? 9).map (·.size) = some 1 := by kernel_rfl
  obtain ⟨g, hg⟩ : ∃ g, g = w.heap.size := ⟨_, rfl⟩
  generalize hM : (madeCells #[.string noBytes] n) = M at *
  have HM' := Lib.hid hM
  clear hM
  have k1 : [Value.string z].length = Nat.min 1 n := by simp [Nat.min_def]; omega
  have k2 : 0 + [Value.string z].length ≤ M.toList.length := by rw [hlen]; simp; omega
  have k3 : ∀ v ∈ [Value.string z], v.oneCell' = true := by intro v hv; simp at hv; subst hv; rfl
  have K1 := Lib.hid k1
  have K2 := Lib.hid k2
  have K3 := Lib.hid k3
  have HN := Lib.hid hnew
  have HSr := Lib.hid hsrc
  have HBa := Lib.hid hba
  clear k1 k2 k3 hnew hsrc hba
  go_wp2_with (with_reducible refine wpList_copy_splice (o := ⟨some 33, _, _, _, _, _⟩) rfl (.tmp 31) (.tmp 32) 56 56 rfl 9 Tryz.underlying56 hs9 _ _ _ _ _ _ rfl rfl w.heap.size 0 M.toList 9 HN.out [.string z] K1.out (fun _ => ⟨rfl, _, rfl, HSr.out⟩) K2.out K3.out w.heap.size w HBa.out (Nat.le_refl _) ?_)
  intro w2 HG2 hb2
  rw [← hg] at HG2
  have hgle : w.heap.size ≤ g := by omega
  have hrow : ∃ cur : List Value, w2.heap[g]? = some (.cells cur.toArray 9 (0, 0)) ∧ cur.length = n ∧ cur.take 1 = List.replicate 1 (.string z) :=
    ⟨_, HG2.out, by rw [length_splice _ _ _ K2.out]; exact hlen, splice_take' 0 K2.out⟩
  have HROW := Lib.hid hrow
  have HB2 := Lib.hid hb2
  clear hrow hb2 HG2 HN HSr HBa K1 K2 hlen hmk hc
  go_wp2_with fail
  rw [← hg]
  have HG := Lib.hid hg
  clear hg
  go_loopw [8] (fun i wr => ∃ m : Nat, 1 ≤ m ∧ m ≤ n ∧ i = .int .i64 m ∧ (∃ cur : List Value, wr.heap[g]? = some (.cells cur.toArray 9 (0, 0)) ∧ cur.length = n ∧ cur.take m = List.replicate m (.string z)) ∧ Below w.heap.size w wr) (fun i _ => n - (intOf i).toNat)
  case atStart => exact ⟨1, by omega, h0, rfl, HROW.out, HB2.out⟩
  case round =>
    obtain ⟨m, hm1, hmn, rfl, ⟨cur, hcur, hcl, hct⟩, hB⟩ := hrel
    by_cases hlt : m < n
    · have i3 : (m : Int) < (n : Int) := by omega
      have s1 := slice_from_s g n m hlt
      have s2 := slice_to_s g n m hmn (by omega)
      obtain ⟨j, hj⟩ : ∃ j, j = min m (n - m) := ⟨_, rfl⟩
      have hj1 : 1 ≤ j := by omega
      have hj2 : m + j ≤ n := by omega
      have hj3 : j ≤ m := by omega
      replace hj : j = Nat.min m (n - m) := hj
      have hcs : ∀ (i : Nat) (v : Value), (List.replicate j (Value.string z))[i]? = some v → wr.cell? ((⟨g, 0, none⟩ : Addr).add i) = some v := fun i v hv => by
        have hi : i < j := by have := (List.getElem?_eq_some_iff.1 hv).1; simpa using this
        rw [Addr.add_none, Nat.zero_add, cell_of_blk hcur]
        have h1 : (cur.take m)[i]? = some (.string z) := by rw [hct, List.getElem?_replicate, if_pos (by omega)]
        rw [List.getElem?_take_of_lt (by omega)] at h1
        have h2 : v = .string z := by
          rw [List.getElem?_replicate, if_pos hi] at hv
          simpa using hv.symm
        rw [h2]
        simpa using h1
      have HC := Lib.hid hcs
      have HCU := Lib.hid hcur
      have HCL := Lib.hid hcl
      have HCT := Lib.hid hct
      have HJ := Lib.hid hj
      have hBd : Below w.heap.size w wr.drew := ⟨hB.os, hB.tape, hB.output, hB.size, hB.block⟩
      have HB := Lib.hid hBd
      clear hcs hcur hcl hct hj hB hBd
      go_wp2_with fail
      obtain ⟨cs, hcs2⟩ : ∃ cs, cs = List.replicate j (Value.string z) := ⟨_, rfl⟩
      have q1 : cs.length = Nat.min m (n - m) := by rw [hcs2, List.length_replicate]; exact HJ.out
      have q2 : m + cs.length ≤ cur.length := by rw [HCL.out, hcs2, List.length_replicate]; exact hj2
      have q3 : ∀ v ∈ cs, v.oneCell' = true := fun v hv => by rw [hcs2] at hv; rw [(List.mem_replicate.1 hv).2]; rfl
      have q4 : ∀ (i : Nat) (v : Value), cs[i]? = some v → wr.drew.cell? ((⟨g, 0, none⟩ : Addr).add i) = some v := fun i v hv => by rw [hcs2] at hv; exact HC.out i v hv
      have q5 : 0 < cs.length → some (⟨g, m, none⟩ : Addr) = some ⟨g, m, none⟩ ∧ ∃ ad, some (⟨g, 0, none⟩ : Addr) = some ad ∧ ∀ (j : Nat) (v : Value), cs[j]? = some v → wr.drew.cell? (ad.add j) = some v := fun _ => ⟨rfl, _, rfl, q4⟩
      have Q1 := Lib.hid q1
      have Q2 := Lib.hid q2
      have Q3 := Lib.hid q3
      have Q5 := Lib.hid q5
      have HCS := Lib.hid hcs2
      have HJ3 := Lib.hid hj3
      have HJ2 := Lib.hid hj2
      have HJ1 := Lib.hid hj1
      clear q1 q2 q3 q4 q5 hcs2 hj1 hj2 hj3
      go_region_held_law (fun w' => True) (trivial)
        (first | (refine step_copy_splice (o := ⟨some 45, _, _, _, _, _⟩) rfl (.tmp 41) (.tmp 44) 56 56 rfl 9 Tryz.underlying56 hs9 (some ⟨g, m, none⟩) (some ⟨g, 0, none⟩) (n - m) (n - m) m n (by rfl) (by rfl) g m cur 9 HCU.out cs Q1.out Q5.out Q2.out Q3.out w.heap.size w HB.out hgle ?_; intro w4 hg4 hb4))
      all_goals (
        have hcl : cs.length = j := by rw [HCS.out, List.length_replicate]
        have hj1 := HJ1.out
        have hj2 := HJ2.out
        have hw : IntKind.i64.wrap ((m : Int) + (cs.length : Int)) = ((m + cs.length : Nat) : Int) := by rw [IntWalk.i64_in _ (by omega)]; omega
        rw [hw]
        have hrow : ∃ cur' : List Value, w4.heap[g]? = some (.cells cur'.toArray 9 (0, 0)) ∧ cur'.length = n ∧ cur'.take (m + cs.length) = List.replicate (m + cs.length) (.string z) := by
          refine ⟨_, hg4.out, by rw [length_splice _ _ _ Q2.out]; exact HCL.out, ?_⟩
          rw [splice_take' m Q2.out, HCT.out, HCS.out, List.length_replicate, List.replicate_append_replicate]
        have hle : m + cs.length ≤ n := by omega
        have hlt2 : m < m + cs.length := by omega
        have HR := Lib.hid hrow
        have HB4 := Lib.hid hb4
        clear hrow hg4 hb4 hcl hj1 hj2 hw Q1 Q2 Q3 Q5 HCS
        go_wp2
        go_roundw
        case rel => exact ⟨m + cs.length, by omega, hle, rfl, HR.out, HB4.out⟩
        case measure => simp [intOf]; omega)
    · obtain rfl : m = n := by omega
      have hown : wr.ownsRow w.heap.size 9 1 (.slice (some ⟨g, 0, none⟩) m m) m (strs (List.replicate m z)) := by
        refine ⟨by simp [strs], .inr ⟨g, m, cur.toArray, rfl, hgle, hcur, Nat.le_refl _, by unfold maxLen; omega, by simp [hcl], ?_⟩⟩
        rw [Nat.mul_one]
        simp only [strs, List.map_replicate]
        exact hct
      have HO := Lib.hid hown
      have HB := Lib.hid hB
      clear hown hB hcur hct
      go_wp2
      go_ret
      exact ⟨_, rfl, HO.out, HB.out⟩

theorem appW_zero (L W) : appW L W 0 = L := rfl
/-- A new disk's state. -/
def ds0 (n : Nat) : DS := ⟨List.replicate n (secOf 0), [], -1, false, 0⟩
theorem ds0_ok (n : Nat) (h : n ≤ 1200) : (ds0 n).ok 0 := ⟨fun i hi => by simp [ds0] at hi, by simp [ds0], by simp [ds0], by simp [ds0], by simp [ds0], by simpa [ds0] using h⟩

set_option maxRecDepth 20000 in
set_option maxHeartbeats 1000000 in
theorem new_bad (n : Int) (w : World) (h : n < 1 ∨ 1200 < n) :
    Calls Tryz.prog 5 #[.int .i64 n] w fun e w' => e = .returned (.tuple #[.pointer none, .int .i64 2]) ∧ w' = w := by
  by_cases h1 : n < 1
  · go_enter Tryz.func5, Tryz.ntmps5
    go_wp2
    refine bodyPost_ret (results_tmp2 rfl _ _ _) rfl ?_
    exact ⟨rfl, rfl⟩
  · have h2 : 1200 < n := by omega
    clear h
    go_enter Tryz.func5, Tryz.ntmps5
    go_wp2
    refine bodyPost_ret (results_tmp2 rfl _ _ _) rfl ?_
    exact ⟨rfl, rfl⟩

set_option maxRecDepth 20000 in
set_option maxHeartbeats 1000000 in
theorem dnew_any (n : Nat) (w : World) (h0 : 1 ≤ n) (h1 : n ≤ 1200) :
    Calls Tryz.prog 5 #[.int .i64 n] w fun e w' => ∃ p v1, e = .returned (.tuple #[.pointer (some ⟨p, 0, none⟩), .int .i64 0]) ∧ PD w' w.heap.size p v1 (.slice none 0 0) (ds0 n) ∧ Below w.heap.size w w' := by
  have i1 : (1 : Int) ≤ (n : Int) := by omega
  have i2 : (n : Int) ≤ 1200 := by omega
  go_enter Tryz.func5, Tryz.ntmps5
  go_wp2_with fail
  refine (zero_any w).mono ?_
  rintro e w1 ⟨rfl, hb1⟩
  have hba : Below w.heap.size w (w1.alloc (.cells #[.string (secOf 0)] 9)) := hb1.alloc hb1.size _
  have hr := repeat_strs w1.heap.size (secOf 0) n (w1.alloc (.cells #[.string (secOf 0)] 9)) (World.cell?_alloc_at _ _ _ _ rfl) (by simp) h0 (by omega)
  have HB := Lib.hid hba
  have HR := Lib.hid hr
  have hs1 := hb1.size
  obtain ⟨z0, hz0⟩ : ∃ z, z = secOf 0 := ⟨_, rfl⟩
  rw [← hz0] at HB HR ⊢
  have HZ := Lib.hid hz0
  clear hba hr hb1 hz0
  go_wp2_with fail
  refine HR.out.mono ?_
  rintro e w2 ⟨v', rfl, ho, hb2⟩
  obtain ⟨a, c, rfl, _, _, _⟩ := owns_shape1 ho
  have HO := Lib.hid ho
  have hbf := HB.out.trans (hb2.mono HB.out.size)
  have HBF := Lib.hid hbf
  clear ho hb2 hbf
  go_wp2
  refine bodyPost_ret (results_tmp2 rfl _ _ _) rfl ?_
  have hl : (ds0 n).L.length = n := by simp [ds0]
  refine ⟨w2.heap.size, .slice a n c, rfl, ⟨0, ⟨(heap_alloc_new _ _).trans (by simp [ds0]), HBF.out.size, ?_, World.ownsRow_nil _ _ _ _⟩, fun h => by simp [ds0] at h⟩, HBF.out.alloc HBF.out.size _⟩
  rw [hl]
  show World.ownsRow _ _ _ _ _ _ (strs (List.replicate n (secOf 0)))
  rw [← HZ.out]
  exact owns_low (HO.out.alloc _) (by simp; omega)

end Go.Proofs.YtodcdefmoliegaaGreatDoor


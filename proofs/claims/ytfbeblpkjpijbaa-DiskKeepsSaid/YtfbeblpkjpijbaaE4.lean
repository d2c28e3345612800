/-
  Contracts: slices.Clone, Waits, Copy, slices.Repeat, New.
-/
import Derived.Test.YtfbeblpkjpijbaaE3
import Derived.Deep.RegionLaw
import Derived.Deep.RegionHeldLaw
import Derived.Laws.CopyOwn
import Derived.IntWalk
namespace Go.Proofs.Ytfbeblpkjpijbaa
open Go.RowKit
set_option linter.unusedVariables false
set_option linter.unusedSimpArgs false

theorem owns_src {w : World} {B e size n : Nat} {xs : List Value} {g c : Nat} (h : w.ownsRow B e size (.slice (some ⟨g, 0, none⟩) n c) n xs) (o : Obj) :
    ∀ (j : Nat) (u : Value), xs[j]? = some u → (w.alloc o).cell? ((⟨g, 0, none⟩ : Addr).add j) = some u := fun j u hj => by
  have h1 := h.cells (g := g) rfl j u hj
  have hl := (h.lt g rfl).2
  rw [Addr.add_none] at h1 ⊢
  rw [World.cell?_of_block (w := w) (Below.heap_alloc _ _ _ hl)]; exact h1

theorem owns_shape2 {w : World} {B n : Nat} {v : Value} {e size : Nat} {xs : List Value} (h : w.ownsRow B e size v n xs) : (v = .slice none 0 0 ∧ n = 0 ∧ xs = []) ∨ ∃ g c, v = .slice (some ⟨g, 0, none⟩) n c := by
  obtain ⟨h1, h2⟩ := h
  rcases h2 with ⟨rfl, rfl⟩ | ⟨g, cap, cur, rfl, hB, hh, hle, hm, _, _⟩
  · exact .inl ⟨rfl, rfl, List.eq_nil_of_length_eq_zero (by simpa using h1)⟩
  · exact .inr ⟨g, cap, rfl⟩

set_option maxHeartbeats 1000000 in
theorem clone_strs (B : Nat) (v : Value) (n : Nat) (L : List ByteArray) (w : World) (h : w.ownsRow B 9 1 v n (strs L)) (hn : n ≤ 1000000) :
    Calls Try.prog 43 #[v] w fun e w' => ∃ v', e = .returned v' ∧ w'.ownsRow w.heap.size 9 1 v' n (strs L) ∧ Below w.heap.size w w' := by
  have q22 : ∀ (w : World) (a : Option Addr) (n c n' c' : Nat), (binOp .eql 40 (.slice a n c) (.slice none n' c')).run Try.prog w = .ok (.bool a.isNone) w := fun w a n c n' c' => Lib.run_eql_slice_nil w _ _ a n c n' c' Try.underlying40
  rcases owns_shape2 h with ⟨rfl, rfl, he⟩ | ⟨g, c, rfl⟩
  · rw [he]
    go_enter Try.func43, Try.ntmps43
    go_wp2
    go_ret
    exact ⟨_, rfl, World.ownsRow_nil _ _ _ _, Below.refl _ _⟩
  · obtain ⟨i0, hi, hz0, hz1, hz2⟩ := info_parts Try.info9
    have hsrc := owns_src h (.cells #[] 9)
    have hl : (strs L).length = n * 1 := h.1
    have HS := Lib.hid hsrc
    have HL := Lib.hid hl
    clear h hsrc hl
    go_enter Try.func43, Try.ntmps43
    go_wp2_with (at_builtin; refine wpList_append_own _ (o := ⟨some 7, _, _, _, _, _⟩) rfl (.tmp 5) (.tmp 6) 40 rfl w.heap.size 9 i0 _ 1 16 Try.underlying40 hi hz0 hz1 hz2 rfl (by omega) _ _ _ rfl (World.ownsRow_made w #[] 0 (Nat.le_refl _) (Nat.zero_le _) (by simp)) ⟨g, 0, none⟩ n c (strs L) rfl HL.out HS.out (strs_one _) (by unfold maxLen; omega) (by omega) (by simp) ?_)
    intro v' w1 hown hgrow _
    go_wp2
    go_ret
    exact ⟨_, rfl, by simpa using hown, ((Below.refl _ w).alloc (Nat.le_refl _) _).grown hgrow (by simp) (by intro k hk; simp [Value.ownBlock] at hk; omega)⟩

set_option maxHeartbeats 1000000 in
theorem clone_puts (B : Nat) (v : Value) (n : Nat) (W : List (Int × ByteArray)) (w : World) (h : w.ownsRow B 46 2 v n (puts W)) (hn : n ≤ 1000000) :
    Calls Try.prog 38 #[v] w fun e w' => ∃ v', e = .returned v' ∧ w'.ownsRow w.heap.size 46 2 v' n (puts W) ∧ Below w.heap.size w w' := by
  have q22 : ∀ (w : World) (a : Option Addr) (n c n' c' : Nat), (binOp .eql 38 (.slice a n c) (.slice none n' c')).run Try.prog w = .ok (.bool a.isNone) w := fun w a n c n' c' => Lib.run_eql_slice_nil w _ _ a n c n' c' Try.underlying38
  rcases owns_shape2 h with ⟨rfl, rfl, he⟩ | ⟨g, c, rfl⟩
  · rw [he]
    go_enter Try.func38, Try.ntmps38
    go_wp2
    go_ret
    exact ⟨_, rfl, World.ownsRow_nil _ _ _ _, Below.refl _ _⟩
  · obtain ⟨i0, hi, hz0, hz1, hz2⟩ := info_parts Try.infoPut
    have hsrc := owns_src h (.cells #[] 46)
    have hl : (puts W).length = n * 2 := h.1
    have HS := Lib.hid hsrc
    have HL := Lib.hid hl
    clear h hsrc hl
    go_enter Try.func38, Try.ntmps38
    go_wp2_with (at_builtin; refine wpList_append_own _ (o := ⟨some 7, _, _, _, _, _⟩) rfl (.tmp 5) (.tmp 6) 38 rfl w.heap.size 46 i0 _ 2 24 Try.underlying38 hi hz0 hz1 hz2 rfl (by omega) _ _ _ rfl (World.ownsRow_made w #[] 0 (Nat.le_refl _) (Nat.zero_le _) (by simp)) ⟨g, 0, none⟩ n c (puts W) rfl HL.out HS.out (puts_one _) (by unfold maxLen; omega) (by omega) (by simp) ?_)
    intro v' w1 hown hgrow _
    go_wp2
    go_ret
    exact ⟨_, rfl, by simpa using hown, ((Below.refl _ w).alloc (Nat.le_refl _) _).grown hgrow (by simp) (by intro k hk; simp [Value.ownBlock] at hk; omega)⟩

set_option maxHeartbeats 400000 in
theorem waits_nil (w : World) : Calls Try.prog 13 #[.pointer none] w fun e w' => e = .returned (.slice none 0 0) ∧ w' = w := by
  go_enter Try.func13, Try.ntmps13
  go_wp2
  go_ret
  exact ⟨rfl, rfl⟩

set_option maxHeartbeats 400000 in
theorem waits_any (B p : Nat) (v1 v2 : Value) (S : DS) (w : World) (h : PD w B p v1 v2 S) (hn : S.W.length ≤ 1000000) :
    Calls Try.prog 13 #[.pointer (some ⟨p, 0, none⟩)] w fun e w' => ∃ v', e = .returned v' ∧ w'.ownsRow w.heap.size 46 2 v' S.W.length (puts S.W) ∧ Below w.heap.size w w' := by
  obtain ⟨fu, e, c0, c1, c2, c3, c4, c5, hf⟩ := h.cells
  have hc := clone_puts B v2 _ _ w h.own2 hn
  obtain ⟨a2, cc2, rfl, hle2, hcm2, hg2⟩ := owns_shape1 h.own2
  have HC := Lib.hid hc
  clear hc h c0 c2 c3 c4 c5 hf e hg2
  go_enter Try.func13, Try.ntmps13
  go_wp2_with fail
  refine HC.out.mono ?_
  rintro e w1 ⟨v', rfl, ho, hb⟩
  go_wp2
  go_ret
  exact ⟨_, rfl, ho, hb⟩

set_option maxHeartbeats 400000 in
theorem copy_nil (w : World) : Calls Try.prog 18 #[.pointer none] w fun e w' => e = .returned (.pointer none) ∧ w' = w := by
  go_enter Try.func18, Try.ntmps18
  go_wp2
  go_ret
  exact ⟨rfl, rfl⟩

theorem owns_low {w : World} {B B' e size n : Nat} {v : Value} {xs : List Value} (h : w.ownsRow B e size v n xs) (hl : B' ≤ B) : w.ownsRow B' e size v n xs := by
  refine ⟨h.1, ?_⟩
  rcases h.2 with hn | ⟨g, cap, cur, rfl, hb, rest⟩
  · exact .inl hn
  · exact .inr ⟨g, cap, cur, rfl, by omega, rest⟩

set_option maxHeartbeats 1000000 in
theorem copy_any (B p : Nat) (v1 v2 : Value) (S : DS) (w : World) (h : PD w B p v1 v2 S) (hn : S.W.length ≤ 1000000) (hl : S.L.length ≤ 1000000) :
    Calls Try.prog 18 #[.pointer (some ⟨p, 0, none⟩)] w fun e w' => ∃ p' v1' v2', e = .returned (.pointer (some ⟨p', 0, none⟩)) ∧ PD w' w.heap.size p' v1' v2' S ∧ Below w.heap.size w w' := by
  obtain ⟨fu, e, c0, c1, c2, c3, c4, c5, hf⟩ := h.cells
  obtain ⟨fu', e', hb⟩ := h.blk
  have ho1 := h.own1
  have ho2 := h.own2
  obtain ⟨a, c, rfl, hle, hcm, hg⟩ := owns_shape1 ho1
  obtain ⟨a2, cc2, rfl, hle2, hcm2, hg2⟩ := owns_shape1 ho2
  have hpl := h.lt
  obtain rfl : fu = fu' := by
    have := cell_of_blk hb 4
    rw [c4] at this
    simp at this; exact this
  have HO1 := Lib.hid ho1
  have HO2 := Lib.hid ho2
  clear ho1 ho2 h hb hf hg hg2
  go_enter Try.func18, Try.ntmps18
  go_wp2_with fail
  obtain ⟨q, hq⟩ : ∃ q, q = w.heap.size := ⟨_, rfl⟩
  obtain ⟨C, hC⟩ : ∃ C : Array Value, C = #[.slice a S.L.length c, .slice a2 S.W.length cc2, .bool S.off, .bool (decide (0 ≤ S.left)), .int .i64 fu, .int .i64 (S.did : Int)] := ⟨_, rfl⟩
  rw [← hC, ← hq]
  have hnew := heap_alloc_new w (.cells C 59)
  have hsz : (w.alloc (.cells C 59)).heap.size = q + 1 := by simp [hq]
  have hba : Below w.heap.size w (w.alloc (.cells C 59)) := (Below.refl _ _).alloc (Nat.le_refl _) _
  have c1a : (w.alloc (.cells C 59)).cell? ⟨p, 1, none⟩ = some (.slice a2 S.W.length cc2) := by rw [hba.cell (by exact hpl)]; exact c1
  have hoa := HO2.out.alloc (.cells C 59)
  have hcl := clone_strs B _ _ _ _ (HO1.out.alloc (.cells C 59)) hl
  rw [← hq] at hnew
  generalize (w.alloc (.cells C 59)) = wa at *
  refine hcl.mono ?_
  rintro e w1 ⟨v', rfl, ho1, hb1⟩
  rw [hsz] at ho1
  have hnew1 := (hb1.block q (by omega)).trans hnew
  have c1b : w1.cell? ⟨p, 1, none⟩ = some (.slice a2 S.W.length cc2) := by rw [hb1.cell (by show p < wa.heap.size; omega)]; exact c1a
  have cq0 : w1.cell? ⟨q, 0, none⟩ = some (.slice a S.L.length c) := by rw [cell_of_blk hnew1, hC]; rfl
  have hf0 : w1.frozen? ⟨q, 0, none⟩ = false := free_of_blk hnew1 0
  obtain ⟨a3, c3', rfl, _, _, _⟩ := owns_shape1 ho1
  have hne3 : (Value.slice a3 S.L.length c3').ownBlock ≠ some q := fun e => by have := (ho1.lt q e).1; omega
  have hob : w1.ownsRow B 46 2 (.slice a2 S.W.length cc2) S.W.length (puts S.W) := owns_kept hoa fun k hk => hb1.block k (hoa.lt k hk).2
  have hc2 : (w1.setCell ⟨q, 0, none⟩ (.slice a3 S.L.length c3')).ownsRow B 46 2 (.slice a2 S.W.length cc2) S.W.length (puts S.W) := owns_set_other hob (fun e => by have := (HO2.out.lt q e).2; omega) _
  have c1c : (w1.setCell ⟨q, 0, none⟩ (.slice a3 S.L.length c3')).cell? ⟨p, 1, none⟩ = some (.slice a2 S.W.length cc2) := by
    rw [World.cell?_setCell_other _ _ _ _ (by simp)]; exact c1b
  have hcl2 := clone_puts B _ _ _ _ hc2 hn
  have hnew2 := blk_setCell (i := 0) (u := .slice a3 S.L.length c3') hnew1
  have ho1' := owns_set_other (j := 0) ho1 hne3 (.slice a3 S.L.length c3')
  have hbb : Below w.heap.size w (w1.setCell ⟨q, 0, none⟩ (.slice a3 S.L.length c3')) := (hba.trans (hb1.mono hba.size)).setCell (p := ⟨q, 0, none⟩) (by show _ ≤ q; omega) _
  have hsz1 : q + 1 ≤ (w1.setCell ⟨q, 0, none⟩ (.slice a3 S.L.length c3')).heap.size := by have := hb1.size; simp [World.setCell]; omega
  have HC := Lib.hid hC
  have HQ := Lib.hid hq
  have HCL := Lib.hid hcl2
  have HN := Lib.hid hnew2
  have HO := Lib.hid ho1'
  have HBB := Lib.hid hbb
  have HZ := Lib.hid hsz1
  clear hcl hcl2 hnew hnew1 hnew2 ho1 ho1' hbb hb1 hba hoa hob hc2 c1a c0 c1 c2 c3 c4 c5 hsz hsz1 hC hq
  go_wp2_with fail
  refine HCL.out.mono ?_
  rintro e w2 ⟨v'', rfl, ho2, hb2⟩
  have hnew3 := (hb2.block q (by have := HZ.out; omega)).trans HN.out
  have cq1 : w2.cell? ⟨q, 1, none⟩ = some (.slice a2 S.W.length cc2) := by rw [cell_of_blk hnew3, HC.out]; rfl
  have hf1 : w2.frozen? ⟨q, 1, none⟩ = false := free_of_blk hnew3 1
  obtain ⟨a4, c4', rfl, _, _, _⟩ := owns_shape1 ho2
  have hq1 := HQ.out
  have hZ := HZ.out
  have hne4 : (Value.slice a4 S.W.length c4').ownBlock ≠ some q := fun e => by have := (ho2.lt q e).1; omega
  have hpd : PD (w2.setCell ⟨q, 1, none⟩ (.slice a4 S.W.length c4')) w.heap.size q (.slice a3 S.L.length c3') (.slice a4 S.W.length c4') S := by
    refine ⟨fu, ⟨?_, by omega, ?_, ?_⟩, e⟩
    · rw [blk_setCell hnew3, HC.out]
      try rfl
    · refine owns_set_other (owns_kept (owns_low HO.out (by omega)) fun k hk => hb2.block k (HO.out.lt k hk).2) (fun e => by have := (HO.out.lt q e).1; omega) _
    · exact owns_set_other (owns_low ho2 (by omega)) hne4 _
  have HPD := Lib.hid hpd
  have hbf : Below w.heap.size w (w2.setCell ⟨q, 1, none⟩ (.slice a4 S.W.length c4')) := (HBB.out.trans (hb2.mono HBB.out.size)).setCell (p := ⟨q, 1, none⟩) (by show _ ≤ q; omega) _
  have HBF := Lib.hid hbf
  clear hpd hbf hnew3 ho2 hb2 hq1
  go_wp2
  go_ret
  exact ⟨q, _, _, rfl, HPD.out, HBF.out⟩

theorem splice_take' {α : Type} {blk ys : List α} (i : Nat) (h : i + ys.length ≤ blk.length) : (splice blk i ys).take (i + ys.length) = blk.take i ++ ys := by
  unfold splice
  rw [← List.append_assoc, List.take_append_of_le_length (by simp; omega), List.take_of_length_le (by simp; omega)]

theorem make_strs (n : Nat) (h : n ≤ 1000000) (w : World) :
    (Instr.makeSlice 40 (.int .i64 (n : Int)) (.int .i64 (n : Int))).run Try.prog w = .ok (.slice (some ⟨w.heap.size, 0, none⟩) n n) (w.alloc (.cells (madeCells #[.string noBytes] n) 9)) :=
  run_make_row' 40 9 (.string noBytes) 16 Try.underlying40 Try.info9 rfl .i64 .i64 n (by omega) (by omega) w

theorem slice_from_s (g n m : Nat) (hm : m < n) (w : World) :
    (Instr.sliceAt 40 (.slice (some ⟨g, 0, none⟩) n n) (some (.int .i64 (m : Int))) none none).run Try.prog w = .ok (.slice (some ⟨g, m, none⟩) (n - m) (n - m)) w := by
  have hu := Try.underlying40
  have hz : ∀ w, (sizeOf 9).run Try.prog w = .ok 1 w := fun _ => by kernel_rfl
  have h1 : (0 : Int) ≤ (m : Int) ∧ (m : Int) ≤ (n : Int) := by omega
  have h2 : ¬ n = m := by omega
  have h3 : (⟨g, 0, none⟩ : Addr).add m = ⟨g, m, none⟩ := by rw [Addr.add_none, Nat.zero_add]
  have h4 : m ≤ n := by omega
  simp [Instr.sliceAt, Instr.slice, Instr.sliceBounds, Instr.sliceBound, run_underlying hu, asIntOf, h1, h2, h4, hz, h3, go_sem]
theorem slice_to_s (g n m : Nat) (hm : m ≤ n) (h0 : 0 < n) (w : World) :
    (Instr.sliceAt 40 (.slice (some ⟨g, 0, none⟩) n n) none (some (.int .i64 (m : Int))) none).run Try.prog w = .ok (.slice (some ⟨g, 0, none⟩) m n) w := by
  have hu := Try.underlying40
  have hz : ∀ w, (sizeOf 9).run Try.prog w = .ok 1 w := fun _ => by kernel_rfl
  have h1 : (0 : Int) ≤ (m : Int) ∧ (m : Int) ≤ (n : Int) := by omega
  have h2 : ¬ n = 0 := by omega
  have h3 : (⟨g, 0, none⟩ : Addr).add 0 = ⟨g, 0, none⟩ := by rw [Addr.add_none]
  simp [Instr.sliceAt, Instr.slice, Instr.sliceBounds, Instr.sliceBound, run_underlying hu, asIntOf, h1, h2, hm, hz, h3, go_sem]

set_option maxHeartbeats 1000000 in
theorem repeat_strs (b : Nat) (z : ByteArray) (n : Nat) (w : World) (hc : w.cell? ⟨b, 0, none⟩ = some (.string z)) (hb : b < w.heap.size) (h0 : 1 ≤ n) (hn : n ≤ 1000000) :
    Calls Try.prog 27 #[.slice (some ⟨b, 0, none⟩) 1 1, .int .i64 n] w fun e w' => ∃ v', e = .returned v' ∧ w'.ownsRow w.heap.size 9 1 v' n (strs (List.replicate n z)) ∧ Below w.heap.size w w' := by
  have hm := Try.bits_Mul 1 n (by omega) (by omega) w
  have m1 : 1 * n / 18446744073709551616 = 0 := by omega
  have m2 : 1 * n % 18446744073709551616 = n := by omega
  rw [m1, m2, show ((0 : Nat) : Int) = 0 from rfl] at hm
  have hmk := make_strs n hn
  have HM := Lib.hid hm
  clear hm m1 m2
  have i1 : (1 : Int) ≤ (n : Int) := by omega
  have i2 : (n : Int) ≤ 1000000 := by omega
  go_enter Try.func27, Try.ntmps27
  go_wp2_with fail
  refine HM.out.mono ?_
  rintro e w1 ⟨rfl, hw1⟩
  obtain rfl := hw1.symm
  clear hw1
  have hnew : (w.alloc (.cells (madeCells #[.string noBytes] n) 9)).heap[w.heap.size]? = some (.cells (madeCells #[.string noBytes] n).toList.toArray 9 (0, 0)) := by rw [Array.toArray_toList]; exact heap_alloc_new w _
  have hsrc : ∀ (j : Nat) (u : Value), [Value.string z][j]? = some u → (w.alloc (.cells (madeCells #[.string noBytes] n) 9)).cell? ((⟨b, 0, none⟩ : Addr).add j) = some u := fun j u hj => by
    match j, hj with
    | 0, hj =>
      simp at hj; subst hj
      rw [Addr.add_none, World.cell?_of_block (w := w) (Below.heap_alloc _ _ _ hb)]; exact hc
  have hlen : (madeCells #[.string noBytes] n).toList.length = n := by simp [size_madeCells]
  have hba : Below w.heap.size w (w.alloc (.cells (madeCells #[.string noBytes] n) 9)) := (Below.refl _ _).alloc (Nat.le_refl _) _
  have hs9 : (Try.prog.info? 9).map (·.size) = some 1 := by kernel_rfl
  obtain ⟨g, hg⟩ : ∃ g, g = w.heap.size := ⟨_, rfl⟩
  generalize hM : (madeCells #[.string noBytes] n) = M at *
  have HM' := Lib.hid hM
  clear hM
  have k1 : [Value.string z].length = Nat.min 1 n := by simp [Nat.min_def]; omega
  have k2 : 0 + [Value.string z].length ≤ M.toList.length := by rw [hlen]; simp; omega
  have k3 : ∀ v ∈ [Value.string z], v.oneCell' = true := by intro v hv; simp at hv; subst hv; rfl
  have K1 := Lib.hid k1
  have K2 := Lib.hid k2
  have K3 := Lib.hid k3
  have HN := Lib.hid hnew
  have HSr := Lib.hid hsrc
  have HBa := Lib.hid hba
  clear k1 k2 k3 hnew hsrc hba
  go_wp2_with (with_reducible refine wpList_copy_splice (o := ⟨some 33, _, _, _, _, _⟩) rfl (.tmp 31) (.tmp 32) 40 40 rfl 9 Try.underlying40 hs9 _ _ _ _ _ _ rfl rfl w.heap.size 0 M.toList 9 HN.out [.string z] K1.out (fun _ => ⟨rfl, _, rfl, HSr.out⟩) K2.out K3.out w.heap.size w HBa.out (Nat.le_refl _) ?_)
  intro w2 HG2 hb2
  rw [← hg] at HG2
  have hgle : w.heap.size ≤ g := by omega
  have hrow : ∃ cur : List Value, w2.heap[g]? = some (.cells cur.toArray 9 (0, 0)) ∧ cur.length = n ∧ cur.take 1 = List.replicate 1 (.string z) :=
    ⟨_, HG2.out, by rw [length_splice _ _ _ K2.out]; exact hlen, splice_take' 0 K2.out⟩
  have HROW := Lib.hid hrow
  have HB2 := Lib.hid hb2
  clear hrow hb2 HG2 HN HSr HBa K1 K2 hlen hmk hc
  go_wp2_with fail
  rw [← hg]
  have HG := Lib.hid hg
  clear hg
  go_loopw [8] (fun i wr => ∃ m : Nat, 1 ≤ m ∧ m ≤ n ∧ i = .int .i64 m ∧ (∃ cur : List Value, wr.heap[g]? = some (.cells cur.toArray 9 (0, 0)) ∧ cur.length = n ∧ cur.take m = List.replicate m (.string z)) ∧ Below w.heap.size w wr) (fun i _ => n - (intOf i).toNat)
  case atStart => exact ⟨1, by omega, h0, rfl, HROW.out, HB2.out⟩
  case round =>
    obtain ⟨m, hm1, hmn, rfl, ⟨cur, hcur, hcl, hct⟩, hB⟩ := hrel
    by_cases hlt : m < n
    · have i3 : (m : Int) < (n : Int) := by omega
      have s1 := slice_from_s g n m hlt
      have s2 := slice_to_s g n m hmn (by omega)
      obtain ⟨j, hj⟩ : ∃ j, j = min m (n - m) := ⟨_, rfl⟩
      have hj1 : 1 ≤ j := by omega
      have hj2 : m + j ≤ n := by omega
      have hj3 : j ≤ m := by omega
      replace hj : j = Nat.min m (n - m) := hj
      have hcs : ∀ (i : Nat) (v : Value), (List.replicate j (Value.string z))[i]? = some v → wr.cell? ((⟨g, 0, none⟩ : Addr).add i) = some v := fun i v hv => by
        have hi : i < j := by have := (List.getElem?_eq_some_iff.1 hv).1; simpa using this
        rw [Addr.add_none, Nat.zero_add, cell_of_blk hcur]
        have h1 : (cur.take m)[i]? = some (.string z) := by rw [hct, List.getElem?_replicate, if_pos (by omega)]
        rw [List.getElem?_take_of_lt (by omega)] at h1
        have h2 : v = .string z := by
          rw [List.getElem?_replicate, if_pos hi] at hv
          simpa using hv.symm
        rw [h2]
        simpa using h1
      have HC := Lib.hid hcs
      have HCU := Lib.hid hcur
      have HCL := Lib.hid hcl
      have HCT := Lib.hid hct
      have HJ := Lib.hid hj
      have hBd : Below w.heap.size w wr.drew := ⟨hB.os, hB.tape, hB.output, hB.size, hB.block⟩
      have HB := Lib.hid hBd
      clear hcs hcur hcl hct hj hB hBd
      go_wp2_with fail
      obtain ⟨cs, hcs2⟩ : ∃ cs, cs = List.replicate j (Value.string z) := ⟨_, rfl⟩
      have q1 : cs.length = Nat.min m (n - m) := by rw [hcs2, List.length_replicate]; exact HJ.out
      have q2 : m + cs.length ≤ cur.length := by rw [HCL.out, hcs2, List.length_replicate]; exact hj2
      have q3 : ∀ v ∈ cs, v.oneCell' = true := fun v hv => by rw [hcs2] at hv; rw [(List.mem_replicate.1 hv).2]; rfl
      have q4 : ∀ (i : Nat) (v : Value), cs[i]? = some v → wr.drew.cell? ((⟨g, 0, none⟩ : Addr).add i) = some v := fun i v hv => by rw [hcs2] at hv; exact HC.out i v hv
      have q5 : 0 < cs.length → some (⟨g, m, none⟩ : Addr) = some ⟨g, m, none⟩ ∧ ∃ ad, some (⟨g, 0, none⟩ : Addr) = some ad ∧ ∀ (j : Nat) (v : Value), cs[j]? = some v → wr.drew.cell? (ad.add j) = some v := fun _ => ⟨rfl, _, rfl, q4⟩
      have Q1 := Lib.hid q1
      have Q2 := Lib.hid q2
      have Q3 := Lib.hid q3
      have Q5 := Lib.hid q5
      have HCS := Lib.hid hcs2
      have HJ3 := Lib.hid hj3
      have HJ2 := Lib.hid hj2
      have HJ1 := Lib.hid hj1
      clear q1 q2 q3 q4 q5 hcs2 hj1 hj2 hj3
      go_region_held_law (fun w' => True) (trivial)
        (first | (refine step_copy_splice (o := ⟨some 45, _, _, _, _, _⟩) rfl (.tmp 41) (.tmp 44) 40 40 rfl 9 Try.underlying40 hs9 (some ⟨g, m, none⟩) (some ⟨g, 0, none⟩) (n - m) (n - m) m n (by rfl) (by rfl) g m cur 9 HCU.out cs Q1.out Q5.out Q2.out Q3.out w.heap.size w HB.out hgle ?_; intro w4 hg4 hb4))
      all_goals (
        have hcl : cs.length = j := by rw [HCS.out, List.length_replicate]
        have hj1 := HJ1.out
        have hj2 := HJ2.out
        have hw : IntKind.i64.wrap ((m : Int) + (cs.length : Int)) = ((m + cs.length : Nat) : Int) := by rw [IntWalk.i64_in _ (by omega)]; omega
        rw [hw]
        have hrow : ∃ cur' : List Value, w4.heap[g]? = some (.cells cur'.toArray 9 (0, 0)) ∧ cur'.length = n ∧ cur'.take (m + cs.length) = List.replicate (m + cs.length) (.string z) := by
          refine ⟨_, hg4.out, by rw [length_splice _ _ _ Q2.out]; exact HCL.out, ?_⟩
          rw [splice_take' m Q2.out, HCT.out, HCS.out, List.length_replicate, List.replicate_append_replicate]
        have hle : m + cs.length ≤ n := by omega
        have hlt2 : m < m + cs.length := by omega
        have HR := Lib.hid hrow
        have HB4 := Lib.hid hb4
        clear hrow hg4 hb4 hcl hj1 hj2 hw Q1 Q2 Q3 Q5 HCS
        go_wp2
        go_roundw
        case rel => exact ⟨m + cs.length, by omega, hle, rfl, HR.out, HB4.out⟩
        case measure => simp [intOf]; omega)
    · obtain rfl : m = n := by omega
      have hown : wr.ownsRow w.heap.size 9 1 (.slice (some ⟨g, 0, none⟩) m m) m (strs (List.replicate m z)) := by
        refine ⟨by simp [strs], .inr ⟨g, m, cur.toArray, rfl, hgle, hcur, Nat.le_refl _, by unfold maxLen; omega, by simp [hcl], ?_⟩⟩
        rw [Nat.mul_one]
        simp only [strs, List.map_replicate]
        exact hct
      have HO := Lib.hid hown
      have HB := Lib.hid hB
      clear hown hB hcur hct
      go_wp2
      go_ret
      exact ⟨_, rfl, HO.out, HB.out⟩

theorem appW_zero (L W) : appW L W 0 = L := rfl
/-- A new disk's state. -/
def ds0 (n : Nat) : DS := ⟨List.replicate n (secOf 0), [], -1, false, 0⟩
theorem ds0_ok (n : Nat) (h : n ≤ 1200) : (ds0 n).ok 0 := ⟨fun i hi => by simp [ds0] at hi, by simp [ds0], by simp [ds0], by simp [ds0], by simp [ds0], by simpa [ds0] using h⟩

set_option maxHeartbeats 1000000 in
theorem new_bad (n : Int) (w : World) (h : n < 1 ∨ 1200 < n) :
    Calls Try.prog 9 #[.int .i64 n] w fun e w' => e = .returned (.tuple #[.pointer none, .int .i64 2]) ∧ w' = w := by
  by_cases h1 : n < 1
  · go_enter Try.func9, Try.ntmps9
    go_wp2
    refine bodyPost_ret (results_tmp2 rfl _ _ _) rfl ?_
    exact ⟨rfl, rfl⟩
  · have h2 : 1200 < n := by omega
    clear h
    go_enter Try.func9, Try.ntmps9
    go_wp2
    refine bodyPost_ret (results_tmp2 rfl _ _ _) rfl ?_
    exact ⟨rfl, rfl⟩

set_option maxHeartbeats 1000000 in
theorem new_any (n : Nat) (w : World) (h0 : 1 ≤ n) (h1 : n ≤ 1200) :
    Calls Try.prog 9 #[.int .i64 n] w fun e w' => ∃ p v1, e = .returned (.tuple #[.pointer (some ⟨p, 0, none⟩), .int .i64 0]) ∧ PD w' w.heap.size p v1 (.slice none 0 0) (ds0 n) ∧ Below w.heap.size w w' := by
  have i1 : (1 : Int) ≤ (n : Int) := by omega
  have i2 : (n : Int) ≤ 1200 := by omega
  go_enter Try.func9, Try.ntmps9
  go_wp2_with fail
  refine (zero_any w).mono ?_
  rintro e w1 ⟨rfl, hb1⟩
  have hba : Below w.heap.size w (w1.alloc (.cells #[.string (secOf 0)] 9)) := hb1.alloc hb1.size _
  have hr := repeat_strs w1.heap.size (secOf 0) n (w1.alloc (.cells #[.string (secOf 0)] 9)) (World.cell?_alloc_at _ _ _ _ rfl) (by simp) h0 (by omega)
  have HB := Lib.hid hba
  have HR := Lib.hid hr
  have hs1 := hb1.size
  obtain ⟨z0, hz0⟩ : ∃ z, z = secOf 0 := ⟨_, rfl⟩
  rw [← hz0] at HB HR ⊢
  have HZ := Lib.hid hz0
  clear hba hr hb1 hz0
  go_wp2_with fail
  refine HR.out.mono ?_
  rintro e w2 ⟨v', rfl, ho, hb2⟩
  obtain ⟨a, c, rfl, _, _, _⟩ := owns_shape1 ho
  have HO := Lib.hid ho
  have hbf := HB.out.trans (hb2.mono HB.out.size)
  have HBF := Lib.hid hbf
  clear ho hb2 hbf
  go_wp2
  refine bodyPost_ret (results_tmp2 rfl _ _ _) rfl ?_
  have hl : (ds0 n).L.length = n := by simp [ds0]
  refine ⟨w2.heap.size, .slice a n c, rfl, ⟨0, ⟨(heap_alloc_new _ _).trans (by simp [ds0]), HBF.out.size, ?_, World.ownsRow_nil _ _ _ _⟩, fun h => by simp [ds0] at h⟩, HBF.out.alloc HBF.out.size _⟩
  rw [hl]
  show World.ownsRow _ _ _ _ _ _ (strs (List.replicate n (secOf 0)))
  rw [← HZ.out]
  exact owns_low (HO.out.alloc _) (by simp; omega)

end Go.Proofs.Ytfbeblpkjpijbaa

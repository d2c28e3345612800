/-
  Contracts: both List.
-/
import Derived.Test.YtmkjfocdgceamaaI9
namespace Go.Proofs.Ytmkjfocdgceamaa
open Go.RowKit
set_option linter.unusedVariables false
set_option linter.unusedSimpArgs false

/-- The numbers below k that are there, rising. -/
def listL (f : Nat → Bool) (k : Nat) : List Int := ((List.range k).filter f).map fun (i : Nat) => (i : Int)
theorem listL_succ (f : Nat → Bool) (k : Nat) : listL f (k + 1) = if f k then listL f k ++ [(k : Int)] else listL f k := by
  unfold listL
  rw [List.range_succ, List.filter_append]
  by_cases h : f k = true
  · rw [if_pos h, List.filter_cons_of_pos h]; simp
  · rw [if_neg h, List.filter_cons_of_neg h]; simp
theorem listL_le (f : Nat → Bool) (k : Nat) : (listL f k).length ≤ k := by
  unfold listL
  rw [List.length_map]
  have := List.length_filter_le f (List.range k)
  simpa using this
theorem listL_cnt (f : Nat → Bool) : ∀ k, (listL f k).length = cnt f k
  | 0 => rfl
  | k + 1 => by
    have ih := listL_cnt f k
    rw [listL_succ]
    show _ = cnt f k + (if f k then 1 else 0)
    by_cases h : f k = true
    · rw [if_pos h, if_pos h, List.length_append, ih]; rfl
    · rw [if_neg h, if_neg h, ih]; rfl
theorem listL_mem (f : Nat → Bool) (k : Nat) (x : Int) : x ∈ listL f k ↔ ∃ i : Nat, i < k ∧ f i = true ∧ x = (i : Int) := by
  unfold listL
  simp only [List.mem_map, List.mem_filter, List.mem_range]
  constructor
  · rintro ⟨i, ⟨h1, h2⟩, rfl⟩; exact ⟨i, h1, h2, rfl⟩
  · rintro ⟨i, h1, h2, rfl⟩; exact ⟨i, ⟨h1, h2⟩, rfl⟩

set_option maxRecDepth 20000 in
set_option maxHeartbeats 4000000 in
theorem list_any (a b : Nat) (w : World) (ha : a < 18446744073709551616) (hb : b < 18446744073709551616) :
    Calls Try.prog 18 #[setV a b] w fun e w' => ∃ v, e = .returned v ∧ Lf w' w.heap.size v (listL (bitp a b) 128) ∧ Below w.heap.size w w' := by
  obtain ⟨i3, hi, hz0, hz1, hz2⟩ := info_parts Try.info3
  have h1 := fun i w => has_any a b i w ha hb
  have hbit : ∀ k : Nat, k < 128 → hasI a b (k : Int) = bitp a b k := fun k hk => by
    unfold hasI
    rw [decide_eq_true (by omega), Bool.true_and]; rfl
  have bS := Box2.new w 26 (.int .u64 (a : Int)) (.int .u64 (b : Int))
  have hB0 : Below w.heap.size w (w.alloc (.cells #[.int .u64 (a : Int), .int .u64 (b : Int)] 26)) := (Below.refl _ w).alloc (Nat.le_refl _) _
  have hO : (w.alloc (.cells #[.int .u64 (a : Int), .int .u64 (b : Int)] 26)).ownsRow (w.heap.size + 1) 3 1 (.slice none 0 0) 0 [] := World.ownsRow_nil _ _ _ _
  unfold setV at *
  have H1 := Lib.hid h1
  have HBIT := Lib.hid hbit
  have HS := Lib.hid bS
  have HB0 := Lib.hid hB0
  have HO := Lib.hid hO
  clear h1 hbit bS hB0 hO ha hb
  go_enter Try.func18, Try.ntmps18
  go_wp2
  go_loopw [3, 5] (fun o i wr => ∃ (k : Nat) (ad : Option Addr) (c n : Nat), k ≤ 128 ∧ n = (listL (bitp a b) k).length ∧ i = .int .i64 (k : Int) ∧ o = .slice ad n c ∧ wr.ownsRow (w.heap.size + 1) 3 1 (.slice ad n c) n (ivs (listL (bitp a b) k)) ∧ Box2 wr w.heap.size 26 (.int .u64 (a : Int)) (.int .u64 (b : Int)) ∧ Below w.heap.size w wr) (fun _ i _ => 128 - (intOf i).toNat)
  case atStart => exact ⟨0, none, 0, 0, by omega, rfl, rfl, rfl, HO.out, HS.out, HB0.out⟩
  case round =>
    clear HS HO HB0
    obtain ⟨k, ad, c, n, hk, hn, rfl, rfl, hown, hS, hB⟩ := hrel
    have i2 : (0 : Int) ≤ (k : Int) := by omega
    by_cases hlt : k < 128
    · have i1 : (k : Int) < 128 := by omega
      have s0 := hS.c0
      have s1 := hS.c1
      have hh := fun w => H1.out (k : Int) w
      rw [HBIT.out k hlt] at hh
      have hnl : n ≤ k := by rw [hn]; exact listL_le _ _
      have hsuc := listL_succ (bitp a b) k
      have HOW := Lib.hid hown
      have HS := Lib.hid hS
      have HB := Lib.hid hB
      have HN := Lib.hid hn
      have HNL := Lib.hid hnl
      have HLT := Lib.hid hlt
      cases hf : bitp a b k with
      | false =>
        rw [hf] at hh hsuc
        have HSU := Lib.hid (show listL (bitp a b) (k + 1) = listL (bitp a b) k from hsuc)
        have HH := Lib.hid hh
        clear hh hown hS hB hn hnl hsuc hlt hk hf
        go_wp2_with fail
        refine (HH.out _).mono ?_
        rintro r w5 ⟨rfl, hb5⟩
        have hO5 := owns_keptB HOW.out (fun k hk => hb5.block k (HOW.out.lt k hk).2)
        have hS5 := HS.out.below hb5 HS.out.lt
        have hB5 := HB.out.trans (hb5.mono HB.out.size)
        have HO5 := Lib.hid hO5
        have HS5 := Lib.hid hS5
        have HB5 := Lib.hid hB5
        clear hO5 hS5 hB5 hb5
        go_wp2
        refine ⟨⟨k + 1, ad, c, n, by have := HLT.out; omega, by rw [HSU.out]; exact HN.out, by go_num, rfl, by rw [HSU.out]; exact HO5.out, HS5.out, HB5.out⟩, ?_⟩
        have := HLT.out; simp [intOf]; omega
      | true =>
        rw [hf] at hh hsuc
        have HSU := Lib.hid (show listL (bitp a b) (k + 1) = listL (bitp a b) k ++ [(k : Int)] from hsuc)
        have HH := Lib.hid hh
        clear hh hown hS hB hn hnl hsuc hlt hk hf
        go_wp2_with fail
        refine (HH.out _).mono ?_
        rintro r w5 ⟨rfl, hb5⟩
        have hO5 := owns_keptB HOW.out (fun k hk => hb5.block k (HOW.out.lt k hk).2)
        have hS5 := HS.out.below hb5 HS.out.lt
        have hB5 := HB.out.trans (hb5.mono HB.out.size)
        have HO5 := Lib.hid hO5
        have HS5 := Lib.hid hS5
        have HB5 := Lib.hid hB5
        clear hO5 hS5 hB5 hb5
        go_wp2_with (at_builtin; refine wpList_append_i (w0 := w5) (o := ⟨some 14, _, _, _, _, _⟩) rfl (.tmp 11) (.tmp 13) 22 rfl (w.heap.size + 1) i3 Try.underlying22 hi hz0 hz1 hz2 (.slice ad n c) n _ rfl (HO5.out.alloc _) (k : Int) rfl rfl (by have := HNL.out; have := HLT.out; omega) (by have := HS5.out.lt; simp; omega) ?_)
        intro v' w' h1 h2
        have hB' := (HB5.out.alloc HB5.out.size (.cells #[.int .i64 (k : Int)] 3)).grown h2 (by have := HS5.out.lt; simp; omega) (fun k e => by have := (HO5.out.lt k e).1; omega)
        have hS' : Box2 w' w.heap.size 26 (.int .u64 (a : Int)) (.int .u64 (b : Int)) := (h2.block w.heap.size (by have := HS5.out.lt; simp; omega) (fun e => by have := (HO5.out.lt _ e.symm).1; omega)).trans (HS5.out.alloc _)
        obtain ⟨a', c', rfl⟩ := shapeB h1
        rw [← HSU.out] at h1
        have HO1 := Lib.hid h1
        have HB1 := Lib.hid hB'
        have HS1 := Lib.hid hS'
        clear h1 h2 hB' hS' HOW HB HS HO5 HB5 HS5
        go_wp2
        refine ⟨⟨k + 1, a', c', n + 1, by have := HLT.out; omega, by rw [HSU.out, List.length_append, ← HN.out]; rfl, by go_num, rfl, HO1.out, HS1.out, HB1.out⟩, ?_⟩
        have := HLT.out; simp [intOf]; omega
    · obtain rfl : k = 128 := by omega
      have hnl : n ≤ 128 := by rw [hn]; exact listL_le _ _
      have hlf := (lf_owns hown (by omega)).mono (B' := w.heap.size) (by omega)
      have HLF := Lib.hid hlf
      have HB := Lib.hid hB
      clear hlf hB hown hS hnl hn
      go_wp2
      refine bodyPost_ret (results_tmp rfl _ _ _) rfl ?_
      exact ⟨_, rfl, HLF.out, HB.out⟩

set_option maxRecDepth 20000 in
set_option maxHeartbeats 4000000 in
theorem rlist_any (a b : Nat) (w : World) (ha : a < 18446744073709551616) (hb : b < 18446744073709551616) :
    Calls Try.prog 16 #[setV a b] w fun e w' => ∃ v, e = .returned v ∧ Lf w' w.heap.size v (listL (bitp a b) 128) ∧ Below w.heap.size w w' := by
  obtain ⟨i3, hi, hz0, hz1, hz2⟩ := info_parts Try.info3
  have h1 := fun i w => rhas_any a b i w ha hb
  have hbit : ∀ k : Nat, k < 128 → hasI a b (k : Int) = bitp a b k := fun k hk => by
    unfold hasI
    rw [decide_eq_true (by omega), Bool.true_and]; rfl
  have bS := Box2.new w 30 (.int .u64 (a : Int)) (.int .u64 (b : Int))
  have hB0 : Below w.heap.size w (w.alloc (.cells #[.int .u64 (a : Int), .int .u64 (b : Int)] 30)) := (Below.refl _ w).alloc (Nat.le_refl _) _
  have hO : (w.alloc (.cells #[.int .u64 (a : Int), .int .u64 (b : Int)] 30)).ownsRow (w.heap.size + 1) 3 1 (.slice none 0 0) 0 [] := World.ownsRow_nil _ _ _ _
  unfold setV at *
  have H1 := Lib.hid h1
  have HBIT := Lib.hid hbit
  have HS := Lib.hid bS
  have HB0 := Lib.hid hB0
  have HO := Lib.hid hO
  clear h1 hbit bS hB0 hO ha hb
  go_enter Try.func16, Try.ntmps16
  go_wp2
  go_loopw [3, 4] (fun o i wr => ∃ (k : Nat) (ad : Option Addr) (c n : Nat), k ≤ 128 ∧ n = (listL (bitp a b) k).length ∧ i = .int .i64 (k : Int) ∧ o = .slice ad n c ∧ wr.ownsRow (w.heap.size + 1) 3 1 (.slice ad n c) n (ivs (listL (bitp a b) k)) ∧ Box2 wr w.heap.size 30 (.int .u64 (a : Int)) (.int .u64 (b : Int)) ∧ Below w.heap.size w wr) (fun _ i _ => 128 - (intOf i).toNat)
  case atStart => exact ⟨0, none, 0, 0, by omega, rfl, rfl, rfl, HO.out, HS.out, HB0.out⟩
  case round =>
    clear HS HO HB0
    obtain ⟨k, ad, c, n, hk, hn, rfl, rfl, hown, hS, hB⟩ := hrel
    have i2 : (0 : Int) ≤ (k : Int) := by omega
    by_cases hlt : k < 128
    · have i1 : (k : Int) < 128 := by omega
      have s0 := hS.c0
      have s1 := hS.c1
      have hh := fun w => H1.out (k : Int) w
      rw [HBIT.out k hlt] at hh
      have hnl : n ≤ k := by rw [hn]; exact listL_le _ _
      have hsuc := listL_succ (bitp a b) k
      have HOW := Lib.hid hown
      have HS := Lib.hid hS
      have HB := Lib.hid hB
      have HN := Lib.hid hn
      have HNL := Lib.hid hnl
      have HLT := Lib.hid hlt
      cases hf : bitp a b k with
      | false =>
        rw [hf] at hh hsuc
        have HSU := Lib.hid (show listL (bitp a b) (k + 1) = listL (bitp a b) k from hsuc)
        have HH := Lib.hid hh
        clear hh hown hS hB hn hnl hsuc hlt hk hf
        go_wp2_with fail
        refine (HH.out _).mono ?_
        rintro r w5 ⟨rfl, hb5⟩
        have hO5 := owns_keptB HOW.out (fun k hk => hb5.block k (HOW.out.lt k hk).2)
        have hS5 := HS.out.below hb5 HS.out.lt
        have hB5 := HB.out.trans (hb5.mono HB.out.size)
        have HO5 := Lib.hid hO5
        have HS5 := Lib.hid hS5
        have HB5 := Lib.hid hB5
        clear hO5 hS5 hB5 hb5
        go_wp2
        refine ⟨⟨k + 1, ad, c, n, by have := HLT.out; omega, by rw [HSU.out]; exact HN.out, by go_num, rfl, by rw [HSU.out]; exact HO5.out, HS5.out, HB5.out⟩, ?_⟩
        have := HLT.out; simp [intOf]; omega
      | true =>
        rw [hf] at hh hsuc
        have HSU := Lib.hid (show listL (bitp a b) (k + 1) = listL (bitp a b) k ++ [(k : Int)] from hsuc)
        have HH := Lib.hid hh
        clear hh hown hS hB hn hnl hsuc hlt hk hf
        go_wp2_with fail
        refine (HH.out _).mono ?_
        rintro r w5 ⟨rfl, hb5⟩
        have hO5 := owns_keptB HOW.out (fun k hk => hb5.block k (HOW.out.lt k hk).2)
        have hS5 := HS.out.below hb5 HS.out.lt
        have hB5 := HB.out.trans (hb5.mono HB.out.size)
        have HO5 := Lib.hid hO5
        have HS5 := Lib.hid hS5
        have HB5 := Lib.hid hB5
        clear hO5 hS5 hB5 hb5
        go_wp2_with (at_builtin; refine wpList_append_i (w0 := w5) (o := ⟨some 15, _, _, _, _, _⟩) rfl (.tmp 12) (.tmp 14) 22 rfl (w.heap.size + 1) i3 Try.underlying22 hi hz0 hz1 hz2 (.slice ad n c) n _ rfl (HO5.out.alloc _) (k : Int) rfl rfl (by have := HNL.out; have := HLT.out; omega) (by have := HS5.out.lt; simp; omega) ?_)
        intro v' w' h1 h2
        have hB' := (HB5.out.alloc HB5.out.size (.cells #[.int .i64 (k : Int)] 3)).grown h2 (by have := HS5.out.lt; simp; omega) (fun k e => by have := (HO5.out.lt k e).1; omega)
        have hS' : Box2 w' w.heap.size 30 (.int .u64 (a : Int)) (.int .u64 (b : Int)) := (h2.block w.heap.size (by have := HS5.out.lt; simp; omega) (fun e => by have := (HO5.out.lt _ e.symm).1; omega)).trans (HS5.out.alloc _)
        obtain ⟨a', c', rfl⟩ := shapeB h1
        rw [← HSU.out] at h1
        have HO1 := Lib.hid h1
        have HB1 := Lib.hid hB'
        have HS1 := Lib.hid hS'
        clear h1 h2 hB' hS' HOW HB HS HO5 HB5 HS5
        go_wp2
        refine ⟨⟨k + 1, a', c', n + 1, by have := HLT.out; omega, by rw [HSU.out, List.length_append, ← HN.out]; rfl, by go_num, rfl, HO1.out, HS1.out, HB1.out⟩, ?_⟩
        have := HLT.out; simp [intOf]; omega
    · obtain rfl : k = 128 := by omega
      have hnl : n ≤ 128 := by rw [hn]; exact listL_le _ _
      have hlf := (lf_owns hown (by omega)).mono (B' := w.heap.size) (by omega)
      have HLF := Lib.hid hlf
      have HB := Lib.hid hB
      clear hlf hB hown hS hnl hn
      go_wp2
      refine bodyPost_ret (results_tmp rfl _ _ _) rfl ?_
      exact ⟨_, rfl, HLF.out, HB.out⟩

end Go.Proofs.Ytmkjfocdgceamaa

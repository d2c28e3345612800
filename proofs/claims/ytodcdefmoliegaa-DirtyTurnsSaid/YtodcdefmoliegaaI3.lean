/-
  Contracts: the reference's Has, told, made.
-/
import Derived.Test.YtodcdefmoliegaaI2
import Derived.Maps.AppendAt
namespace Go.Proofs.Ytodcdefmoliegaa
open Go.RowKit
set_option linter.unusedVariables false
set_option linter.unusedSimpArgs false

theorem shr_bit (a k : Nat) (ha : a < 18446744073709551616) : (bits .and .u64 ((a : Int) / 2 ^ k) 1 == 1) = a.testBit k := by
  have e : (a : Int) / 2 ^ k = ((a / 2 ^ k : Nat) : Int) := by simp
  have hl : a / 2 ^ k < 18446744073709551616 := Nat.lt_of_le_of_lt (Nat.div_le_self _ _) ha
  have h := u64_and_nat (a / 2 ^ k) 1 hl (by omega)
  rw [nat_mask1] at h
  have h' : bits .and .u64 ((a / 2 ^ k : Nat) : Int) 1 = ((a / 2 ^ k % 2 : Nat) : Int) := h
  rw [e, h', Nat.testBit_eq_decide_div_mod_eq]
  by_cases h2 : a / 2 ^ k % 2 = 1
  · rw [h2]; rfl
  · have : a / 2 ^ k % 2 = 0 := by omega
    rw [this]; rfl

set_option maxRecDepth 20000 in
set_option maxHeartbeats 2000000 in
theorem rhas_any (a b : Nat) (i : Int) (w : World) (ha : a < 18446744073709551616) (hb : b < 18446744073709551616) :
    Calls Try.prog 23 #[setV a b, .int .i64 i] w fun e w' => e = .returned (.bool (hasI a b i)) ∧ Below w.heap.size w w' := by
  have bS := Box2.new w 24 (.int .u64 (a : Int)) (.int .u64 (b : Int))
  have hB0 : Below w.heap.size w (w.alloc (.cells #[.int .u64 (a : Int), .int .u64 (b : Int)] 24)) := (Below.refl _ w).alloc (Nat.le_refl _) _
  unfold setV
  by_cases h0 : 0 ≤ i
  · by_cases h1 : i < 128
    · by_cases h2 : i < 64
      · have hi2 : i ≤ 127 := by omega
        have e4 : i / 64 = 0 := by omega
        have e3 : i % 64 = i := by omega
        have c0 := bS.c0
        have HB0 := Lib.hid hB0
        have hs := shr_bit a i.toNat ha
        have hv : a.testBit i.toNat = hasI a b i := by
          unfold hasI bitp
          rw [if_pos (by omega), decide_eq_true (by omega : 0 ≤ i ∧ i < 128), Bool.true_and]
        rw [hv] at hs
        clear hB0 bS hv
        go_enter Try.func23, Try.ntmps23
        go_wp2
        refine bodyPost_ret (results_tmp rfl _ _ _) rfl ?_
        exact ⟨rfl, HB0.out⟩
      · have hi2 : i ≤ 127 := by omega
        have e4 : i / 64 = 1 := by omega
        have e3 : (i % 64).toNat = i.toNat - 64 := by omega
        have c0 := bS.c1
        have HB0 := Lib.hid hB0
        have hs := shr_bit b (i.toNat - 64) hb
        have hv : b.testBit (i.toNat - 64) = hasI a b i := by
          unfold hasI bitp
          rw [if_neg (by omega), decide_eq_true (by omega : 0 ≤ i ∧ i < 128), Bool.true_and]
        rw [hv] at hs
        clear hB0 bS hv
        go_enter Try.func23, Try.ntmps23
        go_wp2
        refine bodyPost_ret (results_tmp rfl _ _ _) rfl ?_
        exact ⟨rfl, HB0.out⟩
    · have hv : hasI a b i = false := by unfold hasI; rw [decide_eq_false (by omega), Bool.false_and]
      have hi2 : 127 < i := by omega
      rw [hv]
      clear hv bS
      go_enter Try.func23, Try.ntmps23
      go_wp2
      refine bodyPost_ret (results_tmp rfl _ _ _) rfl ?_
      exact ⟨rfl, hB0⟩
  · have hv : hasI a b i = false := by unfold hasI; rw [decide_eq_false (by omega), Bool.false_and]
    rw [hv]
    clear hv bS
    go_enter Try.func23, Try.ntmps23
    go_wp2
    refine bodyPost_ret (results_tmp rfl _ _ _) rfl ?_
    exact ⟨rfl, hB0⟩

theorem owns_keptB {w w' : World} {B e size n : Nat} {v : Value} {xs : List Value} (h : w.ownsRow B e size v n xs) (hk : ∀ k, v.ownBlock = some k → w'.heap[k]? = w.heap[k]?) : w'.ownsRow B e size v n xs := by
  refine ⟨h.1, ?_⟩
  rcases h.2 with hn | ⟨g, cap, cur, rfl, hb, hgg, rest⟩
  · exact .inl hn
  · exact .inr ⟨g, cap, cur, rfl, hb, by rw [hk g rfl]; exact hgg, rest⟩

/-- A row of 128 truths. -/
def BR (W : World) (g : Nat) (f : Nat → Bool) : Prop := ∀ i, i < 128 → W.cell? ⟨g, i, none⟩ = some (.bool (f i))
theorem BR.below {W W' g f n} (h : BR W g f) (hb : Below n W W') (hg : g < n) : BR W' g f := fun i hi => (hb.cell (p := ⟨g, i, none⟩) hg).trans (h i hi)
theorem BR.set {W g f} (h : BR W g f) (k : Nat) (hk : k < 128) (v : Bool) : BR (W.setCell ⟨g, k, none⟩ (.bool v)) g (fun i => if i = k then v else f i) := fun i hi => by
  by_cases he : i = k
  · subst he
    show _ = some (Value.bool (if i = i then v else f i))
    rw [if_pos rfl, World.cell?_setCell_same _ _ _ (h i hi)]
  · show _ = some (Value.bool (if i = k then v else f i))
    rw [if_neg he, World.cell?_setCell_other _ _ _ _ (fun e => he (congrArg Addr.off e).symm)]
    exact h i hi
theorem Try.info4b : (Try.prog.info? 4).map (fun i => (i.zero, i.size, i.bytes)) = some (some (.bool false), 1, 1) := by kernel_rfl
theorem cells_one4 (w : World) (V : Value) : ∀ (j : Nat) (u : Value), [V][j]? = some u → (w.alloc (.cells #[V] 4)).cell? ((⟨w.heap.size, 0, none⟩ : Addr).add j) = some u := by
  intro j u hj
  rw [Addr.add_none, cell_of_blk (heap_alloc_new w _), Nat.zero_add]
  simpa using hj
theorem shapeB {w : World} {B e size n : Nat} {v : Value} {xs : List Value} (h : w.ownsRow B e size v n xs) : ∃ a c, v = .slice a n c := by
  rcases h.2 with ⟨rfl, h0⟩ | ⟨g, cap, cur, rfl, _⟩
  · exact ⟨none, 0, by rw [h0]⟩
  · exact ⟨_, _, rfl⟩
def boolsL (f : Nat → Bool) (k : Nat) : List Value := (List.range k).map fun i => .bool (f i)
theorem boolsL_succ (f k) : boolsL f (k + 1) = boolsL f k ++ [.bool (f k)] := by simp [boolsL, List.range_succ]
theorem boolsL_at (f : Nat → Bool) (k i : Nat) (h : i < k) : (boolsL f k)[i]? = some (.bool (f i)) := by simp [boolsL, h]

set_option maxRecDepth 20000 in
set_option maxHeartbeats 4000000 in
theorem told_any (a b : Nat) (w : World) (ha : a < 18446744073709551616) (hb : b < 18446744073709551616) :
    Calls Try.prog 21 #[setV a b] w fun e w' => ∃ g c, e = .returned (.slice (some ⟨g, 0, none⟩) 128 c) ∧ w.heap.size ≤ g ∧ g < w'.heap.size ∧ 128 ≤ c ∧ c ≤ maxLen ∧ BR w' g (bitp a b) ∧ (∃ cur, w'.heap[g]? = some (.cells cur 4 (0, 0))) ∧ Below w.heap.size w w' := by
  obtain ⟨i4, hi, hz0, hz1, hz2⟩ := info_parts Try.info4b
  have h1 := fun i w => rhas_any a b i w ha hb
  have hbit : ∀ k : Nat, k < 128 → hasI a b (k : Int) = bitp a b k := fun k hk => by
    unfold hasI
    rw [decide_eq_true (by omega), Bool.true_and]; rfl
  have bS := Box2.new w 24 (.int .u64 (a : Int)) (.int .u64 (b : Int))
  have hB0 : Below w.heap.size w (w.alloc (.cells #[.int .u64 (a : Int), .int .u64 (b : Int)] 24)) := (Below.refl _ w).alloc (Nat.le_refl _) _
  have hO : (w.alloc (.cells #[.int .u64 (a : Int), .int .u64 (b : Int)] 24)).ownsRow (w.heap.size + 1) 4 1 (.slice none 0 0) 0 [] := World.ownsRow_nil _ _ _ _
  unfold setV at *
  have H1 := Lib.hid h1
  have HBIT := Lib.hid hbit
  have HS := Lib.hid bS
  have HB0 := Lib.hid hB0
  have HO := Lib.hid hO
  clear h1 hbit bS hB0 hO ha hb
  go_enter Try.func21, Try.ntmps21
  go_wp2
  go_loopw [3, 4] (fun o i wr => ∃ (k : Nat) (ad : Option Addr) (c n : Nat), k ≤ 128 ∧ n = k ∧ i = .int .i64 (k : Int) ∧ o = .slice ad n c ∧ wr.ownsRow (w.heap.size + 1) 4 1 (.slice ad n c) n (boolsL (bitp a b) k) ∧ Box2 wr w.heap.size 24 (.int .u64 (a : Int)) (.int .u64 (b : Int)) ∧ Below w.heap.size w wr) (fun _ i _ => 128 - (intOf i).toNat)
  case atStart => exact ⟨0, none, 0, 0, by omega, rfl, rfl, rfl, HO.out, HS.out, HB0.out⟩
  case round =>
    clear HS HO HB0
    obtain ⟨k, ad, c, n, hk, hn, rfl, rfl, hown, hS, hB⟩ := hrel
    have i2 : (0 : Int) ≤ (k : Int) := by omega
    by_cases hlt : k < 128
    · have i1 : (k : Int) < 128 := by omega
      have s0 := hS.c0
      have s1 := hS.c1
      have hh := fun w => H1.out (k : Int) w
      rw [HBIT.out k hlt] at hh
      have hsuc := boolsL_succ (bitp a b) k
      have HH := Lib.hid hh
      have HOW := Lib.hid hown
      have HS := Lib.hid hS
      have HB := Lib.hid hB
      have HN := Lib.hid hn
      have HSU := Lib.hid hsuc
      have HLT := Lib.hid hlt
      clear hh hown hS hB hn hsuc hlt hk
      go_wp2_with fail
      refine (HH.out _).mono ?_
      rintro r w5 ⟨rfl, hb5⟩
      have hO5 := owns_keptB HOW.out (fun k hk => hb5.block k (HOW.out.lt k hk).2)
      have hS5 := HS.out.below hb5 HS.out.lt
      have hB5 := HB.out.trans (hb5.mono HB.out.size)
      have HO5 := Lib.hid hO5
      have HS5 := Lib.hid hS5
      have HB5 := Lib.hid hB5
      clear hO5 hS5 hB5 hb5
      go_wp2_with (at_builtin; refine wpList_append_own_at _ (o := ⟨some 14, _, _, _, _, _⟩) rfl (.tmp 9) (.tmp 13) 51 rfl (w.heap.size + 1) 4 i4 _ 1 1 Try.underlying51 hi hz0 hz1 hz2 rfl (by omega) (.slice ad n c) n _ rfl (HO5.out.alloc _) ⟨_, 0, none⟩ 1 1 [.bool (bitp a b k)] rfl rfl (cells_one4 _ _) (by simp [Value.oneCell']) (by have := HN.out; have := HLT.out; unfold maxLen; omega) (by have := HN.out; have := HLT.out; omega) (by have := HS5.out.lt; simp; omega) ?_)
      intro v' w' h1 h2 _ _
      have hB' := (HB5.out.alloc HB5.out.size (.cells #[.bool (bitp a b k)] 4)).grown h2 (by have := HS5.out.lt; simp; omega) (fun k e => by have := (HO5.out.lt k e).1; omega)
      have hS' : Box2 w' w.heap.size 24 (.int .u64 (a : Int)) (.int .u64 (b : Int)) := (h2.block w.heap.size (by have := HS5.out.lt; simp; omega) (fun e => by have := (HO5.out.lt _ e.symm).1; omega)).trans (HS5.out.alloc _)
      obtain ⟨a', c', rfl⟩ := shapeB h1
      rw [← HSU.out] at h1
      have HO1 := Lib.hid h1
      have HB1 := Lib.hid hB'
      have HS1 := Lib.hid hS'
      clear h1 h2 hB' hS' HOW HB HS HO5 HB5 HS5
      go_wp2
      refine ⟨⟨k + 1, a', c', n + 1, by have := HLT.out; omega, by have := HN.out; omega, by go_num, rfl, HO1.out, HS1.out, HB1.out⟩, ?_⟩
      have := HLT.out; simp [intOf]; omega
    · obtain rfl : k = 128 := by omega
      subst hn
      rcases hown.2 with ⟨he, h0⟩ | ⟨g, cap, cur, he, hbg, hgg, hcap, hmax, hcs, htk⟩
      · cases h0
      · cases he
        have hbr : BR wr g (bitp a b) := fun i hi => by
          have := hown.cells (g := g) rfl i (.bool (bitp a b i)) (boolsL_at _ _ _ hi)
          rwa [Addr.add_none, Nat.zero_add] at this
        have HBR := Lib.hid hbr
        have HB := Lib.hid hB
        have HGG := Lib.hid hgg
        have HX := Lib.hid (And.intro hbg (And.intro hcap hmax))
        clear hbr hB hgg hown htk hcs hcap hmax hbg hS
        go_wp2
        refine bodyPost_ret (results_tmp rfl _ _ _) rfl ?_
        exact ⟨g, c, rfl, by have := HX.out.1; omega, lt_of_block HGG.out, HX.out.2.1, HX.out.2.2, HBR.out, ⟨_, HGG.out⟩, HB.out⟩
end Go.Proofs.Ytodcdefmoliegaa


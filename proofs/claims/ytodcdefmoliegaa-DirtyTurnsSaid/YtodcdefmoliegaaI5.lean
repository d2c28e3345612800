/-
  Contracts: the reference's With, Without, Or, Minus.
-/
import Derived.Test.YtodcdefmoliegaaI4
namespace Go.Proofs.Ytodcdefmoliegaa
open Go.RowKit
set_option linter.unusedVariables false
set_option linter.unusedSimpArgs false

theorem with_set (a b : Nat) (i : Int) (n : Nat) (hn : i = (n : Int)) (h : n < 128) (ha : a < 18446744073709551616) (hb : b < 18446744073709551616) : setF (fun k => if k = n then true else bitp a b k) = setV (a ||| oneA i) (b ||| oneB i) := by
  symm
  refine setV_of (or_lt ha (oneA_lt i)) (or_lt hb (oneB_lt i)) fun k hk => ?_
  rw [or_bit, one_bit i k hk, hn]
  by_cases he : k = n
  · simp [he]
  · have : ¬ ((k : Int) = (n : Int)) := by omega
    simp [he, this]
theorem without_set (a b : Nat) (i : Int) (n : Nat) (hn : i = (n : Int)) (h : n < 128) (ha : a < 18446744073709551616) (hb : b < 18446744073709551616) : setF (fun k => if k = n then false else bitp a b k) = setV (a &&& (18446744073709551615 - oneA i)) (b &&& (18446744073709551615 - oneB i)) := by
  symm
  refine setV_of (and_lt _ ha) (and_lt _ hb) fun k hk => ?_
  rw [minus_bit _ _ _ _ k hk (oneA_lt i) (oneB_lt i), one_bit i k hk, hn]
  by_cases he : k = n
  · simp [he]
  · have : ¬ ((k : Int) = (n : Int)) := by omega
    simp [he, this]
theorem cell_lt {W : World} {a : Addr} {v : Value} (h : W.cell? a = some v) : a.block < W.heap.size := by
  unfold World.cell? at h
  split at h
  · rename_i hb; exact (Array.getElem?_eq_some_iff.1 hb).1
  · cases h
theorem free_some {W : World} {g k : Nat} {cur : Array Value} {t : TypeId} (h : W.heap[g]? = some (.cells cur t (0, 0))) : W.frozen? ⟨g, k, none⟩ = false := free_of_blk h k

set_option maxRecDepth 20000 in
set_option maxHeartbeats 2000000 in
theorem rwith_any (a b : Nat) (i : Int) (w : World) (ha : a < 18446744073709551616) (hb : b < 18446744073709551616) :
    Calls Try.prog 16 #[setV a b, .int .i64 i] w fun e w' => e = .returned (withV a b i) ∧ Below w.heap.size w w' := by
  have bS := (Box2.new w 24 (.int .u64 (a : Int)) (.int .u64 (b : Int))).alloc (.cells #[.int .u64 0, .int .u64 0] 24)
  have bR := Box2.new (w.alloc (.cells #[.int .u64 (a : Int), .int .u64 (b : Int)] 24)) 24 (.int .u64 0) (.int .u64 0)
  have hB0 := below2 w (.cells #[.int .u64 (a : Int), .int .u64 (b : Int)] 24) (.cells #[.int .u64 0, .int .u64 0] 24)
  simp only [World.size_alloc] at bR
  by_cases hi : 0 ≤ i ∧ i < 128
  · have hv : withV a b i = .tuple #[setV (a ||| oneA i) (b ||| oneB i), .int .i64 0] := by unfold withV withP; rw [if_pos hi]; rfl
    obtain ⟨n, hn⟩ : ∃ n : Nat, i = (n : Int) := ⟨i.toNat, by omega⟩
    have hn8 : n < 128 := by omega
    have hset := with_set a b i n hn hn8 ha hb
    rw [hv]
    generalize (a ||| oneA i) = x at *
    generalize (b ||| oneB i) = y at *
    clear hv
    subst hn
    have h1 := fun w => told_any a b w ha hb
    have h2 := fun g c w hb hg hc hm => made_any g c (fun k => if k = n then true else bitp a b k) w hb hg hc hm
    rw [hset] at h2
    unfold setV at *
    have H1 := Lib.hid h1
    have H2 := Lib.hid h2
    have i1 : ¬ (n : Int) < 0 := by omega
    have i2 : ¬ (127 : Int) < (n : Int) := by omega
    have i3 : (n : Int) < 128 := by omega
    have HN := Lib.hid hn8
    clear h1 h2 ha hb hi hset hn8
    go_enter Try.func16, Try.ntmps16
    go_wp2_with fail
    generalize (w.alloc (.cells #[.int .u64 (a : Int), .int .u64 (b : Int)] 24)).alloc (.cells #[.int .u64 0, .int .u64 0] 24) = W0 at *
    refine (H1.out _).mono ?_
    rintro r w5 ⟨g, c, rfl, hgW, hg5, hc, hcm, hbr, ⟨cur, hcur⟩, hb5⟩
    have cR := bR.below hb5 bR.lt
    have hB5 := hB0.trans (hb5.mono hB0.size)
    have hgl : w.heap.size + 1 < g := Nat.lt_of_lt_of_le bR.lt hgW
    have hcc : (c : Int) ≤ 9223372036854775807 := by unfold maxLen at hcm; omega
    have hc2 : (128 : Int) ≤ (c : Int) := by omega
    have cg := hbr n HN.out
    have fg := free_some (k := n) hcur
    have hbr2 := hbr.set n HN.out true
    have cR2 := cR.other (b' := g) n (by omega) (.bool true)
    have hB6 := below_set (b := g) (i := n) (v := .bool true) hB5 (by omega)
    have HBR := Lib.hid hbr2
    have HR := Lib.hid cR2
    have HB6 := Lib.hid hB6
    have HX := Lib.hid (And.intro hc (And.intro hcm hg5))
    clear hb5 bS bR hB0 hB5 cR hbr hcur hbr2 cR2 hB6 hc hcm hgW hg5
    go_wp2_with fail
    refine (H2.out g c _ HBR.out (by simpa using HX.out.2.2) HX.out.1 HX.out.2.1).mono ?_
    rintro r w7 ⟨rfl, hb7⟩
    have eR := HR.out.below hb7 HR.out.lt
    have hB7 := HB6.out.trans (hb7.mono HB6.out.size)
    have f0 := eR.f0
    have f1 := eR.f1
    have c0 := eR.c0
    have c1 := eR.c1
    clear hb7
    have hR2 := (eR.set0 (.int .u64 (x : Int))).set1 (.int .u64 (y : Int))
    have hB8 := below_set (b := w.heap.size + 1) (i := 1) (v := .int .u64 (y : Int)) (below_set (b := w.heap.size + 1) (i := 0) (v := .int .u64 (x : Int)) hB7 (by omega)) (by omega)
    go_wp2
    refine bodyPost_ret (by simp [results, Try.f16, go_sem, hR2.c0, hR2.c1]; try rfl) rfl ?_
    exact ⟨rfl, hB8⟩
  · have hv : withV a b i = .tuple #[setV 0 0, .int .i64 3] := by unfold withV withP; rw [if_neg hi]; rfl
    rw [hv]
    unfold setV
    have f0 := bR.f0
    have f1 := bR.f1
    have c0 := bR.c0
    have c1 := bR.c1
    have hR2 := (bR.set0 (.int .u64 0)).set1 (.int .u64 0)
    have hB8 := below_set (b := w.heap.size + 1) (i := 1) (v := .int .u64 0) (below_set (b := w.heap.size + 1) (i := 0) (v := .int .u64 0) hB0 (by omega)) (by omega)
    clear hv
    by_cases h0 : i < 0
    · clear hi
      go_enter Try.func16, Try.ntmps16
      go_wp2
      refine bodyPost_ret (by simp [results, Try.f16, go_sem, hR2.c0, hR2.c1]; try rfl) rfl ?_
      first | exact ⟨rfl, hB8⟩ | exact ⟨rfl, hB0⟩
    · have h1 : 127 < i := by omega
      clear hi
      go_enter Try.func16, Try.ntmps16
      go_wp2
      refine bodyPost_ret (by simp [results, Try.f16, go_sem, hR2.c0, hR2.c1]; try rfl) rfl ?_
      first | exact ⟨rfl, hB8⟩ | exact ⟨rfl, hB0⟩
end Go.Proofs.Ytodcdefmoliegaa


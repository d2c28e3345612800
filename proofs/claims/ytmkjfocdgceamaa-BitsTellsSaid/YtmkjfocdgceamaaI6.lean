/-
  Contracts: the reference's Without, Or, Minus.
-/
import Derived.Test.YtmkjfocdgceamaaI5
namespace Go.Proofs.Ytmkjfocdgceamaa
open Go.RowKit
set_option linter.unusedVariables false
set_option linter.unusedSimpArgs false

set_option maxRecDepth 20000 in
set_option maxHeartbeats 2000000 in
theorem rwithout_any (a b : Nat) (i : Int) (w : World) (ha : a < 18446744073709551616) (hb : b < 18446744073709551616) :
    Calls Try.prog 12 #[setV a b, .int .i64 i] w fun e w' => e = .returned (setV (a &&& (18446744073709551615 - oneA i)) (b &&& (18446744073709551615 - oneB i))) ∧ Below w.heap.size w w' := by
  have bS := (Box2.new w 30 (.int .u64 (a : Int)) (.int .u64 (b : Int))).alloc (.cells #[.int .u64 0, .int .u64 0] 30)
  have bR := Box2.new (w.alloc (.cells #[.int .u64 (a : Int), .int .u64 (b : Int)] 30)) 30 (.int .u64 0) (.int .u64 0)
  have hB0 := below2 w (.cells #[.int .u64 (a : Int), .int .u64 (b : Int)] 30) (.cells #[.int .u64 0, .int .u64 0] 30)
  simp only [World.size_alloc] at bR
  have hh := fun w => rhas_any a b i w ha hb
  by_cases hi : hasI a b i = true
  · have hi2 : 0 ≤ i ∧ i < 128 := by
      unfold hasI at hi
      simp only [Bool.and_eq_true, decide_eq_true_iff] at hi
      exact hi.1
    rw [hi] at hh
    obtain ⟨n, hn⟩ : ∃ n : Nat, i = (n : Int) := ⟨i.toNat, by omega⟩
    have hn8 : n < 128 := by omega
    have hset := without_set a b i n hn hn8 ha hb
    generalize (a &&& (18446744073709551615 - oneA i)) = x at *
    generalize (b &&& (18446744073709551615 - oneB i)) = y at *
    subst hn
    have h1 := fun w => told_any a b w ha hb
    have h2 := fun g c w hb hg hc hm => made_any g c (fun k => if k = n then false else bitp a b k) w hb hg hc hm
    rw [hset] at h2
    unfold setV at *
    have HH := Lib.hid hh
    have H1 := Lib.hid h1
    have H2 := Lib.hid h2
    have i3 : (n : Int) < 128 := by omega
    have i4 : (0 : Int) ≤ (n : Int) := by omega
    have HN := Lib.hid hn8
    clear hh h1 h2 ha hb hi hi2 hset hn8
    go_enter Try.func12, Try.ntmps12
    go_wp2_with fail
    generalize (w.alloc (.cells #[.int .u64 (a : Int), .int .u64 (b : Int)] 30)).alloc (.cells #[.int .u64 0, .int .u64 0] 30) = W0 at *
    refine (HH.out _).mono ?_
    rintro r w4 ⟨rfl, hb4⟩
    have bS4 := bS.below hb4 bS.lt
    have bR4 := bR.below hb4 bR.lt
    have hB4 := hB0.trans (hb4.mono hB0.size)
    have s0 := bS4.c0
    have s1 := bS4.c1
    clear hb4 bS bR hB0
    go_wp2_with fail
    refine (H1.out _).mono ?_
    rintro r w5 ⟨g, c, rfl, hgW, hg5, hc, hcm, hbr, ⟨cur, hcur⟩, hb5⟩
    have cR := bR4.below hb5 bR4.lt
    have hB5 := hB4.trans (hb5.mono hB4.size)
    have hgl : w.heap.size + 1 < g := Nat.lt_of_lt_of_le bR4.lt hgW
    have hcc : (c : Int) ≤ 9223372036854775807 := by unfold maxLen at hcm; omega
    have hc2 : (128 : Int) ≤ (c : Int) := by omega
    have cg := hbr n HN.out
    have fg := free_some (k := n) hcur
    have hbr2 := hbr.set n HN.out false
    have cR2 := cR.other (b' := g) n (by omega) (.bool false)
    have hB6 := below_set (b := g) (i := n) (v := .bool false) hB5 (by omega)
    have HBR := Lib.hid hbr2
    have HR := Lib.hid cR2
    have HB6 := Lib.hid hB6
    have HX := Lib.hid (And.intro hc (And.intro hcm hg5))
    clear hb5 bS4 bR4 hB4 hB5 cR hbr hcur hbr2 cR2 hB6 hc hcm hgW hg5
    go_wp2_with fail
    refine (H2.out g c _ HBR.out (by simpa using HX.out.2.2) HX.out.1 HX.out.2.1).mono ?_
    rintro r w7 ⟨rfl, hb7⟩
    have eR := HR.out.below hb7 HR.out.lt
    have hB7 := HB6.out.trans (hb7.mono HB6.out.size)
    have f0 := eR.f0
    have f1 := eR.f1
    have c0 := eR.c0
    have c1 := eR.c1
    clear hb7
    have hR2 := (eR.set0 (.int .u64 (x : Int))).set1 (.int .u64 (y : Int))
    have hB8 := below_set (b := w.heap.size + 1) (i := 1) (v := .int .u64 (y : Int)) (below_set (b := w.heap.size + 1) (i := 0) (v := .int .u64 (x : Int)) hB7 (by omega)) (by omega)
    go_wp2
    refine bodyPost_ret (by simp [results, Try.f12, go_sem, hR2.c0, hR2.c1]; try rfl) rfl ?_
    exact ⟨rfl, hB8⟩
  · have hi' : hasI a b i = false := by simpa using hi
    have hsame := (minus_same a b i ha hb).2 (fun h => hi (by unfold hasI; rw [decide_eq_true ⟨h.1, h.2.1⟩, Bool.true_and]; exact h.2.2))
    rw [hsame.1, hsame.2]
    rw [hi'] at hh
    unfold setV at *
    have HH := Lib.hid hh
    clear hh ha hb hi hi' hsame
    go_enter Try.func12, Try.ntmps12
    go_wp2_with fail
    generalize (w.alloc (.cells #[.int .u64 (a : Int), .int .u64 (b : Int)] 30)).alloc (.cells #[.int .u64 0, .int .u64 0] 30) = W0 at *
    refine (HH.out _).mono ?_
    rintro r w4 ⟨rfl, hb4⟩
    have bS4 := bS.below hb4 bS.lt
    have bR4 := bR.below hb4 bR.lt
    have hB4 := hB0.trans (hb4.mono hB0.size)
    have s0 := bS4.c0
    have s1 := bS4.c1
    have f0 := bR4.f0
    have f1 := bR4.f1
    have c0 := bR4.c0
    have c1 := bR4.c1
    clear hb4 bS bR hB0
    have hR2 := (bR4.set0 (.int .u64 (a : Int))).set1 (.int .u64 (b : Int))
    have hB8 := below_set (b := w.heap.size + 1) (i := 1) (v := .int .u64 (b : Int)) (below_set (b := w.heap.size + 1) (i := 0) (v := .int .u64 (a : Int)) hB4 (by omega)) (by omega)
    go_wp2
    refine bodyPost_ret (by simp [results, Try.f12, go_sem, hR2.c0, hR2.c1]; try rfl) rfl ?_
    exact ⟨rfl, hB8⟩

theorem ror_set (a b c d : Nat) (ha : a < 18446744073709551616) (hb : b < 18446744073709551616) (hc : c < 18446744073709551616) (hd : d < 18446744073709551616) : setF (fun k => (bitp a b k || bitp c d k)) = setV (a ||| c) (b ||| d) := by
  symm
  refine setV_of (or_lt ha hc) (or_lt hb hd) fun k hk => ?_
  rw [or_bit]

set_option maxRecDepth 20000 in
set_option maxHeartbeats 4000000 in
theorem ror_any (a b c d : Nat) (w : World) (ha : a < 18446744073709551616) (hb : b < 18446744073709551616) (hc : c < 18446744073709551616) (hd : d < 18446744073709551616) :
    Calls Try.prog 20 #[setV a b, setV c d] w fun e w' => e = .returned (setV (a ||| c) (b ||| d)) ∧ Below w.heap.size w w' := by
  have bS := ((Box2.new w 30 (.int .u64 (a : Int)) (.int .u64 (b : Int))).alloc (.cells #[.int .u64 (c : Int), .int .u64 (d : Int)] 30)).alloc (.cells #[.int .u64 0, .int .u64 0] 30)
  have bO := (Box2.new (w.alloc (.cells #[.int .u64 (a : Int), .int .u64 (b : Int)] 30)) 30 (.int .u64 (c : Int)) (.int .u64 (d : Int))).alloc (.cells #[.int .u64 0, .int .u64 0] 30)
  have bR := Box2.new ((w.alloc (.cells #[.int .u64 (a : Int), .int .u64 (b : Int)] 30)).alloc (.cells #[.int .u64 (c : Int), .int .u64 (d : Int)] 30)) 30 (.int .u64 0) (.int .u64 0)
  have hB0 : Below w.heap.size w (((w.alloc (.cells #[.int .u64 (a : Int), .int .u64 (b : Int)] 30)).alloc (.cells #[.int .u64 (c : Int), .int .u64 (d : Int)] 30)).alloc (.cells #[.int .u64 0, .int .u64 0] 30)) := (below2 w _ _).alloc (by simp; omega) _
  simp only [World.size_alloc] at bO bR
  have hset := ror_set a b c d ha hb hc hd
  have h1 := fun w => told_any a b w ha hb
  have h2 := fun g cp w hb hg hc hm => made_any g cp (fun k => (bitp a b k || bitp c d k)) w hb hg hc hm
  rw [hset] at h2
  have h3 := fun i w => rhas_any c d i w hc hd
  have hbit : ∀ k : Nat, k < 128 → hasI c d (k : Int) = bitp c d k := fun k hk => by
    unfold hasI
    rw [decide_eq_true (by omega), Bool.true_and]; rfl
  generalize (a ||| c) = x at *
  generalize (b ||| d) = y at *
  unfold setV at *
  have H1 := Lib.hid h1
  have H2 := Lib.hid h2
  have H3 := Lib.hid h3
  have HBIT := Lib.hid hbit
  clear h1 h2 h3 ha hb hc hd hset hbit
  go_enter Try.func20, Try.ntmps20
  go_wp2_with fail
  generalize ((w.alloc (.cells #[.int .u64 (a : Int), .int .u64 (b : Int)] 30)).alloc (.cells #[.int .u64 (c : Int), .int .u64 (d : Int)] 30)).alloc (.cells #[.int .u64 0, .int .u64 0] 30) = W0 at *
  refine (H1.out _).mono ?_
  rintro r w5 ⟨g, cp, rfl, hgW, hg5, hcp, hcm, hbr, ⟨cur, hcur⟩, hb5⟩
  have cO := bO.below hb5 bO.lt
  have cR := bR.below hb5 bR.lt
  have hB5 := hB0.trans (hb5.mono hB0.size)
  have hgl : w.heap.size + 1 + 1 < g := Nat.lt_of_lt_of_le bR.lt hgW
  have hcc : (cp : Int) ≤ 9223372036854775807 := by unfold maxLen at hcm; omega
  have hc2 : (128 : Int) ≤ (cp : Int) := by omega
  have HO := Lib.hid cO
  have HR := Lib.hid cR
  have HB5 := Lib.hid hB5
  have HBR := Lib.hid hbr
  have HCUR := Lib.hid (show ∃ cur, w5.heap[g]? = some (.cells cur 4 (0, 0)) from ⟨_, hcur⟩)
  have HX := Lib.hid (And.intro hcp hcm)
  clear hb5 bS bO bR hB0 cO cR hB5 hbr hcur hcp hcm hgW hg5
  go_wp2
  go_loopw [6] (fun i wr => ∃ k : Nat, k ≤ 128 ∧ i = .int .i64 (k : Int) ∧ BR wr g (fun i => if i < k then (bitp a b i || bitp c d i) else bitp a b i) ∧ (∃ cur, wr.heap[g]? = some (.cells cur 4 (0, 0))) ∧ Box2 wr (w.heap.size + 1) 30 (.int .u64 (c : Int)) (.int .u64 (d : Int)) ∧ Box2 wr (w.heap.size + 1 + 1) 30 (.int .u64 0) (.int .u64 0) ∧ Below w.heap.size w wr) (fun i _ => 128 - (intOf i).toNat)
  case atStart => exact ⟨0, by omega, rfl, fun i hi => by simpa using HBR.out i hi, HCUR.out, HO.out, HR.out, HB5.out⟩
  case round =>
    clear HBR HCUR HO HR HB5
    obtain ⟨k, hk, rfl, hbr, ⟨cur, hcur⟩, hO, hR, hB⟩ := hrel
    have i2 : (0 : Int) ≤ (k : Int) := by omega
    by_cases hlt : k < 128
    · have i1 : (k : Int) < 128 := by omega
      have cg : wr.cell? ⟨g, k, none⟩ = some (.bool (bitp a b k)) := by
        have := hbr k hlt
        dsimp only at this
        rwa [if_neg (by omega)] at this
      have fg := free_some (k := k) hcur
      have hh := fun w => H3.out (k : Int) w
      rw [HBIT.out k hlt] at hh
      have hnext : ∀ wz, BR wz g (fun i => if i < k then (bitp a b i || bitp c d i) else bitp a b i) → BR (wz.setCell ⟨g, k, none⟩ (.bool ((bitp a b k || bitp c d k)))) g (fun i => if i < k + 1 then (bitp a b i || bitp c d i) else bitp a b i) := fun wz hz i hi => by
        have := (hz.set k hlt ((bitp a b k || bitp c d k))) i hi
        dsimp only at this ⊢
        rw [this]
        by_cases he : i = k
        · subst he; simp
        · rw [if_neg he]
          by_cases hik : i < k
          · rw [if_pos hik, if_pos (by omega)]
          · rw [if_neg hik, if_neg (by omega)]
      have hgl2 : g < wr.heap.size := lt_of_block hcur
      have HN := Lib.hid hnext
      have HBR := Lib.hid hbr
      have HCUR := Lib.hid hcur
      have HO := Lib.hid hO
      have HR := Lib.hid hR
      have HB := Lib.hid hB
      have HH := Lib.hid hh
      have HLT := Lib.hid hlt
      have s0 := hO.c0
      have s1 := hO.c1
      clear hnext hbr hcur hO hR hB hh hlt hk
      cases hf : bitp a b k with
      | true =>
        rw [hf] at cg HN
        clear hf
        go_wp2
        refine ⟨⟨k + 1, by have := HLT.out; omega, by go_num, by simpa using HN.out wr HBR.out, ⟨_, blk_setCell HCUR.out⟩, HO.out.other k (by omega) _, HR.out.other k (by omega) _, below_set HB.out (by omega)⟩, ?_⟩
        have := HLT.out; simp [intOf]; omega
      | false =>
        rw [hf] at cg HN
        clear hf
        go_wp2_with fail
        refine (HH.out _).mono ?_
        rintro r w6 ⟨rfl, hb6⟩
        have hbr6 := HBR.out.below hb6 hgl2
        have hcur6 := (hb6.block g hgl2).trans HCUR.out
        have hO6 := HO.out.below hb6 HO.out.lt
        have hR6 := HR.out.below hb6 HR.out.lt
        have hB6 := HB.out.trans (hb6.mono HB.out.size)
        have cg6 := (hb6.cell (p := ⟨g, k, none⟩) hgl2).trans cg
        have fg6 := free_some (k := k) hcur6
        have hfin := HN.out w6 hbr6
        have HFIN := Lib.hid hfin
        have HC6 := Lib.hid hcur6
        have HO6 := Lib.hid hO6
        have HR6 := Lib.hid hR6
        have HB6 := Lib.hid hB6
        clear hb6 hbr6 hcur6 hO6 hR6 hB6 hfin
        generalize bitp c d k = q at *
        go_wp2
        refine ⟨⟨k + 1, by have := HLT.out; omega, by go_num, by simpa using HFIN.out, ⟨_, blk_setCell HC6.out⟩, HO6.out.other k (by omega) _, HR6.out.other k (by omega) _, below_set HB6.out (by omega)⟩, ?_⟩
        have := HLT.out; simp [intOf]; omega
    · obtain rfl : k = 128 := by omega
      have hbr2 : BR wr g (fun i => (bitp a b i || bitp c d i)) := fun i hi => by
        have := hbr i hi
        dsimp only at this
        rwa [if_pos hi] at this
      have hgl2 : g < wr.heap.size := lt_of_block hcur
      have hm := H2.out g cp wr hbr2 hgl2 HX.out.1 HX.out.2
      have HM := Lib.hid hm
      have HR := Lib.hid hR
      have HB := Lib.hid hB
      clear hbr hbr2 hcur hO hR hB hm
      go_wp2_with fail
      refine HM.out.mono ?_
      rintro r w7 ⟨rfl, hb7⟩
      have eR := HR.out.below hb7 HR.out.lt
      have hB7 := HB.out.trans (hb7.mono HB.out.size)
      have f0 := eR.f0
      have f1 := eR.f1
      have c0 := eR.c0
      have c1 := eR.c1
      clear hb7
      have hR2 := (eR.set0 (.int .u64 (x : Int))).set1 (.int .u64 (y : Int))
      have hB8 := below_set (b := w.heap.size + 1 + 1) (i := 1) (v := .int .u64 (y : Int)) (below_set (b := w.heap.size + 1 + 1) (i := 0) (v := .int .u64 (x : Int)) hB7 (by omega)) (by omega)
      go_wp2
      refine bodyPost_ret (by simp [results, Try.f20, go_sem, hR2.c0, hR2.c1]; try rfl) rfl ?_
      exact ⟨rfl, hB8⟩

theorem rminus_set (a b c d : Nat) (ha : a < 18446744073709551616) (hb : b < 18446744073709551616) (hc : c < 18446744073709551616) (hd : d < 18446744073709551616) : setF (fun k => (bitp a b k && !bitp c d k)) = setV (a &&& (18446744073709551615 - c)) (b &&& (18446744073709551615 - d)) := by
  symm
  refine setV_of (and_lt _ ha) (and_lt _ hb) fun k hk => ?_
  rw [minus_bit _ _ _ _ k hk hc hd]

set_option maxRecDepth 20000 in
set_option maxHeartbeats 4000000 in
theorem rminus_any (a b c d : Nat) (w : World) (ha : a < 18446744073709551616) (hb : b < 18446744073709551616) (hc : c < 18446744073709551616) (hd : d < 18446744073709551616) :
    Calls Try.prog 22 #[setV a b, setV c d] w fun e w' => e = .returned (setV (a &&& (18446744073709551615 - c)) (b &&& (18446744073709551615 - d))) ∧ Below w.heap.size w w' := by
  have bS := ((Box2.new w 30 (.int .u64 (a : Int)) (.int .u64 (b : Int))).alloc (.cells #[.int .u64 (c : Int), .int .u64 (d : Int)] 30)).alloc (.cells #[.int .u64 0, .int .u64 0] 30)
  have bO := (Box2.new (w.alloc (.cells #[.int .u64 (a : Int), .int .u64 (b : Int)] 30)) 30 (.int .u64 (c : Int)) (.int .u64 (d : Int))).alloc (.cells #[.int .u64 0, .int .u64 0] 30)
  have bR := Box2.new ((w.alloc (.cells #[.int .u64 (a : Int), .int .u64 (b : Int)] 30)).alloc (.cells #[.int .u64 (c : Int), .int .u64 (d : Int)] 30)) 30 (.int .u64 0) (.int .u64 0)
  have hB0 : Below w.heap.size w (((w.alloc (.cells #[.int .u64 (a : Int), .int .u64 (b : Int)] 30)).alloc (.cells #[.int .u64 (c : Int), .int .u64 (d : Int)] 30)).alloc (.cells #[.int .u64 0, .int .u64 0] 30)) := (below2 w _ _).alloc (by simp; omega) _
  simp only [World.size_alloc] at bO bR
  have hset := rminus_set a b c d ha hb hc hd
  have h1 := fun w => told_any a b w ha hb
  have h2 := fun g cp w hb hg hc hm => made_any g cp (fun k => (bitp a b k && !bitp c d k)) w hb hg hc hm
  rw [hset] at h2
  have h3 := fun i w => rhas_any c d i w hc hd
  have hbit : ∀ k : Nat, k < 128 → hasI c d (k : Int) = bitp c d k := fun k hk => by
    unfold hasI
    rw [decide_eq_true (by omega), Bool.true_and]; rfl
  generalize (a &&& (18446744073709551615 - c)) = x at *
  generalize (b &&& (18446744073709551615 - d)) = y at *
  unfold setV at *
  have H1 := Lib.hid h1
  have H2 := Lib.hid h2
  have H3 := Lib.hid h3
  have HBIT := Lib.hid hbit
  clear h1 h2 h3 ha hb hc hd hset hbit
  go_enter Try.func22, Try.ntmps22
  go_wp2_with fail
  generalize ((w.alloc (.cells #[.int .u64 (a : Int), .int .u64 (b : Int)] 30)).alloc (.cells #[.int .u64 (c : Int), .int .u64 (d : Int)] 30)).alloc (.cells #[.int .u64 0, .int .u64 0] 30) = W0 at *
  refine (H1.out _).mono ?_
  rintro r w5 ⟨g, cp, rfl, hgW, hg5, hcp, hcm, hbr, ⟨cur, hcur⟩, hb5⟩
  have cO := bO.below hb5 bO.lt
  have cR := bR.below hb5 bR.lt
  have hB5 := hB0.trans (hb5.mono hB0.size)
  have hgl : w.heap.size + 1 + 1 < g := Nat.lt_of_lt_of_le bR.lt hgW
  have hcc : (cp : Int) ≤ 9223372036854775807 := by unfold maxLen at hcm; omega
  have hc2 : (128 : Int) ≤ (cp : Int) := by omega
  have HO := Lib.hid cO
  have HR := Lib.hid cR
  have HB5 := Lib.hid hB5
  have HBR := Lib.hid hbr
  have HCUR := Lib.hid (show ∃ cur, w5.heap[g]? = some (.cells cur 4 (0, 0)) from ⟨_, hcur⟩)
  have HX := Lib.hid (And.intro hcp hcm)
  clear hb5 bS bO bR hB0 cO cR hB5 hbr hcur hcp hcm hgW hg5
  go_wp2
  go_loopw [6] (fun i wr => ∃ k : Nat, k ≤ 128 ∧ i = .int .i64 (k : Int) ∧ BR wr g (fun i => if i < k then (bitp a b i && !bitp c d i) else bitp a b i) ∧ (∃ cur, wr.heap[g]? = some (.cells cur 4 (0, 0))) ∧ Box2 wr (w.heap.size + 1) 30 (.int .u64 (c : Int)) (.int .u64 (d : Int)) ∧ Box2 wr (w.heap.size + 1 + 1) 30 (.int .u64 0) (.int .u64 0) ∧ Below w.heap.size w wr) (fun i _ => 128 - (intOf i).toNat)
  case atStart => exact ⟨0, by omega, rfl, fun i hi => by simpa using HBR.out i hi, HCUR.out, HO.out, HR.out, HB5.out⟩
  case round =>
    clear HBR HCUR HO HR HB5
    obtain ⟨k, hk, rfl, hbr, ⟨cur, hcur⟩, hO, hR, hB⟩ := hrel
    have i2 : (0 : Int) ≤ (k : Int) := by omega
    by_cases hlt : k < 128
    · have i1 : (k : Int) < 128 := by omega
      have cg : wr.cell? ⟨g, k, none⟩ = some (.bool (bitp a b k)) := by
        have := hbr k hlt
        dsimp only at this
        rwa [if_neg (by omega)] at this
      have fg := free_some (k := k) hcur
      have hh := fun w => H3.out (k : Int) w
      rw [HBIT.out k hlt] at hh
      have hnext : ∀ wz, BR wz g (fun i => if i < k then (bitp a b i && !bitp c d i) else bitp a b i) → BR (wz.setCell ⟨g, k, none⟩ (.bool ((bitp a b k && !bitp c d k)))) g (fun i => if i < k + 1 then (bitp a b i && !bitp c d i) else bitp a b i) := fun wz hz i hi => by
        have := (hz.set k hlt ((bitp a b k && !bitp c d k))) i hi
        dsimp only at this ⊢
        rw [this]
        by_cases he : i = k
        · subst he; simp
        · rw [if_neg he]
          by_cases hik : i < k
          · rw [if_pos hik, if_pos (by omega)]
          · rw [if_neg hik, if_neg (by omega)]
      have hgl2 : g < wr.heap.size := lt_of_block hcur
      have HN := Lib.hid hnext
      have HBR := Lib.hid hbr
      have HCUR := Lib.hid hcur
      have HO := Lib.hid hO
      have HR := Lib.hid hR
      have HB := Lib.hid hB
      have HH := Lib.hid hh
      have HLT := Lib.hid hlt
      have s0 := hO.c0
      have s1 := hO.c1
      clear hnext hbr hcur hO hR hB hh hlt hk
      cases hf : bitp a b k with
      | false =>
        rw [hf] at cg HN
        clear hf
        go_wp2
        refine ⟨⟨k + 1, by have := HLT.out; omega, by go_num, by simpa using HN.out wr HBR.out, ⟨_, blk_setCell HCUR.out⟩, HO.out.other k (by omega) _, HR.out.other k (by omega) _, below_set HB.out (by omega)⟩, ?_⟩
        have := HLT.out; simp [intOf]; omega
      | true =>
        rw [hf] at cg HN
        clear hf
        go_wp2_with fail
        refine (HH.out _).mono ?_
        rintro r w6 ⟨rfl, hb6⟩
        have hbr6 := HBR.out.below hb6 hgl2
        have hcur6 := (hb6.block g hgl2).trans HCUR.out
        have hO6 := HO.out.below hb6 HO.out.lt
        have hR6 := HR.out.below hb6 HR.out.lt
        have hB6 := HB.out.trans (hb6.mono HB.out.size)
        have cg6 := (hb6.cell (p := ⟨g, k, none⟩) hgl2).trans cg
        have fg6 := free_some (k := k) hcur6
        have hfin := HN.out w6 hbr6
        have HFIN := Lib.hid hfin
        have HC6 := Lib.hid hcur6
        have HO6 := Lib.hid hO6
        have HR6 := Lib.hid hR6
        have HB6 := Lib.hid hB6
        clear hb6 hbr6 hcur6 hO6 hR6 hB6 hfin
        generalize bitp c d k = q at *
        go_wp2
        refine ⟨⟨k + 1, by have := HLT.out; omega, by go_num, by simpa using HFIN.out, ⟨_, blk_setCell HC6.out⟩, HO6.out.other k (by omega) _, HR6.out.other k (by omega) _, below_set HB6.out (by omega)⟩, ?_⟩
        have := HLT.out; simp [intOf]; omega
    · obtain rfl : k = 128 := by omega
      have hbr2 : BR wr g (fun i => (bitp a b i && !bitp c d i)) := fun i hi => by
        have := hbr i hi
        dsimp only at this
        rwa [if_pos hi] at this
      have hgl2 : g < wr.heap.size := lt_of_block hcur
      have hm := H2.out g cp wr hbr2 hgl2 HX.out.1 HX.out.2
      have HM := Lib.hid hm
      have HR := Lib.hid hR
      have HB := Lib.hid hB
      clear hbr hbr2 hcur hO hR hB hm
      go_wp2_with fail
      refine HM.out.mono ?_
      rintro r w7 ⟨rfl, hb7⟩
      have eR := HR.out.below hb7 HR.out.lt
      have hB7 := HB.out.trans (hb7.mono HB.out.size)
      have f0 := eR.f0
      have f1 := eR.f1
      have c0 := eR.c0
      have c1 := eR.c1
      clear hb7
      have hR2 := (eR.set0 (.int .u64 (x : Int))).set1 (.int .u64 (y : Int))
      have hB8 := below_set (b := w.heap.size + 1 + 1) (i := 1) (v := .int .u64 (y : Int)) (below_set (b := w.heap.size + 1 + 1) (i := 0) (v := .int .u64 (x : Int)) hB7 (by omega)) (by omega)
      go_wp2
      refine bodyPost_ret (by simp [results, Try.f22, go_sem, hR2.c0, hR2.c1]; try rfl) rfl ?_
      exact ⟨rfl, hB8⟩
end Go.Proofs.Ytmkjfocdgceamaa

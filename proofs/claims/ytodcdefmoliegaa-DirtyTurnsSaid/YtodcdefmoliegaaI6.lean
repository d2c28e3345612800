/-
  Contracts: the reference's Without, Or, Minus.
-/
import Derived.Test.YtodcdefmoliegaaI5
namespace Go.Proofs.Ytodcdefmoliegaa
open Go.RowKit
set_option linter.unusedVariables false
set_option linter.unusedSimpArgs false


theorem ror_set (a b c d : Nat) (ha : a < 18446744073709551616) (hb : b < 18446744073709551616) (hc : c < 18446744073709551616) (hd : d < 18446744073709551616) : setF (fun k => (bitp a b k || bitp c d k)) = setV (a ||| c) (b ||| d) := by
  symm
  refine setV_of (or_lt ha hc) (or_lt hb hd) fun k hk => ?_
  rw [or_bit]

set_option maxRecDepth 20000 in
set_option maxHeartbeats 4000000 in
theorem ror_any (a b c d : Nat) (w : World) (ha : a < 18446744073709551616) (hb : b < 18446744073709551616) (hc : c < 18446744073709551616) (hd : d < 18446744073709551616) :
    Calls Try.prog 18 #[setV a b, setV c d] w fun e w' => e = .returned (setV (a ||| c) (b ||| d)) ∧ Below w.heap.size w w' := by
  have bS := ((Box2.new w 24 (.int .u64 (a : Int)) (.int .u64 (b : Int))).alloc (.cells #[.int .u64 (c : Int), .int .u64 (d : Int)] 24)).alloc (.cells #[.int .u64 0, .int .u64 0] 24)
  have bO := (Box2.new (w.alloc (.cells #[.int .u64 (a : Int), .int .u64 (b : Int)] 24)) 24 (.int .u64 (c : Int)) (.int .u64 (d : Int))).alloc (.cells #[.int .u64 0, .int .u64 0] 24)
  have bR := Box2.new ((w.alloc (.cells #[.int .u64 (a : Int), .int .u64 (b : Int)] 24)).alloc (.cells #[.int .u64 (c : Int), .int .u64 (d : Int)] 24)) 24 (.int .u64 0) (.int .u64 0)
  have hB0 : Below w.heap.size w (((w.alloc (.cells #[.int .u64 (a : Int), .int .u64 (b : Int)] 24)).alloc (.cells #[.int .u64 (c : Int), .int .u64 (d : Int)] 24)).alloc (.cells #[.int .u64 0, .int .u64 0] 24)) := (below2 w _ _).alloc (by simp; omega) _
  simp only [World.size_alloc] at bO bR
  have hset := ror_set a b c d ha hb hc hd
  have h1 := fun w => told_any a b w ha hb
  have h2 := fun g cp w hb hg hc hm => made_any g cp (fun k => (bitp a b k || bitp c d k)) w hb hg hc hm
  rw [hset] at h2
  have h3 := fun i w => rhas_any c d i w hc hd
  have hbit : ∀ k : Nat, k < 128 → hasI c d (k : Int) = bitp c d k := fun k hk => by
    unfold hasI
    rw [decide_eq_true (by omega), Bool.true_and]; rfl
  generalize (a ||| c) = x at *
  generalize (b ||| d) = y at *
  unfold setV at *
  have H1 := Lib.hid h1
  have H2 := Lib.hid h2
  have H3 := Lib.hid h3
  have HBIT := Lib.hid hbit
  clear h1 h2 h3 ha hb hc hd hset hbit
  go_enter Try.func18, Try.ntmps18
  go_wp2_with fail
  generalize ((w.alloc (.cells #[.int .u64 (a : Int), .int .u64 (b : Int)] 24)).alloc (.cells #[.int .u64 (c : Int), .int .u64 (d : Int)] 24)).alloc (.cells #[.int .u64 0, .int .u64 0] 24) = W0 at *
  refine (H1.out _).mono ?_
  rintro r w5 ⟨g, cp, rfl, hgW, hg5, hcp, hcm, hbr, ⟨cur, hcur⟩, hb5⟩
  have cO := bO.below hb5 bO.lt
  have cR := bR.below hb5 bR.lt
  have hB5 := hB0.trans (hb5.mono hB0.size)
  have hgl : w.heap.size + 1 + 1 < g := Nat.lt_of_lt_of_le bR.lt hgW
  have hcc : (cp : Int) ≤ 9223372036854775807 := by unfold maxLen at hcm; omega
  have hc2 : (128 : Int) ≤ (cp : Int) := by omega
  have HO := Lib.hid cO
  have HR := Lib.hid cR
  have HB5 := Lib.hid hB5
  have HBR := Lib.hid hbr
  have HCUR := Lib.hid (show ∃ cur, w5.heap[g]? = some (.cells cur 4 (0, 0)) from ⟨_, hcur⟩)
  have HX := Lib.hid (And.intro hcp hcm)
  clear hb5 bS bO bR hB0 cO cR hB5 hbr hcur hcp hcm hgW hg5
  go_wp2
  go_loopw [6] (fun i wr => ∃ k : Nat, k ≤ 128 ∧ i = .int .i64 (k : Int) ∧ BR wr g (fun i => if i < k then (bitp a b i || bitp c d i) else bitp a b i) ∧ (∃ cur, wr.heap[g]? = some (.cells cur 4 (0, 0))) ∧ Box2 wr (w.heap.size + 1) 24 (.int .u64 (c : Int)) (.int .u64 (d : Int)) ∧ Box2 wr (w.heap.size + 1 + 1) 24 (.int .u64 0) (.int .u64 0) ∧ Below w.heap.size w wr) (fun i _ => 128 - (intOf i).toNat)
  case atStart => exact ⟨0, by omega, rfl, fun i hi => by simpa using HBR.out i hi, HCUR.out, HO.out, HR.out, HB5.out⟩
  case round =>
    clear HBR HCUR HO HR HB5
    obtain ⟨k, hk, rfl, hbr, ⟨cur, hcur⟩, hO, hR, hB⟩ := hrel
    have i2 : (0 : Int) ≤ (k : Int) := by omega
    by_cases hlt : k < 128
    · have i1 : (k : Int) < 128 := by omega
      have cg : wr.cell? ⟨g, k, none⟩ = some (.bool (bitp a b k)) := by
        have := hbr k hlt
        dsimp only at this
        rwa [if_neg (by omega)] at this
      have fg := free_some (k := k) hcur
      have hh := fun w => H3.out (k : Int) w
      rw [HBIT.out k hlt] at hh
      have hnext : ∀ wz, BR wz g (fun i => if i < k then (bitp a b i || bitp c d i) else bitp a b i) → BR (wz.setCell ⟨g, k, none⟩ (.bool ((bitp a b k || bitp c d k)))) g (fun i => if i < k + 1 then (bitp a b i || bitp c d i) else bitp a b i) := fun wz hz i hi => by
        have := (hz.set k hlt ((bitp a b k || bitp c d k))) i hi
        dsimp only at this ⊢
        rw [this]
        by_cases he : i = k
        · subst he; simp
        · rw [if_neg he]
          by_cases hik : i < k
          · rw [if_pos hik, if_pos (by omega)]
          · rw [if_neg hik, if_neg (by omega)]
      have hgl2 : g < wr.heap.size := lt_of_block hcur
      have HN := Lib.hid hnext
      have HBR := Lib.hid hbr
      have HCUR := Lib.hid hcur
      have HO := Lib.hid hO
      have HR := Lib.hid hR
      have HB := Lib.hid hB
      have HH := Lib.hid hh
      have HLT := Lib.hid hlt
      have s0 := hO.c0
      have s1 := hO.c1
      clear hnext hbr hcur hO hR hB hh hlt hk
      cases hf : bitp a b k with
      | true =>
        rw [hf] at cg HN
        clear hf
        go_wp2
        refine ⟨⟨k + 1, by have := HLT.out; omega, by go_num, by simpa using HN.out wr HBR.out, ⟨_, blk_setCell HCUR.out⟩, HO.out.other k (by omega) _, HR.out.other k (by omega) _, below_set HB.out (by omega)⟩, ?_⟩
        have := HLT.out; simp [intOf]; omega
      | false =>
        rw [hf] at cg HN
        clear hf
        go_wp2_with fail
        refine (HH.out _).mono ?_
        rintro r w6 ⟨rfl, hb6⟩
        have hbr6 := HBR.out.below hb6 hgl2
        have hcur6 := (hb6.block g hgl2).trans HCUR.out
        have hO6 := HO.out.below hb6 HO.out.lt
        have hR6 := HR.out.below hb6 HR.out.lt
        have hB6 := HB.out.trans (hb6.mono HB.out.size)
        have cg6 := (hb6.cell (p := ⟨g, k, none⟩) hgl2).trans cg
        have fg6 := free_some (k := k) hcur6
        have hfin := HN.out w6 hbr6
        have HFIN := Lib.hid hfin
        have HC6 := Lib.hid hcur6
        have HO6 := Lib.hid hO6
        have HR6 := Lib.hid hR6
        have HB6 := Lib.hid hB6
        clear hb6 hbr6 hcur6 hO6 hR6 hB6 hfin
        generalize bitp c d k = q at *
        go_wp2
        refine ⟨⟨k + 1, by have := HLT.out; omega, by go_num, by simpa using HFIN.out, ⟨_, blk_setCell HC6.out⟩, HO6.out.other k (by omega) _, HR6.out.other k (by omega) _, below_set HB6.out (by omega)⟩, ?_⟩
        have := HLT.out; simp [intOf]; omega
    · obtain rfl : k = 128 := by omega
      have hbr2 : BR wr g (fun i => (bitp a b i || bitp c d i)) := fun i hi => by
        have := hbr i hi
        dsimp only at this
        rwa [if_pos hi] at this
      have hgl2 : g < wr.heap.size := lt_of_block hcur
      have hm := H2.out g cp wr hbr2 hgl2 HX.out.1 HX.out.2
      have HM := Lib.hid hm
      have HR := Lib.hid hR
      have HB := Lib.hid hB
      clear hbr hbr2 hcur hO hR hB hm
      go_wp2_with fail
      refine HM.out.mono ?_
      rintro r w7 ⟨rfl, hb7⟩
      have eR := HR.out.below hb7 HR.out.lt
      have hB7 := HB.out.trans (hb7.mono HB.out.size)
      have f0 := eR.f0
      have f1 := eR.f1
      have c0 := eR.c0
      have c1 := eR.c1
      clear hb7
      have hR2 := (eR.set0 (.int .u64 (x : Int))).set1 (.int .u64 (y : Int))
      have hB8 := below_set (b := w.heap.size + 1 + 1) (i := 1) (v := .int .u64 (y : Int)) (below_set (b := w.heap.size + 1 + 1) (i := 0) (v := .int .u64 (x : Int)) hB7 (by omega)) (by omega)
      go_wp2
      refine bodyPost_ret (by simp [results, Try.f18, go_sem, hR2.c0, hR2.c1]; try rfl) rfl ?_
      exact ⟨rfl, hB8⟩

theorem rminus_set (a b c d : Nat) (ha : a < 18446744073709551616) (hb : b < 18446744073709551616) (hc : c < 18446744073709551616) (hd : d < 18446744073709551616) : setF (fun k => (bitp a b k && !bitp c d k)) = setV (a &&& (18446744073709551615 - c)) (b &&& (18446744073709551615 - d)) := by
  symm
  refine setV_of (and_lt _ ha) (and_lt _ hb) fun k hk => ?_
  rw [minus_bit _ _ _ _ k hk hc hd]


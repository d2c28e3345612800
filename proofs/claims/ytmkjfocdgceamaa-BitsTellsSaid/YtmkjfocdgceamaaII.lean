/-
  The walk of BitsTells.
-/
import Derived.Test.YtmkjfocdgceamaaIG
namespace Go.Proofs.Ytmkjfocdgceamaa
open Go.RowKit
set_option linter.unusedVariables false
set_option linter.unusedSimpArgs false

theorem rlist_len (a b : Nat) (w : World) (ha : a < 18446744073709551616) (hb : b < 18446744073709551616) :
    Calls Try.prog 16 #[setV a b] w fun e w' => ∃ x c, e = .returned (.slice x (cnt (bitp a b) 128) c) ∧ Li w' (.slice x (cnt (bitp a b) 128) c) (listL (bitp a b) 128) ∧ Below w.heap.size w w' := by
  refine (rlist_any a b w ha hb).mono ?_
  rintro r w' ⟨v, rfl, hl, hbb⟩
  obtain ⟨x, n, c, rfl, hr⟩ := hl.li
  have hn : n = cnt (bitp a b) 128 := by rw [← hr.len]; exact listL_cnt _ _
  subst hn
  exact ⟨x, c, rfl, ⟨_, _, _, rfl, hr⟩, hbb⟩

/-- Three boxes of sets. -/
theorem boxes3 (w : World) (t1 t2 t3 : TypeId) (a b c d e f : Value) :
    Box2 (((w.alloc (.cells #[a, b] t1)).alloc (.cells #[c, d] t2)).alloc (.cells #[e, f] t3)) w.heap.size t1 a b ∧
    Box2 (((w.alloc (.cells #[a, b] t1)).alloc (.cells #[c, d] t2)).alloc (.cells #[e, f] t3)) (w.heap.size + 1) t2 c d ∧
    Box2 (((w.alloc (.cells #[a, b] t1)).alloc (.cells #[c, d] t2)).alloc (.cells #[e, f] t3)) (w.heap.size + 1 + 1) t3 e f ∧
    Below w.heap.size w (((w.alloc (.cells #[a, b] t1)).alloc (.cells #[c, d] t2)).alloc (.cells #[e, f] t3)) := by
  have b1 := ((Box2.new w t1 a b).alloc (.cells #[c, d] t2)).alloc (.cells #[e, f] t3)
  have b2 := (Box2.new (w.alloc (.cells #[a, b] t1)) t2 c d).alloc (.cells #[e, f] t3)
  have b3 := Box2.new ((w.alloc (.cells #[a, b] t1)).alloc (.cells #[c, d] t2)) t3 e f
  simp only [World.size_alloc] at b2 b3
  exact ⟨b1, b2, b3, ((below2 w _ _).alloc (by simp; omega) _)⟩

set_option maxRecDepth 20000 in
set_option maxHeartbeats 8000000 in
theorem tells_walk (v0 : Value) (xs : List Int) (a b : Nat) (i : Int) (w : World) (hl : Li w v0 xs) (ha : a < 18446744073709551616) (hb : b < 18446744073709551616) :
    Calls Try.prog 3 #[v0, setV a b, .int .i64 i] w fun e w' => e = .returned (.bool true) ∧ Below w.heap.size w w' := by
  obtain ⟨p, q, k, hv⟩ : ∃ (p q : Nat) (k : Int), ofV xs = .tuple #[setV p q, .int .i64 k] := ⟨_, _, _, rfl⟩
  obtain ⟨p2, q2, k2, hv2⟩ : ∃ (p2 q2 : Nat) (k2 : Int), withV a b i = .tuple #[setV p2 q2, .int .i64 k2] := ⟨_, _, _, rfl⟩
  have h1 : ∀ w, Li w v0 xs → Calls Try.prog 7 #[v0] w fun e w' => e = .returned (.tuple #[setV p q, .int .i64 k]) ∧ Below w.heap.size w w' := fun w h => by
    have := of_any v0 xs w h
    rwa [hv] at this
  have h2 : ∀ w, Li w v0 xs → Calls Try.prog 8 #[v0] w fun e w' => e = .returned (.tuple #[setV p q, .int .i64 k]) ∧ Below w.heap.size w w' := fun w h => by
    have := rof_any v0 xs w h
    rwa [hv] at this
  have h3 := fun w => with_any a b i w ha hb
  have h4 := fun w => rwith_any a b i w ha hb
  rw [hv2] at h3 h4
  have h5 := fun w => without_any a b i w ha hb
  have h6 := fun w => rwithout_any a b i w ha hb
  have h7 := fun w => has_any a b i w ha hb
  have h8 := fun w => rhas_any a b i w ha hb
  have h9 := fun w => count_any a b w ha hb
  have hA := fun w => rlist_len a b w ha hb
  have hB := fun w => list_any a b w ha hb
  have hC : ∀ v1 v2 w, Li w v1 (listL (bitp a b) 128) → Li w v2 (listL (bitp a b) 128) → Calls Try.prog 17 #[v1, v2] w fun e w' => e = .returned (.bool true) ∧ Below w.heap.size w w' := fun v1 v2 w x1 x2 => by
    have := ints_any v1 v2 _ _ w x1 x2
    rw [decide_eq_true rfl] at this
    exact this.mono fun r w' h => ⟨h.1, h.2.below⟩
  have hD := fun w => known_any w
  generalize cnt (bitp a b) 128 = n at *
  generalize listL (bitp a b) 128 = L at *
  generalize hasI a b i = h at *
  generalize (a &&& (18446744073709551615 - oneA i)) = c at *
  generalize (b &&& (18446744073709551615 - oneB i)) = d at *
  have q1 := eql_rset p q p q
  rw [decide_eq_true ⟨rfl, rfl⟩] at q1
  have q2' := fun op x y => guard_rset op x y p q p q
  have q3 := eql_rset p2 q2 p2 q2
  rw [decide_eq_true ⟨rfl, rfl⟩] at q3
  have q4 := fun op x y => guard_rset op x y p2 q2 p2 q2
  have q5 := eql_rset c d c d
  rw [decide_eq_true ⟨rfl, rfl⟩] at q5
  have q6 := fun op x y => guard_rset op x y c d c d
  have q7 : ∀ w, (binOp .eql 4 (.bool h) (.bool h)).run Try.prog w = .ok (.bool true) w := fun w => by simp [go_sem]
  unfold setV at *
  obtain ⟨x0, n0, c0, rfl, hr⟩ := hl
  have hlen := hr.len
  have hbig := hr.big
  have hl : Li w (.slice x0 n0 c0) xs := ⟨_, _, _, rfl, hr⟩
  have hB0 : Below w.heap.size w (w.alloc (.cells #[.int .u64 (a : Int), .int .u64 (b : Int)] 24)) := (Below.refl _ w).alloc (Nat.le_refl _) _
  have hl0 := hl.later hB0
  have b4 := Box2.new w 24 (.int .u64 (a : Int)) (.int .u64 (b : Int))
  have h1' := h1 _ hl0
  have H1 := Lib.hid h1'
  have H2 := Lib.hid h2
  have H3 := Lib.hid h3
  have H4 := Lib.hid h4
  have H5 := Lib.hid h5
  have H6 := Lib.hid h6
  have H7 := Lib.hid h7
  have H8 := Lib.hid h8
  have H9 := Lib.hid h9
  have HA := Lib.hid hA
  have HB := Lib.hid hB
  have HC := Lib.hid hC
  have HD := Lib.hid hD
  have HL0 := Lib.hid hl0
  have HB4 := Lib.hid b4
  have HB0 := Lib.hid hB0
  clear h1 h1' h2 h3 h4 h5 h6 h7 h8 h9 hA hB hC hD hl hl0 b4 hB0 hr hv hv2 ha hb hlen
  by_cases hn : (300 : Int) < (n0 : Int)
  · go_enter Try.func3, Try.ntmps3
    go_wp2_with fail
    refine (HD.out _).mono ?_
    rintro r w1 ⟨rfl, hb⟩
    have hF := HB0.out.trans (hb.mono HB0.out.size)
    have HF := Lib.hid hF
    clear hb hF
    go_wp2
    refine bodyPost_ret (results_tmp rfl _ _ _) rfl ?_
    exact ⟨rfl, HF.out⟩
  go_enter Try.func3, Try.ntmps3
  go_wp2_with fail
  generalize w.alloc (.cells #[.int .u64 (a : Int), .int .u64 (b : Int)] 24) = W0 at *
  refine H1.out.mono ?_
  rintro r w1 ⟨rfl, hb⟩
  have b4 := (HB4.out.below hb HB4.out.lt).alloc (.cells #[.int .u64 (p : Int), .int .u64 (q : Int)] 26)
  have b7 := Box2.new w1 26 (.int .u64 (p : Int)) (.int .u64 (q : Int))
  have hB := (HB0.out.trans (hb.mono HB0.out.size)).alloc (HB0.out.trans (hb.mono HB0.out.size)).size (.cells #[.int .u64 (p : Int), .int .u64 (q : Int)] 26)
  have hl1 := HL0.out.later (hb.alloc hb.size (.cells #[.int .u64 (p : Int), .int .u64 (q : Int)] 26))
  have h2' := H2.out _ hl1
  clear hb HB4 HB0 HL0 hl1 H1 H2
  have HB4 := Lib.hid b4
  have HB7 := Lib.hid b7
  have HB0 := Lib.hid hB
  have H2 := Lib.hid h2'
  clear b4 b7 hB h2'
  go_wp2_with fail
  generalize w1.alloc (.cells #[.int .u64 (p : Int), .int .u64 (q : Int)] 26) = W1 at *
  generalize w1.heap.size = m7 at *
  refine H2.out.mono ?_
  rintro r w2 ⟨rfl, hb⟩
  have b4 := (HB4.out.below hb HB4.out.lt)
  have b7 := (HB7.out.below hb HB7.out.lt)
  have hB := (HB0.out.trans (hb.mono HB0.out.size))
  obtain ⟨b9, bb, bc, hB3⟩ := boxes3 w2 30 26 30 (.int .u64 (p : Int)) (.int .u64 (q : Int)) (.int .u64 (a : Int)) (.int .u64 (b : Int)) (.int .u64 (a : Int)) (.int .u64 (b : Int))
  have s0 := (b4.alloc (.cells #[.int .u64 (p : Int), .int .u64 (q : Int)] 30)).c0
  have s1 := (b4.alloc (.cells #[.int .u64 (p : Int), .int .u64 (q : Int)] 30)).c1
  have s2 := ((b4.alloc (.cells #[.int .u64 (p : Int), .int .u64 (q : Int)] 30)).alloc (.cells #[.int .u64 (a : Int), .int .u64 (b : Int)] 26)).c0
  have s3 := ((b4.alloc (.cells #[.int .u64 (p : Int), .int .u64 (q : Int)] 30)).alloc (.cells #[.int .u64 (a : Int), .int .u64 (b : Int)] 26)).c1
  have s4 := bb.c0
  have s5 := bb.c1
  have b7' := b7.below hB3 b7.lt
  have hB' := hB.trans (hB3.mono hB.size)
  clear hb HB4 HB7 HB0 H2 b4 b7 hB hB3
  have HB7 := Lib.hid b7'
  have HB9 := Lib.hid b9
  have HBB := Lib.hid bb
  have HBC := Lib.hid bc
  have HB0 := Lib.hid hB'
  clear b7' b9 bb bc hB'
  go_wp2_with fail
  generalize ((w2.alloc (.cells #[.int .u64 (p : Int), .int .u64 (q : Int)] 30)).alloc (.cells #[.int .u64 (a : Int), .int .u64 (b : Int)] 26)).alloc (.cells #[.int .u64 (a : Int), .int .u64 (b : Int)] 30) = W2 at *
  clear s0 s1 s2 s3 s4 s5
  generalize w2.heap.size = m9 at *
  refine (H3.out _).mono ?_
  rintro r w3 ⟨rfl, hb⟩
  have b7 := (HB7.out.below hb HB7.out.lt).alloc (.cells #[.int .u64 (p2 : Int), .int .u64 (q2 : Int)] 26)
  have b9 := (HB9.out.below hb HB9.out.lt).alloc (.cells #[.int .u64 (p2 : Int), .int .u64 (q2 : Int)] 26)
  have bb := (HBB.out.below hb HBB.out.lt).alloc (.cells #[.int .u64 (p2 : Int), .int .u64 (q2 : Int)] 26)
  have bc := (HBC.out.below hb HBC.out.lt).alloc (.cells #[.int .u64 (p2 : Int), .int .u64 (q2 : Int)] 26)
  have bd := Box2.new w3 26 (.int .u64 (p2 : Int)) (.int .u64 (q2 : Int))
  have hB := (HB0.out.trans (hb.mono HB0.out.size)).alloc (HB0.out.trans (hb.mono HB0.out.size)).size (.cells #[.int .u64 (p2 : Int), .int .u64 (q2 : Int)] 26)
  have s0 := bc.c0
  have s1 := bc.c1
  clear hb HB7 HB9 HBB HBC HB0
  have HB7 := Lib.hid b7
  have HB9 := Lib.hid b9
  have HBB := Lib.hid bb
  have HBC := Lib.hid bc
  have HBD := Lib.hid bd
  have HB0 := Lib.hid hB
  clear b7 b9 bb bc bd hB
  go_wp2_with fail
  generalize w3.alloc (.cells #[.int .u64 (p2 : Int), .int .u64 (q2 : Int)] 26) = W3 at *
  generalize w3.heap.size = md at *
  clear s0 s1
  refine (H4.out _).mono ?_
  rintro r w4 ⟨rfl, hb⟩
  have b7 := (HB7.out.below hb HB7.out.lt).alloc (.cells #[.int .u64 (p2 : Int), .int .u64 (q2 : Int)] 30)
  have b9 := (HB9.out.below hb HB9.out.lt).alloc (.cells #[.int .u64 (p2 : Int), .int .u64 (q2 : Int)] 30)
  have bb := (HBB.out.below hb HBB.out.lt).alloc (.cells #[.int .u64 (p2 : Int), .int .u64 (q2 : Int)] 30)
  have bc := (HBC.out.below hb HBC.out.lt).alloc (.cells #[.int .u64 (p2 : Int), .int .u64 (q2 : Int)] 30)
  have bd := (HBD.out.below hb HBD.out.lt).alloc (.cells #[.int .u64 (p2 : Int), .int .u64 (q2 : Int)] 30)
  have bf := Box2.new w4 30 (.int .u64 (p2 : Int)) (.int .u64 (q2 : Int))
  have hB := (HB0.out.trans (hb.mono HB0.out.size)).alloc (HB0.out.trans (hb.mono HB0.out.size)).size (.cells #[.int .u64 (p2 : Int), .int .u64 (q2 : Int)] 30)
  clear hb HB7 HB9 HBB HBC HBD HB0
  have HB7 := Lib.hid b7
  have HB9 := Lib.hid b9
  have HBB := Lib.hid bb
  have HBC := Lib.hid bc
  have HBD := Lib.hid bd
  have HBF := Lib.hid bf
  have HB0 := Lib.hid hB
  clear b7 b9 bb bc bd bf hB
  go_wp2_with fail
  generalize w4.alloc (.cells #[.int .u64 (p2 : Int), .int .u64 (q2 : Int)] 30) = W4 at *
  generalize w4.heap.size = mf at *
  have hkp : ∀ w', Below W4.drew.heap.size W4.drew w' → (w'.cell? ⟨m7, 0, none⟩ = some (.int .u64 (p : Int)) ∧ w'.cell? ⟨m7, 1, none⟩ = some (.int .u64 (q : Int)) ∧ w'.cell? ⟨m9, 0, none⟩ = some (.int .u64 (p : Int)) ∧ w'.cell? ⟨m9, 1, none⟩ = some (.int .u64 (q : Int)) ∧ w'.cell? ⟨m9 + 1, 0, none⟩ = some (.int .u64 (a : Int)) ∧ w'.cell? ⟨m9 + 1, 1, none⟩ = some (.int .u64 (b : Int)) ∧ w'.cell? ⟨m9 + 1 + 1, 0, none⟩ = some (.int .u64 (a : Int)) ∧ w'.cell? ⟨m9 + 1 + 1, 1, none⟩ = some (.int .u64 (b : Int)) ∧ w'.cell? ⟨md, 0, none⟩ = some (.int .u64 (p2 : Int)) ∧ w'.cell? ⟨md, 1, none⟩ = some (.int .u64 (q2 : Int)) ∧ w'.cell? ⟨mf, 0, none⟩ = some (.int .u64 (p2 : Int)) ∧ w'.cell? ⟨mf, 1, none⟩ = some (.int .u64 (q2 : Int))) := fun w' h => by
    have b7 := (show Box2 W4.drew _ _ _ _ from HB7.out).below h HB7.out.lt
    have b9 := (show Box2 W4.drew _ _ _ _ from HB9.out).below h HB9.out.lt
    have bb := (show Box2 W4.drew _ _ _ _ from HBB.out).below h HBB.out.lt
    have bc := (show Box2 W4.drew _ _ _ _ from HBC.out).below h HBC.out.lt
    have bd := (show Box2 W4.drew _ _ _ _ from HBD.out).below h HBD.out.lt
    have bf := (show Box2 W4.drew _ _ _ _ from HBF.out).below h HBF.out.lt
    exact ⟨b7.c0, b7.c1, b9.c0, b9.c1, bb.c0, bb.c1, bc.c0, bc.c1, bd.c0, bd.c1, bf.c0, bf.c1⟩
  have hG : Below W4.drew.heap.size W4.drew W4.drew := Below.refl _ _
  have HKP := Lib.hid hkp
  clear hkp HB7 HB9 HBB HBC HBD HBF
  go_region_held3 (fun w' => (w'.cell? ⟨m7, 0, none⟩ = some (.int .u64 (p : Int)) ∧ w'.cell? ⟨m7, 1, none⟩ = some (.int .u64 (q : Int)) ∧ w'.cell? ⟨m9, 0, none⟩ = some (.int .u64 (p : Int)) ∧ w'.cell? ⟨m9, 1, none⟩ = some (.int .u64 (q : Int)) ∧ w'.cell? ⟨m9 + 1, 0, none⟩ = some (.int .u64 (a : Int)) ∧ w'.cell? ⟨m9 + 1, 1, none⟩ = some (.int .u64 (b : Int)) ∧ w'.cell? ⟨m9 + 1 + 1, 0, none⟩ = some (.int .u64 (a : Int)) ∧ w'.cell? ⟨m9 + 1 + 1, 1, none⟩ = some (.int .u64 (b : Int)) ∧ w'.cell? ⟨md, 0, none⟩ = some (.int .u64 (p2 : Int)) ∧ w'.cell? ⟨md, 1, none⟩ = some (.int .u64 (q2 : Int)) ∧ w'.cell? ⟨mf, 0, none⟩ = some (.int .u64 (p2 : Int)) ∧ w'.cell? ⟨mf, 1, none⟩ = some (.int .u64 (q2 : Int))))
    (exact HKP.out _ hG)
    (first
    | (go_at_call 11; with_reducible refine (H5.out _).mono ?_; rintro r w' ⟨rfl, hb⟩; replace hG := hG.trans (hb.mono hG.size); clear hb)
    | (go_at_call 12; with_reducible refine (H6.out _).mono ?_; rintro r w' ⟨rfl, hb⟩; replace hG := hG.trans (hb.mono hG.size); clear hb)
    | (go_at_call 13; with_reducible refine (H7.out _).mono ?_; rintro r w' ⟨rfl, hb⟩; replace hG := hG.trans (hb.mono hG.size); clear hb)
    | (go_at_call 14; with_reducible refine (H8.out _).mono ?_; rintro r w' ⟨rfl, hb⟩; replace hG := hG.trans (hb.mono hG.size); clear hb)
    | (go_at_call 15; with_reducible refine (H9.out _).mono ?_; rintro r w' ⟨rfl, hb⟩; replace hG := hG.trans (hb.mono hG.size); clear hb)
    | (go_at_call 16; with_reducible refine (HA.out _).mono ?_; rintro r w' ⟨x, cc, rfl, hlr, hb⟩; replace hG := hG.trans (hb.mono hG.size); have HLR := Lib.hid hlr; try replace HLL := Lib.hid (HLL.out.later hb); clear hb hlr)
    | (go_at_call 18; with_reducible refine (HB.out _).mono ?_; rintro r w' ⟨v, rfl, hlf, hb⟩; replace hG := hG.trans (hb.mono hG.size); have HLL := Lib.hid hlf.li; clear hb hlf)
    | (go_at_call 17; with_reducible refine (HC.out _ _ _ HLL.out HLR.out).mono ?_; rintro r w' ⟨rfl, hb⟩; replace hG := hG.trans (hb.mono hG.size); clear hb)
    | (go_at_call 6; with_reducible refine (HD.out _).mono ?_; rintro r w' ⟨rfl, hb⟩; replace hG := hG.trans (hb.mono hG.size); clear hb))
  rename_i hHeld
  clear hHeld
  have hF := HB0.out.trans (Below.mono ⟨hG.os, hG.tape, hG.output, hG.size, hG.block⟩ HB0.out.size)
  have HF := Lib.hid hF
  clear hF hG
  go_wp2
  refine bodyPost_ret (results_tmp rfl _ _ _) rfl ?_
  exact ⟨rfl, HF.out⟩
end Go.Proofs.Ytmkjfocdgceamaa

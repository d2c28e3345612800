/-
  The walk of BitsPairs.
-/
import Derived.Test.YtmkjfocdgceamaaIE
namespace Go.Proofs.Ytmkjfocdgceamaa
open Go.RowKit
set_option linter.unusedVariables false
set_option linter.unusedSimpArgs false

theorem cnt_pair (f g : Nat → Bool) : ∀ n, cnt (fun i => f i || g i) n = cnt g n + cnt (fun i => f i && !g i) n
  | 0 => rfl
  | n + 1 => by
    have ih := cnt_pair f g n
    show cnt (fun i => f i || g i) n + (if (f n || g n) then 1 else 0) = (cnt g n + (if g n then 1 else 0)) + (cnt (fun i => f i && !g i) n + (if (f n && !g n) then 1 else 0))
    rw [ih]
    cases f n <;> cases g n <;> simp <;> omega
theorem cnt_sets (a b c d : Nat) (hc : c < 18446744073709551616) (hd : d < 18446744073709551616) :
    cnt (bitp (a ||| c) (b ||| d)) 128 = cnt (bitp c d) 128 + cnt (bitp (a &&& (18446744073709551615 - c)) (b &&& (18446744073709551615 - d))) 128 := by
  rw [cnt_congr 128 (fun i hi => or_bit a b c d i), cnt_congr 128 (fun i hi => minus_bit a b c d i hi hc hd)]
  exact cnt_pair _ _ 128

/-- Four boxes of sets. -/
theorem boxes4 (w : World) (t1 t2 t3 t4 : TypeId) (a b c d e f g h : Value) : ∃ w4, w4 = (((w.alloc (.cells #[a, b] t1)).alloc (.cells #[c, d] t2)).alloc (.cells #[e, f] t3)).alloc (.cells #[g, h] t4) ∧
    Box2 w4 w.heap.size t1 a b ∧ Box2 w4 (w.heap.size + 1) t2 c d ∧ Box2 w4 (w.heap.size + 1 + 1) t3 e f ∧ Box2 w4 (w.heap.size + 1 + 1 + 1) t4 g h ∧ Below w.heap.size w w4 := by
  have b1 := (((Box2.new w t1 a b).alloc (.cells #[c, d] t2)).alloc (.cells #[e, f] t3)).alloc (.cells #[g, h] t4)
  have b2 := ((Box2.new (w.alloc (.cells #[a, b] t1)) t2 c d).alloc (.cells #[e, f] t3)).alloc (.cells #[g, h] t4)
  have b3 := (Box2.new ((w.alloc (.cells #[a, b] t1)).alloc (.cells #[c, d] t2)) t3 e f).alloc (.cells #[g, h] t4)
  have b4 := Box2.new (((w.alloc (.cells #[a, b] t1)).alloc (.cells #[c, d] t2)).alloc (.cells #[e, f] t3)) t4 g h
  simp only [World.size_alloc] at b2 b3 b4
  exact ⟨_, rfl, b1, b2, b3, b4, (((below2 w _ _).alloc (by simp; omega) _).alloc (by simp; omega) _)⟩

set_option maxRecDepth 20000 in
set_option maxHeartbeats 4000000 in
theorem pairs_walk (a b c d : Nat) (w : World) (ha : a < 18446744073709551616) (hb : b < 18446744073709551616) (hc : c < 18446744073709551616) (hd : d < 18446744073709551616) :
    Calls Try.prog 4 #[setV a b, setV c d] w fun e w' => e = .returned (.bool true) ∧ Below w.heap.size w w' := by
  have h1 := fun w => or_any a b c d w ha hb hc hd
  have h2 := fun w => ror_any a b c d w ha hb hc hd
  have h3 := fun w => minus_any a b c d w ha hb hc hd
  have h4 := fun w => rminus_any a b c d w ha hb hc hd
  have h5 := fun w => count_any (a ||| c) (b ||| d) w (or_lt ha hc) (or_lt hb hd)
  have h6 := fun w => count_any c d w hc hd
  have h7 := fun w => count_any (a &&& (18446744073709551615 - c)) (b &&& (18446744073709551615 - d)) w (and_lt _ ha) (and_lt _ hb)
  have h8 := fun w => known_any w
  have hn := cnt_sets a b c d hc hd
  have l2 := cnt_le (bitp c d) 128
  have l3 := cnt_le (bitp (a &&& (18446744073709551615 - c)) (b &&& (18446744073709551615 - d))) 128
  generalize cnt (bitp (a ||| c) (b ||| d)) 128 = n1 at *
  generalize cnt (bitp c d) 128 = n2 at *
  generalize cnt (bitp (a &&& (18446744073709551615 - c)) (b &&& (18446744073709551615 - d))) 128 = n3 at *
  generalize (a ||| c) = x at *
  generalize (b ||| d) = y at *
  generalize (a &&& (18446744073709551615 - c)) = u at *
  generalize (b &&& (18446744073709551615 - d)) = v at *
  have q1 := eql_rset x y x y
  rw [decide_eq_true ⟨rfl, rfl⟩] at q1
  have q2 := fun op p q => guard_rset op p q x y x y
  have q3 := eql_rset u v u v
  rw [decide_eq_true ⟨rfl, rfl⟩] at q3
  have q4 := fun op p q => guard_rset op p q u v u v
  have i0 : (n1 : Int) = (n2 : Int) + (n3 : Int) := by omega
  have qa : ∀ w, (binOp .add 3 (.int .i64 (n2 : Int)) (.int .i64 (n3 : Int))).run Try.prog w = .ok (.int .i64 (n1 : Int)) w := fun w => by
    have hw : IntKind.i64.wrap ((n2 : Int) + (n3 : Int)) = (n1 : Int) := by rw [IntKind.wrap_i64]; omega
    simp [go_sem, hw]
  have qe : ∀ w, (binOp .eql 3 (.int .i64 (n1 : Int)) (.int .i64 (n1 : Int))).run Try.prog w = .ok (.bool true) w := fun w => by simp [go_sem]
  have qg : ∀ op x y w, Sem.run Try.prog (eqGuard op 3 x y (.int .i64 (n1 : Int)) (.int .i64 (n1 : Int))) w = .ok () w := fun op x y w => by unfold eqGuard; cases op <;> rfl
  clear i0 l2 l3 hn
  generalize Value.int .i64 (n1 : Int) = V1 at *
  generalize Value.int .i64 (n2 : Int) = V2 at *
  generalize Value.int .i64 (n3 : Int) = V3 at *
  unfold setV at *
  have H1 := Lib.hid h1
  have H2 := Lib.hid h2
  have H3 := Lib.hid h3
  have H4 := Lib.hid h4
  have H5 := Lib.hid h5
  have H6 := Lib.hid h6
  have H7 := Lib.hid h7
  have H8 := Lib.hid h8
  clear h1 h2 h3 h4 h5 h6 h7 h8 ha hb hc hd
  obtain ⟨W0, hW0, b1, b2, b3, b4, hB0⟩ := boxes4 w 24 24 26 26 (.int .u64 (a : Int)) (.int .u64 (b : Int)) (.int .u64 (c : Int)) (.int .u64 (d : Int)) (.int .u64 (a : Int)) (.int .u64 (b : Int)) (.int .u64 (c : Int)) (.int .u64 (d : Int))
  go_enter Try.func4, Try.ntmps4
  go_wp2_with fail
  rw [← hW0]
  clear hW0
  have hkp : ∀ w', Below W0.drew.heap.size W0.drew w' → (w'.cell? ⟨w.heap.size, 0, none⟩ = some (.int .u64 (a : Int)) ∧ w'.cell? ⟨w.heap.size, 1, none⟩ = some (.int .u64 (b : Int)) ∧ w'.cell? ⟨w.heap.size + 1, 0, none⟩ = some (.int .u64 (c : Int)) ∧ w'.cell? ⟨w.heap.size + 1, 1, none⟩ = some (.int .u64 (d : Int)) ∧ w'.cell? ⟨w.heap.size + 1 + 1, 0, none⟩ = some (.int .u64 (a : Int)) ∧ w'.cell? ⟨w.heap.size + 1 + 1, 1, none⟩ = some (.int .u64 (b : Int)) ∧ w'.cell? ⟨w.heap.size + 1 + 1 + 1, 0, none⟩ = some (.int .u64 (c : Int)) ∧ w'.cell? ⟨w.heap.size + 1 + 1 + 1, 1, none⟩ = some (.int .u64 (d : Int))) := fun w' h =>
    ⟨((show Box2 W0.drew _ _ _ _ from b1).below h b1.lt).c0, ((show Box2 W0.drew _ _ _ _ from b1).below h b1.lt).c1, ((show Box2 W0.drew _ _ _ _ from b2).below h b2.lt).c0, ((show Box2 W0.drew _ _ _ _ from b2).below h b2.lt).c1, ((show Box2 W0.drew _ _ _ _ from b3).below h b3.lt).c0, ((show Box2 W0.drew _ _ _ _ from b3).below h b3.lt).c1, ((show Box2 W0.drew _ _ _ _ from b4).below h b4.lt).c0, ((show Box2 W0.drew _ _ _ _ from b4).below h b4.lt).c1⟩
  have hG : Below W0.drew.heap.size W0.drew W0.drew := Below.refl _ _
  have HKP := Lib.hid hkp
  have HB0 := Lib.hid hB0
  clear hkp hB0 b1 b2 b3 b4
  go_region_held3 (fun w' => (w'.cell? ⟨w.heap.size, 0, none⟩ = some (.int .u64 (a : Int)) ∧ w'.cell? ⟨w.heap.size, 1, none⟩ = some (.int .u64 (b : Int)) ∧ w'.cell? ⟨w.heap.size + 1, 0, none⟩ = some (.int .u64 (c : Int)) ∧ w'.cell? ⟨w.heap.size + 1, 1, none⟩ = some (.int .u64 (d : Int)) ∧ w'.cell? ⟨w.heap.size + 1 + 1, 0, none⟩ = some (.int .u64 (a : Int)) ∧ w'.cell? ⟨w.heap.size + 1 + 1, 1, none⟩ = some (.int .u64 (b : Int)) ∧ w'.cell? ⟨w.heap.size + 1 + 1 + 1, 0, none⟩ = some (.int .u64 (c : Int)) ∧ w'.cell? ⟨w.heap.size + 1 + 1 + 1, 1, none⟩ = some (.int .u64 (d : Int))))
    (exact HKP.out _ hG)
    (first
    | (go_at_call 19; with_reducible refine (H1.out _).mono ?_; rintro r w' ⟨rfl, hb⟩; replace hG := hG.trans (hb.mono hG.size); clear hb)
    | (go_at_call 20; with_reducible refine (H2.out _).mono ?_; rintro r w' ⟨rfl, hb⟩; replace hG := hG.trans (hb.mono hG.size); clear hb)
    | (go_at_call 21; with_reducible refine (H3.out _).mono ?_; rintro r w' ⟨rfl, hb⟩; replace hG := hG.trans (hb.mono hG.size); clear hb)
    | (go_at_call 22; with_reducible refine (H4.out _).mono ?_; rintro r w' ⟨rfl, hb⟩; replace hG := hG.trans (hb.mono hG.size); clear hb)
    | (go_at_call 15; with_reducible refine (H5.out _).mono ?_; rintro r w' ⟨rfl, hb⟩; replace hG := hG.trans (hb.mono hG.size); clear hb)
    | (go_at_call 15; with_reducible refine (H6.out _).mono ?_; rintro r w' ⟨rfl, hb⟩; replace hG := hG.trans (hb.mono hG.size); clear hb)
    | (go_at_call 15; with_reducible refine (H7.out _).mono ?_; rintro r w' ⟨rfl, hb⟩; replace hG := hG.trans (hb.mono hG.size); clear hb)
    | (go_at_call 6; with_reducible refine (H8.out _).mono ?_; rintro r w' ⟨rfl, hb⟩; replace hG := hG.trans (hb.mono hG.size); clear hb))
  rename_i hHeld
  clear hHeld
  have hF := HB0.out.trans (Below.mono ⟨hG.os, hG.tape, hG.output, hG.size, hG.block⟩ HB0.out.size)
  have HF := Lib.hid hF
  clear hF hG
  go_wp2
  refine bodyPost_ret (results_tmp rfl _ _ _) rfl ?_
  exact ⟨rfl, HF.out⟩
end Go.Proofs.Ytmkjfocdgceamaa

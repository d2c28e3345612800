/-
  The walk of DirtyTurns; its fixed calls.
-/
import Derived.Test.YtodcdefmoliegaaJ1
import Derived.Deep.RegionHeld3
namespace Go.Proofs.Ytodcdefmoliegaa
open Go.RowKit
set_option linter.unusedVariables false
set_option linter.unusedSimpArgs false

theorem of_fix34 : ofV [3, 4] = .tuple #[setV 24 0, .int .i64 0] := by
  have h : ofP [3, 4] = ((24, 0), 0) := by decide +kernel
  unfold ofV; rw [h]; rfl
theorem mark_fix3 : markV 0 0 0 0 0 3 = .tuple #[mapV 8 0 0 0 0, .int .i64 0] := by
  unfold markV markP
  rw [if_pos (by decide)]
  rw [show 0 ||| oneA 3 = 8 from by decide +kernel, show 0 ||| oneB 3 = 0 from by decide +kernel]
  rfl
theorem mark_fix4 : markV 0 0 8 0 1 4 = .tuple #[mapV 16 0 8 0 1, .int .i64 0] := by
  unfold markV markP
  rw [if_pos (by decide)]
  rw [show 0 ||| oneA 4 = 16 from by decide +kernel, show 0 ||| oneB 4 = 0 from by decide +kernel]
  rfl
theorem build_zero (w : World) : (Instr.build 29 #[]).run Try.prog w = .ok (mapV 0 0 0 0 0) w := run_build w 29 _ _ (by kernel_rfl)
theorem build_now (a b : Int) (w : World) : (Instr.build 29 #[(0, .agg #[.int .u64 a, .int .u64 b])]).run Try.prog w = .ok (.agg #[.int .u64 a, .int .u64 b, .int .u64 0, .int .u64 0, .int .u64 0]) w := run_build w 29 _ _ (by kernel_rfl)

theorem field_frozen (a b c d e : Int) (w : World) : (Instr.field 29 (.agg #[.int .u64 a, .int .u64 b, .int .u64 c, .int .u64 d, .int .u64 e]) 1).run Try.prog w = .ok (.agg #[.int .u64 c, .int .u64 d]) w := by
  have a4 := Try.isAgg27
  have z4 := Try.sizeOf27
  unfold Instr.field
  go_simp
  rfl

set_option maxRecDepth 20000 in
set_option maxHeartbeats 4000000 in
theorem dknown_any (w : World) :
    Calls Try.prog 14 #[] w fun e w' => e = .returned (.bool true) ∧ Below w.heap.size w w' := by
  have h1 := fun w => mark_any 0 0 0 0 0 3 w (by omega) (by omega)
  rw [mark_fix3] at h1
  have h2 := fun w => freeze_any 8 0 0 0 0 1 w
  have h3 := fun w => mark_any 0 0 8 0 1 4 w (by omega) (by omega)
  rw [mark_fix4] at h3
  have h4 := fun (w : World) => of_any (.slice (some ⟨w.heap.size, 0, none⟩) 2 2) [3, 4] (w.alloc (.cells #[.int .i64 3, .int .i64 4] 3)) (li_new w [3, 4] (by simp))
  rw [of_fix34] at h4
  have h5 := fun w => merge_any 16 0 8 0 1 w (by omega) (by omega) (by omega) (by omega)
  have h6 := fun w => close_any 16 0 8 0 1 w
  simp only [show (16 : Nat) ||| 8 = 24 from by decide, show (0 : Nat) ||| 0 = 0 from by decide] at h5
  have q1 := fun w => eql_map 24 0 0 0 0 24 0 0 0 0 w
  have q2 := fun op x y w => guard_map op x y 24 0 0 0 0 24 0 0 0 0 w
  have qf := fun w => field_frozen 16 0 0 0 0 w
  have q3 := fun w => eql_set 0 0 0 0 w
  have q4 := fun op x y w => guard_set op x y 0 0 0 0 w
  rw [show decide (((24 : Nat) = 24 ∧ (0 : Nat) = 0) ∧ ((0 : Nat) = 0 ∧ (0 : Nat) = 0) ∧ (0 : Nat) = 0) = true from by decide] at q1
  rw [show decide ((0 : Nat) = 0 ∧ (0 : Nat) = 0) = true from by decide] at q3
  unfold mapV setV at *
  simp only [Int.natCast_zero, Int.cast_ofNat_Int, Int.natCast_one] at *
  have H1 := Lib.hid h1
  have H2 := Lib.hid h2
  have H3 := Lib.hid h3
  have H4 := Lib.hid h4
  have H5 := Lib.hid h5
  have H6 := Lib.hid h6
  clear h1 h2 h3 h4 h5 h6
  go_enter Try.func14, Try.ntmps14
  go_wp2_with fail
  refine (H1.out _).mono ?_
  rintro r w1 ⟨rfl, hb1⟩
  have b1 := Box5.new w1 29 (.int .u64 8) (.int .u64 0) (.int .u64 0) (.int .u64 0) (.int .u64 0)
  have hB1 : Below w.heap.size w (w1.alloc (.cells #[.int .u64 8, .int .u64 0, .int .u64 0, .int .u64 0, .int .u64 0] 29)) := hb1.alloc hb1.size _
  have z1 : w.heap.size ≤ w1.heap.size := hb1.size
  obtain ⟨p1, hp1⟩ : ∃ p, p = w1.heap.size := ⟨_, rfl⟩
  rw [← hp1] at b1 z1
  obtain ⟨W1, hW1⟩ : ∃ W, W = w1.alloc (.cells #[.int .u64 8, .int .u64 0, .int .u64 0, .int .u64 0, .int .u64 0] 29) := ⟨_, rfl⟩
  rw [← hW1] at b1 hB1
  have k0 := b1.c0
  have k1 := b1.c1
  have k2 := b1.c2
  have k3 := b1.c3
  have k4 := b1.c4
  have HB1 := Lib.hid hB1
  have HX1 := Lib.hid b1
  clear hb1 hB1 b1
  go_wp2_with fail
  rw [← hp1, ← hW1]
  clear hW1 hp1
  go_wp2_with fail
  refine (H2.out _).mono ?_
  rintro r w2 ⟨rfl, hb2⟩
  have hB2 := HB1.out.trans (hb2.mono HB1.out.size)
  have HB2 := Lib.hid hB2
  clear hb2 hB2 k0 k1 k2 k3 k4
  go_wp2_with fail
  refine (H3.out _).mono ?_
  rintro r w3 ⟨rfl, hb3⟩
  have hB3 := HB2.out.trans (hb3.mono HB2.out.size)
  have b3 := Box5.new w3 29 (.int .u64 16) (.int .u64 0) (.int .u64 8) (.int .u64 0) (.int .u64 1)
  have hB4 : Below w.heap.size w (w3.alloc (.cells #[.int .u64 16, .int .u64 0, .int .u64 8, .int .u64 0, .int .u64 1] 29)) := hB3.alloc hB3.size _
  have z3 : w.heap.size ≤ w3.heap.size := hB3.size
  obtain ⟨p3, hp3⟩ : ∃ p, p = w3.heap.size := ⟨_, rfl⟩
  have hz3 : (w3.alloc (.cells #[.int .u64 16, .int .u64 0, .int .u64 8, .int .u64 0, .int .u64 1] 29)).heap.size = w3.heap.size + 1 := World.size_alloc _ _
  rw [← hp3] at b3 z3 hz3
  obtain ⟨W3, hW3⟩ : ∃ W, W = w3.alloc (.cells #[.int .u64 16, .int .u64 0, .int .u64 8, .int .u64 0, .int .u64 1] 29) := ⟨_, rfl⟩
  rw [← hW3] at b3 hB4 hz3
  have h4' := H4.out W3
  rw [hz3] at h4'
  have H4' := Lib.hid h4'
  clear h4'
  have HB4 := Lib.hid hB4
  have HX3 := Lib.hid b3
  clear hb3 hB3 hB4 b3 HB2 HB1 HX1
  go_wp2_with fail
  rw [← hp3, ← hW3]
  clear hW3 hp3
  have HZ3 := Lib.hid hz3
  go_wp2_with fail
  refine H4'.out.mono ?_
  rintro r w5 ⟨rfl, hb5⟩
  have hb50 := (HB4.out.alloc HB4.out.size (.cells #[.int .i64 3, .int .i64 4] 3))
  have hB5 := hb50.trans (hb5.mono hb50.size)
  have b5 := (HX3.out.alloc (.cells #[.int .i64 3, .int .i64 4] 3)).below hb5 (HX3.out.alloc _).lt
  have b6 := b5.alloc (.cells #[.int .u64 24, .int .u64 0] 27)
  have s6 := Box2.new w5 27 (.int .u64 24) (.int .u64 0)
  have hB6 : Below w.heap.size w (w5.alloc (.cells #[.int .u64 24, .int .u64 0] 27)) := hB5.alloc hB5.size _
  obtain ⟨p6, hp6⟩ : ∃ p, p = w5.heap.size := ⟨_, rfl⟩
  rw [← hp6] at s6
  obtain ⟨W6, hW6⟩ : ∃ W, W = w5.alloc (.cells #[.int .u64 24, .int .u64 0] 27) := ⟨_, rfl⟩
  rw [← hW6] at s6 hB6 b6
  have HB6 := Lib.hid hB6
  have HX6 := Lib.hid b6
  have HS6 := Lib.hid s6
  clear hb50 hb5 hB5 b5 b6 s6 hB6 HB4 HX3
  go_wp2_with fail
  rw [← hp6, ← hW6]
  clear hW6 hp6
  have bd := HX6.out
  have sd := HS6.out
  have hkp : ∀ w', Below W6.drew.heap.size W6.drew w' → (w'.cell? ⟨p3, 0, none⟩ = some (.int .u64 16) ∧ w'.cell? ⟨p3, 1, none⟩ = some (.int .u64 0) ∧ w'.cell? ⟨p3, 2, none⟩ = some (.int .u64 8) ∧ w'.cell? ⟨p3, 3, none⟩ = some (.int .u64 0) ∧ w'.cell? ⟨p3, 4, none⟩ = some (.int .u64 1) ∧ w'.cell? ⟨p6, 0, none⟩ = some (.int .u64 24) ∧ w'.cell? ⟨p6, 1, none⟩ = some (.int .u64 0)) := fun w' h =>
    have b := (show Box5 W6.drew _ _ _ _ _ _ _ from bd).below h bd.lt
    have s := (show Box2 W6.drew _ _ _ _ from sd).below h sd.lt
    ⟨b.c0, b.c1, b.c2, b.c3, b.c4, s.c0, s.c1⟩
  have hG : Below W6.drew.heap.size W6.drew W6.drew := Below.refl _ _
  have HKP := Lib.hid hkp
  clear hkp bd sd
  go_wp2_with fail
  go_region_held3 (fun w' => (w'.cell? ⟨p3, 0, none⟩ = some (.int .u64 16) ∧ w'.cell? ⟨p3, 1, none⟩ = some (.int .u64 0) ∧ w'.cell? ⟨p3, 2, none⟩ = some (.int .u64 8) ∧ w'.cell? ⟨p3, 3, none⟩ = some (.int .u64 0) ∧ w'.cell? ⟨p3, 4, none⟩ = some (.int .u64 1) ∧ w'.cell? ⟨p6, 0, none⟩ = some (.int .u64 24) ∧ w'.cell? ⟨p6, 1, none⟩ = some (.int .u64 0)))
    (exact HKP.out _ hG)
    (first
    | (go_at_call 10; with_reducible refine (H5.out _).mono ?_; rintro r w' ⟨rfl, hb⟩; replace hG := hG.trans (hb.mono hG.size); clear hb)
    | (go_at_call 12; with_reducible refine (H6.out _).mono ?_; rintro r w' ⟨rfl, hb⟩; replace hG := hG.trans (hb.mono hG.size); clear hb))
  rename_i hHeld
  clear hHeld
  have hF := HB6.out.trans (Below.mono ⟨hG.os, hG.tape, hG.output, hG.size, hG.block⟩ HB6.out.size)
  have HF := Lib.hid hF
  clear hF hG
  go_wp2
  go_ret
  exact ⟨rfl, HF.out⟩
end Go.Proofs.Ytodcdefmoliegaa


/-
  Texts put together: J5.
-/
import Derived.Test.YtodcdefmoliegaaGreatDoorMJ0
import Derived.Test.YtodcdefmoliegaaGreatDoorMIC
import Derived.Test.YtodcdefmoliegaaGreatDoorR7
import Derived.Deep.RegionHeld3
/-
  A map's body: contracts of encode.
-/
namespace Go.Proofs.YtodcdefmoliegaaGreatDoor
open Go.RowKit
set_option linter.unusedVariables false
set_option linter.unusedSimpArgs false

/-- A map's body. -/
def mapT (a b c d e : Nat) : List UInt8 := setT a b ++ setT c d ++ enc e 8
theorem mapT_length (a b c d e : Nat) : (mapT a b c d e).length = 40 := by simp [mapT, setT_length, enc_length]

set_option maxRecDepth 20000 in
set_option maxHeartbeats 4000000 in
theorem encode_any (a b c d e : Nat) (w : World) (ha : a < 18446744073709551616) (hb : b < 18446744073709551616) (hc : c < 18446744073709551616) (hd : d < 18446744073709551616) (he : e < 18446744073709551616) :
    Calls Tryz.prog 40 #[mapV a b c d e] w fun x w' => x = .returned (strV (mapT a b c d e)) ∧ Below w.heap.size w w' := by
  have h1 := fun w => sbytes_any a b w ha hb
  have h2 := fun w => sbytes_any c d w hc hd
  have h3 := fun w => put_ok none 0 0 [] 8 e w (rd_nil w) (by omega) (by omega) he (by omega)
  have a1 := fun w => add_texts (setT a b) (setT c d) (by simp [setT_length]) w
  have a2 := fun w => add_texts (setT a b ++ setT c d) (enc e 8) (by simp [setT_length, enc_length]) w
  rw [show setT a b ++ setT c d ++ enc e 8 = mapT a b c d e from rfl] at a2
  have hcv : ∀ (g c : Nat) (w : World), Rd w (some ⟨g, 0, none⟩) (0 + 8) c ([] ++ enc e 8) → (convert 77 9 (.slice (some ⟨g, 0, none⟩) (0 + 8) c)).run Tryz.prog w = .ok (strV (enc e 8)) w := fun g c w h => rd_string h
  obtain ⟨V1, hV1⟩ : ∃ V, strV (setT a b) = V := ⟨_, rfl⟩
  obtain ⟨V2, hV2⟩ : ∃ V, strV (setT c d) = V := ⟨_, rfl⟩
  obtain ⟨V3, hV3⟩ : ∃ V, strV (setT a b ++ setT c d) = V := ⟨_, rfl⟩
  obtain ⟨V4, hV4⟩ : ∃ V, strV (enc e 8) = V := ⟨_, rfl⟩
  obtain ⟨V5, hV5⟩ : ∃ V, strV (mapT a b c d e) = V := ⟨_, rfl⟩
  simp only [hV1] at h1 a1
  simp only [hV2] at h2 a1
  simp only [hV3] at a1 a2
  simp only [hV4] at hcv a2
  simp only [hV5] at a2 ⊢
  clear hV1 hV2 hV3 hV4 hV5
  have bM := Box5.new w 41 (.int .u64 (a : Int)) (.int .u64 (b : Int)) (.int .u64 (c : Int)) (.int .u64 (d : Int)) (.int .u64 (e : Int))
  have hB0 : Below w.heap.size w (w.alloc (.cells #[.int .u64 (a : Int), .int .u64 (b : Int), .int .u64 (c : Int), .int .u64 (d : Int), .int .u64 (e : Int)] 41)) := (Below.refl _ w).alloc (Nat.le_refl _) _
  unfold mapV setV at *
  simp only [show ((8 : Nat) : Int) = 8 from rfl] at h3
  have H1 := Lib.hid h1
  have H2 := Lib.hid h2
  have H3 := Lib.hid h3
  have HCV := Lib.hid hcv
  clear h1 h2 h3 hcv ha hb hc hd he
  go_enter Tryz.func40, Tryz.ntmps40
  go_wp2_with fail
  obtain ⟨W0, hW0⟩ : ∃ W, W = w.alloc (.cells #[.int .u64 (a : Int), .int .u64 (b : Int), .int .u64 (c : Int), .int .u64 (d : Int), .int .u64 (e : Int)] 41) := ⟨_, rfl⟩
  rw [← hW0] at bM hB0 ⊢
  clear hW0
  have hkp : ∀ w', Below W0.drew.heap.size W0.drew w' → (w'.cell? ⟨w.heap.size, 0, none⟩ = some (.int .u64 (a : Int)) ∧ w'.cell? ⟨w.heap.size, 1, none⟩ = some (.int .u64 (b : Int)) ∧ w'.cell? ⟨w.heap.size, 2, none⟩ = some (.int .u64 (c : Int)) ∧ w'.cell? ⟨w.heap.size, 3, none⟩ = some (.int .u64 (d : Int)) ∧ w'.cell? ⟨w.heap.size, 4, none⟩ = some (.int .u64 (e : Int))) := fun w' h =>
    have b := (show Box5 W0.drew _ _ _ _ _ _ _ from bM).below h bM.lt
    ⟨b.c0, b.c1, b.c2, b.c3, b.c4⟩
  have hG : Below W0.drew.heap.size W0.drew W0.drew := Below.refl _ _
  have HKP := Lib.hid hkp
  have HB0 := Lib.hid hB0
  clear hkp hB0 bM
  refine wp_region_held_drew (S := (fun w' => (w'.cell? ⟨w.heap.size, 0, none⟩ = some (.int .u64 (a : Int)) ∧ w'.cell? ⟨w.heap.size, 1, none⟩ = some (.int .u64 (b : Int)) ∧ w'.cell? ⟨w.heap.size, 2, none⟩ = some (.int .u64 (c : Int)) ∧ w'.cell? ⟨w.heap.size, 3, none⟩ = some (.int .u64 (d : Int)) ∧ w'.cell? ⟨w.heap.size, 4, none⟩ = some (.int .u64 (e : Int))))) (by kernel_rfl) (HKP.out _ hG) (fun hHeld => ?_)
  refine wpAnyH_take (i := 0) (oi := { dst := some 3, op := Op.fieldAddr 41 (Operand.tmp 1) 0, type := 0, pos := "dirty.go:78", after := #[], guard := none }) (v := ?_) rfl (by kernel_rfl) (by kernel_rfl) (by kernel_rfl) (fun _ _ _ h => h) (Or.inl ⟨by rfl, ?_⟩) (by assumption) ?_
  rotate_left
  · (intro w hSw; (try dsimp only at hSw); go_simp <;> with_reducible rfl)
  try simp only [Act.put, List.setIfInBounds_toArray, List.set_cons_zero, List.set_cons_succ]
  refine wpAnyH_take (i := 1) (oi := { dst := some 4, op := Op.load 39 (Operand.tmp 3), type := 39, pos := "dirty.go:78", after := #[{ on := 0, ground := Ground.data }], guard := none }) (v := ?_) rfl (by kernel_rfl) (by kernel_rfl) (by kernel_rfl) (fun _ _ _ h => h) (Or.inl ⟨by rfl, ?_⟩) (by assumption) ?_
  rotate_left
  · (intro w hSw; (try dsimp only at hSw); go_simp <;> with_reducible rfl)
  try simp only [Act.put, List.setIfInBounds_toArray, List.set_cons_zero, List.set_cons_succ]
  refine wpAnyH_take (i := 3) (oi := { dst := some 6, op := Op.fieldAddr 41 (Operand.tmp 1) 1, type := 0, pos := "dirty.go:78", after := #[], guard := none }) (v := ?_) rfl (by kernel_rfl) (by kernel_rfl) (by kernel_rfl) (fun _ _ _ h => h) (Or.inl ⟨by rfl, ?_⟩) (by assumption) ?_
  rotate_left
  · (intro w hSw; (try dsimp only at hSw); go_simp <;> with_reducible rfl)
  try simp only [Act.put, List.setIfInBounds_toArray, List.set_cons_zero, List.set_cons_succ]
  refine wpAnyH_take (i := 4) (oi := { dst := some 7, op := Op.load 39 (Operand.tmp 6), type := 39, pos := "dirty.go:78", after := #[{ on := 3, ground := Ground.data }], guard := none }) (v := ?_) rfl (by kernel_rfl) (by kernel_rfl) (by kernel_rfl) (fun _ _ _ h => h) (Or.inl ⟨by rfl, ?_⟩) (by assumption) ?_
  rotate_left
  · (intro w hSw; (try dsimp only at hSw); go_simp <;> with_reducible rfl)
  try simp only [Act.put, List.setIfInBounds_toArray, List.set_cons_zero, List.set_cons_succ]
  refine wpAnyH_take (i := 7) (oi := { dst := some 10, op := Op.fieldAddr 41 (Operand.tmp 1) 2, type := 0, pos := "dirty.go:78", after := #[], guard := none }) (v := ?_) rfl (by kernel_rfl) (by kernel_rfl) (by kernel_rfl) (fun _ _ _ h => h) (Or.inl ⟨by rfl, ?_⟩) (by assumption) ?_
  rotate_left
  · (intro w hSw; (try dsimp only at hSw); go_simp <;> with_reducible rfl)
  try simp only [Act.put, List.setIfInBounds_toArray, List.set_cons_zero, List.set_cons_succ]
  refine wpAnyH_take (i := 8) (oi := { dst := some 11, op := Op.load 22 (Operand.tmp 10), type := 22, pos := "dirty.go:78", after := #[{ on := 7, ground := Ground.data }], guard := none }) (v := ?_) rfl (by kernel_rfl) (by kernel_rfl) (by kernel_rfl) (fun _ _ _ h => h) (Or.inl ⟨by rfl, ?_⟩) (by assumption) ?_
  rotate_left
  · (intro w hSw; (try dsimp only at hSw); go_simp <;> with_reducible rfl)
  try simp only [Act.put, List.setIfInBounds_toArray, List.set_cons_zero, List.set_cons_succ]
  refine wpAnyH_ready (rs := [2]) (by kernel_rfl) (by simp) ?_
  refine AllReadyH.cons (o := { dst := some 5, op := Op.call { callee := Callee.value (Operand.func 62), args := #[Operand.tmp 4], argTypes := #[39] }, type := 9, pos := "dirty.go:78", after := #[{ on := 1, ground := Ground.data }], guard := none }) rfl (fun K hK => ?_) AllReadyH.nil
  go_simp
  go_at_call 62
  with_reducible refine (H1.out _).mono ?_
  rintro r w' ⟨rfl, hb⟩
  replace hG := hG.trans (hb.mono hG.size)
  clear hb
  refine hK.out _ _ (HKP.out _ hG) (fun hHeld => ?_)
  clear hK K
  try simp only [Act.put, List.setIfInBounds_toArray, List.set_cons_zero, List.set_cons_succ]
  refine wpAnyH_ready (rs := [5]) (by kernel_rfl) (by simp) ?_
  refine AllReadyH.cons (o := { dst := some 8, op := Op.call { callee := Callee.value (Operand.func 62), args := #[Operand.tmp 7], argTypes := #[39] }, type := 9, pos := "dirty.go:78", after := #[{ on := 4, ground := Ground.data }, { on := 2, ground := Ground.chain }], guard := none }) rfl (fun K hK => ?_) AllReadyH.nil
  go_simp
  go_at_call 62
  with_reducible refine (H2.out _).mono ?_
  rintro r w' ⟨rfl, hb⟩
  replace hG := hG.trans (hb.mono hG.size)
  clear hb
  refine hK.out _ _ (HKP.out _ hG) (fun hHeld => ?_)
  clear hK K
  try simp only [Act.put, List.setIfInBounds_toArray, List.set_cons_zero, List.set_cons_succ]
  refine wpAnyH_take (i := 6) (oi := { dst := some 9, op := Op.binOp BinOp.add 9 (Operand.tmp 5) (Operand.tmp 8) 9, type := 9, pos := "dirty.go:78", after := #[{ on := 2, ground := Ground.data }, { on := 5, ground := Ground.data }], guard := none }) (v := ?_) rfl (by kernel_rfl) (by kernel_rfl) (by kernel_rfl) (fun _ _ _ h => h) (Or.inl ⟨by rfl, ?_⟩) (by assumption) ?_
  rotate_left
  · (intro w hSw; (try dsimp only at hSw); go_simp <;> with_reducible rfl)
  try simp only [Act.put, List.setIfInBounds_toArray, List.set_cons_zero, List.set_cons_succ]
  refine wpAnyH_ready (rs := [9]) (by kernel_rfl) (by simp) ?_
  refine AllReadyH.cons (o := { dst := some 12, op := Op.call { callee := Callee.value (Operand.func 59), args := #[Operand.const (Value.slice none 0 0), Operand.const (Value.int IntKind.i64 8), Operand.tmp 11], argTypes := #[77, 3, 22] }, type := 77, pos := "dirty.go:78", after := #[{ on := 8, ground := Ground.data }, { on := 5, ground := Ground.chain }], guard := none }) rfl (fun K hK => ?_) AllReadyH.nil
  go_simp
  go_at_call 59
  with_reducible refine (H3.out _).mono ?_
  rintro r w' ⟨g, c', rfl, _, hrd, hb⟩
  replace hG := hG.trans (hb.mono hG.size)
  have hcv := HCV.out _ _ _ hrd
  clear hb hrd
  refine hK.out _ _ (HKP.out _ hG) (fun hHeld => ?_)
  clear hK K
  try simp only [Act.put, List.setIfInBounds_toArray, List.set_cons_zero, List.set_cons_succ]
  refine wpAnyH_ready (rs := [10]) (by kernel_rfl) (by simp) ?_
  refine AllReadyH.cons (o := { dst := some 13, op := Op.convert 77 9 (Operand.tmp 12), type := 9, pos := "dirty.go:78", after := #[{ on := 9, ground := Ground.data }], guard := none }) rfl (fun K hK => ?_) AllReadyH.nil
  go_simp
  refine hK.out _ _ (HKP.out _ hG) (fun hHeld => ?_)
  clear hK K
  try simp only [Act.put, List.setIfInBounds_toArray, List.set_cons_zero, List.set_cons_succ]
  refine wpAnyH_take (i := 11) (oi := { dst := some 14, op := Op.binOp BinOp.add 9 (Operand.tmp 9) (Operand.tmp 13) 9, type := 9, pos := "dirty.go:78", after := #[{ on := 6, ground := Ground.data }, { on := 10, ground := Ground.data }], guard := none }) (v := ?_) rfl (by kernel_rfl) (by kernel_rfl) (by kernel_rfl) (fun _ _ _ h => h) (Or.inl ⟨by rfl, ?_⟩) (by assumption) ?_
  rotate_left
  · (intro w hSw; (try dsimp only at hSw); go_simp <;> with_reducible rfl)
  try simp only [Act.put, List.setIfInBounds_toArray, List.set_cons_zero, List.set_cons_succ]
  refine wpAnyH_take (i := 12) (oi := { dst := some 2, op := Op.assign (Operand.tmp 14), type := 9, pos := "dirty.go:78", after := #[{ on := 11, ground := Ground.data }, { on := 9, ground := Ground.chain }, { on := 0, ground := Ground.phase }, { on := 1, ground := Ground.phase }, { on := 2, ground := Ground.phase }, { on := 3, ground := Ground.phase }, { on := 4, ground := Ground.phase }, { on := 5, ground := Ground.phase }, { on := 6, ground := Ground.phase }, { on := 7, ground := Ground.phase }, { on := 8, ground := Ground.phase }, { on := 9, ground := Ground.phase }, { on := 10, ground := Ground.phase }, { on := 11, ground := Ground.phase }], guard := none }) (v := ?_) rfl (by kernel_rfl) (by kernel_rfl) (by kernel_rfl) (fun _ _ _ h => h) (Or.inl ⟨by rfl, ?_⟩) (by assumption) ?_
  rotate_left
  · (intro w hSw; (try dsimp only at hSw); go_simp <;> with_reducible rfl)
  try simp only [Act.put, List.setIfInBounds_toArray, List.set_cons_zero, List.set_cons_succ]
  refine wpAnyH_done (by kernel_rfl) ?_ _
  have hF := HB0.out.trans (Below.mono ⟨hG.os, hG.tape, hG.output, hG.size, hG.block⟩ HB0.out.size)
  have HF := Lib.hid hF
  clear hF hG
  go_wp2
  go_ret
  exact ⟨rfl, HF.out⟩
end Go.Proofs.YtodcdefmoliegaaGreatDoor

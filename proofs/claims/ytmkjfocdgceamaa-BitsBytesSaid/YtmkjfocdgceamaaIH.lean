/-
  The walk of BitsBytes.
-/
import Derived.Test.YtmkjfocdgceamaaIG
namespace Go.Proofs.Ytmkjfocdgceamaa
open Go.RowKit
set_option linter.unusedVariables false
set_option linter.unusedSimpArgs false

theorem eql_same (s : ByteArray) (w : World) : (binOp .eql 9 (.string s) (.string s)).run Try.prog w = .ok (.bool true) w := by simp [go_sem]
theorem guard_text (op : BinOp) (x y : Operand) (u s : ByteArray) (w : World) : Sem.run Try.prog (eqGuard op 9 x y (.string u) (.string s)) w = .ok () w := by
  unfold eqGuard
  cases op <;> rfl
theorem text_back (s : ByteArray) (xs : List UInt8) (h : xs = s.data.toList) : strV xs = .string s := by
  subst h; cases s; simp [strV]

theorem from_cases (s : ByteArray) : ∃ (x y : Nat) (k : Int), x < 18446744073709551616 ∧ y < 18446744073709551616 ∧ fromV s.data.toList = .tuple #[setV x y, .int .i64 k] ∧
    (k = 0 ∧ (∀ w, Calls Try.prog 25 #[setV x y] w fun e w' => e = .returned (.string s) ∧ Below w.heap.size w w') ∨ k = 4) := by
  have hsl : s.data.toList.length = s.size := rfl
  by_cases h16 : s.data.toList.length = 16
  · have hx := numN8 s.data.toList (by omega)
    have hy := numN8' s.data.toList h16
    refine ⟨_, _, 0, hx, hy, ?_, .inl ⟨rfl, fun w => ?_⟩⟩
    · unfold fromV fromP
      rw [if_pos h16]; rfl
    · have h := bytes_any _ _ w hx hy
      rw [text_back s _ (set_text _ h16)] at h
      exact h
  · refine ⟨0, 0, 4, by omega, by omega, ?_, .inr rfl⟩
    unfold fromV fromP
    rw [if_neg h16]; rfl

set_option maxRecDepth 20000 in
set_option maxHeartbeats 8000000 in
theorem bytes_walk (a b : Nat) (s : ByteArray) (w : World) (ha : a < 18446744073709551616) (hb : b < 18446744073709551616) :
    Calls Try.prog 5 #[setV a b, .string s] w fun e w' => e = .returned (.bool true) ∧ Below w.heap.size w w' := by
  obtain ⟨x, y, k, hx, hy, hv, hk⟩ := from_cases s
  have h1 := fun w => from_any s w
  have h2 := fun w => rfrom_any s w
  rw [hv] at h1 h2
  have h3 := fun w => bytes_any a b w ha hb
  have h4 := fun w => rbytes_any a b w ha hb
  have h5 : ∀ w, Calls Try.prog 23 #[strV (setT a b)] w fun e w' => e = .returned (.tuple #[setV a b, .int .i64 0]) ∧ Below w.heap.size w w' := fun w => by
    have := from_any ⟨(setT a b).toArray⟩ w
    rw [show fromV (⟨(setT a b).toArray⟩ : ByteArray).data.toList = _ from from_set a b ha hb] at this
    exact this
  have h6 := fun w => list_any a b w ha hb
  have h7 : ∀ v w, Li w v (listL (bitp a b) 128) → Calls Try.prog 7 #[v] w fun e w' => e = .returned (.tuple #[setV a b, .int .i64 0]) ∧ Below w.heap.size w w' := fun v w h => by
    have := of_any v _ w h
    rwa [of_list a b ha hb] at this
  have h8 := fun w => known_any w
  have q1 : ∀ w, (binOp .eql 9 (strV (setT a b)) (strV (setT a b))).run Try.prog w = .ok (.bool true) w := fun w => eql_same _ w
  have q2 : ∀ op p q w, Sem.run Try.prog (eqGuard op 9 p q (strV (setT a b)) (strV (setT a b))) w = .ok () w := fun op p q w => guard_text op p q _ _ w
  have q3 := eql_set a b a b
  rw [decide_eq_true ⟨rfl, rfl⟩] at q3
  have q4 := fun op p q => guard_set op p q a b a b
  have q5 := eql_rset x y x y
  rw [decide_eq_true ⟨rfl, rfl⟩] at q5
  have q6 := fun op p q => guard_rset op p q x y x y
  have q7 := eql_same s
  have q8 := fun op p q => guard_text op p q s s
  generalize strV (setT a b) = V at *
  generalize listL (bitp a b) 128 = L at *
  unfold setV at *
  have H1 := Lib.hid h1
  have H2 := Lib.hid h2
  have H3 := Lib.hid h3
  have H4 := Lib.hid h4
  have H5 := Lib.hid h5
  have H6 := Lib.hid h6
  have H7 := Lib.hid h7
  have H8 := Lib.hid h8
  have HK := Lib.hid hk
  have b2 := (Box2.new w 24 (.int .u64 (a : Int)) (.int .u64 (b : Int))).alloc (.cells #[.int .u64 (a : Int), .int .u64 (b : Int)] 26)
  have b5 := Box2.new (w.alloc (.cells #[.int .u64 (a : Int), .int .u64 (b : Int)] 24)) 26 (.int .u64 (a : Int)) (.int .u64 (b : Int))
  have hB0 := below2 w (.cells #[.int .u64 (a : Int), .int .u64 (b : Int)] 24) (.cells #[.int .u64 (a : Int), .int .u64 (b : Int)] 26)
  simp only [World.size_alloc] at b5
  have HB2 := Lib.hid b2
  have HB5 := Lib.hid b5
  have HB0 := Lib.hid hB0
  clear h1 h2 h3 h4 h5 h6 h7 h8 hk ha hb hx hy hv b2 b5 hB0
  go_enter Try.func5, Try.ntmps5
  go_wp2_with fail
  generalize (w.alloc (.cells #[.int .u64 (a : Int), .int .u64 (b : Int)] 24)).alloc (.cells #[.int .u64 (a : Int), .int .u64 (b : Int)] 26) = W0 at *
  refine (H1.out _).mono ?_
  rintro r w1 ⟨rfl, hb⟩
  have b2 := (HB2.out.below hb HB2.out.lt).alloc (.cells #[.int .u64 (x : Int), .int .u64 (y : Int)] 26)
  have b5 := (HB5.out.below hb HB5.out.lt).alloc (.cells #[.int .u64 (x : Int), .int .u64 (y : Int)] 26)
  have b6 := Box2.new w1 26 (.int .u64 (x : Int)) (.int .u64 (y : Int))
  have hB := (HB0.out.trans (hb.mono HB0.out.size)).alloc (HB0.out.trans (hb.mono HB0.out.size)).size (.cells #[.int .u64 (x : Int), .int .u64 (y : Int)] 26)
  clear hb HB2 HB5 HB0
  have HB2 := Lib.hid b2
  have HB5 := Lib.hid b5
  have HB6 := Lib.hid b6
  have HB0 := Lib.hid hB
  clear b2 b5 b6 hB
  go_wp2_with fail
  generalize w1.alloc (.cells #[.int .u64 (x : Int), .int .u64 (y : Int)] 26) = W1 at *
  generalize w1.heap.size = n6 at *
  refine (H2.out _).mono ?_
  rintro r w2 ⟨rfl, hb⟩
  have b2 := (HB2.out.below hb HB2.out.lt).alloc (.cells #[.int .u64 (x : Int), .int .u64 (y : Int)] 30)
  have b5 := (HB5.out.below hb HB5.out.lt).alloc (.cells #[.int .u64 (x : Int), .int .u64 (y : Int)] 30)
  have b6 := (HB6.out.below hb HB6.out.lt).alloc (.cells #[.int .u64 (x : Int), .int .u64 (y : Int)] 30)
  have b8 := Box2.new w2 30 (.int .u64 (x : Int)) (.int .u64 (y : Int))
  have hB := (HB0.out.trans (hb.mono HB0.out.size)).alloc (HB0.out.trans (hb.mono HB0.out.size)).size (.cells #[.int .u64 (x : Int), .int .u64 (y : Int)] 30)
  have s0 := b5.c0
  have s1 := b5.c1
  clear hb HB2 HB5 HB6 HB0
  have HB2 := Lib.hid b2
  have HB5 := Lib.hid b5
  have HB6 := Lib.hid b6
  have HB8 := Lib.hid b8
  have HB0 := Lib.hid hB
  clear b2 b5 b6 b8 hB
  go_wp2_with fail
  generalize w2.alloc (.cells #[.int .u64 (x : Int), .int .u64 (y : Int)] 30) = W2 at *
  generalize w2.heap.size = n8 at *
  refine (H3.out _).mono ?_
  rintro r w3 ⟨rfl, hb⟩
  have b2 := (HB2.out.below hb HB2.out.lt)
  have b5 := (HB5.out.below hb HB5.out.lt)
  have b6 := (HB6.out.below hb HB6.out.lt)
  have b8 := (HB8.out.below hb HB8.out.lt)
  have hB := (HB0.out.trans (hb.mono HB0.out.size))
  clear hb HB2 HB5 HB6 HB8 HB0 s0 s1
  have HB2 := Lib.hid b2
  have HB5 := Lib.hid b5
  have HB6 := Lib.hid b6
  have HB8 := Lib.hid b8
  have HB0 := Lib.hid hB
  clear b2 b5 b6 b8 hB
  go_wp2_with fail
  refine (H5.out _).mono ?_
  rintro r w4 ⟨rfl, hb⟩
  have b2 := (HB2.out.below hb HB2.out.lt).alloc (.cells #[.int .u64 (a : Int), .int .u64 (b : Int)] 26)
  have b5 := (HB5.out.below hb HB5.out.lt).alloc (.cells #[.int .u64 (a : Int), .int .u64 (b : Int)] 26)
  have b6 := (HB6.out.below hb HB6.out.lt).alloc (.cells #[.int .u64 (a : Int), .int .u64 (b : Int)] 26)
  have b8 := (HB8.out.below hb HB8.out.lt).alloc (.cells #[.int .u64 (a : Int), .int .u64 (b : Int)] 26)
  have bA := Box2.new w4 26 (.int .u64 (a : Int)) (.int .u64 (b : Int))
  have hB := (HB0.out.trans (hb.mono HB0.out.size)).alloc (HB0.out.trans (hb.mono HB0.out.size)).size (.cells #[.int .u64 (a : Int), .int .u64 (b : Int)] 26)
  have s0 := b5.c0
  have s1 := b5.c1
  clear hb HB2 HB5 HB6 HB8 HB0
  have HB2 := Lib.hid b2
  have HB5 := Lib.hid b5
  have HB6 := Lib.hid b6
  have HB8 := Lib.hid b8
  have HBA := Lib.hid bA
  have HB0 := Lib.hid hB
  clear b2 b5 b6 b8 bA hB
  go_wp2_with fail
  generalize w4.alloc (.cells #[.int .u64 (a : Int), .int .u64 (b : Int)] 26) = W4 at *
  generalize w4.heap.size = nA at *
  refine (H6.out _).mono ?_
  rintro r w5 ⟨v, rfl, hl, hb⟩
  have hl7 := H7.out v w5 hl.li
  have b2 := (HB2.out.below hb HB2.out.lt)
  have b5 := (HB5.out.below hb HB5.out.lt)
  have b6 := (HB6.out.below hb HB6.out.lt)
  have b8 := (HB8.out.below hb HB8.out.lt)
  have bA := (HBA.out.below hb HBA.out.lt)
  have hB := (HB0.out.trans (hb.mono HB0.out.size))
  clear hb HB2 HB5 HB6 HB8 HBA HB0 s0 s1 hl
  have HB2 := Lib.hid b2
  have HB5 := Lib.hid b5
  have HB6 := Lib.hid b6
  have HB8 := Lib.hid b8
  have HBA := Lib.hid bA
  have HB0 := Lib.hid hB
  have HL7 := Lib.hid hl7
  clear b2 b5 b6 b8 bA hB hl7
  go_wp2_with fail
  refine HL7.out.mono ?_
  rintro r w6 ⟨rfl, hb⟩
  have b2 := (HB2.out.below hb HB2.out.lt).alloc (.cells #[.int .u64 (a : Int), .int .u64 (b : Int)] 26)
  have b5 := (HB5.out.below hb HB5.out.lt).alloc (.cells #[.int .u64 (a : Int), .int .u64 (b : Int)] 26)
  have b6 := (HB6.out.below hb HB6.out.lt).alloc (.cells #[.int .u64 (a : Int), .int .u64 (b : Int)] 26)
  have b8 := (HB8.out.below hb HB8.out.lt).alloc (.cells #[.int .u64 (a : Int), .int .u64 (b : Int)] 26)
  have bA := (HBA.out.below hb HBA.out.lt).alloc (.cells #[.int .u64 (a : Int), .int .u64 (b : Int)] 26)
  have bC := Box2.new w6 26 (.int .u64 (a : Int)) (.int .u64 (b : Int))
  have hB := (HB0.out.trans (hb.mono HB0.out.size)).alloc (HB0.out.trans (hb.mono HB0.out.size)).size (.cells #[.int .u64 (a : Int), .int .u64 (b : Int)] 26)
  clear hb HB2 HB5 HB6 HB8 HBA HB0 HL7
  have HB2 := Lib.hid b2
  have HB5 := Lib.hid b5
  have HB6 := Lib.hid b6
  have HB8 := Lib.hid b8
  have HBA := Lib.hid bA
  have HBC := Lib.hid bC
  have HB0 := Lib.hid hB
  clear b2 b5 b6 b8 bA bC hB
  obtain ⟨n2, hn2⟩ : ∃ n2, n2 = w.heap.size := ⟨_, rfl⟩
  have HN2 := Lib.hid hn2
  clear hn2
  rcases HK.out with ⟨rfl, hkb⟩ | rfl
  · have HKB := Lib.hid hkb
    clear hkb
    go_wp2_with fail
    generalize w6.alloc (.cells #[.int .u64 (a : Int), .int .u64 (b : Int)] 26) = W6 at *
    generalize w6.heap.size = nC at *
    have hkp : ∀ w', Below W6.drew.heap.size W6.drew w' → (w'.cell? ⟨w.heap.size, 0, none⟩ = some (.int .u64 (a : Int)) ∧ w'.cell? ⟨w.heap.size, 1, none⟩ = some (.int .u64 (b : Int)) ∧ w'.cell? ⟨w.heap.size + 1, 0, none⟩ = some (.int .u64 (a : Int)) ∧ w'.cell? ⟨w.heap.size + 1, 1, none⟩ = some (.int .u64 (b : Int)) ∧ w'.cell? ⟨n6, 0, none⟩ = some (.int .u64 (x : Int)) ∧ w'.cell? ⟨n6, 1, none⟩ = some (.int .u64 (y : Int)) ∧ w'.cell? ⟨n8, 0, none⟩ = some (.int .u64 (x : Int)) ∧ w'.cell? ⟨n8, 1, none⟩ = some (.int .u64 (y : Int)) ∧ w'.cell? ⟨nA, 0, none⟩ = some (.int .u64 (a : Int)) ∧ w'.cell? ⟨nA, 1, none⟩ = some (.int .u64 (b : Int)) ∧ w'.cell? ⟨nC, 0, none⟩ = some (.int .u64 (a : Int)) ∧ w'.cell? ⟨nC, 1, none⟩ = some (.int .u64 (b : Int))) := fun w' h => by
      have b2 := (show Box2 W6.drew _ _ _ _ from HB2.out).below h HB2.out.lt
      have b5 := (show Box2 W6.drew _ _ _ _ from HB5.out).below h HB5.out.lt
      have b6 := (show Box2 W6.drew _ _ _ _ from HB6.out).below h HB6.out.lt
      have b8 := (show Box2 W6.drew _ _ _ _ from HB8.out).below h HB8.out.lt
      have bA := (show Box2 W6.drew _ _ _ _ from HBA.out).below h HBA.out.lt
      have bC := (show Box2 W6.drew _ _ _ _ from HBC.out).below h HBC.out.lt
      exact ⟨b2.c0, b2.c1, b5.c0, b5.c1, b6.c0, b6.c1, b8.c0, b8.c1, bA.c0, bA.c1, bC.c0, bC.c1⟩
    have hG : Below W6.drew.heap.size W6.drew W6.drew := Below.refl _ _
    have HKP := Lib.hid hkp
    clear hkp HB2 HB5 HB6 HB8 HBA HBC
    go_region_held3 (fun w' => (w'.cell? ⟨w.heap.size, 0, none⟩ = some (.int .u64 (a : Int)) ∧ w'.cell? ⟨w.heap.size, 1, none⟩ = some (.int .u64 (b : Int)) ∧ w'.cell? ⟨w.heap.size + 1, 0, none⟩ = some (.int .u64 (a : Int)) ∧ w'.cell? ⟨w.heap.size + 1, 1, none⟩ = some (.int .u64 (b : Int)) ∧ w'.cell? ⟨n6, 0, none⟩ = some (.int .u64 (x : Int)) ∧ w'.cell? ⟨n6, 1, none⟩ = some (.int .u64 (y : Int)) ∧ w'.cell? ⟨n8, 0, none⟩ = some (.int .u64 (x : Int)) ∧ w'.cell? ⟨n8, 1, none⟩ = some (.int .u64 (y : Int)) ∧ w'.cell? ⟨nA, 0, none⟩ = some (.int .u64 (a : Int)) ∧ w'.cell? ⟨nA, 1, none⟩ = some (.int .u64 (b : Int)) ∧ w'.cell? ⟨nC, 0, none⟩ = some (.int .u64 (a : Int)) ∧ w'.cell? ⟨nC, 1, none⟩ = some (.int .u64 (b : Int))))
      (exact HKP.out _ hG)
      (first
      | (go_at_call 25; with_reducible refine (H3.out _).mono ?_; rintro r w' ⟨rfl, hb⟩; replace hG := hG.trans (hb.mono hG.size); clear hb)
      | (go_at_call 25; with_reducible refine (HKB.out _).mono ?_; rintro r w' ⟨rfl, hb⟩; replace hG := hG.trans (hb.mono hG.size); clear hb)
      | (go_at_call 26; with_reducible refine (H4.out _).mono ?_; rintro r w' ⟨rfl, hb⟩; replace hG := hG.trans (hb.mono hG.size); clear hb)
      | (go_at_call 6; with_reducible refine (H8.out _).mono ?_; rintro r w' ⟨rfl, hb⟩; replace hG := hG.trans (hb.mono hG.size); clear hb))
    rename_i hHeld
    clear hHeld
    have hF := HB0.out.trans (Below.mono ⟨hG.os, hG.tape, hG.output, hG.size, hG.block⟩ HB0.out.size)
    have HF := Lib.hid hF
    clear hF hG
    go_wp2
    refine bodyPost_ret (results_tmp rfl _ _ _) rfl ?_
    exact ⟨rfl, HF.out⟩
  · go_wp2_with fail
    generalize w6.alloc (.cells #[.int .u64 (a : Int), .int .u64 (b : Int)] 26) = W6 at *
    generalize w6.heap.size = nC at *
    have hkp : ∀ w', Below W6.drew.heap.size W6.drew w' → (w'.cell? ⟨w.heap.size, 0, none⟩ = some (.int .u64 (a : Int)) ∧ w'.cell? ⟨w.heap.size, 1, none⟩ = some (.int .u64 (b : Int)) ∧ w'.cell? ⟨w.heap.size + 1, 0, none⟩ = some (.int .u64 (a : Int)) ∧ w'.cell? ⟨w.heap.size + 1, 1, none⟩ = some (.int .u64 (b : Int)) ∧ w'.cell? ⟨n6, 0, none⟩ = some (.int .u64 (x : Int)) ∧ w'.cell? ⟨n6, 1, none⟩ = some (.int .u64 (y : Int)) ∧ w'.cell? ⟨n8, 0, none⟩ = some (.int .u64 (x : Int)) ∧ w'.cell? ⟨n8, 1, none⟩ = some (.int .u64 (y : Int)) ∧ w'.cell? ⟨nA, 0, none⟩ = some (.int .u64 (a : Int)) ∧ w'.cell? ⟨nA, 1, none⟩ = some (.int .u64 (b : Int)) ∧ w'.cell? ⟨nC, 0, none⟩ = some (.int .u64 (a : Int)) ∧ w'.cell? ⟨nC, 1, none⟩ = some (.int .u64 (b : Int))) := fun w' h => by
      have b2 := (show Box2 W6.drew _ _ _ _ from HB2.out).below h HB2.out.lt
      have b5 := (show Box2 W6.drew _ _ _ _ from HB5.out).below h HB5.out.lt
      have b6 := (show Box2 W6.drew _ _ _ _ from HB6.out).below h HB6.out.lt
      have b8 := (show Box2 W6.drew _ _ _ _ from HB8.out).below h HB8.out.lt
      have bA := (show Box2 W6.drew _ _ _ _ from HBA.out).below h HBA.out.lt
      have bC := (show Box2 W6.drew _ _ _ _ from HBC.out).below h HBC.out.lt
      exact ⟨b2.c0, b2.c1, b5.c0, b5.c1, b6.c0, b6.c1, b8.c0, b8.c1, bA.c0, bA.c1, bC.c0, bC.c1⟩
    have hG : Below W6.drew.heap.size W6.drew W6.drew := Below.refl _ _
    have HKP := Lib.hid hkp
    clear hkp HB2 HB5 HB6 HB8 HBA HBC
    refine wp_region_held_drew (S := (fun w' => (w'.cell? ⟨w.heap.size, 0, none⟩ = some (.int .u64 (a : Int)) ∧ w'.cell? ⟨w.heap.size, 1, none⟩ = some (.int .u64 (b : Int)) ∧ w'.cell? ⟨w.heap.size + 1, 0, none⟩ = some (.int .u64 (a : Int)) ∧ w'.cell? ⟨w.heap.size + 1, 1, none⟩ = some (.int .u64 (b : Int)) ∧ w'.cell? ⟨n6, 0, none⟩ = some (.int .u64 (x : Int)) ∧ w'.cell? ⟨n6, 1, none⟩ = some (.int .u64 (y : Int)) ∧ w'.cell? ⟨n8, 0, none⟩ = some (.int .u64 (x : Int)) ∧ w'.cell? ⟨n8, 1, none⟩ = some (.int .u64 (y : Int)) ∧ w'.cell? ⟨nA, 0, none⟩ = some (.int .u64 (a : Int)) ∧ w'.cell? ⟨nA, 1, none⟩ = some (.int .u64 (b : Int)) ∧ w'.cell? ⟨nC, 0, none⟩ = some (.int .u64 (a : Int)) ∧ w'.cell? ⟨nC, 1, none⟩ = some (.int .u64 (b : Int))))) (by kernel_rfl) (HKP.out _ hG) (fun hHeld => ?_)
    refine wpAnyH_take (i := 0) (oi := { dst := some 37, op := Op.load 26 (Operand.tmp 5), type := 26, pos := "law.go:46", after := #[], guard := none }) (v := ?_) rfl (by kernel_rfl) (by kernel_rfl) (by kernel_rfl) (fun _ _ _ h => h) (Or.inl ⟨by rfl, ?_⟩) (by assumption) ?_
    rotate_left
    · (intro w hSw; (try dsimp only at hSw); go_simp <;> with_reducible rfl)
    try simp only [Act.put, List.setIfInBounds_toArray, List.set_cons_zero, List.set_cons_succ]
    refine wpAnyH_take (i := 2) (oi := { dst := some 39, op := Op.load 24 (Operand.tmp 2), type := 24, pos := "law.go:46", after := #[], guard := none }) (v := ?_) rfl (by kernel_rfl) (by kernel_rfl) (by kernel_rfl) (fun _ _ _ h => h) (Or.inl ⟨by rfl, ?_⟩) (by assumption) ?_
    rotate_left
    · (intro w hSw; (try dsimp only at hSw); go_simp <;> with_reducible rfl)
    try simp only [Act.put, List.setIfInBounds_toArray, List.set_cons_zero, List.set_cons_succ]
    refine wpAnyH_ready (rs := [1]) (by kernel_rfl) (by simp) ?_
    refine AllReadyH.cons (o := { dst := some 38, op := Op.call { callee := Callee.value (Operand.func 25), args := #[Operand.tmp 37], argTypes := #[26] }, type := 9, pos := "law.go:46", after := #[{ on := 0, ground := Ground.data }], guard := none }) rfl (fun K hK => ?_) AllReadyH.nil
    go_simp
    go_at_call 25
    with_reducible refine (H3.out _).mono ?_
    rintro r w' ⟨rfl, hb⟩
    replace hG := hG.trans (hb.mono hG.size)
    clear hb
    refine hK.out _ _ (HKP.out _ hG) (fun hHeld => ?_)
    clear hK K
    try simp only [Act.put, List.setIfInBounds_toArray, List.set_cons_zero, List.set_cons_succ]
    refine wpAnyH_ready (rs := [3]) (by kernel_rfl) (by simp) ?_
    refine AllReadyH.cons (o := { dst := some 40, op := Op.call { callee := Callee.value (Operand.func 26), args := #[Operand.tmp 39], argTypes := #[30] }, type := 9, pos := "law.go:46", after := #[{ on := 2, ground := Ground.data }, { on := 1, ground := Ground.chain }], guard := none }) rfl (fun K hK => ?_) AllReadyH.nil
    go_simp
    go_at_call 26
    with_reducible refine (H4.out _).mono ?_
    rintro r w' ⟨rfl, hb⟩
    replace hG := hG.trans (hb.mono hG.size)
    clear hb
    refine hK.out _ _ (HKP.out _ hG) (fun hHeld => ?_)
    clear hK K
    try simp only [Act.put, List.setIfInBounds_toArray, List.set_cons_zero, List.set_cons_succ]
    refine wpAnyH_take (i := 4) (oi := { dst := some 41, op := Op.binOp BinOp.eql 9 (Operand.tmp 38) (Operand.tmp 40) 9, type := 4, pos := "law.go:46", after := #[{ on := 1, ground := Ground.data }, { on := 3, ground := Ground.data }], guard := none }) (v := ?_) rfl (by kernel_rfl) (by kernel_rfl) (by kernel_rfl) (fun _ _ _ h => h) (Or.inl ⟨by rfl, ?_⟩) (by assumption) ?_
    rotate_left
    · (intro w hSw; (try dsimp only at hSw); go_simp <;> with_reducible rfl)
    try simp only [Act.put, List.setIfInBounds_toArray, List.set_cons_zero, List.set_cons_succ]
    refine wpAnyH_take (i := 5) (oi := { dst := some 42, op := Op.move (Operand.tmp 41), type := 4, pos := "law.go:46", after := #[{ on := 4, ground := Ground.data }, { on := 3, ground := Ground.chain }], guard := none }) (v := ?_) rfl (by kernel_rfl) (by kernel_rfl) (by kernel_rfl) (fun _ _ _ h => h) (Or.inl ⟨by rfl, ?_⟩) (by assumption) ?_
    rotate_left
    · (intro w hSw; (try dsimp only at hSw); go_simp <;> with_reducible rfl)
    try simp only [Act.put, List.setIfInBounds_toArray, List.set_cons_zero, List.set_cons_succ]
    refine wpAnyH_take (i := 6) (oi := { dst := some 43, op := Op.load 26 (Operand.tmp 6), type := 26, pos := "law.go:46", after := #[{ on := 5, ground := Ground.guard }], guard := some (5, true) }) (v := ?_) rfl (by kernel_rfl) (by kernel_rfl) (by kernel_rfl) (fun _ _ _ h => h) (Or.inl ⟨by rfl, ?_⟩) (by assumption) ?_
    rotate_left
    · (intro w hSw; (try dsimp only at hSw); go_simp <;> with_reducible rfl)
    try simp only [Act.put, List.setIfInBounds_toArray, List.set_cons_zero, List.set_cons_succ]
    refine wpAnyH_take (i := 7) (oi := { dst := some 44, op := Op.load 30 (Operand.tmp 8), type := 30, pos := "law.go:46", after := #[{ on := 5, ground := Ground.guard }], guard := some (5, true) }) (v := ?_) rfl (by kernel_rfl) (by kernel_rfl) (by kernel_rfl) (fun _ _ _ h => h) (Or.inl ⟨by rfl, ?_⟩) (by assumption) ?_
    rotate_left
    · (intro w hSw; (try dsimp only at hSw); go_simp <;> with_reducible rfl)
    try simp only [Act.put, List.setIfInBounds_toArray, List.set_cons_zero, List.set_cons_succ]
    refine wpAnyH_take (i := 8) (oi := { dst := some 45, op := Op.binOp BinOp.eql 30 (Operand.tmp 43) (Operand.tmp 44) 30, type := 4, pos := "law.go:46", after := #[{ on := 6, ground := Ground.data }, { on := 7, ground := Ground.data }, { on := 5, ground := Ground.guard }], guard := some (5, true) }) (v := ?_) rfl (by kernel_rfl) (by kernel_rfl) (by kernel_rfl) (fun _ _ _ h => h) (Or.inl ⟨by rfl, ?_⟩) (by assumption) ?_
    rotate_left
    · (intro w hSw; (try dsimp only at hSw); go_simp <;> with_reducible rfl)
    try simp only [Act.put, List.setIfInBounds_toArray, List.set_cons_zero, List.set_cons_succ]
    refine wpAnyH_take (i := 9) (oi := { dst := some 46, op := Op.pick (Operand.tmp 42) (Operand.tmp 45) (Operand.const (Value.bool false)), type := 4, pos := "law.go:46", after := #[{ on := 5, ground := Ground.data }, { on := 8, ground := Ground.data }], guard := none }) (v := ?_) rfl (by kernel_rfl) (by kernel_rfl) (by kernel_rfl) (fun _ _ _ h => h) (Or.inl ⟨by rfl, ?_⟩) (by assumption) ?_
    rotate_left
    · (intro w hSw; (try dsimp only at hSw); go_simp <;> with_reducible rfl)
    try simp only [Act.put, List.setIfInBounds_toArray, List.set_cons_zero, List.set_cons_succ]
    refine wpAnyH_take (i := 10) (oi := { dst := some 47, op := Op.move (Operand.tmp 46), type := 4, pos := "law.go:46", after := #[{ on := 9, ground := Ground.data }, { on := 5, ground := Ground.chain }], guard := none }) (v := ?_) rfl (by kernel_rfl) (by kernel_rfl) (by kernel_rfl) (fun _ _ _ h => h) (Or.inl ⟨by rfl, ?_⟩) (by assumption) ?_
    rotate_left
    · (intro w hSw; (try dsimp only at hSw); go_simp <;> with_reducible rfl)
    try simp only [Act.put, List.setIfInBounds_toArray, List.set_cons_zero, List.set_cons_succ]
    refine wpAnyH_take (i := 11) (oi := { dst := some 48, op := Op.move (Operand.tmp 7), type := 27, pos := "law.go:46", after := #[{ on := 10, ground := Ground.guard }], guard := some (10, true) }) (v := ?_) rfl (by kernel_rfl) (by kernel_rfl) (by kernel_rfl) (fun _ _ _ h => h) (Or.inl ⟨by rfl, ?_⟩) (by assumption) ?_
    rotate_left
    · (intro w hSw; (try dsimp only at hSw); go_simp <;> with_reducible rfl)
    try simp only [Act.put, List.setIfInBounds_toArray, List.set_cons_zero, List.set_cons_succ]
    refine wpAnyH_take (i := 12) (oi := { dst := some 49, op := Op.move (Operand.tmp 9), type := 27, pos := "law.go:46", after := #[{ on := 10, ground := Ground.guard }], guard := some (10, true) }) (v := ?_) rfl (by kernel_rfl) (by kernel_rfl) (by kernel_rfl) (fun _ _ _ h => h) (Or.inl ⟨by rfl, ?_⟩) (by assumption) ?_
    rotate_left
    · (intro w hSw; (try dsimp only at hSw); go_simp <;> with_reducible rfl)
    try simp only [Act.put, List.setIfInBounds_toArray, List.set_cons_zero, List.set_cons_succ]
    refine wpAnyH_take (i := 13) (oi := { dst := some 50, op := Op.binOp BinOp.eql 27 (Operand.tmp 48) (Operand.tmp 49) 27, type := 4, pos := "law.go:46", after := #[{ on := 11, ground := Ground.data }, { on := 12, ground := Ground.data }, { on := 10, ground := Ground.guard }], guard := some (10, true) }) (v := ?_) rfl (by kernel_rfl) (by kernel_rfl) (by kernel_rfl) (fun _ _ _ h => h) (Or.inl ⟨by rfl, ?_⟩) (by assumption) ?_
    rotate_left
    · (intro w hSw; (try dsimp only at hSw); go_simp <;> with_reducible rfl)
    try simp only [Act.put, List.setIfInBounds_toArray, List.set_cons_zero, List.set_cons_succ]
    refine wpAnyH_take (i := 14) (oi := { dst := some 51, op := Op.pick (Operand.tmp 47) (Operand.tmp 50) (Operand.const (Value.bool false)), type := 4, pos := "law.go:46", after := #[{ on := 10, ground := Ground.data }, { on := 13, ground := Ground.data }], guard := none }) (v := ?_) rfl (by kernel_rfl) (by kernel_rfl) (by kernel_rfl) (fun _ _ _ h => h) (Or.inl ⟨by rfl, ?_⟩) (by assumption) ?_
    rotate_left
    · (intro w hSw; (try dsimp only at hSw); go_simp <;> with_reducible rfl)
    try simp only [Act.put, List.setIfInBounds_toArray, List.set_cons_zero, List.set_cons_succ]
    refine wpAnyH_take (i := 15) (oi := { dst := some 52, op := Op.move (Operand.tmp 51), type := 4, pos := "law.go:46", after := #[{ on := 14, ground := Ground.data }, { on := 10, ground := Ground.chain }], guard := none }) (v := ?_) rfl (by kernel_rfl) (by kernel_rfl) (by kernel_rfl) (fun _ _ _ h => h) (Or.inl ⟨by rfl, ?_⟩) (by assumption) ?_
    rotate_left
    · (intro w hSw; (try dsimp only at hSw); go_simp <;> with_reducible rfl)
    try simp only [Act.put, List.setIfInBounds_toArray, List.set_cons_zero, List.set_cons_succ]
    refine wpAnyH_take (i := 16) (oi := { dst := some 53, op := Op.load 26 (Operand.tmp 10), type := 26, pos := "law.go:46", after := #[{ on := 15, ground := Ground.guard }], guard := some (15, true) }) (v := ?_) rfl (by kernel_rfl) (by kernel_rfl) (by kernel_rfl) (fun _ _ _ h => h) (Or.inl ⟨by rfl, ?_⟩) (by assumption) ?_
    rotate_left
    · (intro w hSw; (try dsimp only at hSw); go_simp <;> with_reducible rfl)
    try simp only [Act.put, List.setIfInBounds_toArray, List.set_cons_zero, List.set_cons_succ]
    refine wpAnyH_take (i := 17) (oi := { dst := some 54, op := Op.load 26 (Operand.tmp 5), type := 26, pos := "law.go:46", after := #[{ on := 15, ground := Ground.guard }], guard := some (15, true) }) (v := ?_) rfl (by kernel_rfl) (by kernel_rfl) (by kernel_rfl) (fun _ _ _ h => h) (Or.inl ⟨by rfl, ?_⟩) (by assumption) ?_
    rotate_left
    · (intro w hSw; (try dsimp only at hSw); go_simp <;> with_reducible rfl)
    try simp only [Act.put, List.setIfInBounds_toArray, List.set_cons_zero, List.set_cons_succ]
    refine wpAnyH_take (i := 18) (oi := { dst := some 55, op := Op.binOp BinOp.eql 26 (Operand.tmp 53) (Operand.tmp 54) 26, type := 4, pos := "law.go:46", after := #[{ on := 16, ground := Ground.data }, { on := 17, ground := Ground.data }, { on := 15, ground := Ground.guard }], guard := some (15, true) }) (v := ?_) rfl (by kernel_rfl) (by kernel_rfl) (by kernel_rfl) (fun _ _ _ h => h) (Or.inl ⟨by rfl, ?_⟩) (by assumption) ?_
    rotate_left
    · (intro w hSw; (try dsimp only at hSw); go_simp <;> with_reducible rfl)
    try simp only [Act.put, List.setIfInBounds_toArray, List.set_cons_zero, List.set_cons_succ]
    refine wpAnyH_take (i := 19) (oi := { dst := some 56, op := Op.pick (Operand.tmp 52) (Operand.tmp 55) (Operand.const (Value.bool false)), type := 4, pos := "law.go:46", after := #[{ on := 15, ground := Ground.data }, { on := 18, ground := Ground.data }], guard := none }) (v := ?_) rfl (by kernel_rfl) (by kernel_rfl) (by kernel_rfl) (fun _ _ _ h => h) (Or.inl ⟨by rfl, ?_⟩) (by assumption) ?_
    rotate_left
    · (intro w hSw; (try dsimp only at hSw); go_simp <;> with_reducible rfl)
    try simp only [Act.put, List.setIfInBounds_toArray, List.set_cons_zero, List.set_cons_succ]
    refine wpAnyH_take (i := 20) (oi := { dst := some 57, op := Op.move (Operand.tmp 56), type := 4, pos := "law.go:46", after := #[{ on := 19, ground := Ground.data }, { on := 15, ground := Ground.chain }], guard := none }) (v := ?_) rfl (by kernel_rfl) (by kernel_rfl) (by kernel_rfl) (fun _ _ _ h => h) (Or.inl ⟨by rfl, ?_⟩) (by assumption) ?_
    rotate_left
    · (intro w hSw; (try dsimp only at hSw); go_simp <;> with_reducible rfl)
    try simp only [Act.put, List.setIfInBounds_toArray, List.set_cons_zero, List.set_cons_succ]
    refine wpAnyH_take (i := 21) (oi := { dst := some 58, op := Op.move (Operand.tmp 11), type := 27, pos := "law.go:46", after := #[{ on := 20, ground := Ground.guard }], guard := some (20, true) }) (v := ?_) rfl (by kernel_rfl) (by kernel_rfl) (by kernel_rfl) (fun _ _ _ h => h) (Or.inl ⟨by rfl, ?_⟩) (by assumption) ?_
    rotate_left
    · (intro w hSw; (try dsimp only at hSw); go_simp <;> with_reducible rfl)
    try simp only [Act.put, List.setIfInBounds_toArray, List.set_cons_zero, List.set_cons_succ]
    refine wpAnyH_take (i := 22) (oi := { dst := some 59, op := Op.binOp BinOp.eql 27 (Operand.tmp 58) (Operand.const (Value.int IntKind.i64 0)) 27, type := 4, pos := "law.go:46", after := #[{ on := 21, ground := Ground.data }, { on := 20, ground := Ground.guard }], guard := some (20, true) }) (v := ?_) rfl (by kernel_rfl) (by kernel_rfl) (by kernel_rfl) (fun _ _ _ h => h) (Or.inl ⟨by rfl, ?_⟩) (by assumption) ?_
    rotate_left
    · (intro w hSw; (try dsimp only at hSw); go_simp <;> with_reducible rfl)
    try simp only [Act.put, List.setIfInBounds_toArray, List.set_cons_zero, List.set_cons_succ]
    refine wpAnyH_take (i := 23) (oi := { dst := some 60, op := Op.pick (Operand.tmp 57) (Operand.tmp 59) (Operand.const (Value.bool false)), type := 4, pos := "law.go:46", after := #[{ on := 20, ground := Ground.data }, { on := 22, ground := Ground.data }], guard := none }) (v := ?_) rfl (by kernel_rfl) (by kernel_rfl) (by kernel_rfl) (fun _ _ _ h => h) (Or.inl ⟨by rfl, ?_⟩) (by assumption) ?_
    rotate_left
    · (intro w hSw; (try dsimp only at hSw); go_simp <;> with_reducible rfl)
    try simp only [Act.put, List.setIfInBounds_toArray, List.set_cons_zero, List.set_cons_succ]
    refine wpAnyH_take (i := 24) (oi := { dst := some 61, op := Op.move (Operand.tmp 60), type := 4, pos := "law.go:46", after := #[{ on := 23, ground := Ground.data }, { on := 20, ground := Ground.chain }], guard := none }) (v := ?_) rfl (by kernel_rfl) (by kernel_rfl) (by kernel_rfl) (fun _ _ _ h => h) (Or.inl ⟨by rfl, ?_⟩) (by assumption) ?_
    rotate_left
    · (intro w hSw; (try dsimp only at hSw); go_simp <;> with_reducible rfl)
    try simp only [Act.put, List.setIfInBounds_toArray, List.set_cons_zero, List.set_cons_succ]
    refine wpAnyH_take (i := 25) (oi := { dst := some 62, op := Op.load 26 (Operand.tmp 12), type := 26, pos := "law.go:46", after := #[{ on := 24, ground := Ground.guard }], guard := some (24, true) }) (v := ?_) rfl (by kernel_rfl) (by kernel_rfl) (by kernel_rfl) (fun _ _ _ h => h) (Or.inl ⟨by rfl, ?_⟩) (by assumption) ?_
    rotate_left
    · (intro w hSw; (try dsimp only at hSw); go_simp <;> with_reducible rfl)
    try simp only [Act.put, List.setIfInBounds_toArray, List.set_cons_zero, List.set_cons_succ]
    refine wpAnyH_take (i := 26) (oi := { dst := some 63, op := Op.load 26 (Operand.tmp 5), type := 26, pos := "law.go:46", after := #[{ on := 24, ground := Ground.guard }], guard := some (24, true) }) (v := ?_) rfl (by kernel_rfl) (by kernel_rfl) (by kernel_rfl) (fun _ _ _ h => h) (Or.inl ⟨by rfl, ?_⟩) (by assumption) ?_
    rotate_left
    · (intro w hSw; (try dsimp only at hSw); go_simp <;> with_reducible rfl)
    try simp only [Act.put, List.setIfInBounds_toArray, List.set_cons_zero, List.set_cons_succ]
    refine wpAnyH_take (i := 27) (oi := { dst := some 64, op := Op.binOp BinOp.eql 26 (Operand.tmp 62) (Operand.tmp 63) 26, type := 4, pos := "law.go:46", after := #[{ on := 25, ground := Ground.data }, { on := 26, ground := Ground.data }, { on := 24, ground := Ground.guard }], guard := some (24, true) }) (v := ?_) rfl (by kernel_rfl) (by kernel_rfl) (by kernel_rfl) (fun _ _ _ h => h) (Or.inl ⟨by rfl, ?_⟩) (by assumption) ?_
    rotate_left
    · (intro w hSw; (try dsimp only at hSw); go_simp <;> with_reducible rfl)
    try simp only [Act.put, List.setIfInBounds_toArray, List.set_cons_zero, List.set_cons_succ]
    refine wpAnyH_take (i := 28) (oi := { dst := some 65, op := Op.pick (Operand.tmp 61) (Operand.tmp 64) (Operand.const (Value.bool false)), type := 4, pos := "law.go:46", after := #[{ on := 24, ground := Ground.data }, { on := 27, ground := Ground.data }], guard := none }) (v := ?_) rfl (by kernel_rfl) (by kernel_rfl) (by kernel_rfl) (fun _ _ _ h => h) (Or.inl ⟨by rfl, ?_⟩) (by assumption) ?_
    rotate_left
    · (intro w hSw; (try dsimp only at hSw); go_simp <;> with_reducible rfl)
    try simp only [Act.put, List.setIfInBounds_toArray, List.set_cons_zero, List.set_cons_succ]
    refine wpAnyH_take (i := 29) (oi := { dst := some 66, op := Op.move (Operand.tmp 65), type := 4, pos := "law.go:46", after := #[{ on := 28, ground := Ground.data }, { on := 24, ground := Ground.chain }], guard := none }) (v := ?_) rfl (by kernel_rfl) (by kernel_rfl) (by kernel_rfl) (fun _ _ _ h => h) (Or.inl ⟨by rfl, ?_⟩) (by assumption) ?_
    rotate_left
    · (intro w hSw; (try dsimp only at hSw); go_simp <;> with_reducible rfl)
    try simp only [Act.put, List.setIfInBounds_toArray, List.set_cons_zero, List.set_cons_succ]
    refine wpAnyH_take (i := 30) (oi := { dst := some 67, op := Op.move (Operand.tmp 13), type := 27, pos := "law.go:46", after := #[{ on := 29, ground := Ground.guard }], guard := some (29, true) }) (v := ?_) rfl (by kernel_rfl) (by kernel_rfl) (by kernel_rfl) (fun _ _ _ h => h) (Or.inl ⟨by rfl, ?_⟩) (by assumption) ?_
    rotate_left
    · (intro w hSw; (try dsimp only at hSw); go_simp <;> with_reducible rfl)
    try simp only [Act.put, List.setIfInBounds_toArray, List.set_cons_zero, List.set_cons_succ]
    refine wpAnyH_take (i := 31) (oi := { dst := some 68, op := Op.binOp BinOp.eql 27 (Operand.tmp 67) (Operand.const (Value.int IntKind.i64 0)) 27, type := 4, pos := "law.go:46", after := #[{ on := 30, ground := Ground.data }, { on := 29, ground := Ground.guard }], guard := some (29, true) }) (v := ?_) rfl (by kernel_rfl) (by kernel_rfl) (by kernel_rfl) (fun _ _ _ h => h) (Or.inl ⟨by rfl, ?_⟩) (by assumption) ?_
    rotate_left
    · (intro w hSw; (try dsimp only at hSw); go_simp <;> with_reducible rfl)
    try simp only [Act.put, List.setIfInBounds_toArray, List.set_cons_zero, List.set_cons_succ]
    refine wpAnyH_take (i := 32) (oi := { dst := some 69, op := Op.pick (Operand.tmp 66) (Operand.tmp 68) (Operand.const (Value.bool false)), type := 4, pos := "law.go:46", after := #[{ on := 29, ground := Ground.data }, { on := 31, ground := Ground.data }], guard := none }) (v := ?_) rfl (by kernel_rfl) (by kernel_rfl) (by kernel_rfl) (fun _ _ _ h => h) (Or.inl ⟨by rfl, ?_⟩) (by assumption) ?_
    rotate_left
    · (intro w hSw; (try dsimp only at hSw); go_simp <;> with_reducible rfl)
    try simp only [Act.put, List.setIfInBounds_toArray, List.set_cons_zero, List.set_cons_succ]
    refine wpAnyH_take (i := 33) (oi := { dst := some 70, op := Op.move (Operand.tmp 69), type := 4, pos := "law.go:46", after := #[{ on := 32, ground := Ground.data }, { on := 29, ground := Ground.chain }], guard := none }) (v := ?_) rfl (by kernel_rfl) (by kernel_rfl) (by kernel_rfl) (fun _ _ _ h => h) (Or.inl ⟨by rfl, ?_⟩) (by assumption) ?_
    rotate_left
    · (intro w hSw; (try dsimp only at hSw); go_simp <;> with_reducible rfl)
    try simp only [Act.put, List.setIfInBounds_toArray, List.set_cons_zero, List.set_cons_succ]
    refine wpAnyH_take (i := 34) (oi := { dst := some 71, op := Op.move (Operand.tmp 9), type := 27, pos := "law.go:46", after := #[{ on := 33, ground := Ground.guard }], guard := some (33, true) }) (v := ?_) rfl (by kernel_rfl) (by kernel_rfl) (by kernel_rfl) (fun _ _ _ h => h) (Or.inl ⟨by rfl, ?_⟩) (by assumption) ?_
    rotate_left
    · (intro w hSw; (try dsimp only at hSw); go_simp <;> with_reducible rfl)
    try simp only [Act.put, List.setIfInBounds_toArray, List.set_cons_zero, List.set_cons_succ]
    refine wpAnyH_take (i := 35) (oi := { dst := some 72, op := Op.binOp BinOp.neq 27 (Operand.tmp 71) (Operand.const (Value.int IntKind.i64 0)) 27, type := 4, pos := "law.go:46", after := #[{ on := 34, ground := Ground.data }, { on := 33, ground := Ground.guard }], guard := some (33, true) }) (v := ?_) rfl (by kernel_rfl) (by kernel_rfl) (by kernel_rfl) (fun _ _ _ h => h) (Or.inl ⟨by rfl, ?_⟩) (by assumption) ?_
    rotate_left
    · (intro w hSw; (try dsimp only at hSw); go_simp <;> with_reducible rfl)
    try simp only [Act.put, List.setIfInBounds_toArray, List.set_cons_zero, List.set_cons_succ]
    refine wpAnyH_take (i := 36) (oi := { dst := some 73, op := Op.move (Operand.tmp 72), type := 4, pos := "law.go:46", after := #[{ on := 35, ground := Ground.data }, { on := 33, ground := Ground.chain }, { on := 33, ground := Ground.guard }], guard := some (33, true) }) (v := ?_) rfl (by kernel_rfl) (by kernel_rfl) (by kernel_rfl) (fun _ _ _ h => h) (Or.inl ⟨by rfl, ?_⟩) (by assumption) ?_
    rotate_left
    · (intro w hSw; (try dsimp only at hSw); go_simp <;> with_reducible rfl)
    try simp only [Act.put, List.setIfInBounds_toArray, List.set_cons_zero, List.set_cons_succ]
    refine wpAnyH_take (i := 37) (oi := { dst := some 74, op := Op.load 26 (Operand.tmp 6), type := 26, pos := "law.go:46", after := #[{ on := 36, ground := Ground.guard }], guard := some (36, false) }) (v := undef) rfl (by kernel_rfl) (by kernel_rfl) (by kernel_rfl) (fun _ _ _ h => h) (Or.inr ⟨by rfl, rfl⟩) (by assumption) ?_
    try simp only [Act.put, List.setIfInBounds_toArray, List.set_cons_zero, List.set_cons_succ]
    refine wpAnyH_take (i := 39) (oi := { dst := some 76, op := Op.move (Operand.tmp 1), type := 9, pos := "law.go:46", after := #[{ on := 36, ground := Ground.guard }], guard := some (36, false) }) (v := undef) rfl (by kernel_rfl) (by kernel_rfl) (by kernel_rfl) (fun _ _ _ h => h) (Or.inr ⟨by rfl, rfl⟩) (by assumption) ?_
    try simp only [Act.put, List.setIfInBounds_toArray, List.set_cons_zero, List.set_cons_succ]
    refine wpAnyH_take (i := 38) (oi := { dst := some 75, op := Op.call { callee := Callee.value (Operand.func 25), args := #[Operand.tmp 74], argTypes := #[26] }, type := 9, pos := "law.go:46", after := #[{ on := 37, ground := Ground.data }, { on := 36, ground := Ground.chain }, { on := 36, ground := Ground.guard }], guard := some (36, false) }) (v := undef) rfl (by kernel_rfl) (by kernel_rfl) (by kernel_rfl) (fun _ _ _ h => h) (Or.inr ⟨by rfl, rfl⟩) (by assumption) ?_
    try simp only [Act.put, List.setIfInBounds_toArray, List.set_cons_zero, List.set_cons_succ]
    refine wpAnyH_take (i := 40) (oi := { dst := some 77, op := Op.binOp BinOp.eql 9 (Operand.tmp 75) (Operand.tmp 76) 9, type := 4, pos := "law.go:46", after := #[{ on := 38, ground := Ground.data }, { on := 39, ground := Ground.data }, { on := 36, ground := Ground.guard }], guard := some (36, false) }) (v := undef) rfl (by kernel_rfl) (by kernel_rfl) (by kernel_rfl) (fun _ _ _ h => h) (Or.inr ⟨by rfl, rfl⟩) (by assumption) ?_
    try simp only [Act.put, List.setIfInBounds_toArray, List.set_cons_zero, List.set_cons_succ]
    refine wpAnyH_take (i := 41) (oi := { dst := some 78, op := Op.pick (Operand.tmp 73) (Operand.const (Value.bool true)) (Operand.tmp 77), type := 4, pos := "law.go:46", after := #[{ on := 36, ground := Ground.data }, { on := 40, ground := Ground.data }, { on := 33, ground := Ground.guard }], guard := some (33, true) }) (v := ?_) rfl (by kernel_rfl) (by kernel_rfl) (by kernel_rfl) (fun _ _ _ h => h) (Or.inl ⟨by rfl, ?_⟩) (by assumption) ?_
    rotate_left
    · (intro w hSw; (try dsimp only at hSw); go_simp <;> with_reducible rfl)
    try simp only [Act.put, List.setIfInBounds_toArray, List.set_cons_zero, List.set_cons_succ]
    refine wpAnyH_take (i := 42) (oi := { dst := some 79, op := Op.pick (Operand.tmp 70) (Operand.tmp 78) (Operand.const (Value.bool false)), type := 4, pos := "law.go:46", after := #[{ on := 33, ground := Ground.data }, { on := 41, ground := Ground.data }], guard := none }) (v := ?_) rfl (by kernel_rfl) (by kernel_rfl) (by kernel_rfl) (fun _ _ _ h => h) (Or.inl ⟨by rfl, ?_⟩) (by assumption) ?_
    rotate_left
    · (intro w hSw; (try dsimp only at hSw); go_simp <;> with_reducible rfl)
    try simp only [Act.put, List.setIfInBounds_toArray, List.set_cons_zero, List.set_cons_succ]
    refine wpAnyH_take (i := 43) (oi := { dst := some 80, op := Op.move (Operand.tmp 79), type := 4, pos := "law.go:46", after := #[{ on := 42, ground := Ground.data }, { on := 38, ground := Ground.chain }], guard := none }) (v := ?_) rfl (by kernel_rfl) (by kernel_rfl) (by kernel_rfl) (fun _ _ _ h => h) (Or.inl ⟨by rfl, ?_⟩) (by assumption) ?_
    rotate_left
    · (intro w hSw; (try dsimp only at hSw); go_simp <;> with_reducible rfl)
    try simp only [Act.put, List.setIfInBounds_toArray, List.set_cons_zero, List.set_cons_succ]
    refine wpAnyH_ready (rs := [44]) (by kernel_rfl) (by simp) ?_
    refine AllReadyH.cons (o := { dst := some 81, op := Op.call { callee := Callee.value (Operand.func 6), args := #[], argTypes := #[] }, type := 4, pos := "law.go:46", after := #[{ on := 43, ground := Ground.chain }, { on := 43, ground := Ground.guard }], guard := some (43, true) }) rfl (fun K hK => ?_) AllReadyH.nil
    go_simp
    go_at_call 6
    with_reducible refine (H8.out _).mono ?_
    rintro r w' ⟨rfl, hb⟩
    replace hG := hG.trans (hb.mono hG.size)
    clear hb
    refine hK.out _ _ (HKP.out _ hG) (fun hHeld => ?_)
    clear hK K
    try simp only [Act.put, List.setIfInBounds_toArray, List.set_cons_zero, List.set_cons_succ]
    refine wpAnyH_take (i := 45) (oi := { dst := some 82, op := Op.pick (Operand.tmp 80) (Operand.tmp 81) (Operand.const (Value.bool false)), type := 4, pos := "law.go:46", after := #[{ on := 43, ground := Ground.data }, { on := 44, ground := Ground.data }], guard := none }) (v := ?_) rfl (by kernel_rfl) (by kernel_rfl) (by kernel_rfl) (fun _ _ _ h => h) (Or.inl ⟨by rfl, ?_⟩) (by assumption) ?_
    rotate_left
    · (intro w hSw; (try dsimp only at hSw); go_simp <;> with_reducible rfl)
    try simp only [Act.put, List.setIfInBounds_toArray, List.set_cons_zero, List.set_cons_succ]
    refine wpAnyH_take (i := 46) (oi := { dst := some 4, op := Op.assign (Operand.tmp 82), type := 4, pos := "law.go:46", after := #[{ on := 45, ground := Ground.data }, { on := 44, ground := Ground.chain }, { on := 0, ground := Ground.phase }, { on := 1, ground := Ground.phase }, { on := 2, ground := Ground.phase }, { on := 3, ground := Ground.phase }, { on := 4, ground := Ground.phase }, { on := 5, ground := Ground.phase }, { on := 6, ground := Ground.phase }, { on := 7, ground := Ground.phase }, { on := 8, ground := Ground.phase }, { on := 9, ground := Ground.phase }, { on := 10, ground := Ground.phase }, { on := 11, ground := Ground.phase }, { on := 12, ground := Ground.phase }, { on := 13, ground := Ground.phase }, { on := 14, ground := Ground.phase }, { on := 15, ground := Ground.phase }, { on := 16, ground := Ground.phase }, { on := 17, ground := Ground.phase }, { on := 18, ground := Ground.phase }, { on := 19, ground := Ground.phase }, { on := 20, ground := Ground.phase }, { on := 21, ground := Ground.phase }, { on := 22, ground := Ground.phase }, { on := 23, ground := Ground.phase }, { on := 24, ground := Ground.phase }, { on := 25, ground := Ground.phase }, { on := 26, ground := Ground.phase }, { on := 27, ground := Ground.phase }, { on := 28, ground := Ground.phase }, { on := 29, ground := Ground.phase }, { on := 30, ground := Ground.phase }, { on := 31, ground := Ground.phase }, { on := 32, ground := Ground.phase }, { on := 33, ground := Ground.phase }, { on := 34, ground := Ground.phase }, { on := 35, ground := Ground.phase }, { on := 36, ground := Ground.phase }, { on := 37, ground := Ground.phase }, { on := 38, ground := Ground.phase }, { on := 39, ground := Ground.phase }, { on := 40, ground := Ground.phase }, { on := 41, ground := Ground.phase }, { on := 42, ground := Ground.phase }, { on := 43, ground := Ground.phase }, { on := 44, ground := Ground.phase }, { on := 45, ground := Ground.phase }], guard := none }) (v := ?_) rfl (by kernel_rfl) (by kernel_rfl) (by kernel_rfl) (fun _ _ _ h => h) (Or.inl ⟨by rfl, ?_⟩) (by assumption) ?_
    rotate_left
    · (intro w hSw; (try dsimp only at hSw); go_simp <;> with_reducible rfl)
    try simp only [Act.put, List.setIfInBounds_toArray, List.set_cons_zero, List.set_cons_succ]
    refine wpAnyH_done (by kernel_rfl) ?_ _
    have hF := HB0.out.trans (Below.mono ⟨hG.os, hG.tape, hG.output, hG.size, hG.block⟩ HB0.out.size)
    have HF := Lib.hid hF
    clear hF hG
    go_wp2
    refine bodyPost_ret (results_tmp rfl _ _ _) rfl ?_
    exact ⟨rfl, HF.out⟩
end Go.Proofs.Ytmkjfocdgceamaa

/-
  Texts put together: J8, J2, J9, JA, J4, JB.
-/
import Derived.Test.YtodcdefmoliegaaDoorMJ7
import Derived.Test.YtodcdefmoliegaaDoorMT4
import Derived.Test.YtodcdefmoliegaaDoorMJ0
import Derived.Deep.RegionHeld3
import Derived.Deep.DeepCutAuto
import Derived.ProofKit
import Derived.OpenShut
import Derived.ChangeOld
import Derived.Below
import Derived.Deep.SlicePairs
import Derived.Deep.Grids
/-
  What a save of a map leaves on a disk, and what is loaded then.
-/
namespace Go.Proofs.YtodcdefmoliegaaDoor
open Go.RowKit
set_option linter.unusedVariables false
set_option linter.unusedSimpArgs false

theorem numN_enc8 (n : Nat) (h : n < 18446744073709551616) : numN (enc n 8) = n := by rw [enc_num, Nat.mod_eq_of_lt (by omega)]
theorem take_left {xs ys : List UInt8} {n : Nat} (h : xs.length = n) : (xs ++ ys).take n = xs := by
  rw [List.take_append_of_le_length (by omega), List.take_of_length_le (by omega)]
theorem drop_left {xs ys : List UInt8} {n : Nat} (h : xs.length = n) : (xs ++ ys).drop n = ys := by
  rw [List.drop_append_of_le_length (by omega), List.drop_of_length_le (by omega)]; rfl
theorem decP_text {m : MT} (h : m.ok) : decP m.text = m := by
  obtain ⟨a, b, c, d, e⟩ := m
  obtain ⟨ha, hb, hc, hd, he⟩ := h
  dsimp only at ha hb hc hd he
  have t16 : (mapT a b c d e).take 16 = setT a b := by unfold mapT; rw [List.append_assoc]; exact take_left (setT_length a b)
  have t32 : ((mapT a b c d e).take 32).drop 16 = setT c d := by
    unfold mapT
    rw [take_left (by simp [setT_length])]
    exact drop_left (setT_length a b)
  have d32 : (mapT a b c d e).drop 32 = enc e 8 := by unfold mapT; exact drop_left (by simp [setT_length])
  have f : ∀ x y, x < 18446744073709551616 → y < 18446744073709551616 → numN ((setT x y).take 8) = x ∧ numN ((setT x y).drop 8) = y := fun x y hx hy => by
    unfold setT
    rw [take_left (enc_length x 8), drop_left (enc_length x 8), numN_enc8 x hx, numN_enc8 y hy]
    exact ⟨rfl, rfl⟩
  show MT.mk _ _ _ _ _ = _
  unfold dA dB dC dD dE MT.text
  dsimp only
  rw [t16, t32, d32, (f a b ha hb).1, (f a b ha hb).2, (f c d hc hd).1, (f c d hc hd).2, List.take_of_length_le (by rw [enc_length]; omega), numN_enc8 e he]

theorem dopen_map {m : MT} (h : m.ok) : dopenP (mapB m).data.toList = (m, 0) := by
  have ho : openP 5 (mapB m).data.toList = (m.text, 0) := make_open (mapP_make m)
  unfold dopenP
  rw [ho]
  dsimp only
  rw [if_neg (by simp), if_neg (by unfold MT.text; rw [mapT_length]; simp), decP_text h]

theorem has5 (L : List ByteArray) (W left off did) (h : 5 < L.length) : (DS.mk L W left off did).has 5 := ⟨by omega, by dsimp only; omega⟩
theorem dload_flat (L : List ByteArray) (left did) (h : 5 < L.length) : dloadP ⟨L, [], left, false, did⟩ = dopenP (lAt L 5).data.toList := by
  have hr : (DS.mk L [] left false did).read 5 = (lAt L 5, 0) := by
    unfold DS.read
    rw [if_neg (by simp), if_pos (has5 _ _ _ _ _ h)]
    simp [look]
  unfold dloadP
  rw [hr]
  simp
theorem dload_set {L : List ByteArray} {m : MT} (left did) (h : 5 < L.length) (hm : m.ok) : dloadP ⟨L.set 5 (mapB m), [], left, false, did⟩ = (m, 0) := by
  rw [dload_flat _ _ _ (by rw [List.length_set]; exact h)]
  have e : lAt (L.set 5 (mapB m)) 5 = mapB m := by unfold lAt; rw [List.getElem?_set_self (by omega)]; rfl
  rw [e]
  exact dopen_map hm

theorem dsave_whole (L : List ByteArray) (left : Int) (did : Nat) (m : MT) (hl : left = -1 ∨ left = 2) (hL : 5 < L.length) :
    dsaveP ⟨L, [], left, false, did⟩ m = (0, ⟨L.set 5 (mapB m), [], if left = 2 then 0 else -1, false, did + 2⟩) := by
  unfold dsaveP
  have hw : (DS.mk L [] left false did).write 5 (mapB m) = (0, ⟨L, [(5, mapB m)], if left = 2 then 1 else -1, false, did + 1⟩) := by
    unfold DS.write
    rw [if_neg (by simp), if_pos (has5 _ _ _ _ _ hL), if_pos (mapB_size m)]
    rcases hl with rfl | rfl <;> simp [DS.burnt]
  rw [hw, if_neg (by simp)]
  unfold DS.flush
  rcases hl with rfl | rfl <;> simp [DS.burnt, appW, wAt]
theorem dsave_none (L : List ByteArray) (did : Nat) (m : MT) (hL : 5 < L.length) : dsaveP ⟨L, [], 0, false, did⟩ m = (5, ⟨L, [], -1, true, did⟩) := by
  unfold dsaveP
  have hw : (DS.mk L [] 0 false did).write 5 (mapB m) = (5, ⟨L, [], -1, true, did⟩) := by
    unfold DS.write
    rw [if_neg (by simp), if_pos (has5 _ _ _ _ _ hL), if_pos (mapB_size m)]
    simp [DS.burnt]
  rw [hw, if_pos (by simp)]
theorem dsave_half (L : List ByteArray) (did : Nat) (m : MT) (hL : 5 < L.length) : dsaveP ⟨L, [], 1, false, did⟩ m = (5, ⟨L, [(5, mapB m)], -1, true, did + 1⟩) := by
  unfold dsaveP
  have hw : (DS.mk L [] 1 false did).write 5 (mapB m) = (0, ⟨L, [(5, mapB m)], 0, false, did + 1⟩) := by
    unfold DS.write
    rw [if_neg (by simp), if_pos (has5 _ _ _ _ _ hL), if_pos (mapB_size m)]
    simp [DS.burnt]
  rw [hw, if_neg (by simp)]
  unfold DS.flush
  simp [DS.burnt]

def z6 : List ByteArray := List.replicate 6 (secOf 0)
theorem ds0_six : ds0 6 = ⟨z6, [], -1, false, 0⟩ := rfl

/-- What there is behind a save that may go down. -/
theorem dkeeps_math (m1 m2 : MT) (f : Int) (K : List Bool) (hm1 : m1.ok) (hm2 : m2.ok) (h0 : 0 ≤ f) (h2 : f ≤ 2) :
    ∃ D1 r D3 D5 c, dsaveP ⟨z6, [], -1, false, 0⟩ m1 = (0, D1) ∧ (D1.fuse f).ok 1000 ∧ dsaveP (D1.fuse f) m2 = (r, D3) ∧ D3.ok 1000 ∧ (D3.crash K).up = (0, D5) ∧ D5.ok 1000 ∧ dloadP D5 = (c, 0) ∧
      ((r == 0) = (f == 2)) ∧ (c = m2 ∨ ((r == 0) = false ∧ c = m1)) := by
  have e1 := dsave_whole z6 (-1) 0 m1 (.inl rfl) (by decide)
  have l1 := fun left did => dload_set (L := z6) (m := m1) left did (by decide) hm1
  obtain ⟨L1, hL1⟩ : ∃ L, z6.set 5 (mapB m1) = L := ⟨_, rfl⟩
  have hl : L1.length = 6 := by rw [← hL1]; simp [z6]
  rw [hL1] at e1
  simp only [hL1] at l1
  change dsaveP ⟨z6, [], -1, false, 0⟩ m1 = (0, ⟨L1, [], -1, false, 2⟩) at e1
  have l2 := fun left did => dload_set (L := L1) (m := m2) left did (by omega) hm2
  have hf : (DS.mk L1 [] (-1) false 2).fuse f = ⟨L1, [], f, false, 2⟩ := by unfold DS.fuse; rw [if_pos h0]
  have hok : (DS.mk L1 [] f false 2).ok 1000 := flat_ok L1 f false 2 (by omega) (by omega) (by omega) (by omega)
  have hc : f = 0 ∨ f = 1 ∨ f = 2 := by omega
  rcases hc with rfl | rfl | rfl
  · have e2 := dsave_none L1 2 m2 (by omega)
    refine ⟨_, 5, ⟨L1, [], -1, true, 2⟩, ⟨L1, [], -1, false, 2⟩, m1, e1, ?_, ?_, flat_ok L1 (-1) true 2 (by omega) (by omega) (by omega) (by omega), ?_, flat_ok L1 (-1) false 2 (by omega) (by omega) (by omega) (by omega), l1 _ _, rfl, .inr ⟨rfl, rfl⟩⟩
    · rw [hf]; exact hok
    · rw [hf]; exact e2
    · simp [DS.crash, DS.up, appK]
  · have e2 := dsave_half L1 2 m2 (by omega)
    have hokh : (DS.mk L1 [(5, mapB m2)] (-1) true 3).ok 1000 := by
      refine ⟨fun i hi => ?_, by dsimp only; omega, by dsimp only; omega, by simp, by dsimp only; omega, by dsimp only; omega⟩
      obtain rfl : i = 0 := by simpa using hi
      exact has5 _ _ _ _ _ (by omega)
    by_cases hk : K[0]?.getD false = true
    · refine ⟨_, 5, _, ⟨L1.set 5 (mapB m2), [], -1, false, 3⟩, m2, e1, ?_, ?_, hokh, ?_, flat_ok _ (-1) false 3 (by omega) (by omega) (by omega) (by rw [List.length_set]; omega), l2 _ _, rfl, .inl rfl⟩
      · rw [hf]; exact hok
      · rw [hf]; exact e2
      · have e : (DS.mk L1 [(5, mapB m2)] (-1) true 3).crash K = ⟨L1.set 5 (mapB m2), [], -1, true, 3⟩ := by
          have e3 : appK L1 [(5, mapB m2)] K 1 = L1.set 5 (mapB m2) := by
            show (if K[0]?.getD false = true then L1.set _ _ else L1) = _
            rw [if_pos hk]
            rfl
          unfold DS.crash
          exact congrArg (fun l => DS.mk l [] (-1) true 3) e3
        rw [e]
        rfl
    · refine ⟨_, 5, _, ⟨L1, [], -1, false, 3⟩, m1, e1, ?_, ?_, hokh, ?_, flat_ok _ (-1) false 3 (by omega) (by omega) (by omega) (by omega), l1 _ _, rfl, .inr ⟨rfl, rfl⟩⟩
      · rw [hf]; exact hok
      · rw [hf]; exact e2
      · have e : (DS.mk L1 [(5, mapB m2)] (-1) true 3).crash K = ⟨L1, [], -1, true, 3⟩ := by
          have e3 : appK L1 [(5, mapB m2)] K 1 = L1 := by
            show (if K[0]?.getD false = true then L1.set _ _ else L1) = _
            rw [if_neg hk]
          unfold DS.crash
          exact congrArg (fun l => DS.mk l [] (-1) true 3) e3
        rw [e]
        rfl
  · have e2 := dsave_whole L1 2 2 m2 (.inr rfl) (by omega)
    rw [if_pos rfl] at e2
    refine ⟨_, 0, ⟨L1.set 5 (mapB m2), [], 0, false, 4⟩, ⟨L1.set 5 (mapB m2), [], -1, false, 4⟩, m2, e1, ?_, ?_, flat_ok _ 0 false 4 (by omega) (by omega) (by omega) (by rw [List.length_set]; omega), ?_, flat_ok _ (-1) false 4 (by omega) (by omega) (by omega) (by rw [List.length_set]; omega), l2 _ _, rfl, .inl rfl⟩
    · rw [hf]; exact hok
    · rw [hf]; exact e2
    · simp [DS.crash, DS.up, appK]

theorem st_dload {w0 w : World} {p : Nat} {S : DS} (h : St w0 w p S) (hok : S.ok 1000) :
    Calls Tryd.prog 11 #[.pointer (some ⟨p, 0, none⟩)] w fun e w' => e = .returned (dloadV (dloadP S)) ∧ St w0 w' p S := by
  have h' := h
  obtain ⟨v1, v2, hp, hb⟩ := h
  refine (dload_any _ p v1 v2 S w hp (by have := hok.few; have := hok.did; omega) (by have := hok.len; omega)).mono ?_
  rintro e w' ⟨rfl, hb'⟩
  exact ⟨rfl, h'.below hb'⟩
theorem st_dsave {w0 w : World} {p : Nat} {S : DS} (m : MT) (h : St w0 w p S) (hok : S.ok 1000) (hm : m.ok) :
    Calls Tryd.prog 6 #[.pointer (some ⟨p, 0, none⟩), m.val] w fun e w' => e = .returned (.int .i64 (dsaveP S m).1) ∧ St w0 w' p (dsaveP S m).2 := by
  obtain ⟨v1, v2, hp, hb⟩ := h
  refine (dsave_any _ p v1 v2 S m w hp hb.size 1000 hok (by omega) hm).mono ?_
  rintro e w' ⟨rfl, hpp⟩
  exact ⟨rfl, St.pp hp hb hpp⟩
end Go.Proofs.YtodcdefmoliegaaDoor
/-
  The walk of DirtyTurns; its fixed calls.
-/
namespace Go.Proofs.YtodcdefmoliegaaDoor
open Go.RowKit
set_option linter.unusedVariables false
set_option linter.unusedSimpArgs false

theorem of_fix34 : ofV [3, 4] = .tuple #[setV 24 0, .int .i64 0] := by
  have h : ofP [3, 4] = ((24, 0), 0) := by decide +kernel
  unfold ofV; rw [h]; rfl
theorem mark_fix3 : markV 0 0 0 0 0 3 = .tuple #[mapV 8 0 0 0 0, .int .i64 0] := by
  unfold markV markP
  rw [if_pos (by decide)]
  rw [show 0 ||| oneA 3 = 8 from by decide +kernel, show 0 ||| oneB 3 = 0 from by decide +kernel]
  rfl
theorem mark_fix4 : markV 0 0 8 0 1 4 = .tuple #[mapV 16 0 8 0 1, .int .i64 0] := by
  unfold markV markP
  rw [if_pos (by decide)]
  rw [show 0 ||| oneA 4 = 16 from by decide +kernel, show 0 ||| oneB 4 = 0 from by decide +kernel]
  rfl
theorem build_zero (w : World) : (Instr.build 38 #[]).run Tryd.prog w = .ok (mapV 0 0 0 0 0) w := run_build w 38 _ _ (by kernel_rfl)
theorem build_now (a b : Int) (w : World) : (Instr.build 38 #[(0, .agg #[.int .u64 a, .int .u64 b])]).run Tryd.prog w = .ok (.agg #[.int .u64 a, .int .u64 b, .int .u64 0, .int .u64 0, .int .u64 0]) w := run_build w 38 _ _ (by kernel_rfl)

theorem field_frozen (a b c d e : Int) (w : World) : (Instr.field 38 (.agg #[.int .u64 a, .int .u64 b, .int .u64 c, .int .u64 d, .int .u64 e]) 1).run Tryd.prog w = .ok (.agg #[.int .u64 c, .int .u64 d]) w := by
  have a4 := Tryd.isAgg36
  have z4 := Tryd.sizeOf36
  unfold Instr.field
  go_simp
  rfl

set_option maxRecDepth 20000 in
set_option maxHeartbeats 4000000 in
theorem dknown_any (w : World) :
    Calls Tryd.prog 4 #[] w fun e w' => e = .returned (.bool true) ∧ Below w.heap.size w w' := by
  have h1 := fun w => mark_any 0 0 0 0 0 3 w (by omega) (by omega)
  rw [mark_fix3] at h1
  have h2 := fun w => freeze_any 8 0 0 0 0 1 w
  have h3 := fun w => mark_any 0 0 8 0 1 4 w (by omega) (by omega)
  rw [mark_fix4] at h3
  have h4 := fun (w : World) => of_any (.slice (some ⟨w.heap.size, 0, none⟩) 2 2) [3, 4] (w.alloc (.cells #[.int .i64 3, .int .i64 4] 3)) (li_new w [3, 4] (by simp))
  rw [of_fix34] at h4
  have h5 := fun w => merge_any 16 0 8 0 1 w (by omega) (by omega) (by omega) (by omega)
  have h6 := fun w => close_any 16 0 8 0 1 w
  simp only [show (16 : Nat) ||| 8 = 24 from by decide, show (0 : Nat) ||| 0 = 0 from by decide] at h5
  have q1 := fun w => eql_map 24 0 0 0 0 24 0 0 0 0 w
  have q2 := fun op x y w => guard_map op x y 24 0 0 0 0 24 0 0 0 0 w
  have qf := fun w => field_frozen 16 0 0 0 0 w
  have q3 := fun w => eql_set 0 0 0 0 w
  have q4 := fun op x y w => guard_set op x y 0 0 0 0 w
  rw [show decide (((24 : Nat) = 24 ∧ (0 : Nat) = 0) ∧ ((0 : Nat) = 0 ∧ (0 : Nat) = 0) ∧ (0 : Nat) = 0) = true from by decide] at q1
  rw [show decide ((0 : Nat) = 0 ∧ (0 : Nat) = 0) = true from by decide] at q3
  unfold mapV setV at *
  simp only [Int.natCast_zero, Int.cast_ofNat_Int, Int.natCast_one] at *
  have H1 := Lib.hid h1
  have H2 := Lib.hid h2
  have H3 := Lib.hid h3
  have H4 := Lib.hid h4
  have H5 := Lib.hid h5
  have H6 := Lib.hid h6
  clear h1 h2 h3 h4 h5 h6
  go_enter Tryd.func4, Tryd.ntmps4
  go_wp2_with fail
  refine (H1.out _).mono ?_
  rintro r w1 ⟨rfl, hb1⟩
  have b1 := Box5.new w1 38 (.int .u64 8) (.int .u64 0) (.int .u64 0) (.int .u64 0) (.int .u64 0)
  have hB1 : Below w.heap.size w (w1.alloc (.cells #[.int .u64 8, .int .u64 0, .int .u64 0, .int .u64 0, .int .u64 0] 38)) := hb1.alloc hb1.size _
  have z1 : w.heap.size ≤ w1.heap.size := hb1.size
  obtain ⟨p1, hp1⟩ : ∃ p, p = w1.heap.size := ⟨_, rfl⟩
  rw [← hp1] at b1 z1
  obtain ⟨W1, hW1⟩ : ∃ W, W = w1.alloc (.cells #[.int .u64 8, .int .u64 0, .int .u64 0, .int .u64 0, .int .u64 0] 38) := ⟨_, rfl⟩
  rw [← hW1] at b1 hB1
  have k0 := b1.c0
  have k1 := b1.c1
  have k2 := b1.c2
  have k3 := b1.c3
  have k4 := b1.c4
  have HB1 := Lib.hid hB1
  have HX1 := Lib.hid b1
  clear hb1 hB1 b1
  go_wp2_with fail
  rw [← hp1, ← hW1]
  clear hW1 hp1
  go_wp2_with fail
  refine (H2.out _).mono ?_
  rintro r w2 ⟨rfl, hb2⟩
  have hB2 := HB1.out.trans (hb2.mono HB1.out.size)
  have HB2 := Lib.hid hB2
  clear hb2 hB2 k0 k1 k2 k3 k4
  go_wp2_with fail
  refine (H3.out _).mono ?_
  rintro r w3 ⟨rfl, hb3⟩
  have hB3 := HB2.out.trans (hb3.mono HB2.out.size)
  have b3 := Box5.new w3 38 (.int .u64 16) (.int .u64 0) (.int .u64 8) (.int .u64 0) (.int .u64 1)
  have hB4 : Below w.heap.size w (w3.alloc (.cells #[.int .u64 16, .int .u64 0, .int .u64 8, .int .u64 0, .int .u64 1] 38)) := hB3.alloc hB3.size _
  have z3 : w.heap.size ≤ w3.heap.size := hB3.size
  obtain ⟨p3, hp3⟩ : ∃ p, p = w3.heap.size := ⟨_, rfl⟩
  have hz3 : (w3.alloc (.cells #[.int .u64 16, .int .u64 0, .int .u64 8, .int .u64 0, .int .u64 1] 38)).heap.size = w3.heap.size + 1 := World.size_alloc _ _
  rw [← hp3] at b3 z3 hz3
  obtain ⟨W3, hW3⟩ : ∃ W, W = w3.alloc (.cells #[.int .u64 16, .int .u64 0, .int .u64 8, .int .u64 0, .int .u64 1] 38) := ⟨_, rfl⟩
  rw [← hW3] at b3 hB4 hz3
  have h4' := H4.out W3
  rw [hz3] at h4'
  have H4' := Lib.hid h4'
  clear h4'
  have HB4 := Lib.hid hB4
  have HX3 := Lib.hid b3
  clear hb3 hB3 hB4 b3 HB2 HB1 HX1
  go_wp2_with fail
  rw [← hp3, ← hW3]
  clear hW3 hp3
  have HZ3 := Lib.hid hz3
  go_wp2_with fail
  refine H4'.out.mono ?_
  rintro r w5 ⟨rfl, hb5⟩
  have hb50 := (HB4.out.alloc HB4.out.size (.cells #[.int .i64 3, .int .i64 4] 3))
  have hB5 := hb50.trans (hb5.mono hb50.size)
  have b5 := (HX3.out.alloc (.cells #[.int .i64 3, .int .i64 4] 3)).below hb5 (HX3.out.alloc _).lt
  have b6 := b5.alloc (.cells #[.int .u64 24, .int .u64 0] 36)
  have s6 := Box2.new w5 36 (.int .u64 24) (.int .u64 0)
  have hB6 : Below w.heap.size w (w5.alloc (.cells #[.int .u64 24, .int .u64 0] 36)) := hB5.alloc hB5.size _
  obtain ⟨p6, hp6⟩ : ∃ p, p = w5.heap.size := ⟨_, rfl⟩
  rw [← hp6] at s6
  obtain ⟨W6, hW6⟩ : ∃ W, W = w5.alloc (.cells #[.int .u64 24, .int .u64 0] 36) := ⟨_, rfl⟩
  rw [← hW6] at s6 hB6 b6
  have HB6 := Lib.hid hB6
  have HX6 := Lib.hid b6
  have HS6 := Lib.hid s6
  clear hb50 hb5 hB5 b5 b6 s6 hB6 HB4 HX3
  go_wp2_with fail
  rw [← hp6, ← hW6]
  clear hW6 hp6
  have bd := HX6.out
  have sd := HS6.out
  have hkp : ∀ w', Below W6.drew.heap.size W6.drew w' → (w'.cell? ⟨p3, 0, none⟩ = some (.int .u64 16) ∧ w'.cell? ⟨p3, 1, none⟩ = some (.int .u64 0) ∧ w'.cell? ⟨p3, 2, none⟩ = some (.int .u64 8) ∧ w'.cell? ⟨p3, 3, none⟩ = some (.int .u64 0) ∧ w'.cell? ⟨p3, 4, none⟩ = some (.int .u64 1) ∧ w'.cell? ⟨p6, 0, none⟩ = some (.int .u64 24) ∧ w'.cell? ⟨p6, 1, none⟩ = some (.int .u64 0)) := fun w' h =>
    have b := (show Box5 W6.drew _ _ _ _ _ _ _ from bd).below h bd.lt
    have s := (show Box2 W6.drew _ _ _ _ from sd).below h sd.lt
    ⟨b.c0, b.c1, b.c2, b.c3, b.c4, s.c0, s.c1⟩
  have hG : Below W6.drew.heap.size W6.drew W6.drew := Below.refl _ _
  have HKP := Lib.hid hkp
  clear hkp bd sd
  go_wp2_with fail
  go_region_held3 (fun w' => (w'.cell? ⟨p3, 0, none⟩ = some (.int .u64 16) ∧ w'.cell? ⟨p3, 1, none⟩ = some (.int .u64 0) ∧ w'.cell? ⟨p3, 2, none⟩ = some (.int .u64 8) ∧ w'.cell? ⟨p3, 3, none⟩ = some (.int .u64 0) ∧ w'.cell? ⟨p3, 4, none⟩ = some (.int .u64 1) ∧ w'.cell? ⟨p6, 0, none⟩ = some (.int .u64 24) ∧ w'.cell? ⟨p6, 1, none⟩ = some (.int .u64 0)))
    (exact HKP.out _ hG)
    (first
    | (go_at_call 16; with_reducible refine (H5.out _).mono ?_; rintro r w' ⟨rfl, hb⟩; replace hG := hG.trans (hb.mono hG.size); clear hb)
    | (go_at_call 17; with_reducible refine (H6.out _).mono ?_; rintro r w' ⟨rfl, hb⟩; replace hG := hG.trans (hb.mono hG.size); clear hb))
  rename_i hHeld
  clear hHeld
  have hF := HB6.out.trans (Below.mono ⟨hG.os, hG.tape, hG.output, hG.size, hG.block⟩ HB6.out.size)
  have HF := Lib.hid hF
  clear hF hG
  go_wp2
  go_ret
  exact ⟨rfl, HF.out⟩
end Go.Proofs.YtodcdefmoliegaaDoor
/-
  The walk of DirtyKeeps, as far as its last statement.
-/
namespace Go.Proofs.YtodcdefmoliegaaDoor
open Go.RowKit
set_option linter.unusedVariables false
set_option linter.unusedSimpArgs false

theorem known_one (w : World) : Calls Tryd.prog 4 #[] w fun e w' => e = .returned (.bool true) ∧ Below w.heap.size w w' := dknown_any w
theorem given_val (m : MT) (w : World) : Calls Tryd.prog 7 #[m.val] w fun e w' => e = .returned m.val ∧ Below w.heap.size w w' := given_any m.a m.b m.c m.d m.e w
theorem taken_val (m : MT) (w : World) : Calls Tryd.prog 12 #[m.val] w fun e w' => e = .returned m.val ∧ Below w.heap.size w w' := taken_any m.a m.b m.c m.d m.e w
theorem MT.val_cells (m : MT) : m.val = .agg #[.int .u64 (m.a : Int), .int .u64 (m.b : Int), .int .u64 (m.c : Int), .int .u64 (m.d : Int), .int .u64 (m.e : Int)] := rfl
theorem MT.ext (m n : MT) (h : (m.a = n.a ∧ m.b = n.b) ∧ (m.c = n.c ∧ m.d = n.d) ∧ m.e = n.e) : m = n := by
  obtain ⟨⟨h1, h2⟩, ⟨h3, h4⟩, h5⟩ := h
  cases m; cases n; simp_all
instance : DecidableEq MT := fun m n => decidable_of_iff ((m.a = n.a ∧ m.b = n.b) ∧ (m.c = n.c ∧ m.d = n.d) ∧ m.e = n.e) ⟨MT.ext m n, fun h => by subst h; exact ⟨⟨rfl, rfl⟩, ⟨rfl, rfl⟩, rfl⟩⟩
theorem eql_mt (m n : MT) (w : World) : (binOp .eql 26 m.val n.val).run Tryd.prog w = .ok (.bool (decide (m = n))) w := by
  have h := eql_rmap m.a m.b m.c m.d m.e n.a n.b n.c n.d n.e w
  rw [show decide (m = n) = decide ((m.a = n.a ∧ m.b = n.b) ∧ (m.c = n.c ∧ m.d = n.d) ∧ m.e = n.e) from decide_eq_decide.2 ⟨fun h => by subst h; exact ⟨⟨rfl, rfl⟩, ⟨rfl, rfl⟩, rfl⟩, MT.ext m n⟩]
  exact h
theorem guard_mt (op : BinOp) (x y : Operand) (m n : MT) (w : World) : Sem.run Tryd.prog (eqGuard op 26 x y m.val n.val) w = .ok () w := guard_rmap op x y m.a m.b m.c m.d m.e n.a n.b n.c n.d n.e w

/-- The three boxes of the arguments. -/
structure Args3 (w0 : World) (n : Nat) (o m : MT) (f : Int) (ak : Option Addr) (nk ck : Nat) : Prop where
  b0 : Box5 w0 n 26 (.int .u64 (o.a : Int)) (.int .u64 (o.b : Int)) (.int .u64 (o.c : Int)) (.int .u64 (o.d : Int)) (.int .u64 (o.e : Int))
  b1 : Box5 w0 (n + 1) 26 (.int .u64 (m.a : Int)) (.int .u64 (m.b : Int)) (.int .u64 (m.c : Int)) (.int .u64 (m.d : Int)) (.int .u64 (m.e : Int))
  b2 : Box2 w0 (n + 1 + 1) 29 (.int .i64 f) (.slice ak nk ck)
theorem Args3.below {w0 w' n o m f ak nk ck} (h : Args3 w0 n o m f ak nk ck) (hb : Below w0.heap.size w0 w') : Args3 w' n o m f ak nk ck :=
  ⟨h.b0.below hb h.b0.lt, h.b1.below hb h.b1.lt, h.b2.below hb h.b2.lt⟩
theorem args_new (w : World) (o m : MT) (f : Int) (ak : Option Addr) (nk ck : Nat) : ∃ w0, w0 = ((w.alloc (.cells #[.int .u64 (o.a : Int), .int .u64 (o.b : Int), .int .u64 (o.c : Int), .int .u64 (o.d : Int), .int .u64 (o.e : Int)] 26)).alloc (.cells #[.int .u64 (m.a : Int), .int .u64 (m.b : Int), .int .u64 (m.c : Int), .int .u64 (m.d : Int), .int .u64 (m.e : Int)] 26)).alloc (.cells #[.int .i64 f, .slice ak nk ck] 29) ∧ Args3 w0 w.heap.size o m f ak nk ck ∧ Below w.heap.size w w0 := by
  have b0 := ((Box5.new w 26 (.int .u64 (o.a : Int)) (.int .u64 (o.b : Int)) (.int .u64 (o.c : Int)) (.int .u64 (o.d : Int)) (.int .u64 (o.e : Int))).alloc (.cells #[.int .u64 (m.a : Int), .int .u64 (m.b : Int), .int .u64 (m.c : Int), .int .u64 (m.d : Int), .int .u64 (m.e : Int)] 26)).alloc (.cells #[.int .i64 f, .slice ak nk ck] 29)
  have b1 := (Box5.new (w.alloc (.cells #[.int .u64 (o.a : Int), .int .u64 (o.b : Int), .int .u64 (o.c : Int), .int .u64 (o.d : Int), .int .u64 (o.e : Int)] 26)) 26 (.int .u64 (m.a : Int)) (.int .u64 (m.b : Int)) (.int .u64 (m.c : Int)) (.int .u64 (m.d : Int)) (.int .u64 (m.e : Int))).alloc (.cells #[.int .i64 f, .slice ak nk ck] 29)
  have b2 := Box2.new ((w.alloc (.cells #[.int .u64 (o.a : Int), .int .u64 (o.b : Int), .int .u64 (o.c : Int), .int .u64 (o.d : Int), .int .u64 (o.e : Int)] 26)).alloc (.cells #[.int .u64 (m.a : Int), .int .u64 (m.b : Int), .int .u64 (m.c : Int), .int .u64 (m.d : Int), .int .u64 (m.e : Int)] 26)) 29 (.int .i64 f) (.slice ak nk ck)
  simp only [World.size_alloc] at b1 b2
  exact ⟨_, rfl, ⟨b0, b1, b2⟩, (below2 w _ _).alloc (by simp; omega) _⟩
end Go.Proofs.YtodcdefmoliegaaDoor
/-
  The walk of DirtyKeeps.
-/
namespace Go.Proofs.YtodcdefmoliegaaDoor
open Go.RowKit
set_option linter.unusedVariables false
set_option linter.unusedSimpArgs false

set_option maxRecDepth 20000 in
set_option maxHeartbeats 8000000 in
theorem dkeeps_walk (o m : MT) (f : Int) (ak : Option Addr) (nk ck : Nat) (K : List Bool) (w : World) (ho : o.ok) (hm : m.ok) (hK : Bl w ak nk K) :
    Calls Tryd.prog 3 #[o.val, m.val, .agg #[.int .i64 f, .slice ak nk ck]] w fun e w' => e = .returned (.bool true) ∧ Below w.heap.size w w' := by
  obtain ⟨w0, hw0, ha3, hal⟩ := args_new w o m f ak nk ck
  have b0 := ha3.b2.c0
  have b1 := ha3.b2.c1
  have kn := known_one
  have KN := Lib.hid kn
  have HAL := Lib.hid hal
  have HW0 := Lib.hid hw0
  have HA3 := Lib.hid ha3
  clear kn hal hw0 ha3
  by_cases hbad : f < 0 ∨ 2 < f
  · simp only [MT.val_cells]
    clear ho hm hK
    rcases hbad with hb | hb
    · have hd : decide (f < 0) = true := decide_eq_true hb
      go_enter Tryd.func3, Tryd.ntmps3
      go_wp2_with fail
      rw [← HW0.out]
      go_wp2_with fail
      refine (KN.out _).mono ?_
      rintro e w1 ⟨rfl, hb⟩
      have HB := Lib.hid (HAL.out.trans (hb.mono HAL.out.size))
      clear hb
      go_wp2
      go_ret
      exact ⟨rfl, HB.out⟩
    · have hd : ¬ f < 0 := by omega
      go_enter Tryd.func3, Tryd.ntmps3
      go_wp2_with fail
      rw [← HW0.out]
      go_wp2_with fail
      refine (KN.out _).mono ?_
      rintro e w1 ⟨rfl, hb⟩
      have HB := Lib.hid (HAL.out.trans (hb.mono HAL.out.size))
      clear hb
      go_wp2
      go_ret
      exact ⟨rfl, HB.out⟩
  · have q4 : ¬ f < 0 := by omega
    have q5 : ¬ 2 < f := by omega
    obtain ⟨D1, r, D3, D5, c, e1, o1, e2, o2, e3, o3, e4, hrf, hend⟩ := dkeeps_math o m f K ho hm (by omega) (by omega)
    have m0 := fun w' => st_new 6 w' (by omega) (by omega)
    rw [ds0_six] at m0
    have g1 := fun w' => given_val o w'
    have g2 := fun w' => given_val m w'
    have m1 := fun w' p (h : St w0 w' p ⟨z6, [], -1, false, 0⟩) => st_dsave o h (flat_ok z6 (-1) false 0 (by omega) (by omega) (by omega) (by decide)) ho
    have m2 := fun w' p (h : St w0 w' p D1) => st_fuse f h
    have m3 := fun w' p (h : St w0 w' p (D1.fuse f)) => st_dsave m h o1 hm
    have m4 := fun w' p (h : St w0 w' p D3) => st_crash ak nk ck K h o2 (hK.below HAL.out)
    have m5 := fun w' p (h : St w0 w' p (D3.crash K)) => st_up h
    have m6 := fun w' p (h : St w0 w' p D5) => st_dload h o3
    simp only [e1] at m1
    simp only [e2] at m3
    simp only [e3] at m5
    simp only [e4] at m6
    unfold dloadV at m6
    dsimp only at m6
    have ht := fun w' => taken_val c w'
    have q1 := fun w' => eql_mt c m w'
    have q2 := fun op x y w' => guard_mt op x y c m w'
    have q6 := fun w' => eql_mt c o w'
    have q7 := fun op x y w' => guard_mt op x y c o w'
    have hdm : decide (c = m) = true ∨ (decide (c = m) = false ∧ (r == 0) = false ∧ decide (c = o) = true) := by
      rcases hend with h | ⟨h1, h⟩
      · exact .inl (decide_eq_true h)
      · by_cases h2 : c = m
        · exact .inl (decide_eq_true h2)
        · exact .inr ⟨decide_eq_false h2, h1, decide_eq_true h⟩
    obtain ⟨bm, hbm⟩ : ∃ b, b = decide (c = m) := ⟨_, rfl⟩
    obtain ⟨bo, hbo⟩ : ∃ b, b = decide (c = o) := ⟨_, rfl⟩
    rw [← hbm, ← hbo] at hdm
    simp only [← hbm] at q1
    simp only [← hbo] at q6
    simp only [MT.val_cells] at *
    have HDM := Lib.hid (And.intro hrf hdm)
    have M0 := Lib.hid m0
    have M1 := Lib.hid m1
    have M2 := Lib.hid m2
    have M3 := Lib.hid m3
    have M4 := Lib.hid m4
    have M5 := Lib.hid m5
    have M6 := Lib.hid m6
    have G1 := Lib.hid g1
    have G2 := Lib.hid g2
    have HT := Lib.hid ht
    have HQ := Lib.hid (And.intro q1 (And.intro q2 (And.intro q6 q7)))
    clear hbad ho hm hK e1 o1 e2 o2 e3 o3 e4 m0 m1 m2 m3 m4 m5 m6 g1 g2 hend hrf hdm ht q1 q2 q6 q7 hbm hbo
    go_enter Tryd.func3, Tryd.ntmps3
    go_wp2_with fail
    rw [← HW0.out]
    go_wp2_with fail
    refine (M0.out _).mono ?_
    rintro e w1 ⟨p, rfl, h1⟩
    have H1 := Lib.hid h1
    have a1 := HA3.out.below h1.fin
    have k0 := a1.b0.c0
    have k1 := a1.b0.c1
    have k2 := a1.b0.c2
    have k3 := a1.b0.c3
    have k4 := a1.b0.c4
    clear h1 M0 a1 b0 b1
    go_wp2_with fail
    refine (G1.out _).mono ?_
    rintro e w2 ⟨rfl, hb⟩
    have H2 := Lib.hid (H1.out.below hb)
    clear hb G1 H1 k0 k1 k2 k3 k4
    go_wp2_with fail
    refine (M1.out _ _ H2.out).mono ?_
    rintro e w3 ⟨rfl, h1⟩
    have H3 := Lib.hid h1
    have k0 := (HA3.out.below h1.fin).b2.c0
    clear h1 M1 H2
    go_wp2_with fail
    refine (M2.out _ _ H3.out).mono ?_
    rintro e w4 ⟨rfl, h1⟩
    have H4 := Lib.hid h1
    have a1 := HA3.out.below h1.fin
    clear k0
    have k0 := a1.b1.c0
    have k1 := a1.b1.c1
    have k2 := a1.b1.c2
    have k3 := a1.b1.c3
    have k4 := a1.b1.c4
    clear h1 M2 H3 a1
    go_wp2_with fail
    refine (G2.out _).mono ?_
    rintro e w5 ⟨rfl, hb⟩
    have H5 := Lib.hid (H4.out.below hb)
    clear hb G2 H4 k0 k1 k2 k3 k4
    go_wp2_with fail
    refine (M3.out _ _ H5.out).mono ?_
    rintro e w6 ⟨rfl, h1⟩
    have H6 := Lib.hid h1
    have k1 := (HA3.out.below h1.fin).b2.c1
    clear h1 M3 H5
    go_wp2_with fail
    refine (M4.out _ _ H6.out).mono ?_
    rintro e w7 ⟨rfl, h1⟩
    have H7 := Lib.hid h1
    clear h1 M4 H6 k1
    go_wp2_with fail
    refine (M5.out _ _ H7.out).mono ?_
    rintro e w8 ⟨rfl, h1⟩
    have H8 := Lib.hid h1
    clear h1 M5 H7
    go_wp2_with fail
    refine (M6.out _ _ H8.out).mono ?_
    rintro e w9 ⟨rfl, h1⟩
    have hB9 : Below w0.heap.size w0 (w9.alloc (.cells #[.int .u64 (c.a : Int), .int .u64 (c.b : Int), .int .u64 (c.c : Int), .int .u64 (c.d : Int), .int .u64 (c.e : Int)] 38)) := h1.fin.alloc h1.fin.size _
    have bC := Box5.new w9 38 (.int .u64 (c.a : Int)) (.int .u64 (c.b : Int)) (.int .u64 (c.c : Int)) (.int .u64 (c.d : Int)) (.int .u64 (c.e : Int))
    have A9 := HA3.out.below hB9
    have HB9 := Lib.hid (HAL.out.trans (hB9.mono HAL.out.size))
    clear h1 M6 H8 hB9
    go_upto_region 11 with fail
    obtain ⟨q, hq⟩ : ∃ q, q = w9.heap.size := ⟨_, rfl⟩
    obtain ⟨W9, hW9⟩ : ∃ W, W = w9.alloc (.cells #[.int .u64 (c.a : Int), .int .u64 (c.b : Int), .int .u64 (c.c : Int), .int .u64 (c.d : Int), .int .u64 (c.e : Int)] 38) := ⟨_, rfl⟩
    rw [← hq] at bC ⊢
    rw [← hW9] at bC A9 HB9 ⊢
    clear hq hW9
    have hkp : ∀ w', Below W9.drew.heap.size W9.drew w' → (w'.cell? ⟨w.heap.size, 0, none⟩ = some (.int .u64 (o.a : Int)) ∧ w'.cell? ⟨w.heap.size, 1, none⟩ = some (.int .u64 (o.b : Int)) ∧ w'.cell? ⟨w.heap.size, 2, none⟩ = some (.int .u64 (o.c : Int)) ∧ w'.cell? ⟨w.heap.size, 3, none⟩ = some (.int .u64 (o.d : Int)) ∧ w'.cell? ⟨w.heap.size, 4, none⟩ = some (.int .u64 (o.e : Int)) ∧ w'.cell? ⟨w.heap.size + 1, 0, none⟩ = some (.int .u64 (m.a : Int)) ∧ w'.cell? ⟨w.heap.size + 1, 1, none⟩ = some (.int .u64 (m.b : Int)) ∧ w'.cell? ⟨w.heap.size + 1, 2, none⟩ = some (.int .u64 (m.c : Int)) ∧ w'.cell? ⟨w.heap.size + 1, 3, none⟩ = some (.int .u64 (m.d : Int)) ∧ w'.cell? ⟨w.heap.size + 1, 4, none⟩ = some (.int .u64 (m.e : Int)) ∧ w'.cell? ⟨w.heap.size + 1 + 1, 0, none⟩ = some (.int .i64 f) ∧ w'.cell? ⟨q, 0, none⟩ = some (.int .u64 (c.a : Int)) ∧ w'.cell? ⟨q, 1, none⟩ = some (.int .u64 (c.b : Int)) ∧ w'.cell? ⟨q, 2, none⟩ = some (.int .u64 (c.c : Int)) ∧ w'.cell? ⟨q, 3, none⟩ = some (.int .u64 (c.d : Int)) ∧ w'.cell? ⟨q, 4, none⟩ = some (.int .u64 (c.e : Int))) := fun w' h =>
      have b := (show Args3 W9.drew _ _ _ _ _ _ _ from ⟨A9.b0, A9.b1, A9.b2⟩).below h
      have d := (show Box5 W9.drew _ _ _ _ _ _ _ from bC).below h bC.lt
      ⟨b.b0.c0, b.b0.c1, b.b0.c2, b.b0.c3, b.b0.c4, b.b1.c0, b.b1.c1, b.b1.c2, b.b1.c3, b.b1.c4, b.b2.c0, d.c0, d.c1, d.c2, d.c3, d.c4⟩
    have hG : Below W9.drew.heap.size W9.drew W9.drew := Below.refl _ _
    have HKP := Lib.hid hkp
    clear hkp A9 bC
    obtain ⟨q1, q2, q6, q7⟩ := HQ.out
    obtain ⟨hrf, hdm⟩ := HDM.out
    clear HQ HDM HA3 HW0
    rcases hdm with rfl | ⟨rfl, hr0, rfl⟩
    · obtain ⟨bb, hbb⟩ : ∃ b, (f == 2) = b := ⟨_, rfl⟩
      rw [hbb] at hrf
      refine wp_region_held_drew (S := (fun w' => (w'.cell? ⟨w.heap.size, 0, none⟩ = some (.int .u64 (o.a : Int)) ∧ w'.cell? ⟨w.heap.size, 1, none⟩ = some (.int .u64 (o.b : Int)) ∧ w'.cell? ⟨w.heap.size, 2, none⟩ = some (.int .u64 (o.c : Int)) ∧ w'.cell? ⟨w.heap.size, 3, none⟩ = some (.int .u64 (o.d : Int)) ∧ w'.cell? ⟨w.heap.size, 4, none⟩ = some (.int .u64 (o.e : Int)) ∧ w'.cell? ⟨w.heap.size + 1, 0, none⟩ = some (.int .u64 (m.a : Int)) ∧ w'.cell? ⟨w.heap.size + 1, 1, none⟩ = some (.int .u64 (m.b : Int)) ∧ w'.cell? ⟨w.heap.size + 1, 2, none⟩ = some (.int .u64 (m.c : Int)) ∧ w'.cell? ⟨w.heap.size + 1, 3, none⟩ = some (.int .u64 (m.d : Int)) ∧ w'.cell? ⟨w.heap.size + 1, 4, none⟩ = some (.int .u64 (m.e : Int)) ∧ w'.cell? ⟨w.heap.size + 1 + 1, 0, none⟩ = some (.int .i64 f) ∧ w'.cell? ⟨q, 0, none⟩ = some (.int .u64 (c.a : Int)) ∧ w'.cell? ⟨q, 1, none⟩ = some (.int .u64 (c.b : Int)) ∧ w'.cell? ⟨q, 2, none⟩ = some (.int .u64 (c.c : Int)) ∧ w'.cell? ⟨q, 3, none⟩ = some (.int .u64 (c.d : Int)) ∧ w'.cell? ⟨q, 4, none⟩ = some (.int .u64 (c.e : Int))))) (by kernel_rfl) (HKP.out _ hG) (fun hHeld => ?_)
      refine wpAnyH_take (i := 0) (oi := { dst := some 50, op := Op.move (Operand.tmp 10), type := 32, pos := "law.go:81", after := #[], guard := none }) (v := ?_) rfl (by kernel_rfl) (by kernel_rfl) (by kernel_rfl) (fun _ _ _ h => h) (Or.inl ⟨by rfl, ?_⟩) (by assumption) ?_
      rotate_left
      · (intro w hSw; (try dsimp only at hSw); go_simp <;> with_reducible rfl)
      try simp only [Act.put, List.setIfInBounds_toArray, List.set_cons_zero, List.set_cons_succ]
      refine wpAnyH_take (i := 1) (oi := { dst := some 51, op := Op.binOp BinOp.eql 32 (Operand.tmp 50) (Operand.const (Value.int IntKind.i64 0)) 32, type := 4, pos := "law.go:81", after := #[{ on := 0, ground := Ground.data }], guard := none }) (v := ?_) rfl (by kernel_rfl) (by kernel_rfl) (by kernel_rfl) (fun _ _ _ h => h) (Or.inl ⟨by rfl, ?_⟩) (by assumption) ?_
      rotate_left
      · (intro w hSw; (try dsimp only at hSw); go_simp <;> with_reducible rfl)
      try simp only [Act.put, List.setIfInBounds_toArray, List.set_cons_zero, List.set_cons_succ]
      refine wpAnyH_take (i := 2) (oi := { dst := some 52, op := Op.move (Operand.tmp 51), type := 4, pos := "law.go:81", after := #[{ on := 1, ground := Ground.data }], guard := none }) (v := ?_) rfl (by kernel_rfl) (by kernel_rfl) (by kernel_rfl) (fun _ _ _ h => h) (Or.inl ⟨by rfl, ?_⟩) (by assumption) ?_
      rotate_left
      · (intro w hSw; (try dsimp only at hSw); go_simp <;> with_reducible rfl)
      try simp only [Act.put, List.setIfInBounds_toArray, List.set_cons_zero, List.set_cons_succ]
      refine wpAnyH_take (i := 3) (oi := { dst := some 53, op := Op.move (Operand.tmp 12), type := 32, pos := "law.go:81", after := #[{ on := 2, ground := Ground.guard }], guard := some (2, true) }) (v := ?_) rfl (by kernel_rfl) (by kernel_rfl) (by kernel_rfl) (fun _ _ _ h => h) (Or.inl ⟨by rfl, ?_⟩) (by assumption) ?_
      rotate_left
      · (intro w hSw; (try dsimp only at hSw); go_simp <;> with_reducible rfl)
      try simp only [Act.put, List.setIfInBounds_toArray, List.set_cons_zero, List.set_cons_succ]
      refine wpAnyH_take (i := 4) (oi := { dst := some 54, op := Op.binOp BinOp.eql 32 (Operand.tmp 53) (Operand.const (Value.int IntKind.i64 0)) 32, type := 4, pos := "law.go:81", after := #[{ on := 3, ground := Ground.data }, { on := 2, ground := Ground.guard }], guard := some (2, true) }) (v := ?_) rfl (by kernel_rfl) (by kernel_rfl) (by kernel_rfl) (fun _ _ _ h => h) (Or.inl ⟨by rfl, ?_⟩) (by assumption) ?_
      rotate_left
      · (intro w hSw; (try dsimp only at hSw); go_simp <;> with_reducible rfl)
      try simp only [Act.put, List.setIfInBounds_toArray, List.set_cons_zero, List.set_cons_succ]
      refine wpAnyH_take (i := 5) (oi := { dst := some 55, op := Op.pick (Operand.tmp 52) (Operand.tmp 54) (Operand.const (Value.bool false)), type := 4, pos := "law.go:81", after := #[{ on := 2, ground := Ground.data }, { on := 4, ground := Ground.data }], guard := none }) (v := ?_) rfl (by kernel_rfl) (by kernel_rfl) (by kernel_rfl) (fun _ _ _ h => h) (Or.inl ⟨by rfl, ?_⟩) (by assumption) ?_
      rotate_left
      · (intro w hSw; (try dsimp only at hSw); go_simp <;> with_reducible rfl)
      try simp only [Act.put, List.setIfInBounds_toArray, List.set_cons_zero, List.set_cons_succ]
      refine wpAnyH_take (i := 6) (oi := { dst := some 56, op := Op.move (Operand.tmp 55), type := 4, pos := "law.go:81", after := #[{ on := 5, ground := Ground.data }, { on := 2, ground := Ground.chain }], guard := none }) (v := ?_) rfl (by kernel_rfl) (by kernel_rfl) (by kernel_rfl) (fun _ _ _ h => h) (Or.inl ⟨by rfl, ?_⟩) (by assumption) ?_
      rotate_left
      · (intro w hSw; (try dsimp only at hSw); go_simp <;> with_reducible rfl)
      try simp only [Act.put, List.setIfInBounds_toArray, List.set_cons_zero, List.set_cons_succ]
      refine wpAnyH_take (i := 7) (oi := { dst := some 57, op := Op.move (Operand.tmp 9), type := 32, pos := "law.go:81", after := #[{ on := 6, ground := Ground.guard }], guard := some (6, true) }) (v := ?_) rfl (by kernel_rfl) (by kernel_rfl) (by kernel_rfl) (fun _ _ _ h => h) (Or.inl ⟨by rfl, ?_⟩) (by assumption) ?_
      rotate_left
      · (intro w hSw; (try dsimp only at hSw); go_simp <;> with_reducible rfl)
      try simp only [Act.put, List.setIfInBounds_toArray, List.set_cons_zero, List.set_cons_succ]
      refine wpAnyH_take (i := 8) (oi := { dst := some 58, op := Op.binOp BinOp.eql 32 (Operand.tmp 57) (Operand.const (Value.int IntKind.i64 0)) 32, type := 4, pos := "law.go:81", after := #[{ on := 7, ground := Ground.data }, { on := 6, ground := Ground.guard }], guard := some (6, true) }) (v := ?_) rfl (by kernel_rfl) (by kernel_rfl) (by kernel_rfl) (fun _ _ _ h => h) (Or.inl ⟨by rfl, ?_⟩) (by assumption) ?_
      rotate_left
      · (intro w hSw; (try dsimp only at hSw); go_simp <;> with_reducible rfl)
      try simp only [Act.put, List.setIfInBounds_toArray, List.set_cons_zero, List.set_cons_succ]
      refine wpAnyH_take (i := 9) (oi := { dst := some 59, op := Op.fieldAddr 29 (Operand.tmp 5) 0, type := 0, pos := "law.go:81", after := #[{ on := 6, ground := Ground.guard }], guard := some (6, true) }) (v := ?_) rfl (by kernel_rfl) (by kernel_rfl) (by kernel_rfl) (fun _ _ _ h => h) (Or.inl ⟨by rfl, ?_⟩) (by assumption) ?_
      rotate_left
      · (intro w hSw; (try dsimp only at hSw); go_simp <;> with_reducible rfl)
      try simp only [Act.put, List.setIfInBounds_toArray, List.set_cons_zero, List.set_cons_succ]
      refine wpAnyH_take (i := 10) (oi := { dst := some 60, op := Op.load 3 (Operand.tmp 59), type := 3, pos := "law.go:81", after := #[{ on := 9, ground := Ground.data }, { on := 6, ground := Ground.guard }], guard := some (6, true) }) (v := ?_) rfl (by kernel_rfl) (by kernel_rfl) (by kernel_rfl) (fun _ _ _ h => h) (Or.inl ⟨by rfl, ?_⟩) (by assumption) ?_
      rotate_left
      · (intro w hSw; (try dsimp only at hSw); go_simp <;> with_reducible rfl)
      try simp only [Act.put, List.setIfInBounds_toArray, List.set_cons_zero, List.set_cons_succ]
      refine wpAnyH_take (i := 11) (oi := { dst := some 61, op := Op.binOp BinOp.eql 3 (Operand.tmp 60) (Operand.const (Value.int IntKind.i64 2)) 3, type := 4, pos := "law.go:81", after := #[{ on := 10, ground := Ground.data }, { on := 6, ground := Ground.guard }], guard := some (6, true) }) (v := ?_) rfl (by kernel_rfl) (by kernel_rfl) (by kernel_rfl) (fun _ _ _ h => h) (Or.inl ⟨by rfl, ?_⟩) (by assumption) ?_
      rotate_left
      · (intro w hSw; (try dsimp only at hSw); go_simp <;> with_reducible rfl)
      try simp only [Act.put, List.setIfInBounds_toArray, List.set_cons_zero, List.set_cons_succ]
      refine wpAnyH_take (i := 12) (oi := { dst := some 62, op := Op.binOp BinOp.eql 4 (Operand.tmp 58) (Operand.tmp 61) 4, type := 4, pos := "law.go:81", after := #[{ on := 8, ground := Ground.data }, { on := 11, ground := Ground.data }, { on := 6, ground := Ground.guard }], guard := some (6, true) }) (v := ?_) rfl (by kernel_rfl) (by kernel_rfl) (by kernel_rfl) (fun _ _ _ h => h) (Or.inl ⟨by rfl, ?_⟩) (by assumption) ?_
      rotate_left
      · (intro w hSw; (try dsimp only at hSw); go_simp <;> with_reducible rfl)
      try simp only [Act.put, List.setIfInBounds_toArray, List.set_cons_zero, List.set_cons_succ]
      refine wpAnyH_take (i := 13) (oi := { dst := some 63, op := Op.pick (Operand.tmp 56) (Operand.tmp 62) (Operand.const (Value.bool false)), type := 4, pos := "law.go:81", after := #[{ on := 6, ground := Ground.data }, { on := 12, ground := Ground.data }], guard := none }) (v := ?_) rfl (by kernel_rfl) (by kernel_rfl) (by kernel_rfl) (fun _ _ _ h => h) (Or.inl ⟨by rfl, ?_⟩) (by assumption) ?_
      rotate_left
      · (intro w hSw; (try dsimp only at hSw); go_simp <;> with_reducible rfl)
      try simp only [Act.put, List.setIfInBounds_toArray, List.set_cons_zero, List.set_cons_succ]
      refine wpAnyH_take (i := 14) (oi := { dst := some 64, op := Op.move (Operand.tmp 63), type := 4, pos := "law.go:81", after := #[{ on := 13, ground := Ground.data }, { on := 6, ground := Ground.chain }], guard := none }) (v := ?_) rfl (by kernel_rfl) (by kernel_rfl) (by kernel_rfl) (fun _ _ _ h => h) (Or.inl ⟨by rfl, ?_⟩) (by assumption) ?_
      rotate_left
      · (intro w hSw; (try dsimp only at hSw); go_simp <;> with_reducible rfl)
      try simp only [Act.put, List.setIfInBounds_toArray, List.set_cons_zero, List.set_cons_succ]
      refine wpAnyH_take (i := 15) (oi := { dst := some 65, op := Op.load 38 (Operand.tmp 11), type := 38, pos := "law.go:81", after := #[{ on := 14, ground := Ground.guard }], guard := some (14, true) }) (v := ?_) rfl (by kernel_rfl) (by kernel_rfl) (by kernel_rfl) (fun _ _ _ h => h) (Or.inl ⟨by rfl, ?_⟩) (by assumption) ?_
      rotate_left
      · (intro w hSw; (try dsimp only at hSw); go_simp <;> with_reducible rfl)
      try simp only [Act.put, List.setIfInBounds_toArray, List.set_cons_zero, List.set_cons_succ]
      refine wpAnyH_take (i := 17) (oi := { dst := some 67, op := Op.load 26 (Operand.tmp 4), type := 26, pos := "law.go:81", after := #[{ on := 14, ground := Ground.guard }], guard := some (14, true) }) (v := ?_) rfl (by kernel_rfl) (by kernel_rfl) (by kernel_rfl) (fun _ _ _ h => h) (Or.inl ⟨by rfl, ?_⟩) (by assumption) ?_
      rotate_left
      · (intro w hSw; (try dsimp only at hSw); go_simp <;> with_reducible rfl)
      try simp only [Act.put, List.setIfInBounds_toArray, List.set_cons_zero, List.set_cons_succ]
      refine wpAnyH_ready (rs := [16]) (by kernel_rfl) (by simp) ?_
      refine AllReadyH.cons (o := { dst := some 66, op := Op.call { callee := Callee.value (Operand.func 12), args := #[Operand.tmp 65], argTypes := #[38] }, type := 26, pos := "law.go:81", after := #[{ on := 15, ground := Ground.data }, { on := 14, ground := Ground.chain }, { on := 14, ground := Ground.guard }], guard := some (14, true) }) rfl (fun K hK => ?_) AllReadyH.nil
      go_simp
      go_at_call 12
      with_reducible refine (HT.out _).mono ?_
      rintro r w' ⟨rfl, hb⟩
      replace hG := hG.trans (hb.mono hG.size)
      clear hb
      refine hK.out _ _ (HKP.out _ hG) (fun hHeld => ?_)
      clear hK K
      try simp only [Act.put, List.setIfInBounds_toArray, List.set_cons_zero, List.set_cons_succ]
      refine wpAnyH_take (i := 18) (oi := { dst := some 68, op := Op.binOp BinOp.eql 26 (Operand.tmp 66) (Operand.tmp 67) 26, type := 4, pos := "law.go:81", after := #[{ on := 16, ground := Ground.data }, { on := 17, ground := Ground.data }, { on := 14, ground := Ground.guard }], guard := some (14, true) }) (v := ?_) rfl (by kernel_rfl) (by kernel_rfl) (by kernel_rfl) (fun _ _ _ h => h) (Or.inl ⟨by rfl, ?_⟩) (by assumption) ?_
      rotate_left
      · (intro w hSw; (try dsimp only at hSw); go_simp <;> with_reducible rfl)
      try simp only [Act.put, List.setIfInBounds_toArray, List.set_cons_zero, List.set_cons_succ]
      refine wpAnyH_take (i := 19) (oi := { dst := some 69, op := Op.move (Operand.tmp 68), type := 4, pos := "law.go:81", after := #[{ on := 18, ground := Ground.data }, { on := 16, ground := Ground.chain }, { on := 14, ground := Ground.guard }], guard := some (14, true) }) (v := ?_) rfl (by kernel_rfl) (by kernel_rfl) (by kernel_rfl) (fun _ _ _ h => h) (Or.inl ⟨by rfl, ?_⟩) (by assumption) ?_
      rotate_left
      · (intro w hSw; (try dsimp only at hSw); go_simp <;> with_reducible rfl)
      try simp only [Act.put, List.setIfInBounds_toArray, List.set_cons_zero, List.set_cons_succ]
      refine wpAnyH_take (i := 20) (oi := { dst := some 70, op := Op.move (Operand.tmp 9), type := 32, pos := "law.go:81", after := #[{ on := 19, ground := Ground.guard }], guard := some (19, false) }) (v := undef) rfl (by kernel_rfl) (by kernel_rfl) (by kernel_rfl) (fun _ _ _ h => h) (Or.inr ⟨by rfl, rfl⟩) (by assumption) ?_
      try simp only [Act.put, List.setIfInBounds_toArray, List.set_cons_zero, List.set_cons_succ]
      refine wpAnyH_take (i := 21) (oi := { dst := some 71, op := Op.binOp BinOp.neq 32 (Operand.tmp 70) (Operand.const (Value.int IntKind.i64 0)) 32, type := 4, pos := "law.go:81", after := #[{ on := 20, ground := Ground.data }, { on := 19, ground := Ground.guard }], guard := some (19, false) }) (v := undef) rfl (by kernel_rfl) (by kernel_rfl) (by kernel_rfl) (fun _ _ _ h => h) (Or.inr ⟨by rfl, rfl⟩) (by assumption) ?_
      try simp only [Act.put, List.setIfInBounds_toArray, List.set_cons_zero, List.set_cons_succ]
      refine wpAnyH_take (i := 22) (oi := { dst := some 72, op := Op.move (Operand.tmp 71), type := 4, pos := "law.go:81", after := #[{ on := 21, ground := Ground.data }, { on := 19, ground := Ground.chain }, { on := 19, ground := Ground.guard }], guard := some (19, false) }) (v := undef) rfl (by kernel_rfl) (by kernel_rfl) (by kernel_rfl) (fun _ _ _ h => h) (Or.inr ⟨by rfl, rfl⟩) (by assumption) ?_
      try simp only [Act.put, List.setIfInBounds_toArray, List.set_cons_zero, List.set_cons_succ]
      refine wpAnyH_take (i := 23) (oi := { dst := some 73, op := Op.load 38 (Operand.tmp 11), type := 38, pos := "law.go:81", after := #[{ on := 22, ground := Ground.guard }], guard := some (22, true) }) (v := undef) rfl (by kernel_rfl) (by kernel_rfl) (by kernel_rfl) (fun _ _ _ h => h) (Or.inr ⟨by rfl, rfl⟩) (by assumption) ?_
      try simp only [Act.put, List.setIfInBounds_toArray, List.set_cons_zero, List.set_cons_succ]
      refine wpAnyH_take (i := 24) (oi := { dst := some 74, op := Op.call { callee := Callee.value (Operand.func 12), args := #[Operand.tmp 73], argTypes := #[38] }, type := 26, pos := "law.go:81", after := #[{ on := 23, ground := Ground.data }, { on := 22, ground := Ground.chain }, { on := 22, ground := Ground.guard }], guard := some (22, true) }) (v := undef) rfl (by kernel_rfl) (by kernel_rfl) (by kernel_rfl) (fun _ _ _ h => h) (Or.inr ⟨by rfl, rfl⟩) (by assumption) ?_
      try simp only [Act.put, List.setIfInBounds_toArray, List.set_cons_zero, List.set_cons_succ]
      refine wpAnyH_take (i := 25) (oi := { dst := some 75, op := Op.load 26 (Operand.tmp 3), type := 26, pos := "law.go:81", after := #[{ on := 22, ground := Ground.guard }], guard := some (22, true) }) (v := undef) rfl (by kernel_rfl) (by kernel_rfl) (by kernel_rfl) (fun _ _ _ h => h) (Or.inr ⟨by rfl, rfl⟩) (by assumption) ?_
      try simp only [Act.put, List.setIfInBounds_toArray, List.set_cons_zero, List.set_cons_succ]
      refine wpAnyH_take (i := 26) (oi := { dst := some 76, op := Op.binOp BinOp.eql 26 (Operand.tmp 74) (Operand.tmp 75) 26, type := 4, pos := "law.go:81", after := #[{ on := 24, ground := Ground.data }, { on := 25, ground := Ground.data }, { on := 22, ground := Ground.guard }], guard := some (22, true) }) (v := undef) rfl (by kernel_rfl) (by kernel_rfl) (by kernel_rfl) (fun _ _ _ h => h) (Or.inr ⟨by rfl, rfl⟩) (by assumption) ?_
      try simp only [Act.put, List.setIfInBounds_toArray, List.set_cons_zero, List.set_cons_succ]
      refine wpAnyH_take (i := 27) (oi := { dst := some 77, op := Op.pick (Operand.tmp 72) (Operand.tmp 76) (Operand.const (Value.bool false)), type := 4, pos := "law.go:81", after := #[{ on := 22, ground := Ground.data }, { on := 26, ground := Ground.data }, { on := 19, ground := Ground.guard }], guard := some (19, false) }) (v := undef) rfl (by kernel_rfl) (by kernel_rfl) (by kernel_rfl) (fun _ _ _ h => h) (Or.inr ⟨by rfl, rfl⟩) (by assumption) ?_
      try simp only [Act.put, List.setIfInBounds_toArray, List.set_cons_zero, List.set_cons_succ]
      refine wpAnyH_take (i := 28) (oi := { dst := some 78, op := Op.pick (Operand.tmp 69) (Operand.const (Value.bool true)) (Operand.tmp 77), type := 4, pos := "law.go:81", after := #[{ on := 19, ground := Ground.data }, { on := 27, ground := Ground.data }, { on := 14, ground := Ground.guard }], guard := some (14, true) }) (v := ?_) rfl (by kernel_rfl) (by kernel_rfl) (by kernel_rfl) (fun _ _ _ h => h) (Or.inl ⟨by rfl, ?_⟩) (by assumption) ?_
      rotate_left
      · (intro w hSw; (try dsimp only at hSw); go_simp <;> with_reducible rfl)
      try simp only [Act.put, List.setIfInBounds_toArray, List.set_cons_zero, List.set_cons_succ]
      refine wpAnyH_take (i := 29) (oi := { dst := some 79, op := Op.pick (Operand.tmp 64) (Operand.tmp 78) (Operand.const (Value.bool false)), type := 4, pos := "law.go:81", after := #[{ on := 14, ground := Ground.data }, { on := 28, ground := Ground.data }], guard := none }) (v := ?_) rfl (by kernel_rfl) (by kernel_rfl) (by kernel_rfl) (fun _ _ _ h => h) (Or.inl ⟨by rfl, ?_⟩) (by assumption) ?_
      rotate_left
      · (intro w hSw; (try dsimp only at hSw); go_simp <;> with_reducible rfl)
      try simp only [Act.put, List.setIfInBounds_toArray, List.set_cons_zero, List.set_cons_succ]
      refine wpAnyH_take (i := 30) (oi := { dst := some 80, op := Op.move (Operand.tmp 79), type := 4, pos := "law.go:81", after := #[{ on := 29, ground := Ground.data }, { on := 24, ground := Ground.chain }], guard := none }) (v := ?_) rfl (by kernel_rfl) (by kernel_rfl) (by kernel_rfl) (fun _ _ _ h => h) (Or.inl ⟨by rfl, ?_⟩) (by assumption) ?_
      rotate_left
      · (intro w hSw; (try dsimp only at hSw); go_simp <;> with_reducible rfl)
      try simp only [Act.put, List.setIfInBounds_toArray, List.set_cons_zero, List.set_cons_succ]
      refine wpAnyH_ready (rs := [31]) (by kernel_rfl) (by simp) ?_
      refine AllReadyH.cons (o := { dst := some 81, op := Op.call { callee := Callee.value (Operand.func 4), args := #[], argTypes := #[] }, type := 4, pos := "law.go:81", after := #[{ on := 30, ground := Ground.chain }, { on := 30, ground := Ground.guard }], guard := some (30, true) }) rfl (fun K hK => ?_) AllReadyH.nil
      go_simp
      go_at_call 4
      with_reducible refine (KN.out _).mono ?_
      rintro r w' ⟨rfl, hb⟩
      replace hG := hG.trans (hb.mono hG.size)
      clear hb
      refine hK.out _ _ (HKP.out _ hG) (fun hHeld => ?_)
      clear hK K
      try simp only [Act.put, List.setIfInBounds_toArray, List.set_cons_zero, List.set_cons_succ]
      refine wpAnyH_take (i := 32) (oi := { dst := some 82, op := Op.pick (Operand.tmp 80) (Operand.tmp 81) (Operand.const (Value.bool false)), type := 4, pos := "law.go:81", after := #[{ on := 30, ground := Ground.data }, { on := 31, ground := Ground.data }], guard := none }) (v := ?_) rfl (by kernel_rfl) (by kernel_rfl) (by kernel_rfl) (fun _ _ _ h => h) (Or.inl ⟨by rfl, ?_⟩) (by assumption) ?_
      rotate_left
      · (intro w hSw; (try dsimp only at hSw); go_simp <;> with_reducible rfl)
      try simp only [Act.put, List.setIfInBounds_toArray, List.set_cons_zero, List.set_cons_succ]
      refine wpAnyH_take (i := 33) (oi := { dst := some 6, op := Op.assign (Operand.tmp 82), type := 4, pos := "law.go:81", after := #[{ on := 32, ground := Ground.data }, { on := 31, ground := Ground.chain }, { on := 0, ground := Ground.phase }, { on := 1, ground := Ground.phase }, { on := 2, ground := Ground.phase }, { on := 3, ground := Ground.phase }, { on := 4, ground := Ground.phase }, { on := 5, ground := Ground.phase }, { on := 6, ground := Ground.phase }, { on := 7, ground := Ground.phase }, { on := 8, ground := Ground.phase }, { on := 9, ground := Ground.phase }, { on := 10, ground := Ground.phase }, { on := 11, ground := Ground.phase }, { on := 12, ground := Ground.phase }, { on := 13, ground := Ground.phase }, { on := 14, ground := Ground.phase }, { on := 15, ground := Ground.phase }, { on := 16, ground := Ground.phase }, { on := 17, ground := Ground.phase }, { on := 18, ground := Ground.phase }, { on := 19, ground := Ground.phase }, { on := 20, ground := Ground.phase }, { on := 21, ground := Ground.phase }, { on := 22, ground := Ground.phase }, { on := 23, ground := Ground.phase }, { on := 24, ground := Ground.phase }, { on := 25, ground := Ground.phase }, { on := 26, ground := Ground.phase }, { on := 27, ground := Ground.phase }, { on := 28, ground := Ground.phase }, { on := 29, ground := Ground.phase }, { on := 30, ground := Ground.phase }, { on := 31, ground := Ground.phase }, { on := 32, ground := Ground.phase }], guard := none }) (v := ?_) rfl (by kernel_rfl) (by kernel_rfl) (by kernel_rfl) (fun _ _ _ h => h) (Or.inl ⟨by rfl, ?_⟩) (by assumption) ?_
      rotate_left
      · (intro w hSw; (try dsimp only at hSw); go_simp <;> with_reducible rfl)
      try simp only [Act.put, List.setIfInBounds_toArray, List.set_cons_zero, List.set_cons_succ]
      refine wpAnyH_done (by kernel_rfl) ?_ _
      have hF := HB9.out.trans (Below.mono ⟨hG.os, hG.tape, hG.output, hG.size, hG.block⟩ HB9.out.size)
      have HF := Lib.hid hF
      clear hF hG
      go_wp2
      go_ret
      exact ⟨rfl, HF.out⟩
    · have hf2 : (f == 2) = false := by rw [← hrf]; exact hr0
      have hr1 : (r != 0) = true := by simp only [bne, hr0]; rfl
      clear hrf
      go_region_held3 (fun w' => (w'.cell? ⟨w.heap.size, 0, none⟩ = some (.int .u64 (o.a : Int)) ∧ w'.cell? ⟨w.heap.size, 1, none⟩ = some (.int .u64 (o.b : Int)) ∧ w'.cell? ⟨w.heap.size, 2, none⟩ = some (.int .u64 (o.c : Int)) ∧ w'.cell? ⟨w.heap.size, 3, none⟩ = some (.int .u64 (o.d : Int)) ∧ w'.cell? ⟨w.heap.size, 4, none⟩ = some (.int .u64 (o.e : Int)) ∧ w'.cell? ⟨w.heap.size + 1, 0, none⟩ = some (.int .u64 (m.a : Int)) ∧ w'.cell? ⟨w.heap.size + 1, 1, none⟩ = some (.int .u64 (m.b : Int)) ∧ w'.cell? ⟨w.heap.size + 1, 2, none⟩ = some (.int .u64 (m.c : Int)) ∧ w'.cell? ⟨w.heap.size + 1, 3, none⟩ = some (.int .u64 (m.d : Int)) ∧ w'.cell? ⟨w.heap.size + 1, 4, none⟩ = some (.int .u64 (m.e : Int)) ∧ w'.cell? ⟨w.heap.size + 1 + 1, 0, none⟩ = some (.int .i64 f) ∧ w'.cell? ⟨q, 0, none⟩ = some (.int .u64 (c.a : Int)) ∧ w'.cell? ⟨q, 1, none⟩ = some (.int .u64 (c.b : Int)) ∧ w'.cell? ⟨q, 2, none⟩ = some (.int .u64 (c.c : Int)) ∧ w'.cell? ⟨q, 3, none⟩ = some (.int .u64 (c.d : Int)) ∧ w'.cell? ⟨q, 4, none⟩ = some (.int .u64 (c.e : Int))))
        (exact HKP.out _ hG)
        (first
        | (go_at_call 12; with_reducible refine (HT.out _).mono ?_; rintro r w' ⟨rfl, hb⟩; replace hG := hG.trans (hb.mono hG.size); clear hb)
        | (go_at_call 4; with_reducible refine (KN.out _).mono ?_; rintro r w' ⟨rfl, hb⟩; replace hG := hG.trans (hb.mono hG.size); clear hb))
      rename_i hHeld
      clear hHeld
      have hF := HB9.out.trans (Below.mono ⟨hG.os, hG.tape, hG.output, hG.size, hG.block⟩ HB9.out.size)
      have HF := Lib.hid hF
      clear hF hG
      go_wp2
      go_ret
      exact ⟨rfl, HF.out⟩
end Go.Proofs.YtodcdefmoliegaaDoor
/-
  A map as an argument: opened and shut.
-/
namespace Go.Proofs.YtodcdefmoliegaaDoor
open Go.ChangeShapes Go.WideShapes Go.ChangeAt Go.RowKit
set_option linter.unusedVariables false
set_option linter.unusedSimpArgs false

def msetD {H : Type} (a b : Nat) : DataW H := .agg [.lit (.int .u64 (a : Int)), .lit (.int .u64 (b : Int))]
def mapD {H : Type} (a b c d e : Nat) : DataW H := .agg [msetD a b, msetD c d, .lit (.int .u64 (e : Int))]
theorem mu64_nat {x : Int} (h : (Lit.int .u64 x).wf = true) : ∃ n : Nat, x = (n : Int) ∧ n < 18446744073709551616 := by
  have := h
  have m0 : IntKind.u64.min = 0 := rfl
  have m1 : IntKind.u64.max = 18446744073709551615 := rfl
  simp [Lit.wf] at this
  exact ⟨x.toNat, by omega, by omega⟩
def W64 (n : Nat) : Prop := n < 18446744073709551616 ∧ (Lit.int .u64 (n : Int)).wf = true

section
variable {H : Type} {enc : TypeId × Value → H} {w : World} {base : Nat} {spare : Nat → Bool} {held : Bool}

theorem trod_mset {n : Nat} {c0 c1 : Value} {y : DataW H × List MemPlace} (h : DataW.trod enc Tryd.prog w base spare held n 24 [c0, c1] = some y) :
    ∃ a b : Nat, c0 = .int .u64 (a : Int) ∧ c1 = .int .u64 (b : Int) ∧ y = (msetD a b, []) ∧ W64 a ∧ W64 b := by
  obtain ⟨xs, m, _, hx, _, hlen, hfs⟩ := DataW.trod_array Tryd.underlying24 h
  match xs, hlen with
  | [y0, y1], _ =>
  have h0 := hfs 0 (by omega)
  have h1 := hfs 1 (by omega)
  simp only [List.getElem?_cons_zero, List.getElem?_cons_succ] at h0 h1
  obtain ⟨N, e0, rfl, w0⟩ := DataW.trod_int Tryd.underlying22 h0
  obtain ⟨F, e1, rfl, w1⟩ := DataW.trod_int Tryd.underlying22 h1
  have k3 : Tryd.prog.cellsOf 22 = 1 := by kernel_rfl
  simp [Value.cells, k3] at e0 e1
  subst e0 e1 hx
  obtain ⟨a, rfl, ha⟩ := mu64_nat w0
  obtain ⟨b, rfl, hb⟩ := mu64_nat w1
  exact ⟨a, b, rfl, rfl, rfl, ⟨ha, w0⟩, ⟨hb, w1⟩⟩

set_option maxRecDepth 100000 in
theorem open_map {r : Reach} {b0 : Nat} {v : Value} {d : DataW H} {ps : List MemPlace} (hval : Value.okWide Tryd.prog w r b0 26 v) (hd : DataW.Trod enc Tryd.prog w base spare held 26 v d ps) :
    ∃ a b c g e : Nat, v = mapV a b c g e ∧ d = mapD a b c g e ∧ ps = [] ∧ W64 a ∧ W64 b ∧ W64 c ∧ W64 g ∧ W64 e := by
  obtain ⟨cs, rfl, hsz⟩ := okWide_struct Tryd.underlying26 hval
  rw [show Tryd.prog.cellsOf 26 = 5 from by kernel_rfl] at hsz
  obtain ⟨l⟩ := cs
  match l, hsz with
  | [c0, c1, c2, c3, c4], _ =>
  obtain ⟨fuel, hf⟩ := hd
  obtain ⟨xs, n, _, hx, _, hlen, hfs⟩ := DataW.trod_struct Tryd.underlying26 hf
  match xs, hlen with
  | [y0, y1, y2], _ =>
  have h0 := hfs 0 _ rfl
  have h1 := hfs 1 _ rfl
  have h2 := hfs 2 _ rfl
  simp only [List.getElem?_cons_zero, List.getElem?_cons_succ] at h0 h1 h2
  have k34 : Tryd.prog.cellsOf 22 = 1 := by kernel_rfl
  have k33 : Tryd.prog.cellsOf 24 = 2 := by kernel_rfl
  obtain ⟨E, e2, rfl, w2⟩ := DataW.trod_int Tryd.underlying22 h2
  have h0' : DataW.trod enc Tryd.prog w base spare held n 24 [c0, c1] = some y0 := by
    have := h0
    simpa [Value.cells, k33] using this
  have h1' : DataW.trod enc Tryd.prog w base spare held n 24 [c2, c3] = some y1 := by
    have := h1
    simpa [Value.cells, k33] using this
  obtain ⟨a, b, rfl, rfl, rfl, wa, wb⟩ := trod_mset h0'
  obtain ⟨c, g, rfl, rfl, rfl, wc, wg⟩ := trod_mset h1'
  simp [Value.cells, k34] at e2
  subst e2
  obtain ⟨e, rfl, he⟩ := mu64_nat w2
  simp only [Prod.mk.injEq] at hx
  obtain ⟨rfl, rfl⟩ := hx
  exact ⟨a, b, c, g, e, rfl, rfl, rfl, wa, wb, wc, wg, ⟨he, w2⟩⟩

set_option maxRecDepth 100000 in
theorem shut_map {a b c g e : Nat} (wa : W64 a) (wb : W64 b) (wc : W64 c) (wg : W64 g) (we : W64 e) :
    DataW.Trod enc Tryd.prog w base spare held 26 (mapV a b c g e) (mapD a b c g e) [] := by
  refine ⟨3, ?_⟩
  have k34 : Tryd.prog.cellsOf 22 = 1 := by kernel_rfl
  have k33 : Tryd.prog.cellsOf 24 = 2 := by kernel_rfl
  have hset : ∀ {x y : Nat}, W64 x → W64 y → DataW.trod enc Tryd.prog w base spare held 2 24 [.int .u64 (x : Int), .int .u64 (y : Int)] = some (msetD x y, []) := fun {x y} hx hy => by
    simp [DataW.trod, msetD, Tryd.underlying24, Tryd.underlying22, k34, k33, hx.2, hy.2, show List.range 2 = [0, 1] from rfl]
  have := trod_struct_mk (enc := enc) (P := Tryd.prog) (w := w) (base := base) (spare := spare) (held := held) (n := 2) (cs := [.int .u64 (a : Int), .int .u64 (b : Int), .int .u64 (c : Int), .int .u64 (g : Int), .int .u64 (e : Int)])
    (xs := [(msetD a b, []), (msetD c g, []), (.lit (.int .u64 (e : Int)), [])]) Tryd.underlying26 (by kernel_rfl) (by
      have h1 := hset wa wb
      have h2 := hset wc wg
      simp [k33, k34, trod_int_mk 1 Tryd.underlying22 we.2]
      rw [h1, h2]
      rfl)
  simpa [Value.cells, mapV, mapD] using this
end
end Go.Proofs.YtodcdefmoliegaaDoor
/-
  DirtyKeeps' arguments, opened.
-/
namespace Go.Proofs.YtodcdefmoliegaaDoor
open Go.RowKit Go.ChangeShapes Go.WideShapes Go.ChangeAt
set_option linter.unusedVariables false
set_option linter.unusedSimpArgs false

theorem sbl_of_bools {W : World} {a : Addr} {len cap : Nat} {F : Nat → Bool} (hl : len ≤ cap) (hm : cap ≤ maxLen) (hc : ∀ i, i < cap → W.cell? (a.add i) = some (.bool (F i))) :
    Bl W (some a) len ((List.range len).map F) ∧ ∀ b off, some a = some (⟨b, off, none⟩ : Addr) → 0 < len → b < W.heap.size := by
  have hz : 0 < len → a.spot = none := fun h0 => by
    have := hc 0 (by omega)
    simpa [Addr.add] using World.cell?_spot this
  have hlt : 0 < len → a.block < W.heap.size := fun h0 => by
    have := World.block_lt_of_cell? W _ (hc 0 (by omega))
    rwa [add_block] at this
  refine ⟨⟨by simp, by unfold maxLen at hm; omega, fun h0 => ?_⟩, fun b off e h0 => by cases e; exact hlt h0⟩
  obtain ⟨b, off, sp⟩ := a
  obtain rfl : sp = none := hz h0
  refine ⟨b, off, rfl, hlt h0, fun i hi => ?_⟩
  have := hc i (by omega)
  rw [Addr.add_none] at this
  rw [this]
  simp [hi]

set_option maxRecDepth 100000 in
theorem open_crash {H : Type} {enc : TypeId × Value → H} {W : World} {r : Reach} {b0 : Nat} {v : Value} {d : DataW H} {ps : List MemPlace} (hval : Value.okWide Tryd.prog W r b0 29 v) (hd : DataW.Trod enc Tryd.prog W 0 (fun _ => true) true 29 v d ps) :
    ∃ f ak nk ck K, v = .agg #[.int .i64 f, .slice ak nk ck] ∧ Bl W ak nk K := by
  obtain ⟨cs, rfl, hsz⟩ := okWide_struct Tryd.underlying29 hval
  rw [show Tryd.prog.cellsOf 29 = 2 from by kernel_rfl] at hsz
  obtain ⟨l⟩ := cs
  match l, hsz with
  | [c0, c1], _ =>
  obtain ⟨fuel, hf⟩ := hd
  obtain ⟨xs, n, _, hx, _, hlen, hfs⟩ := DataW.trod_struct Tryd.underlying29 hf
  match xs, hlen with
  | [y0, y1], _ =>
  have h0 := hfs 0 _ rfl
  have h1 := hfs 1 _ rfl
  simp only [List.getElem?_cons_zero, List.getElem?_cons_succ] at h0 h1
  have k3 : Tryd.prog.cellsOf 3 = 1 := by kernel_rfl
  have kb : Tryd.prog.cellsOf 27 = 1 := by kernel_rfl
  obtain ⟨f, e0, rfl, w0⟩ := DataW.trod_int Tryd.underlying3 h0
  simp [Value.cells, k3] at e0
  subst e0
  rcases Go.Deep.open_bools Tryd.underlying27 Tryd.underlying4 (by kernel_rfl) h1 with ⟨q3, _⟩ | ⟨a3, l3, c3', F, q3, _, hl3, hm3, _, hc3⟩
  · simp [Value.cells, k3, kb] at q3
    subst q3
    exact ⟨f, none, 0, 0, [], rfl, ⟨rfl, Nat.zero_le _, fun h => by simp at h⟩⟩
  · simp [Value.cells, k3, kb] at q3
    subst q3
    exact ⟨f, some a3, l3, c3', _, rfl, (sbl_of_bools hl3 hm3 hc3).1⟩

theorem dkeeps_call (a b c d e a' b' c' d' e' : Nat) (f : Int) (ak : Option Addr) (nk ck : Nat) (K : List Bool) (w : World) (h : W64 a ∧ W64 b ∧ W64 c ∧ W64 d ∧ W64 e) (h' : W64 a' ∧ W64 b' ∧ W64 c' ∧ W64 d' ∧ W64 e') (hK : Bl w ak nk K) :
    Calls Tryd.prog 3 #[mapV a b c d e, mapV a' b' c' d' e', .agg #[.int .i64 f, .slice ak nk ck]] w fun e w' => e = .returned (.bool true) ∧ Below w.heap.size w w' :=
  dkeeps_walk ⟨a, b, c, d, e⟩ ⟨a', b', c', d', e'⟩ f ak nk ck K w ⟨h.1.1, h.2.1.1, h.2.2.1.1, h.2.2.2.1.1, h.2.2.2.2.1⟩ ⟨h'.1.1, h'.2.1.1, h'.2.2.1.1, h'.2.2.2.1.1, h'.2.2.2.2.1⟩ hK
end Go.Proofs.YtodcdefmoliegaaDoor

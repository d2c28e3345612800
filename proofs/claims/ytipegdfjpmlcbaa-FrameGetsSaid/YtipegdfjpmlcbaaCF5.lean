/-
  Frames compared: the document's.
-/
import Derived.Test.YtipegdfjpmlcbaaCF4
namespace Go.Proofs.Ytipegdfjpmlcbaa
open Go.RowKit
set_option linter.unusedVariables false
set_option linter.unusedSimpArgs false

set_option maxRecDepth 20000 in
set_option maxHeartbeats 1000000 in
theorem ral_0 (k s e q v n f i c k' s' e' q' v' n' f' i' c' : Int) (d1 d2 : List UInt8) (lx ly : Value) (w : World) (hne : k ≠ k') :
    Calls Try.prog 11 #[.agg #[.int .i64 k, .int .u64 s, .int .u64 e, .int .u32 q, .int .u32 v, .int .i64 n, .int .i64 f, .int .i64 i, .int .i64 c, strV d1, lx], .agg #[.int .i64 k', .int .u64 s', .int .u64 e', .int .u32 q', .int .u32 v', .int .i64 n', .int .i64 f', .int .i64 i', .int .i64 c', strV d2, ly]] w fun e w' => e = .returned (.bool false) ∧ Below w.heap.size w w' := by
  have h0 : (k == k') = false := by simpa using hne
  obtain ⟨D1, hD1⟩ : ∃ D, D = strV d1 := ⟨_, rfl⟩
  obtain ⟨D2, hD2⟩ : ∃ D, D = strV d2 := ⟨_, rfl⟩
  rw [← hD1, ← hD2]
  have HB := Lib.hid ((((Below.refl w.heap.size w).alloc (Nat.le_refl _) (.cells #[.int .i64 k, .int .u64 s, .int .u64 e, .int .u32 q, .int .u32 v, .int .i64 n, .int .i64 f, .int .i64 i, .int .i64 c, D1, lx] 26)).alloc (by simp) (.cells #[.int .i64 k', .int .u64 s', .int .u64 e', .int .u32 q', .int .u32 v', .int .i64 n', .int .i64 f', .int .i64 i', .int .i64 c', D2, ly] 26)))
  clear hne hD1 hD2
  go_enter Try.func11, Try.ntmps11
  go_wp2
  go_ret
  exact ⟨rfl, HB.out⟩

set_option maxRecDepth 20000 in
set_option maxHeartbeats 1000000 in
theorem ral_1 (k s e q v n f i c s' e' q' v' n' f' i' c' : Int) (d1 d2 : List UInt8) (lx ly : Value) (w : World) (hne : s ≠ s') :
    Calls Try.prog 11 #[.agg #[.int .i64 k, .int .u64 s, .int .u64 e, .int .u32 q, .int .u32 v, .int .i64 n, .int .i64 f, .int .i64 i, .int .i64 c, strV d1, lx], .agg #[.int .i64 k, .int .u64 s', .int .u64 e', .int .u32 q', .int .u32 v', .int .i64 n', .int .i64 f', .int .i64 i', .int .i64 c', strV d2, ly]] w fun e w' => e = .returned (.bool false) ∧ Below w.heap.size w w' := by
  have h0 : (s == s') = false := by simpa using hne
  obtain ⟨D1, hD1⟩ : ∃ D, D = strV d1 := ⟨_, rfl⟩
  obtain ⟨D2, hD2⟩ : ∃ D, D = strV d2 := ⟨_, rfl⟩
  rw [← hD1, ← hD2]
  have HB := Lib.hid ((((Below.refl w.heap.size w).alloc (Nat.le_refl _) (.cells #[.int .i64 k, .int .u64 s, .int .u64 e, .int .u32 q, .int .u32 v, .int .i64 n, .int .i64 f, .int .i64 i, .int .i64 c, D1, lx] 26)).alloc (by simp) (.cells #[.int .i64 k, .int .u64 s', .int .u64 e', .int .u32 q', .int .u32 v', .int .i64 n', .int .i64 f', .int .i64 i', .int .i64 c', D2, ly] 26)))
  clear hne hD1 hD2
  go_enter Try.func11, Try.ntmps11
  go_wp2
  go_ret
  exact ⟨rfl, HB.out⟩

set_option maxRecDepth 20000 in
set_option maxHeartbeats 1000000 in
theorem ral_2 (k s e q v n f i c e' q' v' n' f' i' c' : Int) (d1 d2 : List UInt8) (lx ly : Value) (w : World) (hne : e ≠ e') :
    Calls Try.prog 11 #[.agg #[.int .i64 k, .int .u64 s, .int .u64 e, .int .u32 q, .int .u32 v, .int .i64 n, .int .i64 f, .int .i64 i, .int .i64 c, strV d1, lx], .agg #[.int .i64 k, .int .u64 s, .int .u64 e', .int .u32 q', .int .u32 v', .int .i64 n', .int .i64 f', .int .i64 i', .int .i64 c', strV d2, ly]] w fun e w' => e = .returned (.bool false) ∧ Below w.heap.size w w' := by
  have h0 : (e == e') = false := by simpa using hne
  obtain ⟨D1, hD1⟩ : ∃ D, D = strV d1 := ⟨_, rfl⟩
  obtain ⟨D2, hD2⟩ : ∃ D, D = strV d2 := ⟨_, rfl⟩
  rw [← hD1, ← hD2]
  have HB := Lib.hid ((((Below.refl w.heap.size w).alloc (Nat.le_refl _) (.cells #[.int .i64 k, .int .u64 s, .int .u64 e, .int .u32 q, .int .u32 v, .int .i64 n, .int .i64 f, .int .i64 i, .int .i64 c, D1, lx] 26)).alloc (by simp) (.cells #[.int .i64 k, .int .u64 s, .int .u64 e', .int .u32 q', .int .u32 v', .int .i64 n', .int .i64 f', .int .i64 i', .int .i64 c', D2, ly] 26)))
  clear hne hD1 hD2
  go_enter Try.func11, Try.ntmps11
  go_wp2
  go_ret
  exact ⟨rfl, HB.out⟩

set_option maxRecDepth 20000 in
set_option maxHeartbeats 1000000 in
theorem ral_3 (k s e q v n f i c q' v' n' f' i' c' : Int) (d1 d2 : List UInt8) (lx ly : Value) (w : World) (hne : q ≠ q') :
    Calls Try.prog 11 #[.agg #[.int .i64 k, .int .u64 s, .int .u64 e, .int .u32 q, .int .u32 v, .int .i64 n, .int .i64 f, .int .i64 i, .int .i64 c, strV d1, lx], .agg #[.int .i64 k, .int .u64 s, .int .u64 e, .int .u32 q', .int .u32 v', .int .i64 n', .int .i64 f', .int .i64 i', .int .i64 c', strV d2, ly]] w fun e w' => e = .returned (.bool false) ∧ Below w.heap.size w w' := by
  have h0 : (q == q') = false := by simpa using hne
  obtain ⟨D1, hD1⟩ : ∃ D, D = strV d1 := ⟨_, rfl⟩
  obtain ⟨D2, hD2⟩ : ∃ D, D = strV d2 := ⟨_, rfl⟩
  rw [← hD1, ← hD2]
  have HB := Lib.hid ((((Below.refl w.heap.size w).alloc (Nat.le_refl _) (.cells #[.int .i64 k, .int .u64 s, .int .u64 e, .int .u32 q, .int .u32 v, .int .i64 n, .int .i64 f, .int .i64 i, .int .i64 c, D1, lx] 26)).alloc (by simp) (.cells #[.int .i64 k, .int .u64 s, .int .u64 e, .int .u32 q', .int .u32 v', .int .i64 n', .int .i64 f', .int .i64 i', .int .i64 c', D2, ly] 26)))
  clear hne hD1 hD2
  go_enter Try.func11, Try.ntmps11
  go_wp2
  go_ret
  exact ⟨rfl, HB.out⟩

set_option maxRecDepth 20000 in
set_option maxHeartbeats 1000000 in
theorem ral_4 (k s e q v n f i c v' n' f' i' c' : Int) (d1 d2 : List UInt8) (lx ly : Value) (w : World) (hne : v ≠ v') :
    Calls Try.prog 11 #[.agg #[.int .i64 k, .int .u64 s, .int .u64 e, .int .u32 q, .int .u32 v, .int .i64 n, .int .i64 f, .int .i64 i, .int .i64 c, strV d1, lx], .agg #[.int .i64 k, .int .u64 s, .int .u64 e, .int .u32 q, .int .u32 v', .int .i64 n', .int .i64 f', .int .i64 i', .int .i64 c', strV d2, ly]] w fun e w' => e = .returned (.bool false) ∧ Below w.heap.size w w' := by
  have h0 : (v == v') = false := by simpa using hne
  obtain ⟨D1, hD1⟩ : ∃ D, D = strV d1 := ⟨_, rfl⟩
  obtain ⟨D2, hD2⟩ : ∃ D, D = strV d2 := ⟨_, rfl⟩
  rw [← hD1, ← hD2]
  have HB := Lib.hid ((((Below.refl w.heap.size w).alloc (Nat.le_refl _) (.cells #[.int .i64 k, .int .u64 s, .int .u64 e, .int .u32 q, .int .u32 v, .int .i64 n, .int .i64 f, .int .i64 i, .int .i64 c, D1, lx] 26)).alloc (by simp) (.cells #[.int .i64 k, .int .u64 s, .int .u64 e, .int .u32 q, .int .u32 v', .int .i64 n', .int .i64 f', .int .i64 i', .int .i64 c', D2, ly] 26)))
  clear hne hD1 hD2
  go_enter Try.func11, Try.ntmps11
  go_wp2
  go_ret
  exact ⟨rfl, HB.out⟩

set_option maxRecDepth 20000 in
set_option maxHeartbeats 1000000 in
theorem ral_5 (k s e q v n f i c n' f' i' c' : Int) (d1 d2 : List UInt8) (lx ly : Value) (w : World) (hne : n ≠ n') :
    Calls Try.prog 11 #[.agg #[.int .i64 k, .int .u64 s, .int .u64 e, .int .u32 q, .int .u32 v, .int .i64 n, .int .i64 f, .int .i64 i, .int .i64 c, strV d1, lx], .agg #[.int .i64 k, .int .u64 s, .int .u64 e, .int .u32 q, .int .u32 v, .int .i64 n', .int .i64 f', .int .i64 i', .int .i64 c', strV d2, ly]] w fun e w' => e = .returned (.bool false) ∧ Below w.heap.size w w' := by
  have h0 : (n == n') = false := by simpa using hne
  obtain ⟨D1, hD1⟩ : ∃ D, D = strV d1 := ⟨_, rfl⟩
  obtain ⟨D2, hD2⟩ : ∃ D, D = strV d2 := ⟨_, rfl⟩
  rw [← hD1, ← hD2]
  have HB := Lib.hid ((((Below.refl w.heap.size w).alloc (Nat.le_refl _) (.cells #[.int .i64 k, .int .u64 s, .int .u64 e, .int .u32 q, .int .u32 v, .int .i64 n, .int .i64 f, .int .i64 i, .int .i64 c, D1, lx] 26)).alloc (by simp) (.cells #[.int .i64 k, .int .u64 s, .int .u64 e, .int .u32 q, .int .u32 v, .int .i64 n', .int .i64 f', .int .i64 i', .int .i64 c', D2, ly] 26)))
  clear hne hD1 hD2
  go_enter Try.func11, Try.ntmps11
  go_wp2
  go_ret
  exact ⟨rfl, HB.out⟩

set_option maxRecDepth 20000 in
set_option maxHeartbeats 1000000 in
theorem ral_6 (k s e q v n f i c f' i' c' : Int) (d1 d2 : List UInt8) (lx ly : Value) (w : World) (hne : f ≠ f') :
    Calls Try.prog 11 #[.agg #[.int .i64 k, .int .u64 s, .int .u64 e, .int .u32 q, .int .u32 v, .int .i64 n, .int .i64 f, .int .i64 i, .int .i64 c, strV d1, lx], .agg #[.int .i64 k, .int .u64 s, .int .u64 e, .int .u32 q, .int .u32 v, .int .i64 n, .int .i64 f', .int .i64 i', .int .i64 c', strV d2, ly]] w fun e w' => e = .returned (.bool false) ∧ Below w.heap.size w w' := by
  have h0 : (f == f') = false := by simpa using hne
  obtain ⟨D1, hD1⟩ : ∃ D, D = strV d1 := ⟨_, rfl⟩
  obtain ⟨D2, hD2⟩ : ∃ D, D = strV d2 := ⟨_, rfl⟩
  rw [← hD1, ← hD2]
  have HB := Lib.hid ((((Below.refl w.heap.size w).alloc (Nat.le_refl _) (.cells #[.int .i64 k, .int .u64 s, .int .u64 e, .int .u32 q, .int .u32 v, .int .i64 n, .int .i64 f, .int .i64 i, .int .i64 c, D1, lx] 26)).alloc (by simp) (.cells #[.int .i64 k, .int .u64 s, .int .u64 e, .int .u32 q, .int .u32 v, .int .i64 n, .int .i64 f', .int .i64 i', .int .i64 c', D2, ly] 26)))
  clear hne hD1 hD2
  go_enter Try.func11, Try.ntmps11
  go_wp2
  go_ret
  exact ⟨rfl, HB.out⟩

set_option maxRecDepth 20000 in
set_option maxHeartbeats 1000000 in
theorem ral_7 (k s e q v n f i c i' c' : Int) (d1 d2 : List UInt8) (lx ly : Value) (w : World) (hne : i ≠ i') :
    Calls Try.prog 11 #[.agg #[.int .i64 k, .int .u64 s, .int .u64 e, .int .u32 q, .int .u32 v, .int .i64 n, .int .i64 f, .int .i64 i, .int .i64 c, strV d1, lx], .agg #[.int .i64 k, .int .u64 s, .int .u64 e, .int .u32 q, .int .u32 v, .int .i64 n, .int .i64 f, .int .i64 i', .int .i64 c', strV d2, ly]] w fun e w' => e = .returned (.bool false) ∧ Below w.heap.size w w' := by
  have h0 : (i == i') = false := by simpa using hne
  obtain ⟨D1, hD1⟩ : ∃ D, D = strV d1 := ⟨_, rfl⟩
  obtain ⟨D2, hD2⟩ : ∃ D, D = strV d2 := ⟨_, rfl⟩
  rw [← hD1, ← hD2]
  have HB := Lib.hid ((((Below.refl w.heap.size w).alloc (Nat.le_refl _) (.cells #[.int .i64 k, .int .u64 s, .int .u64 e, .int .u32 q, .int .u32 v, .int .i64 n, .int .i64 f, .int .i64 i, .int .i64 c, D1, lx] 26)).alloc (by simp) (.cells #[.int .i64 k, .int .u64 s, .int .u64 e, .int .u32 q, .int .u32 v, .int .i64 n, .int .i64 f, .int .i64 i', .int .i64 c', D2, ly] 26)))
  clear hne hD1 hD2
  go_enter Try.func11, Try.ntmps11
  go_wp2
  go_ret
  exact ⟨rfl, HB.out⟩

set_option maxRecDepth 20000 in
set_option maxHeartbeats 1000000 in
theorem ral_8 (k s e q v n f i c c' : Int) (d1 d2 : List UInt8) (lx ly : Value) (w : World) (hne : c ≠ c') :
    Calls Try.prog 11 #[.agg #[.int .i64 k, .int .u64 s, .int .u64 e, .int .u32 q, .int .u32 v, .int .i64 n, .int .i64 f, .int .i64 i, .int .i64 c, strV d1, lx], .agg #[.int .i64 k, .int .u64 s, .int .u64 e, .int .u32 q, .int .u32 v, .int .i64 n, .int .i64 f, .int .i64 i, .int .i64 c', strV d2, ly]] w fun e w' => e = .returned (.bool false) ∧ Below w.heap.size w w' := by
  have h0 : (c == c') = false := by simpa using hne
  obtain ⟨D1, hD1⟩ : ∃ D, D = strV d1 := ⟨_, rfl⟩
  obtain ⟨D2, hD2⟩ : ∃ D, D = strV d2 := ⟨_, rfl⟩
  rw [← hD1, ← hD2]
  have HB := Lib.hid ((((Below.refl w.heap.size w).alloc (Nat.le_refl _) (.cells #[.int .i64 k, .int .u64 s, .int .u64 e, .int .u32 q, .int .u32 v, .int .i64 n, .int .i64 f, .int .i64 i, .int .i64 c, D1, lx] 26)).alloc (by simp) (.cells #[.int .i64 k, .int .u64 s, .int .u64 e, .int .u32 q, .int .u32 v, .int .i64 n, .int .i64 f, .int .i64 i, .int .i64 c', D2, ly] 26)))
  clear hne hD1 hD2
  go_enter Try.func11, Try.ntmps11
  go_wp2
  go_ret
  exact ⟨rfl, HB.out⟩

set_option maxRecDepth 20000 in
set_option maxHeartbeats 1000000 in
theorem ral_9 (k s e q v n f i c  : Int) (d1 d2 : List UInt8) (lx ly : Value) (w : World) (hne : d1 ≠ d2) :
    Calls Try.prog 11 #[.agg #[.int .i64 k, .int .u64 s, .int .u64 e, .int .u32 q, .int .u32 v, .int .i64 n, .int .i64 f, .int .i64 i, .int .i64 c, strV d1, lx], .agg #[.int .i64 k, .int .u64 s, .int .u64 e, .int .u32 q, .int .u32 v, .int .i64 n, .int .i64 f, .int .i64 i, .int .i64 c, strV d2, ly]] w fun e w' => e = .returned (.bool false) ∧ Below w.heap.size w w' := by
  obtain ⟨D1, hD1⟩ : ∃ D, D = strV d1 := ⟨_, rfl⟩
  obtain ⟨D2, hD2⟩ : ∃ D, D = strV d2 := ⟨_, rfl⟩
  have q1 := fun w => eql_tx d1 d2 w
  rw [decide_eq_false hne] at q1
  have q2 := fun op u v w => guard_tx op u v d1 d2 w
  rw [← hD1, ← hD2] at q1 q2
  rw [← hD1, ← hD2]
  have HB := Lib.hid ((((Below.refl w.heap.size w).alloc (Nat.le_refl _) (.cells #[.int .i64 k, .int .u64 s, .int .u64 e, .int .u32 q, .int .u32 v, .int .i64 n, .int .i64 f, .int .i64 i, .int .i64 c, D1, lx] 26)).alloc (by simp) (.cells #[.int .i64 k, .int .u64 s, .int .u64 e, .int .u32 q, .int .u32 v, .int .i64 n, .int .i64 f, .int .i64 i, .int .i64 c, D2, ly] 26)))
  clear hne hD1 hD2
  go_enter Try.func11, Try.ntmps11
  go_wp2
  go_ret
  exact ⟨rfl, HB.out⟩

set_option maxRecDepth 20000 in
set_option maxHeartbeats 1000000 in
theorem ral_same (k s e q v n f i c : Int) (d1 : List UInt8) (a b : Option Addr) (n1 m1 ca cb : Nat) (w : World) (r : Bool) (hc : ∀ w', Below w.heap.size w w' → Calls Try.prog 24 #[.slice a n1 ca, .slice b m1 cb] w' fun e w'' => e = .returned (.bool r) ∧ Below w'.heap.size w' w'') :
    Calls Try.prog 11 #[.agg #[.int .i64 k, .int .u64 s, .int .u64 e, .int .u32 q, .int .u32 v, .int .i64 n, .int .i64 f, .int .i64 i, .int .i64 c, strV d1, .slice a n1 ca], .agg #[.int .i64 k, .int .u64 s, .int .u64 e, .int .u32 q, .int .u32 v, .int .i64 n, .int .i64 f, .int .i64 i, .int .i64 c, strV d1, .slice b m1 cb]] w fun e w' => e = .returned (.bool r) ∧ Below w.heap.size w w' := by
  have q1 := fun w => eql_tx d1 d1 w
  rw [decide_eq_true rfl] at q1
  have q2 := fun op u v w => guard_tx op u v d1 d1 w
  obtain ⟨D1, hD1⟩ : ∃ D, D = strV d1 := ⟨_, rfl⟩
  rw [← hD1] at q1 q2
  rw [← hD1]
  have hb : Below w.heap.size w ((w.alloc (.cells #[.int .i64 k, .int .u64 s, .int .u64 e, .int .u32 q, .int .u32 v, .int .i64 n, .int .i64 f, .int .i64 i, .int .i64 c, D1, .slice a n1 ca] 26)).alloc (.cells #[.int .i64 k, .int .u64 s, .int .u64 e, .int .u32 q, .int .u32 v, .int .i64 n, .int .i64 f, .int .i64 i, .int .i64 c, D1, .slice b m1 cb] 26)) := ((Below.refl w.heap.size w).alloc (Nat.le_refl _) _).alloc (by simp) _
  have HC := Lib.hid (hc _ hb)
  have HB := Lib.hid hb
  clear hD1 hc hb
  go_enter Try.func11, Try.ntmps11
  go_wp2_with fail
  refine HC.out.mono ?_
  rintro e1 w3 ⟨rfl, hb3⟩
  have HB3 := Lib.hid (HB.out.trans (hb3.mono HB.out.size))
  clear hb3
  go_wp2
  go_ret
  exact ⟨rfl, HB3.out⟩

theorem ralike_any (x y : FR) (a b : Option Addr) (n m ca cb : Nat) (w : World) (hL : Tx w a n ca x.list) (hM : Tx w b m cb y.list) :
    Calls Try.prog 11 #[frV x (.slice a n ca), frV y (.slice b m cb)] w fun e w' => e = .returned (.bool (decide (x = y))) ∧ Below w.heap.size w w' := by
  have hno : ¬ x = y → ∀ P : Prop, (P → ¬ x = y) → True := fun _ _ _ => trivial
  clear hno
  have hf : ¬ x = y → decide (x = y) = false := fun h => decide_eq_false h
  unfold frV
  by_cases h0 : x.kind = y.kind
  case neg =>
    rw [hf fun e => h0 (by rw [e])]
    exact ral_0 _ _ _ _ _ _ _ _ _ _ _ _ _ _ _ _ _ _ _ _ _ _ w (h0)
  by_cases h1 : x.sess = y.sess
  case neg =>
    rw [hf fun e => h1 (by rw [e])]
    simp only [h0]
    exact ral_1 _ _ _ _ _ _ _ _ _ _ _ _ _ _ _ _ _ _ _ _ _ w (by omega)
  by_cases h2 : x.ep = y.ep
  case neg =>
    rw [hf fun e => h2 (by rw [e])]
    simp only [h0, h1]
    exact ral_2 _ _ _ _ _ _ _ _ _ _ _ _ _ _ _ _ _ _ _ _ w (by omega)
  by_cases h3 : x.seq = y.seq
  case neg =>
    rw [hf fun e => h3 (by rw [e])]
    simp only [h0, h1, h2]
    exact ral_3 _ _ _ _ _ _ _ _ _ _ _ _ _ _ _ _ _ _ _ w (by omega)
  by_cases h4 : x.vol = y.vol
  case neg =>
    rw [hf fun e => h4 (by rw [e])]
    simp only [h0, h1, h2, h3]
    exact ral_4 _ _ _ _ _ _ _ _ _ _ _ _ _ _ _ _ _ _ w (by omega)
  by_cases h5 : x.n = y.n
  case neg =>
    rw [hf fun e => h5 (by rw [e])]
    simp only [h0, h1, h2, h3, h4]
    exact ral_5 _ _ _ _ _ _ _ _ _ _ _ _ _ _ _ _ _ w (h5)
  by_cases h6 : x.f = y.f
  case neg =>
    rw [hf fun e => h6 (by rw [e])]
    simp only [h0, h1, h2, h3, h4, h5]
    exact ral_6 _ _ _ _ _ _ _ _ _ _ _ _ _ _ _ _ w (h6)
  by_cases h7 : x.index = y.index
  case neg =>
    rw [hf fun e => h7 (by rw [e])]
    simp only [h0, h1, h2, h3, h4, h5, h6]
    exact ral_7 _ _ _ _ _ _ _ _ _ _ _ _ _ _ _ w (h7)
  by_cases h8 : x.code = y.code
  case neg =>
    rw [hf fun e => h8 (by rw [e])]
    simp only [h0, h1, h2, h3, h4, h5, h6, h7]
    exact ral_8 _ _ _ _ _ _ _ _ _ _ _ _ _ _ w (h8)
  by_cases h9 : x.data = y.data
  case neg =>
    rw [hf fun e => h9 (by rw [e])]
    simp only [h0, h1, h2, h3, h4, h5, h6, h7, h8]
    exact ral_9 _ _ _ _ _ _ _ _ _ _ _ _ _ w (h9)
  have he : decide (x = y) = decide (x.list = y.list) := by
    by_cases hl : x.list = y.list
    · rw [decide_eq_true hl, decide_eq_true (FR.ext' h0 h1 h2 h3 h4 h5 h6 h7 h8 h9 hl)]
    · rw [decide_eq_false hl, decide_eq_false fun e => hl (by rw [e])]
  rw [he]
  simp only [h0, h1, h2, h3, h4, h5, h6, h7, h8, h9]
  exact ral_same _ _ _ _ _ _ _ _ _ _ a b n m ca cb w _ fun w' hb => rtexts_any a b n m ca cb x.list y.list w' (hL.later hb) (hM.later hb)
end Go.Proofs.Ytipegdfjpmlcbaa


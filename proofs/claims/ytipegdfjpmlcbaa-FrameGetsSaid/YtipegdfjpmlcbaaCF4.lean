/-
  Lists of texts compared; frames compared; the head of a frame.
-/
import Derived.Test.YtipegdfjpmlcbaaCF3
import Derived.RegionTactic
import Derived.BigRegion
namespace Go.Proofs.Ytipegdfjpmlcbaa
open Go.RowKit
set_option linter.unusedVariables false
set_option linter.unusedSimpArgs false

theorem guard_tx (op : BinOp) (x y : Operand) (u s : List UInt8) (w : World) : Sem.run Try.prog (eqGuard op 9 x y (strV u) (strV s)) w = .ok () w := by
  unfold eqGuard strV
  cases op <;> rfl
theorem neq_tx (xs ys : List UInt8) (w : World) : (binOp .neq 9 (strV xs) (strV ys)).run Try.prog w = .ok (.bool (!decide (xs = ys))) w := by
  unfold strV
  go_simp
  by_cases h : xs = ys <;> simp [h]
theorem eql_tx (xs ys : List UInt8) (w : World) : (binOp .eql 9 (strV xs) (strV ys)).run Try.prog w = .ok (.bool (decide (xs = ys))) w := by
  unfold strV
  go_simp
  by_cases h : xs = ys <;> simp [h]
theorem tlist_ext {L M : List (List UInt8)} (hl : L.length = M.length) (h : ∀ i, i < L.length → L[i]?.getD [] = M[i]?.getD []) : L = M := by
  refine List.ext_getElem hl fun i h1 h2 => ?_
  have := h i h1
  rw [List.getElem?_eq_getElem h1, List.getElem?_eq_getElem h2] at this
  exact this

set_option maxRecDepth 20000 in
set_option maxHeartbeats 2000000 in
theorem rtexts_any (a b : Option Addr) (n m ca cb : Nat) (L M : List (List UInt8)) (w : World) (hL : Tx w a n ca L) (hM : Tx w b m cb M) :
    Calls Try.prog 24 #[.slice a n ca, .slice b m cb] w fun e w' => e = .returned (.bool (decide (L = M))) ∧ Below w.heap.size w w' := by
  have hca : (ca : Int) ≤ 9223372036854775807 := by have := hL.cm; unfold maxLen at this; omega
  have hcb : (cb : Int) ≤ 9223372036854775807 := by have := hM.cm; unfold maxLen at this; omega
  have hLl := hL.len
  have hMl := hM.len
  have hna := hL.le
  have hnb := hM.le
  have HL := Lib.hid hL
  have HM := Lib.hid hM
  clear hL hM
  by_cases hnm : n = m
  · subst hnm
    go_enter Try.func24, Try.ntmps24
    go_wp2
    go_loopw [5] (fun i wr => ∃ k : Nat, k ≤ n ∧ i = .int .i64 k ∧ (∀ j, j < k → L[j]?.getD [] = M[j]?.getD []) ∧ Below w.heap.size w wr) (fun i _ => n - (intOf i).toNat)
    case atStart => exact ⟨0, by omega, rfl, fun j hj => by omega, Below.refl _ _⟩
    case round =>
      obtain ⟨k, hk, rfl, hall, hB⟩ := hrel
      have HALL := Lib.hid hall
      clear hall
      by_cases hlt : k < n
      · have i0 : (0 : Int) ≤ (k : Int) := by omega
        have i1 : (k : Int) < (n : Int) := by omega
        obtain ⟨b1, o1, rfl, _, hc1⟩ := (HL.out.later hB.drew).at0 (by omega)
        obtain ⟨b2, o2, rfl, _, hc2⟩ := (HM.out.later hB.drew).at0 (by omega)
        have e1 := hc1 k hlt
        have e2 := hc2 k hlt
        obtain ⟨s, hs⟩ : ∃ s, s = L[k]?.getD [] := ⟨_, rfl⟩
        obtain ⟨t, ht⟩ : ∃ t, t = M[k]?.getD [] := ⟨_, rfl⟩
        rw [← hs] at e1
        rw [← ht] at e2
        have hgd := fun x y w => guard_tx .neq x y s t w
        obtain ⟨V1, hV1⟩ : ∃ V, V = strV s := ⟨_, rfl⟩
        obtain ⟨V2, hV2⟩ : ∃ V, V = strV t := ⟨_, rfl⟩
        rw [← hV1] at e1
        rw [← hV2] at e2
        simp only [← hV1, ← hV2] at hgd
        have HB := Lib.hid hB.drew
        clear hc1 hc2 hB
        by_cases hst : s = t
        · have hq : ∀ w, (binOp .neq 9 V1 V2).run Try.prog w = .ok (.bool false) w := fun w => by rw [hV1, hV2, neq_tx, decide_eq_true hst]; rfl
          have HX := Lib.hid (show ∀ j, j < k + 1 → L[j]?.getD [] = M[j]?.getD [] from fun j hj => by
            rcases Nat.lt_or_ge j k with h | h
            · exact HALL.out j h
            · obtain rfl : j = k := by omega
              rw [← hs, ← ht]; exact hst)
          clear hs ht hst hV1 hV2
          go_wp2_with fail
          go_region
          go_wp2
          go_roundw
          case rel => exact ⟨k + 1, by omega, by go_num, HX.out, HB.out⟩
          case measure => simp [intOf]; omega
        · have hq : ∀ w, (binOp .neq 9 V1 V2).run Try.prog w = .ok (.bool true) w := fun w => by rw [hV1, hV2, neq_tx, decide_eq_false hst]; rfl
          have HNE := Lib.hid (show ¬ L = M from fun e => hst (by rw [hs, ht, e]))
          clear hs ht hst hV1 hV2
          go_wp2_with fail
          go_region
          go_wp2
          go_ret
          exact ⟨by rw [decide_eq_false HNE.out]; rfl, HB.out⟩
      · obtain rfl : k = n := by omega
        have HE := Lib.hid (show L = M from tlist_ext (by omega) (fun i hi => HALL.out i (by omega)))
        have i1 : ¬ (k : Int) < (k : Int) := by omega
        have HB := Lib.hid hB
        clear hB
        go_wp2
        go_ret
        exact ⟨by rw [decide_eq_true HE.out]; rfl, HB.out⟩
  · have h1 : ((n : Int) == (m : Int)) = false := by simp; omega
    have h2 : ((n : Int) != (m : Int)) = true := by simp; omega
    have HNE := Lib.hid (show ¬ L = M from fun e => hnm (by rw [← hLl, ← hMl, e]))
    go_enter Try.func24, Try.ntmps24
    go_wp2
    go_ret
    exact ⟨by rw [decide_eq_false HNE.out]; rfl, Below.refl _ _⟩

set_option maxRecDepth 20000 in
set_option maxHeartbeats 2000000 in
theorem equal_any (a b : Option Addr) (n m ca cb : Nat) (L M : List (List UInt8)) (w : World) (hL : Tx w a n ca L) (hM : Tx w b m cb M) :
    Calls Try.prog 23 #[.slice a n ca, .slice b m cb] w fun e w' => e = .returned (.bool (decide (L = M))) ∧ Below w.heap.size w w' := by
  have hca : (ca : Int) ≤ 9223372036854775807 := by have := hL.cm; unfold maxLen at this; omega
  have hcb : (cb : Int) ≤ 9223372036854775807 := by have := hM.cm; unfold maxLen at this; omega
  have hLl := hL.len
  have hMl := hM.len
  have hna := hL.le
  have hnb := hM.le
  have HL := Lib.hid hL
  have HM := Lib.hid hM
  clear hL hM
  by_cases hnm : n = m
  · subst hnm
    go_enter Try.func23, Try.ntmps23
    go_wp2
    go_loopw [13] (fun i wr => ∃ k : Nat, k ≤ n ∧ i = .int .i64 k ∧ (∀ j, j < k → L[j]?.getD [] = M[j]?.getD []) ∧ Below w.heap.size w wr) (fun i _ => n - (intOf i).toNat)
    case atStart => exact ⟨0, by omega, rfl, fun j hj => by omega, Below.refl _ _⟩
    case round =>
      obtain ⟨k, hk, rfl, hall, hB⟩ := hrel
      have HALL := Lib.hid hall
      clear hall
      by_cases hlt : k < n
      · have i0 : (0 : Int) ≤ (k : Int) := by omega
        have i1 : (k : Int) < (n : Int) := by omega
        obtain ⟨b1, o1, rfl, _, hc1⟩ := (HL.out.later hB.drew).at0 (by omega)
        obtain ⟨b2, o2, rfl, _, hc2⟩ := (HM.out.later hB.drew).at0 (by omega)
        have e1 := hc1 k hlt
        have e2 := hc2 k hlt
        obtain ⟨s, hs⟩ : ∃ s, s = L[k]?.getD [] := ⟨_, rfl⟩
        obtain ⟨t, ht⟩ : ∃ t, t = M[k]?.getD [] := ⟨_, rfl⟩
        rw [← hs] at e1
        rw [← ht] at e2
        have hgd := fun x y w => guard_tx .neq x y s t w
        obtain ⟨V1, hV1⟩ : ∃ V, V = strV s := ⟨_, rfl⟩
        obtain ⟨V2, hV2⟩ : ∃ V, V = strV t := ⟨_, rfl⟩
        rw [← hV1] at e1
        rw [← hV2] at e2
        simp only [← hV1, ← hV2] at hgd
        have HB := Lib.hid hB.drew
        clear hc1 hc2 hB
        by_cases hst : s = t
        · have hq : ∀ w, (binOp .neq 9 V1 V2).run Try.prog w = .ok (.bool false) w := fun w => by rw [hV1, hV2, neq_tx, decide_eq_true hst]; rfl
          have HX := Lib.hid (show ∀ j, j < k + 1 → L[j]?.getD [] = M[j]?.getD [] from fun j hj => by
            rcases Nat.lt_or_ge j k with h | h
            · exact HALL.out j h
            · obtain rfl : j = k := by omega
              rw [← hs, ← ht]; exact hst)
          clear hs ht hst hV1 hV2
          go_wp2_with fail
          go_region
          go_wp2
          go_roundw
          case rel => exact ⟨k + 1, by omega, by go_num, HX.out, HB.out⟩
          case measure => simp [intOf]; omega
        · have hq : ∀ w, (binOp .neq 9 V1 V2).run Try.prog w = .ok (.bool true) w := fun w => by rw [hV1, hV2, neq_tx, decide_eq_false hst]; rfl
          have HNE := Lib.hid (show ¬ L = M from fun e => hst (by rw [hs, ht, e]))
          clear hs ht hst hV1 hV2
          go_wp2_with fail
          go_region
          go_wp2
          go_ret
          exact ⟨by rw [decide_eq_false HNE.out]; rfl, HB.out⟩
      · obtain rfl : k = n := by omega
        have HE := Lib.hid (show L = M from tlist_ext (by omega) (fun i hi => HALL.out i (by omega)))
        have i1 : ¬ (k : Int) < (k : Int) := by omega
        have HB := Lib.hid hB
        clear hB
        go_wp2
        go_ret
        exact ⟨by rw [decide_eq_true HE.out]; rfl, HB.out⟩
  · have h1 : ((n : Int) == (m : Int)) = false := by simp; omega
    have h2 : ((n : Int) != (m : Int)) = true := by simp; omega
    have HNE := Lib.hid (show ¬ L = M from fun e => hnm (by rw [← hLl, ← hMl, e]))
    go_enter Try.func23, Try.ntmps23
    go_wp2
    go_ret
    exact ⟨by rw [decide_eq_false HNE.out]; rfl, Below.refl _ _⟩

instance (a b : FR) : Decidable (a = b) :=
  if h : a.kind = b.kind ∧ a.sess = b.sess ∧ a.ep = b.ep ∧ a.seq = b.seq ∧ a.vol = b.vol ∧ a.n = b.n ∧ a.f = b.f ∧ a.index = b.index ∧ a.code = b.code ∧ a.data = b.data ∧ a.list = b.list then .isTrue (FR.ext' h.1 h.2.1 h.2.2.1 h.2.2.2.1 h.2.2.2.2.1 h.2.2.2.2.2.1 h.2.2.2.2.2.2.1 h.2.2.2.2.2.2.2.1 h.2.2.2.2.2.2.2.2.1 h.2.2.2.2.2.2.2.2.2.1 h.2.2.2.2.2.2.2.2.2.2)
  else .isFalse fun e => h (by subst e; exact ⟨rfl, rfl, rfl, rfl, rfl, rfl, rfl, rfl, rfl, rfl, rfl⟩)

set_option maxRecDepth 20000 in
set_option maxHeartbeats 1000000 in
theorem al_0 (k s e q v n f i c k' s' e' q' v' n' f' i' c' : Int) (d1 d2 : List UInt8) (lx ly : Value) (w : World) (hne : k ≠ k') :
    Calls Try.prog 10 #[.agg #[.int .i64 k, .int .u64 s, .int .u64 e, .int .u32 q, .int .u32 v, .int .i64 n, .int .i64 f, .int .i64 i, .int .i64 c, strV d1, lx], .agg #[.int .i64 k', .int .u64 s', .int .u64 e', .int .u32 q', .int .u32 v', .int .i64 n', .int .i64 f', .int .i64 i', .int .i64 c', strV d2, ly]] w fun e w' => e = .returned (.bool false) ∧ Below w.heap.size w w' := by
  have h0 : (k == k') = false := by simpa using hne
  obtain ⟨D1, hD1⟩ : ∃ D, D = strV d1 := ⟨_, rfl⟩
  obtain ⟨D2, hD2⟩ : ∃ D, D = strV d2 := ⟨_, rfl⟩
  rw [← hD1, ← hD2]
  have HB := Lib.hid ((((Below.refl w.heap.size w).alloc (Nat.le_refl _) (.cells #[.int .i64 k, .int .u64 s, .int .u64 e, .int .u32 q, .int .u32 v, .int .i64 n, .int .i64 f, .int .i64 i, .int .i64 c, D1, lx] 26)).alloc (by simp) (.cells #[.int .i64 k', .int .u64 s', .int .u64 e', .int .u32 q', .int .u32 v', .int .i64 n', .int .i64 f', .int .i64 i', .int .i64 c', D2, ly] 26)))
  clear hne hD1 hD2
  go_enter Try.func10, Try.ntmps10
  go_wp2
  go_ret
  exact ⟨rfl, HB.out⟩

set_option maxRecDepth 20000 in
set_option maxHeartbeats 1000000 in
theorem al_1 (k s e q v n f i c s' e' q' v' n' f' i' c' : Int) (d1 d2 : List UInt8) (lx ly : Value) (w : World) (hne : s ≠ s') :
    Calls Try.prog 10 #[.agg #[.int .i64 k, .int .u64 s, .int .u64 e, .int .u32 q, .int .u32 v, .int .i64 n, .int .i64 f, .int .i64 i, .int .i64 c, strV d1, lx], .agg #[.int .i64 k, .int .u64 s', .int .u64 e', .int .u32 q', .int .u32 v', .int .i64 n', .int .i64 f', .int .i64 i', .int .i64 c', strV d2, ly]] w fun e w' => e = .returned (.bool false) ∧ Below w.heap.size w w' := by
  have h0 : (s == s') = false := by simpa using hne
  obtain ⟨D1, hD1⟩ : ∃ D, D = strV d1 := ⟨_, rfl⟩
  obtain ⟨D2, hD2⟩ : ∃ D, D = strV d2 := ⟨_, rfl⟩
  rw [← hD1, ← hD2]
  have HB := Lib.hid ((((Below.refl w.heap.size w).alloc (Nat.le_refl _) (.cells #[.int .i64 k, .int .u64 s, .int .u64 e, .int .u32 q, .int .u32 v, .int .i64 n, .int .i64 f, .int .i64 i, .int .i64 c, D1, lx] 26)).alloc (by simp) (.cells #[.int .i64 k, .int .u64 s', .int .u64 e', .int .u32 q', .int .u32 v', .int .i64 n', .int .i64 f', .int .i64 i', .int .i64 c', D2, ly] 26)))
  clear hne hD1 hD2
  go_enter Try.func10, Try.ntmps10
  go_wp2
  go_ret
  exact ⟨rfl, HB.out⟩

set_option maxRecDepth 20000 in
set_option maxHeartbeats 1000000 in
theorem al_2 (k s e q v n f i c e' q' v' n' f' i' c' : Int) (d1 d2 : List UInt8) (lx ly : Value) (w : World) (hne : e ≠ e') :
    Calls Try.prog 10 #[.agg #[.int .i64 k, .int .u64 s, .int .u64 e, .int .u32 q, .int .u32 v, .int .i64 n, .int .i64 f, .int .i64 i, .int .i64 c, strV d1, lx], .agg #[.int .i64 k, .int .u64 s, .int .u64 e', .int .u32 q', .int .u32 v', .int .i64 n', .int .i64 f', .int .i64 i', .int .i64 c', strV d2, ly]] w fun e w' => e = .returned (.bool false) ∧ Below w.heap.size w w' := by
  have h0 : (e == e') = false := by simpa using hne
  obtain ⟨D1, hD1⟩ : ∃ D, D = strV d1 := ⟨_, rfl⟩
  obtain ⟨D2, hD2⟩ : ∃ D, D = strV d2 := ⟨_, rfl⟩
  rw [← hD1, ← hD2]
  have HB := Lib.hid ((((Below.refl w.heap.size w).alloc (Nat.le_refl _) (.cells #[.int .i64 k, .int .u64 s, .int .u64 e, .int .u32 q, .int .u32 v, .int .i64 n, .int .i64 f, .int .i64 i, .int .i64 c, D1, lx] 26)).alloc (by simp) (.cells #[.int .i64 k, .int .u64 s, .int .u64 e', .int .u32 q', .int .u32 v', .int .i64 n', .int .i64 f', .int .i64 i', .int .i64 c', D2, ly] 26)))
  clear hne hD1 hD2
  go_enter Try.func10, Try.ntmps10
  go_wp2
  go_ret
  exact ⟨rfl, HB.out⟩

set_option maxRecDepth 20000 in
set_option maxHeartbeats 1000000 in
theorem al_3 (k s e q v n f i c q' v' n' f' i' c' : Int) (d1 d2 : List UInt8) (lx ly : Value) (w : World) (hne : q ≠ q') :
    Calls Try.prog 10 #[.agg #[.int .i64 k, .int .u64 s, .int .u64 e, .int .u32 q, .int .u32 v, .int .i64 n, .int .i64 f, .int .i64 i, .int .i64 c, strV d1, lx], .agg #[.int .i64 k, .int .u64 s, .int .u64 e, .int .u32 q', .int .u32 v', .int .i64 n', .int .i64 f', .int .i64 i', .int .i64 c', strV d2, ly]] w fun e w' => e = .returned (.bool false) ∧ Below w.heap.size w w' := by
  have h0 : (q == q') = false := by simpa using hne
  obtain ⟨D1, hD1⟩ : ∃ D, D = strV d1 := ⟨_, rfl⟩
  obtain ⟨D2, hD2⟩ : ∃ D, D = strV d2 := ⟨_, rfl⟩
  rw [← hD1, ← hD2]
  have HB := Lib.hid ((((Below.refl w.heap.size w).alloc (Nat.le_refl _) (.cells #[.int .i64 k, .int .u64 s, .int .u64 e, .int .u32 q, .int .u32 v, .int .i64 n, .int .i64 f, .int .i64 i, .int .i64 c, D1, lx] 26)).alloc (by simp) (.cells #[.int .i64 k, .int .u64 s, .int .u64 e, .int .u32 q', .int .u32 v', .int .i64 n', .int .i64 f', .int .i64 i', .int .i64 c', D2, ly] 26)))
  clear hne hD1 hD2
  go_enter Try.func10, Try.ntmps10
  go_wp2
  go_ret
  exact ⟨rfl, HB.out⟩

set_option maxRecDepth 20000 in
set_option maxHeartbeats 1000000 in
theorem al_4 (k s e q v n f i c v' n' f' i' c' : Int) (d1 d2 : List UInt8) (lx ly : Value) (w : World) (hne : v ≠ v') :
    Calls Try.prog 10 #[.agg #[.int .i64 k, .int .u64 s, .int .u64 e, .int .u32 q, .int .u32 v, .int .i64 n, .int .i64 f, .int .i64 i, .int .i64 c, strV d1, lx], .agg #[.int .i64 k, .int .u64 s, .int .u64 e, .int .u32 q, .int .u32 v', .int .i64 n', .int .i64 f', .int .i64 i', .int .i64 c', strV d2, ly]] w fun e w' => e = .returned (.bool false) ∧ Below w.heap.size w w' := by
  have h0 : (v == v') = false := by simpa using hne
  obtain ⟨D1, hD1⟩ : ∃ D, D = strV d1 := ⟨_, rfl⟩
  obtain ⟨D2, hD2⟩ : ∃ D, D = strV d2 := ⟨_, rfl⟩
  rw [← hD1, ← hD2]
  have HB := Lib.hid ((((Below.refl w.heap.size w).alloc (Nat.le_refl _) (.cells #[.int .i64 k, .int .u64 s, .int .u64 e, .int .u32 q, .int .u32 v, .int .i64 n, .int .i64 f, .int .i64 i, .int .i64 c, D1, lx] 26)).alloc (by simp) (.cells #[.int .i64 k, .int .u64 s, .int .u64 e, .int .u32 q, .int .u32 v', .int .i64 n', .int .i64 f', .int .i64 i', .int .i64 c', D2, ly] 26)))
  clear hne hD1 hD2
  go_enter Try.func10, Try.ntmps10
  go_wp2
  go_ret
  exact ⟨rfl, HB.out⟩

set_option maxRecDepth 20000 in
set_option maxHeartbeats 1000000 in
theorem al_5 (k s e q v n f i c n' f' i' c' : Int) (d1 d2 : List UInt8) (lx ly : Value) (w : World) (hne : n ≠ n') :
    Calls Try.prog 10 #[.agg #[.int .i64 k, .int .u64 s, .int .u64 e, .int .u32 q, .int .u32 v, .int .i64 n, .int .i64 f, .int .i64 i, .int .i64 c, strV d1, lx], .agg #[.int .i64 k, .int .u64 s, .int .u64 e, .int .u32 q, .int .u32 v, .int .i64 n', .int .i64 f', .int .i64 i', .int .i64 c', strV d2, ly]] w fun e w' => e = .returned (.bool false) ∧ Below w.heap.size w w' := by
  have h0 : (n == n') = false := by simpa using hne
  obtain ⟨D1, hD1⟩ : ∃ D, D = strV d1 := ⟨_, rfl⟩
  obtain ⟨D2, hD2⟩ : ∃ D, D = strV d2 := ⟨_, rfl⟩
  rw [← hD1, ← hD2]
  have HB := Lib.hid ((((Below.refl w.heap.size w).alloc (Nat.le_refl _) (.cells #[.int .i64 k, .int .u64 s, .int .u64 e, .int .u32 q, .int .u32 v, .int .i64 n, .int .i64 f, .int .i64 i, .int .i64 c, D1, lx] 26)).alloc (by simp) (.cells #[.int .i64 k, .int .u64 s, .int .u64 e, .int .u32 q, .int .u32 v, .int .i64 n', .int .i64 f', .int .i64 i', .int .i64 c', D2, ly] 26)))
  clear hne hD1 hD2
  go_enter Try.func10, Try.ntmps10
  go_wp2
  go_ret
  exact ⟨rfl, HB.out⟩

set_option maxRecDepth 20000 in
set_option maxHeartbeats 1000000 in
theorem al_6 (k s e q v n f i c f' i' c' : Int) (d1 d2 : List UInt8) (lx ly : Value) (w : World) (hne : f ≠ f') :
    Calls Try.prog 10 #[.agg #[.int .i64 k, .int .u64 s, .int .u64 e, .int .u32 q, .int .u32 v, .int .i64 n, .int .i64 f, .int .i64 i, .int .i64 c, strV d1, lx], .agg #[.int .i64 k, .int .u64 s, .int .u64 e, .int .u32 q, .int .u32 v, .int .i64 n, .int .i64 f', .int .i64 i', .int .i64 c', strV d2, ly]] w fun e w' => e = .returned (.bool false) ∧ Below w.heap.size w w' := by
  have h0 : (f == f') = false := by simpa using hne
  obtain ⟨D1, hD1⟩ : ∃ D, D = strV d1 := ⟨_, rfl⟩
  obtain ⟨D2, hD2⟩ : ∃ D, D = strV d2 := ⟨_, rfl⟩
  rw [← hD1, ← hD2]
  have HB := Lib.hid ((((Below.refl w.heap.size w).alloc (Nat.le_refl _) (.cells #[.int .i64 k, .int .u64 s, .int .u64 e, .int .u32 q, .int .u32 v, .int .i64 n, .int .i64 f, .int .i64 i, .int .i64 c, D1, lx] 26)).alloc (by simp) (.cells #[.int .i64 k, .int .u64 s, .int .u64 e, .int .u32 q, .int .u32 v, .int .i64 n, .int .i64 f', .int .i64 i', .int .i64 c', D2, ly] 26)))
  clear hne hD1 hD2
  go_enter Try.func10, Try.ntmps10
  go_wp2
  go_ret
  exact ⟨rfl, HB.out⟩

set_option maxRecDepth 20000 in
set_option maxHeartbeats 1000000 in
theorem al_7 (k s e q v n f i c i' c' : Int) (d1 d2 : List UInt8) (lx ly : Value) (w : World) (hne : i ≠ i') :
    Calls Try.prog 10 #[.agg #[.int .i64 k, .int .u64 s, .int .u64 e, .int .u32 q, .int .u32 v, .int .i64 n, .int .i64 f, .int .i64 i, .int .i64 c, strV d1, lx], .agg #[.int .i64 k, .int .u64 s, .int .u64 e, .int .u32 q, .int .u32 v, .int .i64 n, .int .i64 f, .int .i64 i', .int .i64 c', strV d2, ly]] w fun e w' => e = .returned (.bool false) ∧ Below w.heap.size w w' := by
  have h0 : (i == i') = false := by simpa using hne
  obtain ⟨D1, hD1⟩ : ∃ D, D = strV d1 := ⟨_, rfl⟩
  obtain ⟨D2, hD2⟩ : ∃ D, D = strV d2 := ⟨_, rfl⟩
  rw [← hD1, ← hD2]
  have HB := Lib.hid ((((Below.refl w.heap.size w).alloc (Nat.le_refl _) (.cells #[.int .i64 k, .int .u64 s, .int .u64 e, .int .u32 q, .int .u32 v, .int .i64 n, .int .i64 f, .int .i64 i, .int .i64 c, D1, lx] 26)).alloc (by simp) (.cells #[.int .i64 k, .int .u64 s, .int .u64 e, .int .u32 q, .int .u32 v, .int .i64 n, .int .i64 f, .int .i64 i', .int .i64 c', D2, ly] 26)))
  clear hne hD1 hD2
  go_enter Try.func10, Try.ntmps10
  go_wp2
  go_ret
  exact ⟨rfl, HB.out⟩

set_option maxRecDepth 20000 in
set_option maxHeartbeats 1000000 in
theorem al_8 (k s e q v n f i c c' : Int) (d1 d2 : List UInt8) (lx ly : Value) (w : World) (hne : c ≠ c') :
    Calls Try.prog 10 #[.agg #[.int .i64 k, .int .u64 s, .int .u64 e, .int .u32 q, .int .u32 v, .int .i64 n, .int .i64 f, .int .i64 i, .int .i64 c, strV d1, lx], .agg #[.int .i64 k, .int .u64 s, .int .u64 e, .int .u32 q, .int .u32 v, .int .i64 n, .int .i64 f, .int .i64 i, .int .i64 c', strV d2, ly]] w fun e w' => e = .returned (.bool false) ∧ Below w.heap.size w w' := by
  have h0 : (c == c') = false := by simpa using hne
  obtain ⟨D1, hD1⟩ : ∃ D, D = strV d1 := ⟨_, rfl⟩
  obtain ⟨D2, hD2⟩ : ∃ D, D = strV d2 := ⟨_, rfl⟩
  rw [← hD1, ← hD2]
  have HB := Lib.hid ((((Below.refl w.heap.size w).alloc (Nat.le_refl _) (.cells #[.int .i64 k, .int .u64 s, .int .u64 e, .int .u32 q, .int .u32 v, .int .i64 n, .int .i64 f, .int .i64 i, .int .i64 c, D1, lx] 26)).alloc (by simp) (.cells #[.int .i64 k, .int .u64 s, .int .u64 e, .int .u32 q, .int .u32 v, .int .i64 n, .int .i64 f, .int .i64 i, .int .i64 c', D2, ly] 26)))
  clear hne hD1 hD2
  go_enter Try.func10, Try.ntmps10
  go_wp2
  go_ret
  exact ⟨rfl, HB.out⟩

set_option maxRecDepth 20000 in
set_option maxHeartbeats 1000000 in
theorem al_9 (k s e q v n f i c  : Int) (d1 d2 : List UInt8) (lx ly : Value) (w : World) (hne : d1 ≠ d2) :
    Calls Try.prog 10 #[.agg #[.int .i64 k, .int .u64 s, .int .u64 e, .int .u32 q, .int .u32 v, .int .i64 n, .int .i64 f, .int .i64 i, .int .i64 c, strV d1, lx], .agg #[.int .i64 k, .int .u64 s, .int .u64 e, .int .u32 q, .int .u32 v, .int .i64 n, .int .i64 f, .int .i64 i, .int .i64 c, strV d2, ly]] w fun e w' => e = .returned (.bool false) ∧ Below w.heap.size w w' := by
  obtain ⟨D1, hD1⟩ : ∃ D, D = strV d1 := ⟨_, rfl⟩
  obtain ⟨D2, hD2⟩ : ∃ D, D = strV d2 := ⟨_, rfl⟩
  have q1 := fun w => eql_tx d1 d2 w
  rw [decide_eq_false hne] at q1
  have q2 := fun op u v w => guard_tx op u v d1 d2 w
  rw [← hD1, ← hD2] at q1 q2
  rw [← hD1, ← hD2]
  have HB := Lib.hid ((((Below.refl w.heap.size w).alloc (Nat.le_refl _) (.cells #[.int .i64 k, .int .u64 s, .int .u64 e, .int .u32 q, .int .u32 v, .int .i64 n, .int .i64 f, .int .i64 i, .int .i64 c, D1, lx] 26)).alloc (by simp) (.cells #[.int .i64 k, .int .u64 s, .int .u64 e, .int .u32 q, .int .u32 v, .int .i64 n, .int .i64 f, .int .i64 i, .int .i64 c, D2, ly] 26)))
  clear hne hD1 hD2
  go_enter Try.func10, Try.ntmps10
  go_wp2
  go_ret
  exact ⟨rfl, HB.out⟩

set_option maxRecDepth 20000 in
set_option maxHeartbeats 1000000 in
theorem al_same (k s e q v n f i c : Int) (d1 : List UInt8) (a b : Option Addr) (n1 m1 ca cb : Nat) (w : World) (r : Bool) (hc : ∀ w', Below w.heap.size w w' → Calls Try.prog 23 #[.slice a n1 ca, .slice b m1 cb] w' fun e w'' => e = .returned (.bool r) ∧ Below w'.heap.size w' w'') :
    Calls Try.prog 10 #[.agg #[.int .i64 k, .int .u64 s, .int .u64 e, .int .u32 q, .int .u32 v, .int .i64 n, .int .i64 f, .int .i64 i, .int .i64 c, strV d1, .slice a n1 ca], .agg #[.int .i64 k, .int .u64 s, .int .u64 e, .int .u32 q, .int .u32 v, .int .i64 n, .int .i64 f, .int .i64 i, .int .i64 c, strV d1, .slice b m1 cb]] w fun e w' => e = .returned (.bool r) ∧ Below w.heap.size w w' := by
  have q1 := fun w => eql_tx d1 d1 w
  rw [decide_eq_true rfl] at q1
  have q2 := fun op u v w => guard_tx op u v d1 d1 w
  obtain ⟨D1, hD1⟩ : ∃ D, D = strV d1 := ⟨_, rfl⟩
  rw [← hD1] at q1 q2
  rw [← hD1]
  have hb : Below w.heap.size w ((w.alloc (.cells #[.int .i64 k, .int .u64 s, .int .u64 e, .int .u32 q, .int .u32 v, .int .i64 n, .int .i64 f, .int .i64 i, .int .i64 c, D1, .slice a n1 ca] 26)).alloc (.cells #[.int .i64 k, .int .u64 s, .int .u64 e, .int .u32 q, .int .u32 v, .int .i64 n, .int .i64 f, .int .i64 i, .int .i64 c, D1, .slice b m1 cb] 26)) := ((Below.refl w.heap.size w).alloc (Nat.le_refl _) _).alloc (by simp) _
  have HC := Lib.hid (hc _ hb)
  have HB := Lib.hid hb
  clear hD1 hc hb
  go_enter Try.func10, Try.ntmps10
  go_wp2_with fail
  refine HC.out.mono ?_
  rintro e1 w3 ⟨rfl, hb3⟩
  have HB3 := Lib.hid (HB.out.trans (hb3.mono HB.out.size))
  clear hb3
  go_wp2
  go_ret
  exact ⟨rfl, HB3.out⟩

theorem alike_any (x y : FR) (a b : Option Addr) (n m ca cb : Nat) (w : World) (hL : Tx w a n ca x.list) (hM : Tx w b m cb y.list) :
    Calls Try.prog 10 #[frV x (.slice a n ca), frV y (.slice b m cb)] w fun e w' => e = .returned (.bool (decide (x = y))) ∧ Below w.heap.size w w' := by
  have hno : ¬ x = y → ∀ P : Prop, (P → ¬ x = y) → True := fun _ _ _ => trivial
  clear hno
  have hf : ¬ x = y → decide (x = y) = false := fun h => decide_eq_false h
  unfold frV
  by_cases h0 : x.kind = y.kind
  case neg =>
    rw [hf fun e => h0 (by rw [e])]
    exact al_0 _ _ _ _ _ _ _ _ _ _ _ _ _ _ _ _ _ _ _ _ _ _ w (h0)
  by_cases h1 : x.sess = y.sess
  case neg =>
    rw [hf fun e => h1 (by rw [e])]
    simp only [h0]
    exact al_1 _ _ _ _ _ _ _ _ _ _ _ _ _ _ _ _ _ _ _ _ _ w (by omega)
  by_cases h2 : x.ep = y.ep
  case neg =>
    rw [hf fun e => h2 (by rw [e])]
    simp only [h0, h1]
    exact al_2 _ _ _ _ _ _ _ _ _ _ _ _ _ _ _ _ _ _ _ _ w (by omega)
  by_cases h3 : x.seq = y.seq
  case neg =>
    rw [hf fun e => h3 (by rw [e])]
    simp only [h0, h1, h2]
    exact al_3 _ _ _ _ _ _ _ _ _ _ _ _ _ _ _ _ _ _ _ w (by omega)
  by_cases h4 : x.vol = y.vol
  case neg =>
    rw [hf fun e => h4 (by rw [e])]
    simp only [h0, h1, h2, h3]
    exact al_4 _ _ _ _ _ _ _ _ _ _ _ _ _ _ _ _ _ _ w (by omega)
  by_cases h5 : x.n = y.n
  case neg =>
    rw [hf fun e => h5 (by rw [e])]
    simp only [h0, h1, h2, h3, h4]
    exact al_5 _ _ _ _ _ _ _ _ _ _ _ _ _ _ _ _ _ w (h5)
  by_cases h6 : x.f = y.f
  case neg =>
    rw [hf fun e => h6 (by rw [e])]
    simp only [h0, h1, h2, h3, h4, h5]
    exact al_6 _ _ _ _ _ _ _ _ _ _ _ _ _ _ _ _ w (h6)
  by_cases h7 : x.index = y.index
  case neg =>
    rw [hf fun e => h7 (by rw [e])]
    simp only [h0, h1, h2, h3, h4, h5, h6]
    exact al_7 _ _ _ _ _ _ _ _ _ _ _ _ _ _ _ w (h7)
  by_cases h8 : x.code = y.code
  case neg =>
    rw [hf fun e => h8 (by rw [e])]
    simp only [h0, h1, h2, h3, h4, h5, h6, h7]
    exact al_8 _ _ _ _ _ _ _ _ _ _ _ _ _ _ w (h8)
  by_cases h9 : x.data = y.data
  case neg =>
    rw [hf fun e => h9 (by rw [e])]
    simp only [h0, h1, h2, h3, h4, h5, h6, h7, h8]
    exact al_9 _ _ _ _ _ _ _ _ _ _ _ _ _ w (h9)
  have he : decide (x = y) = decide (x.list = y.list) := by
    by_cases hl : x.list = y.list
    · rw [decide_eq_true hl, decide_eq_true (FR.ext' h0 h1 h2 h3 h4 h5 h6 h7 h8 h9 hl)]
    · rw [decide_eq_false hl, decide_eq_false fun e => hl (by rw [e])]
  rw [he]
  simp only [h0, h1, h2, h3, h4, h5, h6, h7, h8, h9]
  exact al_same _ _ _ _ _ _ _ _ _ _ a b n m ca cb w _ fun w' hb => equal_any a b n m ca cb x.list y.list w' (hL.later hb) (hM.later hb)
end Go.Proofs.Ytipegdfjpmlcbaa


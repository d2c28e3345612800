/-
  Pasts: the program's past in memory; only, last, fault, slices.Index, Contains; May, Last.
-/
import Derived.Test.YthapcpfemmfhoaaAP0
namespace Go.Proofs.Ythapcpfemmfhoaa
namespace Ap
open Go.RowKit
set_option linter.unusedVariables false
set_option linter.unusedSimpArgs false

def imgs : List (Nat × List ByteArray) → List Value → List Value
  | e :: E, x :: xs => .int .u64 (e.1 : Int) :: x :: imgs E xs
  | _, _ => []
theorem imgs_push : ∀ (E : List (Nat × List ByteArray)) (xs : List Value) (e x), xs.length = E.length → imgs (E ++ [e]) (xs ++ [x]) = imgs E xs ++ [.int .u64 (e.1 : Int), x]
  | [], [], e, x, _ => rfl
  | a :: E, b :: xs, e, x, h => by
    have := imgs_push E xs e x (by simpa using h)
    simp [imgs, this]
  | [], b :: xs, _, _, h => by simp at h
  | a :: E, [], _, _, h => by simp at h
theorem imgs_at : ∀ (E : List (Nat × List ByteArray)) (xs : List Value) (j : Nat), xs.length = E.length → j < E.length → (imgs E xs)[j * 2]? = some (.int .u64 ((EAt E j).1 : Int)) ∧ (imgs E xs)[j * 2 + 1]? = some (vAt xs j)
  | [], _, j, _, h => by simp at h
  | a :: E, [], _, h, _ => by simp at h
  | a :: E, b :: xs, 0, _, _ => ⟨rfl, rfl⟩
  | a :: E, b :: xs, j + 1, h, hj => by
    have := imgs_at E xs j (by simpa using h) (by simpa using hj)
    rw [show (j + 1) * 2 = j * 2 + 1 + 1 by omega]
    exact ⟨by simpa [imgs, EAt] using this.1, by simpa [imgs, vAt] using this.2⟩
theorem imgs_one : ∀ (E : List (Nat × List ByteArray)) (xs : List Value), (∀ x ∈ xs, x.oneCell' = true) → ∀ u ∈ imgs E xs, u.oneCell' = true
  | [], _, _, u, h => by simp [imgs] at h
  | a :: E, [], _, u, h => by simp [imgs] at h
  | a :: E, b :: xs, hx, u, h => by
    simp only [imgs, List.mem_cons] at h
    rcases h with rfl | rfl | h
    · rfl
    · exact hx _ (by simp)
    · exact imgs_one E xs (fun x hx' => hx x (by simp [hx'])) u h

/-- The program's past in memory. -/
structure PI (w : World) (p : Nat) (v1 v2 : Value) (vs xs : List Value) (S : PS) : Prop where
  blk : w.heap[p]? = some (.cells #[v1, v2] 56 (0, 0))
  co : Co w v1 vs xs S
  own2 : w.ownsRow 0 63 2 v2 S.E.length (imgs S.E xs)

def pf (p : Nat) (v1 v2 : Value) (vs xs : List Value) (S : PS) (k : Nat) : Prop := k = p ∨ v2.ownBlock = some k ∨ cf v1 vs xs S k

theorem PI.lt {w p v1 v2 vs xs S} (h : PI w p v1 v2 vs xs S) : ∀ k, pf p v1 v2 vs xs S k → k < w.heap.size := by
  rintro k (rfl | e | e)
  · exact lt_of_block h.blk
  · exact (h.own2.lt k e).2
  · exact h.co.lt k e

theorem PI.kept {w w' : World} {p v1 v2 vs xs S} (h : PI w p v1 v2 vs xs S) (hk : ∀ k, pf p v1 v2 vs xs S k → w'.heap[k]? = w.heap[k]?) : PI w' p v1 v2 vs xs S :=
  ⟨(hk p (.inl rfl)).trans h.blk, h.co.kept fun k e => hk k (.inr (.inr e)), owns_kept h.own2 fun k e => hk k (.inr (.inl e))⟩

/-- A past in memory that lies in the blocks F. -/
def PM (w : World) (p : Nat) (F : Nat → Prop) (S : PS) : Prop := ∃ v1 v2 vs xs, PI w p v1 v2 vs xs S ∧ (∀ k, pf p v1 v2 vs xs S k → F k) ∧ ∀ k, F k → k < w.heap.size
def PQ (w : World) (F : Nat → Prop) (p : Nat) (S : PS) (w' : World) : Prop := ∃ F', PM w' p F' S ∧ Fr F w w' ∧ ∀ k, F' k → F k ∨ w.heap.size ≤ k

theorem PM.fr {w w' : World} {A p F S} (h : PM w p F S) (hf : Fr A w w') (hd : ∀ k, F k → ¬ A k) : PM w' p F S := by
  obtain ⟨v1, v2, vs, xs, hi, hF, hl⟩ := h
  exact ⟨v1, v2, vs, xs, hi.kept fun k e => hf.block k (hl k (hF k e)) (hd k (hF k e)), hF, fun k e => Nat.lt_of_lt_of_le (hl k e) hf.size⟩
theorem PM.below {w w' : World} {p F S} (h : PM w p F S) (hb : Below w.heap.size w w') : PM w' p F S := h.fr (A := fun _ => False) ⟨hb.os, hb.tape, hb.output, hb.size, fun k hk _ => hb.block k hk⟩ fun _ _ e => e
theorem PQ.same {w p F S} (h : PM w p F S) : PQ w F p S w := ⟨F, h, Fr.refl _ _, fun _ e => .inl e⟩
theorem PQ.below {w w' : World} {p F S} (h : PM w p F S) (hb : Below w.heap.size w w') : PQ w F p S w' := ⟨F, h.below hb, Fr.of_below hb, fun _ e => .inl e⟩

theorem ps_nat {S : PS} {i : Int} (h : S.has i) : ∃ k : Nat, i = (k : Int) ∧ k < S.L.length := by
  obtain ⟨h0, h1⟩ := h
  exact ⟨i.toNat, by omega, by omega⟩

theorem slice_three (b off n c k : Nat) (hk : k < n) (hc : n ≤ c) (w : World) :
    (Instr.sliceAt 22 (.slice (some ⟨b, off, none⟩) n c) (some (.int .i64 (k : Int))) (some (.int .i64 ((k : Int) + 1))) (some (.int .i64 ((k : Int) + 1)))).run Try.prog w = .ok (.slice (some ⟨b, off + k, none⟩) 1 1) w := by
  have hu := Try.underlying22
  have hz : ∀ w, (sizeOf 9).run Try.prog w = .ok 1 w := fun _ => by kernel_rfl
  have h1 : (0 : Int) ≤ (k : Int) + 1 ∧ (k : Int) + 1 ≤ (c : Int) := by omega
  have h2 : (0 : Int) ≤ (k : Int) ∧ (k : Int) ≤ (k : Int) + 1 := by omega
  have h3 : (⟨b, off, none⟩ : Addr).add k = ⟨b, off + k, none⟩ := by rw [Addr.add_none]
  have h4 : ((k : Int) + 1).toNat = k + 1 := by omega
  have h5 : k + 1 - k = 1 := by omega
  have h6 : ¬ (c = k) := by omega
  have h7 : ¬ (k + 1 = k) := by omega
  simp [Instr.sliceAt, Instr.slice, Instr.sliceBounds, Instr.sliceBound, run_underlying hu, asIntOf, h1, h2, h3, h4, h5, h6, h7, hz, go_sem]

set_option maxRecDepth 20000 in
set_option maxHeartbeats 400000 in
theorem only_any (b off n c k : Nat) (hk : k < n) (hc : n ≤ c) (hn : n ≤ 1000000) (w : World) :
    Calls Try.prog 33 #[.slice (some ⟨b, off, none⟩) n c, .int .i64 (k : Int)] w fun e w' => e = .returned (.slice (some ⟨b, off + k, none⟩) 1 1) ∧ w' = w := by
  have hs := slice_three b off n c k hk hc
  have b1 : (k : Int) ≤ 1000000 := by omega
  go_enter Try.func33, Try.ntmps33
  go_wp2
  go_ret
  exact ⟨rfl, rfl⟩

set_option maxRecDepth 20000 in
set_option maxHeartbeats 400000 in
theorem last_any (a : Option Addr) (n c : Nat) (L : List ByteArray) (w : World) (h : Rs w a n c L) (h0 : 0 < n) (hn : n ≤ 1000000) :
    Calls Try.prog 35 #[.slice a n c] w fun e w' => e = .returned (.string (lastB L)) ∧ w' = w := by
  obtain ⟨b, off, rfl, _, hc⟩ := h.at0 h0
  obtain ⟨m, hm⟩ : ∃ m, m = n - 1 := ⟨_, rfl⟩
  have e1 := hc m (by omega)
  have hl : lastB L = lAt L m := by unfold lastB; rw [h.len, hm]
  rw [hl]
  generalize lAt L m = s at e1 ⊢
  have b1 : (n : Int) ≤ 1000000 := by omega
  have b2 : (n : Int) - 1 = (m : Int) := by omega
  have b3 : (m : Int) < (n : Int) := by omega
  have b4 : (0 : Int) ≤ (m : Int) := by omega
  have b5 : ((m : Int)).toNat = m := by omega
  clear hc hl h hm
  go_enter Try.func35, Try.ntmps35
  go_wp2
  go_ret
  exact ⟨rfl, rfl⟩

set_option maxRecDepth 20000 in
set_option maxHeartbeats 400000 in
theorem fault_any (p : Nat) (i : Int) (a : Option Addr) (n c : Nat) (w : World) (hc : w.cell? ⟨p, 0, none⟩ = some (.slice a n c)) :
    Calls Try.prog 29 #[.pointer (some ⟨p, 0, none⟩), .int .i64 i] w fun e w' => e = .returned (.int .i64 (if 0 ≤ i ∧ i < (n : Int) then 0 else 3)) ∧ w' = w := by
  by_cases h0 : i < 0
  · rw [if_neg (by omega)]
    go_enter Try.func29, Try.ntmps29
    go_wp2
    go_ret
    exact ⟨rfl, rfl⟩
  · by_cases h1 : (n : Int) ≤ i
    · rw [if_neg (by omega)]
      go_enter Try.func29, Try.ntmps29
      go_wp2
      go_ret
      exact ⟨rfl, rfl⟩
    · rw [if_pos (by omega)]
      go_enter Try.func29, Try.ntmps29
      go_wp2
      go_ret
      exact ⟨rfl, rfl⟩

set_option maxRecDepth 20000 in
set_option maxHeartbeats 400000 in
theorem fault_nil (i : Int) (w : World) : Calls Try.prog 29 #[.pointer none, .int .i64 i] w fun e w' => e = .returned (.int .i64 1) ∧ w' = w := by
  go_enter Try.func29, Try.ntmps29
  go_wp2
  go_ret
  exact ⟨rfl, rfl⟩

set_option maxRecDepth 20000 in
set_option maxHeartbeats 1000000 in
theorem index_any (a : Option Addr) (n c : Nat) (L : List ByteArray) (s : ByteArray) (w : World) (h : Rs w a n c L) (hn : n ≤ 1000000) :
    Calls Try.prog 34 #[.slice a n c, .string s] w fun e w' => Below w.heap.size w w' ∧ ((e = .returned (.int .i64 (-1)) ∧ isIn L s = false) ∨ ∃ k : Nat, e = .returned (.int .i64 (k : Int)) ∧ k < n ∧ lAt L k = s) := by
  have hLl := h.len
  have hcc : (c : Int) ≤ 9223372036854775807 := by have := h.cm; unfold maxLen at this; omega
  have hle := h.le
  have HL := Lib.hid h
  clear h
  obtain ⟨V, hV⟩ : ∃ V, V = Value.string s := ⟨_, rfl⟩
  rw [← hV]
  go_enter Try.func34, Try.ntmps34
  go_wp2
  go_loopw [8] (fun i wr => ∃ k : Nat, k ≤ n ∧ i = .int .i64 k ∧ (∀ j, j < k → lAt L j ≠ s) ∧ Below w.heap.size w wr) (fun i _ => n - (intOf i).toNat)
  case atStart => exact ⟨0, by omega, rfl, fun j hj => by omega, Below.refl _ _⟩
  case round =>
    obtain ⟨k, hk, rfl, hall, hB⟩ := hrel
    have HALL := Lib.hid hall
    clear hall
    by_cases hlt : k < n
    · have i0 : (0 : Int) ≤ (k : Int) := by omega
      have i1 : (k : Int) < (n : Int) := by omega
      obtain ⟨b1, o1, rfl, _, hc1⟩ := (HL.out.later hB).at0 (by omega)
      have e1 := hc1 k hlt
      obtain ⟨t, ht⟩ : ∃ t, t = lAt L k := ⟨_, rfl⟩
      rw [← ht] at e1
      have hgd := fun x y w => guard_txt .eql x y s t w
      obtain ⟨V2, hV2⟩ : ∃ V, V = Value.string t := ⟨_, rfl⟩
      rw [← hV2] at e1
      simp only [← hV, ← hV2] at hgd
      have HB := Lib.hid hB
      clear hc1 hB
      by_cases hst : s = t
      · have hq : ∀ w, (binOp .eql 9 V V2).run Try.prog w = .ok (.bool true) w := fun w => by rw [hV, hV2, eql_txt, decide_eq_true hst]
        have HE := Lib.hid (show lAt L k = s by rw [← ht, hst])
        have HV := Lib.hid hV
        clear ht hst hV hV2
        go_wp2
        go_ret
        exact ⟨HB.out, .inr ⟨k, rfl, hlt, HE.out⟩⟩
      · have hq : ∀ w, (binOp .eql 9 V V2).run Try.prog w = .ok (.bool false) w := fun w => by rw [hV, hV2, eql_txt, decide_eq_false hst]
        have HX := Lib.hid (show ∀ j, j < k + 1 → lAt L j ≠ s from fun j hj => by
          rcases Nat.lt_or_ge j k with h | h
          · exact HALL.out j h
          · obtain rfl : j = k := by omega
            rw [← ht]; exact fun e => hst e.symm)
        have HV := Lib.hid hV
        clear ht hst hV hV2
        go_wp2
        go_roundw
        case rel => exact ⟨k + 1, by omega, by go_num, HX.out, HB.out⟩
        case measure => simp [intOf]; omega
    · obtain rfl : k = n := by omega
      have HE := Lib.hid (show isIn L s = false from by
        rw [Bool.eq_false_iff]
        intro e
        obtain ⟨i, hi, e2⟩ := isIn_iff.mp e
        exact HALL.out i (by omega) e2)
      have i1 : ¬ (k : Int) < (k : Int) := by omega
      have HB := Lib.hid hB
      clear hB
      go_wp2
      go_ret
      exact ⟨HB.out, .inl ⟨rfl, HE.out⟩⟩

set_option maxRecDepth 20000 in
set_option maxHeartbeats 1000000 in
theorem contains_any (a : Option Addr) (n c : Nat) (L : List ByteArray) (s : ByteArray) (w : World) (h : Rs w a n c L) (hn : n ≤ 1000000) :
    Calls Try.prog 39 #[.slice a n c, .string s] w fun e w' => e = .returned (.bool (isIn L s)) ∧ Below w.heap.size w w' := by
  have HI := Lib.hid (index_any a n c L s w h hn)
  have hl := h.len
  clear h
  go_enter Try.func39, Try.ntmps39
  go_wp2_with fail
  refine HI.out.mono ?_
  rintro e w1 ⟨hb, ⟨rfl, h1⟩ | ⟨k, rfl, hk, h1⟩⟩
  · have HB := Lib.hid hb
    have H1 := Lib.hid h1
    clear hb h1
    go_wp2
    go_ret
    exact ⟨by rw [H1.out]; rfl, HB.out⟩
  · have HB := Lib.hid hb
    have H1 := Lib.hid (show isIn L s = true from isIn_iff.mpr ⟨k, by omega, h1⟩)
    have i0 : (0 : Int) ≤ (k : Int) := by omega
    clear hb h1
    go_wp2
    go_ret
    exact ⟨by rw [H1.out]; simp, HB.out⟩

end Ap
end Go.Proofs.Ythapcpfemmfhoaa


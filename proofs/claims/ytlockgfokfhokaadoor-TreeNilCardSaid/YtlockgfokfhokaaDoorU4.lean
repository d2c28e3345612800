/-
  The document's tree: Root, Digest; Texts.
-/
import Derived.Test.YtlockgfokfhokaaDoorU2
namespace Go.Proofs.YtlockgfokfhokaaDoor
open Go.RowKit
set_option linter.unusedVariables false
set_option linter.unusedSimpArgs false

theorem guard_txt (op : BinOp) (x y : Operand) (u s : ByteArray) (w : World) : Sem.run Tryd.prog (eqGuard op 9 x y (.string u) (.string s)) w = .ok () w := by
  unfold eqGuard
  cases op <;> rfl
theorem neq_txt (u s : ByteArray) (w : World) : (binOp .neq 9 (.string u) (.string s)).run Tryd.prog w = .ok (.bool (!decide (u = s))) w := by
  obtain ⟨xs, rfl⟩ : ∃ xs : List UInt8, u = ⟨xs.toArray⟩ := ⟨u.data.toList, by cases u; simp⟩
  obtain ⟨ys, rfl⟩ : ∃ xs : List UInt8, s = ⟨xs.toArray⟩ := ⟨s.data.toList, by cases s; simp⟩
  go_simp
  by_cases h : xs = ys <;> simp [h]
theorem eql_txt (u s : ByteArray) (w : World) : (binOp .eql 9 (.string u) (.string s)).run Tryd.prog w = .ok (.bool (decide (u = s))) w := by
  obtain ⟨xs, rfl⟩ : ∃ xs : List UInt8, u = ⟨xs.toArray⟩ := ⟨u.data.toList, by cases u; simp⟩
  obtain ⟨ys, rfl⟩ : ∃ xs : List UInt8, s = ⟨xs.toArray⟩ := ⟨s.data.toList, by cases s; simp⟩
  go_simp
  by_cases h : xs = ys <;> simp [h]

def digP (L : List ByteArray) (node : Int) : ByteArray × Int := if node < 0 ∨ (L.length : Int) ≤ node then (noBytes, 3) else (lAt L node.toNat, 0)
def pairV (x : ByteArray × Int) : Value := .tuple #[.string x.1, .int .i64 x.2]

set_option maxRecDepth 20000 in
set_option maxHeartbeats 1000000 in
theorem trroot_any (B p : Nat) (v : Value) (N F C U : Int) (L : List ByteArray) (w : World) (h : RT w B p v N F C U L) (h0 : 0 < L.length) (h1 : L.length ≤ 1000) :
    Calls Tryd.prog 48 #[.pointer (some ⟨p, 0, none⟩)] w fun e w' => e = .returned (.string (lAt L (L.length - 1))) ∧ Below w.heap.size w w' := by
  have hd : RT w.drew B p v N F C U L := h.kept fun _ _ => rfl
  obtain ⟨_, _, _, _, c4, _⟩ := hd.cells
  obtain ⟨a, c, rfl, hrs, _⟩ := towns_shape hd.own
  obtain ⟨b, off, rfl, hbl, hc⟩ := hrs.at0 h0
  have hcx : (c : Int) ≤ 9223372036854775807 := by have := hrs.cm; unfold maxLen at this; omega
  obtain ⟨m, hm⟩ : ∃ m, L.length = m + 1 := ⟨L.length - 1, by omega⟩
  have e0 := hc m (by omega)
  rw [hm] at c4 ⊢
  rw [Nat.add_sub_cancel]
  generalize lAt L m = s at *
  have hb : Below w.heap.size w w.drew := (Below.refl _ _).drew
  have HB := Lib.hid hb
  clear hc hrs hbl h hd hb
  have i0 : (0 : Int) ≤ (m : Int) := by omega
  have i1 : ((m + 1 : Nat) : Int) - 1 = (m : Int) := by omega
  have i2 : (m : Int) < ((m + 1 : Nat) : Int) := by omega
  have i3 : IntKind.i64.wrap ((m : Int) + 1 - 1) = (m : Int) := by rw [IntWalk.i64_in _ (by omega)]; omega
  go_enter Tryd.func48, Tryd.ntmps48
  go_wp2_with fail
  go_region
  go_wp2
  go_ret
  exact ⟨rfl, HB.out⟩

set_option maxRecDepth 20000 in
set_option maxHeartbeats 1000000 in
theorem trdigest_any (B p : Nat) (v : Value) (N F C U : Int) (L : List ByteArray) (node : Int) (w : World) (h : RT w B p v N F C U L) (h1 : L.length ≤ 1000) :
    Calls Tryd.prog 47 #[.pointer (some ⟨p, 0, none⟩), .int .i64 node] w fun e w' => e = .returned (pairV (digP L node)) ∧ Below w.heap.size w w' := by
  obtain ⟨_, _, _, _, c4, _⟩ := h.cells
  obtain ⟨a, c, rfl, hrs, _⟩ := towns_shape h.own
  have hcx : (c : Int) ≤ 9223372036854775807 := by have := hrs.cm; unfold maxLen at this; omega
  unfold digP pairV
  by_cases hn : node < 0
  · rw [if_pos (.inl hn)]
    unfold noBytes
    clear h hrs
    go_enter Tryd.func47, Tryd.ntmps47
    go_wp2
    refine bodyPost_ret (results_tmp2 rfl _ _ _) rfl ?_
    exact ⟨rfl, Below.refl _ _⟩
  · by_cases hg : (L.length : Int) ≤ node
    · rw [if_pos (.inr hg)]
      unfold noBytes
      clear h hrs
      go_enter Tryd.func47, Tryd.ntmps47
      go_wp2
      refine bodyPost_ret (results_tmp2 rfl _ _ _) rfl ?_
      exact ⟨rfl, Below.refl _ _⟩
    · rw [if_neg (by omega)]
      obtain ⟨m, rfl⟩ : ∃ m : Nat, node = m := ⟨node.toNat, by omega⟩
      have hml : m < L.length := by omega
      obtain ⟨b, off, rfl, hbl, hc⟩ := hrs.at0 (by omega)
      have e0 := hc m hml
      rw [Int.toNat_natCast]
      generalize lAt L m = s at *
      have i1 : (m : Int) < (L.length : Int) := by omega
      have i0 : (0 : Int) ≤ (m : Int) := by omega
      clear hc hrs hbl h
      go_enter Tryd.func47, Tryd.ntmps47
      go_wp2
      refine bodyPost_ret (results_tmp2 rfl _ _ _) rfl ?_
      exact ⟨rfl, Below.refl _ _⟩

theorem slist_ext {L M : List ByteArray} (hl : L.length = M.length) (h : ∀ i, i < L.length → lAt L i = lAt M i) : L = M := by
  refine List.ext_getElem hl fun i h1 h2 => ?_
  have := h i h1
  unfold lAt at this
  rw [List.getElem?_eq_getElem h1, List.getElem?_eq_getElem h2] at this
  exact this

set_option maxRecDepth 20000 in
set_option maxHeartbeats 2000000 in
theorem rtexts_any (a b : Option Addr) (n m ca cb : Nat) (L M : List ByteArray) (w : World) (hL : Rs w a n ca L) (hM : Rs w b m cb M) :
    Calls Tryd.prog 19 #[.slice a n ca, .slice b m cb] w fun e w' => e = .returned (.bool (decide (L = M))) ∧ Below w.heap.size w w' := by
  have hca : (ca : Int) ≤ 9223372036854775807 := by have := hL.cm; unfold maxLen at this; omega
  have hcb : (cb : Int) ≤ 9223372036854775807 := by have := hM.cm; unfold maxLen at this; omega
  have hLl := hL.len
  have hMl := hM.len
  have hna := hL.le
  have hnb := hM.le
  have HL := Lib.hid hL
  have HM := Lib.hid hM
  clear hL hM
  by_cases hnm : n = m
  · subst hnm
    go_enter Tryd.func19, Tryd.ntmps19
    go_wp2
    go_loopw [5] (fun i wr => ∃ k : Nat, k ≤ n ∧ i = .int .i64 k ∧ (∀ j, j < k → lAt L j = lAt M j) ∧ Below w.heap.size w wr) (fun i _ => n - (intOf i).toNat)
    case atStart => exact ⟨0, by omega, rfl, fun j hj => by omega, Below.refl _ _⟩
    case round =>
      obtain ⟨k, hk, rfl, hall, hB⟩ := hrel
      have HALL := Lib.hid hall
      clear hall
      by_cases hlt : k < n
      · have i0 : (0 : Int) ≤ (k : Int) := by omega
        have i1 : (k : Int) < (n : Int) := by omega
        obtain ⟨b1, o1, rfl, _, hc1⟩ := (HL.out.later hB.drew).at0 (by omega)
        obtain ⟨b2, o2, rfl, _, hc2⟩ := (HM.out.later hB.drew).at0 (by omega)
        have e1 := hc1 k hlt
        have e2 := hc2 k hlt
        obtain ⟨s, hs⟩ : ∃ s, s = lAt L k := ⟨_, rfl⟩
        obtain ⟨t, ht⟩ : ∃ t, t = lAt M k := ⟨_, rfl⟩
        rw [← hs] at e1
        rw [← ht] at e2
        have hgd := fun x y w => guard_txt .neq x y s t w
        obtain ⟨V1, hV1⟩ : ∃ V, V = Value.string s := ⟨_, rfl⟩
        obtain ⟨V2, hV2⟩ : ∃ V, V = Value.string t := ⟨_, rfl⟩
        rw [← hV1] at e1
        rw [← hV2] at e2
        simp only [← hV1, ← hV2] at hgd
        have HB := Lib.hid hB.drew
        clear hc1 hc2 hB
        by_cases hst : s = t
        · have hq : ∀ w, (binOp .neq 9 V1 V2).run Tryd.prog w = .ok (.bool false) w := fun w => by rw [hV1, hV2, neq_txt, decide_eq_true hst]; rfl
          have HX := Lib.hid (show ∀ j, j < k + 1 → lAt L j = lAt M j from fun j hj => by
            rcases Nat.lt_or_ge j k with h | h
            · exact HALL.out j h
            · obtain rfl : j = k := by omega
              rw [← hs, ← ht]; exact hst)
          clear hs ht hst hV1 hV2
          go_wp2_with fail
          go_region
          go_wp2
          go_roundw
          case rel => exact ⟨k + 1, by omega, by go_num, HX.out, HB.out⟩
          case measure => simp [intOf]; omega
        · have hq : ∀ w, (binOp .neq 9 V1 V2).run Tryd.prog w = .ok (.bool true) w := fun w => by rw [hV1, hV2, neq_txt, decide_eq_false hst]; rfl
          have HNE := Lib.hid (show ¬ L = M from fun e => hst (by rw [hs, ht, e]))
          clear hs ht hst hV1 hV2
          go_wp2_with fail
          go_region
          go_wp2
          go_ret
          exact ⟨by rw [decide_eq_false HNE.out]; rfl, HB.out⟩
      · obtain rfl : k = n := by omega
        have HE := Lib.hid (show L = M from slist_ext (by omega) (fun i hi => HALL.out i (by omega)))
        have i1 : ¬ (k : Int) < (k : Int) := by omega
        have HB := Lib.hid hB
        clear hB
        go_wp2
        go_ret
        exact ⟨by rw [decide_eq_true HE.out]; rfl, HB.out⟩
  · have h1 : ((n : Int) == (m : Int)) = false := by simp; omega
    have h2 : ((n : Int) != (m : Int)) = true := by simp; omega
    have HNE := Lib.hid (show ¬ L = M from fun e => hnm (by rw [← hLl, ← hMl, e]))
    go_enter Tryd.func19, Tryd.ntmps19
    go_wp2
    go_ret
    exact ⟨by rw [decide_eq_false HNE.out]; rfl, Below.refl _ _⟩
end Go.Proofs.YtlockgfokfhokaaDoor


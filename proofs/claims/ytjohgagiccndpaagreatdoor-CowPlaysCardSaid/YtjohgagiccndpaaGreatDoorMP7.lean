/-
  Texts put together: P7, P8.
-/
import Derived.Test.YtjohgagiccndpaaGreatDoorMP4
import Derived.Test.YtjohgagiccndpaaGreatDoorMP5
/-
  A disk that a call has made, act by act, apart from other blocks of the call's; disks on which nothing waits; the fixed calls of layer 16.
-/
namespace Go.Proofs.YtjohgagiccndpaaGreatDoor
open Go.RowKit
set_option linter.unusedVariables false
set_option linter.unusedSimpArgs false

/-- A disk at p in the state S, made since w0, apart from the blocks of Q. -/
def St (Q : Nat → Prop) (w0 w : World) (p : Nat) (S : DS) : Prop := ∃ v1 v2, PD w w0.heap.size p v1 v2 S ∧ Below w0.heap.size w0 w ∧ ∀ k, Q k → k < w.heap.size ∧ ¬ foot p v1 v2 k
def NoQ : Nat → Prop := fun _ => False
section
variable {Q : Nat → Prop} {w0 w w' : World} {p : Nat} {S S' : DS}
theorem St.size (h : St Q w0 w p S) : w0.heap.size ≤ w.heap.size := by obtain ⟨_, _, _, hb, _⟩ := h; exact hb.size
theorem St.fin (h : St Q w0 w p S) : Below w0.heap.size w0 w := by obtain ⟨_, _, _, hb, _⟩ := h; exact hb
theorem St.low (h : St Q w0 w p S) : w0.heap.size ≤ p := by obtain ⟨_, _, hp, _, _⟩ := h; exact hp.low
theorem St.below (h : St Q w0 w p S) (hb : Below w.heap.size w w') : St Q w0 w' p S := by
  obtain ⟨v1, v2, hp, h0, hq⟩ := h
  exact ⟨v1, v2, hp.below hb, h0.trans (hb.mono h0.size), fun k hk => ⟨Nat.lt_of_lt_of_le (hq k hk).1 hb.size, (hq k hk).2⟩⟩
theorem St.step (h : St Q w0 w p S) {f : FuncId} {args : Array Value} {R : Ending} (hc : ∀ v1 v2, PD w w0.heap.size p v1 v2 S → w0.heap.size ≤ w.heap.size → (∀ k, Q k → k < w.heap.size ∧ ¬ foot p v1 v2 k) → Calls Tryz.prog f args w fun e w' => e = R ∧ PP w w0.heap.size p v1 v2 S' w') :
    Calls Tryz.prog f args w fun e w' => e = R ∧ St Q w0 w' p S' ∧ ∀ k, Q k → w'.heap[k]? = w.heap[k]? := by
  obtain ⟨v1, v2, hp, h0, hq⟩ := h
  refine (hc v1 v2 hp h0.size hq).mono ?_
  rintro e w' ⟨he, a, b, hp', hf, ht⟩
  refine ⟨he, ⟨a, b, hp', h0.trans (hf.below (fun k hk => (hp.foot_low k hk).1) h0.size), fun k hk => ⟨Nat.lt_of_lt_of_le (hq k hk).1 hf.size, fun hx => ?_⟩⟩, fun k hk => hf.block k (hq k hk).1 (hq k hk).2⟩
  rcases ht k hx with h1 | h1
  · exact (hq k hk).2 h1
  · have := (hq k hk).1; omega
theorem St.read (h : St Q w0 w p S) {f : FuncId} {args : Array Value} {R : Ending} (hc : ∀ v1 v2, PD w w0.heap.size p v1 v2 S → Calls Tryz.prog f args w fun e w' => e = R ∧ Below w.heap.size w w') :
    Calls Tryz.prog f args w fun e w' => e = R ∧ St Q w0 w' p S ∧ Below w.heap.size w w' := by
  have h' := h
  obtain ⟨v1, v2, hp, h0, hq⟩ := h
  refine (hc v1 v2 hp).mono ?_
  rintro e w' ⟨he, hb⟩
  exact ⟨he, h'.below hb, hb⟩
/-- One more block is kept apart. -/
theorem St.add (h : St Q w0 w p S) (hb : Below w.heap.size w w') {b : Nat} (h1 : w.heap.size ≤ b) (h2 : b < w'.heap.size) : St (fun k => Q k ∨ k = b) w0 w' p S := by
  obtain ⟨v1, v2, hp, h0, hq⟩ := h
  refine ⟨v1, v2, hp.below hb, h0.trans (hb.mono h0.size), fun k hk => ?_⟩
  rcases hk with hk | rfl
  · exact ⟨Nat.lt_of_lt_of_le (hq k hk).1 hb.size, (hq k hk).2⟩
  · exact ⟨h2, fun hx => by have := (hp.foot_low _ hx).2; omega⟩
theorem St.less {Q' : Nat → Prop} (h : St Q w0 w p S) (hq : ∀ k, Q' k → Q k) : St Q' w0 w p S := by
  obtain ⟨v1, v2, hp, h0, h1⟩ := h
  exact ⟨v1, v2, hp, h0, fun k hk => h1 k (hq k hk)⟩
end
theorem st_new (n : Nat) (w : World) (h0 : 1 ≤ n) (h1 : n ≤ 1200) :
    Calls Tryz.prog 9 #[.int .i64 n] w fun e w' => ∃ p, e = .returned (.tuple #[.pointer (some ⟨p, 0, none⟩), .int .i64 0]) ∧ St NoQ w w' p (ds0 n) := by
  refine (dnew_any n w h0 h1).mono ?_
  rintro e w' ⟨p, v1, rfl, hp, hb⟩
  exact ⟨p, rfl, v1, _, hp, hb, fun k hk => hk.elim⟩

/-! ### disks on which nothing waits -/
def flat (L : List ByteArray) (did : Nat) : DS := ⟨L, [], -1, false, did⟩
theorem flat_ok' (L : List ByteArray) (did : Nat) (h : L.length ≤ 1200) : (flat L did).ok did := ⟨fun i hi => by simp [flat] at hi, by simp [flat], by simp [flat], by simp [flat], Nat.le_refl _, h⟩
theorem ds0_flat (n : Nat) : ds0 n = flat (List.replicate n (secOf 0)) 0 := rfl
theorem flat_has (L : List ByteArray) (did i : Nat) (h : i < L.length) : (flat L did).has (i : Int) := ⟨by omega, by show (i : Int) < (L.length : Int); omega⟩
theorem flat_read (L : List ByteArray) (did i : Nat) (h : i < L.length) : (flat L did).read (i : Int) = (lAt L i, 0) := by
  unfold DS.read
  rw [if_neg (by simp [flat]), if_pos (flat_has L did i h)]
  simp [look, flat]
theorem flat_kept (L : List ByteArray) (did i : Nat) (h : i < L.length) : (flat L did).kept (i : Int) = (lAt L i, 0) := by
  unfold DS.kept
  rw [if_pos (flat_has L did i h)]
  rfl
theorem flat_store (L : List ByteArray) (did i : Nat) (s : ByteArray) (h : i < L.length) (hs : s.size = 64) : storeP (flat L did) (i : Int) s = (0, flat (L.set i s) (did + 2)) := by
  have hw : (flat L did).write (i : Int) s = (0, ⟨L, [((i : Int), s)], -1, false, did + 1⟩) := by
    unfold DS.write
    rw [if_neg (by simp [flat]), if_pos (flat_has L did i h), if_pos hs]
    simp [flat, DS.burnt]
  unfold storeP
  rw [hw, if_neg (by simp)]
  unfold DS.flush flat
  simp [DS.burnt, appW, wAt]
theorem lAt_set_eq {L : List ByteArray} {i : Nat} {s : ByteArray} (h : i < L.length) : lAt (L.set i s) i = s := by simp [lAt, h]
theorem lAt_set_ne {L : List ByteArray} {i j : Nat} {s : ByteArray} (h : i ≠ j) : lAt (L.set i s) j = lAt L j := by simp [lAt, List.getElem?_set_ne h]
theorem lAt_rep {n i : Nat} {s : ByteArray} (h : i < n) : lAt (List.replicate n s) i = s := by simp [lAt, h]

/-- An entry that is appended where nothing waits. -/
theorem flat_append {N F C U : Int} {L : List ByteArray} {did k pn : Nat} {tag epoch : Nat} (ho : okG N F C U) (hL : (L.length : Int) = 6 + N + (nodes N F C U : Int) + 2 * U) (hk : (k : Int) < U) (hm : mayP N F C U (pn : Int)) (hs : (lAt L pn).size = 64) :
    appP N F C U (flat L did) (k : Int) tag epoch (pn : Int) = ⟨0, ⟨tag, epoch, pn, lAt L pn⟩, flat ((L.set (6 + N.toNat + nodes N F C U + 2 * k + 1) (lAt L pn)).set (6 + N.toNat + nodes N F C U + 2 * k) (headB tag epoch k pn (sumN (lAt L pn)))) (did + 4)⟩ := by
  have hn := ho.1
  have hp : pn < L.length := by have := hm.2; have := ho.2.2.2.2.2.2.1; omega
  have a1 : areaAt N F C U 1 (2 * (k : Int)) = ((6 + N.toNat + nodes N F C U + 2 * k : Nat) : Int) := by
    unfold areaAt
    rw [if_pos ⟨ho, .inr rfl, by omega, by unfold sec; rw [if_neg (by omega)]; omega⟩]
    omega
  have a2 : areaAt N F C U 1 (2 * (k : Int) + 1) = ((6 + N.toNat + nodes N F C U + 2 * k + 1 : Nat) : Int) := by
    unfold areaAt
    rw [if_pos ⟨ho, .inr rfl, by omega, by unfold sec; rw [if_neg (by omega)]; omega⟩]
    omega
  unfold appP
  rw [if_neg (fun h => h ho), if_neg (by omega), if_neg (fun h => h hm), flat_read L did pn hp]
  simp only [ne_eq, not_true_eq_false, if_false, Int.toNat_natCast, a1, a2]
  rw [flat_store _ _ _ _ (by omega) hs]
  simp only [not_true_eq_false, if_false]
  rw [flat_store _ _ _ _ (by simp; omega) (headB_size _ _ _ _ _)]
  simp only [not_true_eq_false, if_false]

theorem kn16_ok : okG 2 2 0 2 := by unfold okG; omega
theorem kn16_nodes : nodes 2 2 0 2 = 3 := by decide +kernel
theorem kn16_size : sizeOf' 2 2 0 2 1 = 15 := by
  unfold sizeOf'
  rw [if_pos ⟨kn16_ok, .inr rfl⟩, kn16_nodes]
  rfl
/-- The disk behind the first entry. -/
def k16L : List ByteArray := ((List.replicate 15 (secOf 0)).set 12 (secOf 0)).set 11 (headB 1 1 0 6 (sumN (secOf 0)))
theorem k16_len : k16L.length = 15 := by simp [k16L]
theorem k16_6 : lAt k16L 6 = secOf 0 := by unfold k16L; rw [lAt_set_ne (by omega), lAt_set_ne (by omega), lAt_rep (by omega)]
theorem k16_app : appP 2 2 0 2 (ds0 15) 0 1 1 6 = ⟨0, ⟨1, 1, 6, secOf 0⟩, flat k16L 4⟩ := by
  have h := flat_append (N := 2) (F := 2) (C := 0) (U := 2) (L := List.replicate 15 (secOf 0)) (did := 0) (k := 0) (pn := 6) (tag := 1) (epoch := 1) kn16_ok (by rw [kn16_nodes]; simp) (by omega) ⟨by omega, by rw [kn16_nodes]; omega⟩ (by rw [lAt_rep (by omega)]; exact secOf_size 0)
  rw [lAt_rep (by omega), kn16_nodes] at h
  exact h
def k16W : DS := ⟨k16L, [(6, secOf 9)], -1, false, 5⟩
theorem k16_write : (flat k16L 4).write 6 (secOf 9) = (0, k16W) := by
  unfold DS.write
  rw [if_neg (by simp [flat]), if_pos (show (flat k16L 4).has 6 from flat_has k16L 4 6 (by rw [k16_len]; omega)), if_pos (secOf_size 9)]
  simp [flat, DS.burnt, k16W]
theorem k16_read : k16W.read 6 = (secOf 9, 0) := by
  unfold DS.read
  rw [if_neg (by simp [k16W]), if_pos ⟨by omega, by show (6 : Int) < (k16L.length : Int); rw [k16_len]; omega⟩]
  simp [k16W, look, wAt]
def k16E : List En := [⟨1, 1, 6, secOf 0⟩]
theorem k16_view : viewP k16W k16E 6 = (secOf 0, 0) := by
  unfold viewP
  rw [k16_read, if_neg (by simp)]
  rfl
theorem k16_view0 : viewP k16W [] 6 = (secOf 9, 0) := by
  unfold viewP
  rw [k16_read, if_neg (by simp)]
  rfl
theorem k16_back : backP 2 2 0 2 k16W k16E = (0, flat (((k16L.set 6 (secOf 9)).set 6 (secOf 0)).set 11 (secOf 0)) 9) := by
  have hw : wrL k16W (upE k16E k16E.length) = (0, ⟨k16L, [(6, secOf 9), (6, secOf 0)], -1, false, 6⟩) := by
    show (if ((0 : Int), k16W).1 ≠ 0 then ((0 : Int), k16W) else k16W.write 6 (secOf 0)) = _
    rw [if_neg (by simp)]
    unfold DS.write
    rw [if_neg (by simp [k16W]), if_pos ⟨by omega, by show (6 : Int) < (k16L.length : Int); rw [k16_len]; omega⟩, if_pos (secOf_size 0)]
    simp [DS.burnt, k16W]
  have hf : (DS.mk k16L [(6, secOf 9), (6, secOf 0)] (-1) false 6).flush = (0, flat ((k16L.set 6 (secOf 9)).set 6 (secOf 0)) 7) := by
    unfold DS.flush flat
    simp [DS.burnt, appW, wAt]
  have ha : areaAt 2 2 0 2 1 0 = ((11 : Nat) : Int) := by
    unfold areaAt
    rw [if_pos ⟨kn16_ok, .inr rfl, by omega, by unfold sec; rw [if_neg (by omega)]; omega⟩, kn16_nodes]
    rfl
  unfold backP
  rw [if_pos kn16_ok, hw, if_neg (by simp)]
  dsimp only
  rw [hf, if_neg (by simp)]
  unfold clearP
  rw [if_pos kn16_ok, ha, flat_store _ _ _ _ (by simp [k16_len]) (secOf_size 0)]
theorem k16_kept : (flat (((k16L.set 6 (secOf 9)).set 6 (secOf 0)).set 11 (secOf 0)) 9).kept 6 = (secOf 0, 0) := by
  have h := flat_kept (((k16L.set 6 (secOf 9)).set 6 (secOf 0)).set 11 (secOf 0)) 9 6 (by simp [k16_len])
  rw [lAt_set_ne (by omega), lAt_set_eq (by simp [k16_len])] at h
  exact h
theorem es_one (w : World) (e : En) : Es (w.alloc (.cells #[.int .u64 (e.tag : Int), .int .u64 (e.epoch : Int), .int .i64 e.place, .string e.old] 55)) (some ⟨w.heap.size, 0, none⟩) 1 1 [e] := by
  have h := heap_alloc_new w (.cells #[.int .u64 (e.tag : Int), .int .u64 (e.epoch : Int), .int .i64 e.place, .string e.old] 55)
  refine ⟨rfl, Nat.le_refl _, by unfold maxLen; omega, fun _ => ⟨w.heap.size, 0, rfl, by simp, fun i hi => ?_⟩⟩
  obtain rfl : i = 0 := by omega
  refine ⟨?_, ?_, ?_, ?_⟩ <;> (rw [cell_of_blk h]; rfl)
end Go.Proofs.YtjohgagiccndpaaGreatDoor
/-
  The fixed calls of layer 16.
-/
namespace Go.Proofs.YtjohgagiccndpaaGreatDoor
open Go.RowKit
set_option linter.unusedVariables false
set_option linter.unusedSimpArgs false

theorem guard_tx (op : BinOp) (x y : Operand) (u s : ByteArray) (w : World) : Sem.run Tryz.prog (eqGuard op 9 x y (.string u) (.string s)) w = .ok () w := by
  unfold eqGuard
  cases op <;> rfl
theorem neq_tx (u s : ByteArray) (w : World) : (binOp .neq 9 (.string u) (.string s)).run Tryz.prog w = .ok (.bool (!decide (u = s))) w := by
  obtain ⟨xs, rfl⟩ : ∃ xs : List UInt8, u = ⟨xs.toArray⟩ := ⟨u.data.toList, by cases u; simp⟩
  obtain ⟨ys, rfl⟩ : ∃ xs : List UInt8, s = ⟨xs.toArray⟩ := ⟨s.data.toList, by cases s; simp⟩
  go_simp
  by_cases h : xs = ys <;> simp [h]
theorem eql_tx (u s : ByteArray) (w : World) : (binOp .eql 9 (.string u) (.string s)).run Tryz.prog w = .ok (.bool (decide (u = s))) w := by
  obtain ⟨xs, rfl⟩ : ∃ xs : List UInt8, u = ⟨xs.toArray⟩ := ⟨u.data.toList, by cases u; simp⟩
  obtain ⟨ys, rfl⟩ : ∃ xs : List UInt8, s = ⟨xs.toArray⟩ := ⟨s.data.toList, by cases s; simp⟩
  go_simp
  by_cases h : xs = ys <;> simp [h]

set_option maxRecDepth 20000 in
set_option maxHeartbeats 4000000 in
theorem known16_any (w : World) :
    Calls Tryz.prog 26 #[] w fun e w' => e = .returned (.bool true) ∧ Below w.heap.size w w' := by
  have hgc := gb_cells w 2 2 0 2
  have hsz := fun w => rsize_any 2 2 0 2 1 w
  rw [kn16_size] at hsz
  unfold gbox at hgc
  unfold geo at hsz
  have hb0 : Below w.heap.size w (w.alloc (.cells #[.int .i64 2, .int .i64 2, .int .i64 0, .int .i64 2] 23)) := (Below.refl _ w).alloc (Nat.le_refl _) _
  have hs0 := World.size_alloc w (.cells #[.int .i64 2, .int .i64 2, .int .i64 0, .int .i64 2] 23)
  obtain ⟨W, hW⟩ : ∃ W, W = w.alloc (.cells #[.int .i64 2, .int .i64 2, .int .i64 0, .int .i64 2] 23) := ⟨_, rfl⟩
  rw [← hW] at hgc hb0 hs0
  obtain ⟨c0, c1, c2, c3⟩ := hgc W (by rw [← hs0]; exact Below.refl _ _)
  have hn := fun w => st_new 15 w (by omega) (by omega)
  rw [show ((15 : Nat) : Int) = 15 from rfl] at hn
  have HGC := Lib.hid hgc
  have HSZ := Lib.hid hsz
  have HB0 := Lib.hid hb0
  have HS0 := Lib.hid hs0
  have HN := Lib.hid hn
  have HW := Lib.hid hW
  clear hgc hsz hb0 hs0 hn
  go_enter Tryz.func26, Tryz.ntmps26
  go_upto_region 2 with fail
  rw [← HW.out]
  clear hW
  go_wp2_with fail
  refine (HSZ.out _).mono ?_
  rintro e w1 ⟨rfl, hb⟩
  have HB1 := Lib.hid (show Below (w.heap.size + 1) W w1 from hb.mono (by have := HS0.out; omega))
  clear hb c0 c1 c2 c3 HSZ
  go_wp2_with fail
  refine (HN.out _).mono ?_
  rintro e w2 ⟨p, rfl, hst⟩
  -- the geometry's cells, later
  have hgl : ∀ w', Below w1.heap.size w1 w' → w'.cell? ⟨w.heap.size, 0, none⟩ = some (.int .i64 2) ∧ w'.cell? ⟨w.heap.size, 1, none⟩ = some (.int .i64 2) ∧ w'.cell? ⟨w.heap.size, 2, none⟩ = some (.int .i64 0) ∧ w'.cell? ⟨w.heap.size, 3, none⟩ = some (.int .i64 2) := fun w' hb => HGC.out w' (HB1.out.trans (hb.mono (by have := HB1.out.size; have := HS0.out; omega)))
  have HGL := Lib.hid hgl
  have HBW := Lib.hid (HB0.out.trans (HB1.out.mono (by have := HS0.out; omega)))
  have hap := hst.step (S' := (appP 2 2 0 2 (ds0 15) 0 1 1 6).ds) (f := 18) (args := #[.pointer (some ⟨p, 0, none⟩), geo 2 2 0 2, .int .i64 0, .int .u64 ((1 : Nat) : Int), .int .u64 ((1 : Nat) : Int), .int .i64 6]) (R := .returned (appP 2 2 0 2 (ds0 15) 0 1 1 6).val) fun v1 v2 hp hz hq => append_any _ p v1 v2 (ds0 15) 2 2 0 2 0 1 1 6 w2 hp hz 0 (ds0_ok 15 (by omega)) (by omega) (by omega) (by omega) (fun T x hT => by
    subst hT
    rw [show ds0 15 = flat (List.replicate 15 (secOf 0)) 0 from rfl]
    unfold DS.read
    split
    · exact Nat.zero_le _
    · split
      · rename_i hh
        obtain ⟨k, rfl, hk⟩ := has_nat hh
        have hk' : k < 15 := by simpa [flat] using hk
        simp only [flat, look, List.length_nil, Int.toNat_natCast, lAt_rep hk', secOf_size]
        omega
      · exact Nat.zero_le _)
  rw [k16_app] at hap
  unfold geo ApR.val En.val at hap
  dsimp only at hap
  rw [show ((1 : Nat) : Int) = 1 from rfl] at hap
  have HAP := Lib.hid hap
  obtain ⟨c0, c1, c2, c3⟩ := HGL.out w2 hst.fin
  clear hst hap hgl HN HB1
  go_wp2_with fail
  refine HAP.out.mono ?_
  rintro e w3 ⟨rfl, hst, -⟩
  have hB3a := (Below.refl w3.heap.size w3).alloc (Nat.le_refl _) (.cells #[.int .u64 1, .int .u64 1, .int .i64 6, .string (secOf 0)] 55)
  have hx3 := heap_alloc_new w3 (.cells #[.int .u64 1, .int .u64 1, .int .i64 6, .string (secOf 0)] 55)
  have HST3 := Lib.hid (hst.add (b := w3.heap.size) hB3a (Nat.le_refl _) (by simp))
  have hf9 := fun w => rfill_any 9 9 rfl w
  have HF9 := Lib.hid hf9
  have HZ := Lib.hid (fun w => rzero_any w)
  have HX3 := Lib.hid hx3
  obtain ⟨W3, hW3⟩ : ∃ W3, W3 = w3.alloc (.cells #[.int .u64 1, .int .u64 1, .int .i64 6, .string (secOf 0)] 55) := ⟨_, rfl⟩
  rw [← hW3] at HST3 HX3
  obtain ⟨bx, hbx⟩ : ∃ b, b = w3.heap.size := ⟨_, rfl⟩
  have HLT := Lib.hid (show bx < W3.heap.size from by rw [hW3, hbx]; simp)
  rw [← hbx] at HX3
  obtain ⟨Z, hZ⟩ : ∃ Z, Z = secOf 0 := ⟨_, rfl⟩
  obtain ⟨Y, hY⟩ : ∃ Y, Y = secOf 9 := ⟨_, rfl⟩
  have HZY := Lib.hid (And.intro hZ hY)
  rw [← hZ] at HX3 hW3
  simp only [← hZ] at HZ
  simp only [← hY] at HF9
  have HW3 := Lib.hid hW3
  have HBXX := Lib.hid hbx
  rw [← hZ] 
  clear hst hB3a hx3 hf9 HAP c0 c1 c2 c3 hW3 hbx hZ hY
  go_upto_region 4 with fail
  rw [← HW3.out, ← HBXX.out]
  go_wp2_with fail
  refine (HF9.out _).mono ?_
  rintro e w4 ⟨rfl, hb⟩
  have HST4 := Lib.hid (HST3.out.below hb)
  have HX4 := Lib.hid ((hb.block _ (lt_of_block HX3.out)).trans HX3.out)
  have hwr := HST4.out.step (S' := ((flat k16L 4).write 6 (secOf 9)).2) (f := 27) (args := #[.pointer (some ⟨p, 0, none⟩), .int .i64 6, .string (secOf 9)]) (R := .returned (.int .i64 ((flat k16L 4).write 6 (secOf 9)).1)) fun v1 v2 hp hz hq => write_any _ p v1 v2 (flat k16L 4) 6 (secOf 9) w4 hp hz 4 (flat_ok' _ _ (by rw [k16_len]; omega)) (by omega)
  rw [k16_write] at hwr
  dsimp only at hwr
  rw [← HZY.out.2] at hwr
  have HWR := Lib.hid hwr
  clear hb hwr HF9 HST3 HST4
  go_wp2_with fail
  refine HWR.out.mono ?_
  rintro e w5 ⟨rfl, hst, hq⟩
  have hx5 := (hq bx (.inr HBXX.out)).trans HX4.out
  have d0 : w5.cell? ⟨bx, 0, none⟩ = some (.int .u64 1) := by rw [cell_of_blk hx5]; rfl
  have d1 : w5.cell? ⟨bx, 1, none⟩ = some (.int .u64 1) := by rw [cell_of_blk hx5]; rfl
  have d2 : w5.cell? ⟨bx, 2, none⟩ = some (.int .i64 6) := by rw [cell_of_blk hx5]; rfl
  have d3 : w5.cell? ⟨bx, 3, none⟩ = some (.string Z) := by rw [cell_of_blk hx5]; rfl
  -- the list of one
  have hb6 := (Below.refl w5.heap.size w5).alloc (Nat.le_refl _) (.cells #[.int .u64 1, .int .u64 1, .int .i64 6, .string Z] 55)
  have hes := es_one w5 ⟨1, 1, 6, Z⟩
  rw [show (Obj.cells #[.int .u64 (((⟨1, 1, 6, Z⟩ : En).tag : Nat) : Int), .int .u64 (((⟨1, 1, 6, Z⟩ : En).epoch : Nat) : Int), .int .i64 (⟨1, 1, 6, Z⟩ : En).place, .string (⟨1, 1, 6, Z⟩ : En).old] 55) = .cells #[.int .u64 1, .int .u64 1, .int .i64 6, .string Z] 55 from rfl] at hes
  have HST6 := Lib.hid (hst.add (b := w5.heap.size) hb6 (Nat.le_refl _) (by simp))
  obtain ⟨W6, hW6⟩ : ∃ W6, W6 = w5.alloc (.cells #[.int .u64 1, .int .u64 1, .int .i64 6, .string Z] 55) := ⟨_, rfl⟩
  obtain ⟨bl, hbl⟩ : ∃ b, b = w5.heap.size := ⟨_, rfl⟩
  rw [← hW6] at HST6 hes
  rw [← hbl] at hes
  have HES := Lib.hid hes
  have HW6 := Lib.hid hW6
  have HBL := Lib.hid hbl
  clear hst hq hx5 hb6 hes hW6 hbl HWR HX4 HX3 HLT
  go_upto_region 6 with fail
  rw [← HW6.out, ← HBL.out]
  clear d0 d1 d2 d3
  -- the two views
  have okW : k16W.ok 5 := by
    have := (flat_ok' k16L 4 (by rw [k16_len]; omega)).write 6 (secOf 9)
    rw [k16_write] at this
    exact this
  have hv := HST6.out.read (f := 63) (args := #[.pointer (some ⟨p, 0, none⟩), .slice (some ⟨bl, 0, none⟩) 1 1, .int .i64 6]) (R := .returned (two (viewP k16W [⟨1, 1, 6, Z⟩] 6))) fun v1 v2 hp => view_any _ p v1 v2 k16W _ 1 1 _ 6 W6 hp (by simp [k16W]) (by show k16L.length ≤ _; rw [k16_len]; omega) HES.out
  rw [show viewP k16W [⟨1, 1, 6, Z⟩] 6 = (Z, 0) from by rw [HZY.out.1]; exact k16_view] at hv
  unfold two at hv
  dsimp only at hv
  have HV := Lib.hid hv
  clear hv
  go_wp2_with fail
  refine HV.out.mono ?_
  rintro e w7 ⟨rfl, hst, hb7⟩
  have hv := hst.read (f := 63) (args := #[.pointer (some ⟨p, 0, none⟩), .slice none 0 0, .int .i64 6]) (R := .returned (two (viewP k16W [] 6))) fun v1 v2 hp => view_any _ p v1 v2 k16W _ 0 0 _ 6 w7 hp (by simp [k16W]) (by show k16L.length ≤ _; rw [k16_len]; omega) (es_nil _)
  rw [show viewP k16W [] 6 = (Y, 0) from by rw [HZY.out.2]; exact k16_view0] at hv
  unfold two at hv
  dsimp only at hv
  have HV2 := Lib.hid hv
  have HES7 := Lib.hid (HES.out.later hb7)
  clear hv hst hb7 HV HES
  go_wp2_with fail
  refine HV2.out.mono ?_
  rintro e w8 ⟨rfl, hst, hb8⟩
  have hes8 := HES7.out.later hb8
  have hbk := hst.step (S' := (backP 2 2 0 2 k16W k16E).2) (f := 33) (args := #[.pointer (some ⟨p, 0, none⟩), geo 2 2 0 2, .slice (some ⟨bl, 0, none⟩) 1 1]) (R := .returned (.int .i64 (backP 2 2 0 2 k16W k16E).1)) fun v1 v2 hp hz hq => back_any _ p v1 v2 k16W 2 2 0 2 _ 1 1 k16E w8 hp hz 5 okW (by omega) (show Es w8 _ 1 1 k16E from by unfold k16E; rw [← HZY.out.1]; exact hes8) (fun b off e _ => by cases e; have h := hq bl (.inr HBL.out); exact ⟨h.2, h.1⟩)
  rw [k16_back] at hbk
  unfold geo at hbk
  dsimp only at hbk
  have HBK := Lib.hid hbk
  obtain ⟨c0, c1, c2, c3⟩ := HGL.out w8 hst.fin
  clear hbk hst hb8 hes8 HES7 HV2
  go_wp2_with fail
  refine HBK.out.mono ?_
  rintro e w9 ⟨rfl, hst, -⟩
  have hkp := hst.read (f := 12) (args := #[.pointer (some ⟨p, 0, none⟩), .int .i64 6]) (R := .returned (two ((flat (((k16L.set 6 (secOf 9)).set 6 (secOf 0)).set 11 (secOf 0)) 9).kept 6))) fun v1 v2 hp => (kept_any _ p v1 v2 _ 6 w9 hp (by simp [flat, k16_len])).mono fun e w' h => ⟨h.1, by rw [h.2]; exact Below.refl _ _⟩
  rw [k16_kept, ← HZY.out.1] at hkp
  unfold two at hkp
  dsimp only at hkp
  have HKP := Lib.hid hkp
  clear hkp hst HBK c0 c1 c2 c3
  go_wp2_with fail
  refine HKP.out.mono ?_
  rintro e w10 ⟨rfl, hst, -⟩
  have HST10 := Lib.hid hst
  have hdn := fun w' (hb : Below w10.heap.size w10 w') => (HST10.out.below hb).read (f := 13) (args := #[.pointer (some ⟨p, 0, none⟩)]) (R := .returned (.int .i64 9)) fun v1 v2 hp => (done_any p 9 w' (by obtain ⟨fu, e, c0, c1, c2, c3, c4, c5, hf⟩ := hp.cells; exact c5)).mono fun e w' h => ⟨h.1, by rw [h.2]; exact Below.refl _ _⟩
  have HDN := Lib.hid hdn
  have gz := fun op x y w => guard_tx op x y Z Z w
  have gy := fun op x y w => guard_tx op x y Y Y w
  have HFY := Lib.hid (fun w => rfill_any 9 9 rfl w)
  simp only [← HZY.out.2] at HFY
  obtain ⟨VZ, hVZ⟩ : ∃ V : Value, V = .string Z := ⟨_, rfl⟩
  obtain ⟨VY, hVY⟩ : ∃ V : Value, V = .string Y := ⟨_, rfl⟩
  have qz : ∀ w, (binOp .eql 9 VZ VZ).run Tryz.prog w = .ok (.bool true) w := fun w => by rw [hVZ, eql_tx]; simp
  have qy : ∀ w, (binOp .eql 9 VY VY).run Tryz.prog w = .ok (.bool true) w := fun w => by rw [hVY, eql_tx]; simp
  simp only [← hVZ] at gz HZ ⊢
  simp only [← hVY] at gy HFY ⊢
  clear hst HKP hdn hVZ hVY
  go_wp2_with fail
  refine (HZ.out _).mono ?_
  rintro e w11 ⟨rfl, hb⟩
  have HB11 := Lib.hid hb
  clear hb
  go_wp2_with fail
  refine (HFY.out _).mono ?_
  rintro e w12 ⟨rfl, hb⟩
  have HB12 := Lib.hid (HB11.out.trans (hb.mono HB11.out.size))
  clear hb HB11
  go_wp2_with fail
  refine (HZ.out _).mono ?_
  rintro e w13 ⟨rfl, hb⟩
  have HB13 := Lib.hid (HB12.out.trans (hb.mono HB12.out.size))
  clear hb HB12
  go_wp2_with fail
  refine (HDN.out _ HB13.out).mono ?_
  rintro e w14 ⟨rfl, hst, -⟩
  have HFIN := Lib.hid (HBW.out.trans (hst.fin.mono HBW.out.size))
  clear hst
  go_wp2
  go_ret
  exact ⟨rfl, HFIN.out⟩
end Go.Proofs.YtjohgagiccndpaaGreatDoor

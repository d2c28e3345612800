/-
  Pasts: the document's Has, Flush, Crash.
-/
import Derived.Test.YthapcpfemmfhoaaAP7
namespace Go.Proofs.Ythapcpfemmfhoaa
namespace Ap
open Go.RowKit
set_option linter.unusedVariables false
set_option linter.unusedSimpArgs false

theorem Rs.fr {w w' : World} {A : Nat → Prop} {a : Option Addr} {n cap : Nat} {L : List ByteArray} (h : Rs w a n cap L) (hf : Fr A w w') (hd : ∀ b off, a = some ⟨b, off, none⟩ → 0 < n → ¬ A b) : Rs w' a n cap L where
  len := h.len
  le := h.le
  cm := h.cm
  at0 := fun h0 => by
    obtain ⟨b, off, ha, hlt, hc⟩ := h.at0 h0
    exact ⟨b, off, ha, Nat.lt_of_lt_of_le hlt hf.size, fun i hi => by rw [World.cell?_of_block (w := w) (hf.block b hlt (hd b off ha h0))]; exact hc i hi⟩

theorem ok_sets {S : PS} {N : Nat} (hok : S.ok N) (f : Nat → List ByteArray) (hf : ∀ j, (f j).length = 1) {k : Nat} (hk : k ≤ S.L.length) : (⟨setsL S.L f k, S.E⟩ : PS).ok N := by
  refine ⟨by rw [show (⟨setsL S.L f k, S.E⟩ : PS).L.length = S.L.length from setsL_length _ _ _]; exact hok.l, hok.e, fun i hi => ?_, hok.p⟩
  have hi' : i < S.L.length := by rwa [show (⟨setsL S.L f k, S.E⟩ : PS).L.length = S.L.length from setsL_length _ _ _] at hi
  show 0 < (LAt (setsL S.L f k) i).length ∧ (LAt (setsL S.L f k) i).length ≤ N
  rw [setsL_at _ _ _ hk]
  split
  · rw [hf]; have := hok.l; omega
  · exact hok.s i hi'

set_option maxRecDepth 20000 in
set_option maxHeartbeats 1000000 in
theorem rhas_any (p : Nat) (F : Nat → Prop) (S : PS) (i : Int) (s : ByteArray) (w : World) (h : RM w p F S) (N : Nat) (hok : S.ok N) (hN : N ≤ 1000) :
    Calls Try.prog 23 #[.pointer (some ⟨p, 0, none⟩), .int .i64 i, .string s] w fun e w' => e = .returned (.bool (S.may i s)) ∧ Below w.heap.size w w' := by
  obtain ⟨v1, v2, v3, vs, xs, hi, _, _⟩ := h
  have hol := hok.l
  by_cases hs : S.has i
  · obtain ⟨k, rfl, hk⟩ := ps_nat hs
    obtain ⟨g, c, b, off, c2, rfl, hle, hcm, hgo, c0, ck, e2, hrs⟩ := hi.at hk
    have hkl := hok.s k hk
    have hmx : (c : Int) ≤ 9223372036854775807 := by unfold maxLen at hcm; omega
    have hf := rin_any p k _ _ c w c0
    rw [decide_eq_true (show 0 ≤ (k : Int) ∧ (k : Int) < (S.L.length : Int) from hs)] at hf
    have hR : S.may (k : Int) s = isIn (LAt S.L k) s := by unfold PS.may; rw [decide_eq_true hs]; simp
    rw [hR]
    obtain ⟨V, hV⟩ : ∃ V, V = Value.string s := ⟨_, rfl⟩
    rw [← hV]
    have HF := Lib.hid hf
    have HI := Lib.hid hi
    have HRS := Lib.hid hrs
    have i0 : (0 : Int) ≤ (k : Int) := by omega
    have i1 : (k : Int) < (S.L.length : Int) := by omega
    obtain ⟨M, hM⟩ : ∃ M, M = LAt S.L k := ⟨_, rfl⟩
    rw [← hM] at HRS ⊢
    have HE2 := Lib.hid (show vAt vs k = .slice (some ⟨b, off, none⟩) M.length c2 by rw [hM]; exact e2)
    have hll : M.length ≤ 1000 := by rw [hM]; omega
    obtain ⟨ln, hln⟩ : ∃ ln, ln = M.length := ⟨_, rfl⟩
    rw [← hln] at HRS HE2 hll
    have HLN := Lib.hid hln
    have HVV := Lib.hid hV
    clear hf hR hi hok hrs hkl c0 ck hgo e2 hM hln hs hV
    go_enter Try.func23, Try.ntmps23
    go_wp2_with fail
    refine HF.out.mono ?_
    rintro e w1 ⟨rfl, hw1⟩; obtain rfl := hw1.symm; clear hw1
    go_wp2
    go_loopw [7] (fun i wr => ∃ j : Nat, j ≤ ln ∧ i = .int .i64 j ∧ (∀ x, x < j → lAt M x ≠ s) ∧ Below w.heap.size w wr) (fun i _ => ln - (intOf i).toNat)
    case atStart => exact ⟨0, by omega, rfl, fun j hj => by omega, Below.refl _ _⟩
    case round =>
      obtain ⟨j, hj, rfl, hall, hB⟩ := hrel
      have HALL := Lib.hid hall
      have hri := HI.out.kept (w' := wr) (fun x hx => hB.block x (HI.out.lt x hx))
      obtain ⟨g', c', b', off', c2', e1, hle', hcm', hgo', c0, ck, e2, _⟩ := hri.at (k := k) hk
      rw [HE2.out] at ck
      have hg' : g = g' := by simp at e1; exact e1.1
      subst hg'
      clear hall hri e1 e2 hgo' hle' hcm'
      by_cases hlt : j < ln
      · have j0 : (0 : Int) ≤ (j : Int) := by omega
        have j1 : (j : Int) < (ln : Int) := by omega
        obtain ⟨b1, o1, eb, _, hc1⟩ := (HRS.out.later hB).at0 (by omega)
        have eb' : b = b1 ∧ off = o1 := by simpa using eb
        obtain ⟨rfl, rfl⟩ := eb'
        have d1 := hc1 j hlt
        obtain ⟨t, ht⟩ : ∃ t, t = lAt M j := ⟨_, rfl⟩
        rw [← ht] at d1
        have hgd := fun x y w => guard_txt .eql x y t s w
        obtain ⟨V2, hV2⟩ : ∃ V, V = Value.string t := ⟨_, rfl⟩
        rw [← hV2] at d1
        simp only [← HVV.out, ← hV2] at hgd
        have HB := Lib.hid hB
        clear hc1 hB eb
        by_cases hst : t = s
        · have hq : ∀ w, (binOp .eql 9 V2 V).run Try.prog w = .ok (.bool true) w := fun w => by rw [HVV.out, hV2, eql_txt, decide_eq_true hst]
          have HE := Lib.hid (show isIn M s = true from isIn_iff.mpr ⟨j, by have := HLN.out; omega, by rw [← ht]; exact hst⟩)
          clear ht hst hV2
          go_wp2
          go_ret
          exact ⟨by rw [HE.out]; rfl, HB.out⟩
        · have hq : ∀ w, (binOp .eql 9 V2 V).run Try.prog w = .ok (.bool false) w := fun w => by rw [HVV.out, hV2, eql_txt, decide_eq_false hst]
          have HX := Lib.hid (show ∀ x, x < j + 1 → lAt M x ≠ s from fun x hx => by
            rcases Nat.lt_or_ge x j with h | h
            · exact HALL.out x h
            · obtain rfl : x = j := by omega
              rw [← ht]; exact hst)
          clear ht hst hV2
          go_wp2
          go_roundw
          case rel => exact ⟨j + 1, by omega, by go_num, HX.out, HB.out⟩
          case measure => simp [intOf]; omega
      · obtain rfl : j = ln := by omega
        have HE := Lib.hid (show isIn M s = false from by
          rw [Bool.eq_false_iff]
          intro e
          obtain ⟨x, hx, e2⟩ := isIn_iff.mp e
          exact HALL.out x (by have := HLN.out; omega) e2)
        have j1 : ¬ (j : Int) < (j : Int) := by omega
        have HB := Lib.hid hB
        clear hB
        go_wp2
        go_ret
        exact ⟨by rw [HE.out]; rfl, HB.out⟩
  · obtain ⟨a, c, _, _, _, _, rfl, hle, hcm, _, _, _, _, _, _, c0, _⟩ := hi.cells
    have hf := rin_any p i _ _ c w c0
    rw [decide_eq_false (show ¬ (0 ≤ i ∧ i < (S.L.length : Int)) from hs)] at hf
    have hR : S.may i s = false := by unfold PS.may; rw [decide_eq_false hs]; rfl
    rw [hR]
    have HF := Lib.hid hf
    clear hf hR hs hi hok
    go_enter Try.func23, Try.ntmps23
    go_wp2_with fail
    refine HF.out.mono ?_
    rintro e w1 ⟨rfl, hw1⟩; obtain rfl := hw1.symm; clear hw1
    go_wp2
    go_ret
    exact ⟨rfl, Below.refl _ _⟩

/-- One list is a text alone, in a new block. -/
theorem RI.set1 {w w1 w2 : World} {p : Nat} {v1 v2 v3 : Value} {vs xs : List Value} {S : PS} {F : Nat → Prop} (h : RI w1 p v1 v2 v3 vs xs S) {k g : Nat} (hk : k < S.L.length) (hg : v1.ownBlock = some g) (s : ByteArray) (hF : ∀ j, rf p v1 v2 v3 vs xs S j → F j ∨ w.heap.size ≤ j) (hfr : Fr F w w1)
    (hw2 : w2 = w1.alloc (.cells #[.string s] 9) ∨ w2 = w1.drew.alloc (.cells #[.string s] 9)) :
    RI (w2.setCell ⟨g, k, none⟩ (.slice (some ⟨w1.heap.size, 0, none⟩) 1 1)) p v1 v2 v3 (vs.set k (.slice (some ⟨w1.heap.size, 0, none⟩) 1 1)) xs ⟨S.L.set k [s], S.E⟩ ∧
    (∀ j, rf p v1 v2 v3 (vs.set k (.slice (some ⟨w1.heap.size, 0, none⟩) 1 1)) xs ⟨S.L.set k [s], S.E⟩ j → F j ∨ w.heap.size ≤ j) ∧ Fr F w (w2.setCell ⟨g, k, none⟩ (.slice (some ⟨w1.heap.size, 0, none⟩) 1 1)) ∧ w2.cell? ⟨g, k, none⟩ = some (vAt vs k) ∧ w2.frozen? ⟨g, k, none⟩ = false := by
  have hold : ∀ j, j < w1.heap.size → w2.heap[j]? = w1.heap[j]? := fun j hj => by
    rcases hw2 with rfl | rfl
    · exact Below.heap_alloc w1 _ _ hj
    · exact Below.heap_alloc w1.drew _ _ hj
  have hlv : LV w2 (.slice (some ⟨w1.heap.size, 0, none⟩) 1 1) [s] := by
    rcases hw2 with rfl | rfl
    · exact lv_one w1 s
    · exact lv_one w1.drew s
  have hfr2 : Fr F w w2 := by
    rcases hw2 with rfl | rfl
    · exact hfr.alloc _
    · exact hfr.drew.alloc _
  obtain ⟨h1, h2⟩ := h.set (w2 := w2) hk hg _ [s] (fun j hj _ => hold j (h.lt j hj)) hlv (fun j e => .inr (by simp [Value.ownBlock] at e; omega))
  have hs := hfr.size
  have hown := owns_kept (w' := w2) h.co.own1 (fun j e => hold j (h.co.lt j (.inl e)))
  refine ⟨h1, fun j hj => ?_, hfr2.set (hF g (.inr (.inr (.inr (.inl hg))))), owns_cell hown hg k _ (vat_get (by have := h.co.vlen; omega)), owns_free hown hg k⟩
  rcases h2 j hj with e | e
  · exact hF j e
  · exact .inr (by omega)

set_option maxRecDepth 20000 in
set_option maxHeartbeats 2000000 in
theorem rflush_any (p : Nat) (F : Nat → Prop) (S : PS) (w : World) (h : RM w p F S) (N : Nat) (hok : S.ok N) (hN : N ≤ 1000) :
    Calls Try.prog 13 #[.pointer (some ⟨p, 0, none⟩)] w fun e w' => e = .returned (.tuple #[]) ∧ RQ w F p S.flush w' := by
  obtain ⟨v1, v2, v3, vs, xs, hi, hF, hl⟩ := h
  have hol := hok.l
  obtain ⟨a, c, a2, c2, a3, c3, rfl, hle, hcm, _, _, _, _, _, _, c0, _⟩ := hi.cells
  obtain ⟨n, hn⟩ : ∃ n, n = S.L.length := ⟨_, rfl⟩
  have hmx : (c : Int) ≤ 9223372036854775807 := by unfold maxLen at hcm; omega
  have HE := Lib.hid (show ∀ w', (∃ vs', RI w' p (.slice a S.L.length c) v2 v3 vs' xs ⟨setsL S.L (fun j => [lastB (LAt S.L j)]) S.L.length, S.E⟩ ∧ (∀ j, rf p (.slice a S.L.length c) v2 v3 vs' xs ⟨setsL S.L (fun j => [lastB (LAt S.L j)]) S.L.length, S.E⟩ j → F j ∨ w.heap.size ≤ j) ∧ Fr F w w') → RQ w F p S.flush w' from by
    rintro w' ⟨vs', h1, h2, h3⟩
    rw [setsL_flush] at h1 h2
    refine ⟨fun j => F j ∨ (w.heap.size ≤ j ∧ j < w'.heap.size), ⟨_, _, _, _, _, h1, fun j hj => (h2 j hj).imp id fun e => ⟨e, h1.lt j hj⟩, ?_⟩, h3, ?_⟩
    · rintro j (e | e)
      · exact Nat.lt_of_lt_of_le (hl j e) h3.size
      · exact e.2
    · rintro j (e | e)
      · exact .inl e
      · exact .inr e.1)
  have HI := Lib.hid hi
  have HOK := Lib.hid hok
  have HF := Lib.hid hF
  rw [← hn] at HE HI HF c0 hle hol
  have HN := Lib.hid hn
  clear hi hok hF hl hn
  go_enter Try.func13, Try.ntmps13
  go_wp2
  go_loopw [2] (fun i wr => ∃ k : Nat, k ≤ n ∧ i = .int .i64 k ∧ ∃ vs', RI wr p (.slice a n c) v2 v3 vs' xs ⟨setsL S.L (fun j => [lastB (LAt S.L j)]) k, S.E⟩ ∧ (∀ j, rf p (.slice a n c) v2 v3 vs' xs ⟨setsL S.L (fun j => [lastB (LAt S.L j)]) k, S.E⟩ j → F j ∨ w.heap.size ≤ j) ∧ Fr F w wr) (fun i _ => n - (intOf i).toNat)
  case atStart => exact ⟨0, by omega, rfl, vs, HI.out, fun j hj => .inl (HF.out j hj), Fr.refl _ _⟩
  case round =>
    obtain ⟨k, hk, rfl, vs', hri, hrf, hfr⟩ := hrel
    by_cases hlt : k < n
    · have i0 : (0 : Int) ≤ (k : Int) := by omega
      have i1 : (k : Int) < (n : Int) := by omega
      have hkk : k < (setsL S.L (fun j => [lastB (LAt S.L j)]) k).length := by rw [setsL_length]; have := HN.out; omega
      obtain ⟨g, c', b, off, c2', e1, hle', hcm', hgo, c0r, ck, e2, hrs⟩ := hri.at hkk
      have hok2 := ok_sets HOK.out (fun j => [lastB (LAt S.L j)]) (fun _ => rfl) (k := k) (by have := HN.out; omega)
      have hat : LAt (setsL S.L (fun j => [lastB (LAt S.L j)]) k) k = LAt S.L k := by rw [setsL_at _ _ _ (by have := HN.out; omega), if_neg (by omega)]
      have hla := rlast_any p (fun j => rf p (.slice a n c) v2 v3 vs' xs ⟨setsL S.L (fun j => [lastB (LAt S.L j)]) k, S.E⟩ j) _ (k : Int) wr ⟨_, _, _, _, _, hri, fun _ h => h, hri.lt⟩ N hok2 hN
      have hlv : (⟨setsL S.L (fun j => [lastB (LAt S.L j)]) k, S.E⟩ : PS).last (k : Int) = (lastB (LAt S.L k), 0) := by
        unfold PS.last
        rw [if_pos ⟨by omega, by show (k : Int) < ((setsL S.L _ k).length : Int); omega⟩]
        show (lastB (LAt (setsL S.L _ k) k), 0) = _
        rw [hat]
      rw [hlv] at hla
      unfold twoV at hla
      obtain ⟨ag, hag⟩ : a = some ⟨g, 0, none⟩ ∧ True := ⟨by simp at e1; exact e1.1, trivial⟩
      have hstep : setsL S.L (fun j => [lastB (LAt S.L j)]) (k + 1) = (setsL S.L (fun j => [lastB (LAt S.L j)]) k).set k [lastB (LAt S.L k)] := rfl
      obtain ⟨s, hs⟩ : ∃ s, s = lastB (LAt S.L k) := ⟨_, rfl⟩
      rw [← hs] at hla hstep
      obtain ⟨h1, h2, h3, h4, h5⟩ := hri.set1 (w := w) (w2 := wr.alloc (.cells #[.string s] 9)) hkk hgo s hrf hfr (.inl rfl)
      rw [← hstep] at h1 h2
      have c0a : (wr.alloc (.cells #[.string s] 9)).cell? ⟨p, 0, none⟩ = some (.slice a n c) := by rw [World.cell?_of_block (w := wr) (Below.heap_alloc wr _ _ (lt_of_block hri.blk))]; exact c0r
      have H1 := Lib.hid h1
      have H2 := Lib.hid h2
      have H3 := Lib.hid h3
      have HLA := Lib.hid hla
      obtain ⟨V, hV⟩ : ∃ V, V = vAt vs' k := ⟨_, rfl⟩
      rw [← hV] at h4 ck
      subst ag
      clear hri hrf hfr h1 h2 h3 hla hok2 hat hlv hkk hs hstep e1 e2 hrs hgo hV
      go_wp2_with fail
      refine HLA.out.mono ?_
      rintro e w1 ⟨rfl, hw1⟩; obtain rfl := hw1.symm; clear hw1
      go_wp2
      go_roundw
      case rel => exact ⟨k + 1, by omega, by go_num, _, H1.out, H2.out, H3.out⟩
      case measure => simp [intOf]; omega
    · obtain rfl : k = n := by omega
      have HX := Lib.hid (HE.out wr ⟨vs', hri, hrf, hfr⟩)
      have c0r : wr.cell? ⟨p, 0, none⟩ = some (.slice a k c) := by rw [cell_of_blk hri.blk]; rfl
      have i1 : ¬ (k : Int) < (k : Int) := by omega
      clear hri hrf hfr
      go_wp2
      refine bodyPost_end (results_none rfl _ _ _) rfl ?_
      exact ⟨rfl, HX.out⟩

end Ap
end Go.Proofs.Ythapcpfemmfhoaa


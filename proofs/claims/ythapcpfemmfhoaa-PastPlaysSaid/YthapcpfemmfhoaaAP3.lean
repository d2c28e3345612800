/-
  Pasts: the program's Flush, Crash.
-/
import Derived.Test.YthapcpfemmfhoaaAP2
import Derived.Shelf.Abstract
namespace Go.Proofs.Ythapcpfemmfhoaa
namespace Ap
open Go.RowKit
set_option linter.unusedVariables false
set_option linter.unusedSimpArgs false

theorem step_call2 {P : Program} {ops : Array Oper} {w : World} {K : Act → World → Prop} {Q : Exit → Act → World → Prop} {E : Prop} {op : Oper} {a : Act} (hgd : op.guard = none) (f : FuncId) (hrun : ∀ args w, (callFunc f args).run P w = .ok (.enter f args) w) (x y : Operand) (tys : Array TypeId)
    (ho : op.op = .call { callee := .value (.func f), args := #[x, y], argTypes := tys }) (u v r : Value) (hx : a.eval x = u) (hy : a.eval y = v) (C : World → Prop) (hc : Calls P f #[u, v] w fun e w' => e = .returned r ∧ C w')
    (h : ∀ w', C w' → K (a.put op.dst r) w') : if Region.wanted op (yielded ops a.tmps) = true then Oper.wp P op a w K Q else E := by
  have hw : Region.wanted op (yielded ops a.tmps) = true := by simp [Region.wanted, hgd]
  rw [if_pos hw]
  have e : (execOp a.eval op).run P w = .ok (.enter f #[u, v]) w := by
    obtain ⟨d, o2, t2, p2, af, g⟩ := op
    simp only at ho
    subst ho
    show (callFunc f (#[] ++ (#[x, y] : Array Operand).map a.eval ++ #[])).run P w = _
    rw [hrun]
    simp [← hx, ← hy]
  unfold Oper.wp
  rw [e]
  exact hc.mono (by rintro e w' ⟨rfl, hC⟩; exact h w' hC)

def setsL (L : List (List ByteArray)) (f : Nat → List ByteArray) : Nat → List (List ByteArray)
  | 0 => L
  | k + 1 => (setsL L f k).set k (f k)
theorem setsL_length (L f) : ∀ k, (setsL L f k).length = L.length
  | 0 => rfl
  | k + 1 => by simp [setsL, setsL_length L f k]
theorem setsL_at (L f) : ∀ k, k ≤ L.length → ∀ j, LAt (setsL L f k) j = if j < k then f j else LAt L j
  | 0, _, j => by simp [setsL]
  | k + 1, h, j => by
    have ih := setsL_at L f k (by omega) j
    show LAt ((setsL L f k).set k (f k)) j = _
    rw [lat_set (by rw [setsL_length]; omega), ih]
    by_cases e : k = j
    · subst e; rw [if_pos rfl, if_pos (by omega)]
    · rw [if_neg e]
      by_cases h2 : j < k
      · rw [if_pos h2, if_pos (by omega)]
      · rw [if_neg h2, if_neg (by omega)]
theorem llist_ext {L M : List (List ByteArray)} (hl : L.length = M.length) (h : ∀ i, i < L.length → LAt L i = LAt M i) : L = M := by
  refine List.ext_getElem hl fun i h1 h2 => ?_
  have := h i h1
  unfold LAt at this
  rw [List.getElem?_eq_getElem h1, List.getElem?_eq_getElem h2] at this
  exact this
theorem setsL_flush (L) : setsL L (fun j => [lastB (LAt L j)]) L.length = L.map fun l => [lastB l] := by
  refine llist_ext (by rw [setsL_length]; simp) fun i hi => ?_
  rw [setsL_length] at hi
  rw [setsL_at _ _ _ (Nat.le_refl _), if_pos hi]
  unfold LAt
  simp [hi]
theorem map_one_at (Fs : List ByteArray) {i : Nat} (hi : i < Fs.length) : LAt (Fs.map fun s => [s]) i = [lAt Fs i] := by
  unfold LAt lAt
  simp [hi]
theorem setsL_crash (L) (Fs : List ByteArray) (h : Fs.length = L.length) : setsL L (fun j => [lAt Fs j]) L.length = Fs.map fun s => [s] := by
  refine llist_ext (by rw [setsL_length]; simp [h]) fun i hi => ?_
  rw [setsL_length] at hi
  rw [setsL_at _ _ _ (Nat.le_refl _), if_pos hi, map_one_at _ (by omega)]

theorem heap_set_other {w : World} {g k : Nat} {v : Value} {j : Nat} (hj : j ≠ g) : (w.setCell ⟨g, k, none⟩ v).heap[j]? = w.heap[j]? := by
  simp [World.setCell, Array.getElem?_modify]; intro e; exact absurd e.symm hj

theorem PI.ne1 {w p v1 v2 vs xs S} (h : PI w p v1 v2 vs xs S) {g : Nat} (hg : v1.ownBlock = some g) : p ≠ g := fun e => by
  obtain ⟨cur, hc⟩ := owns_type h.co.own1 hg
  rw [← e, h.blk] at hc; simp at hc
theorem PI.ne2 {w p v1 v2 vs xs S} (h : PI w p v1 v2 vs xs S) {g : Nat} (hg : v1.ownBlock = some g) : ∀ j, v2.ownBlock = some j → j ≠ g := fun j e e2 => by
  obtain ⟨cur, hc⟩ := owns_type h.own2 e
  obtain ⟨cur2, hc2⟩ := owns_type h.co.own1 hg
  rw [e2, hc2] at hc; simp at hc
theorem PI.nel {w p v1 v2 vs xs S} (h : PI w p v1 v2 vs xs S) {k : Nat} (hk : k < S.L.length) : (vAt vs k).ownBlock ≠ some p ∧ ∀ j, v2.ownBlock = some j → (vAt vs k).ownBlock ≠ some j := by
  obtain ⟨bk, csk, ebk, hbk, hbl⟩ := (h.co.lists k hk).blk
  refine ⟨fun e => ?_, fun j e2 e => ?_⟩
  · rw [ebk] at e; cases e
    rw [h.blk] at hbk; simp at hbk
  · obtain ⟨cur, hc⟩ := owns_type h.own2 e2
    rw [ebk] at e; cases e
    rw [hc] at hbk; simp at hbk

/-- One sector's list is another one. -/
theorem PI.set {w1 w2 : World} {p : Nat} {v1 v2 : Value} {vs xs : List Value} {S : PS} (h : PI w1 p v1 v2 vs xs S) {k g : Nat} (hk : k < S.L.length) (hg : v1.ownBlock = some g) (v' : Value) (L' : List ByteArray)
    (hkeep : ∀ j, pf p v1 v2 vs xs S j → (vAt vs k).ownBlock ≠ some j → w2.heap[j]? = w1.heap[j]?) (hv : LV w2 v' L') (hf : ∀ j, v'.ownBlock = some j → (vAt vs k).ownBlock = some j ∨ w1.heap.size ≤ j) :
    PI (w2.setCell ⟨g, k, none⟩ v') p v1 v2 (vs.set k v') xs ⟨S.L.set k L', S.E⟩ ∧ ∀ j, pf p v1 v2 (vs.set k v') xs ⟨S.L.set k L', S.E⟩ j → pf p v1 v2 vs xs S j ∨ w1.heap.size ≤ j := by
  refine ⟨⟨?_, h.co.set hk hg v' L' (fun j hj hn => hkeep j (.inr (.inr hj)) hn) hv hf, owns_kept h.own2 fun j e => ?_⟩, ?_⟩
  · rw [heap_set_other (h.ne1 hg), hkeep p (.inl rfl) (h.nel hk).1]; exact h.blk
  · rw [heap_set_other (h.ne2 hg j e)]
    exact hkeep j (.inr (.inl e)) ((h.nel hk).2 j e)
  · rintro j (rfl | e | e)
    · exact .inl (.inl rfl)
    · exact .inl (.inr (.inl e))
    · exact (cf_set h.co hk v' L' hf j e).imp (fun h => .inr (.inr h)) id

theorem fr_set_same {F : Nat → Prop} {w w1 : World} (h : Fr F w w1) {g k : Nat} {v : Value} (hg : F g) : Fr F w (w1.setCell ⟨g, k, none⟩ v) := h.set (.inl hg)

theorem ok_lat {S : PS} {N : Nat} (hok : S.ok N) {k : Nat} (hk : k < S.L.length) : ∃ m, m = (LAt S.L k).length - 1 ∧ 0 < (LAt S.L k).length ∧ (LAt S.L k).length ≤ N ∧ m < (LAt S.L k).length ∧ lAt (LAt S.L k) m = lastB (LAt S.L k) :=
  ⟨_, rfl, (hok.s k hk).1, (hok.s k hk).2, by have := (hok.s k hk).1; omega, rfl⟩

set_option maxRecDepth 20000 in
set_option maxHeartbeats 2000000 in
theorem pflush_any (p : Nat) (F : Nat → Prop) (S : PS) (w : World) (h : PM w p F S) (N : Nat) (hok : S.ok N) (hN : N ≤ 1000) :
    Calls Try.prog 12 #[.pointer (some ⟨p, 0, none⟩)] w fun e w' => e = .returned (.tuple #[]) ∧ PQ w F p S.flush w' := by
  obtain ⟨v1, v2, vs, xs, hi, hF, hl⟩ := h
  have hol := hok.l
  obtain ⟨a, c, a2, c2, rfl, hle, hcm, hv2, _, _, c0, _⟩ := hi.cells
  obtain ⟨n, hn⟩ : ∃ n, n = S.L.length := ⟨_, rfl⟩
  have hmx : (c : Int) ≤ 9223372036854775807 := by unfold maxLen at hcm; omega
  have HE := Lib.hid (show ∀ w', (∃ vs', PI w' p (.slice a S.L.length c) v2 vs' xs ⟨setsL S.L (fun j => [lastB (LAt S.L j)]) S.L.length, S.E⟩ ∧ (∀ j, pf p (.slice a S.L.length c) v2 vs' xs ⟨setsL S.L (fun j => [lastB (LAt S.L j)]) S.L.length, S.E⟩ j → F j) ∧ Fr F w w') → PQ w F p S.flush w' from by
    rintro w' ⟨vs', h1, h2, h3⟩
    rw [setsL_flush] at h1 h2
    exact ⟨F, ⟨_, _, _, _, h1, h2, fun k e => Nat.lt_of_lt_of_le (hl k e) h3.size⟩, h3, fun _ e => .inl e⟩)
  have HI := Lib.hid hi
  have HOK := Lib.hid hok
  have HF := Lib.hid hF
  have HL := Lib.hid hl
  rw [← hn] at HE HI HF c0 hle
  clear hi hok hF hl hv2
  go_enter Try.func12, Try.ntmps12
  go_wp2
  go_loopw [11] (fun i wr => ∃ k : Nat, k ≤ n ∧ i = .int .i64 k ∧ ∃ vs', PI wr p (.slice a n c) v2 vs' xs ⟨setsL S.L (fun j => [lastB (LAt S.L j)]) k, S.E⟩ ∧ (∀ j, pf p (.slice a n c) v2 vs' xs ⟨setsL S.L (fun j => [lastB (LAt S.L j)]) k, S.E⟩ j → F j) ∧ Fr F w wr) (fun i _ => n - (intOf i).toNat)
  case atStart => exact ⟨0, by omega, rfl, vs, HI.out, HF.out, Fr.refl _ _⟩
  case round =>
    obtain ⟨k, hk, rfl, vs', hpi, hpf, hfr⟩ := hrel
    by_cases hlt : k < n
    · have i0 : (0 : Int) ≤ (k : Int) := by omega
      have i1 : (k : Int) < (n : Int) := by omega
      have hkk : k < (setsL S.L (fun j => [lastB (LAt S.L j)]) k).length := by rw [setsL_length]; omega
      obtain ⟨g, c', b, off, c2', e1, hle', hcm', hgo, c0r, ck, e2, hrs⟩ := hpi.at hkk
      have hat : LAt (setsL S.L (fun j => [lastB (LAt S.L j)]) k) k = LAt S.L k := by rw [setsL_at _ _ _ (by omega), if_neg (by omega)]
      have hlv := hpi.co.lists k hkk
      simp only [hat] at hlv e2 hrs
      obtain ⟨m, hm, hm0, hm1, hm2, hm3⟩ := ok_lat HOK.out (k := k) (by omega)
      obtain ⟨b', off', c3, e3, hle3, hlo⟩ := hlv.only hm2
      rw [hm3] at hlo
      rw [e2] at e3
      have e4 : (b = b' ∧ off = off') ∧ c2' = c3 := by simpa using e3
      obtain ⟨⟨rfl, rfl⟩, rfl⟩ := e4
      have hon := only_any b off (LAt S.L k).length c2' m hm2 hle3 (by omega) wr.drew
      obtain ⟨ag, hag⟩ : a = some ⟨g, 0, none⟩ ∧ True := ⟨by simp at e1; exact e1.1, trivial⟩
      have hend := hpi.set (w2 := wr.drew) hkk hgo (.slice (some ⟨b, off + m, none⟩) 1 1) [lastB (LAt S.L k)] (fun j _ _ => rfl) (hlo.kept fun j _ => rfl) (fun j e => .inl (by rw [e2]; exact e))
      obtain ⟨hp1, hp2⟩ := hend
      have hfr1 : Fr F w (wr.drew.setCell ⟨g, k, none⟩ (.slice (some ⟨b, off + m, none⟩) 1 1)) := fr_set_same hfr.drew (hpf g (.inr (.inr (.inl hgo))))
      have hp3 : ∀ j, pf p (.slice a n c) v2 (vs'.set k (.slice (some ⟨b, off + m, none⟩) 1 1)) xs ⟨setsL S.L (fun j => [lastB (LAt S.L j)]) (k + 1), S.E⟩ j → F j := by
        rintro j (rfl | e | e)
        · exact hpf _ (.inl rfl)
        · exact hpf _ (.inr (.inl e))
        · rcases e with e | ⟨x, hx, e⟩ | e
          · exact hpf _ (.inr (.inr (.inl e)))
          · have hx' : x < n := by rw [hn]; simpa [setsL_length] using hx
            have hvl := hpi.co.vlen
            rw [vat_set (by rw [hvl]; exact hkk)] at e
            by_cases ex : k = x
            · rw [if_pos ex] at e
              exact hpf _ (.inr (.inr (.inr (.inl ⟨k, hkk, by rw [e2]; exact e⟩))))
            · rw [if_neg ex] at e
              exact hpf _ (.inr (.inr (.inr (.inl ⟨x, by simp [setsL_length]; omega, e⟩))))
          · exact hpf _ (.inr (.inr (.inr (.inr e))))
      have f1 := owns_free hpi.co.own1 hgo k
      have HP := Lib.hid hp1
      have HP3 := Lib.hid hp3
      have HFR := Lib.hid hfr1
      have HON := Lib.hid hon
      rw [e2] at ck
      subst ag
      have m1 : IntKind.i64.wrap (((LAt S.L k).length : Int) - 1) = (m : Int) := by rw [IntWalk.i64_in _ (by omega)]; omega
      have m2 : ((LAt S.L k).length : Int) ≤ 1000000 := by omega
      have m3 : (0 : Int) < ((LAt S.L k).length : Int) := by omega
      generalize (LAt S.L k).length = ln at *
      clear hpi hpf hfr hp1 hp2 hp3 hfr1 hon hlv hlo hrs hkk hat e1 e2 e3 hgo hm hm0 hm1 hm2 hm3 hle3
      go_wp2_with fail
      go_region_law (first
        | (go_simp; go_at_call 33; refine HON.out.mono ?_; rintro r w4 ⟨rfl, rfl⟩))
      all_goals (
        go_wp2
        go_roundw
        case rel => exact ⟨k + 1, by omega, by go_num, _, HP.out, HP3.out, HFR.out⟩
        case measure => simp [intOf]; omega)
    · obtain rfl : k = n := by omega
      have HX := Lib.hid (HE.out wr ⟨vs', hpi, hpf, hfr⟩)
      have i1 : ¬ (k : Int) < (k : Int) := by omega
      clear hpi hpf hfr
      go_wp2
      refine bodyPost_end (results_none rfl _ _ _) rfl ?_
      exact ⟨rfl, HX.out⟩

theorem make_lists (n : Nat) (h : n ≤ 1000000) (w : World) :
    (Instr.makeSlice 47 (.int .i64 (n : Int)) (.int .i64 (n : Int))).run Try.prog w = .ok (.slice (some ⟨w.heap.size, 0, none⟩) n n) (w.alloc (.cells (madeCells #[.slice none 0 0] n) 22)) :=
  run_make_row' 47 22 (.slice none 0 0) 24 Try.underlying47 Try.infoSl rfl .i64 .i64 n (by omega) (by omega) w
theorem made_lists (n : Nat) (h : n ≤ 1000000) (w : World) (B : Nat) (hb : B ≤ w.heap.size) :
    (w.alloc (.cells (madeCells #[.slice none 0 0] n) 22)).ownsRow B 22 1 (.slice (some ⟨w.heap.size, 0, none⟩) n n) n (List.replicate n (.slice none 0 0)) := by
  refine ⟨by simp, .inr ⟨w.heap.size, n, _, rfl, hb, heap_alloc_new w _, Nat.le_refl _, by unfold maxLen; omega, by rw [size_madeCells]; simp, ?_⟩⟩
  apply List.ext_getElem?
  intro i
  by_cases hi : i < n
  · rw [List.getElem?_take_of_lt (by omega)]
    simp [madeCells, hi]
    rw [Nat.mod_one]
    rfl
  · rw [List.getElem?_eq_none (by simp [madeCells]; omega), List.getElem?_eq_none (by simp; omega)]

/-- The end of a crash that was possible. -/
theorem pcrash_end {w wr : World} {p q : Nat} {F : Nat → Prop} {v1 v2 : Value} {vs xs us : List Value} {S : PS} (hi : PI w p v1 v2 vs xs S) (hF : ∀ k, pf p v1 v2 vs xs S k → F k) (hl : ∀ k, F k → k < w.heap.size) (Fs : List ByteArray) (n : Nat) (hn : n = S.L.length) (hfs : Fs.length = n)
    (hB : Below w.heap.size w wr) (hq : q = w.heap.size) (how : wr.ownsRow w.heap.size 22 1 (.slice (some ⟨q, 0, none⟩) n n) n us) (hu : ∀ j, j < n → LV w (vAt us j) [lAt Fs j] ∧ (vAt us j).ownBlock = (vAt vs j).ownBlock) :
    PQ w F p ⟨Fs.map fun s => [s], S.E⟩ (wr.setCell ⟨p, 0, none⟩ (.slice (some ⟨q, 0, none⟩) n n)) := by
  have hpl := lt_of_block hi.blk
  have hql := how.lt q rfl
  have hml : (Fs.map fun s => [s]).length = n := by simp [hfs]
  have hold : ∀ j, j < w.heap.size → j ≠ p → (wr.setCell ⟨p, 0, none⟩ (.slice (some ⟨q, 0, none⟩) n n)).heap[j]? = w.heap[j]? := fun j hj hn => by
    rw [heap_set_other hn]; exact hB.block j hj
  have hbp : wr.heap[p]? = some (.cells #[v1, v2] 56 (0, 0)) := (hB.block p hpl).trans hi.blk
  refine ⟨fun j => F j ∨ j = q, ⟨.slice (some ⟨q, 0, none⟩) n n, v2, us, xs, ⟨?_, ⟨?_, fun j hj => ?_, fun i j h1 h2 h3 => ?_, hi.co.xlen, fun j hj => ?_, fun i j h1 h2 => ?_⟩, ?_⟩, ?_, ?_⟩, ?_, ?_⟩
  · exact (blk_setCell hbp).trans (by simp)
  · show World.ownsRow _ _ _ _ _ (Fs.map fun s => [s]).length us
    rw [hml]
    exact owns_set_other (owns_low how (Nat.zero_le _)) (by simp [Value.ownBlock]; omega) _
  · rw [hml] at hj
    rw [map_one_at _ (by omega)]
    refine (hu j hj).1.kept fun k e => hold k ?_ ?_
    · exact hi.co.lt k (.inr (.inl ⟨j, by omega, by rw [← (hu j hj).2]; exact e⟩))
    · rintro rfl
      rw [(hu j hj).2] at e
      exact (hi.nel (by omega)).1 e
  · rw [hml] at h1 h2
    rw [(hu i h1).2, (hu j h2).2]
    exact hi.co.apart i j (by omega) (by omega) h3
  · refine owns_kept (hi.co.pics j hj) fun k e => hold k (hi.co.lt k (.inr (.inr ⟨j, hj, e⟩))) ?_
    rintro rfl
    obtain ⟨cur, hc⟩ := owns_type (hi.co.pics j hj) e
    rw [hi.blk] at hc; simp at hc
  · rw [hml] at h1
    rw [(hu i h1).2]
    exact hi.co.cross i j (by omega) h2
  · refine owns_kept hi.own2 fun k e => hold k (hi.own2.lt k e).2 ?_
    rintro rfl
    obtain ⟨cur, hc⟩ := owns_type hi.own2 e
    rw [hi.blk] at hc; simp at hc
  · rintro j (rfl | e | e | ⟨x, hx, e⟩ | ⟨x, hx, e⟩)
    · exact .inl (hF _ (.inl rfl))
    · exact .inl (hF _ (.inr (.inl e)))
    · simp [Value.ownBlock] at e; exact .inr e.symm
    · rw [hml] at hx
      rw [(hu x hx).2] at e
      exact .inl (hF _ (.inr (.inr (.inr (.inl ⟨x, by omega, e⟩)))))
    · exact .inl (hF _ (.inr (.inr (.inr (.inr ⟨x, hx, e⟩)))))
  · rintro j (e | e)
    · have := hl j e; have := hB.size; simp; omega
    · simp; omega
  · exact (Fr.of_below hB).mono (fun _ e => e) |>.set (.inl (hF _ (.inl rfl)))
  · rintro j (e | e)
    · exact .inl e
    · exact .inr (by omega)

set_option maxRecDepth 20000 in
set_option maxHeartbeats 2000000 in
theorem pcrash_any (p : Nat) (F : Nat → Prop) (S : PS) (af : Option Addr) (nf cf' : Nat) (Fs : List ByteArray) (w : World) (h : PM w p F S) (hfs : Rs w af nf cf' Fs) (N : Nat) (hok : S.ok N) (hN : N ≤ 1000) :
    Calls Try.prog 14 #[.pointer (some ⟨p, 0, none⟩), .slice af nf cf'] w fun e w' => e = .returned (.int .i64 (S.crash Fs).1) ∧ PQ w F p (S.crash Fs).2 w' := by
  have hPM := h
  obtain ⟨v1, v2, vs, xs, hi, hF, hl⟩ := h
  have hol := hok.l
  obtain ⟨a, c, a2, c2, rfl, hle, hcm, hv2, _, _, c0, _⟩ := hi.cells
  have hmx : (c : Int) ≤ 9223372036854775807 := by unfold maxLen at hcm; omega
  have hmf : (cf' : Int) ≤ 9223372036854775807 := by have := hfs.cm; unfold maxLen at this; omega
  have hfl := hfs.le
  have hfe := hfs.len
  by_cases hnl : nf = S.L.length
  · obtain ⟨n, hn⟩ : ∃ n, n = S.L.length := ⟨_, rfl⟩
    have hnf : nf = n := by omega
    subst hnf
    have hmk := make_lists nf (by omega)
    have hpl := lt_of_block hi.blk
    have HI := Lib.hid hi
    have HOK := Lib.hid hok
    have HF := Lib.hid hF
    have HL := Lib.hid hl
    have HFS := Lib.hid hfs
    have HPM := Lib.hid hPM
    have HMR := Lib.hid (made_lists nf (by omega) w w.heap.size (Nat.le_refl _))
    have HBA := Lib.hid (show Below w.heap.size w (w.alloc (.cells (madeCells #[.slice none 0 0] nf) 22)) from (Below.refl _ _).alloc (Nat.le_refl _) _)
    have HNO := Lib.hid (show ∀ k, k < nf → isIn (LAt S.L k) (lAt Fs k) = false → S.crash Fs = (10, S) from fun k hk hf => by
      unfold PS.crash
      rw [if_pos (by omega), if_neg]
      intro hall
      have := allIn_iff.mp hall k (by omega)
      rw [hf] at this; cases this)
    have HYES := Lib.hid (show (∀ k, k < nf → isIn (LAt S.L k) (lAt Fs k) = true) → S.crash Fs = (0, ⟨Fs.map fun s => [s], S.E⟩) from fun hall => by
      unfold PS.crash
      rw [if_pos (by omega), if_pos (allIn_iff.mpr fun i hi => hall i (by omega))])
    have HEND := Lib.hid (fun wr us hB how hu => pcrash_end (wr := wr) (us := us) hi hF hl Fs nf hn (by omega) hB rfl how hu)
    have c0a : (w.alloc (.cells (madeCells #[.slice none 0 0] nf) 22)).cell? ⟨p, 0, none⟩ = some (.slice a S.L.length c) := by rw [World.cell?_of_block (w := w) (Below.heap_alloc w _ _ hpl)]; exact c0
    rw [← hn] at c0 c0a hle HI
    have hneq : ((nf : Int) != (nf : Int)) = false := by simp
    obtain ⟨mc, hmc⟩ : ∃ mc, mc = madeCells #[.slice none 0 0] nf := ⟨_, rfl⟩
    simp only [← hmc] at hmk HMR HBA c0a
    have HN := Lib.hid hn
    clear hi hok hF hl hfs hPM hv2 hmc hnl hn
    go_enter Try.func14, Try.ntmps14
    go_wp2
    go_loopw [27] (fun i wr => ∃ k : Nat, k ≤ nf ∧ i = .int .i64 k ∧ (∀ j, j < k → isIn (LAt S.L j) (lAt Fs j) = true) ∧ Below w.heap.size w wr ∧ ∃ us, wr.ownsRow w.heap.size 22 1 (.slice (some ⟨w.heap.size, 0, none⟩) nf nf) nf us ∧ ∀ j, j < k → LV w (vAt us j) [lAt Fs j] ∧ (vAt us j).ownBlock = (vAt vs j).ownBlock) (fun i _ => nf - (intOf i).toNat)
    case atStart => exact ⟨0, by omega, rfl, fun j hj => by omega, HBA.out, _, HMR.out, fun j hj => by omega⟩
    case round =>
      obtain ⟨k, hk, rfl, hall, hB, us, how, hu⟩ := hrel
      by_cases hlt : k < nf
      · have i0 : (0 : Int) ≤ (k : Int) := by omega
        have i1 : (k : Int) < (nf : Int) := by omega
        have hkk : k < S.L.length := by have := HN.out; omega
        have hpi := HI.out.kept (w' := wr) (fun j hj => hB.block j (HI.out.lt j hj))
        obtain ⟨g, c', b, off, c2', e1, hle', hcm', hgo, c0r, ck, e2, hrs⟩ := hpi.at hkk
        have hlv := HI.out.co.lists k hkk
        obtain ⟨m0, hm0, hm1, hm2, hm3, hm4⟩ := ok_lat HOK.out hkk
        obtain ⟨ag, hag⟩ : a = some ⟨g, 0, none⟩ ∧ True := ⟨by simp at e1; exact e1.1, trivial⟩
        obtain ⟨bf, off2, af', _, hcf⟩ := (HFS.out.later hB).at0 (by omega)
        have ef := hcf k hlt
        have hix := index_any _ _ _ _ (lAt Fs k) wr hrs (by omega)
        obtain ⟨sf, hsf⟩ : ∃ s, s = lAt Fs k := ⟨_, rfl⟩
        rw [← hsf] at ef hix
        have HIX := Lib.hid hix
        have HALL := Lib.hid hall
        have HB := Lib.hid hB
        have HOW := Lib.hid how
        have HU := Lib.hid hu
        have HLV := Lib.hid hlv
        have HEQ := Lib.hid (And.intro e2 hsf)
        have HM := Lib.hid (And.intro hm2 hm3)
        rw [e2] at ck
        subst ag
        subst af'
        generalize hln : (LAt S.L k).length = ln at *
        have HLN := Lib.hid hln
        clear hall hB how hu hpi hrs hlv hix hcf hm0 hm1 hm2 hm3 hm4 e1 hgo hsf e2 hln
        go_wp2_with fail
        refine HIX.out.mono ?_
        rintro r w1 ⟨hb1, ⟨rfl, hno⟩ | ⟨m, rfl, hmlt, hyes⟩⟩
        · have HX := Lib.hid (HNO.out k hlt (by rw [← HEQ.out.2]; exact hno))
          have HB1 := Lib.hid (HB.out.trans (hb1.mono HB.out.size))
          clear hno hb1
          go_wp2
          go_ret
          exact ⟨by rw [HX.out]; rfl, by rw [HX.out]; exact PQ.below HPM.out HB1.out⟩
        · have hB1 := HB.out.trans (hb1.mono HB.out.size)
          have how1 := owns_kept (w' := w1) HOW.out (fun j e => hb1.block j (HOW.out.lt j e).2)
          obtain ⟨b', off', c3, e3, hle3, hlo⟩ := HLV.out.only (k := m) (by rw [HLN.out]; exact hmlt)
          rw [HEQ.out.1] at e3
          have e4 : (b = b' ∧ off = off') ∧ c2' = c3 := by simpa [HLN.out] using e3
          obtain ⟨⟨rfl, rfl⟩, rfl⟩ := e4
          have m0 : ¬ (m : Int) < 0 := by omega
          have hon := only_any b off ln c2' m hmlt (by rw [← HLN.out]; exact hle3) (by have := HM.out; have := HLN.out; omega) w1
          have f1 := owns_free how1 (g := w.heap.size) rfl k
          have k1 := owns_cell how1 (g := w.heap.size) rfl k _ (vat_get (by have := how1.1; omega))
          have how2 := owns_set how1 (g := w.heap.size) (j := k) rfl (.slice (some ⟨b, off + m, none⟩) 1 1) (by have := how1.1; omega)
          have hB2 : Below w.heap.size w (w1.setCell ⟨w.heap.size, k, none⟩ (.slice (some ⟨b, off + m, none⟩) 1 1)) := hB1.setCell (p := ⟨w.heap.size, k, none⟩) (Nat.le_refl _) _
          have hul : us.length = nf := by have := how1.1; omega
          have hu2 : ∀ j, j < k + 1 → LV w (vAt (us.set k (.slice (some ⟨b, off + m, none⟩) 1 1)) j) [lAt Fs j] ∧ (vAt (us.set k (.slice (some ⟨b, off + m, none⟩) 1 1)) j).ownBlock = (vAt vs j).ownBlock := fun j hj => by
            rw [vat_set (by omega)]
            by_cases e : k = j
            · subst e
              rw [if_pos rfl, ← HEQ.out.2, ← hyes, HEQ.out.1]
              exact ⟨hlo, rfl⟩
            · rw [if_neg e]; exact HU.out j (by omega)
          have hall2 : ∀ j, j < k + 1 → isIn (LAt S.L j) (lAt Fs j) = true := fun j hj => by
            by_cases e : k = j
            · subst e
              exact isIn_iff.mpr ⟨m, by rw [HLN.out]; exact hmlt, by rw [hyes, HEQ.out.2]⟩
            · exact HALL.out j (by omega)
          have HON := Lib.hid hon
          have HOW2 := Lib.hid how2
          have HB2 := Lib.hid hB2
          have HU2 := Lib.hid hu2
          have HALL2 := Lib.hid hall2
          clear hon how1 how2 hB1 hB2 hu2 hall2 hyes hb1 hlo e3 hle3 hul
          go_wp2_with fail
          refine HON.out.mono ?_
          rintro r w2 ⟨rfl, hw2⟩; obtain rfl := hw2.symm; clear hw2
          go_wp2
          go_roundw
          case rel => exact ⟨k + 1, by omega, by go_num, HALL2.out, HB2.out, _, HOW2.out, HU2.out⟩
          case measure => simp [intOf]; omega
      · obtain rfl : k = nf := by omega
        have HX := Lib.hid (HEND.out wr us hB how hu)
        have HY := Lib.hid (HYES.out hall)
        have i1 : ¬ (k : Int) < (k : Int) := by omega
        have hbp : wr.heap[p]? = some (.cells #[.slice a k c, v2] 56 (0, 0)) := (hB.block p hpl).trans HI.out.blk
        have f1 := free_of_blk hbp 0
        have k1 := cell_of_blk hbp 0
        clear hall hB how hu hbp
        go_wp2
        go_ret
        rw [HY.out]
        exact ⟨rfl, HX.out⟩
  · have HX := Lib.hid (show S.crash Fs = (8, S) from by unfold PS.crash; rw [if_neg (by omega)])
    have h1 : ((nf : Int) == (S.L.length : Int)) = false := by simp; omega
    have h2 : ((nf : Int) != (S.L.length : Int)) = true := by rw [bne, h1]; rfl
    have HPM := Lib.hid hPM
    clear hi hok hF hl hfs hPM hv2
    go_enter Try.func14, Try.ntmps14
    go_wp2
    go_ret
    rw [HX.out]
    exact ⟨rfl, PQ.same HPM.out⟩

end Ap
end Go.Proofs.Ythapcpfemmfhoaa


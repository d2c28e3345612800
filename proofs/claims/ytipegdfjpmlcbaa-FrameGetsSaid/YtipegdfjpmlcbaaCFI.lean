/-
  Bytes are read as a frame (Get), where there are 27 of them at least.
-/
import Derived.Test.YtipegdfjpmlcbaaCFH
namespace Go.Proofs.Ytipegdfjpmlcbaa
open Go.RowKit
set_option linter.unusedVariables false
set_option linter.unusedSimpArgs false

theorem lenOf_lt (s : List UInt8) : lenOf s < 65536 := num_take_lt (s.drop 21) 2
theorem getR_len (xs : List UInt8) (h : 27 ≤ xs.length) : getR xs 21 2 = (lenOf xs, 0) := by
  unfold getR
  rw [if_neg (by omega), if_neg (by omega)]
  rfl
theorem getR_sum (xs : List UInt8) (h : xs.length = 27 + lenOf xs) : getR xs ((23 + lenOf xs : Nat) : Int) 4 = (numN ((xs.drop (23 + lenOf xs)).take 4), 0) := by
  unfold getR
  rw [if_neg (by omega), if_neg (by omega), Int.toNat_natCast]
  rfl

/-- Between: the result's box, the reader at p, the bytes. -/
structure GP (w0 w : World) (a : Option Addr) (n c : Nat) (xs : List UInt8) (p : Nat) (ys : List UInt8) : Prop where
  res : w.heap[w0.heap.size]? = some (.cells frZ 26 (0, 0))
  rd : RW w p ys 0
  src : Rd w a n c xs
  far : w0.heap.size < p
  bel : Below w0.heap.size w0 w
  old : ∀ b off, a = some ⟨b, off, none⟩ → b < w0.heap.size
theorem rnum_take (ys : List UInt8) (k : Nat) (wi : Int) (hw : wi = (k : Int)) (h1 : 1 ≤ k) (h8 : k ≤ 8) (h : k ≤ ys.length) : rnum ys 0 wi = (numN (ys.take k), ys.drop k, 0) := by
  subst hw
  unfold rnum
  rw [if_neg (by simp), if_neg (by omega), if_neg (by omega), Int.toNat_natCast]
theorem GP.num {w0 w : World} {a : Option Addr} {n c : Nat} {xs : List UInt8} {p : Nat} {ys : List UInt8} (h : GP w0 w a n c xs p ys) (k : Nat) (wi : Int) (hw : wi = (k : Int)) (h1 : 1 ≤ k) (h8 : k ≤ 8) (hl : k ≤ ys.length) :
    Calls Try.prog 27 #[.pointer (some ⟨p, 0, none⟩), .int .i64 wi] w fun r w' => r = .returned (.int .u64 (numN (ys.take k) : Int)) ∧ GP w0 w' a n c xs p (ys.drop k) :=
  (num_any p ys 0 wi w h.rd).mono fun r w' hh => by
    rw [rnum_take ys k wi hw h1 h8 hl] at hh
    obtain ⟨e, hr, hg⟩ := hh
    have hf := h.far
    refine ⟨e, ⟨(hg.block _ (lt_of_block h.res) (by simp; omega)).trans h.res, hr, ?_, hf, h.bel.grown hg h.bel.size (fun k e2 => by cases e2; omega), h.old⟩⟩
    exact h.src.kept hg.size fun b off e2 => hg.block _ (by have := h.old b off e2; have := h.bel.size; omega) (by have := h.old b off e2; simp; omega)

theorem GP.at {w0 w : World} {a : Option Addr} {n c : Nat} {xs : List UInt8} {p : Nat} (i m : Nat) (h : GP w0 w a n c xs p ((xs.drop i).take m)) (k : Nat) (wi : Int) (hw : wi = (k : Int)) (h1 : 1 ≤ k) (h8 : k ≤ 8) (hk : k ≤ m) (hl : i + m ≤ xs.length) :
    Calls Try.prog 27 #[.pointer (some ⟨p, 0, none⟩), .int .i64 wi] w fun r w' => r = .returned (.int .u64 (numN ((xs.drop i).take k) : Int)) ∧ GP w0 w' a n c xs p ((xs.drop (i + k)).take (m - k)) := by
  have := h.num k wi hw h1 h8 (by rw [List.length_take, List.length_drop]; omega)
  rw [List.take_take, Nat.min_eq_left hk, List.drop_take, List.drop_drop] at this
  exact this

theorem GP.drew {w0 w : World} {a : Option Addr} {n c : Nat} {xs : List UInt8} {p : Nat} {ys : List UInt8} (h : GP w0 w a n c xs p ys) : GP w0 w.drew a n c xs p ys :=
  ⟨h.res, by obtain ⟨x, y, z, e1, e2, e3⟩ := h.rd.blk; exact ⟨x, y, z, e1, e2.drew, e3⟩, h.src.drew, h.far, h.bel.drew, h.old⟩

/-- The last step: the body is opened. -/
theorem getP_open (xs : List UInt8) (h : xs.length = 27 + lenOf xs) (hs : numN ((xs.drop (23 + lenOf xs)).take 4) = addN 0 (xs.take (23 + lenOf xs))) :
    getP xs = match openP (headOf xs) ((xs.drop 23).take (lenOf xs)) with | some x => (x, 0) | none => (fr0, 6) := by
  unfold getP
  rw [if_neg (by omega), if_neg (by omega), if_neg (by omega), if_neg (by simp [hs])]
  cases openP (headOf xs) ((xs.drop 23).take (lenOf xs)) <;> rfl
theorem get_open (xs ys : List UInt8) (hg : getP xs = match openP (headOf xs) ys with | some x => (x, 0) | none => (fr0, 6)) (a : Option Addr) (n c : Nat) (w : World) (hrd : Rd w a n c ys) :
    Calls Try.prog 15 #[frV (headOf xs) (.slice none 0 0), .slice a n c] w fun e w' => ∃ fr a' m c' k CE, CE = frC fr (.slice a' m c') ∧ e = .returned (.tuple #[.agg CE, .int .i64 k]) ∧ getP xs = (fr, k) ∧ (fr.list = [] ∨ ∀ d ∈ fr.list, d.length = 32) ∧ Tx w' a' m c' fr.list ∧ Below w.heap.size w w' := by
  refine (open_any (headOf xs) rfl a n c ys w hrd).mono fun e w' h => ?_
  rcases h with ⟨x, V, ho, he, ⟨a', m, c', rfl, ht⟩, hb⟩ | ⟨ho, he, hb⟩
  · rw [ho] at hg
    refine ⟨x, a', m, c', 0, _, rfl, he, hg, ?_, ht, hb⟩
    rcases (open_good (headOf xs) x ys rfl ho).1 with h | h | h | h | h | h
    · exact .inl h.2.2.2.2.2.2.2.2.2
    · exact .inl h.2.2.2.2.2.2.2.2
    · exact .inl h.2.2.2.2.2.2.2.2
    · exact .inr h.2.2.2.2.1
    · exact .inl h.2.2.2.2.2.2.2.2
    · exact .inl h.2.2.2.2.2.2.2
  · rw [ho] at hg
    exact ⟨fr0, none, 0, 0, 6, _, rfl, he, hg, .inl rfl, tx_nil w', hb⟩
theorem built_frame (a b c d : Int) : Try.prog.built 26 [(0, .int .i64 a), (1, .int .u64 b), (2, .int .u64 c), (3, .int .u32 d)] = some #[.int .i64 a, .int .u64 b, .int .u64 c, .int .u32 d, .int .u32 0, .int .i64 0, .int .i64 0, .int .i64 0, .int .i64 0, .string ⟨#[]⟩, .slice none 0 0] := by kernel_rfl
theorem take_build {ev : Operand → Value} {o : Oper} {t : TypeId} {parts : Array (Nat × Operand)} {cells : Array Value} (ho : o.op = .build t parts) (h : Try.prog.built t (parts.map fun (i, x) => (i, ev x)).toList = some cells) (w : World) :
    Sem.run Try.prog (execOp ev o) w = .ok (.value (.agg cells)) w := by
  unfold execOp
  simp only [ho, Sem.run_bind, run_build w t _ cells h, Result.andThen_ok]
  rfl
/-- The row is told where an empty one lay. -/
theorem get_row {w : World} {g : Nat} (hg : w.heap[g]? = some (.cells frZ 26 (0, 0))) {fr : FR} {a : Option Addr} {m c : Nat} (hl : fr.list = [] ∨ ∀ d ∈ fr.list, d.length = 32) (ht : Tx w a m c fr.list) (Y : Array Value) : Tx (w.setRow g Y) a m c fr.list := by
  refine ht.kept (by simp [World.setRow]) fun b off e h0 _ => setRow_other w g b Y ?_
  rintro rfl
  obtain ⟨b', off', e2, _, hc⟩ := ht.at0 h0
  rw [e] at e2
  cases e2
  have hc0 := hc 0 h0
  have hln := ht.len
  rcases hl with hl | hl
  · rw [hl] at hln; simp at hln; omega
  cases hf : fr.list with
  | nil => rw [hf] at hln; simp at hln; omega
  | cons d L =>
    rw [hf] at hc0 hl
    have hd := hl d (by simp)
    rw [Nat.add_zero, cell_of_blk hg] at hc0
    simp at hc0
    have : off < 11 ∨ 11 ≤ off := by omega
    match off, hc0 with
    | 0, h => simp [strV] at h
    | 1, h => simp [strV] at h
    | 2, h => simp [strV] at h
    | 3, h => simp [strV] at h
    | 4, h => simp [strV] at h
    | 5, h => simp [strV] at h
    | 6, h => simp [strV] at h
    | 7, h => simp [strV] at h
    | 8, h => simp [strV] at h
    | 9, h =>
      simp [strV] at h
      subst h
      simp at hd
    | 10, h => simp [strV] at h
    | (k + 11), h => simp at h

theorem get_end {w w7 w8 : World} {a : Option Addr} {n c : Nat} {xs : List UInt8} {p : Nat} {ys : List UInt8} (hG : GP w w7 a n c xs p ys) {fr : FR} {a8 : Option Addr} {m8 c8 : Nat} {k : Int} {CE : Array Value} (hb8 : Below w7.heap.size w7 w8) (hk : getP xs = (fr, k))
    (hl : fr.list = [] ∨ ∀ d ∈ fr.list, d.length = 32) (ht : Tx w8 a8 m8 c8 fr.list) (hCE : CE = frC fr (.slice a8 m8 c8)) :
    w8.heap[w.heap.size]? = some (.cells frZ 26 (0, 0)) ∧ (Try.prog.info? 26).map (·.size) = some CE.size ∧ frZ.size = CE.size ∧ CE.all (·.oneCell') = true ∧
    (w8.setRow w.heap.size CE).heap[w.heap.size]? = some (.cells CE 26 (0, 0)) ∧ GetR xs w (.returned (.tuple #[.agg CE, .int .i64 k])) (w8.setRow w.heap.size CE) := by
  subst hCE
  have hr8 : w8.heap[w.heap.size]? = some (.cells frZ 26 (0, 0)) := (hb8.block _ (lt_of_block hG.res)).trans hG.res
  refine ⟨hr8, by kernel_rfl, rfl, frC_one _ _ _ _, setRow_heap _ _ _ _ _ _ hr8, ?_⟩
  refine ⟨.agg (frC fr (.slice a8 m8 c8)), by rw [hk], ?_, below_setRow (hG.bel.trans (hb8.mono hG.bel.size)) (Nat.le_refl _) _⟩
  rw [hk]
  exact ⟨a8, m8, c8, rfl, get_row hr8 hl ht _⟩

set_option maxRecDepth 20000 in
set_option maxHeartbeats 400000 in
theorem get_1 (a : Option Addr) (n c : Nat) (xs : List UInt8) (w : World) (hrd : Rd w a n c xs) (hn : ¬ n < 27) :
    Calls Try.prog 12 #[.slice a n c] w fun e w' => GetR xs w e w' := by
  have hlen := hrd.len
  have hbig := hrd.big
  have HRD := Lib.hid hrd
  have hi0 : (Try.prog.info? 26).map (·.size) = some frZ.size := by kernel_rfl
  have ho0 : frZ.all (·.oneCell') = true := by simp [frZ, Value.oneCell']
  obtain ⟨W0, hW0⟩ : ∃ x, x = w.alloc (.cells frZ 26) := ⟨_, rfl⟩
  have hrs : W0.heap[w.heap.size]? = some (.cells frZ 26 (0, 0)) := by rw [hW0]; exact heap_alloc_new _ _
  have hb0 : Below w.heap.size w W0 := by rw [hW0]; exact (Below.refl _ _).alloc (Nat.le_refl _) _
  have hw5 : (W0.setRow w.heap.size frZ).heap[w.heap.size]? = some (.cells frZ 26 (0, 0)) := setRow_heap _ _ _ frZ _ _ hrs
  have HB5 := Lib.hid (below_setRow hb0 (Nat.le_refl _) frZ)
  have HB0 := Lib.hid hb0
  have HR0 := Lib.hid (hrd.later hb0)
  have HW0 := Lib.hid hW0
  have HG := Lib.hid (get_any a n c xs 21 2 W0 HR0.out (by omega))
  rw [getR_len xs (by omega)] at HG
  obtain ⟨ln, hln⟩ : ∃ l, l = lenOf xs := ⟨_, rfl⟩
  rw [← hln] at HG
  have hl6 : ln < 65536 := by rw [hln]; exact lenOf_lt xs
  have HLN := Lib.hid hln
  have HLE := Lib.hid hlen
  have r1 : IntKind.i64.wrap (ln : Int) = (ln : Int) := wrap_small _ (by omega) (by omega)
  have r2 : IntKind.i64.wrap (23 + (ln : Int)) = 23 + (ln : Int) := wrap_small _ (by omega) (by omega)
  have r3 : IntKind.i64.wrap (23 + (ln : Int) + 4) = 23 + (ln : Int) + 4 := wrap_small _ (by omega) (by omega)
  have c1 : ¬ (n : Int) < 27 := by omega
  unfold frZ at HW0
  clear hW0 hb0 hrd hln hlen
  go_enter Try.func12, Try.ntmps12
  go_upto_region 1 with fail
  rw [← HW0.out]
  go_wp2_with fail
  refine HG.out.mono ?_
  rintro e w1 ⟨rfl, hw1⟩
  subst hw1
  have HN := Lib.hid hn
  by_cases h2 : (n : Int) < 23 + (ln : Int) + 4
  · have HP := Lib.hid (show getP xs = (fr0, 7) from by have := HLE.out; have := HN.out; unfold getP; rw [if_neg (by omega), if_pos (by rw [← HLN.out]; omega)])
    go_wp2_with (with_reducible refine wpList_store_row (o := ⟨none, _, _, _, _, _⟩) rfl 26 (.tmp 2) (.tmp 30) rfl w.heap.size frZ rfl rfl 26 frZ hrs hi0 rfl ho0 ?_)
    refine bodyPost_ret (results_row_tmp (p := 2) (u := 3) (ty := 26) rfl _ _ w.heap.size 26 frZ (0, 0) _ rfl hw5 Try.underlying26 rfl hi0) rfl ?_
    exact getr_bad HP.out rfl HB5.out
  by_cases h3 : (n : Int) > 23 + (ln : Int) + 4
  · have HP := Lib.hid (show getP xs = (fr0, 8) from by have := HLE.out; have := HN.out; unfold getP; rw [if_neg (by omega), if_neg (by rw [← HLN.out]; omega), if_pos (by rw [← HLN.out]; omega)])
    go_wp2_with (with_reducible refine wpList_store_row (o := ⟨none, _, _, _, _, _⟩) rfl 26 (.tmp 2) (.tmp 36) rfl w.heap.size frZ rfl rfl 26 frZ hrs hi0 rfl ho0 ?_)
    refine bodyPost_ret (results_row_tmp (p := 2) (u := 3) (ty := 26) rfl _ _ w.heap.size 26 frZ (0, 0) _ rfl hw5 Try.underlying26 rfl hi0) rfl ?_
    exact getr_bad HP.out rfl HB5.out
  have hnn : xs.length = 27 + ln := by have := HLE.out; omega
  have hg4 := get_any a n c xs (23 + (ln : Int)) 4 W0 HR0.out (by omega)
  rw [show (23 + (ln : Int)) = ((23 + lenOf xs : Nat) : Int) from by rw [← HLN.out]; omega, getR_sum xs (by rw [← HLN.out]; exact hnn), ← HLN.out, show ((23 + ln : Nat) : Int) = 23 + (ln : Int) from by omega] at hg4
  obtain ⟨sm, hsm⟩ : ∃ s, s = numN ((xs.drop (23 + ln)).take 4) := ⟨_, rfl⟩
  rw [← hsm] at hg4
  have HG4 := Lib.hid hg4
  have HSM := Lib.hid hsm
  have hpre := HR0.out.pre (m := 23 + ln) (by have := HLE.out; omega)
  have hsum := sum_any _ _ _ _ _ hpre
  obtain ⟨cv, hcv⟩ : ∃ s, s = addN 0 (xs.take (23 + ln)) := ⟨_, rfl⟩
  rw [← hcv] at hsum
  have HSU := Lib.hid hsum
  have HCV := Lib.hid hcv
  have hcl := addN_lt 0 (xs.take (23 + ln))
  rw [← hcv] at hcl
  have r4 : IntKind.u64.wrap (cv : Int) = (cv : Int) := IntWalk.u64_in _ (by omega)
  have hcp := HRD.out.le
  have s1 : 23 + (ln : Int) ≤ (c : Int) := by have := HLE.out; omega
  have s2 : (0 : Int) ≤ 23 + (ln : Int) := by omega
  clear hsm hg4 hcv hsum
  go_wp2_with fail
  refine HG4.out.mono ?_
  rintro e w1 ⟨rfl, hw1⟩
  subst hw1
  go_wp2_with fail
  refine HSU.out.mono ?_
  rintro e w2 ⟨rfl, hb2⟩
  have hrs2 : w2.heap[w.heap.size]? = some (.cells frZ 26 (0, 0)) := (hb2.block _ (lt_of_block hrs)).trans hrs
  have hB2 := HB0.out.trans (hb2.mono HB0.out.size)
  have HB2 := Lib.hid hB2
  have HR2 := Lib.hid (HR0.out.later hb2)
  have HNL := Lib.hid hnn
  have HLT := Lib.hid hb2.size
  clear hb2 hpre hn hw5 hrs HG HG4 HSU HB5
  by_cases hs : sm = cv
  case neg =>
    have hs1 : ((sm : Int) == (cv : Int)) = false := by simp; omega
    have HP := Lib.hid (show getP xs = (fr0, 9) from by have := HNL.out; unfold getP; rw [if_neg (by omega), if_neg (by rw [← HLN.out]; omega), if_neg (by rw [← HLN.out]; omega), if_pos (by rw [← HLN.out, ← HSM.out, ← HCV.out]; exact hs)])
    have hw6 : (w2.setRow w.heap.size frZ).heap[w.heap.size]? = some (.cells frZ 26 (0, 0)) := setRow_heap _ _ _ frZ _ _ hrs2
    have HB6 := Lib.hid (below_setRow hB2 (Nat.le_refl _) frZ)
    clear hs hB2
    go_wp2_with (with_reducible refine wpList_store_row (o := ⟨none, _, _, _, _, _⟩) rfl 26 (.tmp 2) (.tmp 50) rfl w.heap.size frZ rfl rfl 26 frZ hrs2 hi0 rfl ho0 ?_)
    refine bodyPost_ret (results_row_tmp (p := 2) (u := 3) (ty := 26) rfl _ _ w.heap.size 26 frZ (0, 0) _ rfl hw6 Try.underlying26 rfl hi0) rfl ?_
    exact getr_bad HP.out rfl HB6.out
  have hs1 : ((sm : Int) == (cv : Int)) = true := by simp; omega
  have HS := Lib.hid hs
  have hpre := HR2.out.pre (m := 21) (by have := HLE.out; have := HNL.out; omega)
  have HNW := Lib.hid (new_any _ _ _ _ _ hpre)
  have s3 : (21 : Int) ≤ (c : Int) := by omega
  have s4 : ¬ c = 23 := by omega
  have HGP := Lib.hid (getP_open xs (by rw [← HLN.out]; exact HNL.out) (by rw [← HLN.out, ← HSM.out, ← HCV.out]; exact HS.out))
  rw [← HLN.out] at HGP
  clear hs hpre
  go_wp2_with fail
  refine HNW.out.mono ?_
  rintro e w3 ⟨p, rfl, hp, hr3, hb3⟩
  have hgp : GP w w3 a n c xs p ((xs.drop 0).take 21) := ⟨(hb3.block _ (lt_of_block hrs2)).trans hrs2, hr3, HR2.out.later hb3, by have := lt_of_block hrs2; omega, HB2.out.trans (hb3.mono HB2.out.size), fun b off e2 => by
    obtain ⟨b', off', e4, hlt, _⟩ := HRD.out.at0 (by have := HLE.out; have := HNL.out; omega)
    rw [e2] at e4; cases e4; exact hlt⟩
  have HN1 := Lib.hid (GP.at 0 21 hgp.drew 1 1 rfl (by omega) (by omega) (by omega) (by omega))
  have hh1 : headOf xs = ⟨(numN (xs.take 1) : Int), numN ((xs.drop 1).take 8), numN ((xs.drop 9).take 8), numN ((xs.drop 17).take 4), 0, 0, 0, 0, 0, [], []⟩ := rfl
  obtain ⟨v1, hv1⟩ : ∃ v, v = numN (xs.take 1) := ⟨_, rfl⟩
  obtain ⟨v2, hv2⟩ : ∃ v, v = numN ((xs.drop 1).take 8) := ⟨_, rfl⟩
  obtain ⟨v3, hv3⟩ : ∃ v, v = numN ((xs.drop 9).take 8) := ⟨_, rfl⟩
  obtain ⟨v4, hv4⟩ : ∃ v, v = numN ((xs.drop 17).take 4) := ⟨_, rfl⟩
  rw [← hv1, ← hv2, ← hv3, ← hv4] at hh1
  have hl1 : v1 < 256 ^ 1 := by rw [hv1]; exact num_take_lt _ _
  have hl4 : v4 < 256 ^ 4 := by rw [hv4]; exact num_take_lt _ _
  have z1 : IntKind.i64.wrap (v1 : Int) = (v1 : Int) := wrap_small _ (by omega) (by omega)
  have z4 : IntKind.u32.wrap (v4 : Int) = (v4 : Int) := IntWalk.u32_in _ (by omega)
  rw [show xs.take 1 = (xs.drop 0).take 1 from rfl] at hv1
  rw [← hv1] at HN1
  have HFV := Lib.hid (show frV (headOf xs) (.slice none 0 0) = .agg #[.int .i64 v1, .int .u64 v2, .int .u64 v3, .int .u32 v4, .int .u32 0, .int .i64 0, .int .i64 0, .int .i64 0, .int .i64 0, .string ⟨#[]⟩, .slice none 0 0] from by rw [hh1]; rfl)
  have HV2 := Lib.hid hv2
  have HV3 := Lib.hid hv3
  have HV4 := Lib.hid hv4
  clear hgp hh1 hv1 hv2 hv3 hv4 hb3 hr3 hp hB2 hrs2 HNW
  go_wp2_with fail
  refine wp_region_held_drew (S := fun _ => True) (by kernel_rfl) (trivial) (fun hHeld => ?_)
  refine wpAnyH_take (i := 0) (oi := { dst := some 54, op := Op.move (Operand.tmp 10), type := 52, pos := "frame.go:74", after := #[], guard := none }) (v := ?_) rfl (by kernel_rfl) (by kernel_rfl) (by kernel_rfl) (fun _ _ _ h => h) (Or.inl ⟨by rfl, ?_⟩) (by assumption) ?_
  rotate_left
  · (intro w hSw; (try dsimp only at hSw); go_simp <;> with_reducible rfl)
  try simp only [Act.put, List.setIfInBounds_toArray, List.set_cons_zero, List.set_cons_succ]
  refine wpAnyH_take (i := 3) (oi := { dst := some 57, op := Op.move (Operand.tmp 10), type := 52, pos := "frame.go:74", after := #[], guard := none }) (v := ?_) rfl (by kernel_rfl) (by kernel_rfl) (by kernel_rfl) (fun _ _ _ h => h) (Or.inl ⟨by rfl, ?_⟩) (by assumption) ?_
  rotate_left
  · (intro w hSw; (try dsimp only at hSw); go_simp <;> with_reducible rfl)
  try simp only [Act.put, List.setIfInBounds_toArray, List.set_cons_zero, List.set_cons_succ]
  refine wpAnyH_take (i := 5) (oi := { dst := some 59, op := Op.move (Operand.tmp 10), type := 52, pos := "frame.go:74", after := #[], guard := none }) (v := ?_) rfl (by kernel_rfl) (by kernel_rfl) (by kernel_rfl) (fun _ _ _ h => h) (Or.inl ⟨by rfl, ?_⟩) (by assumption) ?_
  rotate_left
  · (intro w hSw; (try dsimp only at hSw); go_simp <;> with_reducible rfl)
  try simp only [Act.put, List.setIfInBounds_toArray, List.set_cons_zero, List.set_cons_succ]
  refine wpAnyH_take (i := 7) (oi := { dst := some 61, op := Op.move (Operand.tmp 10), type := 52, pos := "frame.go:74", after := #[], guard := none }) (v := ?_) rfl (by kernel_rfl) (by kernel_rfl) (by kernel_rfl) (fun _ _ _ h => h) (Or.inl ⟨by rfl, ?_⟩) (by assumption) ?_
  rotate_left
  · (intro w hSw; (try dsimp only at hSw); go_simp <;> with_reducible rfl)
  try simp only [Act.put, List.setIfInBounds_toArray, List.set_cons_zero, List.set_cons_succ]
  refine wpAnyH_take (i := 11) (oi := { dst := some 65, op := Op.move (Operand.tmp 0), type := 29, pos := "frame.go:74", after := #[], guard := none }) (v := ?_) rfl (by kernel_rfl) (by kernel_rfl) (by kernel_rfl) (fun _ _ _ h => h) (Or.inl ⟨by rfl, ?_⟩) (by assumption) ?_
  rotate_left
  · (intro w hSw; (try dsimp only at hSw); go_simp <;> with_reducible rfl)
  try simp only [Act.put, List.setIfInBounds_toArray, List.set_cons_zero, List.set_cons_succ]
  refine wpAnyH_take (i := 12) (oi := { dst := some 66, op := Op.move (Operand.tmp 6), type := 3, pos := "frame.go:74", after := #[], guard := none }) (v := ?_) rfl (by kernel_rfl) (by kernel_rfl) (by kernel_rfl) (fun _ _ _ h => h) (Or.inl ⟨by rfl, ?_⟩) (by assumption) ?_
  rotate_left
  · (intro w hSw; (try dsimp only at hSw); go_simp <;> with_reducible rfl)
  try simp only [Act.put, List.setIfInBounds_toArray, List.set_cons_zero, List.set_cons_succ]
  refine wpAnyH_take (i := 13) (oi := { dst := some 67, op := Op.slice 29 (Operand.tmp 65) (some (Operand.const (Value.int IntKind.i64 23))) (some (Operand.tmp 66)) none, type := 29, pos := "frame.go:74", after := #[{ on := 11, ground := Ground.data }, { on := 12, ground := Ground.data }], guard := none }) (v := ?_) rfl (by kernel_rfl) (by kernel_rfl) (by kernel_rfl) (fun _ _ _ h => h) (Or.inl ⟨by rfl, ?_⟩) (by assumption) ?_
  rotate_left
  · (intro w hSw; (try dsimp only at hSw); go_simp; rw [if_pos (by omega)])
  try simp only [Act.put, List.setIfInBounds_toArray, List.set_cons_zero, List.set_cons_succ]
  refine wpAnyH_ready (rs := [1]) (by kernel_rfl) (by simp) ?_
  refine AllReadyH.cons (o := { dst := some 55, op := Op.call { callee := Callee.value (Operand.func 27), args := #[Operand.tmp 54, Operand.const (Value.int IntKind.i64 1)], argTypes := #[52, 3] }, type := 22, pos := "frame.go:75", after := #[{ on := 0, ground := Ground.data }], guard := none }) rfl (fun K hK => ?_) AllReadyH.nil
  go_simp
  go_at_call 27
  refine HN1.out.mono ?_
  rintro e w4 ⟨rfl, hg4⟩
  have HN2 := Lib.hid (GP.at 1 20 hg4 8 8 rfl (by omega) (by omega) (by omega) (by have := HNL.out; omega))
  rw [← HV2.out] at HN2
  clear hg4
  refine hK _ _ (trivial) (fun hHeld => ?_)
  clear hK K
  try simp only [Act.put, List.setIfInBounds_toArray, List.set_cons_zero, List.set_cons_succ]
  refine wpAnyH_take (i := 2) (oi := { dst := some 56, op := Op.convert 22 3 (Operand.tmp 55), type := 3, pos := "frame.go:74", after := #[{ on := 1, ground := Ground.data }], guard := none }) (v := ?_) rfl (by kernel_rfl) (by kernel_rfl) (by kernel_rfl) (fun _ _ _ h => h) (Or.inl ⟨by rfl, ?_⟩) (by assumption) ?_
  rotate_left
  · (intro w hSw; (try dsimp only at hSw); go_simp <;> with_reducible rfl)
  try simp only [Act.put, List.setIfInBounds_toArray, List.set_cons_zero, List.set_cons_succ]
  refine wpAnyH_ready (rs := [4]) (by kernel_rfl) (by simp) ?_
  refine AllReadyH.cons (o := { dst := some 58, op := Op.call { callee := Callee.value (Operand.func 27), args := #[Operand.tmp 57, Operand.const (Value.int IntKind.i64 8)], argTypes := #[52, 3] }, type := 22, pos := "frame.go:76", after := #[{ on := 3, ground := Ground.data }, { on := 1, ground := Ground.chain }], guard := none }) rfl (fun K hK => ?_) AllReadyH.nil
  go_simp
  go_at_call 27
  refine HN2.out.mono ?_
  rintro e w5 ⟨rfl, hg4⟩
  have HN3 := Lib.hid (GP.at 9 12 hg4 8 8 rfl (by omega) (by omega) (by omega) (by have := HNL.out; omega))
  rw [← HV3.out] at HN3
  clear hg4
  refine hK _ _ (trivial) (fun hHeld => ?_)
  clear hK K
  try simp only [Act.put, List.setIfInBounds_toArray, List.set_cons_zero, List.set_cons_succ]
  refine wpAnyH_ready (rs := [6]) (by kernel_rfl) (by simp) ?_
  refine AllReadyH.cons (o := { dst := some 60, op := Op.call { callee := Callee.value (Operand.func 27), args := #[Operand.tmp 59, Operand.const (Value.int IntKind.i64 8)], argTypes := #[52, 3] }, type := 22, pos := "frame.go:77", after := #[{ on := 5, ground := Ground.data }, { on := 4, ground := Ground.chain }], guard := none }) rfl (fun K hK => ?_) AllReadyH.nil
  go_simp
  go_at_call 27
  refine HN3.out.mono ?_
  rintro e w6 ⟨rfl, hg4⟩
  have HN4 := Lib.hid (GP.at 17 4 hg4 4 4 rfl (by omega) (by omega) (by omega) (by have := HNL.out; omega))
  rw [← HV4.out] at HN4
  clear hg4
  refine hK _ _ (trivial) (fun hHeld => ?_)
  clear hK K
  try simp only [Act.put, List.setIfInBounds_toArray, List.set_cons_zero, List.set_cons_succ]
  refine wpAnyH_ready (rs := [8]) (by kernel_rfl) (by simp) ?_
  refine AllReadyH.cons (o := { dst := some 62, op := Op.call { callee := Callee.value (Operand.func 27), args := #[Operand.tmp 61, Operand.const (Value.int IntKind.i64 4)], argTypes := #[52, 3] }, type := 22, pos := "frame.go:78", after := #[{ on := 7, ground := Ground.data }, { on := 6, ground := Ground.chain }], guard := none }) rfl (fun K hK => ?_) AllReadyH.nil
  go_simp
  go_at_call 27
  refine HN4.out.mono ?_
  rintro e w7 ⟨rfl, hg4⟩
  have HSL := Lib.hid (show Rd w7 (Option.map (fun x => (⟨x.block, x.off + 23, none⟩ : Addr)) a) ((23 + (ln : Int)).toNat - 23) (c - 23) ((xs.drop 23).take ln) from by rw [show (23 + (ln : Int)).toNat - 23 = ln from by omega]; exact (hg4.src.suf (m := 23) (by have := HLE.out; have := HNL.out; omega)).pre (m := ln) (by have := HLE.out; have := HNL.out; omega))
  have HG7 := Lib.hid hg4
  clear hg4
  refine hK _ _ (trivial) (fun hHeld => ?_)
  clear hK K
  try simp only [Act.put, List.setIfInBounds_toArray, List.set_cons_zero, List.set_cons_succ]
  refine wpAnyH_take (i := 9) (oi := { dst := some 63, op := Op.convert 22 23 (Operand.tmp 62), type := 23, pos := "frame.go:74", after := #[{ on := 8, ground := Ground.data }], guard := none }) (v := ?_) rfl (by kernel_rfl) (by kernel_rfl) (by kernel_rfl) (fun _ _ _ h => h) (Or.inl ⟨by rfl, ?_⟩) (by assumption) ?_
  rotate_left
  · (intro w hSw; (try dsimp only at hSw); go_simp <;> with_reducible rfl)
  try simp only [Act.put, List.setIfInBounds_toArray, List.set_cons_zero, List.set_cons_succ]
  refine wpAnyH_take (i := 10) (oi := { dst := some 64, op := Op.build 26 #[(0, Operand.tmp 56), (1, Operand.tmp 58), (2, Operand.tmp 60), (3, Operand.tmp 63)], type := 26, pos := "frame.go:74", after := #[{ on := 2, ground := Ground.data }, { on := 4, ground := Ground.data }, { on := 6, ground := Ground.data }, { on := 9, ground := Ground.data }], guard := none }) (v := .agg #[.int .i64 v1, .int .u64 v2, .int .u64 v3, .int .u32 v4, .int .u32 0, .int .i64 0, .int .i64 0, .int .i64 0, .int .i64 0, .string ⟨#[]⟩, .slice none 0 0]) rfl (by kernel_rfl) (by kernel_rfl) (by kernel_rfl) (fun _ _ _ h => h) (Or.inl ⟨by rfl, fun w hSw => ?_⟩) (by assumption) ?_
  rotate_left 0
  · refine take_build (cells := #[.int .i64 v1, .int .u64 v2, .int .u64 v3, .int .u32 v4, .int .u32 0, .int .i64 0, .int .i64 0, .int .i64 0, .int .i64 0, .string ⟨#[]⟩, .slice none 0 0]) rfl ?_ w
    simp only [List.map_toArray, List.map_cons, List.map_nil]
    exact built_frame v1 v2 v3 v4
  try simp only [Act.put, List.setIfInBounds_toArray, List.set_cons_zero, List.set_cons_succ]
  refine wpAnyH_ready (rs := [14]) (by kernel_rfl) (by simp) ?_
  refine AllReadyH.cons (o := { dst := some 68, op := Op.call { callee := Callee.value (Operand.func 15), args := #[Operand.tmp 64, Operand.tmp 67], argTypes := #[26, 29] }, type := 36, pos := "frame.go:74", after := #[{ on := 10, ground := Ground.data }, { on := 13, ground := Ground.data }, { on := 8, ground := Ground.chain }], guard := none }) rfl (fun K hK => ?_) AllReadyH.nil
  go_simp
  have HOP := Lib.hid (get_open xs ((xs.drop 23).take ln) HGP.out _ _ _ w7 HSL.out)
  rw [HFV.out] at HOP
  go_at_call 15
  with_reducible refine HOP.out.mono ?_
  rintro e w8 ⟨fr, a8, m8, c8, k8, CE, hCE, rfl, hk8, hl8, ht8, hb8⟩
  obtain ⟨q1, q2, q3, q4, q5, q6⟩ := get_end HG7.out hb8 hk8 hl8 ht8 hCE
  have HEND := Lib.hid q6
  clear hCE hk8 hl8 ht8 hb8 q6
  refine hK _ _ (trivial) (fun hHeld => ?_)
  clear hK K
  try simp only [Act.put, List.setIfInBounds_toArray, List.set_cons_zero, List.set_cons_succ]
  refine wpAnyH_take (i := 15) (oi := { dst := some 69, op := Op.extract (Operand.tmp 68) 0, type := 26, pos := "frame.go:74", after := #[{ on := 14, ground := Ground.data }], guard := none }) (v := ?_) rfl (by kernel_rfl) (by kernel_rfl) (by kernel_rfl) (fun _ _ _ h => h) (Or.inl ⟨by rfl, ?_⟩) (by assumption) ?_
  rotate_left
  · (intro w hSw; (try dsimp only at hSw); go_simp <;> with_reducible rfl)
  try simp only [Act.put, List.setIfInBounds_toArray, List.set_cons_zero, List.set_cons_succ]
  refine wpAnyH_take (i := 16) (oi := { dst := some 70, op := Op.extract (Operand.tmp 68) 1, type := 30, pos := "frame.go:74", after := #[{ on := 14, ground := Ground.data }], guard := none }) (v := ?_) rfl (by kernel_rfl) (by kernel_rfl) (by kernel_rfl) (fun _ _ _ h => h) (Or.inl ⟨by rfl, ?_⟩) (by assumption) ?_
  rotate_left
  · (intro w hSw; (try dsimp only at hSw); go_simp <;> with_reducible rfl)
  try simp only [Act.put, List.setIfInBounds_toArray, List.set_cons_zero, List.set_cons_succ]
  refine wpAnyH_ready (rs := [17]) (by kernel_rfl) (by simp) ?_
  refine AllReadyH.cons (o := { dst := none, op := Op.store 26 (Operand.tmp 2) (Operand.tmp 69), type := 0, pos := "frame.go:74", after := #[{ on := 15, ground := Ground.data }, { on := 14, ground := Ground.chain }, { on := 0, ground := Ground.phase }, { on := 1, ground := Ground.phase }, { on := 2, ground := Ground.phase }, { on := 3, ground := Ground.phase }, { on := 4, ground := Ground.phase }, { on := 5, ground := Ground.phase }, { on := 6, ground := Ground.phase }, { on := 7, ground := Ground.phase }, { on := 8, ground := Ground.phase }, { on := 9, ground := Ground.phase }, { on := 10, ground := Ground.phase }, { on := 11, ground := Ground.phase }, { on := 12, ground := Ground.phase }, { on := 13, ground := Ground.phase }, { on := 14, ground := Ground.phase }, { on := 15, ground := Ground.phase }, { on := 16, ground := Ground.phase }], guard := none }) rfl (fun K hK => ?_) AllReadyH.nil
  refine wp_store_row 26 (.tmp 2) (.tmp 69) rfl w.heap.size CE rfl rfl 26 frZ q1 q2 q3 q4 ?_
  refine hK _ _ (trivial) (fun hHeld => ?_)
  clear hK K
  try simp only [Act.put, List.setIfInBounds_toArray, List.set_cons_zero, List.set_cons_succ]
  refine wpAnyH_take (i := 18) (oi := { dst := some 3, op := Op.assign (Operand.tmp 70), type := 30, pos := "frame.go:74", after := #[{ on := 16, ground := Ground.data }, { on := 17, ground := Ground.chain }, { on := 0, ground := Ground.phase }, { on := 1, ground := Ground.phase }, { on := 2, ground := Ground.phase }, { on := 3, ground := Ground.phase }, { on := 4, ground := Ground.phase }, { on := 5, ground := Ground.phase }, { on := 6, ground := Ground.phase }, { on := 7, ground := Ground.phase }, { on := 8, ground := Ground.phase }, { on := 9, ground := Ground.phase }, { on := 10, ground := Ground.phase }, { on := 11, ground := Ground.phase }, { on := 12, ground := Ground.phase }, { on := 13, ground := Ground.phase }, { on := 14, ground := Ground.phase }, { on := 15, ground := Ground.phase }, { on := 16, ground := Ground.phase }, { on := 17, ground := Ground.phase }], guard := none }) (v := ?_) rfl (by kernel_rfl) (by kernel_rfl) (by kernel_rfl) (fun _ _ _ h => h) (Or.inl ⟨by rfl, ?_⟩) (by assumption) ?_
  rotate_left
  · (intro w hSw; (try dsimp only at hSw); go_simp <;> with_reducible rfl)
  try simp only [Act.put, List.setIfInBounds_toArray, List.set_cons_zero, List.set_cons_succ]
  refine wpAnyH_done (by kernel_rfl) ?_ _
  go_wp2_with fail
  refine bodyPost_ret (results_row_tmp (p := 2) (u := 3) (ty := 26) rfl _ _ w.heap.size 26 CE (0, 0) _ rfl q5 Try.underlying26 rfl q2) rfl ?_
  exact HEND.out
end Go.Proofs.Ytipegdfjpmlcbaa


/-
  An act to both nets (do).
-/
import Derived.Test.YthbfeflijlcboaaC8
namespace Go.Proofs.Ythbfeflijlcboaa
open Go.RowKit
set_option linter.unusedVariables false
set_option linter.unusedSimpArgs false

theorem eqin_pk (x : Int) (s : ByteArray) (w : World) : (Op.equalIn 10000 41 (.agg #[.int .i64 x, .string s]) (.agg #[.int .i64 x, .string s])).run Try.prog w = .ok true w := by
  have u3 := Try.underlying3
  have a3 := Try.isAgg3
  have z3 := Try.sizeOf3
  have u9 := Try.underlying9
  have a9 := Try.isAgg9
  have z9 := Try.sizeOf9
  have hS : Try.prog.underlying 41 = some (.struct (Try.prog.fieldsOf 41)) := by kernel_rfl
  have hp : Try.prog.stoodInHeld 41 = false := by kernel_rfl
  rw [show (10000 : Nat) = 9999 + 1 from rfl, run_equalIn_agg w 9999 41 _ _ hS hp]
  simp only [Program.fieldsOf, Try.underlying41]
  go_simp
theorem eql_pk (x : Int) (s : ByteArray) (w : World) : (binOp .eql 41 (.agg #[.int .i64 x, .string s]) (.agg #[.int .i64 x, .string s])).run Try.prog w = .ok (.bool true) w := by
  rw [run_eql_struct, eqin_pk]
  simp [Result.andThen]
theorem neq_pk (x : Int) (s : ByteArray) (w : World) : (binOp .neq 41 (.agg #[.int .i64 x, .string s]) (.agg #[.int .i64 x, .string s])).run Try.prog w = .ok (.bool false) w := by
  rw [run_neq_struct, eqin_pk]
  simp [Result.andThen]
theorem guard_pk (op : BinOp) (x y : Operand) (a c : Int) (b d : ByteArray) (w : World) : Sem.run Try.prog (eqGuard op 41 x y (.agg #[.int .i64 a, .string b]) (.agg #[.int .i64 c, .string d])) w = .ok () w := by
  unfold eqGuard
  cases op <;> simp [go_sem]

/-- Both nets, in the same state; A: the blocks that are theirs. -/
def Two (w : World) (B p q : Nat) (A : Nat → Prop) (S : NS) : Prop :=
  ∃ v u, PN w B p v S ∧ RN w B q u S ∧ (∀ k, ft p v k → ¬ ft q u k) ∧ ∀ k, A k ↔ ft p v k ∨ ft q u k
theorem Two.low {w B p q A S} (h : Two w B p q A S) : ∀ k, A k → B ≤ k ∧ k < w.heap.size := by
  obtain ⟨v, u, hp, hq, hd, hA⟩ := h
  intro k hk
  rcases (hA k).1 hk with h | h
  · exact Nt.ft_low hp k h
  · exact Nt.ft_low hq k h
theorem Two.kept {w w' : World} {B p q A S} (h : Two w B p q A S) (hk : ∀ k, A k → w'.heap[k]? = w.heap[k]?) : Two w' B p q A S := by
  obtain ⟨v, u, hp, hq, hd, hA⟩ := h
  exact ⟨v, u, Nt.kept hp fun k h => hk k ((hA k).2 (.inl h)), Nt.kept hq fun k h => hk k ((hA k).2 (.inr h)), hd, hA⟩
theorem Two.fr {w w' : World} {A' : Nat → Prop} {B p q A S} (h : Two w B p q A S) (hf : Fr A' w w') (hd : ∀ k, A k → ¬ A' k) : Two w' B p q A S := h.kept fun k hk => hf.block k (h.low k hk).2 (hd k hk)
theorem Two.below {w w' : World} {B p q A S} (h : Two w B p q A S) (hb : Below w.heap.size w w') : Two w' B p q A S := h.kept fun k hk => hb.block k (h.low k hk).2

/-- What an act leaves of both. -/
def TP (w : World) (B p q : Nat) (A : Nat → Prop) (S : NS) (w' : World) : Prop := ∃ A', Two w' B p q A' S ∧ Fr A w w' ∧ ∀ k, A' k → A k ∨ w.heap.size ≤ k
theorem TP.same {w w' : World} {B p q A S} (h : Two w B p q A S) (hb : Below w.heap.size w w') : TP w B p q A S w' := ⟨A, h.below hb, Fr.of_below hb, fun k hk => .inl hk⟩

theorem np_later {ty : TypeId} {F : Value → NS → Array Value} {w w1 w2 : World} {B p : Nat} {v : Value} {S : NS} (h : NP ty F w B p v S w1) (hb : Below w1.heap.size w1 w2) : NP ty F w B p v S w2 := by
  obtain ⟨v', hn, hf, ht⟩ := h
  exact ⟨v', hn.below hb, hf.trans (Fr.of_below (A := fun _ => False) hb) (fun i hi => hi.elim), ht⟩
theorem np_frm {ty : TypeId} {F : Value → NS → Array Value} {w w' : World} {B p : Nat} {v : Value} {S : NS} (h : NP ty F w B p v S w') : Fr (ft p v) w w' := by
  obtain ⟨v', hn, hf, ht⟩ := h
  exact hf
theorem np_undrew {ty : TypeId} {F : Value → NS → Array Value} {w w' : World} {B p : Nat} {v : Value} {S : NS} (h : NP ty F w.drew B p v S w') : NP ty F w B p v S w' := by
  obtain ⟨v', hn, hf, ht⟩ := h
  exact ⟨v', hn, ⟨hf.os, hf.tape, hf.output, hf.size, hf.block⟩, ht⟩
theorem rn_after {w w1 : World} {B p q : Nat} {v u : Value} {S S' : NS} (hq : RN w B q u S) (hd : ∀ k, ft p v k → ¬ ft q u k) (h : NP 53 pF w B p v S' w1) : RN w1 B q u S :=
  Nt.fr hq (np_frm h) fun k hk hk2 => hd k hk2 hk
theorem two_after {w w1 w2 : World} {B p q : Nat} {A : Nat → Prop} {v u : Value} {S S' : NS} (hq : RN w B q u S) (hp : PN w B p v S) (hd : ∀ k, ft p v k → ¬ ft q u k) (hA : ∀ k, A k ↔ ft p v k ∨ ft q u k)
    (h1 : NP 53 pF w B p v S' w1) (h2 : NP 30 rF w1 B q u S' w2) : TP w B p q A S' w2 := by
  obtain ⟨v', hp', hf, ht⟩ := h1
  obtain ⟨u', hq', hf2, ht2⟩ := h2
  have hd1 : ∀ k, ft p v' k → ¬ ft q u k := fun k hk hk2 => by
    rcases ht k hk with h | h
    · exact hd k h hk2
    · have := (Nt.ft_low hq k hk2).2; omega
  refine ⟨fun k => ft p v' k ∨ ft q u' k, ⟨v', u', hp'.fr hf2 hd1, hq', fun k hk hk2 => ?_, fun k => Iff.rfl⟩, ?_, ?_⟩
  · rcases ht2 k hk2 with h | h
    · exact hd1 k hk h
    · have := (hp'.ft_low k hk).2; omega
  · exact (hf.mono fun k hk => (hA k).2 (.inl hk)).trans hf2 fun k hk => .inl ((hA k).2 (.inr hk))
  · rintro k (hk | hk)
    · rcases ht k hk with h | h
      · exact .inl ((hA k).2 (.inl h))
      · exact .inr h
    · rcases ht2 k hk with h | h
      · exact .inl ((hA k).2 (.inr h))
      · have := hf.size; exact .inr (by omega)

theorem fr_cell {A : Nat → Prop} {w w' : World} (hf : Fr A w w') {b i : Nat} {u : Value} (hc : w.cell? ⟨b, i, none⟩ = some u) (hn : ¬ A b) : w'.cell? ⟨b, i, none⟩ = some u := by
  rw [World.cell?_of_block (w := w) (hf.block b (World.block_lt_of_cell? w _ hc) hn)]; exact hc

/-- An act. -/
structure AK where
  kind : Int
  to' : Int
  i : Int
  n : Int
  b : ByteArray
def AK.val (x : AK) : Value := .agg #[.int .i64 x.kind, .int .i64 x.to', .int .i64 x.i, .int .i64 x.n, .string x.b]

def NS.act (S : NS) (x : AK) : NS :=
  if x.kind.tmod 7 = 0 then (S.send x.to' x.b).2 else if x.kind.tmod 7 = 1 then S else if x.kind.tmod 7 = 2 then S.take x.i else if x.kind.tmod 7 = 3 then (S.lose x.i).2 else if x.kind.tmod 7 = 4 then (S.twice x.i).2 else if x.kind.tmod 7 = 5 then (S.cut x.i x.n).2 else S.drop
theorem NS.ok.act {S : NS} {N : Nat} (h : S.ok N) (x : AK) : (S.act x).ok (N + 1) := by
  unfold NS.act
  split
  · exact h.send _ _
  split
  · exact h.mono (by omega)
  split
  · exact (h.take _).mono (by omega)
  split
  · exact (h.lose _).mono (by omega)
  split
  · exact h.twice _
  split
  · exact (h.cut _ _).mono (by omega)
  · exact h.drop.mono (by omega)

set_option maxRecDepth 20000 in
set_option maxHeartbeats 4000000 in
theorem do_any (B p q : Nat) (A : Nat → Prop) (S : NS) (x : AK) (w : World) (h : Two w B p q A S) (hB : B ≤ w.heap.size) (N : Nat) (hok : S.ok N) (hN : N ≤ 1000000) (hb : x.b.size ≤ 1000000) :
    Calls Try.prog 9 #[.pointer (some ⟨p, 0, none⟩), .pointer (some ⟨q, 0, none⟩), x.val] w fun e w' => e = .returned (.bool true) ∧ TP w B p q A (S.act x) w' := by
  obtain ⟨v, u, hp, hq, hd, hA⟩ := h
  obtain ⟨kind, to', i, n, b⟩ := x
  obtain ⟨r, hr⟩ : ∃ r, r = kind.tmod 7 := ⟨_, rfl⟩
  have hS : NS.act S ⟨kind, to', i, n, b⟩ = if r = 0 then (S.send to' b).2 else if r = 1 then S else if r = 2 then S.take i else if r = 3 then (S.lose i).2 else if r = 4 then (S.twice i).2 else if r = 5 then (S.cut i n).2 else S.drop := by rw [hr]; rfl
  obtain ⟨T, hT⟩ : ∃ T, T = if r = 0 then (S.send to' b).2 else if r = 1 then S else if r = 2 then S.take i else if r = 3 then (S.lose i).2 else if r = 4 then (S.twice i).2 else if r = 5 then (S.cut i n).2 else S.drop := ⟨_, rfl⟩
  rw [hS, ← hT]
  have HT := Lib.hid hT
  clear hT
  unfold AK.val
  dsimp only at hb ⊢
  have hal : Below w.heap.size w (w.alloc (.cells #[.int .i64 kind, .int .i64 to', .int .i64 i, .int .i64 n, .string b] 33)) := (Below.refl _ _).alloc (Nat.le_refl _) _
  have hnew := heap_alloc_new w (.cells #[.int .i64 kind, .int .i64 to', .int .i64 i, .int .i64 n, .string b] 33)
  obtain ⟨w0, hw0⟩ : ∃ w0, w0 = w.alloc (.cells #[.int .i64 kind, .int .i64 to', .int .i64 i, .int .i64 n, .string b] 33) := ⟨_, rfl⟩
  rw [← hw0] at hal hnew
  have b0 : w0.cell? ⟨w.heap.size, 0, none⟩ = some (.int .i64 kind) := by rw [cell_of_blk hnew]; rfl
  have b1 : w0.cell? ⟨w.heap.size, 1, none⟩ = some (.int .i64 to') := by rw [cell_of_blk hnew]; rfl
  have b2 : w0.cell? ⟨w.heap.size, 2, none⟩ = some (.int .i64 i) := by rw [cell_of_blk hnew]; rfl
  have b3 : w0.cell? ⟨w.heap.size, 3, none⟩ = some (.int .i64 n) := by rw [cell_of_blk hnew]; rfl
  have b4 : w0.cell? ⟨w.heap.size, 4, none⟩ = some (.string b) := by rw [cell_of_blk hnew]; rfl
  have hp0 : PN w0 B p v S := Nt.below hp hal
  have hq0 : RN w0 B q u S := Nt.below hq hal
  have hs0 : B ≤ w0.heap.size := Nat.le_trans hB hal.size
  have hsz : w.heap.size < w0.heap.size := by rw [hw0]; simp
  have hnp : ∀ k, ft p v k → k ≠ w.heap.size := fun k hk e => by have := (Nt.ft_low hp k hk).2; omega
  have hnq : ∀ k, ft q u k → k ≠ w.heap.size := fun k hk e => by have := (Nt.ft_low hq k hk).2; omega
  have hfin : ∀ S' w1 w2, NP 53 pF w0 B p v S' w1 → NP 30 rF w1 B q u S' w2 → TP w B p q A S' w2 := fun S' w1 w2 h1 h2 => by
    obtain ⟨A', hT, hF, hl⟩ := two_after hq0 hp0 hd hA h1 h2
    exact ⟨A', hT, ⟨hF.os.trans hal.os, hF.tape.trans hal.tape, hF.output.trans hal.output, Nat.le_trans hal.size hF.size, fun k hk hn => (hF.block k (Nat.lt_of_lt_of_le hk hal.size) hn).trans (hal.block k hk)⟩, fun k hk => by
      rcases hl k hk with h | h
      · exact .inl h
      · have := hal.size; exact .inr (by omega)⟩
  have HFIN := Lib.hid hfin
  have HP := Lib.hid hp0
  have HQ := Lib.hid hq0
  have HD := Lib.hid hd
  have HNP := Lib.hid hnp
  have HNQ := Lib.hid hnq
  have HLP := Lib.hid (fun k hk => (Nt.ft_low hp0 k hk).2)
  have HLQ := Lib.hid (fun k hk => (Nt.ft_low hq0 k hk).2)
  have hsame : ∀ w', Below w0.heap.size w0 w' → TP w B p q A S w' := fun w' hb => TP.same ⟨v, u, hp, hq, hd, hA⟩ (hal.trans (hb.mono hal.size))
  have HSM := Lib.hid hsame
  have HRR := Lib.hid hr
  have HSZ := Lib.hid hsz
  clear hp hq hp0 hq0 hfin hsame hnew hal hS hnp hnq hsz
  go_enter Try.func9, Try.ntmps9
  go_upto_region 5 with fail
  rw [← hw0, ← HRR.out]
  clear hw0
  by_cases r0 : r = 0
  · subst r0
    have ht : T = (S.send to' b).2 := HT.out.trans (by simp)
    rcases hw : S.send to' b with ⟨E, T1⟩
    rw [hw] at ht
    dsimp only at ht
    subst ht
    have hd0 : Below w0.heap.size w0 w0.drew := (Below.refl _ _).drew
    obtain ⟨cc, wc, hcv, hrd, hbc⟩ := cv_rd b (by omega) w0.drew
    have hbc0 : Below w0.heap.size w0 wc := hd0.trans hbc
    have h1 := send_any B p v S to' (some ⟨w0.drew.heap.size, 0, none⟩) b.size cc b.data.toList b wc N (Nt.below HP.out hbc0) (Nat.le_trans hs0 hbc0.size) hok hN hrd (by cases b; rfl) (fun b' off e _ e2 => by cases e; have := HLP.out p (.inl rfl); exact absurd e2 (by show w0.heap.size ≠ p; omega))
    rw [hw] at h1
    have h2 := fun w' (hh : RN w' B q u S) (hb : B ≤ w'.heap.size) => rsend_any B q u S to' b w' N hh hb hok hN
    simp only [hw] at h2
    have hq1 := fun w1 (h : NP 53 pF wc B p v T w1) => rn_after (Nt.below HQ.out hbc0) HD.out h
    have hkc : wc.cell? ⟨w.heap.size, 1, none⟩ = some (.int .i64 to') ∧ wc.cell? ⟨w.heap.size, 4, none⟩ = some (.string b) := ⟨(hbc0.cell (p := ⟨w.heap.size, 1, none⟩) HSZ.out).trans b1, (hbc0.cell (p := ⟨w.heap.size, 4, none⟩) HSZ.out).trans b4⟩
    have hkp : ∀ w1, NP 53 pF wc B p v T w1 → w1.cell? ⟨w.heap.size, 1, none⟩ = some (.int .i64 to') ∧ w1.cell? ⟨w.heap.size, 4, none⟩ = some (.string b) := fun w1 h => ⟨fr_cell (i := 1) (np_frm h) hkc.1 (fun e => HNP.out _ e rfl), fr_cell (i := 4) (np_frm h) hkc.2 (fun e => HNP.out _ e rfl)⟩
    have hkr : ∀ w1 w2, NP 53 pF wc B p v T w1 → NP 30 rF w1 B q u T w2 → w2.cell? ⟨w.heap.size, 1, none⟩ = some (.int .i64 to') ∧ w2.cell? ⟨w.heap.size, 4, none⟩ = some (.string b) := fun w1 w2 h h2 => ⟨fr_cell (i := 1) (np_frm h2) (hkp w1 h).1 (fun e => HNQ.out _ e rfl), fr_cell (i := 4) (np_frm h2) (hkp w1 h).2 (fun e => HNQ.out _ e rfl)⟩
    have H1 := Lib.hid h1
    have H2 := Lib.hid h2
    have HQ1 := Lib.hid hq1
    have HKP := Lib.hid hkp
    have HKR := Lib.hid hkr
    have HKC := Lib.hid hkc
    have HW := Lib.hid hw
    have HST := Lib.hid (show w0.drew.cell? ⟨w.heap.size, 1, none⟩ = some (.int .i64 to') ∧ w0.drew.cell? ⟨w.heap.size, 4, none⟩ = some (.string b) from And.intro b1 b4)
    have HSB := Lib.hid (Nat.le_trans hs0 hbc0.size)
    have HBC := Lib.hid hbc0
    clear h1 h2 hq1 hkp hkr hkc hw hd0 b0 b1 b2 b3 b4 hbc hrd hbc0
    go_wp2_with fail
    refine wp_region_held_drew (S := fun w' => w'.cell? ⟨w.heap.size, 1, none⟩ = some (.int .i64 to') ∧ w'.cell? ⟨w.heap.size, 4, none⟩ = some (.string b)) (by kernel_rfl) (HST.out) (fun hHeld => ?_)
    refine wpAnyH_take (i := 0) (oi := { dst := some 24, op := Op.move (Operand.tmp 0), type := 25, pos := "law.go:37", after := #[], guard := none }) (v := ?_) rfl (by kernel_rfl) (by kernel_rfl) (by kernel_rfl) (fun _ _ _ h => h) (Or.inl ⟨by rfl, ?_⟩) (by assumption) ?_
    rotate_left
    · (intro w hSw; (try dsimp only at hSw); go_simp <;> with_reducible rfl)
    try simp only [Act.put, List.setIfInBounds_toArray, List.set_cons_zero, List.set_cons_succ]
    refine wpAnyH_take (i := 1) (oi := { dst := some 25, op := Op.fieldAddr 33 (Operand.tmp 5) 1, type := 0, pos := "law.go:37", after := #[], guard := none }) (v := ?_) rfl (by kernel_rfl) (by kernel_rfl) (by kernel_rfl) (fun _ _ _ h => h) (Or.inl ⟨by rfl, ?_⟩) (by assumption) ?_
    rotate_left
    · (intro w hSw; (try dsimp only at hSw); go_simp <;> with_reducible rfl)
    try simp only [Act.put, List.setIfInBounds_toArray, List.set_cons_zero, List.set_cons_succ]
    refine wpAnyH_take (i := 2) (oi := { dst := some 26, op := Op.load 3 (Operand.tmp 25), type := 3, pos := "law.go:37", after := #[{ on := 1, ground := Ground.data }], guard := none }) (v := ?_) rfl (by kernel_rfl) (by kernel_rfl) (by kernel_rfl) (fun _ _ _ h => h) (Or.inl ⟨by rfl, ?_⟩) (by assumption) ?_
    rotate_left
    · (intro w hSw; (try dsimp only at hSw); go_simp <;> with_reducible rfl)
    try simp only [Act.put, List.setIfInBounds_toArray, List.set_cons_zero, List.set_cons_succ]
    refine wpAnyH_take (i := 3) (oi := { dst := some 27, op := Op.fieldAddr 33 (Operand.tmp 5) 4, type := 0, pos := "law.go:37", after := #[], guard := none }) (v := ?_) rfl (by kernel_rfl) (by kernel_rfl) (by kernel_rfl) (fun _ _ _ h => h) (Or.inl ⟨by rfl, ?_⟩) (by assumption) ?_
    rotate_left
    · (intro w hSw; (try dsimp only at hSw); go_simp <;> with_reducible rfl)
    try simp only [Act.put, List.setIfInBounds_toArray, List.set_cons_zero, List.set_cons_succ]
    refine wpAnyH_take (i := 4) (oi := { dst := some 28, op := Op.load 9 (Operand.tmp 27), type := 9, pos := "law.go:37", after := #[{ on := 3, ground := Ground.data }], guard := none }) (v := ?_) rfl (by kernel_rfl) (by kernel_rfl) (by kernel_rfl) (fun _ _ _ h => h) (Or.inl ⟨by rfl, ?_⟩) (by assumption) ?_
    rotate_left
    · (intro w hSw; (try dsimp only at hSw); go_simp <;> with_reducible rfl)
    try simp only [Act.put, List.setIfInBounds_toArray, List.set_cons_zero, List.set_cons_succ]
    refine wpAnyH_take (i := 7) (oi := { dst := some 31, op := Op.move (Operand.tmp 1), type := 27, pos := "law.go:37", after := #[], guard := none }) (v := ?_) rfl (by kernel_rfl) (by kernel_rfl) (by kernel_rfl) (fun _ _ _ h => h) (Or.inl ⟨by rfl, ?_⟩) (by assumption) ?_
    rotate_left
    · (intro w hSw; (try dsimp only at hSw); go_simp <;> with_reducible rfl)
    try simp only [Act.put, List.setIfInBounds_toArray, List.set_cons_zero, List.set_cons_succ]
    refine wpAnyH_take (i := 8) (oi := { dst := some 32, op := Op.fieldAddr 33 (Operand.tmp 5) 1, type := 0, pos := "law.go:37", after := #[], guard := none }) (v := ?_) rfl (by kernel_rfl) (by kernel_rfl) (by kernel_rfl) (fun _ _ _ h => h) (Or.inl ⟨by rfl, ?_⟩) (by assumption) ?_
    rotate_left
    · (intro w hSw; (try dsimp only at hSw); go_simp <;> with_reducible rfl)
    try simp only [Act.put, List.setIfInBounds_toArray, List.set_cons_zero, List.set_cons_succ]
    refine wpAnyH_take (i := 9) (oi := { dst := some 33, op := Op.load 3 (Operand.tmp 32), type := 3, pos := "law.go:37", after := #[{ on := 8, ground := Ground.data }], guard := none }) (v := ?_) rfl (by kernel_rfl) (by kernel_rfl) (by kernel_rfl) (fun _ _ _ h => h) (Or.inl ⟨by rfl, ?_⟩) (by assumption) ?_
    rotate_left
    · (intro w hSw; (try dsimp only at hSw); go_simp <;> with_reducible rfl)
    try simp only [Act.put, List.setIfInBounds_toArray, List.set_cons_zero, List.set_cons_succ]
    refine wpAnyH_take (i := 10) (oi := { dst := some 34, op := Op.fieldAddr 33 (Operand.tmp 5) 4, type := 0, pos := "law.go:37", after := #[], guard := none }) (v := ?_) rfl (by kernel_rfl) (by kernel_rfl) (by kernel_rfl) (fun _ _ _ h => h) (Or.inl ⟨by rfl, ?_⟩) (by assumption) ?_
    rotate_left
    · (intro w hSw; (try dsimp only at hSw); go_simp <;> with_reducible rfl)
    try simp only [Act.put, List.setIfInBounds_toArray, List.set_cons_zero, List.set_cons_succ]
    refine wpAnyH_take (i := 11) (oi := { dst := some 35, op := Op.load 9 (Operand.tmp 34), type := 9, pos := "law.go:37", after := #[{ on := 10, ground := Ground.data }], guard := none }) (v := ?_) rfl (by kernel_rfl) (by kernel_rfl) (by kernel_rfl) (fun _ _ _ h => h) (Or.inl ⟨by rfl, ?_⟩) (by assumption) ?_
    rotate_left
    · (intro w hSw; (try dsimp only at hSw); go_simp <;> with_reducible rfl)
    try simp only [Act.put, List.setIfInBounds_toArray, List.set_cons_zero, List.set_cons_succ]
    refine wpAnyH_ready (rs := [5]) (by kernel_rfl) (by simp) ?_
    refine AllReadyH.cons (o := { dst := some 29, op := Op.convert 9 46 (Operand.tmp 28), type := 46, pos := "law.go:37", after := #[{ on := 4, ground := Ground.data }], guard := none }) rfl (fun K hK => ?_) AllReadyH.nil
    go_simp
    refine hK.out _ _ (HKC.out) (fun hHeld => ?_)
    clear hK K
    try simp only [Act.put, List.setIfInBounds_toArray, List.set_cons_zero, List.set_cons_succ]
    refine wpAnyH_ready (rs := [6]) (by kernel_rfl) (by simp) ?_
    refine AllReadyH.cons (o := { dst := some 30, op := Op.call { callee := Callee.value (Operand.func 18), args := #[Operand.tmp 24, Operand.tmp 26, Operand.tmp 29], argTypes := #[25, 3, 46] }, type := 42, pos := "law.go:37", after := #[{ on := 0, ground := Ground.data }, { on := 2, ground := Ground.data }, { on := 5, ground := Ground.data }], guard := none }) rfl (fun K hK => ?_) AllReadyH.nil
    go_simp
    go_at_call 18
    refine H1.out.mono ?_
    rintro e w1 ⟨rfl, hpp⟩
    refine hK.out _ _ (HKP.out _ hpp) (fun hHeld => ?_)
    clear hK K
    try simp only [Act.put, List.setIfInBounds_toArray, List.set_cons_zero, List.set_cons_succ]
    refine wpAnyH_ready (rs := [12]) (by kernel_rfl) (by simp) ?_
    refine AllReadyH.cons (o := { dst := some 36, op := Op.call { callee := Callee.value (Operand.func 22), args := #[Operand.tmp 31, Operand.tmp 33, Operand.tmp 35], argTypes := #[27, 3, 9] }, type := 42, pos := "law.go:37", after := #[{ on := 7, ground := Ground.data }, { on := 9, ground := Ground.data }, { on := 11, ground := Ground.data }, { on := 6, ground := Ground.chain }], guard := none }) rfl (fun K hK => ?_) AllReadyH.nil
    go_simp
    go_at_call 22
    refine (H2.out w1 (HQ1.out w1 hpp) (Nat.le_trans HSB.out (np_frm hpp).size)).mono ?_
    rintro e w2 ⟨rfl, hrp⟩
    refine hK.out _ _ (HKR.out _ _ hpp hrp) (fun hHeld => ?_)
    clear hK K
    try simp only [Act.put, List.setIfInBounds_toArray, List.set_cons_zero, List.set_cons_succ]
    refine wpAnyH_take (i := 13) (oi := { dst := some 37, op := Op.binOp BinOp.eql 42 (Operand.tmp 30) (Operand.tmp 36) 42, type := 4, pos := "law.go:37", after := #[{ on := 6, ground := Ground.data }, { on := 12, ground := Ground.data }], guard := none }) (v := ?_) rfl (by kernel_rfl) (by kernel_rfl) (by kernel_rfl) (fun _ _ _ h => h) (Or.inl ⟨by rfl, ?_⟩) (by assumption) ?_
    rotate_left
    · (intro w hSw; (try dsimp only at hSw); go_simp <;> with_reducible rfl)
    try simp only [Act.put, List.setIfInBounds_toArray, List.set_cons_zero, List.set_cons_succ]
    refine wpAnyH_take (i := 14) (oi := { dst := some 6, op := Op.assign (Operand.tmp 37), type := 4, pos := "law.go:37", after := #[{ on := 13, ground := Ground.data }, { on := 12, ground := Ground.chain }, { on := 0, ground := Ground.phase }, { on := 1, ground := Ground.phase }, { on := 2, ground := Ground.phase }, { on := 3, ground := Ground.phase }, { on := 4, ground := Ground.phase }, { on := 5, ground := Ground.phase }, { on := 6, ground := Ground.phase }, { on := 7, ground := Ground.phase }, { on := 8, ground := Ground.phase }, { on := 9, ground := Ground.phase }, { on := 10, ground := Ground.phase }, { on := 11, ground := Ground.phase }, { on := 12, ground := Ground.phase }, { on := 13, ground := Ground.phase }], guard := none }) (v := ?_) rfl (by kernel_rfl) (by kernel_rfl) (by kernel_rfl) (fun _ _ _ h => h) (Or.inl ⟨by rfl, ?_⟩) (by assumption) ?_
    rotate_left
    · (intro w hSw; (try dsimp only at hSw); go_simp <;> with_reducible rfl)
    try simp only [Act.put, List.setIfInBounds_toArray, List.set_cons_zero, List.set_cons_succ]
    refine wpAnyH_done (by kernel_rfl) ?_ _
    go_wp2
    go_ret
    exact ⟨rfl, HFIN.out _ _ _ (np_below HBC.out hpp) hrp⟩
  by_cases r1 : r = 1
  · subst r1
    have ht : T = S := HT.out.trans (by simp)
    have h1 := at_any B p v S i w0 HP.out
    have h2 := fun w' (hb : Below w0.heap.size w0 w') => rat_any B q u S i w' (Nt.below HQ.out hb)
    obtain ⟨R, hR⟩ : ∃ R, R = S.at' i := ⟨_, rfl⟩
    rw [← hR] at h1
    simp only [← hR] at h2
    obtain ⟨⟨y, s⟩, e⟩ := R
    unfold pkE pkV at h1 h2
    dsimp only at h1 h2
    have qe := eql_pk y s
    have qg := guard_pk
    have H1 := Lib.hid h1
    have H2 := Lib.hid h2
    have HTT := Lib.hid ht
    clear h1 h2 hR ht
    go_wp2_with fail
    refine H1.out.mono ?_
    rintro e' w1 ⟨rfl, hb1⟩
    have hb1a : Below w0.heap.size w0 (w1.alloc (.cells #[.int .i64 y, .string s] 41)) := hb1.trans (((Below.refl _ _).alloc (Nat.le_refl _) _).mono hb1.size)
    have c2 := (hb1a.cell (p := ⟨w.heap.size, 2, none⟩) HSZ.out).trans b2
    have h3 := H2.out _ hb1a
    have H3 := Lib.hid h3
    have HB1 := Lib.hid hb1a
    obtain ⟨q0, q1⟩ := pk_new w1 y s
    have HQP := Lib.hid (And.intro q0 q1)
    clear hb1 hb1a h3 q0 q1
    go_wp2_with fail
    refine H3.out.mono ?_
    rintro e' w2 ⟨rfl, hb2⟩
    have hb2a : Below (w1.alloc (.cells #[.int .i64 y, .string s] 41)).heap.size (w1.alloc (.cells #[.int .i64 y, .string s] 41)) (w2.alloc (.cells #[.int .i64 y, .string s] 41)) := hb2.trans (((Below.refl _ _).alloc (Nat.le_refl _) _).mono hb2.size)
    have q0 := (hb2a.cell (p := ⟨w1.heap.size, 0, none⟩) (by simp)).trans HQP.out.1
    have q1 := (hb2a.cell (p := ⟨w1.heap.size, 1, none⟩) (by simp)).trans HQP.out.2
    obtain ⟨z0, z1⟩ := pk_new w2 y s
    have HB2 := Lib.hid (HB1.out.trans (hb2a.mono HB1.out.size))
    clear hb2 hb2a
    go_wp2
    go_ret
    exact ⟨rfl, by rw [HTT.out]; exact HSM.out _ HB2.out⟩
  by_cases r2 : r = 2
  · subst r2
    have ht : T = S.take i := HT.out.trans (by simp)
    subst ht
    have h1 := take_any B p v S i w0 N HP.out hok hN
    have h2 := fun w' (hh : RN w' B q u S) => rtake_any B q u S i w' N hh hok hN
    obtain ⟨R, hR⟩ : ∃ R, R = S.at' i := ⟨_, rfl⟩
    rw [← hR] at h1
    simp only [← hR] at h2
    obtain ⟨⟨y, s⟩, e⟩ := R
    unfold pkE pkV at h1 h2
    dsimp only at h1 h2
    have qe := eql_pk y s
    have qg := guard_pk
    have H1 := Lib.hid h1
    have H2 := Lib.hid h2
    clear h1 h2 hR
    go_wp2_with fail
    refine H1.out.mono ?_
    rintro e' w1 ⟨rfl, hnp1⟩
    have hnp1a := np_later hnp1 (show Below w1.heap.size w1 (w1.alloc (.cells #[.int .i64 y, .string s] 41)) from (Below.refl _ _).alloc (Nat.le_refl _) _)
    have hs1 := (np_frm hnp1).size
    have c2 := fr_cell (i := 2) (np_frm hnp1a) b2 (fun e => HNP.out _ e rfl)
    have h3 := H2.out _ (rn_after HQ.out HD.out hnp1a)
    have H3 := Lib.hid h3
    have HNP1 := Lib.hid hnp1a
    obtain ⟨q0, q1⟩ := pk_new w1 y s
    have HQP := Lib.hid (And.intro q0 (And.intro q1 hs1))
    clear hnp1 hnp1a h3 q0 q1 hs1
    go_wp2_with fail
    refine H3.out.mono ?_
    rintro e' w2 ⟨rfl, hnp2⟩
    have hba : Below w2.heap.size w2 (w2.alloc (.cells #[.int .i64 y, .string s] 41)) := (Below.refl _ _).alloc (Nat.le_refl _) _
    have hnp2a := np_later hnp2 hba
    have hnw : ¬ ft q u w1.heap.size := fun e => by have := HLQ.out _ e; have := HQP.out.2.2; omega
    have q0 := fr_cell (i := 0) (np_frm hnp2a) HQP.out.1 hnw
    have q1 := fr_cell (i := 1) (np_frm hnp2a) HQP.out.2.1 hnw
    obtain ⟨z0, z1⟩ := pk_new w2 y s
    have HNP2 := Lib.hid hnp2a
    clear hnp2 hnp2a hba hnw
    go_wp2
    go_ret
    exact ⟨rfl, HFIN.out _ _ _ HNP1.out HNP2.out⟩
  by_cases r3 : r = 3
  · subst r3
    have ht : T = (S.lose i).2 := HT.out.trans (by simp)
    rcases hw : S.lose i with ⟨E, T1⟩
    rw [hw] at ht
    dsimp only at ht
    subst ht
    have hd0 : Below w0.heap.size w0 w0.drew := (Below.refl _ _).drew
    have h1 := lose_any B p v S i w0.drew N (Nt.below HP.out hd0) hok hN
    rw [hw] at h1
    have h2 := fun w' (hh : RN w' B q u S) (hb : B ≤ w'.heap.size) => rlose_any B q u S i w' N hh hok hN
    simp only [hw] at h2
    have hq1 := fun w1 (h : NP 53 pF w0.drew B p v T w1) => rn_after (Nt.below HQ.out hd0) HD.out h
    have hkp : ∀ w1, NP 53 pF w0.drew B p v T w1 → w1.cell? ⟨w.heap.size, 2, none⟩ = some (.int .i64 i) := fun w1 h => fr_cell (i := 2) (np_frm h) b2 (fun e => HNP.out _ e rfl)
    have hkr : ∀ w1 w2, NP 53 pF w0.drew B p v T w1 → NP 30 rF w1 B q u T w2 → w2.cell? ⟨w.heap.size, 2, none⟩ = some (.int .i64 i) := fun w1 w2 h h2 => fr_cell (i := 2) (np_frm h2) (hkp w1 h) (fun e => HNQ.out _ e rfl)
    have H1 := Lib.hid h1
    have H2 := Lib.hid h2
    have HQ1 := Lib.hid hq1
    have HKP := Lib.hid hkp
    have HKR := Lib.hid hkr
    have HW := Lib.hid hw
    have HST := Lib.hid b2
    clear h1 h2 hq1 hkp hkr hw hd0 b0 b1 b4
    go_wp2_with fail
    go_region_held3 (fun w' => w'.cell? ⟨w.heap.size, 2, none⟩ = some (.int .i64 i)) (first | exact HST.out | exact HKP.out _ hpp | exact HKR.out _ _ hpp hrp)
      (first
      | (go_at_call 19; refine H1.out.mono ?_; rintro e w1 ⟨rfl, hpp⟩)
      | (go_at_call 25; refine (H2.out w1 (HQ1.out w1 hpp) (Nat.le_trans hs0 (np_frm hpp).size)).mono ?_; rintro e w2 ⟨rfl, hrp⟩))
    all_goals (
      rename_i hHeld
      clear hHeld
      go_wp2
      go_ret
      exact ⟨rfl, HFIN.out _ _ _ (np_undrew hpp) hrp⟩)
  by_cases r4 : r = 4
  · subst r4
    have ht : T = (S.twice i).2 := HT.out.trans (by simp)
    rcases hw : S.twice i with ⟨E, T1⟩
    rw [hw] at ht
    dsimp only at ht
    subst ht
    have hd0 : Below w0.heap.size w0 w0.drew := (Below.refl _ _).drew
    have h1 := twice_any B p v S i w0.drew N (Nt.below HP.out hd0) hs0 hok hN
    rw [hw] at h1
    have h2 := fun w' (hh : RN w' B q u S) (hb : B ≤ w'.heap.size) => rtwice_any B q u S i w' N hh hb hok hN
    simp only [hw] at h2
    have hq1 := fun w1 (h : NP 53 pF w0.drew B p v T w1) => rn_after (Nt.below HQ.out hd0) HD.out h
    have hkp : ∀ w1, NP 53 pF w0.drew B p v T w1 → w1.cell? ⟨w.heap.size, 2, none⟩ = some (.int .i64 i) := fun w1 h => fr_cell (i := 2) (np_frm h) b2 (fun e => HNP.out _ e rfl)
    have hkr : ∀ w1 w2, NP 53 pF w0.drew B p v T w1 → NP 30 rF w1 B q u T w2 → w2.cell? ⟨w.heap.size, 2, none⟩ = some (.int .i64 i) := fun w1 w2 h h2 => fr_cell (i := 2) (np_frm h2) (hkp w1 h) (fun e => HNQ.out _ e rfl)
    have H1 := Lib.hid h1
    have H2 := Lib.hid h2
    have HQ1 := Lib.hid hq1
    have HKP := Lib.hid hkp
    have HKR := Lib.hid hkr
    have HW := Lib.hid hw
    have HST := Lib.hid b2
    clear h1 h2 hq1 hkp hkr hw hd0 b0 b1 b4
    go_wp2_with fail
    go_region_held3 (fun w' => w'.cell? ⟨w.heap.size, 2, none⟩ = some (.int .i64 i)) (first | exact HST.out | exact HKP.out _ hpp | exact HKR.out _ _ hpp hrp)
      (first
      | (go_at_call 20; refine H1.out.mono ?_; rintro e w1 ⟨rfl, hpp⟩)
      | (go_at_call 26; refine (H2.out w1 (HQ1.out w1 hpp) (Nat.le_trans hs0 (np_frm hpp).size)).mono ?_; rintro e w2 ⟨rfl, hrp⟩))
    all_goals (
      rename_i hHeld
      clear hHeld
      go_wp2
      go_ret
      exact ⟨rfl, HFIN.out _ _ _ (np_undrew hpp) hrp⟩)
  by_cases r5 : r = 5
  · subst r5
    have ht : T = (S.cut i n).2 := HT.out.trans (by simp)
    rcases hw : S.cut i n with ⟨E, T1⟩
    rw [hw] at ht
    dsimp only at ht
    subst ht
    have hd0 : Below w0.heap.size w0 w0.drew := (Below.refl _ _).drew
    have h1 := cut_any B p v S i n w0.drew (Nt.below HP.out hd0) hok.len
    rw [hw] at h1
    have h2 := fun w' (hh : RN w' B q u S) (hb : B ≤ w'.heap.size) => rcut_any B q u S i n w' hh hok.len
    simp only [hw] at h2
    have hq1 := fun w1 (h : NP 53 pF w0.drew B p v T w1) => rn_after (Nt.below HQ.out hd0) HD.out h
    have hkp : ∀ w1, NP 53 pF w0.drew B p v T w1 → w1.cell? ⟨w.heap.size, 2, none⟩ = some (.int .i64 i) ∧ w1.cell? ⟨w.heap.size, 3, none⟩ = some (.int .i64 n) := fun w1 h => ⟨fr_cell (i := 2) (np_frm h) b2 (fun e => HNP.out _ e rfl), fr_cell (i := 3) (np_frm h) b3 (fun e => HNP.out _ e rfl)⟩
    have hkr : ∀ w1 w2, NP 53 pF w0.drew B p v T w1 → NP 30 rF w1 B q u T w2 → w2.cell? ⟨w.heap.size, 2, none⟩ = some (.int .i64 i) ∧ w2.cell? ⟨w.heap.size, 3, none⟩ = some (.int .i64 n) := fun w1 w2 h h2 => ⟨fr_cell (i := 2) (np_frm h2) (hkp w1 h).1 (fun e => HNQ.out _ e rfl), fr_cell (i := 3) (np_frm h2) (hkp w1 h).2 (fun e => HNQ.out _ e rfl)⟩
    have H1 := Lib.hid h1
    have H2 := Lib.hid h2
    have HQ1 := Lib.hid hq1
    have HKP := Lib.hid hkp
    have HKR := Lib.hid hkr
    have HW := Lib.hid hw
    have HST := Lib.hid (And.intro b2 b3)
    clear h1 h2 hq1 hkp hkr hw hd0 b0 b1 b4
    go_wp2_with fail
    go_region_held3 (fun w' => w'.cell? ⟨w.heap.size, 2, none⟩ = some (.int .i64 i) ∧ w'.cell? ⟨w.heap.size, 3, none⟩ = some (.int .i64 n)) (first | exact HST.out | exact HKP.out _ hpp | exact HKR.out _ _ hpp hrp)
      (first
      | (go_at_call 21; refine H1.out.mono ?_; rintro e w1 ⟨rfl, hpp⟩)
      | (go_at_call 27; refine (H2.out w1 (HQ1.out w1 hpp) (Nat.le_trans hs0 (np_frm hpp).size)).mono ?_; rintro e w2 ⟨rfl, hrp⟩))
    all_goals (
      rename_i hHeld
      clear hHeld
      go_wp2
      go_ret
      exact ⟨rfl, HFIN.out _ _ _ (np_undrew hpp) hrp⟩)
  have ht : T = S.drop := HT.out.trans (by simp [r0, r1, r2, r3, r4, r5])
  subst ht
  have t0 : (r == 0) = false := by simpa using r0
  have t1 : (r == 1) = false := by simpa using r1
  have t2 : (r == 2) = false := by simpa using r2
  have t3 : (r == 3) = false := by simpa using r3
  have t4 : (r == 4) = false := by simpa using r4
  have t5 : (r == 5) = false := by simpa using r5
  have h1 := drop_any B p v S w0 N HP.out hok hN
  have h2 := fun w' (hh : RN w' B q u S) => rdrop_any B q u S w' N hh hok hN
  have H1 := Lib.hid h1
  have H2 := Lib.hid h2
  clear h1 h2
  go_wp2_with fail
  refine H1.out.mono ?_
  rintro e w1 ⟨rfl, hnp1⟩
  have h3 := H2.out w1 (rn_after HQ.out HD.out hnp1)
  have H3 := Lib.hid h3
  have HN1 := Lib.hid hnp1
  clear h3 hnp1
  go_wp2_with fail
  refine H3.out.mono ?_
  rintro e w2 ⟨rfl, hnp2⟩
  have HN2 := Lib.hid hnp2
  clear hnp2
  go_wp2
  go_ret
  exact ⟨rfl, HFIN.out _ _ _ HN1.out HN2.out⟩
end Go.Proofs.Ythbfeflijlcboaa


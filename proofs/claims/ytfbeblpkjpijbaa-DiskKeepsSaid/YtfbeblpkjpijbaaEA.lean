/-
  An act to both disks (do).
-/
import Derived.Test.YtfbeblpkjpijbaaE9
namespace Go.Proofs.Ytfbeblpkjpijbaa
open Go.RowKit
set_option linter.unusedVariables false
set_option linter.unusedSimpArgs false

/-- Both disks, in the same state; A: the blocks that are theirs. -/
def Two (w : World) (B p q : Nat) (A : Nat → Prop) (S : DS) : Prop :=
  ∃ v1 v2 u1 u2, PD w B p v1 v2 S ∧ RD w B q u1 u2 S ∧ (∀ k, foot p v1 v2 k → ¬ foot q u1 u2 k) ∧ ∀ k, A k ↔ foot p v1 v2 k ∨ foot q u1 u2 k

theorem Two.low {w B p q A S} (h : Two w B p q A S) : ∀ k, A k → B ≤ k ∧ k < w.heap.size := by
  obtain ⟨v1, v2, u1, u2, hp, hq, hd, hA⟩ := h
  intro k hk
  rcases (hA k).1 hk with h | h
  · exact hp.foot_low k h
  · exact hq.foot_low k h

theorem Two.kept {w w' : World} {B p q A S} (h : Two w B p q A S) (hk : ∀ k, A k → w'.heap[k]? = w.heap[k]?) : Two w' B p q A S := by
  obtain ⟨v1, v2, u1, u2, hp, hq, hd, hA⟩ := h
  exact ⟨v1, v2, u1, u2, hp.kept fun k h => hk k ((hA k).2 (.inl h)), hq.kept fun k h => hk k ((hA k).2 (.inr h)), hd, hA⟩
theorem Two.fr {w w' : World} {A' : Nat → Prop} {B p q A S} (h : Two w B p q A S) (hf : Fr A' w w') (hd : ∀ k, A k → ¬ A' k) : Two w' B p q A S := h.kept fun k hk => hf.block k (h.low k hk).2 (hd k hk)
theorem Two.below {w w' : World} {B p q A S} (h : Two w B p q A S) (hb : Below w.heap.size w w') : Two w' B p q A S := h.kept fun k hk => hb.block k (h.low k hk).2

/-- What an act leaves of both. -/
def TP (w : World) (B p q : Nat) (A : Nat → Prop) (S : DS) (w' : World) : Prop := ∃ A', Two w' B p q A' S ∧ Fr A w w' ∧ ∀ k, A' k → A k ∨ w.heap.size ≤ k

theorem TP.same {w w' : World} {B p q A S} (h : Two w B p q A S) (hb : Below w.heap.size w w') : TP w B p q A S w' := ⟨A, h.below hb, Fr.of_below hb, fun k hk => .inl hk⟩

/-- Behind the program's act the document's own disk is as it was. -/
theorem rd_after {w w1 : World} {B p q : Nat} {v1 v2 u1 u2 : Value} {S S' : DS} (hq : RD w B q u1 u2 S) (hd : ∀ k, foot p v1 v2 k → ¬ foot q u1 u2 k) (h : PP w B p v1 v2 S' w1) : RD w1 B q u1 u2 S := by
  obtain ⟨v1', v2', hp', hf, ht⟩ := h
  exact hq.fr hf fun k hk hk2 => hd k hk2 hk

theorem two_after {w w1 w2 : World} {B p q : Nat} {A : Nat → Prop} {v1 v2 u1 u2 : Value} {S S' : DS} (hq : RD w B q u1 u2 S) (hp : PD w B p v1 v2 S) (hd : ∀ k, foot p v1 v2 k → ¬ foot q u1 u2 k) (hA : ∀ k, A k ↔ foot p v1 v2 k ∨ foot q u1 u2 k)
    (h1 : PP w B p v1 v2 S' w1) (h2 : RP w1 B q u1 u2 S' w2) : TP w B p q A S' w2 := by
  obtain ⟨v1', v2', hp', hf, ht⟩ := h1
  obtain ⟨u1', u2', hq', hf2, ht2⟩ := h2
  have hd1 : ∀ k, foot p v1' v2' k → ¬ foot q u1 u2 k := fun k hk hk2 => by
    rcases ht k hk with h | h
    · exact hd k h hk2
    · have := (hq.foot_low k hk2).2; omega
  refine ⟨fun k => foot p v1' v2' k ∨ foot q u1' u2' k, ⟨v1', v2', u1', u2', hp'.fr hf2 hd1, hq', fun k hk hk2 => ?_, fun k => Iff.rfl⟩, ?_, ?_⟩
  · rcases ht2 k hk2 with h | h
    · exact hd1 k hk h
    · have := (hp'.foot_low k hk).2; omega
  · exact (hf.mono fun k hk => (hA k).2 (.inl hk)).trans hf2 fun k hk => .inl ((hA k).2 (.inr hk))
  · rintro k (hk | hk)
    · rcases ht k hk with h | h
      · exact .inl ((hA k).2 (.inl h))
      · exact .inr h
    · rcases ht2 k hk with h | h
      · exact .inl ((hA k).2 (.inr h))
      · have := hf.size; exact .inr (by omega)

theorem fr_cell {A : Nat → Prop} {w w' : World} (hf : Fr A w w') {b i : Nat} {u : Value} (hc : w.cell? ⟨b, i, none⟩ = some u) (hn : ¬ A b) : w'.cell? ⟨b, i, none⟩ = some u := by
  rw [World.cell?_of_block (w := w) (hf.block b (World.block_lt_of_cell? w _ hc) hn)]; exact hc

/-- An act: what is done, where, with which text, and what is kept. -/
structure AK where
  kind : Int
  at' : Int
  data : ByteArray
  ka : Option Addr
  kn : Nat
  kc : Nat
  K : List Bool

def AK.val (x : AK) : Value := .agg #[.int .i64 x.kind, .int .i64 x.at', .string x.data, .slice x.ka x.kn x.kc]

def DS.act (S : DS) (x : AK) : DS :=
  if x.kind.tmod 7 = 1 then (S.write x.at' x.data).2 else if x.kind.tmod 7 = 2 then S.flush.2 else if x.kind.tmod 7 = 3 then S.fuse x.at' else if x.kind.tmod 7 = 4 then S.crash x.K else if x.kind.tmod 7 = 5 then S.up.2 else S

theorem DS.ok.act {S : DS} {N : Nat} (h : S.ok N) (x : AK) (hx : x.at' ≤ 9223372036854775807) : (S.act x).ok (N + 1) := by
  unfold DS.act
  split
  · exact h.write _ _
  · split
    · exact h.flush
    · split
      · exact (h.fuse _ hx).mono (by omega)
      · split
        · exact (h.crash _).mono (by omega)
        · split
          · exact h.up.mono (by omega)
          · exact h.mono (by omega)

theorem pp_undrew {w w' : World} {B p : Nat} {v1 v2 : Value} {S : DS} (h : PP w.drew B p v1 v2 S w') : PP w B p v1 v2 S w' := by
  obtain ⟨a, b, c, d, e⟩ := h
  exact ⟨a, b, c, ⟨d.os, d.tape, d.output, d.size, d.block⟩, e⟩
theorem pp_fr {w w' : World} {B p : Nat} {v1 v2 : Value} {S : DS} (h : PP w B p v1 v2 S w') : Fr (foot p v1 v2) w w' := by
  obtain ⟨a, b, c, d, e⟩ := h
  exact d

set_option maxRecDepth 20000 in
set_option maxHeartbeats 4000000 in
theorem do_any (B p q : Nat) (A : Nat → Prop) (S : DS) (x : AK) (w : World) (h : Two w B p q A S) (hB : B ≤ w.heap.size) (N : Nat) (hok : S.ok N) (hN : N ≤ 1000000) (hK : Bl w x.ka x.kn x.K) (hKl : ∀ b off, x.ka = some ⟨b, off, none⟩ → 0 < x.kn → ¬ A b) :
    Calls Try.prog 11 #[.pointer (some ⟨p, 0, none⟩), .pointer (some ⟨q, 0, none⟩), x.val] w fun e w' => e = .returned (.bool true) ∧ TP w B p q A (S.act x) w' := by
  have hW : S.W.length ≤ 1000000 := by have := hok.few; have := hok.did; omega
  have hL : S.L.length ≤ 1200 := hok.len
  obtain ⟨v1, v2, u1, u2, hp, hq, hd, hA⟩ := h
  obtain ⟨kind, at', data, ka, kn, kc, K⟩ := x
  have hact : ∀ T, DS.act S ⟨kind, at', data, ka, kn, kc, K⟩ = T → DS.act S ⟨kind, at', data, ka, kn, kc, K⟩ = T := fun _ h => h
  obtain ⟨r, hr⟩ : ∃ r, r = kind.tmod 7 := ⟨_, rfl⟩
  have hS : DS.act S ⟨kind, at', data, ka, kn, kc, K⟩ = if r = 1 then (S.write at' data).2 else if r = 2 then S.flush.2 else if r = 3 then S.fuse at' else if r = 4 then S.crash K else if r = 5 then S.up.2 else S := by rw [hr]; rfl
  obtain ⟨T, hT⟩ : ∃ T, T = if r = 1 then (S.write at' data).2 else if r = 2 then S.flush.2 else if r = 3 then S.fuse at' else if r = 4 then S.crash K else if r = 5 then S.up.2 else S := ⟨_, rfl⟩
  rw [hS, ← hT]
  have HT := Lib.hid hT
  clear hT
  unfold AK.val
  dsimp only at hK hKl ⊢
  obtain ⟨C, hC⟩ : ∃ C : Array Value, C = #[.int .i64 kind, .int .i64 at', .string data, .slice ka kn kc] := ⟨_, rfl⟩
  have hal : Below w.heap.size w (w.alloc (.cells #[.int .i64 kind, .int .i64 at', .string data, .slice ka kn kc] 35)) := (Below.refl _ _).alloc (Nat.le_refl _) _
  have hnew := heap_alloc_new w (.cells #[.int .i64 kind, .int .i64 at', .string data, .slice ka kn kc] 35)
  obtain ⟨w0, hw0⟩ : ∃ w0, w0 = w.alloc (.cells #[.int .i64 kind, .int .i64 at', .string data, .slice ka kn kc] 35) := ⟨_, rfl⟩
  rw [← hw0] at hal hnew
  have b0 : w0.cell? ⟨w.heap.size, 0, none⟩ = some (.int .i64 kind) := by rw [cell_of_blk hnew]; rfl
  have b1 : w0.cell? ⟨w.heap.size, 1, none⟩ = some (.int .i64 at') := by rw [cell_of_blk hnew]; rfl
  have b2 : w0.cell? ⟨w.heap.size, 2, none⟩ = some (.string data) := by rw [cell_of_blk hnew]; rfl
  have b3 : w0.cell? ⟨w.heap.size, 3, none⟩ = some (.slice ka kn kc) := by rw [cell_of_blk hnew]; rfl
  have hp0 := hp.below hal
  have hq0 := hq.below hal
  have hs0 : B ≤ w0.heap.size := Nat.le_trans hB hal.size
  have hnp : ∀ k, foot p v1 v2 k → k ≠ w.heap.size := fun k hk e => by have := (hp.foot_low k hk).2; omega
  have hnq : ∀ k, foot q u1 u2 k → k ≠ w.heap.size := fun k hk e => by have := (hq.foot_low k hk).2; omega
  have hfin : ∀ S' w1 w2, PP w0 B p v1 v2 S' w1 → RP w1 B q u1 u2 S' w2 → TP w B p q A S' w2 := fun S' w1 w2 h1 h2 => by
    obtain ⟨A', hT, hF, hl⟩ := two_after hq0 hp0 hd hA h1 h2
    exact ⟨A', hT, ⟨hF.os.trans hal.os, hF.tape.trans hal.tape, hF.output.trans hal.output, Nat.le_trans hal.size hF.size, fun k hk hn => (hF.block k (Nat.lt_of_lt_of_le hk hal.size) hn).trans (hal.block k hk)⟩, fun k hk => by
      rcases hl k hk with h | h
      · exact .inl h
      · have := hal.size; exact .inr (by omega)⟩
  have HFIN := Lib.hid hfin
  have HP := Lib.hid hp0
  have HQ := Lib.hid hq0
  have HD := Lib.hid hd
  have HNP := Lib.hid hnp
  have HNQ := Lib.hid hnq
  have hsame : ∀ w', Below w0.heap.size w0 w' → TP w B p q A S w' := fun w' hb => TP.same ⟨v1, v2, u1, u2, hp, hq, hd, hA⟩ (hal.trans (hb.mono hal.size))
  have HSM := Lib.hid hsame
  have HK := Lib.hid (hK.below hal)
  have HKL := Lib.hid (fun b off e h0 hf => hKl b off e h0 ((hA b).2 hf))
  have HRR := Lib.hid hr
  clear hp hq hp0 hq0 hfin hsame hnew hal hact hS hK hKl hnp hnq hC
  go_enter Try.func11, Try.ntmps11
  go_upto_region 5 with fail
  rw [← hw0, ← HRR.out]
  clear hw0
  by_cases r0 : r = 0
  · subst r0
    have ht : T = S := HT.out.trans (by simp)
    obtain ⟨R, hR⟩ : ∃ R, R = S.read at' := ⟨_, rfl⟩
    have h1 := read_any B p v1 v2 S at' w0 HP.out hW (by omega)
    have h2 := fun w' (hb : Below w0.heap.size w0 w') => rread_any B q u1 u2 S at' w' (HQ.out.below hb) hW (by omega)
    rw [← hR] at h1
    simp only [← hR] at h2
    obtain ⟨R1, R2⟩ := R
    unfold two at h1 h2
    have H1 := Lib.hid h1
    have H2 := Lib.hid h2
    have HTT := Lib.hid ht
    clear h1 h2 hR ht
    go_wp2_with fail
    refine H1.out.mono ?_
    rintro e w1 ⟨rfl, hb1⟩
    have c1 : w1.cell? ⟨w.heap.size, 1, none⟩ = some (.int .i64 at') := by rw [World.cell?_of_block (w := w0) (hb1.block _ (World.block_lt_of_cell? w0 _ b1))]; exact b1
    have HB1 := Lib.hid hb1
    have h3 := H2.out w1 hb1
    have H3 := Lib.hid h3
    clear hb1 h3
    go_wp2_with fail
    refine H3.out.mono ?_
    rintro e w2 ⟨rfl, hw2⟩; obtain rfl := hw2.symm; clear hw2
    go_wp2
    go_ret
    exact ⟨rfl, by rw [HTT.out]; exact HSM.out _ HB1.out⟩
  by_cases r1 : r = 1
  · subst r1
    have ht : T = (S.write at' data).2 := HT.out.trans (by simp)
    rcases hw : S.write at' data with ⟨E, T1⟩
    rw [hw] at ht
    dsimp only at ht
    subst ht
    have hd0 : Below w0.heap.size w0 w0.drew := (Below.refl _ _).drew
    have h1 := write_any B p v1 v2 S at' data w0.drew (HP.out.below hd0) hs0 N hok hN
    rw [hw] at h1
    have h2 := fun w' (hh : RD w' B q u1 u2 S) (hb : B ≤ w'.heap.size) => rwrite_any B q u1 u2 S at' data w' hh hb N hok hN
    simp only [hw] at h2
    have hq1 := fun w1 (h : PP w0.drew B p v1 v2 T w1) => rd_after (HQ.out.below hd0) HD.out h
    have hkp : ∀ w1, PP w0.drew B p v1 v2 T w1 → w1.cell? ⟨w.heap.size, 1, none⟩ = some (.int .i64 at') ∧ w1.cell? ⟨w.heap.size, 2, none⟩ = some (.string data) := fun w1 h => ⟨fr_cell (i := 1) (pp_fr h) b1 (fun e => HNP.out _ e rfl), fr_cell (i := 2) (pp_fr h) b2 (fun e => HNP.out _ e rfl)⟩
    have hkr : ∀ w1 w2, PP w0.drew B p v1 v2 T w1 → RP w1 B q u1 u2 T w2 → w2.cell? ⟨w.heap.size, 1, none⟩ = some (.int .i64 at') ∧ w2.cell? ⟨w.heap.size, 2, none⟩ = some (.string data) := fun w1 w2 h h2 => by
      obtain ⟨_, _, _, hf, _⟩ := h2
      exact ⟨fr_cell (i := 1) hf (hkp w1 h).1 (fun e => HNQ.out _ e rfl), fr_cell (i := 2) hf (hkp w1 h).2 (fun e => HNQ.out _ e rfl)⟩
    have H1 := Lib.hid h1
    have H2 := Lib.hid h2
    have HQ1 := Lib.hid hq1
    have HKP := Lib.hid hkp
    have HKR := Lib.hid hkr
    have HW := Lib.hid hw
    have HST := Lib.hid (And.intro b1 b2)
    clear h1 h2 hq1 hkp hkr hw hd0 b0 b3
    go_wp2_with fail
    go_region_held3 (fun w' => w'.cell? ⟨w.heap.size, 1, none⟩ = some (.int .i64 at') ∧ w'.cell? ⟨w.heap.size, 2, none⟩ = some (.string data)) (first | exact HST.out | exact HKP.out _ hpp | exact HKR.out _ _ hpp hrp)
      (first
      | (go_at_call 22; refine H1.out.mono ?_; rintro e w1 ⟨rfl, hpp⟩)
      | (go_at_call 31; refine (H2.out w1 (HQ1.out w1 hpp) (Nat.le_trans hs0 (pp_fr hpp).size)).mono ?_; rintro e w2 ⟨rfl, hrp⟩))
    all_goals (
      rename_i hHeld
      clear hHeld
      go_wp2
      go_ret
      exact ⟨rfl, HFIN.out _ _ _ (pp_undrew hpp) hrp⟩)
  by_cases r2 : r = 2
  · subst r2
    have ht : T = S.flush.2 := HT.out.trans (by simp)
    rcases hw : S.flush with ⟨E, T1⟩
    rw [hw] at ht
    dsimp only at ht
    subst ht
    have h1 := flush_any B p v1 v2 S w0 HP.out hs0 N hok hN
    rw [hw] at h1
    have h2 := fun w' (hh : RD w' B q u1 u2 S) (hb : B ≤ w'.heap.size) => rflush_any B q u1 u2 S w' hh hb N hok hN
    simp only [hw] at h2
    have H1 := Lib.hid h1
    have H2 := Lib.hid h2
    have HW := Lib.hid hw
    clear h1 h2 hw
    go_wp2_with fail
    refine H1.out.mono ?_
    rintro e w1 ⟨rfl, hpp⟩
    have h3 := H2.out w1 (rd_after HQ.out HD.out hpp) (Nat.le_trans hs0 (pp_fr hpp).size)
    have H3 := Lib.hid h3
    have HPP := Lib.hid hpp
    clear h3 hpp
    go_wp2_with fail
    refine H3.out.mono ?_
    rintro e w2 ⟨rfl, hrp⟩
    have HRP := Lib.hid hrp
    clear hrp
    go_wp2
    go_ret
    exact ⟨rfl, HFIN.out _ _ _ HPP.out HRP.out⟩
  by_cases r3 : r = 3
  · subst r3
    have ht : T = S.fuse at' := HT.out.trans (by simp)
    subst ht
    have h1 := fuse_any B p v1 v2 S at' w0 HP.out
    have H1 := Lib.hid h1
    clear h1
    go_wp2_with fail
    refine H1.out.mono ?_
    rintro e w1 ⟨rfl, hpp⟩
    have c1 := fr_cell (i := 1) (pp_fr hpp) b1 (fun e => HNP.out _ e rfl)
    have h3 := rfuse_any B q u1 u2 S at' w1 (rd_after HQ.out HD.out hpp)
    have H3 := Lib.hid h3
    have HPP := Lib.hid hpp
    clear h3 hpp
    go_wp2_with fail
    refine H3.out.mono ?_
    rintro e w2 ⟨rfl, hrp⟩
    have HRP := Lib.hid hrp
    clear hrp
    go_wp2
    go_ret
    exact ⟨rfl, HFIN.out _ _ _ HPP.out HRP.out⟩
  by_cases r4 : r = 4
  · subst r4
    have ht : T = S.crash K := HT.out.trans (by simp)
    subst ht
    have h1 := crash_any B p v1 v2 S ka kn kc K w0 HP.out hs0 N hok hN HK.out (fun b off e h0 hf => HKL.out b off e h0 (.inl hf))
    have H1 := Lib.hid h1
    clear h1
    go_wp2_with fail
    refine H1.out.mono ?_
    rintro e w1 ⟨rfl, hpp⟩
    have c3 := fr_cell (i := 3) (pp_fr hpp) b3 (fun e => HNP.out _ e rfl)
    have h3 := rcrash_any B q u1 u2 S ka kn kc K w1 (rd_after HQ.out HD.out hpp) (Nat.le_trans hs0 (pp_fr hpp).size) N hok hN (HK.out.fr (pp_fr hpp) (fun b off e h0 hf => HKL.out b off e h0 (.inl hf))) (fun b off e h0 hf => HKL.out b off e h0 (.inr hf))
    have H3 := Lib.hid h3
    have HPP := Lib.hid hpp
    clear h3 hpp
    go_wp2_with fail
    refine H3.out.mono ?_
    rintro e w2 ⟨rfl, hrp⟩
    have HRP := Lib.hid hrp
    clear hrp
    go_wp2
    go_ret
    exact ⟨rfl, HFIN.out _ _ _ HPP.out HRP.out⟩
  by_cases r5 : r = 5
  · subst r5
    have ht : T = S.up.2 := HT.out.trans (by simp)
    rcases hw : S.up with ⟨E, T1⟩
    rw [hw] at ht
    dsimp only at ht
    subst ht
    have h1 := up_any B p v1 v2 S w0 HP.out
    rw [hw] at h1
    have h2 := fun w' (hh : RD w' B q u1 u2 S) => rup_any B q u1 u2 S w' hh
    simp only [hw] at h2
    have H1 := Lib.hid h1
    have H2 := Lib.hid h2
    have HW := Lib.hid hw
    clear h1 h2 hw
    go_wp2_with fail
    refine H1.out.mono ?_
    rintro e w1 ⟨rfl, hpp⟩
    have h3 := H2.out w1 (rd_after HQ.out HD.out hpp)
    have H3 := Lib.hid h3
    have HPP := Lib.hid hpp
    clear h3 hpp
    go_wp2_with fail
    refine H3.out.mono ?_
    rintro e w2 ⟨rfl, hrp⟩
    have HRP := Lib.hid hrp
    clear hrp
    go_wp2
    go_ret
    exact ⟨rfl, HFIN.out _ _ _ HPP.out HRP.out⟩
  have ht : T = S := HT.out.trans (by simp [r1, r2, r3, r4, r5])
  subst ht
  have t0 : (r == 0) = false := by simpa using r0
  have t1 : (r == 1) = false := by simpa using r1
  have t2 : (r == 2) = false := by simpa using r2
  have t3 : (r == 3) = false := by simpa using r3
  have t4 : (r == 4) = false := by simpa using r4
  have t5 : (r == 5) = false := by simpa using r5
  obtain ⟨R, hR⟩ : ∃ R, R = T.kept at' := ⟨_, rfl⟩
  have h1 := kept_any B p v1 v2 T at' w0 HP.out (by omega)
  have h2 := rkept_any B q u1 u2 T at' w0 HQ.out (by omega)
  rw [← hR] at h1 h2
  obtain ⟨R1, R2⟩ := R
  unfold two at h1 h2
  have H1 := Lib.hid h1
  have H2 := Lib.hid h2
  clear h1 h2 hR
  go_wp2_with fail
  refine H1.out.mono ?_
  rintro e w1 ⟨rfl, hw1⟩; obtain rfl := hw1.symm; clear hw1
  go_wp2_with fail
  refine H2.out.mono ?_
  rintro e w1 ⟨rfl, hw1⟩; obtain rfl := hw1.symm; clear hw1
  go_wp2
  go_ret
  exact ⟨rfl, HSM.out _ (Below.refl _ _)⟩

end Go.Proofs.Ytfbeblpkjpijbaa

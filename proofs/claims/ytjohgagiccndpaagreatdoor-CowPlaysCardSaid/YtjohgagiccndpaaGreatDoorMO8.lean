/-
  Texts put together: O7, O8.
-/
import Derived.Test.YtjohgagiccndpaaGreatDoorMEA
import Derived.Test.YtjohgagiccndpaaGreatDoorMP5
import Derived.Test.YtjohgagiccndpaaGreatDoorMO5
import Derived.Test.YtjohgagiccndpaaGreatDoorMO3
import Derived.Test.YtjohgagiccndpaaGreatDoorMPJ
import Derived.Test.YtjohgagiccndpaaGreatDoorMPF
/-
  Every sector of a disk, and every one that waits, is of 64 bytes; lengths.
-/
namespace Go.Proofs.YtjohgagiccndpaaGreatDoor
open Go.RowKit
set_option linter.unusedVariables false
set_option linter.unusedSimpArgs false

theorem tp_join {w w1 w2 : World} {B p q : Nat} {A A' : Nat → Prop} {S2 : DS} (h : Fr A w w1 ∧ ∀ k, A' k → A k ∨ w.heap.size ≤ k) (k : TP w1 B p q A' S2 w2) : TP w B p q A S2 w2 := by
  obtain ⟨hF, hl⟩ := h
  obtain ⟨A2, hT2, hF2, hl2⟩ := k
  exact ⟨A2, hT2, hF.trans hF2 (fun i hi => hl i hi), fun i hi => (hl2 i hi).elim (hl i) (fun h => .inr (Nat.le_trans hF.size h))⟩

/-- All sectors are whole ones. -/
structure DS.sz (S : DS) : Prop where
  l : ∀ x ∈ S.L, x.size = 64
  w : ∀ x ∈ S.W, x.2.size = 64

theorem wsz {W : List (Int × ByteArray)} (h : ∀ x ∈ W, x.2.size = 64) (i : Nat) (hi : i < W.length) : (wAt W i).2.size = 64 := by
  unfold wAt; rw [List.getElem?_eq_getElem hi]; exact h _ (List.getElem_mem hi)
theorem set_sz {L : List ByteArray} {x : ByteArray} (h : ∀ y ∈ L, y.size = 64) (hx : x.size = 64) (i : Nat) : ∀ y ∈ L.set i x, y.size = 64 := fun y hy => by
  rcases List.mem_or_eq_of_mem_set hy with e | e
  · exact h y e
  · rw [e]; exact hx
theorem appK_sz {L : List ByteArray} {W : List (Int × ByteArray)} (K : List Bool) (h : ∀ x ∈ L, x.size = 64) (hw : ∀ x ∈ W, x.2.size = 64) : ∀ i, i ≤ W.length → ∀ x ∈ appK L W K i, x.size = 64
  | 0, _ => h
  | i + 1, hi => by
    have ih := appK_sz K h hw i (by omega)
    unfold appK
    split
    · exact set_sz ih (wsz hw i (by omega)) _
    · exact ih
theorem appW_sz {L : List ByteArray} {W : List (Int × ByteArray)} (h : ∀ x ∈ L, x.size = 64) (hw : ∀ x ∈ W, x.2.size = 64) : ∀ i, i ≤ W.length → ∀ x ∈ appW L W i, x.size = 64
  | 0, _ => h
  | i + 1, hi => set_sz (appW_sz h hw i (by omega)) (wsz hw i (by omega)) _
theorem look_sz {W : List (Int × ByteArray)} {d : ByteArray} (at' : Int) (hw : ∀ x ∈ W, x.2.size = 64) (hd : d.size = 64) : ∀ i, i ≤ W.length → (look W at' d i).size = 64
  | 0, _ => hd
  | i + 1, hi => by
    unfold look
    split
    · exact wsz hw i (by omega)
    · exact look_sz at' hw hd i (by omega)
theorem burnt_sz {S : DS} (h : S.sz) : S.burnt.sz := by
  unfold DS.burnt; split <;> exact ⟨h.l, h.w⟩
theorem burnt_Le (S : DS) : S.burnt.L = S.L := by unfold DS.burnt; split <;> rfl
theorem DS.sz.write {S : DS} (h : S.sz) (at' : Int) (d : ByteArray) : (S.write at' d).2.sz := by
  unfold DS.write
  split
  · exact h
  · split
    · split
      · rename_i h64
        split
        · exact burnt_sz h
        · exact ⟨(burnt_sz h).l, fun x hx => by
            rcases List.mem_append.1 hx with e | e
            · exact h.w x e
            · rw [List.mem_singleton.1 e]; exact h64⟩
      · exact h
    · exact h
theorem DS.sz.flush {S : DS} (h : S.sz) : S.flush.2.sz := by
  unfold DS.flush
  split
  · exact h
  · split
    · exact burnt_sz h
    · exact ⟨appW_sz h.l h.w _ (Nat.le_refl _), fun x hx => by cases hx⟩
theorem DS.sz.fuse {S : DS} (h : S.sz) (n : Int) : (S.fuse n).sz := ⟨h.l, h.w⟩
theorem DS.sz.crash {S : DS} (h : S.sz) (K : List Bool) : (S.crash K).sz := ⟨appK_sz K h.l h.w _ (Nat.le_refl _), fun x hx => by cases hx⟩
theorem DS.sz.up {S : DS} (h : S.sz) : S.up.2.sz := by
  unfold DS.up
  split
  · exact ⟨h.l, fun x hx => by cases hx⟩
  · exact h
theorem DS.sz.store {S : DS} (h : S.sz) (at' : Int) (d : ByteArray) : (storeP S at' d).2.sz := by
  unfold storeP
  split
  · exact h.write _ _
  · exact (h.write _ _).flush
theorem DS.sz.clear {S : DS} (h : S.sz) (N F C U : Int) : (clearP N F C U S).2.sz := by
  unfold clearP
  split
  · exact h.store _ _
  · exact h
theorem DS.sz.app {S : DS} (h : S.sz) (N F C U k : Int) (tag epoch : Nat) (place : Int) : (appP N F C U S k tag epoch place).ds.sz := by
  unfold appP
  split
  · exact h
  · split
    · exact h
    · split
      · exact h
      · split
        · exact h
        · split
          · exact h.store _ _
          · split
            · exact (h.store _ _).store _ _
            · exact (h.store _ _).store _ _
theorem DS.sz.read {S : DS} (h : S.sz) (x : Int) : (S.read x).1.size ≤ 140737488355328 := by
  unfold DS.read
  split
  · exact Nat.zero_le _
  · split
    · rename_i hh
      have h64 : (lAt S.L x.toNat).size = 64 := by
        unfold lAt
        obtain ⟨h1, h2⟩ := hh
        rw [List.getElem?_eq_getElem (by omega)]
        exact h.l _ (List.getElem_mem _)
      have := look_sz x h.w h64 S.W.length (Nat.le_refl _)
      dsimp only
      omega
    · exact Nat.zero_le _
theorem ds0_sz (n : Nat) : (ds0 n).sz := ⟨fun x hx => by rw [List.eq_of_mem_replicate hx]; rfl, fun x hx => by cases hx⟩

theorem write_len' (S : DS) (at' : Int) (d : ByteArray) : (S.write at' d).2.L.length = S.L.length := by
  unfold DS.write
  split
  · rfl
  · split
    · split
      · split
        · show S.burnt.L.length = _; rw [burnt_Le]
        · show S.burnt.L.length = _; rw [burnt_Le]
      · rfl
    · rfl
theorem flush_len' (S : DS) : S.flush.2.L.length = S.L.length := by
  unfold DS.flush
  split
  · rfl
  · split
    · show S.burnt.L.length = _; rw [burnt_Le]
    · exact appW_length _ _ _
theorem store_len' (S : DS) (at' : Int) (d : ByteArray) : (storeP S at' d).2.L.length = S.L.length := by
  unfold storeP
  split
  · exact write_len' _ _ _
  · rw [flush_len', write_len']
theorem clear_len' (N F C U : Int) (S : DS) : (clearP N F C U S).2.L.length = S.L.length := by
  unfold clearP
  split
  · exact store_len' _ _ _
  · rfl
theorem app_len' (N F C U : Int) (S : DS) (k : Int) (tag epoch : Nat) (place : Int) : (appP N F C U S k tag epoch place).ds.L.length = S.L.length := by
  unfold appP
  split
  · rfl
  · split
    · rfl
    · split
      · rfl
      · split
        · rfl
        · split
          · exact store_len' _ _ _
          · split
            · exact (store_len' _ _ _).trans (store_len' _ _ _)
            · exact (store_len' _ _ _).trans (store_len' _ _ _)
theorem up_len' (S : DS) : S.up.2.L.length = S.L.length := by
  unfold DS.up
  split <;> rfl
end Go.Proofs.YtjohgagiccndpaaGreatDoor
/-
  An act of law15's plays to both disks (do).
-/
namespace Go.Proofs.YtjohgagiccndpaaGreatDoor
open Go.RowKit
set_option linter.unusedVariables false
set_option linter.unusedSimpArgs false

/-- An act. -/
structure UK where
  kind : Int
  k : Int
  tag : Nat
  epoch : Nat
  place : Int
  data : ByteArray
  ka : Option Addr
  kn : Nat
  kc : Nat
  K : List Bool

def UK.val (x : UK) : Value := .agg #[.int .i64 x.kind, .int .i64 x.k, .int .u64 (x.tag : Int), .int .u64 (x.epoch : Int), .int .i64 x.place, .string x.data, .slice x.ka x.kn x.kc]

def DS.uact (S : DS) (N F C U : Int) (x : UK) : DS := if x.kind.tmod 6 = 0 then (appP N F C U S x.k x.tag x.epoch x.place).ds else if x.kind.tmod 6 = 1 then S else if x.kind.tmod 6 = 2 then (clearP N F C U S).2 else if x.kind.tmod 6 = 3 then (S.write x.place x.data).2 else if x.kind.tmod 6 = 4 then S.fuse x.k else (S.crash x.K).up.2

theorem uact_ok {S : DS} {M : Nat} (h : S.ok M) (N F C U : Int) (x : UK) (hx : x.k ≤ 9223372036854775807) : (S.uact N F C U x).ok (M + 4) := by
  unfold DS.uact
  split
  · exact appP_ok h x.k x.tag x.epoch x.place
  · split
    · exact h.mono (by omega)
    · split
      · exact (clearP_ok h).mono (by omega)
      · split
        · exact (h.write _ _).mono (by omega)
        · split
          · exact (h.fuse _ hx).mono (by omega)
          · exact (h.crash _).up.mono (by omega)
theorem uact_sz {S : DS} (h : S.sz) (N F C U : Int) (x : UK) : (S.uact N F C U x).sz := by
  unfold DS.uact
  split
  · exact h.app _ _ _ _ _ _ _ _
  · split
    · exact h
    · split
      · exact h.clear _ _ _ _
      · split
        · exact h.write _ _
        · split
          · exact h.fuse _
          · exact (h.crash _).up
theorem uact_len (S : DS) (N F C U : Int) (x : UK) : (S.uact N F C U x).L.length = S.L.length := by
  unfold DS.uact
  split
  · exact app_len' _ _ _ _ _ _ _ _ _
  · split
    · rfl
    · split
      · exact clear_len' _ _ _ _ _
      · split
        · exact write_len' _ _ _
        · split
          · rfl
          · exact (up_len' _).trans (appK_length _ _ _ _)

set_option maxRecDepth 20000 in
set_option maxHeartbeats 8000000 in
theorem udo_any (B p q : Nat) (A : Nat → Prop) (S : DS) (N F C U : Int) (x : UK) (w : World) (h : Two w B p q A S) (hB : B ≤ w.heap.size) (M : Nat) (hok : S.ok M) (hM : M + 4 ≤ 1000000) (hz : S.sz) (htg : x.tag < 18446744073709551616) (hep : x.epoch < 18446744073709551616) (hK : Bl w x.ka x.kn x.K) (hKl : ∀ b off, x.ka = some ⟨b, off, none⟩ → 0 < x.kn → ¬ A b) :
    Calls Tryz.prog 11 #[.pointer (some ⟨p, 0, none⟩), .pointer (some ⟨q, 0, none⟩), geo N F C U, x.val] w fun e w' => e = .returned (.bool true) ∧ TP w B p q A (S.uact N F C U x) w' := by
  have hW : S.W.length ≤ 1000000 := by have := hok.few; have := hok.did; omega
  obtain ⟨v1, v2, u1, u2, hp, hq, hd, hA⟩ := h
  obtain ⟨kind, k, tag, epoch, place, data, ka, kn, kc, K⟩ := x
  obtain ⟨r, hr⟩ : ∃ r, r = kind.tmod 6 := ⟨_, rfl⟩
  obtain ⟨T, hT⟩ : ∃ T, T = if r = 0 then (appP N F C U S k tag epoch place).ds else if r = 1 then S else if r = 2 then (clearP N F C U S).2 else if r = 3 then (S.write place data).2 else if r = 4 then S.fuse k else (S.crash K).up.2 := ⟨_, rfl⟩
  have hS : DS.uact S N F C U ⟨kind, k, tag, epoch, place, data, ka, kn, kc, K⟩ = T := by rw [hT, hr]; rfl
  rw [hS]
  have HT := Lib.hid hT
  clear hT hS
  unfold UK.val geo
  dsimp only at hK hKl htg hep ⊢
  obtain ⟨w0, hw0⟩ : ∃ w0, w0 = (w.alloc (.cells #[.int .i64 N, .int .i64 F, .int .i64 C, .int .i64 U] 23)).alloc (.cells #[.int .i64 kind, .int .i64 k, .int .u64 tag, .int .u64 epoch, .int .i64 place, .string data, .slice ka kn kc] 36) := ⟨_, rfl⟩
  have hal : Below w.heap.size w w0 := by rw [hw0]; exact ((Below.refl _ w).alloc (Nat.le_refl _) _).alloc (by simp) _
  have hs2 : w0.heap.size = w.heap.size + 2 := by rw [hw0]; simp
  have hg0 : w0.heap[w.heap.size]? = some (.cells #[.int .i64 N, .int .i64 F, .int .i64 C, .int .i64 U] 23 (0, 0)) := by rw [hw0]; exact (Below.heap_alloc _ _ _ (by simp)).trans (heap_alloc_new w _)
  have ha0 : w0.heap[w.heap.size + 1]? = some (.cells #[.int .i64 kind, .int .i64 k, .int .u64 tag, .int .u64 epoch, .int .i64 place, .string data, .slice ka kn kc] 36 (0, 0)) := by
    have e := heap_alloc_new (w.alloc (.cells #[.int .i64 N, .int .i64 F, .int .i64 C, .int .i64 U] 23)) (.cells #[.int .i64 kind, .int .i64 k, .int .u64 tag, .int .u64 epoch, .int .i64 place, .string data, .slice ka kn kc] 36)
    rw [World.size_alloc] at e
    rw [hw0]; exact e
  have hp0 := hp.below hal
  have hq0 := hq.below hal
  have hs0 : B ≤ w0.heap.size := Nat.le_trans hB hal.size
  have hnp : ∀ j, foot p v1 v2 j → j < w.heap.size := fun j hj => (hp.foot_low j hj).2
  have hnq : ∀ j, foot q u1 u2 j → j < w.heap.size := fun j hj => (hq.foot_low j hj).2
  have hcg : ∀ w' : World, w'.heap[w.heap.size]? = w0.heap[w.heap.size]? → w'.cell? ⟨w.heap.size, 0, none⟩ = some (.int .i64 N) ∧ w'.cell? ⟨w.heap.size, 1, none⟩ = some (.int .i64 F) ∧ w'.cell? ⟨w.heap.size, 2, none⟩ = some (.int .i64 C) ∧ w'.cell? ⟨w.heap.size, 3, none⟩ = some (.int .i64 U) := fun w' e => by
    have e := e.trans hg0
    refine ⟨?_, ?_, ?_, ?_⟩ <;> (rw [cell_of_blk e]; rfl)
  have hca : ∀ w' : World, w'.heap[w.heap.size + 1]? = w0.heap[w.heap.size + 1]? → w'.cell? ⟨w.heap.size + 1, 0, none⟩ = some (.int .i64 kind) ∧ w'.cell? ⟨w.heap.size + 1, 1, none⟩ = some (.int .i64 k) ∧ w'.cell? ⟨w.heap.size + 1, 2, none⟩ = some (.int .u64 tag) ∧ w'.cell? ⟨w.heap.size + 1, 3, none⟩ = some (.int .u64 epoch) ∧ w'.cell? ⟨w.heap.size + 1, 4, none⟩ = some (.int .i64 place) ∧ w'.cell? ⟨w.heap.size + 1, 5, none⟩ = some (.string data) ∧ w'.cell? ⟨w.heap.size + 1, 6, none⟩ = some (.slice ka kn kc) := fun w' e => by
    have e := e.trans ha0
    refine ⟨?_, ?_, ?_, ?_, ?_, ?_, ?_⟩ <;> (rw [cell_of_blk e]; rfl)
  have hpo : ∀ T w1 j, PP w0 B p v1 v2 T w1 → w.heap.size ≤ j → j < w0.heap.size → w1.heap[j]? = w0.heap[j]? := fun T w1 j h h1 h2 => h.old j h2 (fun hf => by have := hnp j hf; omega)
  have hro : ∀ T T' w1 w2 j, PP w0 B p v1 v2 T w1 → RP w1 B q u1 u2 T' w2 → w.heap.size ≤ j → j < w0.heap.size → w2.heap[j]? = w0.heap[j]? := fun T T' w1 w2 j h h3 h1 h2 => (h3.old j (Nat.lt_of_lt_of_le h2 h.size) (fun hf => by have := hnq j hf; omega)).trans (hpo T w1 j h h1 h2)
  have hfin : ∀ S' w1 w2, PP w0 B p v1 v2 S' w1 → RP w1 B q u1 u2 S' w2 → TP w B p q A S' w2 := fun S' w1 w2 h1 h2 => by
    obtain ⟨A', hT, hF, hl⟩ := two_after hq0 hp0 hd hA h1 h2
    exact ⟨A', hT, ⟨hF.os.trans hal.os, hF.tape.trans hal.tape, hF.output.trans hal.output, Nat.le_trans hal.size hF.size, fun k hk hn => (hF.block k (Nat.lt_of_lt_of_le hk hal.size) hn).trans (hal.block k hk)⟩, fun k hk => by
      rcases hl k hk with h | h
      · exact .inl h
      · have := hal.size; exact .inr (by omega)⟩
  have HFIN := Lib.hid hfin
  have HP := Lib.hid hp0
  have HQ := Lib.hid hq0
  have HD := Lib.hid hd
  have HPO := Lib.hid hpo
  have HRO := Lib.hid hro
  have HCG := Lib.hid hcg
  have HCA := Lib.hid hca
  have HS2 := Lib.hid hs2
  have HNQ := Lib.hid hnq
  have hsame : ∀ w', Below w0.heap.size w0 w' → TP w B p q A S w' := fun w' hb => TP.same ⟨v1, v2, u1, u2, hp, hq, hd, hA⟩ (hal.trans (hb.mono hal.size))
  have HSM := Lib.hid hsame
  have HK := Lib.hid (hK.below hal)
  have HKL := Lib.hid (fun b off e h0 hf => hKl b off e h0 ((hA b).2 hf))
  have HRR := Lib.hid hr
  have HSZ := Lib.hid hz
  have HOK := Lib.hid hok
  have HLT := Lib.hid (And.intro htg hep)
  have HWL := Lib.hid hW
  obtain ⟨c0, c1, c2, c3⟩ := hcg w0 rfl
  obtain ⟨d0, d1, d2, d3, d4, d5, d6⟩ := hca w0 rfl
  clear hp hq hp0 hq0 hfin hsame hal hK hKl hnp hnq hpo hro hcg hca hs2 hg0 ha0 hz hok htg hep hW
  go_enter Tryz.func11, Tryz.ntmps11
  go_upto_region 5 with fail
  rw [← hw0, ← HRR.out]
  clear hw0
  by_cases r0 : r = 0
  · subst r0
    have ht : T = (appP N F C U S k tag epoch place).ds := HT.out.trans (by simp)
    have h1 := append_any B p v1 v2 S N F C U k tag epoch place w0 HP.out hs0 M HOK.out (by omega) HLT.out.1 HLT.out.2 (fun T x e => by rw [e]; exact HSZ.out.read x)
    have h2 := fun w' (hh : RD w' B q u1 u2 S) (hb : B ≤ w'.heap.size) => rappend_any B q u1 u2 S N F C U k tag epoch place w' hh hb M HOK.out (by omega) HLT.out.1 HLT.out.2 HSZ.out.read
    obtain ⟨AR, hAR⟩ : ∃ r, r = appP N F C U S k tag epoch place := ⟨_, rfl⟩
    rw [← hAR] at ht h1
    simp only [← hAR] at h2
    obtain ⟨why, en, T1⟩ := AR
    dsimp only at ht
    subst ht
    unfold geo ApR.val En.val at h1 h2
    dsimp only at h1 h2
    have H1 := Lib.hid h1
    have H2 := Lib.hid h2
    clear h1 h2 hAR
    go_wp2_with fail
    refine H1.out.mono ?_
    rintro e w1 ⟨rfl, hpp⟩
    have HPP := Lib.hid hpp
    obtain ⟨W1, hW1⟩ : ∃ W1, W1 = w1.alloc (.cells #[.int .u64 (en.tag : Int), .int .u64 (en.epoch : Int), .int .i64 en.place, .string en.old] 55) := ⟨_, rfl⟩
    have hx1 := heap_alloc_new w1 (.cells #[.int .u64 (en.tag : Int), .int .u64 (en.epoch : Int), .int .i64 en.place, .string en.old] 55)
    rw [← hW1] at hx1
    have hbl1 : Below w1.heap.size w1 W1 := by rw [hW1]; exact (Below.refl _ _).alloc (Nat.le_refl _) _
    have hpp1 := pp_then hpp hbl1
    obtain ⟨c0, c1, c2, c3⟩ := HCG.out W1 (HPO.out _ _ _ hpp1 (Nat.le_refl _) (by have := HS2.out; omega))
    obtain ⟨d0, d1, d2, d3, d4, d5, d6⟩ := HCA.out W1 (HPO.out _ _ _ hpp1 (by omega) (by have := HS2.out; omega))
    obtain ⟨bx, hbx⟩ : ∃ bx, bx = w1.heap.size := ⟨_, rfl⟩
    rw [← hbx] at hx1
    have hbq : ¬ foot q u1 u2 bx := fun hf => by have h1 := HNQ.out _ hf; have h2 := HPP.out.size; have h3 := HS2.out; omega
    have HX1 := Lib.hid hx1
    have HPP1 := Lib.hid hpp1
    have HBQ := Lib.hid hbq
    have HW1 := Lib.hid hW1
    have HBX := Lib.hid hbx
    have h3 := H2.out W1 (rd_after HQ.out HD.out hpp1) (Nat.le_trans hs0 hpp1.size)
    have H3 := Lib.hid h3
    clear hpp hx1 hbl1 hpp1 hbq hW1 hbx h3
    go_upto_region 7 with fail
    rw [← HW1.out, ← HBX.out]
    go_wp2_with fail
    refine H3.out.mono ?_
    rintro e w2 ⟨rfl, hrp⟩
    have hx2 := rp_box hrp HX1.out HBQ.out
    obtain ⟨W2, hW2⟩ : ∃ W2, W2 = w2.alloc (.cells #[.int .u64 (en.tag : Int), .int .u64 (en.epoch : Int), .int .i64 en.place, .string en.old] 55) := ⟨_, rfl⟩
    have hy2 := heap_alloc_new w2 (.cells #[.int .u64 (en.tag : Int), .int .u64 (en.epoch : Int), .int .i64 en.place, .string en.old] 55)
    rw [← hW2] at hy2
    have hbl2 : Below w2.heap.size w2 W2 := by rw [hW2]; exact (Below.refl _ _).alloc (Nat.le_refl _) _
    have hx3 := (hbl2.block _ (lt_of_block hx2)).trans hx2
    obtain ⟨by', hby⟩ : ∃ by', by' = w2.heap.size := ⟨_, rfl⟩
    rw [← hby] at hy2
    have x0 : W2.cell? ⟨bx, 0, none⟩ = some (.int .u64 (en.tag : Int)) := by rw [cell_of_blk hx3]; rfl
    have x1 : W2.cell? ⟨bx, 1, none⟩ = some (.int .u64 (en.epoch : Int)) := by rw [cell_of_blk hx3]; rfl
    have x2 : W2.cell? ⟨bx, 2, none⟩ = some (.int .i64 en.place) := by rw [cell_of_blk hx3]; rfl
    have x3 : W2.cell? ⟨bx, 3, none⟩ = some (.string en.old) := by rw [cell_of_blk hx3]; rfl
    have y0 : W2.cell? ⟨by', 0, none⟩ = some (.int .u64 (en.tag : Int)) := by rw [cell_of_blk hy2]; rfl
    have y1 : W2.cell? ⟨by', 1, none⟩ = some (.int .u64 (en.epoch : Int)) := by rw [cell_of_blk hy2]; rfl
    have y2 : W2.cell? ⟨by', 2, none⟩ = some (.int .i64 en.place) := by rw [cell_of_blk hy2]; rfl
    have y3 : W2.cell? ⟨by', 3, none⟩ = some (.string en.old) := by rw [cell_of_blk hy2]; rfl
    have HRES := Lib.hid (HFIN.out _ _ _ HPP1.out (rp_then hrp hbl2))
    have gE : ∀ op x y w, Sem.run Tryz.prog (eqGuard op 55 x y (.agg #[.int .u64 (en.tag : Int), .int .u64 (en.epoch : Int), .int .i64 en.place, .string en.old]) (.agg #[.int .u64 (en.tag : Int), .int .u64 (en.epoch : Int), .int .i64 en.place, .string en.old])) w = .ok () w := fun op x y w => guard_en op x y _ _ _ _ _ _ _ _ w
    have qE : ∀ w, (binOp .eql 55 (.agg #[.int .u64 (en.tag : Int), .int .u64 (en.epoch : Int), .int .i64 en.place, .string en.old]) (.agg #[.int .u64 (en.tag : Int), .int .u64 (en.epoch : Int), .int .i64 en.place, .string en.old])).run Tryz.prog w = .ok (.bool true) w := fun w => by rw [eql_en]; simp
    have HW2 := Lib.hid hW2
    have HBY := Lib.hid hby
    clear hrp hx2 hy2 hbl2 hx3 hW2 hby c0 c1 c2 c3 d0 d1 d2 d3 d4 d5 d6 H1 H2 H3
    go_upto_region 8 with fail
    rw [← HW2.out, ← HBY.out]
    go_wp2
    go_ret
    exact ⟨rfl, HRES.out⟩
  by_cases r1 : r = 1
  · subst r1
    have ht : T = S := HT.out.trans (by simp)
    have h1 := scan_any B p v1 v2 S N F C U epoch w0 HP.out M HOK.out (by omega) HSZ.out.read
    have h2 := fun w' (hb : Below w0.heap.size w0 w') => rscan_any B q u1 u2 S N F C U epoch w' (HQ.out.below hb) M HOK.out (by omega) HLT.out.2 HSZ.out.read
    obtain ⟨SC, hSC⟩ : ∃ s, s = scanP N F C U S epoch := ⟨_, rfl⟩
    rw [← hSC] at h1
    simp only [← hSC] at h2
    obtain ⟨sl, sc⟩ := SC
    unfold geo at h1 h2
    dsimp only at h1 h2
    have H1 := Lib.hid h1
    have H2 := Lib.hid h2
    have HTT := Lib.hid ht
    clear h1 h2 hSC ht
    go_wp2_with fail
    refine H1.out.mono ?_
    rintro e w1 ⟨⟨a1, n1, rfl, hes1, _⟩, hb1⟩
    obtain ⟨c0, c1, c2, c3⟩ := HCG.out w1 (hb1.block _ (by have := HS2.out; omega))
    obtain ⟨d0, d1, d2, d3, d4, d5, d6⟩ := HCA.out w1 (hb1.block _ (by have := HS2.out; omega))
    have h3 := H2.out w1 hb1
    have H3 := Lib.hid h3
    have HB1 := Lib.hid hb1
    have HE1 := Lib.hid hes1
    clear h3 hb1 hes1 H1 H2
    go_wp2_with fail
    refine H3.out.mono ?_
    rintro e w2 ⟨⟨a2, n2, rfl, hes2, _⟩, hb2⟩
    have h4 := fun w' (hb : Below w2.heap.size w2 w') => entries_same a1 a2 sl.length n1 n2 sl w' ((HE1.out.later hb2).later hb) (hes2.later hb)
    have H4 := Lib.hid h4
    have HB2 := Lib.hid (HB1.out.trans (hb2.mono HB1.out.size))
    clear hb2 hes2 h4 c0 c1 c2 c3 d0 d1 d2 d3 d4 d5 d6 H3
    go_wp2_with fail
    refine (H4.out _ (by first | exact Below.refl _ _ | exact (Below.refl _ _).drew)).mono ?_
    rintro e w3 ⟨rfl, hb3⟩
    have HB3 := Lib.hid (HB2.out.trans (Below.mono (show Below w2.heap.size w2 w3 from ⟨hb3.os, hb3.tape, hb3.output, hb3.size, hb3.block⟩) HB2.out.size))
    clear hb3
    go_wp2
    go_ret
    exact ⟨rfl, by rw [HTT.out]; exact HSM.out _ HB3.out⟩
  by_cases r2 : r = 2
  · subst r2
    have ht : T = (clearP N F C U S).2 := HT.out.trans (by simp)
    have hd0 : Below w0.heap.size w0 w0.drew := (Below.refl _ _).drew
    have h1 := clear_any B p v1 v2 S N F C U w0.drew (HP.out.below hd0) hs0 M HOK.out (by omega)
    have h2 := fun w' (hh : RD w' B q u1 u2 S) (hb : B ≤ w'.heap.size) => rclear_any B q u1 u2 S N F C U w' hh hb M HOK.out (by omega)
    rcases hw : clearP N F C U S with ⟨E, T1⟩
    rw [hw] at ht h1
    simp only [hw] at h2
    dsimp only at ht h1
    subst ht
    unfold geo at h1 h2
    have hq1 := fun w1 (h : PP w0.drew B p v1 v2 T w1) => rd_after (HQ.out.below hd0) HD.out h
    have hkp : ∀ w1, PP w0.drew B p v1 v2 T w1 → w1.cell? ⟨w.heap.size, 0, none⟩ = some (.int .i64 N) ∧ w1.cell? ⟨w.heap.size, 1, none⟩ = some (.int .i64 F) ∧ w1.cell? ⟨w.heap.size, 2, none⟩ = some (.int .i64 C) ∧ w1.cell? ⟨w.heap.size, 3, none⟩ = some (.int .i64 U) := fun w1 h => HCG.out w1 (HPO.out _ _ _ (pp_undrew h) (Nat.le_refl _) (by have := HS2.out; omega))
    have hkr : ∀ w1 w2, PP w0.drew B p v1 v2 T w1 → RP w1 B q u1 u2 T w2 → w2.cell? ⟨w.heap.size, 0, none⟩ = some (.int .i64 N) ∧ w2.cell? ⟨w.heap.size, 1, none⟩ = some (.int .i64 F) ∧ w2.cell? ⟨w.heap.size, 2, none⟩ = some (.int .i64 C) ∧ w2.cell? ⟨w.heap.size, 3, none⟩ = some (.int .i64 U) := fun w1 w2 h h2 => HCG.out w2 (HRO.out _ _ _ _ _ (pp_undrew h) h2 (Nat.le_refl _) (by have := HS2.out; omega))
    have H1 := Lib.hid h1
    have H2 := Lib.hid h2
    have HQ1 := Lib.hid hq1
    have HKP := Lib.hid hkp
    have HKR := Lib.hid hkr
    have HST := Lib.hid (And.intro c0 (And.intro c1 (And.intro c2 c3)))
    clear h1 h2 hq1 hkp hkr hw hd0 d1 d2 d3 d4 d5 d6
    go_wp2_with fail
    go_region_held3 (fun w' : World => w'.cell? ⟨w.heap.size, 0, none⟩ = some (.int .i64 N) ∧ w'.cell? ⟨w.heap.size, 1, none⟩ = some (.int .i64 F) ∧ w'.cell? ⟨w.heap.size, 2, none⟩ = some (.int .i64 C) ∧ w'.cell? ⟨w.heap.size, 3, none⟩ = some (.int .i64 U)) (first | exact HST.out | exact HKP.out _ hpp | exact HKR.out _ _ hpp hrp)
      (first
      | (go_at_call 25; refine H1.out.mono ?_; rintro e w1 ⟨rfl, hpp⟩)
      | (go_at_call 46; refine (H2.out w1 (HQ1.out w1 hpp) (Nat.le_trans hs0 (pp_fr hpp).size)).mono ?_; rintro e w2 ⟨rfl, hrp⟩))
    all_goals (
      rename_i hHeld
      clear hHeld
      go_wp2
      go_ret
      exact ⟨rfl, HFIN.out _ _ _ (pp_undrew hpp) hrp⟩)
  by_cases r3 : r = 3
  · subst r3
    have ht : T = (S.write place data).2 := HT.out.trans (by simp)
    have hd0 : Below w0.heap.size w0 w0.drew := (Below.refl _ _).drew
    have h1 := write_any B p v1 v2 S place data w0.drew (HP.out.below hd0) hs0 M HOK.out (by omega)
    have h2 := fun w' (hh : RD w' B q u1 u2 S) (hb : B ≤ w'.heap.size) => rwrite_any B q u1 u2 S place data w' hh hb M HOK.out (by omega)
    rcases hw : S.write place data with ⟨E, T1⟩
    rw [hw] at ht h1
    simp only [hw] at h2
    dsimp only at ht h1
    subst ht
    have hq1 := fun w1 (h : PP w0.drew B p v1 v2 T w1) => rd_after (HQ.out.below hd0) HD.out h
    have hcw : ∀ w' : World, w'.heap[w.heap.size + 1]? = w0.heap[w.heap.size + 1]? → w'.cell? ⟨w.heap.size + 1, 4, none⟩ = some (.int .i64 place) ∧ w'.cell? ⟨w.heap.size + 1, 5, none⟩ = some (.string data) := fun w' e => by
      obtain ⟨e0, e1, e2, e3, e4, e5, e6⟩ := HCA.out w' e
      exact ⟨e4, e5⟩
    have hkp : ∀ w', PP w0.drew B p v1 v2 T w' → w'.cell? ⟨w.heap.size + 1, 4, none⟩ = some (.int .i64 place) ∧ w'.cell? ⟨w.heap.size + 1, 5, none⟩ = some (.string data) := fun w1 h => hcw w1 (HPO.out _ _ _ (pp_undrew h) (by omega) (by have := HS2.out; omega))
    have hkr : ∀ w1 w', PP w0.drew B p v1 v2 T w1 → RP w1 B q u1 u2 T w' → w'.cell? ⟨w.heap.size + 1, 4, none⟩ = some (.int .i64 place) ∧ w'.cell? ⟨w.heap.size + 1, 5, none⟩ = some (.string data) := fun w1 w2 h h2 => hcw w2 (HRO.out _ _ _ _ _ (pp_undrew h) h2 (by omega) (by have := HS2.out; omega))
    have H1 := Lib.hid h1
    have H2 := Lib.hid h2
    have HQ1 := Lib.hid hq1
    have HKP := Lib.hid hkp
    have HKR := Lib.hid hkr
    have HST := Lib.hid (And.intro d4 d5)
    clear h1 h2 hq1 hkp hkr hcw hw hd0 c0 c1 c2 c3 d1 d2 d3 d6
    go_wp2_with fail
    go_region_held3 (fun w' : World => w'.cell? ⟨w.heap.size + 1, 4, none⟩ = some (.int .i64 place) ∧ w'.cell? ⟨w.heap.size + 1, 5, none⟩ = some (.string data)) (first | exact HST.out | exact HKP.out _ hpp | exact HKR.out _ _ hpp hrp)
      (first
      | (go_at_call 27; refine H1.out.mono ?_; rintro e w1 ⟨rfl, hpp⟩)
      | (go_at_call 47; refine (H2.out w1 (HQ1.out w1 hpp) (Nat.le_trans hs0 (pp_fr hpp).size)).mono ?_; rintro e w2 ⟨rfl, hrp⟩))
    all_goals (
      rename_i hHeld
      clear hHeld
      go_wp2
      go_ret
      exact ⟨rfl, HFIN.out _ _ _ (pp_undrew hpp) hrp⟩)
  by_cases r4 : r = 4
  · subst r4
    have ht : T = S.fuse k := HT.out.trans (by simp)
    subst ht
    have h1 := fuse_any B p v1 v2 S k w0 HP.out
    have H1 := Lib.hid h1
    clear h1 c0 c1 c2 c3 d2 d3 d4 d5 d6
    go_wp2_with fail
    refine H1.out.mono ?_
    rintro e w1 ⟨rfl, hpp⟩
    obtain ⟨d0, d1, d2, d3, d4, d5, d6⟩ := HCA.out w1 (HPO.out _ _ _ hpp (by omega) (by have := HS2.out; omega))
    have h3 := rfuse_any B q u1 u2 S k w1 (rd_after HQ.out HD.out hpp)
    have H3 := Lib.hid h3
    have HPP := Lib.hid hpp
    clear h3 hpp d2 d3 d4 d5 d6
    go_wp2_with fail
    refine H3.out.mono ?_
    rintro e w2 ⟨rfl, hrp⟩
    have HRP := Lib.hid hrp
    clear hrp
    go_wp2
    go_ret
    exact ⟨rfl, HFIN.out _ _ _ HPP.out HRP.out⟩
  have ht : T = (S.crash K).up.2 := HT.out.trans (by simp [r0, r1, r2, r3, r4])
  have t0 : (r == 0) = false := by simpa using r0
  have t1 : (r == 1) = false := by simpa using r1
  have t2 : (r == 2) = false := by simpa using r2
  have t3 : (r == 3) = false := by simpa using r3
  have t4 : (r == 4) = false := by simpa using r4
  have h1 := crash_any B p v1 v2 S ka kn kc K w0 HP.out hs0 M HOK.out (by omega) HK.out (fun b off e h0 hf => HKL.out b off e h0 (.inl hf))
  have H1 := Lib.hid h1
  have HTT := Lib.hid ht
  clear h1 ht c0 c1 c2 c3 d1 d2 d3 d4 d5 r0 r1 r2 r3 r4
  go_wp2_with fail
  refine H1.out.mono ?_
  rintro e w1 ⟨rfl, hpp⟩
  obtain ⟨d0, d1, d2, d3, d4, d5, d6⟩ := HCA.out w1 (HPO.out _ _ _ hpp (by omega) (by have := HS2.out; omega))
  have h3 := rcrash_any B q u1 u2 S ka kn kc K w1 (rd_after HQ.out HD.out hpp) (Nat.le_trans hs0 (pp_fr hpp).size) M HOK.out (by omega) (HK.out.fr (pp_fr hpp) (fun b off e h0 hf => HKL.out b off e h0 (.inl hf))) (fun b off e h0 hf => HKL.out b off e h0 (.inr hf))
  have H3 := Lib.hid h3
  have HPP := Lib.hid hpp
  clear h3 hpp d1 d2 d3 d4 d5
  go_wp2_with fail
  refine H3.out.mono ?_
  rintro e w2 ⟨rfl, hrp⟩
  have htp := HFIN.out _ _ _ HPP.out hrp
  have HTP := Lib.hid htp
  obtain ⟨A', ⟨x1, x2, y1, y2, hp', hq', hd', hA'⟩, hF, hl⟩ := htp
  have HP' := Lib.hid hp'
  have HQ' := Lib.hid hq'
  have HD' := Lib.hid hd'
  have HA' := Lib.hid hA'
  have HFL := Lib.hid (And.intro hF hl)
  have h4 := up_any B p x1 x2 (S.crash K) w2 hp'
  have h5 := fun w' (hh : RD w' B q y1 y2 (S.crash K)) => rup_any B q y1 y2 (S.crash K) w' hh
  rcases hw : (S.crash K).up with ⟨E, T1⟩
  rw [hw] at h4
  simp only [hw] at h5
  have H4 := Lib.hid h4
  have H5 := Lib.hid h5
  have HW := Lib.hid hw
  clear hrp hp' hq' hd' hA' hF hl h4 h5 hw d0 d6
  go_wp2_with fail
  refine H4.out.mono ?_
  rintro e w3 ⟨rfl, hpp⟩
  have h6 := H5.out w3 (rd_after HQ'.out HD'.out hpp)
  have H6 := Lib.hid h6
  have HPP2 := Lib.hid hpp
  clear h6 hpp
  go_wp2_with fail
  refine H6.out.mono ?_
  rintro e w4 ⟨rfl, hrp⟩
  have hres : TP w B p q A T w4 := by
    have e : T = T1 := by rw [HTT.out, HW.out]
    rw [e]
    have h7 := two_after HQ'.out HP'.out HD'.out HA'.out HPP2.out hrp
    exact tp_join HFL.out h7
  have HRES := Lib.hid hres
  clear hrp hres
  go_wp2
  go_ret
  exact ⟨rfl, HRES.out⟩

end Go.Proofs.YtjohgagiccndpaaGreatDoor

/-
  A net in memory (the program's and the document's); the program's New, Len, fault, full, At, Counts; a net that is not there.
-/
import Derived.Test.YthbfeflijlcboaaC0
import Derived.Laws.Concat
import Derived.Laws.BytesArg
import Derived.Laws.IdiomStrings
import Derived.Deep.Strs
import Derived.Deep.RegionLaw
import Derived.Deep.RegionHeldLaw
import Derived.Deep.RegionHeld3
import Derived.RegionTactic
import Derived.BigRegion
import Derived.ChangeAlike
import Derived.Maps.AppendAt
import Derived.IntWalk
import Derived.Deep.QuietTactic
import Derived.BigQuiet
namespace Go.Proofs.Ythbfeflijlcboaa
open Go.RowKit
set_option linter.unusedVariables false
set_option linter.unusedSimpArgs false

theorem rd_string {w : World} {a : Option Addr} {n cap : Nat} {xs : List UInt8} (h : Rd w a n cap xs) :
    (convert 46 9 (.slice a n cap)).run Try.prog w = .ok (.string ⟨xs.toArray⟩) w := by
  cases a with
  | none =>
    have hc := h.nil rfl
    have hn : n = 0 := by have := h.le; omega
    subst hn
    obtain rfl : xs = [] := List.eq_nil_of_length_eq_zero h.len
    rw [run_convert_bytes_string w 46 9 5 none 0 cap Try.underlying46 Try.underlying5 Try.underlying9]
    simp [Conv.bytesToString]
    rfl
  | some x =>
    have := run_convert_bytes_back (P := Try.prog) w 46 9 5 x cap xs Try.underlying46 Try.underlying5 Try.underlying9 (fun j hj => by
      obtain ⟨b, off, e, hlt, hc⟩ := h.at0 (by rw [← h.len]; omega)
      cases e
      rw [Addr.add_none, hc j (by rw [← h.len]; exact hj), List.getElem?_eq_getElem hj]
      rfl)
    rwa [h.len] at this

theorem bytesRow_at' (s : ByteArray) (c i : Nat) (h : i < s.size) : (bytesRow s c)[i]? = some (.int .u8 (((s.data.toList)[i]?.getD 0).toNat : Int)) := by
  have h' : i < s.data.size := h
  simp [bytesRow, Array.getElem?_append, h', Array.getElem?_eq_getElem h']
  omega

/-- '[]byte(s)': the new row reads as the text's bytes. -/
theorem cv_rd (s : ByteArray) (hs : s.size ≤ 140737488355328) (w : World) : ∃ c w', (convert 9 46 (.string s)).run Try.prog w = .ok (.slice (some ⟨w.heap.size, 0, none⟩) s.size c) w' ∧
    Rd w' (some ⟨w.heap.size, 0, none⟩) s.size c s.data.toList ∧ Below w.heap.size w w' := by
  refine ⟨_, _, run_bytes_of_string w 9 46 5 s Try.underlying9 Try.underlying46 Try.underlying5, ?_, ((Below.refl _ _).drew).alloc (Nat.le_refl _) _⟩
  refine ⟨rfl, grownCap_ge _ _ _ _, hs, grownCap_le_maxLen _ _ _ _ (by unfold maxLen; omega), fun _ => ⟨_, _, rfl, by simp, fun i hi => ?_⟩, fun e => by cases e⟩
  have := World.cell?_alloc_mark w.drew (bytesRow s (grownCap w s.size 0 5)) 5 ((bytesRow s (grownCap w s.size 0 5)).size, (bytesRow s (grownCap w s.size 0 5)).size + 1) (0 + i)
  refine this.trans ?_
  rw [Nat.zero_add]
  exact bytesRow_at' s _ i hi


/-! ### the state -/
structure NS where
  L : List (Int × ByteArray)
  sent : Nat
  came : Nat
  lost : Nat

def NS.has (S : NS) (i : Int) : Prop := 0 ≤ i ∧ i < (S.L.length : Int)
instance (S : NS) (i : Int) : Decidable (S.has i) := inferInstanceAs (Decidable (_ ∧ _))
def offL (L : List (Int × ByteArray)) (i : Nat) : List (Int × ByteArray) := L.take i ++ L.drop (i + 1)
def NS.at' (S : NS) (i : Int) : (Int × ByteArray) × Int := if S.has i then (wAt S.L i.toNat, 0) else ((0, noBytes), 3)
def NS.send (S : NS) (to' : Int) (b : ByteArray) : Int × NS :=
  if to' = 0 ∨ to' = 1 then (if 60 ≤ S.L.length then (11, ⟨S.L, S.sent + 1, S.came, S.lost + 1⟩) else (0, ⟨S.L ++ [(to', b)], S.sent + 1, S.came, S.lost⟩)) else (2, S)
def NS.take (S : NS) (i : Int) : NS := if S.has i then ⟨offL S.L i.toNat, S.sent, S.came + 1, S.lost⟩ else S
def NS.off (S : NS) (i : Int) : NS := if S.has i then ⟨offL S.L i.toNat, S.sent, S.came, S.lost⟩ else S
def NS.lose (S : NS) (i : Int) : Int × NS := if S.has i then (0, ⟨offL S.L i.toNat, S.sent, S.came, S.lost + 1⟩) else (3, S)
def NS.twice (S : NS) (i : Int) : Int × NS :=
  if S.has i then (if 60 ≤ S.L.length then (11, S) else (0, ⟨S.L ++ [wAt S.L i.toNat], S.sent + 1, S.came, S.lost⟩)) else (3, S)
def cutB (b : ByteArray) (n : Nat) : ByteArray := b.extract 0 n
def NS.cut (S : NS) (i n : Int) : Int × NS :=
  if S.has i then (if n < 0 ∨ ((wAt S.L i.toNat).2.size : Int) < n then (4, S) else (0, ⟨S.L.set i.toNat ((wAt S.L i.toNat).1, cutB (wAt S.L i.toNat).2 n.toNat), S.sent, S.came, S.lost⟩)) else (3, S)
def NS.drop (S : NS) : NS := ⟨[], S.sent, S.came, S.lost + S.L.length⟩
def ns0 : NS := ⟨[], 0, 0, 0⟩

/-- What every act keeps. -/
structure NS.ok (S : NS) (N : Nat) : Prop where
  len : S.L.length ≤ 60
  sum : S.sent = S.came + S.lost + S.L.length
  few : S.sent ≤ N

theorem offL_length {L : List (Int × ByteArray)} {i : Nat} (h : i < L.length) : (offL L i).length = L.length - 1 := by
  simp [offL]; omega
theorem NS.ok.mono {S : NS} {N M : Nat} (h : S.ok N) (hl : N ≤ M) : S.ok M := ⟨h.len, h.sum, Nat.le_trans h.few hl⟩
theorem NS.ok.send {S : NS} {N : Nat} (h : S.ok N) (to' : Int) (b : ByteArray) : (S.send to' b).2.ok (N + 1) := by
  have h1 := h.len; have h2 := h.sum; have h3 := h.few
  unfold NS.send
  split
  · split
    · exact ⟨h1, by simp; omega, by simp; omega⟩
    · exact ⟨by simp; omega, by simp; omega, by simp; omega⟩
  · exact h.mono (by omega)
theorem NS.ok.take {S : NS} {N : Nat} (h : S.ok N) (i : Int) : (S.take i).ok N := by
  have h1 := h.len; have h2 := h.sum; have h3 := h.few
  unfold NS.take
  split
  · rename_i hi
    have := offL_length (L := S.L) (i := i.toNat) (by have := hi.1; have := hi.2; omega)
    have := hi.1; have := hi.2
    exact ⟨by simp; omega, by simp; omega, h3⟩
  · exact h
theorem NS.ok.lose {S : NS} {N : Nat} (h : S.ok N) (i : Int) : (S.lose i).2.ok N := by
  have h1 := h.len; have h2 := h.sum; have h3 := h.few
  unfold NS.lose
  split
  · rename_i hi
    have := offL_length (L := S.L) (i := i.toNat) (by have := hi.1; have := hi.2; omega)
    have := hi.1; have := hi.2
    exact ⟨by simp; omega, by simp; omega, h3⟩
  · exact h
theorem NS.ok.twice {S : NS} {N : Nat} (h : S.ok N) (i : Int) : (S.twice i).2.ok (N + 1) := by
  have h1 := h.len; have h2 := h.sum; have h3 := h.few
  unfold NS.twice
  split
  · split
    · exact h.mono (by omega)
    · exact ⟨by simp; omega, by simp; omega, by simp; omega⟩
  · exact h.mono (by omega)
theorem NS.ok.cut {S : NS} {N : Nat} (h : S.ok N) (i n : Int) : (S.cut i n).2.ok N := by
  have h1 := h.len; have h2 := h.sum; have h3 := h.few
  unfold NS.cut
  split
  · split
    · exact h
    · exact ⟨by simp; omega, by simp; omega, h3⟩
  · exact h
theorem NS.ok.drop {S : NS} {N : Nat} (h : S.ok N) : S.drop.ok N := by
  have h1 := h.len; have h2 := h.sum; have h3 := h.few
  exact ⟨by simp [NS.drop], by simp [NS.drop]; omega, h3⟩
theorem ns0_ok : ns0.ok 0 := ⟨by simp [ns0], by simp [ns0], by simp [ns0]⟩

/-! ### in memory -/
def pF (v : Value) (S : NS) : Array Value := #[.int .i64 (S.sent : Int), .int .i64 (S.came : Int), .int .i64 (S.lost : Int), v]
def rF (v : Value) (S : NS) : Array Value := #[v, .int .i64 (S.sent : Int), .int .i64 (S.came : Int), .int .i64 (S.lost : Int)]
def ft (p : Nat) (v : Value) (k : Nat) : Prop := k = p ∨ v.ownBlock = some k

structure Nt (ty : TypeId) (F : Value → NS → Array Value) (w : World) (B p : Nat) (v : Value) (S : NS) : Prop where
  blk : w.heap[p]? = some (.cells (F v S) ty (0, 0))
  low : B ≤ p
  own : w.ownsRow B 41 2 v S.L.length (puts S.L)

def PN := Nt 53 pF
def RN := Nt 30 rF

/-- What an act leaves of a net. -/
def NP (ty : TypeId) (F : Value → NS → Array Value) (w : World) (B p : Nat) (v : Value) (S' : NS) (w' : World) : Prop := ∃ v', Nt ty F w' B p v' S' ∧ Fr (ft p v) w w' ∧ ∀ k, ft p v' k → ft p v k ∨ w.heap.size ≤ k

section
variable {ty : TypeId} {F : Value → NS → Array Value} {w w' : World} {B p : Nat} {v v' : Value} {S S' : NS}
theorem Nt.lt (h : Nt ty F w B p v S) : p < w.heap.size := lt_of_block h.blk
theorem Nt.ft_low (h : Nt ty F w B p v S) : ∀ k, ft p v k → B ≤ k ∧ k < w.heap.size := by
  rintro k (rfl | e)
  · exact ⟨h.low, h.lt⟩
  · exact h.own.lt k e
theorem Nt.kept (h : Nt ty F w B p v S) (hk : ∀ k, ft p v k → w'.heap[k]? = w.heap[k]?) : Nt ty F w' B p v S :=
  ⟨(hk p (.inl rfl)).trans h.blk, h.low, owns_kept h.own fun k e => hk k (.inr e)⟩
theorem Nt.fr {A : Nat → Prop} (h : Nt ty F w B p v S) (hf : Fr A w w') (hd : ∀ k, ft p v k → ¬ A k) : Nt ty F w' B p v S :=
  h.kept fun k hk => hf.block k (h.ft_low k hk).2 (hd k hk)
theorem Nt.below (h : Nt ty F w B p v S) (hb : Below w.heap.size w w') : Nt ty F w' B p v S := h.kept fun k hk => hb.block k (h.ft_low k hk).2
theorem Nt.ne (h : Nt ty F w B p v S) (ht : ty ≠ 41) : v.ownBlock ≠ some p := fun e => by
  obtain ⟨cur, hc⟩ := owns_type h.own e
  rw [h.blk] at hc
  simp at hc
  exact ht hc.2
theorem NP.same (h : Nt ty F w B p v S) : NP ty F w B p v S w := ⟨v, h, Fr.refl _ _, fun k hk => .inl hk⟩
theorem NP.belows (h : Nt ty F w B p v S) (hb : Below w.heap.size w w') : NP ty F w B p v S w' := ⟨v, h.below hb, Fr.of_below hb, fun k hk => .inl hk⟩
/-- Other numbers in the head. -/
theorem Nt.head (h : Nt ty F w B p v S) (ht : ty ≠ 41) (hg : w.grownBy w' (some p)) (hb : w'.heap[p]? = some (.cells (F v S') ty (0, 0))) (hL : S'.L = S.L) : Nt ty F w' B p v S' :=
  ⟨hb, h.low, by rw [hL]; exact h.own.kept hg (.inr (h.ne ht))⟩
theorem fr_headN (hg : w.grownBy w' (some p)) : Fr (ft p v) w w' := ⟨hg.os, hg.tape, hg.output, hg.size, fun k hk hn => hg.block k hk fun e => by cases e; exact hn (.inl rfl)⟩
theorem NP.head (h : Nt ty F w' B p v S') (hg : w.grownBy w' (some p)) : NP ty F w B p v S' w' := ⟨v, h, fr_headN hg, fun k hk => .inl hk⟩
end

theorem PN.cells {w B p v S} (h : PN w B p v S) : w.cell? ⟨p, 0, none⟩ = some (.int .i64 (S.sent : Int)) ∧ w.cell? ⟨p, 1, none⟩ = some (.int .i64 (S.came : Int)) ∧ w.cell? ⟨p, 2, none⟩ = some (.int .i64 (S.lost : Int)) ∧ w.cell? ⟨p, 3, none⟩ = some v ∧ ∀ i, w.frozen? ⟨p, i, none⟩ = false := by
  have hb := Nt.blk h
  exact ⟨by rw [cell_of_blk hb]; rfl, by rw [cell_of_blk hb]; rfl, by rw [cell_of_blk hb]; rfl, by rw [cell_of_blk hb]; rfl, fun i => free_of_blk hb i⟩
theorem RN.cells {w B p v S} (h : RN w B p v S) : w.cell? ⟨p, 0, none⟩ = some v ∧ w.cell? ⟨p, 1, none⟩ = some (.int .i64 (S.sent : Int)) ∧ w.cell? ⟨p, 2, none⟩ = some (.int .i64 (S.came : Int)) ∧ w.cell? ⟨p, 3, none⟩ = some (.int .i64 (S.lost : Int)) ∧ ∀ i, w.frozen? ⟨p, i, none⟩ = false := by
  have hb := Nt.blk h
  exact ⟨by rw [cell_of_blk hb]; rfl, by rw [cell_of_blk hb]; rfl, by rw [cell_of_blk hb]; rfl, by rw [cell_of_blk hb]; rfl, fun i => free_of_blk hb i⟩

theorem has_nat {S : NS} {i : Int} (h : S.has i) : ∃ k : Nat, i = (k : Int) ∧ k < S.L.length := by
  obtain ⟨h0, h1⟩ := h
  exact ⟨i.toNat, by omega, by omega⟩

/-- An answer of a packet and a number. -/
def pkV (x : Int × ByteArray) : Value := .agg #[.int .i64 x.1, .string x.2]
def pkE (x : (Int × ByteArray) × Int) : Value := .tuple #[pkV x.1, .int .i64 x.2]

theorem pk_new (w : World) (x : Int) (s : ByteArray) : (w.alloc (.cells #[.int .i64 x, .string s] 41)).cell? ⟨w.heap.size, 0, none⟩ = some (.int .i64 x) ∧ (w.alloc (.cells #[.int .i64 x, .string s] 41)).cell? ⟨w.heap.size, 1, none⟩ = some (.string s) := by
  have hb := heap_alloc_new w (.cells #[.int .i64 x, .string s] 41)
  exact ⟨by rw [cell_of_blk hb]; rfl, by rw [cell_of_blk hb]; rfl⟩

set_option maxRecDepth 20000 in
set_option maxHeartbeats 400000 in
theorem new_any (w : World) : Calls Try.prog 8 #[] w fun e w' => ∃ p v, e = .returned (.pointer (some ⟨p, 0, none⟩)) ∧ PN w' w.heap.size p v ns0 ∧ Below w.heap.size w w' := by
  go_enter Try.func8, Try.ntmps8
  go_wp2
  go_ret
  exact ⟨_, _, rfl, ⟨heap_alloc_new _ _, Nat.le_refl _, World.ownsRow_nil _ _ _ _⟩, (Below.refl _ _).alloc (Nat.le_refl _) _⟩

set_option maxRecDepth 20000 in
set_option maxHeartbeats 400000 in
theorem len_any (p : Nat) (a : Option Addr) (n c : Nat) (w : World) (hc : w.cell? ⟨p, 3, none⟩ = some (.slice a n c)) :
    Calls Try.prog 14 #[.pointer (some ⟨p, 0, none⟩)] w fun e w' => e = .returned (.int .i64 (n : Int)) ∧ w' = w := by
  go_enter Try.func14, Try.ntmps14
  go_wp2
  go_ret
  exact ⟨rfl, rfl⟩
set_option maxRecDepth 20000 in
set_option maxHeartbeats 400000 in
theorem len_nil (w : World) : Calls Try.prog 14 #[.pointer none] w fun e w' => e = .returned (.int .i64 0) ∧ w' = w := by
  go_enter Try.func14, Try.ntmps14
  go_wp2
  go_ret
  exact ⟨rfl, rfl⟩
set_option maxRecDepth 20000 in
set_option maxHeartbeats 400000 in
theorem full_any (p : Nat) (a : Option Addr) (n c : Nat) (w : World) (hc : w.cell? ⟨p, 3, none⟩ = some (.slice a n c)) :
    Calls Try.prog 32 #[.pointer (some ⟨p, 0, none⟩)] w fun e w' => e = .returned (.bool (decide (60 ≤ n))) ∧ w' = w := by
  go_enter Try.func32, Try.ntmps32
  by_cases h : 60 ≤ n
  · have h1 : (60 : Int) ≤ (n : Int) := by omega
    rw [decide_eq_true h]
    go_wp2
    go_ret
    exact ⟨rfl, rfl⟩
  · have h1 : ¬ (60 : Int) ≤ (n : Int) := by omega
    rw [decide_eq_false h]
    go_wp2
    go_ret
    exact ⟨rfl, rfl⟩
set_option maxRecDepth 20000 in
set_option maxHeartbeats 400000 in
theorem fault_any (p : Nat) (i : Int) (a : Option Addr) (n c : Nat) (w : World) (hc : w.cell? ⟨p, 3, none⟩ = some (.slice a n c)) :
    Calls Try.prog 30 #[.pointer (some ⟨p, 0, none⟩), .int .i64 i] w fun e w' => e = .returned (.int .i64 (if 0 ≤ i ∧ i < (n : Int) then 0 else 3)) ∧ w' = w := by
  go_enter Try.func30, Try.ntmps30
  by_cases h : 0 ≤ i ∧ i < (n : Int)
  · have h1 : ¬ i < 0 := by omega
    have h2 : ¬ (n : Int) ≤ i := by omega
    rw [if_pos h]
    clear h
    go_wp2
    go_ret
    exact ⟨rfl, rfl⟩
  · rw [if_neg h]
    by_cases h1 : i < 0
    · clear h
      go_wp2
      go_ret
      exact ⟨rfl, rfl⟩
    · have h2 : (n : Int) ≤ i := by omega
      clear h
      go_wp2
      go_ret
      exact ⟨rfl, rfl⟩
set_option maxRecDepth 20000 in
set_option maxHeartbeats 400000 in
theorem fault_nil (i : Int) (w : World) : Calls Try.prog 30 #[.pointer none, .int .i64 i] w fun e w' => e = .returned (.int .i64 1) ∧ w' = w := by
  go_enter Try.func30, Try.ntmps30
  go_wp2
  go_ret
  exact ⟨rfl, rfl⟩

set_option maxRecDepth 20000 in
set_option maxHeartbeats 400000 in
theorem at_any (B p : Nat) (v : Value) (S : NS) (i : Int) (w : World) (h : PN w B p v S) :
    Calls Try.prog 16 #[.pointer (some ⟨p, 0, none⟩), .int .i64 i] w fun e w' => e = .returned (pkE (S.at' i)) ∧ Below w.heap.size w w' := by
  obtain ⟨c0, c1, c2, c3, hf⟩ := h.cells
  obtain ⟨a, c, rfl, hle, hcm, hg⟩ := owns_shape1 (Nt.own h)
  have hcx : (c : Int) ≤ 9223372036854775807 := by unfold maxLen at hcm; omega
  have hal : Below w.heap.size w (w.alloc (.cells #[.int .i64 0, .string noBytes] 41)) := (Below.refl _ _).alloc (Nat.le_refl _) _
  have hnew := heap_alloc_new w (.cells #[.int .i64 0, .string noBytes] 41)
  have c3' := (hal.cell (p := ⟨p, 3, none⟩) (Nt.lt h)).trans c3
  have hfa := fault_any p i a S.L.length c _ c3'
  have HFA := Lib.hid hfa
  have HAL := Lib.hid hal
  by_cases hs : S.has i
  · obtain ⟨k, rfl, hk⟩ := has_nat hs
    obtain ⟨g, rfl, hgo, _, hgl⟩ := hg (by omega)
    have ha : S.at' (k : Int) = (wAt S.L k, 0) := by unfold NS.at'; rw [if_pos hs]; rfl
    rw [ha]
    obtain ⟨e1, e2⟩ := puts_at S.L k hk
    have d0 := owns_cell (Nt.own h) hgo _ _ e1
    have d1 := owns_cell (Nt.own h) hgo _ _ e2
    have d0' := (hal.cell (p := ⟨g, k * 2, none⟩) hgl).trans d0
    have d1' := (hal.cell (p := ⟨g, k * 2 + 1, none⟩) hgl).trans d1
    have i1 : (0 : Int) ≤ (k : Int) := by omega
    have i2 : (k : Int) < (S.L.length : Int) := by omega
    rw [if_pos (And.intro i1 i2)] at HFA
    generalize wAt S.L k = W at *
    obtain ⟨x, s⟩ := W
    generalize S.L.length = n at *
    clear h c0 c1 c2 c3 hf hg hgo hgl e1 e2 d0 d1 ha hs hfa hal hnew
    have q0 := (pk_new w x s).1
    have q1 := (pk_new w x s).2
    have HB := Lib.hid ((Below.refl w.heap.size w).alloc (Nat.le_refl _) (.cells #[.int .i64 x, .string s] 41))
    go_enter Try.func16, Try.ntmps16
    go_wp2_with fail
    refine HFA.out.mono ?_
    rintro e w1 ⟨rfl, hw1⟩; obtain rfl := hw1.symm; clear hw1
    go_wp2
    refine bodyPost_ret (by simp [results, Try.results16, go_sem, q0, q1]; try rfl) rfl ?_
    exact ⟨rfl, HB.out⟩
  · have ha : S.at' i = ((0, noBytes), 3) := by unfold NS.at'; rw [if_neg hs]
    rw [ha]
    have hs' : ¬ (0 ≤ i ∧ i < (S.L.length : Int)) := hs
    rw [if_neg hs'] at HFA
    clear h c0 c1 c2 c3 hf hg ha hs hs' hfa hal hnew
    generalize S.L.length = n at *
    have q0 := (pk_new w 0 noBytes).1
    have q1 := (pk_new w 0 noBytes).2
    unfold noBytes at HFA q0 q1 c3' HAL
    go_enter Try.func16, Try.ntmps16
    go_wp2_with fail
    refine HFA.out.mono ?_
    rintro e w1 ⟨rfl, hw1⟩; obtain rfl := hw1.symm; clear hw1
    go_wp2
    refine bodyPost_ret (by simp [results, Try.results16, go_sem, q0, q1]; try rfl) rfl ?_
    exact ⟨rfl, HAL.out⟩

set_option maxRecDepth 20000 in
set_option maxHeartbeats 400000 in
theorem at_nil (i : Int) (w : World) :
    Calls Try.prog 16 #[.pointer none, .int .i64 i] w fun e w' => e = .returned (pkE ((0, noBytes), 1)) ∧ Below w.heap.size w w' := by
  have q0 := (pk_new w 0 noBytes).1
  have q1 := (pk_new w 0 noBytes).2
  have HAL := Lib.hid ((Below.refl w.heap.size w).alloc (Nat.le_refl _) (.cells #[.int .i64 0, .string noBytes] 41))
  unfold noBytes at q0 q1 HAL
  go_enter Try.func16, Try.ntmps16
  go_wp2_with fail
  refine (fault_nil i _).mono ?_
  rintro e w1 ⟨rfl, hw1⟩; obtain rfl := hw1.symm; clear hw1
  go_wp2
  refine bodyPost_ret (by simp [results, Try.results16, go_sem, q0, q1]; try rfl) rfl ?_
  exact ⟨rfl, HAL.out⟩

set_option maxRecDepth 20000 in
set_option maxHeartbeats 400000 in
theorem counts_any (B p : Nat) (v : Value) (S : NS) (w : World) (h : PN w B p v S) :
    Calls Try.prog 13 #[.pointer (some ⟨p, 0, none⟩)] w fun e w' => e = .returned (.tuple #[.int .i64 (S.sent : Int), .int .i64 (S.came : Int), .int .i64 (S.lost : Int)]) ∧ ∃ k, w' = w.drewN k := by
  obtain ⟨c0, c1, c2, c3, hf⟩ := h.cells
  clear h
  go_enter Try.func13, Try.ntmps13
  go_wp2
  go_quiet (fail)
  go_wp2
  refine bodyPost_ret (results_tmp3 rfl _ _ _) rfl ?_
  exact ⟨rfl, _, rfl⟩
set_option maxRecDepth 20000 in
set_option maxHeartbeats 400000 in
theorem counts_nil (w : World) :
    Calls Try.prog 13 #[.pointer none] w fun e w' => e = .returned (.tuple #[.int .i64 0, .int .i64 0, .int .i64 0]) ∧ w' = w := by
  go_enter Try.func13, Try.ntmps13
  go_wp2
  refine bodyPost_ret (results_tmp3 rfl _ _ _) rfl ?_
  exact ⟨rfl, rfl⟩
end Go.Proofs.Ythbfeflijlcboaa


/-
  Texts put together: E0, E1, E2, E3, E4, E5.
-/
import Derived.Test.YtpkeikbiblfidaaGreatDoorB0
import Derived.Test.YtpkeikbiblfidaaGreatDoorSH
import Derived.Laws.BytesString
import Derived.Deep.DrawnRows
import Derived.Lib.MinMax
import Derived.RegionTactic
import Derived.BigRegion
import Derived.ChangeAlike
import Derived.Deep.RegionHeld3
import Derived.Maps.AppendAt
import Derived.Deep.RegionLaw
import Derived.Deep.RegionHeldLaw
import Derived.Laws.CopyOwn
import Derived.IntWalk
import Derived.RangeFuncNested
import Derived.RangeFuncBound
import Derived.RangeFuncCalls
import Derived.RangeFuncLeaves
import Derived.Shelf.Abstract
import Derived.Shelf.RegionOpen
import Derived.WalkKit
import Derived.OwnWalkIn
import Derived.TacticsInMore
import Derived.LoopNIn
import Derived.LoopIn
import Derived.BigRegionIn
import Derived.RegionIn
/-
  Sectors: the contracts of sector's repeat, Fill, Zero, Right, and the reference's.
-/
namespace Go.Proofs.YtpkeikbiblfidaaGreatDoor
open Go.RowKit
set_option linter.unusedVariables false
set_option linter.unusedSimpArgs false

/-- A sector of one byte. -/
def secOf (x : UInt8) : ByteArray := ⟨(List.replicate 64 x).toArray⟩
theorem secOf_size (x : UInt8) : (secOf x).size = 64 := by simp [secOf, ByteArray.size]

theorem repeatL_one /- 164 -/ (x : UInt8) : ∀ n : Nat, Lib.repeatL [x] n = List.replicate n x
  | 0 => rfl
  | n + 1 => by
    have := repeatL_one x n
    simp [Lib.repeatL] at this ⊢
    try rw [this]
    try rfl

theorem rd_string {w : World} {a : Option Addr} {n cap : Nat} {xs : List UInt8} (h : Rd w a n cap xs) :
    (convert 128 9 (.slice a n cap)).run Tryz.prog w = .ok (.string ⟨xs.toArray⟩) w := by
  cases a with
  | none =>
    have hc := h.nil rfl
    have hn : n = 0 := by have := h.le; omega
    subst hn
    obtain rfl : xs = [] := List.eq_nil_of_length_eq_zero h.len
    rw [run_convert_bytes_string w 128 9 5 none 0 cap Tryz.underlying128 Tryz.underlying5 Tryz.underlying9]
    simp [Conv.bytesToString]
    rfl
  | some x =>
    have := run_convert_bytes_back (P := Tryz.prog) w 128 9 5 x cap xs Tryz.underlying128 Tryz.underlying5 Tryz.underlying9 (fun j hj => by
      obtain ⟨b, off, e, hlt, hc⟩ := h.at0 (by rw [← h.len]; omega)
      cases e
      rw [Addr.add_none, hc j (by rw [← h.len]; exact hj), List.getElem?_eq_getElem hj]
      rfl)
    rwa [h.len] at this

set_option maxRecDepth 20000 in
set_option maxHeartbeats 400000 in
theorem repeat_any (c : Int) (x : UInt8) (hc : c = (x.toNat : Int)) (m : Int) (n : Nat) (hm : m = (n : Int)) (hn : n ≤ 1000000) (S : ByteArray) (hS : S = ⟨(List.replicate n x).toArray⟩) (w : World) :
    Calls Tryz.prog 141 #[.int .u8 c, .int .i64 m] w fun e w' => e = .returned (.string S) ∧ Below w.heap.size w w' := by
  subst hc hm
  have hrd := rd_string (one_rd w _ x rfl)
  have hr := Tryz.strings_Repeat ⟨[x].toArray⟩ n
  have e1 : (⟨[x].toArray⟩ : ByteArray).data.toList = [x] := rfl
  have e2 : (⟨[x].toArray⟩ : ByteArray).size = 1 := rfl
  rw [e1, e2, repeatL_one, ← hS] at hr
  clear hS
  obtain ⟨V, hV⟩ : ∃ V, V = Value.string ⟨[x].toArray⟩ := ⟨_, rfl⟩
  rw [← hV] at hrd
  simp only [← hV] at hr
  have HR := Lib.hid hr
  clear hr hV e1 e2
  go_enter Tryz.func141, Tryz.ntmps141
  go_wp2_with fail
  refine (HR.out _ (by omega) (by omega)).mono ?_
  rintro e w1 ⟨rfl, hb⟩
  have hb' : Below w.heap.size w w1 := ((Below.refl _ _).alloc (Nat.le_refl _) _).trans (hb.mono (by simp))
  clear hb
  go_wp2
  go_ret
  exact ⟨rfl, hb'⟩

set_option maxRecDepth 20000 in
set_option maxHeartbeats 400000 in
theorem fill_any (c : Int) (x : UInt8) (hc : c = (x.toNat : Int)) (w : World) :
    Calls Tryz.prog 99 #[.int .u8 c] w fun e w' => e = .returned (.string (secOf x)) ∧ Below w.heap.size w w' := by
  have hr := repeat_any c x hc 64 64 rfl (by omega) (secOf x) rfl w
  clear hc
  go_enter Tryz.func99, Tryz.ntmps99
  go_wp2_with fail
  refine hr.mono ?_
  rintro e w1 ⟨rfl, hb⟩
  go_wp2
  go_ret
  exact ⟨rfl, hb⟩

set_option maxRecDepth 20000 in
set_option maxHeartbeats 400000 in
theorem zero_any (w : World) :
    Calls Tryz.prog 46 #[] w fun e w' => e = .returned (.string (secOf 0)) ∧ Below w.heap.size w w' := by
  have hr := fill_any 0 0 rfl w
  go_enter Tryz.func46, Tryz.ntmps46
  go_wp2_with fail
  refine hr.mono ?_
  rintro e w1 ⟨rfl, hb⟩
  go_wp2
  go_ret
  exact ⟨rfl, hb⟩

set_option maxRecDepth 20000 in
set_option maxHeartbeats 400000 in
theorem right_any (s : ByteArray) (w : World) :
    Calls Tryz.prog 68 #[.string s] w fun e w' => e = .returned (.bool (decide (s.size = 64))) ∧ w' = w := by
  go_enter Tryz.func68, Tryz.ntmps68
  go_wp2
  go_ret
  refine ⟨?_, rfl⟩
  by_cases h : s.size = 64
  · simp [h]
  · have : ¬ ((s.size : Int) = 64) := by omega
    simp [h, this]

set_option maxRecDepth 20000 in
set_option maxHeartbeats 400000 in
theorem rright_any (s : ByteArray) (w : World) :
    Calls Tryz.prog 76 #[.string s] w fun e w' => e = .returned (.bool (decide (s.size = 64))) ∧ w' = w := by
  go_enter Tryz.func76, Tryz.ntmps76
  go_wp2
  go_ret
  refine ⟨?_, rfl⟩
  by_cases h : s.size = 64
  · simp [h]
  · have : ¬ ((s.size : Int) = 64) := by omega
    simp [h, this]

set_option maxRecDepth 20000 in
set_option maxHeartbeats 400000 in
theorem rfill_any (c : Int) (x : UInt8) (hc : c = (x.toNat : Int)) (w : World) :
    Calls Tryz.prog 78 #[.int .u8 c] w fun e w' => e = .returned (.string (secOf x)) ∧ Below w.heap.size w w' := by
  subst hc
  obtain ⟨i0, hi, hz0, hz1, hz2⟩ := info_parts Tryz.info5
  go_enter Tryz.func78, Tryz.ntmps78
  go_wp2
  go_loopw [3, 4] (fun o i wr => ∃ k : Nat, k ≤ 64 ∧ i = .int .i64 k ∧ wr.ownsRow w.heap.size 5 1 o k (bvs (List.replicate k x)) ∧ Below w.heap.size w wr) (fun _ i _ => 64 - (intOf i).toNat)
  case atStart => exact ⟨0, by omega, rfl, World.ownsRow_nil _ _ _ _, Below.refl _ _⟩
  case round =>
    obtain ⟨k, hk, rfl, hown, hB⟩ := hrel
    by_cases hlt : k < 64
    · have i1 : (k : Int) < 64 := by omega
      have hs : List.replicate (k + 1) x = List.replicate k x ++ [x] := by rw [List.replicate_succ']
      have hB1 : Below w.heap.size w (wr.alloc (.cells #[.int .u8 (x.toNat : Int)] 5)) := hB.alloc hB.size _
      have HB := Lib.hid hB1
      have hrd := one_rd wr _ x rfl
      have ho := hown.alloc (.cells #[.int .u8 (x.toNat : Int)] 5)
      clear hB1
      go_wp2_with (at_builtin; refine wpList_append_rd (o := ⟨some 12, _, _, _, _, _⟩) rfl (.tmp 9) (.tmp 11) 128 rfl w.heap.size 5 i0 Tryz.underlying128 hi hz0 hz1 hz2 _ k _ rfl ho _ 1 1 [x] rfl hrd (by omega) HB.out.size ?_)
      intro v' w5 hown5 hgrow
      rw [← hs] at hown5
      have hB5 := HB.out.grown hgrow HB.out.size (fun j hj => ?_)
      · clear hown ho hgrow hrd hB
        go_wp2
        go_roundw
        case rel => exact ⟨k + 1, by omega, by go_num, hown5, hB5⟩
        case measure => simp [intOf]; omega
      · exact (hown.lt j hj).1
    · obtain rfl : k = 64 := by omega
      obtain ⟨a, c, rfl, hrd, _⟩ := owns_shape hown (by omega)
      have hcv := rd_string hrd
      go_wp2
      go_ret
      exact ⟨rfl, hB⟩

set_option maxRecDepth 20000 in
set_option maxHeartbeats 400000 in
theorem rzero_any (w : World) :
    Calls Tryz.prog 37 #[] w fun e w' => e = .returned (.string (secOf 0)) ∧ Below w.heap.size w w' := by
  have hr := rfill_any 0 0 rfl w
  go_enter Tryz.func37, Tryz.ntmps37
  go_wp2_with fail
  refine hr.mono ?_
  rintro e w1 ⟨rfl, hb⟩
  go_wp2
  go_ret
  exact ⟨rfl, hb⟩

end Go.Proofs.YtpkeikbiblfidaaGreatDoor
/-
  A disk: its state, its answers; how it lies in memory; frames.
-/
namespace Go.Proofs.YtpkeikbiblfidaaGreatDoor
open Go.RowKit
set_option linter.unusedVariables false
set_option linter.unusedSimpArgs false

/-! ### the state -/
structure DS where
  L : List ByteArray
  W : List (Int × ByteArray)
  left : Int
  off : Bool
  did : Nat

def noBytes : ByteArray := ⟨#[]⟩
def wAt (W : List (Int × ByteArray)) (i : Nat) : Int × ByteArray := W[i]?.getD (0, noBytes)
def lAt (L : List ByteArray) (i : Nat) : ByteArray := L[i]?.getD noBytes

def look (W : List (Int × ByteArray)) (at' : Int) (d : ByteArray) : Nat → ByteArray
  | 0 => d
  | i + 1 => if (wAt W i).1 = at' then (wAt W i).2 else look W at' d i
def appW (L : List ByteArray) (W : List (Int × ByteArray)) : Nat → List ByteArray
  | 0 => L
  | i + 1 => (appW L W i).set (wAt W i).1.toNat (wAt W i).2
def appK (L : List ByteArray) (W : List (Int × ByteArray)) (K : List Bool) : Nat → List ByteArray
  | 0 => L
  | i + 1 => if K[i]?.getD false = true then (appK L W K i).set (wAt W i).1.toNat (wAt W i).2 else appK L W K i

theorem appW_length (L W i) : (appW L W i).length = L.length := by
  induction i with
  | zero => rfl
  | succ i ih => simp [appW, ih]
theorem appK_length (L W K i) : (appK L W K i).length = L.length := by
  induction i with
  | zero => rfl
  | succ i ih => unfold appK; split <;> simp [ih]
theorem appK_end (L W) (K : List Bool) (i j : Nat) (h : K.length ≤ i) (hij : i ≤ j) : appK L W K j = appK L W K i := by
  induction j with
  | zero => obtain rfl : i = 0 := by omega
            rfl
  | succ j ih =>
    rcases Nat.lt_or_ge j i with h1 | h1
    · obtain rfl : i = j + 1 := by omega
      rfl
    · have e : appK L W K (j + 1) = appK L W K j := by
        show (if K[j]?.getD false = true then _ else _) = _
        rw [List.getElem?_eq_none (by omega), if_neg (by simp)]
      rw [e]; exact ih h1

def DS.has (S : DS) (at' : Int) : Prop := 0 ≤ at' ∧ at' < (S.L.length : Int)
instance (S : DS) (at' : Int) : Decidable (S.has at') := inferInstanceAs (Decidable (_ ∧ _))
def DS.burnt (S : DS) : DS := if S.left = 0 then { S with off := true, left := -1 } else { S with left := if 0 < S.left then S.left - 1 else S.left, did := S.did + 1 }
def DS.kept (S : DS) (at' : Int) : ByteArray × Int := if S.has at' then (lAt S.L at'.toNat, 0) else (noBytes, 3)
def DS.read (S : DS) (at' : Int) : ByteArray × Int := if S.off = true then (noBytes, 5) else if S.has at' then (look S.W at' (lAt S.L at'.toNat) S.W.length, 0) else (noBytes, 3)
def DS.write (S : DS) (at' : Int) (data : ByteArray) : Int × DS :=
  if S.off = true then (5, S) else if S.has at' then (if data.size = 64 then (if S.left = 0 then (5, S.burnt) else (0, ⟨S.burnt.L, S.W ++ [(at', data)], S.burnt.left, S.burnt.off, S.burnt.did⟩)) else (4, S)) else (3, S)
def DS.flush (S : DS) : Int × DS := if S.off = true then (5, S) else if S.left = 0 then (5, S.burnt) else (0, ⟨appW S.L S.W S.W.length, [], S.burnt.left, S.burnt.off, S.burnt.did⟩)
def DS.fuse (S : DS) (n : Int) : DS := { S with left := if 0 ≤ n then n else -1 }
def DS.crash (S : DS) (K : List Bool) : DS := { S with L := appK S.L S.W K S.W.length, W := [], left := -1, off := true }
def DS.up (S : DS) : Int × DS := if S.off = true then (0, { S with off := false, W := [], left := -1 }) else (21, S)

structure DS.ok (S : DS) (N : Nat) : Prop where
  ats : ∀ i, i < S.W.length → S.has (wAt S.W i).1
  low : -1 ≤ S.left
  high : S.left ≤ 9223372036854775807
  few : S.W.length ≤ S.did
  did : S.did ≤ N
  len : S.L.length ≤ 1200

theorem wAt_append_lt {W : List (Int × ByteArray)} {x} {i : Nat} (h : i < W.length) : wAt (W ++ [x]) i = wAt W i := by
  unfold wAt; rw [List.getElem?_append_left h]
theorem wAt_append_eq {W : List (Int × ByteArray)} {x} : wAt (W ++ [x]) W.length = x := by
  unfold wAt; simp

theorem DS.ok.mono {S : DS} {N M : Nat} (h : S.ok N) (hl : N ≤ M) : S.ok M := ⟨h.ats, h.low, h.high, h.few, Nat.le_trans h.did hl, h.len⟩

theorem DS.ok.burnt {S : DS} {N : Nat} (h : S.ok N) : S.burnt.ok (N + 1) := by
  have h1 := h.low; have h2 := h.high; have h3 := h.few; have h4 := h.did
  unfold DS.burnt
  split
  · exact ⟨h.ats, by simp, by simp, h3, by simp; omega, h.len⟩
  · refine ⟨h.ats, ?_, ?_, by simp; omega, by simp; omega, h.len⟩
    · show -1 ≤ (if 0 < S.left then S.left - 1 else S.left); split <;> omega
    · show (if 0 < S.left then S.left - 1 else S.left) ≤ _; split <;> omega

theorem DS.ok.write {S : DS} {N : Nat} (h : S.ok N) (at' : Int) (data : ByteArray) : (S.write at' data).2.ok (N + 1) := by
  unfold DS.write
  split
  · exact h.mono (by omega)
  · split
    · rename_i hh
      split
      · split
        · exact h.burnt
        · rename_i hl
          have hb := h.burnt
          have e1 : S.burnt.W = S.W := by unfold DS.burnt; split <;> rfl
          have e2 : S.burnt.L = S.L := by unfold DS.burnt; split <;> rfl
          have e3 : S.burnt.did = S.did + 1 := by unfold DS.burnt; rw [if_neg hl]
          refine ⟨?_, hb.low, hb.high, ?_, hb.did, hb.len⟩
          · intro i hi
            show DS.has _ _
            unfold DS.has
            simp only [List.length_append, List.length_singleton] at hi ⊢
            rw [e2]
            rcases Nat.lt_or_ge i S.W.length with h1 | h1
            · rw [wAt_append_lt h1]; exact h.ats i h1
            · obtain rfl : i = S.W.length := by omega
              rw [wAt_append_eq]; exact hh
          · have := h.few
            simp [e3]; omega
      · exact h.mono (by omega)
    · exact h.mono (by omega)

theorem DS.ok.flush {S : DS} {N : Nat} (h : S.ok N) : S.flush.2.ok (N + 1) := by
  unfold DS.flush
  split
  · exact h.mono (by omega)
  · split
    · exact h.burnt
    · have hb := h.burnt
      exact ⟨fun i hi => by simp at hi, hb.low, hb.high, by simp, hb.did, by simp only [appW_length]; exact h.len⟩

theorem DS.ok.fuse {S : DS} {N : Nat} (h : S.ok N) (n : Int) (hn : n ≤ 9223372036854775807) : (S.fuse n).ok N :=
  ⟨h.ats, by show -1 ≤ (if 0 ≤ n then n else -1); split <;> omega, by show (if 0 ≤ n then n else -1) ≤ _; split <;> omega, h.few, h.did, h.len⟩
theorem DS.ok.crash {S : DS} {N : Nat} (h : S.ok N) (K : List Bool) : (S.crash K).ok N :=
  ⟨fun i hi => by simp [DS.crash] at hi, by simp [DS.crash], by simp [DS.crash], by simp [DS.crash], h.did, by simp only [DS.crash, appK_length]; exact h.len⟩
theorem DS.ok.up {S : DS} {N : Nat} (h : S.ok N) : S.up.2.ok N := by
  unfold DS.up
  split
  · exact ⟨fun i hi => by simp at hi, by simp, by simp, by simp, h.did, h.len⟩
  · exact h

/-! ### cells -/
def strs (L : List ByteArray) : List Value := L.map Value.string
def puts (W : List (Int × ByteArray)) : List Value := W.flatMap fun x => [.int .i64 x.1, .string x.2]
theorem strs_length (L) : (strs L).length = L.length := by simp [strs]
theorem puts_length : ∀ W, (puts W).length = W.length * 2
  | [] => rfl
  | x :: W => by
    have := puts_length W
    simp [puts] at this ⊢
    omega
theorem puts_append (W X) : puts (W ++ X) = puts W ++ puts X := by simp [puts]
theorem strs_at {L : List ByteArray} {i : Nat} (h : i < L.length) : (strs L)[i]? = some (.string (lAt L i)) := by
  simp [strs, lAt, List.getElem?_eq_getElem h]
theorem puts_at : ∀ (W : List (Int × ByteArray)) (i : Nat), i < W.length → (puts W)[i * 2]? = some (.int .i64 (wAt W i).1) ∧ (puts W)[i * 2 + 1]? = some (.string (wAt W i).2)
  | [], i, h => by simp at h
  | x :: W, 0, h => ⟨rfl, rfl⟩
  | x :: W, i + 1, h => by
    have := puts_at W i (by simpa using h)
    have e : puts (x :: W) = .int .i64 x.1 :: .string x.2 :: puts W := by simp [puts]
    rw [e, show (i + 1) * 2 = i * 2 + 2 from by omega, show i * 2 + 2 + 1 = i * 2 + 1 + 2 from by omega]
    exact this
theorem strs_one (L) : ∀ u ∈ strs L, u.oneCell' = true := by
  intro u hu; simp only [strs, List.mem_map] at hu; obtain ⟨x, _, rfl⟩ := hu; rfl
theorem puts_one (W) : ∀ u ∈ puts W, u.oneCell' = true := by
  intro u hu
  simp only [puts, List.mem_flatMap] at hu
  obtain ⟨x, _, hu⟩ := hu
  simp at hu
  rcases hu with rfl | rfl <;> rfl

theorem Tryz.info9 : (Tryz.prog.info? 9).map (fun i => (i.zero, i.size, i.bytes)) = some (some (.string noBytes), 1, 16) := by kernel_rfl
theorem Tryz.infoPut : (Tryz.prog.info? 104).map (fun i => (i.zero, i.size, i.bytes)) = some (some (.agg #[.int .i64 0, .string noBytes]), 2, 24) := by kernel_rfl

/-! ### frames -/
structure Fr (A : Nat → Prop) (w w' : World) : Prop where
  os : w'.os = w.os
  tape : w'.tape = w.tape
  output : w'.output = w.output
  size : w.heap.size ≤ w'.heap.size
  block : ∀ k, k < w.heap.size → ¬ A k → w'.heap[k]? = w.heap[k]?

theorem Fr.refl (A w) : Fr A w w := ⟨rfl, rfl, rfl, Nat.le_refl _, fun _ _ _ => rfl⟩
theorem Fr.trans {A A' : Nat → Prop} {a b c : World} (h : Fr A a b) (k : Fr A' b c) (hs : ∀ i, A' i → A i ∨ a.heap.size ≤ i) : Fr A a c :=
  ⟨k.os.trans h.os, k.tape.trans h.tape, k.output.trans h.output, Nat.le_trans h.size k.size, fun i hi hne =>
    (k.block i (Nat.lt_of_lt_of_le hi h.size) (fun e => by rcases hs i e with e | e; exact hne e; omega)).trans (h.block i hi hne)⟩
theorem Fr.mono {A A' : Nat → Prop} {w w' : World} (h : Fr A w w') (hs : ∀ i, A i → A' i) : Fr A' w w' := ⟨h.os, h.tape, h.output, h.size, fun i hi hn => h.block i hi fun e => hn (hs i e)⟩
theorem Fr.of_below {A : Nat → Prop} {w w' : World} (h : Below w.heap.size w w') : Fr A w w' := ⟨h.os, h.tape, h.output, h.size, fun k hk _ => h.block k hk⟩
theorem Fr.below {A : Nat → Prop} {B : Nat} {w w' : World} (h : Fr A w w') (hB : ∀ k, A k → B ≤ k) (hs : B ≤ w.heap.size) : Below B w w' :=
  ⟨h.os, h.tape, h.output, h.size, fun k hk => h.block k (by omega) fun e => by have := hB k e; omega⟩
theorem Fr.drew {A : Nat → Prop} {w w' : World} (h : Fr A w w') : Fr A w w'.drew := ⟨h.os, h.tape, h.output, h.size, h.block⟩
theorem Fr.drewN {A : Nat → Prop} {w w' : World} (h : Fr A w w') (n : Nat) : Fr A w (w'.drewN n) := ⟨h.os, h.tape, h.output, h.size, h.block⟩
theorem Fr.set {A : Nat → Prop} {w w' : World} (h : Fr A w w') {p i : Nat} {u : Value} (hp : A p ∨ w.heap.size ≤ p) : Fr A w (w'.setCell ⟨p, i, none⟩ u) :=
  ⟨h.os, h.tape, h.output, by simpa [World.setCell] using h.size, fun k hk hne => by
    rw [Below.heap_setCell _ _ _ _ (fun e => by simp at e; subst e; rcases hp with hp | hp; exact hne hp; omega)]; exact h.block k hk hne⟩
theorem Fr.alloc {A : Nat → Prop} {w w' : World} (h : Fr A w w') (o : Obj) : Fr A w (w'.alloc o) :=
  ⟨h.os, h.tape, h.output, by have := h.size; simp; omega, fun k hk hne => by rw [Below.heap_alloc _ _ _ (Nat.lt_of_lt_of_le hk h.size)]; exact h.block k hk hne⟩
theorem Fr.grown {A : Nat → Prop} {w w' w'' : World} {row : Option Nat} (h : Fr A w w') (g : w'.grownBy w'' row) (hr : ∀ k, row = some k → A k ∨ w.heap.size ≤ k) : Fr A w w'' :=
  ⟨g.os.trans h.os, g.tape.trans h.tape, g.output.trans h.output, Nat.le_trans h.size g.size, fun k hk hne =>
    (g.block k (Nat.lt_of_lt_of_le hk h.size) (fun e => by rcases hr k e.symm with e | e; exact hne e; omega)).trans (h.block k hk hne)⟩

/-! ### a disk in memory -/
def foot (p : Nat) (v1 v2 : Value) (k : Nat) : Prop := k = p ∨ v1.ownBlock = some k ∨ v2.ownBlock = some k

structure Dk (w : World) (B p : Nat) (ty : TypeId) (rest : List Value) (v1 v2 : Value) (S : DS) : Prop where
  blk : w.heap[p]? = some (.cells (v1 :: v2 :: rest).toArray ty (0, 0))
  low : B ≤ p
  own1 : w.ownsRow B 9 1 v1 S.L.length (strs S.L)
  own2 : w.ownsRow B 104 2 v2 S.W.length (puts S.W)

theorem owns_kept {w w' : World} {B e size n : Nat} {v : Value} {xs : List Value} (h : w.ownsRow B e size v n xs) (hk : ∀ k, v.ownBlock = some k → w'.heap[k]? = w.heap[k]?) : w'.ownsRow B e size v n xs := by
  refine ⟨h.1, ?_⟩
  rcases h.2 with hn | ⟨g, cap, cur, rfl, hb, hgg, rest⟩
  · exact .inl hn
  · exact .inr ⟨g, cap, cur, rfl, hb, by rw [hk g rfl]; exact hgg, rest⟩

theorem owns_type {w : World} {B e size n : Nat} {v : Value} {xs : List Value} (h : w.ownsRow B e size v n xs) {k : Nat} (hk : v.ownBlock = some k) : ∃ cur, w.heap[k]? = some (.cells cur e (0, 0)) := by
  rcases h.2 with ⟨rfl, _⟩ | ⟨g, cap, cur, rfl, hb, hgg, _⟩
  · simp [Value.ownBlock] at hk
  · simp [Value.ownBlock] at hk
    subst hk
    exact ⟨cur, hgg⟩

theorem Dk.lt {w B p ty rest v1 v2 S} (h : Dk w B p ty rest v1 v2 S) : p < w.heap.size := lt_of_block h.blk
theorem Dk.foot_low {w B p ty rest v1 v2 S} (h : Dk w B p ty rest v1 v2 S) : ∀ k, foot p v1 v2 k → B ≤ k ∧ k < w.heap.size := by
  rintro k (rfl | e | e)
  · exact ⟨h.low, h.lt⟩
  · exact h.own1.lt k e
  · exact h.own2.lt k e
theorem Dk.kept {w w' : World} {B p ty rest v1 v2 S} (h : Dk w B p ty rest v1 v2 S) (hk : ∀ k, foot p v1 v2 k → w'.heap[k]? = w.heap[k]?) : Dk w' B p ty rest v1 v2 S :=
  ⟨(hk p (.inl rfl)).trans h.blk, h.low, owns_kept h.own1 fun k e => hk k (.inr (.inl e)), owns_kept h.own2 fun k e => hk k (.inr (.inr e))⟩
theorem Dk.fr {w w' : World} {A : Nat → Prop} {B p ty rest v1 v2 S} (h : Dk w B p ty rest v1 v2 S) (hf : Fr A w w') (hd : ∀ k, foot p v1 v2 k → ¬ A k) : Dk w' B p ty rest v1 v2 S :=
  h.kept fun k hk => hf.block k (h.foot_low k hk).2 (hd k hk)
theorem Dk.ne1 {w B p ty rest v1 v2 S} (h : Dk w B p ty rest v1 v2 S) (ht : ty ≠ 9) : v1.ownBlock ≠ some p := fun e => by
  obtain ⟨cur, hc⟩ := owns_type h.own1 e
  rw [h.blk] at hc
  simp at hc
  exact ht hc.2
theorem Dk.ne2 {w B p ty rest v1 v2 S} (h : Dk w B p ty rest v1 v2 S) (ht : ty ≠ 104) : v2.ownBlock ≠ some p := fun e => by
  obtain ⟨cur, hc⟩ := owns_type h.own2 e
  rw [h.blk] at hc
  simp at hc
  exact ht hc.2
theorem Dk.ne12 {w B p ty rest v1 v2 S} (h : Dk w B p ty rest v1 v2 S) {k : Nat} (h1 : v1.ownBlock = some k) : v2.ownBlock ≠ some k := fun e => by
  obtain ⟨c1, hc1⟩ := owns_type h.own1 h1
  obtain ⟨c2, hc2⟩ := owns_type h.own2 e
  rw [hc1] at hc2
  simp at hc2

/-- The head's cells are other ones. -/
theorem Dk.head {w w' : World} {B p ty rest rest' v1 v2 v2' S S'} (h : Dk w B p ty rest v1 v2 S) (hg : w.grownBy w' (some p)) (ht : ty ≠ 9) (ht2 : ty ≠ 104) (hb : w'.heap[p]? = some (.cells (v1 :: v2' :: rest').toArray ty (0, 0)))
    (hL : S'.L = S.L) (hW : v2' = v2 ∧ S'.W = S.W ∨ v2' = .slice none 0 0 ∧ S'.W = []) : Dk w' B p ty rest' v1 v2' S' := by
  refine ⟨hb, h.low, ?_, ?_⟩
  · rw [hL]; exact h.own1.kept hg (.inr (h.ne1 ht))
  · rcases hW with ⟨rfl, e⟩ | ⟨rfl, e⟩
    · rw [e]; exact h.own2.kept hg (.inr (h.ne2 ht2))
    · rw [e]; exact World.ownsRow_nil _ _ _ _

theorem owns_shape1 {w : World} {B n : Nat} {v : Value} {e size : Nat} {xs : List Value} (h : w.ownsRow B e size v n xs) : ∃ a c, v = .slice a n c ∧ n ≤ c ∧ c ≤ maxLen ∧ (0 < n → ∃ g, a = some ⟨g, 0, none⟩ ∧ v.ownBlock = some g ∧ B ≤ g ∧ g < w.heap.size) := by
  have H := h
  obtain ⟨_, h2⟩ := h
  rcases h2 with ⟨rfl, rfl⟩ | ⟨g, cap, cur, rfl, hB, hh, hle, hm, _, _⟩
  · exact ⟨none, 0, rfl, Nat.le_refl _, by unfold maxLen; omega, fun h => by omega⟩
  · exact ⟨_, _, rfl, hle, hm, fun _ => ⟨g, rfl, rfl, hB, (H.lt g rfl).2⟩⟩

/-- One cell of a row is another one. -/
theorem owns_set {w : World} {B e size n : Nat} {v : Value} {xs : List Value} (h : w.ownsRow B e size v n xs) {g j : Nat} (hg : v.ownBlock = some g) (u : Value) (hj : j < xs.length) :
    (w.setCell ⟨g, j, none⟩ u).ownsRow B e size v n (xs.set j u) := by
  obtain ⟨h1, h2⟩ := h
  refine ⟨by simpa using h1, ?_⟩
  rcases h2 with ⟨rfl, _⟩ | ⟨g', cap, cur, rfl, hB, hh, hle, hm, hc, ht⟩
  · simp [Value.ownBlock] at hg
  · simp [Value.ownBlock] at hg
    subst hg
    refine .inr ⟨g', cap, cur.setIfInBounds j u, rfl, hB, blk_setCell hh, hle, hm, by simpa using hc, ?_⟩
    rw [← ht]
    simp only [Array.toList_setIfInBounds]
    rw [List.take_set]

theorem owns_set_other {w : World} {B e size n : Nat} {v : Value} {xs : List Value} (h : w.ownsRow B e size v n xs) {g j : Nat} (hg : v.ownBlock ≠ some g) (u : Value) :
    (w.setCell ⟨g, j, none⟩ u).ownsRow B e size v n xs :=
  h.kept (gb_setCell (World.grownBy.refl _ _)) (.inr hg)

theorem owns_drew {w : World} {B e size n : Nat} {v : Value} {xs : List Value} (h : w.ownsRow B e size v n xs) : w.drew.ownsRow B e size v n xs := owns_kept h fun _ _ => rfl

theorem strs_set (L : List ByteArray) (j : Nat) (s : ByteArray) : (strs L).set j (.string s) = strs (L.set j s) := by simp [strs]

theorem owns_free {w : World} {B e size n : Nat} {v : Value} {xs : List Value} (h : w.ownsRow B e size v n xs) {g : Nat} (hg : v.ownBlock = some g) (j : Nat) : w.frozen? ⟨g, j, none⟩ = false := by
  obtain ⟨cur, hc⟩ := owns_type h hg
  exact free_of_blk hc j

theorem owns_cell {w : World} {B e size n : Nat} {v : Value} {xs : List Value} (h : w.ownsRow B e size v n xs) {g : Nat} (hg : v.ownBlock = some g) (j : Nat) (u : Value) (hu : xs[j]? = some u) : w.cell? ⟨g, j, none⟩ = some u := by
  have := h.cells hg j u hu
  rwa [Addr.add_none, Nat.zero_add] at this

end Go.Proofs.YtpkeikbiblfidaaGreatDoor
/-
  Contracts of the program's disk: state, has, burn, forget, Len, Down, Done, Kept, Fuse, Up, Write.
-/
namespace Go.Proofs.YtpkeikbiblfidaaGreatDoor
open Go.RowKit
set_option linter.unusedVariables false
set_option linter.unusedSimpArgs false

/-- The program's disk at block p. -/
def PD (w : World) (B p : Nat) (v1 v2 : Value) (S : DS) : Prop :=
  ∃ fu : Int, Dk w B p 91 [.bool S.off, .bool (decide (0 ≤ S.left)), .int .i64 fu, .int .i64 (S.did : Int)] v1 v2 S ∧ (0 ≤ S.left → fu = S.left)

theorem PD.dk {w B p v1 v2 S} (h : PD w B p v1 v2 S) : ∃ rest, Dk w B p 91 rest v1 v2 S := by
  obtain ⟨fu, h, _⟩ := h; exact ⟨_, h⟩
theorem PD.lt {w B p v1 v2 S} (h : PD w B p v1 v2 S) : p < w.heap.size := by obtain ⟨_, d⟩ := h.dk; exact d.lt
theorem PD.low {w B p v1 v2 S} (h : PD w B p v1 v2 S) : B ≤ p := by obtain ⟨_, d⟩ := h.dk; exact d.low
theorem PD.foot_low {w B p v1 v2 S} (h : PD w B p v1 v2 S) : ∀ k, foot p v1 v2 k → B ≤ k ∧ k < w.heap.size := by obtain ⟨_, d⟩ := h.dk; exact d.foot_low
theorem PD.kept {w w' : World} {B p v1 v2 S} (h : PD w B p v1 v2 S) (hk : ∀ k, foot p v1 v2 k → w'.heap[k]? = w.heap[k]?) : PD w' B p v1 v2 S := by
  obtain ⟨fu, d, e⟩ := h; exact ⟨fu, d.kept hk, e⟩
theorem PD.fr {w w' : World} {A : Nat → Prop} {B p v1 v2 S} (h : PD w B p v1 v2 S) (hf : Fr A w w') (hd : ∀ k, foot p v1 v2 k → ¬ A k) : PD w' B p v1 v2 S :=
  h.kept fun k hk => hf.block k (h.foot_low k hk).2 (hd k hk)
theorem PD.below {w w' : World} {B p v1 v2 S} (h : PD w B p v1 v2 S) (hb : Below w.heap.size w w') : PD w' B p v1 v2 S := h.kept fun k hk => hb.block k (h.foot_low k hk).2

/-- What a call leaves of the disk. -/
def PP (w : World) (B p : Nat) (v1 v2 : Value) (S : DS) (w' : World) : Prop :=
  ∃ v1' v2', PD w' B p v1' v2' S ∧ Fr (foot p v1 v2) w w' ∧ ∀ k, foot p v1' v2' k → foot p v1 v2 k ∨ w.heap.size ≤ k

theorem PP.same {w : World} {B p v1 v2 S} (h : PD w B p v1 v2 S) : PP w B p v1 v2 S w := ⟨v1, v2, h, Fr.refl _ _, fun k hk => .inl hk⟩

theorem PD.cells {w B p v1 v2 S} (h : PD w B p v1 v2 S) : ∃ fu : Int, (0 ≤ S.left → fu = S.left) ∧ w.cell? ⟨p, 0, none⟩ = some v1 ∧ w.cell? ⟨p, 1, none⟩ = some v2 ∧ w.cell? ⟨p, 2, none⟩ = some (.bool S.off) ∧
    w.cell? ⟨p, 3, none⟩ = some (.bool (decide (0 ≤ S.left))) ∧ w.cell? ⟨p, 4, none⟩ = some (.int .i64 fu) ∧ w.cell? ⟨p, 5, none⟩ = some (.int .i64 (S.did : Int)) ∧ (∀ i, w.frozen? ⟨p, i, none⟩ = false) := by
  obtain ⟨fu, d, e⟩ := h
  exact ⟨fu, e, by rw [cell_of_blk d.blk]; rfl, by rw [cell_of_blk d.blk]; rfl, by rw [cell_of_blk d.blk]; rfl, by rw [cell_of_blk d.blk]; rfl, by rw [cell_of_blk d.blk]; rfl, by rw [cell_of_blk d.blk]; rfl, fun i => free_of_blk d.blk i⟩

/-- The head has been written: what there is then. -/
theorem PD.head {w w' : World} {B p v1 v2 v2' S S'} (h : PD w B p v1 v2 S) (hg : w.grownBy w' (some p)) (fu : Int) {cs : Array Value} (hb : w'.heap[p]? = some (.cells cs 91 (0, 0)))
    (hcs : cs = #[v1, v2', .bool S'.off, .bool (decide (0 ≤ S'.left)), .int .i64 fu, .int .i64 (S'.did : Int)])
    (hf : 0 ≤ S'.left → fu = S'.left) (hL : S'.L = S.L) (hW : v2' = v2 ∧ S'.W = S.W ∨ v2' = .slice none 0 0 ∧ S'.W = []) : PD w' B p v1 v2' S' := by
  subst hcs
  obtain ⟨f0, d, e⟩ := h
  exact ⟨fu, d.head hg (by decide) (by decide) hb hL hW, hf⟩

theorem fr_head {w w' : World} {p : Nat} {v1 v2 : Value} (hg : w.grownBy w' (some p)) : Fr (foot p v1 v2) w w' := (Fr.refl _ _).grown hg (fun k e => by cases e; exact .inl (.inl rfl))

theorem PP.head {w w' : World} {B p v1 v2 v2' S'} (h' : PD w' B p v1 v2' S') (hg : w.grownBy w' (some p)) (hv : v2' = v2 ∨ v2' = .slice none 0 0) : PP w B p v1 v2 S' w' := by
  refine ⟨v1, v2', h', fr_head hg, ?_⟩
  rintro k (rfl | e | e)
  · exact .inl (.inl rfl)
  · exact .inl (.inr (.inl e))
  · rcases hv with rfl | rfl
    · exact .inl (.inr (.inr e))
    · simp [Value.ownBlock] at e

theorem PD.blk {w B p v1 v2 S} (h : PD w B p v1 v2 S) : ∃ fu : Int, (0 ≤ S.left → fu = S.left) ∧ w.heap[p]? = some (.cells #[v1, v2, .bool S.off, .bool (decide (0 ≤ S.left)), .int .i64 fu, .int .i64 (S.did : Int)] 91 (0, 0)) := by
  obtain ⟨fu, d, e⟩ := h
  exact ⟨fu, e, d.blk⟩

set_option maxRecDepth 20000 in
set_option maxHeartbeats 400000 in
theorem state_any (p : Nat) (c : Bool) (w : World) (hc : w.cell? ⟨p, 2, none⟩ = some (.bool c)) :
    Calls Tryz.prog 66 #[.pointer (some ⟨p, 0, none⟩)] w fun e w' => e = .returned (.int .i64 (if c = true then 5 else 0)) ∧ w' = w := by
  cases c <;> (
  go_enter Tryz.func66, Tryz.ntmps66
  go_wp2
  go_ret
  exact ⟨rfl, rfl⟩)

set_option maxRecDepth 20000 in
set_option maxHeartbeats 400000 in
theorem state_nil (w : World) :
    Calls Tryz.prog 66 #[.pointer none] w fun e w' => e = .returned (.int .i64 1) ∧ w' = w := by
  go_enter Tryz.func66, Tryz.ntmps66
  go_wp2
  go_ret
  exact ⟨rfl, rfl⟩

set_option maxRecDepth 20000 in
set_option maxHeartbeats 400000 in
theorem has_any (p : Nat) (at' : Int) (a : Option Addr) (n c : Nat) (w : World) (hc : w.cell? ⟨p, 0, none⟩ = some (.slice a n c)) :
    Calls Tryz.prog 67 #[.pointer (some ⟨p, 0, none⟩), .int .i64 at'] w fun e w' => e = .returned (.bool (decide (0 ≤ at' ∧ at' < (n : Int)))) ∧ w' = w := by
  by_cases h0 : 0 ≤ at'
  · by_cases h1 : at' < (n : Int)
    · go_enter Tryz.func67, Tryz.ntmps67
      go_wp2
      go_ret
      exact ⟨by simp [h0, h1], rfl⟩
    · go_enter Tryz.func67, Tryz.ntmps67
      go_wp2
      go_ret
      exact ⟨by simp [h0, h1], rfl⟩
  · go_enter Tryz.func67, Tryz.ntmps67
    go_wp2
    go_ret
    exact ⟨by simp; intro h; omega, rfl⟩

set_option maxRecDepth 20000 in
set_option maxHeartbeats 400000 in
theorem burn_out (B p : Nat) (v1 v2 : Value) (S : DS) (w : World) (h : PD w B p v1 v2 S) (hl : S.left = 0) :
    Calls Tryz.prog 69 #[.pointer (some ⟨p, 0, none⟩)] w fun e w' => e = .returned (.int .i64 5) ∧ PD w' B p v1 v2 S.burnt ∧ w.grownBy w' (some p) := by
  obtain ⟨fu, e, c0, c1, c2, c3, c4, c5, hf⟩ := h.cells
  obtain ⟨fu', e', hb⟩ := h.blk
  obtain rfl := e (by omega)
  rw [hl] at c3 c4
  have H := Lib.hid h
  have HB := Lib.hid hb
  clear h hb
  go_enter Tryz.func69, Tryz.ntmps69
  go_wp2
  go_ret
  refine ⟨rfl, H.out.head (gb_setCell (gb_setCell (World.grownBy.refl _ _))) fu' (blk_setCell (blk_setCell HB.out)) ?_ ?_ ?_ (.inl ⟨rfl, ?_⟩), (gb_setCell (gb_setCell (World.grownBy.refl _ _)))⟩
  · simp [DS.burnt, hl]
  · simp [DS.burnt, hl]
  · simp [DS.burnt, hl]
  · simp [DS.burnt, hl]

set_option maxRecDepth 20000 in
set_option maxHeartbeats 400000 in
theorem burn_go (B p : Nat) (v1 v2 : Value) (S : DS) (w : World) (h : PD w B p v1 v2 S) (hl : S.left ≠ 0) (hhi : S.left ≤ 9223372036854775807) (hd : (S.did : Int) ≤ 1000000) :
    Calls Tryz.prog 69 #[.pointer (some ⟨p, 0, none⟩)] w fun e w' => e = .returned (.int .i64 0) ∧ PD w' B p v1 v2 S.burnt ∧ w.grownBy w' (some p) := by
  obtain ⟨fu, e, c0, c1, c2, c3, c4, c5, hf⟩ := h.cells
  have hb := (h.blk)
  have H := Lib.hid h
  by_cases h0 : 0 ≤ S.left
  · obtain rfl := e h0
    obtain ⟨fu', e', hb⟩ := hb
    obtain rfl := e' h0
    have HB := Lib.hid hb
    clear h hb e e'
    simp only [h0, decide_true] at c3
    generalize hx : S.left = x at c4
    have hx0 : 0 < x := by omega
    have hbt : S.burnt = { S with left := S.left - 1, did := S.did + 1 } := by
      unfold DS.burnt; rw [if_neg hl, if_pos (by omega)]
    generalize hy : (S.did : Int) = y at c5
    have e1 : (x == 0) = false := by simp; omega
    go_enter Tryz.func69, Tryz.ntmps69
    go_wp2
    go_ret
    refine ⟨rfl, H.out.head (gb_setCell (gb_setCell (World.grownBy.refl _ _))) (x - 1) (blk_setCell (blk_setCell HB.out)) ?_ ?_ ?_ (.inl ⟨rfl, ?_⟩), (gb_setCell (gb_setCell (World.grownBy.refl _ _)))⟩
    · rw [hbt]
      simp [← hx, ← hy, h0]
      omega
    · rw [hbt]; intro _; show x - 1 = S.left - 1; rw [hx]
    · rw [hbt]
    · rw [hbt]
  · obtain ⟨fu', e', hb⟩ := hb
    have HB := Lib.hid hb
    clear h hb e e'
    simp only [h0, decide_false] at c3
    have hbt : S.burnt = { S with left := S.left, did := S.did + 1 } := by
      unfold DS.burnt; rw [if_neg hl, if_neg (by omega)]
    generalize hy : (S.did : Int) = y at c5
    go_enter Tryz.func69, Tryz.ntmps69
    go_wp2
    go_ret
    refine ⟨rfl, H.out.head (gb_setCell (World.grownBy.refl _ _)) fu' (blk_setCell HB.out) ?_ ?_ ?_ (.inl ⟨rfl, ?_⟩), (gb_setCell (World.grownBy.refl _ _))⟩
    · try rw [hbt]
      simp [← hy]
    · try rw [hbt]
      intro h5
      have h6 : 0 ≤ S.left := h5
      omega
    · first | rfl | (rw [hbt])
    · first | rfl | (rw [hbt])

set_option maxRecDepth 20000 in
set_option maxHeartbeats 400000 in
theorem forget_any (p : Nat) (v1 v2 : Value) (x : Bool) (y : Bool) (fu did : Int) (w : World) (hb : w.heap[p]? = some (.cells #[v1, v2, .bool x, .bool y, .int .i64 fu, .int .i64 did] 91 (0, 0))) :
    Calls Tryz.prog 89 #[.pointer (some ⟨p, 0, none⟩)] w fun e w' => e = .returned (.tuple #[]) ∧ w'.heap[p]? = some (.cells #[v1, .slice none 0 0, .bool x, .bool false, .int .i64 0, .int .i64 did] 91 (0, 0)) ∧ w.grownBy w' (some p) := by
  have c1 : w.cell? ⟨p, 1, none⟩ = some v2 := by rw [cell_of_blk hb]; rfl
  have c3 : w.cell? ⟨p, 3, none⟩ = some (.bool y) := by rw [cell_of_blk hb]; rfl
  have c4 : w.cell? ⟨p, 4, none⟩ = some (.int .i64 fu) := by rw [cell_of_blk hb]; rfl
  have hf : ∀ i, w.frozen? ⟨p, i, none⟩ = false := fun i => free_of_blk hb i
  have HB := Lib.hid hb
  clear hb
  go_enter Tryz.func89, Tryz.ntmps89
  go_wp2
  refine bodyPost_end (results_none rfl _ _ _) rfl ?_
  exact ⟨rfl, (blk_setCell (blk_setCell (blk_setCell HB.out))).trans (by simp), gb_setCell (gb_setCell (gb_setCell (World.grownBy.refl _ _)))⟩

set_option maxRecDepth 20000 in
set_option maxHeartbeats 400000 in
theorem len_any (p : Nat) (a : Option Addr) (n c : Nat) (w : World) (hc : w.cell? ⟨p, 0, none⟩ = some (.slice a n c)) :
    Calls Tryz.prog 58 #[.pointer (some ⟨p, 0, none⟩)] w fun e w' => e = .returned (.int .i64 (n : Int)) ∧ w' = w := by
  go_enter Tryz.func58, Tryz.ntmps58
  go_wp2
  go_ret
  exact ⟨rfl, rfl⟩
set_option maxRecDepth 20000 in
set_option maxHeartbeats 400000 in
theorem len_nil (w : World) : Calls Tryz.prog 58 #[.pointer none] w fun e w' => e = .returned (.int .i64 0) ∧ w' = w := by
  go_enter Tryz.func58, Tryz.ntmps58
  go_wp2
  go_ret
  exact ⟨rfl, rfl⟩
set_option maxRecDepth 20000 in
set_option maxHeartbeats 400000 in
theorem down_any (p : Nat) (c : Bool) (w : World) (hc : w.cell? ⟨p, 2, none⟩ = some (.bool c)) :
    Calls Tryz.prog 59 #[.pointer (some ⟨p, 0, none⟩)] w fun e w' => e = .returned (.bool c) ∧ w' = w := by
  go_enter Tryz.func59, Tryz.ntmps59
  go_wp2
  go_ret
  exact ⟨rfl, rfl⟩
set_option maxRecDepth 20000 in
set_option maxHeartbeats 400000 in
theorem down_nil (w : World) : Calls Tryz.prog 59 #[.pointer none] w fun e w' => e = .returned (.bool true) ∧ w' = w := by
  go_enter Tryz.func59, Tryz.ntmps59
  go_wp2
  go_ret
  exact ⟨rfl, rfl⟩
set_option maxRecDepth 20000 in
set_option maxHeartbeats 400000 in
theorem done_any (p : Nat) (c : Int) (w : World) (hc : w.cell? ⟨p, 5, none⟩ = some (.int .i64 c)) :
    Calls Tryz.prog 36 #[.pointer (some ⟨p, 0, none⟩)] w fun e w' => e = .returned (.int .i64 c) ∧ w' = w := by
  go_enter Tryz.func36, Tryz.ntmps36
  go_wp2
  go_ret
  exact ⟨rfl, rfl⟩
set_option maxRecDepth 20000 in
set_option maxHeartbeats 400000 in
theorem done_nil (w : World) : Calls Tryz.prog 36 #[.pointer none] w fun e w' => e = .returned (.int .i64 0) ∧ w' = w := by
  go_enter Tryz.func36, Tryz.ntmps36
  go_wp2
  go_ret
  exact ⟨rfl, rfl⟩

/-- An answer of a text and a number. -/
def two (x : ByteArray × Int) : Value := .tuple #[.string x.1, .int .i64 x.2]

theorem has_nat {S : DS} {at' : Int} (h : S.has at') : ∃ k : Nat, at' = (k : Int) ∧ k < S.L.length := by
  obtain ⟨h0, h1⟩ := h
  exact ⟨at'.toNat, by omega, by omega⟩

set_option maxRecDepth 20000 in
set_option maxHeartbeats 400000 in
theorem kept_any (B p : Nat) (v1 v2 : Value) (S : DS) (at' : Int) (w : World) (h : PD w B p v1 v2 S) (hn : (S.L.length : Int) ≤ 1200) :
    Calls Tryz.prog 62 #[.pointer (some ⟨p, 0, none⟩), .int .i64 at'] w fun e w' => e = .returned (two (S.kept at')) ∧ w' = w := by
  obtain ⟨fu, e, c0, c1, c2, c3, c4, c5, hf⟩ := h.cells
  obtain ⟨_, d⟩ := h.dk
  obtain ⟨a, c, rfl, hle, hcm, hg⟩ := owns_shape1 d.own1
  have hh := has_any p at' a S.L.length c w c0
  have hmx : (c : Int) ≤ 9223372036854775807 := by unfold maxLen at hcm; omega
  by_cases hs : S.has at'
  · obtain ⟨k, rfl, hk⟩ := has_nat hs
    obtain ⟨g, rfl, hgo, _, _⟩ := hg (by omega)
    have hcell := owns_cell d.own1 hgo k _ (strs_at hk)
    have hkk : (S.kept (k : Int)) = (lAt S.L k, 0) := by unfold DS.kept; rw [if_pos hs]; rfl
    rw [hkk]
    have hd : decide (0 ≤ (k : Int) ∧ (k : Int) < (S.L.length : Int)) = true := by simp; omega
    rw [hd] at hh
    have HH := Lib.hid hh
    generalize lAt S.L k = s at hcell ⊢
    generalize S.L.length = n at *
    clear d h hh hd hkk hs c2 c3 c4 c5 hf e hg hgo
    go_enter Tryz.func62, Tryz.ntmps62
    go_wp2_with fail
    refine HH.out.mono ?_
    rintro e w1 ⟨rfl, rfl⟩
    go_wp2
    refine bodyPost_ret (results_tmp2 rfl _ _ _) rfl ?_
    exact ⟨rfl, rfl⟩
  · have hkk : (S.kept at') = (noBytes, 3) := by unfold DS.kept; rw [if_neg hs]
    rw [hkk]
    have hd : decide (0 ≤ at' ∧ at' < (S.L.length : Int)) = false := by simpa [DS.has] using hs
    rw [hd] at hh
    have HH := Lib.hid hh
    clear d h hh hd hkk hs c2 c3 c4 c5 hf e hg
    go_enter Tryz.func62, Tryz.ntmps62
    go_wp2_with fail
    refine HH.out.mono ?_
    rintro e w1 ⟨rfl, rfl⟩
    go_wp2
    refine bodyPost_ret (results_tmp2 rfl _ _ _) rfl ?_
    exact ⟨rfl, rfl⟩

set_option maxRecDepth 20000 in
set_option maxHeartbeats 400000 in
theorem kept_nil (at' : Int) (w : World) : Calls Tryz.prog 62 #[.pointer none, .int .i64 at'] w fun e w' => e = .returned (two (noBytes, 1)) ∧ w' = w := by
  go_enter Tryz.func62, Tryz.ntmps62
  go_wp2
  refine bodyPost_ret (results_tmp2 rfl _ _ _) rfl ?_
  exact ⟨rfl, rfl⟩

set_option maxRecDepth 20000 in
set_option maxHeartbeats 400000 in
theorem fuse_any (B p : Nat) (v1 v2 : Value) (S : DS) (n : Int) (w : World) (h : PD w B p v1 v2 S) :
    Calls Tryz.prog 54 #[.pointer (some ⟨p, 0, none⟩), .int .i64 n] w fun e w' => e = .returned (.tuple #[]) ∧ PP w B p v1 v2 (S.fuse n) w' := by
  obtain ⟨fu, e, c0, c1, c2, c3, c4, c5, hf⟩ := h.cells
  obtain ⟨fu', e', hb⟩ := h.blk
  have H := Lib.hid h
  have HB := Lib.hid hb
  clear h hb e e'
  by_cases h0 : 0 ≤ n
  · go_enter Tryz.func54, Tryz.ntmps54
    go_wp2
    refine bodyPost_end (results_none rfl _ _ _) rfl ?_
    refine ⟨rfl, PP.head (H.out.head (gb_setCell (gb_setCell (World.grownBy.refl _ _))) n (blk_setCell (blk_setCell HB.out)) ?_ ?_ rfl (.inl ⟨rfl, rfl⟩)) (gb_setCell (gb_setCell (World.grownBy.refl _ _))) (.inl rfl)⟩
    · simp [DS.fuse, h0]
      try omega
    · simp [DS.fuse, h0]
  · go_enter Tryz.func54, Tryz.ntmps54
    go_wp2
    refine bodyPost_end (results_none rfl _ _ _) rfl ?_
    refine ⟨rfl, PP.head (H.out.head (gb_setCell (gb_setCell (World.grownBy.refl _ _))) 0 (blk_setCell (blk_setCell HB.out)) ?_ ?_ rfl (.inl ⟨rfl, rfl⟩)) (gb_setCell (gb_setCell (World.grownBy.refl _ _))) (.inl rfl)⟩
    · have h1 : ¬ 0 ≤ n := by omega
      simp [DS.fuse, h1]
      try omega
    · have h1 : ¬ 0 ≤ n := by omega
      simp [DS.fuse, h1]

set_option maxRecDepth 20000 in
set_option maxHeartbeats 400000 in
theorem fuse_nil (n : Int) (w : World) : Calls Tryz.prog 54 #[.pointer none, .int .i64 n] w fun e w' => e = .returned (.tuple #[]) ∧ w' = w := by
  go_enter Tryz.func54, Tryz.ntmps54
  go_wp2
  refine bodyPost_ret (results_none rfl _ _ _) rfl ?_
  exact ⟨rfl, rfl⟩

set_option maxRecDepth 20000 in
set_option maxHeartbeats 400000 in
theorem up_nil (w : World) : Calls Tryz.prog 56 #[.pointer none] w fun e w' => e = .returned (.int .i64 1) ∧ w' = w := by
  go_enter Tryz.func56, Tryz.ntmps56
  go_wp2
  go_ret
  exact ⟨rfl, rfl⟩

set_option maxRecDepth 20000 in
set_option maxHeartbeats 400000 in
theorem up_any (B p : Nat) (v1 v2 : Value) (S : DS) (w : World) (h : PD w B p v1 v2 S) :
    Calls Tryz.prog 56 #[.pointer (some ⟨p, 0, none⟩)] w fun e w' => e = .returned (.int .i64 S.up.1) ∧ PP w B p v1 v2 S.up.2 w' := by
  obtain ⟨fu, e, c0, c1, c2, c3, c4, c5, hf⟩ := h.cells
  obtain ⟨fu', e', hb⟩ := h.blk
  have H := Lib.hid h
  have HB := Lib.hid hb
  clear h hb e e'
  cases ho : S.off with
  | true =>
    rw [ho] at c2
    have hu : S.up = (0, { S with off := false, W := [], left := -1 }) := by unfold DS.up; rw [if_pos ho]
    rw [hu]
    clear hu
    go_enter Tryz.func56, Tryz.ntmps56
    go_wp2_with fail
    refine (forget_any p v1 v2 false (decide (0 ≤ S.left)) fu' S.did _ ((blk_setCell HB.out).trans (by simp))).mono ?_
    rintro e w1 ⟨rfl, hb1, hg1⟩
    go_wp2
    go_ret
    exact ⟨rfl, PP.head (H.out.head (gb_trans (gb_setCell (World.grownBy.refl _ _)) hg1) 0 hb1 (by simp) (by simp) rfl (.inr ⟨rfl, rfl⟩)) (gb_trans (gb_setCell (World.grownBy.refl _ _)) hg1) (.inr rfl)⟩
  | false =>
    rw [ho] at c2
    have hu : S.up = (21, S) := by unfold DS.up; rw [if_neg (by simp [ho])]
    rw [hu]
    clear hu
    go_enter Tryz.func56, Tryz.ntmps56
    go_wp2
    go_ret
    exact ⟨rfl, PP.same H.out⟩

end Go.Proofs.YtpkeikbiblfidaaGreatDoor
/-
  Contracts of the program's disk: Write, Flush, Crash.
-/
namespace Go.Proofs.YtpkeikbiblfidaaGreatDoor
open Go.RowKit
set_option linter.unusedVariables false
set_option linter.unusedSimpArgs false

theorem PD.own1 {w B p v1 v2 S} (h : PD w B p v1 v2 S) : w.ownsRow B 9 1 v1 S.L.length (strs S.L) := by obtain ⟨_, d⟩ := h.dk; exact d.own1
theorem PD.own2 {w B p v1 v2 S} (h : PD w B p v1 v2 S) : w.ownsRow B 104 2 v2 S.W.length (puts S.W) := by obtain ⟨_, d⟩ := h.dk; exact d.own2
theorem PD.ne1 {w B p v1 v2 S} (h : PD w B p v1 v2 S) : v1.ownBlock ≠ some p := by obtain ⟨_, d⟩ := h.dk; exact d.ne1 (by decide)
theorem PD.ne2 {w B p v1 v2 S} (h : PD w B p v1 v2 S) : v2.ownBlock ≠ some p := by obtain ⟨_, d⟩ := h.dk; exact d.ne2 (by decide)

theorem put_cells (w : World) (x : Int) (s : ByteArray) : ∀ (j : Nat) (u : Value), (puts [(x, s)])[j]? = some u →
    (w.alloc (.cells #[.int .i64 x, .string s] 104)).cell? ((⟨w.heap.size, 0, none⟩ : Addr).add j) = some u := by
  intro j u hj
  rw [Addr.add_none, cell_of_blk (heap_alloc_new w _), Nat.zero_add]
  simpa [puts] using hj

theorem burnt_L (S : DS) : S.burnt.L = S.L := by unfold DS.burnt; split <;> rfl
theorem burnt_W (S : DS) : S.burnt.W = S.W := by unfold DS.burnt; split <;> rfl

/-- The end of a write: behind the append. -/
theorem write_end {w w1 w5 : World} {B p : Nat} {v1 v2 v1' v2' v5 : Value} {S : DS} {o : Obj} (h : PD w1 B p v1' v2' S.burnt) (ht : ∀ k, foot p v1' v2' k → foot p v1 v2 k ∨ w.heap.size ≤ k) (hfr : Fr (foot p v1 v2) w w1) (at' : Int) (data : ByteArray)
    (how5 : w5.ownsRow B 104 2 v5 (S.W.length + 1) (puts (S.W ++ [(at', data)]))) (hg5 : (w1.alloc o).grownBy w5 v2'.ownBlock) (hat : v5.ownBlock = v2'.ownBlock ∨ v5.ownBlock = some (w1.heap.size + 1)) :
    w5.cell? ⟨p, 1, none⟩ = some v2' ∧ (∀ i, w5.frozen? ⟨p, i, none⟩ = false) ∧ PP w B p v1 v2 ⟨S.burnt.L, S.W ++ [(at', data)], S.burnt.left, S.burnt.off, S.burnt.did⟩ (w5.setCell ⟨p, 1, none⟩ v5) := by
  have hpl := h.lt
  have hb5 : w5.heap[p]? = w1.heap[p]? := (hg5.block p (by simp; omega) (fun e => h.ne2 e.symm)).trans (Below.heap_alloc _ _ _ hpl)
  obtain ⟨fu, d, e⟩ := h
  have hblk := hb5.trans d.blk
  have hne5 : v5.ownBlock ≠ some p := fun e5 => by
    obtain ⟨cur, hc⟩ := owns_type how5 e5
    rw [hblk] at hc
    simp at hc
  refine ⟨by rw [cell_of_blk hblk]; rfl, fun i => free_of_blk hblk i, v1', v5, ⟨fu, ⟨?_, d.low, ?_, ?_⟩, e⟩, ?_, ?_⟩
  · exact (blk_setCell hblk).trans (by simp)
  · show World.ownsRow _ _ _ _ _ S.burnt.L.length (strs S.burnt.L)
    refine owns_set_other ?_ (d.ne1 (by decide)) _
    refine (d.own1.alloc o).kept hg5 ?_
    cases h1 : v1'.ownBlock with
    | none => exact .inl rfl
    | some k => exact .inr fun e2 => d.ne12 h1 e2.symm
  · refine owns_set_other ?_ hne5 _
    simpa using how5
  · refine Fr.set (Fr.grown (hfr.alloc o) hg5 fun k e2 => ?_) (ht p (.inl rfl))
    exact ht k (.inr (.inr e2))
  · rintro k (rfl | e2 | e2)
    · exact ht k (.inl rfl)
    · exact ht k (.inr (.inl e2))
    · rcases hat with h5 | h5
      · rw [h5] at e2; exact ht k (.inr (.inr e2))
      · rw [h5] at e2
        have := hfr.size
        simp at e2
        exact .inr (by omega)

set_option maxRecDepth 20000 in
set_option maxHeartbeats 1000000 in
theorem write_any (B p : Nat) (v1 v2 : Value) (S : DS) (at' : Int) (data : ByteArray) (w : World) (h : PD w B p v1 v2 S) (hB : B ≤ w.heap.size) (N : Nat) (hok : S.ok N) (hN : N ≤ 1000000) :
    Calls Tryz.prog 18 #[.pointer (some ⟨p, 0, none⟩), .int .i64 at', .string data] w fun e w' => e = .returned (.int .i64 (S.write at' data).1) ∧ PP w B p v1 v2 (S.write at' data).2 w' := by
  obtain ⟨fu, e, c0, c1, c2, c3, c4, c5, hf⟩ := h.cells
  obtain ⟨a, c, rfl, hle, hcm, hg⟩ := owns_shape1 h.own1
  have hs1 := state_any p S.off w c2
  have hh := has_any p at' a S.L.length c w c0
  have hr := right_any data w
  have hd := hok.did; have hhi := hok.high; have hfew := hok.few
  have H := Lib.hid h
  have HS := Lib.hid hs1
  have HH := Lib.hid hh
  have HR := Lib.hid hr
  clear hs1 hh hr h c0 c1 c2 c3 c4 c5 hf hg e
  cases ho : S.off with
  | true =>
    have hu : S.write at' data = (5, S) := by unfold DS.write; rw [if_pos ho]
    rw [hu]
    simp only [ho] at HS
    clear hu
    go_enter Tryz.func18, Tryz.ntmps18
    go_wp2_with fail
    refine HS.out.mono ?_
    rintro e w1 ⟨rfl, hw1⟩; obtain rfl := hw1.symm; clear hw1
    go_wp2
    go_ret
    exact ⟨rfl, PP.same H.out⟩
  | false =>
    simp only [ho] at HS
    by_cases hs : S.has at'
    · have hd2 : decide (0 ≤ at' ∧ at' < (S.L.length : Int)) = true := by simpa [DS.has] using hs
      rw [hd2] at HH
      by_cases hz : data.size = 64
      · rw [decide_eq_true hz] at HR
        by_cases hl : S.left = 0
        · have hu : S.write at' data = (5, S.burnt) := by unfold DS.write; rw [if_neg (by simp [ho]), if_pos hs, if_pos hz, if_pos hl]
          rw [hu]
          clear hu hd2 hz hs
          have hb := burn_out B p _ v2 S w H.out hl
          have HB := Lib.hid hb
          clear hb hl
          go_enter Tryz.func18, Tryz.ntmps18
          go_wp2_with fail
          refine HS.out.mono ?_
          rintro e w1 ⟨rfl, hw1⟩; obtain rfl := hw1.symm; clear hw1
          go_wp2_with fail
          refine HH.out.mono ?_
          rintro e w1 ⟨rfl, hw1⟩; obtain rfl := hw1.symm; clear hw1
          go_wp2_with fail
          refine HR.out.mono ?_
          rintro e w1 ⟨rfl, hw1⟩; obtain rfl := hw1.symm; clear hw1
          go_wp2_with fail
          refine HB.out.mono ?_
          rintro e w1 ⟨rfl, hpp, hgp⟩
          go_wp2
          go_ret
          exact ⟨rfl, PP.head hpp hgp (.inl rfl)⟩
        · have hu : S.write at' data = (0, ⟨S.burnt.L, S.W ++ [(at', data)], S.burnt.left, S.burnt.off, S.burnt.did⟩) := by unfold DS.write; rw [if_neg (by simp [ho]), if_pos hs, if_pos hz, if_neg hl]
          rw [hu]
          clear hu hd2 hz hs
          have hb := burn_go B p _ v2 S w H.out hl hhi (by omega)
          have HB := Lib.hid hb
          clear hb hl
          go_enter Tryz.func18, Tryz.ntmps18
          go_wp2_with fail
          refine HS.out.mono ?_
          rintro e w1 ⟨rfl, hw1⟩; obtain rfl := hw1.symm; clear hw1
          go_wp2_with fail
          refine HH.out.mono ?_
          rintro e w1 ⟨rfl, hw1⟩; obtain rfl := hw1.symm; clear hw1
          go_wp2_with fail
          refine HR.out.mono ?_
          rintro e w1 ⟨rfl, hw1⟩; obtain rfl := hw1.symm; clear hw1
          go_wp2_with fail
          refine HB.out.mono ?_
          rintro e w1 ⟨rfl, hpd, hgp⟩
          have hfr : Fr (foot p (.slice a S.L.length c) v2) w w1 := fr_head hgp
          have hft : ∀ k, foot p (.slice a S.L.length c) v2 k → foot p (.slice a S.L.length c) v2 k ∨ w.heap.size ≤ k := fun k h => .inl h
          obtain ⟨fu, e, c0, c1, c2, c3, c4, c5, hf⟩ := hpd.cells
          obtain ⟨i0, hi, hz0, hz1, hz2⟩ := info_parts Tryz.infoPut
          have how := hpd.own2
          rw [burnt_W] at how
          have hbs : B ≤ w1.heap.size := Nat.le_trans hB hfr.size
          have HP := Lib.hid hpd
          have HF := Lib.hid hfr
          have HT := Lib.hid hft
          clear hpd hfr hft hgp c0 c2 c3 c4 c5 e
          go_wp2_with (at_builtin; refine wpList_append_own_at _ (o := ⟨some 35, _, _, _, _, _⟩) rfl (.tmp 30) (.tmp 34) 75 rfl B 104 i0 _ 2 24 Tryz.underlying75 hi hz0 hz1 hz2 rfl (by omega) v2 S.W.length _ rfl (how.alloc _) ⟨w1.heap.size, 0, none⟩ 1 1 (puts [(at', data)]) rfl rfl (put_cells w1 at' data) (puts_one _) (by unfold maxLen; omega) (by omega) (by simp; omega) ?_)
          intro v5 w5 how5 hg5 _ hat5
          rw [← puts_append] at how5
          have hE := write_end HP.out (HT.out) HF.out at' data how5 hg5 (by rcases hat5 with h5 | h5; exact .inl h5; exact .inr (by rw [h5]))
          obtain ⟨hc1, hf5, hend⟩ := hE
          obtain ⟨a5, n5, rfl, _, _, _⟩ := owns_shape1 how5
          have HE := Lib.hid hend
          clear hend how5 hg5 hat5 how c1 hf
          go_wp2
          go_ret
          exact ⟨rfl, HE.out⟩
      · have hu : S.write at' data = (4, S) := by unfold DS.write; rw [if_neg (by simp [ho]), if_pos hs, if_neg hz]
        rw [hu]
        rw [decide_eq_false hz] at HR
        clear hu hd2 hz hs
        go_enter Tryz.func18, Tryz.ntmps18
        go_wp2_with fail
        refine HS.out.mono ?_
        rintro e w1 ⟨rfl, hw1⟩; obtain rfl := hw1.symm; clear hw1
        go_wp2_with fail
        refine HH.out.mono ?_
        rintro e w1 ⟨rfl, hw1⟩; obtain rfl := hw1.symm; clear hw1
        go_wp2_with fail
        refine HR.out.mono ?_
        rintro e w1 ⟨rfl, hw1⟩; obtain rfl := hw1.symm; clear hw1
        go_wp2
        go_ret
        exact ⟨rfl, PP.same H.out⟩
    · have hu : S.write at' data = (3, S) := by unfold DS.write; rw [if_neg (by simp [ho]), if_neg hs]
      have hd2 : decide (0 ≤ at' ∧ at' < (S.L.length : Int)) = false := by simpa [DS.has] using hs
      rw [hd2] at HH
      rw [hu]
      clear hu hd2 hs
      go_enter Tryz.func18, Tryz.ntmps18
      go_wp2_with fail
      refine HS.out.mono ?_
      rintro e w1 ⟨rfl, hw1⟩; obtain rfl := hw1.symm; clear hw1
      go_wp2_with fail
      refine HH.out.mono ?_
      rintro e w1 ⟨rfl, hw1⟩; obtain rfl := hw1.symm; clear hw1
      go_wp2
      go_ret
      exact ⟨rfl, PP.same H.out⟩


theorem flush_round {wr wa : World} {B p q g1 m : Nat} {v1 v2 : Value} {S' : DS} {x : Int} {sd : ByteArray} (h : PD wr B p v1 v2 S') (hwa : wa = wr.alloc (.cells #[.int .i64 x, .string sd] 104)) (hq : q = wr.heap.size)
    (hgo1 : v1.ownBlock = some g1) (hm : m < S'.L.length) {u : Value} (c0 : wr.cell? ⟨p, 0, none⟩ = some u) :
    wa.cell? ⟨q, 0, none⟩ = some (.int .i64 x) ∧ wa.cell? ⟨q, 1, none⟩ = some (.string sd) ∧ wa.cell? ⟨p, 0, none⟩ = some u ∧ wa.cell? ⟨g1, m, none⟩ = some (.string (lAt S'.L m)) ∧ wa.frozen? ⟨g1, m, none⟩ = false ∧
      (∀ w2 : World, w2.heap = wa.heap → w2.os = wa.os → w2.tape = wa.tape → w2.output = wa.output → PD (w2.setCell ⟨g1, m, none⟩ (.string sd)) B p v1 v2 ⟨S'.L.set m sd, S'.W, S'.left, S'.off, S'.did⟩ ∧ ∀ (A : Nat → Prop) (w : World), Fr A w wr → A g1 → Fr A w (w2.setCell ⟨g1, m, none⟩ (.string sd))) := by
  subst hwa hq
  have hk : PD (wr.alloc (.cells #[.int .i64 x, .string sd] 104)) B p v1 v2 S' := h.below ((Below.refl _ _).alloc (Nat.le_refl _) _)
  have hn := heap_alloc_new wr (.cells #[.int .i64 x, .string sd] 104)
  refine ⟨by rw [cell_of_blk hn]; rfl, by rw [cell_of_blk hn]; rfl, ?_, owns_cell hk.own1 hgo1 m _ (strs_at hm), owns_free hk.own1 hgo1 m, ?_⟩
  · rw [World.cell?_of_block (w := wr) (Below.heap_alloc _ _ _ h.lt)]; exact c0
  · intro w2 e1 e2 e3 e4
    have hk2 : PD w2 B p v1 v2 S' := hk.kept fun k _ => by rw [e1]
    refine ⟨?_, fun A w hfr hA => ?_⟩
    · obtain ⟨fu, d, e⟩ := hk2
      refine ⟨fu, ⟨?_, d.low, ?_, ?_⟩, e⟩
      · rw [Below.heap_setCell _ _ _ _ (fun e => d.ne1 (by decide) (by rw [hgo1, e]))]; exact d.blk
      · have := owns_set d.own1 hgo1 (j := m) (.string sd) (by rw [strs_length]; exact hm)
        rw [strs_set] at this
        simpa using this
      · exact owns_set_other d.own2 (d.ne12 hgo1) _
    · refine Fr.set ⟨e2.trans hfr.os, e3.trans hfr.tape, e4.trans hfr.output, ?_, fun k hk hn => ?_⟩ (.inl hA)
      · rw [e1]; have := hfr.size; simp; omega
      · rw [e1, Below.heap_alloc _ _ _ (Nat.lt_of_lt_of_le hk hfr.size)]; exact hfr.block k hk hn

set_option maxRecDepth 20000 in
set_option maxHeartbeats 1000000 in
theorem flush_any (B p : Nat) (v1 v2 : Value) (S : DS) (w : World) (h : PD w B p v1 v2 S) (hB : B ≤ w.heap.size) (N : Nat) (hok : S.ok N) (hN : N ≤ 1000000) :
    Calls Tryz.prog 118 #[.pointer (some ⟨p, 0, none⟩)] w fun e w' => e = .returned (.int .i64 S.flush.1) ∧ PP w B p v1 v2 S.flush.2 w' := by
  obtain ⟨fu, e, c0, c1, c2, c3, c4, c5, hf⟩ := h.cells
  obtain ⟨a, c, rfl, hle, hcm, hg⟩ := owns_shape1 h.own1
  obtain ⟨a2, cc2, rfl, hle2, hcm2, hg2⟩ := owns_shape1 h.own2
  have hs1 := state_any p S.off w c2
  have hd := hok.did; have hhi := hok.high; have hfew := hok.few
  have H := Lib.hid h
  have HS := Lib.hid hs1
  clear hs1 h c0 c1 c2 c3 c4 c5 hf e
  cases ho : S.off with
  | true =>
    have hu : S.flush = (5, S) := by unfold DS.flush; rw [if_pos ho]
    rw [hu]
    simp only [ho] at HS
    clear hu
    go_enter Tryz.func118, Tryz.ntmps118
    go_wp2_with fail
    refine HS.out.mono ?_
    rintro e w1 ⟨rfl, hw1⟩; obtain rfl := hw1.symm; clear hw1
    go_wp2
    go_ret
    exact ⟨rfl, PP.same H.out⟩
  | false =>
    simp only [ho] at HS
    by_cases hl : S.left = 0
    · have hu : S.flush = (5, S.burnt) := by unfold DS.flush; rw [if_neg (by simp [ho]), if_pos hl]
      rw [hu]
      clear hu
      have hb := burn_out B p _ _ S w H.out hl
      have HB := Lib.hid hb
      clear hb hl
      go_enter Tryz.func118, Tryz.ntmps118
      go_wp2_with fail
      refine HS.out.mono ?_
      rintro e w1 ⟨rfl, hw1⟩; obtain rfl := hw1.symm; clear hw1
      go_wp2_with fail
      refine HB.out.mono ?_
      rintro e w1 ⟨rfl, hpp, hgp⟩
      go_wp2
      go_ret
      exact ⟨rfl, PP.head hpp hgp (.inl rfl)⟩
    · have hu : S.flush = (0, ⟨appW S.L S.W S.W.length, [], S.burnt.left, S.burnt.off, S.burnt.did⟩) := by unfold DS.flush; rw [if_neg (by simp [ho]), if_neg hl]
      rw [hu]
      clear hu
      have hb := burn_go B p _ _ S w H.out hl hhi (by omega)
      have HB := Lib.hid hb
      clear hb hl
      go_enter Tryz.func118, Tryz.ntmps118
      go_wp2_with fail
      refine HS.out.mono ?_
      rintro e w1 ⟨rfl, hw1⟩; obtain rfl := hw1.symm; clear hw1
      go_wp2_with fail
      refine HB.out.mono ?_
      rintro e w1 ⟨rfl, hpd, hgp⟩
      obtain ⟨fu, e, c0, c1, c2, c3, c4, c5, hf⟩ := hpd.cells
      have HP := Lib.hid hpd
      have HF := Lib.hid (fr_head (v1 := .slice a S.L.length c) (v2 := .slice a2 S.W.length cc2) hgp)
      clear hpd hgp c0 c2 c3 c4 c5 e hf
      go_wp2
      clear c1
      go_loopw [22] (fun i wr => ∃ k : Nat, k ≤ S.W.length ∧ i = .int .i64 k ∧ PD wr B p (.slice a S.L.length c) (.slice a2 S.W.length cc2) ⟨appW S.L S.W k, S.W, S.burnt.left, S.burnt.off, S.burnt.did⟩ ∧ Fr (foot p (.slice a S.L.length c) (.slice a2 S.W.length cc2)) w wr) (fun i _ => S.W.length - (intOf i).toNat)
      case atStart => exact ⟨0, by omega, rfl, by rw [show (⟨appW S.L S.W 0, S.W, S.burnt.left, S.burnt.off, S.burnt.did⟩ : DS) = S.burnt from by rw [show appW S.L S.W 0 = S.burnt.L from (burnt_L S).symm, ← burnt_W S]]; exact HP.out, HF.out⟩
      case round =>
        obtain ⟨k, hk, rfl, hpd, hfr⟩ := hrel
        by_cases hlt : k < S.W.length
        · have i1 : (k : Int) < (S.W.length : Int) := by omega
          obtain ⟨g2, rfl, hgo2, hB2, _⟩ := hg2 (by omega)
          obtain ⟨m, hm, hml⟩ := has_nat (hok.ats k hlt)
          obtain ⟨g1, rfl, hgo1, hB1, _⟩ := hg (by omega)
          have ho2 : wr.ownsRow B 104 2 (.slice (some ⟨g2, 0, none⟩) S.W.length cc2) S.W.length (puts S.W) := hpd.own2
          have ho1 := hpd.own1
          have e0 := owns_cell ho2 hgo2 _ _ (puts_at S.W k hlt).1
          have e1 := owns_cell ho2 hgo2 _ _ (puts_at S.W k hlt).2
          rw [hm] at e0
          obtain ⟨sd, hsd⟩ : ∃ sd, sd = (wAt S.W k).2 := ⟨_, rfl⟩
          rw [← hsd] at e1
          have hnx : appW S.L S.W (k + 1) = (appW S.L S.W k).set m sd := by show (appW S.L S.W k).set _ _ = _; rw [hm, hsd]; rfl
          have HNX := Lib.hid hnx
          clear hnx hsd
          obtain ⟨fu, e, c0, c1, c2, c3, c4, c5, hf⟩ := hpd.cells
          have HPD := Lib.hid hpd
          have HFR := Lib.hid hfr
          clear hpd hfr c1 c2 c3 c4 c5 e ho2 ho1 hg hg2 H HP HF HB
          go_wp2
          obtain ⟨wa, hwa⟩ : ∃ wa, wa = wr.alloc (.cells #[.int .i64 (m : Int), .string sd] 104) := ⟨_, rfl⟩
          obtain ⟨q, hq⟩ : ∃ q, q = wr.heap.size := ⟨_, rfl⟩
          rw [← hwa, ← hq]
          obtain ⟨cb0, cb1, ca0, ctg, hft, hrest⟩ := flush_round HPD.out hwa hq hgo1 (by rw [appW_length]; exact hml) c0
          generalize lAt (appW S.L S.W k) m = old at ctg
          have HR := Lib.hid hrest
          have HQ := Lib.hid hq
          have HWA := Lib.hid hwa
          have i2 : (0 : Int) ≤ (m : Int) := by omega
          have i3 : (m : Int) < (S.L.length : Int) := by omega
          clear hrest hwa hq e0 e1 c0 hf
          go_region
          go_wp2
          go_roundw
          case rel =>
            obtain ⟨hp5, hf5⟩ := HR.out wa rfl rfl rfl rfl
            exact ⟨k + 1, by omega, by go_num, by rw [HNX.out]; exact hp5.kept fun _ _ => rfl, (hf5 _ _ HFR.out (.inr (.inl hgo1))).drew⟩
          case measure => simp [intOf]; omega
        · obtain rfl : k = S.W.length := by omega
          obtain ⟨fu, e, c0, c1, c2, c3, c4, c5, hf⟩ := hpd.cells
          obtain ⟨fu2, e2, hblk⟩ := hpd.blk
          have HPD := Lib.hid hpd
          have HFR := Lib.hid hfr
          have HBK := Lib.hid hblk
          clear hpd hfr c0 c2 c3 c4 c5 e hg hg2 H HP HF HB hblk
          go_wp2
          go_ret
          refine ⟨rfl, _, _, HPD.out.head (gb_setCell (World.grownBy.refl _ _)) fu2 (blk_setCell HBK.out) (by simp) e2 rfl (.inr ⟨rfl, rfl⟩), HFR.out.set (.inl (.inl rfl)), ?_⟩
          rintro j (rfl | e | e)
          · exact .inl (.inl rfl)
          · exact .inl (.inr (.inl e))
          · simp [Value.ownBlock] at e

/-- The slice value reads as truths. -/
structure Bl (w : World) (a : Option Addr) (n : Nat) (K : List Bool) : Prop where
  len : K.length = n
  big : n ≤ 9223372036854775807
  at0 : 0 < n → ∃ b off, a = some ⟨b, off, none⟩ ∧ b < w.heap.size ∧ ∀ i, i < n → w.cell? ⟨b, off + i, none⟩ = some (.bool (K[i]?.getD false))

theorem Bl.kept {w w' : World} {a n K} (h : Bl w a n K) (hs : w.heap.size ≤ w'.heap.size) (hk : ∀ b off, a = some ⟨b, off, none⟩ → 0 < n → w'.heap[b]? = w.heap[b]?) : Bl w' a n K where
  len := h.len
  big := h.big
  at0 := fun h0 => by
    obtain ⟨b, off, e, hl, hc⟩ := h.at0 h0
    exact ⟨b, off, e, by omega, fun i hi => by rw [World.cell?_of_block (w := w) (hk b off e h0)]; exact hc i hi⟩
theorem Bl.lt {w : World} {a n K} (h : Bl w a n K) {b off : Nat} (e : a = some ⟨b, off, none⟩) (h0 : 0 < n) : b < w.heap.size := by
  obtain ⟨b', off', e', hl, _⟩ := h.at0 h0
  rw [e] at e'; cases e'; exact hl
theorem Bl.fr {w w' : World} {A : Nat → Prop} {a n K} (h : Bl w a n K) (hf : Fr A w w') (hd : ∀ b off, a = some ⟨b, off, none⟩ → 0 < n → ¬ A b) : Bl w' a n K :=
  h.kept hf.size fun b off e h0 => hf.block b (h.lt e h0) (hd b off e h0)
theorem Bl.below {w w' : World} {a n K} (h : Bl w a n K) (hb : Below w.heap.size w w') : Bl w' a n K := h.kept hb.size fun b off e h0 => hb.block b (h.lt e h0)

set_option maxRecDepth 20000 in
set_option maxHeartbeats 1000000 in
theorem crash_any (B p : Nat) (v1 v2 : Value) (S : DS) (ak : Option Addr) (nk ck : Nat) (K : List Bool) (w : World) (h : PD w B p v1 v2 S) (hB : B ≤ w.heap.size) (N : Nat) (hok : S.ok N) (hN : N ≤ 1000000)
    (hK : Bl w ak nk K) (hd : ∀ b off, ak = some ⟨b, off, none⟩ → 0 < nk → ¬ foot p v1 v2 b) :
    Calls Tryz.prog 41 #[.pointer (some ⟨p, 0, none⟩), .slice ak nk ck] w fun e w' => e = .returned (.tuple #[]) ∧ PP w B p v1 v2 (S.crash K) w' := by
  obtain ⟨fu, e, c0, c1, c2, c3, c4, c5, hf⟩ := h.cells
  obtain ⟨a, c, rfl, hle, hcm, hg⟩ := owns_shape1 h.own1
  obtain ⟨a2, cc2, rfl, hle2, hcm2, hg2⟩ := owns_shape1 h.own2
  have hdid := hok.did; have hhi := hok.high; have hfew := hok.few
  have H := Lib.hid h
  have HK := Lib.hid hK
  have HD := Lib.hid hd
  have hbig := hK.big
  clear h c0 c2 c3 c4 c5 hf e hK hd
  unfold DS.crash
  go_enter Tryz.func41, Tryz.ntmps41
  go_wp2
  clear c1
  go_loopw [13] (fun i wr => ∃ k : Nat, k ≤ S.W.length ∧ i = .int .i64 k ∧ PD wr B p (.slice a S.L.length c) (.slice a2 S.W.length cc2) ⟨appK S.L S.W K k, S.W, S.left, S.off, S.did⟩ ∧ Fr (foot p (.slice a S.L.length c) (.slice a2 S.W.length cc2)) w wr) (fun i _ => S.W.length - (intOf i).toNat)
  case atStart => exact ⟨0, by omega, rfl, H.out, Fr.refl _ _⟩
  case round =>
    obtain ⟨k, hk, rfl, hpd, hfr⟩ := hrel
    by_cases hlt : k < S.W.length
    · have i1 : (k : Int) < (S.W.length : Int) := by omega
      obtain ⟨g2, rfl, hgo2, hB2, _⟩ := hg2 (by omega)
      obtain ⟨m, hm, hml⟩ := has_nat (hok.ats k hlt)
      obtain ⟨g1, rfl, hgo1, hB1, _⟩ := hg (by omega)
      have ho2 : wr.ownsRow B 104 2 (.slice (some ⟨g2, 0, none⟩) S.W.length cc2) S.W.length (puts S.W) := hpd.own2
      have e0 := owns_cell ho2 hgo2 _ _ (puts_at S.W k hlt).1
      have e1 := owns_cell ho2 hgo2 _ _ (puts_at S.W k hlt).2
      rw [hm] at e0
      obtain ⟨sd, hsd⟩ : ∃ sd, sd = (wAt S.W k).2 := ⟨_, rfl⟩
      rw [← hsd] at e1
      have hnx : appK S.L S.W K (k + 1) = if K[k]?.getD false = true then (appK S.L S.W K k).set m sd else appK S.L S.W K k := by
        show (if _ then List.set _ _ _ else _) = _
        rw [hm, hsd]; rfl
      have HNX := Lib.hid hnx
      have hbl := HK.out.fr hfr HD.out
      obtain ⟨fu, e, c0, c1, c2, c3, c4, c5, hf⟩ := hpd.cells
      have HPD := Lib.hid hpd
      have HFR := Lib.hid hfr
      obtain ⟨kb, hkb⟩ : ∃ kb, kb = K[k]?.getD false := ⟨_, rfl⟩
      have HKB := Lib.hid hkb
      clear hpd hfr c1 c2 c3 c4 c5 e ho2 hg hg2 H hnx hsd
      by_cases hkk : k < nk
      · have i2 : (k : Int) < (nk : Int) := by omega
        obtain ⟨bk, ok, rfl, hbkl, hbc⟩ := hbl.at0 (by omega)
        have hcb := hbc k hkk
        rw [← hkb] at hcb
        have hcb2 : ∀ o, (wr.alloc o).cell? ⟨bk, ok + k, none⟩ = some (.bool kb) := fun o => by rw [World.cell?_of_block (w := wr) (Below.heap_alloc _ _ _ hbkl)]; exact hcb
        clear hbc hbl hkb
        cases kb with
        | true =>
          go_wp2
          obtain ⟨wa, hwa⟩ : ∃ wa, wa = wr.alloc (.cells #[.int .i64 (m : Int), .string sd] 104) := ⟨_, rfl⟩
          obtain ⟨q, hq⟩ : ∃ q, q = wr.heap.size := ⟨_, rfl⟩
          rw [← hwa, ← hq]
          obtain ⟨cb0, cb1, ca0, ctg, hft, hrest⟩ := flush_round HPD.out hwa hq hgo1 (by rw [appK_length]; exact hml) c0
          generalize lAt (appK S.L S.W K k) m = old at ctg
          have HR := Lib.hid hrest
          have HQ := Lib.hid hq
          have HWA := Lib.hid hwa
          have i3 : (0 : Int) ≤ (m : Int) := by omega
          have i4 : (m : Int) < (S.L.length : Int) := by omega
          clear hrest hwa hq e0 e1 c0 hf hcb hcb2
          go_region
          go_wp2
          go_roundw
          case rel =>
            obtain ⟨hp5, hf5⟩ := HR.out wa rfl rfl rfl rfl
            exact ⟨k + 1, by omega, by go_num, by rw [HNX.out, if_pos HKB.out.symm]; exact hp5.kept fun _ _ => rfl, (hf5 _ _ HFR.out (.inr (.inl hgo1))).drew⟩
          case measure => simp [intOf]; omega
        | false =>
          go_wp2
          go_roundw
          case rel => exact ⟨k + 1, by omega, by go_num, by rw [HNX.out, if_neg (by rw [← HKB.out]; simp)]; exact HPD.out.below ((Below.refl _ _).alloc (Nat.le_refl _) _), HFR.out.alloc _⟩
          case measure => simp [intOf]; omega
      · have i2 : ¬ (k : Int) < (nk : Int) := by omega
        have hkf : K[k]?.getD false = false := by rw [List.getElem?_eq_none (by rw [HK.out.len]; omega)]; rfl
        have HKF := Lib.hid hkf
        clear hkf hkb hbl
        go_wp2
        go_roundw
        case rel => exact ⟨k + 1, by omega, by go_num, by rw [HNX.out, if_neg (by rw [HKF.out]; simp)]; exact HPD.out.below ((Below.refl _ _).alloc (Nat.le_refl _) _), HFR.out.alloc _⟩
        case measure => simp [intOf]; omega
    · obtain rfl : k = S.W.length := by omega
      obtain ⟨fu, e, c0, c1, c2, c3, c4, c5, hf⟩ := hpd.cells
      obtain ⟨fu2, e2, hblk⟩ := hpd.blk
      have HPD := Lib.hid hpd
      have HFR := Lib.hid hfr
      have HBK := Lib.hid hblk
      clear hpd hfr c0 c1 c3 c4 c5 e hg hg2 H hblk
      go_wp2_with fail
      refine (forget_any p (.slice a S.L.length c) (.slice a2 S.W.length cc2) true (decide (0 ≤ S.left)) fu2 S.did _ ((blk_setCell HBK.out).trans (by simp))).mono ?_
      rintro e w1 ⟨rfl, hb1, hg1⟩
      have hgg := gb_trans (gb_setCell (i := 2) (u := .bool true) (World.grownBy.refl wr (some p))) hg1
      go_wp2
      refine bodyPost_end (results_none rfl _ _ _) rfl ?_
      refine ⟨rfl, _, _, HPD.out.head hgg 0 hb1 (by simp) (by simp) rfl (.inr ⟨rfl, rfl⟩), HFR.out.grown hgg (fun k e => by cases e; exact .inl (.inl rfl)), ?_⟩
      rintro j (rfl | e | e)
      · exact .inl (.inl rfl)
      · exact .inl (.inr (.inl e))
      · simp [Value.ownBlock] at e

set_option maxRecDepth 20000 in
set_option maxHeartbeats 400000 in
theorem crash_nil (v : Value) (w : World) : Calls Tryz.prog 41 #[.pointer none, v] w fun e w' => e = .returned (.tuple #[]) ∧ w' = w := by
  go_enter Tryz.func41, Tryz.ntmps41
  go_wp2
  refine bodyPost_ret (results_none rfl _ _ _) rfl ?_
  exact ⟨rfl, rfl⟩
set_option maxRecDepth 20000 in
set_option maxHeartbeats 400000 in
theorem flush_nil (w : World) : Calls Tryz.prog 118 #[.pointer none] w fun e w' => e = .returned (.int .i64 1) ∧ w' = w := by
  go_enter Tryz.func118, Tryz.ntmps118
  go_wp2_with fail
  refine (state_nil w).mono ?_
  rintro e w1 ⟨rfl, rfl⟩
  go_wp2
  go_ret
  exact ⟨rfl, rfl⟩
set_option maxRecDepth 20000 in
set_option maxHeartbeats 400000 in
theorem write_nil (at' : Int) (data : ByteArray) (w : World) : Calls Tryz.prog 18 #[.pointer none, .int .i64 at', .string data] w fun e w' => e = .returned (.int .i64 1) ∧ w' = w := by
  go_enter Tryz.func18, Tryz.ntmps18
  go_wp2_with fail
  refine (state_nil w).mono ?_
  rintro e w1 ⟨rfl, rfl⟩
  go_wp2
  go_ret
  exact ⟨rfl, rfl⟩

end Go.Proofs.YtpkeikbiblfidaaGreatDoor
/-
  Contracts: slices.Clone, Waits, Copy, slices.Repeat, New.
-/
namespace Go.Proofs.YtpkeikbiblfidaaGreatDoor
open Go.RowKit
set_option linter.unusedVariables false
set_option linter.unusedSimpArgs false

theorem owns_src {w : World} {B e size n : Nat} {xs : List Value} {g c : Nat} (h : w.ownsRow B e size (.slice (some ⟨g, 0, none⟩) n c) n xs) (o : Obj) :
    ∀ (j : Nat) (u : Value), xs[j]? = some u → (w.alloc o).cell? ((⟨g, 0, none⟩ : Addr).add j) = some u := fun j u hj => by
  have h1 := h.cells (g := g) rfl j u hj
  have hl := (h.lt g rfl).2
  rw [Addr.add_none] at h1 ⊢
  rw [World.cell?_of_block (w := w) (Below.heap_alloc _ _ _ hl)]; exact h1

theorem owns_shape2 {w : World} {B n : Nat} {v : Value} {e size : Nat} {xs : List Value} (h : w.ownsRow B e size v n xs) : (v = .slice none 0 0 ∧ n = 0 ∧ xs = []) ∨ ∃ g c, v = .slice (some ⟨g, 0, none⟩) n c := by
  obtain ⟨h1, h2⟩ := h
  rcases h2 with ⟨rfl, rfl⟩ | ⟨g, cap, cur, rfl, hB, hh, hle, hm, _, _⟩
  · exact .inl ⟨rfl, rfl, List.eq_nil_of_length_eq_zero (by simpa using h1)⟩
  · exact .inr ⟨g, cap, rfl⟩


set_option maxRecDepth 20000 in
set_option maxHeartbeats 1000000 in
theorem clone_puts (B : Nat) (v : Value) (n : Nat) (W : List (Int × ByteArray)) (w : World) (h : w.ownsRow B 104 2 v n (puts W)) (hn : n ≤ 1000000) :
    Calls Tryz.prog 112 #[v] w fun e w' => ∃ v', e = .returned v' ∧ w'.ownsRow w.heap.size 104 2 v' n (puts W) ∧ Below w.heap.size w w' := by
  have q22 : ∀ (w : World) (a : Option Addr) (n c n' c' : Nat), (binOp .eql 75 (.slice a n c) (.slice none n' c')).run Tryz.prog w = .ok (.bool a.isNone) w := fun w a n c n' c' => Lib.run_eql_slice_nil w _ _ a n c n' c' Tryz.underlying75
  rcases owns_shape2 h with ⟨rfl, rfl, he⟩ | ⟨g, c, rfl⟩
  · rw [he]
    go_enter Tryz.func112, Tryz.ntmps112
    go_wp2
    go_ret
    exact ⟨_, rfl, World.ownsRow_nil _ _ _ _, Below.refl _ _⟩
  · obtain ⟨i0, hi, hz0, hz1, hz2⟩ := info_parts Tryz.infoPut
    have hsrc := owns_src h (.cells #[] 104)
    have hl : (puts W).length = n * 2 := h.1
    have HS := Lib.hid hsrc
    have HL := Lib.hid hl
    clear h hsrc hl
    go_enter Tryz.func112, Tryz.ntmps112
    go_wp2_with (at_builtin; refine wpList_append_own _ (o := ⟨some 7, _, _, _, _, _⟩) rfl (.tmp 5) (.tmp 6) 75 rfl w.heap.size 104 i0 _ 2 24 Tryz.underlying75 hi hz0 hz1 hz2 rfl (by omega) _ _ _ rfl (World.ownsRow_made w #[] 0 (Nat.le_refl _) (Nat.zero_le _) (by simp)) ⟨g, 0, none⟩ n c (puts W) rfl HL.out HS.out (puts_one _) (by unfold maxLen; omega) (by omega) (by simp) ?_)
    intro v' w1 hown hgrow _
    go_wp2
    go_ret
    exact ⟨_, rfl, by simpa using hown, ((Below.refl _ w).alloc (Nat.le_refl _) _).grown hgrow (by simp) (by intro k hk; simp [Value.ownBlock] at hk; omega)⟩

set_option maxRecDepth 20000 in
set_option maxHeartbeats 400000 in
theorem waits_nil (w : World) : Calls Tryz.prog 61 #[.pointer none] w fun e w' => e = .returned (.slice none 0 0) ∧ w' = w := by
  go_enter Tryz.func61, Tryz.ntmps61
  go_wp2
  go_ret
  exact ⟨rfl, rfl⟩

set_option maxRecDepth 20000 in
set_option maxHeartbeats 400000 in
theorem waits_any (B p : Nat) (v1 v2 : Value) (S : DS) (w : World) (h : PD w B p v1 v2 S) (hn : S.W.length ≤ 1000000) :
    Calls Tryz.prog 61 #[.pointer (some ⟨p, 0, none⟩)] w fun e w' => ∃ v', e = .returned v' ∧ w'.ownsRow w.heap.size 104 2 v' S.W.length (puts S.W) ∧ Below w.heap.size w w' := by
  obtain ⟨fu, e, c0, c1, c2, c3, c4, c5, hf⟩ := h.cells
  have hc := clone_puts B v2 _ _ w h.own2 hn
  obtain ⟨a2, cc2, rfl, hle2, hcm2, hg2⟩ := owns_shape1 h.own2
  have HC := Lib.hid hc
  clear hc h c0 c2 c3 c4 c5 hf e hg2
  go_enter Tryz.func61, Tryz.ntmps61
  go_wp2_with fail
  refine HC.out.mono ?_
  rintro e w1 ⟨v', rfl, ho, hb⟩
  go_wp2
  go_ret
  exact ⟨_, rfl, ho, hb⟩


theorem owns_low {w : World} {B B' e size n : Nat} {v : Value} {xs : List Value} (h : w.ownsRow B e size v n xs) (hl : B' ≤ B) : w.ownsRow B' e size v n xs := by
  refine ⟨h.1, ?_⟩
  rcases h.2 with hn | ⟨g, cap, cur, rfl, hb, rest⟩
  · exact .inl hn
  · exact .inr ⟨g, cap, cur, rfl, by omega, rest⟩


theorem splice_take' {α : Type} {blk ys : List α} (i : Nat) (h : i + ys.length ≤ blk.length) : (splice blk i ys).take (i + ys.length) = blk.take i ++ ys := by
  unfold splice
  rw [← List.append_assoc, List.take_append_of_le_length (by simp; omega), List.take_of_length_le (by simp; omega)]

theorem make_strs (n : Nat) (h : n ≤ 1000000) (w : World) :
    (Instr.makeSlice 49 (.int .i64 (n : Int)) (.int .i64 (n : Int))).run Tryz.prog w = .ok (.slice (some ⟨w.heap.size, 0, none⟩) n n) (w.alloc (.cells (madeCells #[.string noBytes] n) 9)) :=
  run_make_row' 49 9 (.string noBytes) 16 Tryz.underlying49 Tryz.info9 rfl .i64 .i64 n (by omega) (by omega) w

theorem slice_from_s (g n m : Nat) (hm : m < n) (w : World) :
    (Instr.sliceAt 49 (.slice (some ⟨g, 0, none⟩) n n) (some (.int .i64 (m : Int))) none none).run Tryz.prog w = .ok (.slice (some ⟨g, m, none⟩) (n - m) (n - m)) w := by
  have hu := Tryz.underlying49
  have hz : ∀ w, (sizeOf 9).run Tryz.prog w = .ok 1 w := fun _ => by kernel_rfl
  have h1 : (0 : Int) ≤ (m : Int) ∧ (m : Int) ≤ (n : Int) := by omega
  have h2 : ¬ n = m := by omega
  have h3 : (⟨g, 0, none⟩ : Addr).add m = ⟨g, m, none⟩ := by rw [Addr.add_none, Nat.zero_add]
  have h4 : m ≤ n := by omega
  simp [Instr.sliceAt, Instr.slice, Instr.sliceBounds, Instr.sliceBound, run_underlying hu, asIntOf, h1, h2, h4, hz, h3, go_sem]
theorem slice_to_s (g n m : Nat) (hm : m ≤ n) (h0 : 0 < n) (w : World) :
    (Instr.sliceAt 49 (.slice (some ⟨g, 0, none⟩) n n) none (some (.int .i64 (m : Int))) none).run Tryz.prog w = .ok (.slice (some ⟨g, 0, none⟩) m n) w := by
  have hu := Tryz.underlying49
  have hz : ∀ w, (sizeOf 9).run Tryz.prog w = .ok 1 w := fun _ => by kernel_rfl
  have h1 : (0 : Int) ≤ (m : Int) ∧ (m : Int) ≤ (n : Int) := by omega
  have h2 : ¬ n = 0 := by omega
  have h3 : (⟨g, 0, none⟩ : Addr).add 0 = ⟨g, 0, none⟩ := by rw [Addr.add_none]
  simp [Instr.sliceAt, Instr.slice, Instr.sliceBounds, Instr.sliceBound, run_underlying hu, asIntOf, h1, h2, hm, hz, h3, go_sem]

set_option maxRecDepth 20000 in
set_option maxHeartbeats 2000000 in
theorem repeat_strs (b : Nat) (z : ByteArray) (n : Nat) (w : World) (hc : w.cell? ⟨b, 0, none⟩ = some (.string z)) (hb : b < w.heap.size) (h0 : 1 ≤ n) (hn : n ≤ 1000000) :
    Calls Tryz.prog 45 #[.slice (some ⟨b, 0, none⟩) 1 1, .int .i64 n] w fun e w' => ∃ v', e = .returned v' ∧ w'.ownsRow w.heap.size 9 1 v' n (strs (List.replicate n z)) ∧ Below w.heap.size w w' := by
  have hm := Tryz.bits_Mul 1 n (by omega) (by omega) w
  have m1 : 1 * n / 18446744073709551616 = 0 := by omega
  have m2 : 1 * n % 18446744073709551616 = n := by omega
  rw [m1, m2, show ((0 : Nat) : Int) = 0 from rfl] at hm
  have hmk := make_strs n hn
  have HM := Lib.hid hm
  clear hm m1 m2
  have i1 : (1 : Int) ≤ (n : Int) := by omega
  have i2 : (n : Int) ≤ 1000000 := by omega
  go_enter Tryz.func45, Tryz.ntmps45
  go_wp2_with fail
  refine HM.out.mono ?_
  rintro e w1 ⟨rfl, hw1⟩
  obtain rfl := hw1.symm
  clear hw1
  have hnew : (w.alloc (.cells (madeCells #[.string noBytes] n) 9)).heap[w.heap.size]? = some (.cells (madeCells #[.string noBytes] n).toList.toArray 9 (0, 0)) := by rw [Array.toArray_toList]; exact heap_alloc_new w _
  have hsrc : ∀ (j : Nat) (u : Value), [Value.string z][j]? = some u → (w.alloc (.cells (madeCells #[.string noBytes] n) 9)).cell? ((⟨b, 0, none⟩ : Addr).add j) = some u := fun j u hj => by
    match j, hj with
    | 0, hj =>
      simp at hj; subst hj
      rw [Addr.add_none, World.cell?_of_block (w := w) (Below.heap_alloc _ _ _ hb)]; exact hc
  have hlen : (madeCells #[.string noBytes] n).toList.length = n := by simp [size_madeCells]
  have hba : Below w.heap.size w (w.alloc (.cells (madeCells #[.string noBytes] n) 9)) := (Below.refl _ _).alloc (Nat.le_refl _) _
  have hs9 : (Tryz.prog.info? 9).map (·.size) = some 1 := by kernel_rfl
  obtain ⟨g, hg⟩ : ∃ g, g = w.heap.size := ⟨_, rfl⟩
  generalize hM : (madeCells #[.string noBytes] n) = M at *
  have HM' := Lib.hid hM
  clear hM
  have k1 : [Value.string z].length = Nat.min 1 n := by simp [Nat.min_def]; omega
  have k2 : 0 + [Value.string z].length ≤ M.toList.length := by rw [hlen]; simp; omega
  have k3 : ∀ v ∈ [Value.string z], v.oneCell' = true := by intro v hv; simp at hv; subst hv; rfl
  have K1 := Lib.hid k1
  have K2 := Lib.hid k2
  have K3 := Lib.hid k3
  have HN := Lib.hid hnew
  have HSr := Lib.hid hsrc
  have HBa := Lib.hid hba
  clear k1 k2 k3 hnew hsrc hba
  go_wp2_with (with_reducible refine wpList_copy_splice (o := ⟨some 33, _, _, _, _, _⟩) rfl (.tmp 31) (.tmp 32) 49 49 rfl 9 Tryz.underlying49 hs9 _ _ _ _ _ _ rfl rfl w.heap.size 0 M.toList 9 HN.out [.string z] K1.out (fun _ => ⟨rfl, _, rfl, HSr.out⟩) K2.out K3.out w.heap.size w HBa.out (Nat.le_refl _) ?_)
  intro w2 HG2 hb2
  rw [← hg] at HG2
  have hgle : w.heap.size ≤ g := by omega
  have hrow : ∃ cur : List Value, w2.heap[g]? = some (.cells cur.toArray 9 (0, 0)) ∧ cur.length = n ∧ cur.take 1 = List.replicate 1 (.string z) :=
    ⟨_, HG2.out, by rw [length_splice _ _ _ K2.out]; exact hlen, splice_take' 0 K2.out⟩
  have HROW := Lib.hid hrow
  have HB2 := Lib.hid hb2
  clear hrow hb2 HG2 HN HSr HBa K1 K2 hlen hmk hc
  go_wp2_with fail
  rw [← hg]
  have HG := Lib.hid hg
  clear hg
  go_loopw [8] (fun i wr => ∃ m : Nat, 1 ≤ m ∧ m ≤ n ∧ i = .int .i64 m ∧ (∃ cur : List Value, wr.heap[g]? = some (.cells cur.toArray 9 (0, 0)) ∧ cur.length = n ∧ cur.take m = List.replicate m (.string z)) ∧ Below w.heap.size w wr) (fun i _ => n - (intOf i).toNat)
  case atStart => exact ⟨1, by omega, h0, rfl, HROW.out, HB2.out⟩
  case round =>
    obtain ⟨m, hm1, hmn, rfl, ⟨cur, hcur, hcl, hct⟩, hB⟩ := hrel
    by_cases hlt : m < n
    · have i3 : (m : Int) < (n : Int) := by omega
      have s1 := slice_from_s g n m hlt
      have s2 := slice_to_s g n m hmn (by omega)
      obtain ⟨j, hj⟩ : ∃ j, j = min m (n - m) := ⟨_, rfl⟩
      have hj1 : 1 ≤ j := by omega
      have hj2 : m + j ≤ n := by omega
      have hj3 : j ≤ m := by omega
      replace hj : j = Nat.min m (n - m) := hj
      have hcs : ∀ (i : Nat) (v : Value), (List.replicate j (Value.string z))[i]? = some v → wr.cell? ((⟨g, 0, none⟩ : Addr).add i) = some v := fun i v hv => by
        have hi : i < j := by have := (List.getElem?_eq_some_iff.1 hv).1; simpa using this
        rw [Addr.add_none, Nat.zero_add, cell_of_blk hcur]
        have h1 : (cur.take m)[i]? = some (.string z) := by rw [hct, List.getElem?_replicate, if_pos (by omega)]
        rw [List.getElem?_take_of_lt (by omega)] at h1
        have h2 : v = .string z := by
          rw [List.getElem?_replicate, if_pos hi] at hv
          simpa using hv.symm
        rw [h2]
        simpa using h1
      have HC := Lib.hid hcs
      have HCU := Lib.hid hcur
      have HCL := Lib.hid hcl
      have HCT := Lib.hid hct
      have HJ := Lib.hid hj
      have hBd : Below w.heap.size w wr.drew := ⟨hB.os, hB.tape, hB.output, hB.size, hB.block⟩
      have HB := Lib.hid hBd
      clear hcs hcur hcl hct hj hB hBd
      go_wp2_with fail
      obtain ⟨cs, hcs2⟩ : ∃ cs, cs = List.replicate j (Value.string z) := ⟨_, rfl⟩
      have q1 : cs.length = Nat.min m (n - m) := by rw [hcs2, List.length_replicate]; exact HJ.out
      have q2 : m + cs.length ≤ cur.length := by rw [HCL.out, hcs2, List.length_replicate]; exact hj2
      have q3 : ∀ v ∈ cs, v.oneCell' = true := fun v hv => by rw [hcs2] at hv; rw [(List.mem_replicate.1 hv).2]; rfl
      have q4 : ∀ (i : Nat) (v : Value), cs[i]? = some v → wr.drew.cell? ((⟨g, 0, none⟩ : Addr).add i) = some v := fun i v hv => by rw [hcs2] at hv; exact HC.out i v hv
      have q5 : 0 < cs.length → some (⟨g, m, none⟩ : Addr) = some ⟨g, m, none⟩ ∧ ∃ ad, some (⟨g, 0, none⟩ : Addr) = some ad ∧ ∀ (j : Nat) (v : Value), cs[j]? = some v → wr.drew.cell? (ad.add j) = some v := fun _ => ⟨rfl, _, rfl, q4⟩
      have Q1 := Lib.hid q1
      have Q2 := Lib.hid q2
      have Q3 := Lib.hid q3
      have Q5 := Lib.hid q5
      have HCS := Lib.hid hcs2
      have HJ3 := Lib.hid hj3
      have HJ2 := Lib.hid hj2
      have HJ1 := Lib.hid hj1
      clear q1 q2 q3 q4 q5 hcs2 hj1 hj2 hj3
      go_region_held_law (fun w' => True) (trivial)
        (first | (refine step_copy_splice (o := ⟨some 45, _, _, _, _, _⟩) rfl (.tmp 41) (.tmp 44) 49 49 rfl 9 Tryz.underlying49 hs9 (some ⟨g, m, none⟩) (some ⟨g, 0, none⟩) (n - m) (n - m) m n (by rfl) (by rfl) g m cur 9 HCU.out cs Q1.out Q5.out Q2.out Q3.out w.heap.size w HB.out hgle ?_; intro w4 hg4 hb4))
      all_goals (
        have hcl : cs.length = j := by rw [HCS.out, List.length_replicate]
        have hj1 := HJ1.out
        have hj2 := HJ2.out
        have hw : IntKind.i64.wrap ((m : Int) + (cs.length : Int)) = ((m + cs.length : Nat) : Int) := by rw [IntWalk.i64_in _ (by omega)]; omega
        rw [hw]
        have hrow : ∃ cur' : List Value, w4.heap[g]? = some (.cells cur'.toArray 9 (0, 0)) ∧ cur'.length = n ∧ cur'.take (m + cs.length) = List.replicate (m + cs.length) (.string z) := by
          refine ⟨_, hg4.out, by rw [length_splice _ _ _ Q2.out]; exact HCL.out, ?_⟩
          rw [splice_take' m Q2.out, HCT.out, HCS.out, List.length_replicate, List.replicate_append_replicate]
        have hle : m + cs.length ≤ n := by omega
        have hlt2 : m < m + cs.length := by omega
        have HR := Lib.hid hrow
        have HB4 := Lib.hid hb4
        clear hrow hg4 hb4 hcl hj1 hj2 hw Q1 Q2 Q3 Q5 HCS
        go_wp2
        go_roundw
        case rel => exact ⟨m + cs.length, by omega, hle, rfl, HR.out, HB4.out⟩
        case measure => simp [intOf]; omega)
    · obtain rfl : m = n := by omega
      have hown : wr.ownsRow w.heap.size 9 1 (.slice (some ⟨g, 0, none⟩) m m) m (strs (List.replicate m z)) := by
        refine ⟨by simp [strs], .inr ⟨g, m, cur.toArray, rfl, hgle, hcur, Nat.le_refl _, by unfold maxLen; omega, by simp [hcl], ?_⟩⟩
        rw [Nat.mul_one]
        simp only [strs, List.map_replicate]
        exact hct
      have HO := Lib.hid hown
      have HB := Lib.hid hB
      clear hown hB hcur hct
      go_wp2
      go_ret
      exact ⟨_, rfl, HO.out, HB.out⟩

theorem appW_zero (L W) : appW L W 0 = L := rfl
/-- A new disk's state. -/
def ds0 (n : Nat) : DS := ⟨List.replicate n (secOf 0), [], -1, false, 0⟩
theorem ds0_ok (n : Nat) (h : n ≤ 1200) : (ds0 n).ok 0 := ⟨fun i hi => by simp [ds0] at hi, by simp [ds0], by simp [ds0], by simp [ds0], by simp [ds0], by simpa [ds0] using h⟩

set_option maxRecDepth 20000 in
set_option maxHeartbeats 1000000 in
theorem new_bad (n : Int) (w : World) (h : n < 1 ∨ 1200 < n) :
    Calls Tryz.prog 10 #[.int .i64 n] w fun e w' => e = .returned (.tuple #[.pointer none, .int .i64 2]) ∧ w' = w := by
  by_cases h1 : n < 1
  · go_enter Tryz.func10, Tryz.ntmps10
    go_wp2
    refine bodyPost_ret (results_tmp2 rfl _ _ _) rfl ?_
    exact ⟨rfl, rfl⟩
  · have h2 : 1200 < n := by omega
    clear h
    go_enter Tryz.func10, Tryz.ntmps10
    go_wp2
    refine bodyPost_ret (results_tmp2 rfl _ _ _) rfl ?_
    exact ⟨rfl, rfl⟩

set_option maxRecDepth 20000 in
set_option maxHeartbeats 1000000 in
theorem dnew_any (n : Nat) (w : World) (h0 : 1 ≤ n) (h1 : n ≤ 1200) :
    Calls Tryz.prog 10 #[.int .i64 n] w fun e w' => ∃ p v1, e = .returned (.tuple #[.pointer (some ⟨p, 0, none⟩), .int .i64 0]) ∧ PD w' w.heap.size p v1 (.slice none 0 0) (ds0 n) ∧ Below w.heap.size w w' := by
  have i1 : (1 : Int) ≤ (n : Int) := by omega
  have i2 : (n : Int) ≤ 1200 := by omega
  go_enter Tryz.func10, Tryz.ntmps10
  go_wp2_with fail
  refine (zero_any w).mono ?_
  rintro e w1 ⟨rfl, hb1⟩
  have hba : Below w.heap.size w (w1.alloc (.cells #[.string (secOf 0)] 9)) := hb1.alloc hb1.size _
  have hr := repeat_strs w1.heap.size (secOf 0) n (w1.alloc (.cells #[.string (secOf 0)] 9)) (World.cell?_alloc_at _ _ _ _ rfl) (by simp) h0 (by omega)
  have HB := Lib.hid hba
  have HR := Lib.hid hr
  have hs1 := hb1.size
  obtain ⟨z0, hz0⟩ : ∃ z, z = secOf 0 := ⟨_, rfl⟩
  rw [← hz0] at HB HR ⊢
  have HZ := Lib.hid hz0
  clear hba hr hb1 hz0
  go_wp2_with fail
  refine HR.out.mono ?_
  rintro e w2 ⟨v', rfl, ho, hb2⟩
  obtain ⟨a, c, rfl, _, _, _⟩ := owns_shape1 ho
  have HO := Lib.hid ho
  have hbf := HB.out.trans (hb2.mono HB.out.size)
  have HBF := Lib.hid hbf
  clear ho hb2 hbf
  go_wp2
  refine bodyPost_ret (results_tmp2 rfl _ _ _) rfl ?_
  have hl : (ds0 n).L.length = n := by simp [ds0]
  refine ⟨w2.heap.size, .slice a n c, rfl, ⟨0, ⟨(heap_alloc_new _ _).trans (by simp [ds0]), HBF.out.size, ?_, World.ownsRow_nil _ _ _ _⟩, fun h => by simp [ds0] at h⟩, HBF.out.alloc HBF.out.size _⟩
  rw [hl]
  show World.ownsRow _ _ _ _ _ _ (strs (List.replicate n (secOf 0)))
  rw [← HZ.out]
  exact owns_low (HO.out.alloc _) (by simp; omega)

end Go.Proofs.YtpkeikbiblfidaaGreatDoor
/-
  Contracts: the program's Read (a range over newest).
-/
namespace Go.Proofs.YtpkeikbiblfidaaGreatDoor
open Go.RowKit Go.Shelf
set_option linter.unusedVariables false
set_option linter.unusedSimpArgs false
attribute [local go_sem] Oper.semAt_some

/-- What waits, as it is read through the iterator's box. -/
structure Pend (W : World) (n₀ Bn p : Nat) (a2 : Option Addr) (c : Nat) (WL : List (Int × ByteArray)) : Prop where
  lb : Bn < n₀
  lp : p < n₀
  box : W.cell? ⟨Bn, 0, none⟩ = some (.pointer (some ⟨p, 0, none⟩))
  sl : W.cell? ⟨p, 1, none⟩ = some (.slice a2 WL.length c)
  big : WL.length ≤ c
  cm : c ≤ maxLen
  few : WL.length ≤ 1000000
  at0 : 0 < WL.length → ∃ g, a2 = some ⟨g, 0, none⟩ ∧ g < n₀ ∧ ∀ i, i < WL.length → W.cell? ⟨g, i * 2, none⟩ = some (.int .i64 (wAt WL i).1) ∧ W.cell? ⟨g, i * 2 + 1, none⟩ = some (.string (wAt WL i).2)

theorem Pend.below {W W' : World} {n₀ Bn p a2 c WL} (h : Pend W n₀ Bn p a2 c WL) (hb : Below n₀ W W') : Pend W' n₀ Bn p a2 c WL :=
  ⟨h.lb, h.lp, (hb.cell (p := ⟨Bn, 0, none⟩) h.lb).trans h.box, (hb.cell (p := ⟨p, 1, none⟩) h.lp).trans h.sl, h.big, h.cm, h.few, fun h0 => by
    obtain ⟨g, e, hg, hc⟩ := h.at0 h0
    exact ⟨g, e, hg, fun i hi => ⟨(hb.cell (p := ⟨g, i * 2, none⟩) hg).trans (hc i hi).1, (hb.cell (p := ⟨g, i * 2 + 1, none⟩) hg).trans (hc i hi).2⟩⟩⟩

/-- What has come when k rounds are over: the newest first. -/
def upk (WL : List (Int × ByteArray)) (k : Nat) : List (Int × ByteArray) := (List.range k).map fun j => wAt WL (WL.length - 1 - j)
theorem upk_succ (WL k) : upk WL (k + 1) = upk WL k ++ [wAt WL (WL.length - 1 - k)] := by simp [upk, List.range_succ]
theorem upk_length (WL k) : (upk WL k).length = k := by simp [upk]

def encP (x : Int × ByteArray) : Array Value := #[.agg #[.int .i64 x.1, .string x.2]]

set_option maxRecDepth 100000 in
set_option maxHeartbeats 1000000 in
theorem newest1_in (F : Fence) (n : Nat) (h6 : F.fn 119) (hro : F.round = none) (hn : 1 ≤ n) (l Bn n₀ p : Nat) (a2 : Option Addr) (c : Nat) (WL : List (Int × ByteArray)) (J Jx : List (Int × ByteArray) → World → Prop)
    (hY : ∀ pre x W, J pre W → pre.length < WL.length → YieldAt F (n - 1) Tryz.prog l (encP x) W fun e W' =>
      (e = .returned (.bool true) ∧ J (pre ++ [x]) W' ∧ Below n₀ W W') ∨ (e = .returned (.bool false) ∧ Jx (pre ++ [x]) W'))
    (W : World) (hP : Pend W n₀ Bn p a2 c WL) (h0 : J [] W) :
    CallsIn F n Tryz.prog 119 #[.func (.yield l) #[] #[], .pointer (some ⟨Bn, 0, none⟩)] W fun e W' => (∃ v, e = .returned v) ∧
      ((∃ ys, ys = upk WL WL.length ∧ J ys W') ∨ (∃ pre, (∃ k, k ≤ WL.length ∧ pre = upk WL k) ∧ Jx pre W')) := by
  refine callsIn_of_wp Tryz.func119 rfl h6 ?_ hro
  simp only [Tryz.ntmps119, List.size_toArray, List.length_cons, List.length_nil, Nat.reduceAdd, Nat.reduceSub, Array.replicate_succ, Array.replicate_zero, List.push_toArray, List.append_toArray, List.nil_append, List.cons_append]
  have hb := hP.box
  have hs := hP.sl
  have hfw := hP.few
  have HP := Lib.hid hP
  clear hP
  gi_wp2
  clear hb hs
  gi_loopw [3] (fun i wr => ∃ k : Nat, k ≤ WL.length ∧ i = .int .i64 ((WL.length : Int) - 1 - (k : Int)) ∧ J (upk WL k) wr ∧ Pend wr n₀ Bn p a2 c WL) (fun i _ => (intOf i + 1).toNat)
  case atStart => exact ⟨0, by omega, by simp, h0, HP.out⟩
  case round =>
    obtain ⟨k, hk, rfl, hJ, hP⟩ := hrel
    by_cases hlt : k < WL.length
    · obtain ⟨m, hm⟩ : ∃ m : Nat, m = WL.length - 1 - k := ⟨_, rfl⟩
      have hml : m < WL.length := by omega
      have e0 : (WL.length : Int) - 1 - (k : Int) = (m : Int) := by omega
      rw [e0]
      have i1 : (0 : Int) ≤ (m : Int) := by omega
      have i2 : (m : Int) < (WL.length : Int) := by omega
      obtain ⟨g, rfl, hg, hc⟩ := hP.at0 (by omega)
      obtain ⟨c0, c1⟩ := hc m hml
      have hb := hP.box
      have hs := hP.sl
      have hcm : (c : Int) ≤ 9223372036854775807 := by have := hP.cm; unfold maxLen at this; omega
      have hbig := hP.big
      obtain ⟨fn, tmps, assign, body, hy, hR⟩ := hY (upk WL k) (wAt WL m) wr hJ (by rw [upk_length]; exact hlt)
      have hup : upk WL k ++ [wAt WL m] = upk WL (k + 1) := by rw [upk_succ, hm]
      rw [hup] at hR
      have HR := Lib.hid hR
      have HP := Lib.hid hP
      have HM := Lib.hid hm
      unfold encP at hy
      clear hR hJ hc hP hm hup e0
      generalize (wAt WL m).1 = x1 at *
      generalize (wAt WL m).2 = x2 at *
      gi_wp2
      refine HR.out.mono ?_
      rintro e W3 (⟨rfl, hJ3, hk3⟩ | ⟨rfl, hJx3⟩)
      · have hP3 := HP.out.below hk3
        have HP3 := Lib.hid hP3
        clear hP3 hk3 hy
        gi_wp2
        go_roundw
        case rel => exact ⟨k + 1, by omega, by have := HM.out; go_num, hJ3, HP3.out⟩
        case measure => simp [intOf]
      · gi_wp2
        refine bodyPost_ret (results_none rfl _ _ _) rfl ?_
        exact ⟨⟨_, rfl⟩, .inr ⟨_, ⟨k + 1, by omega, rfl⟩, hJx3⟩⟩
    · obtain rfl : k = WL.length := by omega
      have e0 : (WL.length : Int) - 1 - (WL.length : Int) = -1 := by omega
      rw [e0]
      gi_wp2
      go_end0
      exact ⟨⟨_, rfl⟩, .inl ⟨_, rfl, hJ⟩⟩

set_option maxHeartbeats 1000000 in
theorem newest_in (F : Fence) (n : Nat) (h5 : F.fn 75) (hro : F.round = none) (p0 : Option Addr) (w : World) :
    CallsIn F n Tryz.prog 75 #[.pointer p0] w fun e w' => e = .returned (.func (.func 119) #[] #[.pointer (some ⟨w.heap.size, 0, none⟩)]) ∧ w' = w.alloc (.cells #[.pointer p0] 27) := by
  refine callsIn_of_wp Tryz.func75 rfl h5 ?_ hro
  simp only [Tryz.ntmps75, List.size_toArray, List.length_cons, List.length_nil, Nat.reduceAdd, Nat.reduceSub, Array.replicate_succ, Array.replicate_zero, List.push_toArray, List.append_toArray, List.nil_append, List.cons_append]
  gi_wp2
  go_ret
  exact ⟨rfl, rfl⟩

theorem newest_stops (F : Fence) (n : Nat) (h6 : F.fn 119) (hro : F.round = none) (hn : 1 ≤ n) (Bn n₀ p : Nat) (a2 : Option Addr) (c : Nat) (WL : List (Int × ByteArray)) (w : World) (hn₀ : n₀ ≤ w.heap.size) (hP : Pend w n₀ Bn p a2 c WL) :
    SeqStopsK F n Tryz.prog 119 #[.pointer (some ⟨Bn, 0, none⟩)] encP (Below n₀) (fun ys => ys = upk WL WL.length) (fun pre => ∃ k, k ≤ WL.length ∧ pre = upk WL k) WL.length w := fun l J Jx W hW _ _ hY h0 =>
  newest1_in F n h6 hro hn l Bn n₀ p a2 c WL J Jx hY W (hP.below (hW.mono hn₀)) h0

theorem look_skip (W : List (Int × ByteArray)) (x : Int) (d : ByteArray) : ∀ (j n : Nat), j ≤ n → (∀ i, i < j → (wAt W (n - 1 - i)).1 ≠ x) → look W x d n = look W x d (n - j)
  | 0, n, _, _ => rfl
  | j + 1, 0, h, _ => by omega
  | j + 1, n + 1, h, hm => by
    have h0 := hm 0 (by omega)
    simp only [Nat.add_sub_cancel, Nat.sub_zero] at h0
    have e : look W x d (n + 1) = look W x d n := by show (if _ then _ else _) = _; rw [if_neg h0]
    rw [e, show n + 1 - (j + 1) = n - j from by omega]
    refine look_skip W x d j n (by omega) fun i hi => ?_
    have := hm (i + 1) (by omega)
    rwa [show n + 1 - 1 - (i + 1) = n - 1 - i from by omega] at this

theorem look_none (W : List (Int × ByteArray)) (x : Int) (d : ByteArray) (h : ∀ y ∈ upk W W.length, y.1 ≠ x) : look W x d W.length = d := by
  rw [look_skip W x d W.length W.length (Nat.le_refl _) (fun i hi => h _ (by simp only [upk, List.mem_map, List.mem_range]; exact ⟨i, hi, rfl⟩)), Nat.sub_self]
  rfl

theorem look_some (W : List (Int × ByteArray)) (x : Int) (d : ByteArray) (k : Nat) (hk : k ≤ W.length) (pre : List (Int × ByteArray)) (y : Int × ByteArray) (he : upk W k = pre ++ [y]) (h : ∀ z ∈ pre, z.1 ≠ x) (hy : y.1 = x) : look W x d W.length = y.2 := by
  have hl := congrArg List.length he
  rw [upk_length] at hl
  simp at hl
  obtain ⟨m, rfl⟩ : ∃ m, k = m + 1 := ⟨k - 1, by omega⟩
  rw [upk_succ] at he
  have hp := List.append_inj_left' he rfl
  have hz := List.append_inj_right' he rfl
  simp at hz
  rw [look_skip W x d m W.length (by omega) (fun i hi => h _ (by rw [← hp]; simp only [upk, List.mem_map, List.mem_range]; exact ⟨i, hi, rfl⟩))]
  obtain ⟨q, hq⟩ : ∃ q, W.length - m = q + 1 := ⟨W.length - m - 1, by omega⟩
  rw [hq]
  have e1 : wAt W q = y := by rw [← hz]; congr 1; omega
  show (if (wAt W q).1 = x then _ else _) = _
  rw [e1, if_pos hy]

theorem pend_of {w : World} {B p : Nat} {v1 : Value} {a2 : Option Addr} {c : Nat} {S : DS} {W : World} {n₀ Bn : Nat} (h : PD w B p v1 (.slice a2 S.W.length c) S) (hb : Below w.heap.size w W) (hn : w.heap.size ≤ n₀) (hB : Bn < n₀) (hbox : W.cell? ⟨Bn, 0, none⟩ = some (.pointer (some ⟨p, 0, none⟩))) (hf : S.W.length ≤ 1000000) :
    Pend W n₀ Bn p a2 c S.W := by
  obtain ⟨fu, e, c0, c1, c2, c3, c4, c5, hf2⟩ := h.cells
  obtain ⟨a2', cc2, e2, hle2, hcm2, hg2⟩ := owns_shape1 h.own2
  cases e2
  have hpl := h.lt
  refine ⟨hB, by omega, hbox, (hb.cell (p := ⟨p, 1, none⟩) hpl).trans c1, hle2, hcm2, hf, fun h0 => ?_⟩
  obtain ⟨g, rfl, hgo, hBg, hgl⟩ := hg2 h0
  exact ⟨g, rfl, by omega, fun i hi => ⟨(hb.cell (p := ⟨g, i * 2, none⟩) hgl).trans (owns_cell h.own2 hgo _ _ (puts_at S.W i hi).1), (hb.cell (p := ⟨g, i * 2 + 1, none⟩) hgl).trans (owns_cell h.own2 hgo _ _ (puts_at S.W i hi).2)⟩⟩

theorem boxes3 (w : World) (u v x : Value) (t1 t2 t3 : TypeId) : ∃ w3, w3 = ((w.alloc (.cells #[u] t1)).alloc (.cells #[v] t2)).alloc (.cells #[x] t3) ∧ Boxed w3 w.heap.size t1 u ∧ Boxed w3 (w.heap.size + 1) t2 v ∧ Boxed w3 (w.heap.size + 1 + 1) t3 x ∧ w3.heap.size = w.heap.size + 3 ∧ Below w.heap.size w w3 := by
  refine ⟨_, rfl, ((Boxed.new w t1 u).alloc _).alloc _, ?_, ?_, by simp, (((Below.refl _ w).alloc (Nat.le_refl _) _).alloc (by simp) _).alloc (by simp; omega) _⟩
  · have := (Boxed.new (w.alloc (.cells #[u] t1)) t2 v).alloc (.cells #[x] t3)
    simpa only [World.size_alloc] using this
  · have := Boxed.new ((w.alloc (.cells #[u] t1)).alloc (.cells #[v] t2)) t3 x
    simpa only [World.size_alloc] using this

theorem boxed_from {W W' : World} {row : Option Nat} {b : Nat} {t : TypeId} {v : Value} (h : Boxed W b t v) (hg : W.grownBy W' row) (hr : ∀ r, row = some r → ∃ o : Obj, W.heap[r]? = some o ∧ o.isCells = false) : Boxed W' b t v :=
  boxed_own b t (fun (_ : Unit) => v) () W W' row h hg hr

theorem put_own {W W' : World} {row : Option Nat} {b : Nat} {cs : Array Value} {t : TypeId} (h : W.heap[b]? = some (.cells cs t (0, 0))) (hg : W.grownBy W' row) (hr : ∀ r, row = some r → ∃ o : Obj, W.heap[r]? = some o ∧ o.isCells = false) : W'.heap[b]? = some (.cells cs t (0, 0)) := by
  rw [hg.block b (lt_of_block h) (fun e => by
    obtain ⟨o, ho, hc⟩ := hr b e.symm
    rw [h] at ho; cases ho; cases hc)]
  exact h

set_option maxRecDepth 100000 in
set_option maxHeartbeats 4000000 in
theorem read_in (B p : Nat) (v1 v2 : Value) (S : DS) (at' : Int) (w : World) (h : PD w B p v1 v2 S) (hf : S.W.length ≤ 1000000) (hl : S.L.length ≤ 1000000) :
    CallsIn Fence.wide 10 Tryz.prog 21 #[.pointer (some ⟨p, 0, none⟩), .int .i64 at'] w fun e w' => e = .returned (two (S.read at')) ∧ Below w.heap.size w w' := by
  obtain ⟨fu, e, c0, c1, c2, c3, c4, c5, hfz⟩ := h.cells
  obtain ⟨a, c, rfl, hle, hcm, hg⟩ := owns_shape1 h.own1
  obtain ⟨a2, cc2, rfl, hle2, hcm2, hg2⟩ := owns_shape1 h.own2
  have hs1 := fun w' (hb : Below w.heap.size w w') => (callsIn_wide (n := 9)).2 (state_any p S.off w' ((hb.cell (p := ⟨p, 2, none⟩) h.lt).trans c2))
  have hh := fun w' (hb : Below w.heap.size w w') => (callsIn_wide (n := 9)).2 (has_any p at' a S.L.length c w' ((hb.cell (p := ⟨p, 0, none⟩) h.lt).trans c0))
  have hpl := h.lt
  have H := Lib.hid h
  have HS := Lib.hid hs1
  have HH := Lib.hid hh
  have C0 := Lib.hid c0
  clear hs1 hh h c0 c1 c2 c3 c4 c5 hfz e hg2
  obtain ⟨R, hR⟩ : ∃ R, R = S.read at' := ⟨_, rfl⟩
  rw [← hR]
  have HR := Lib.hid hR
  clear hR
  refine callsIn_of_wp_marks Tryz.func21 rfl trivial ?_ rfl
  simp only [Tryz.ntmps21, List.size_toArray, List.length_cons, List.length_nil, Nat.reduceAdd, Nat.reduceSub, Array.replicate_succ, Array.replicate_zero, List.push_toArray, List.append_toArray, List.nil_append, List.cons_append]
  gi_wp2_with fail
  obtain ⟨w3, hw3, bX, bR, bE, hsz, hb3⟩ := boxes3 w (.int .i64 at') (.string ⟨#[]⟩) (.int .i64 0) 3 9 28
  rw [← hw3]
  clear hw3
  refine ⟨trivial, (HS.out _ hb3).mono ?_⟩
  rintro e w1 ⟨rfl, hw1⟩; obtain rfl := hw1.symm; clear hw1
  have cX := bX.cell
  have cR := bR.cell
  have fR := bR.frozen
  have cE := bE.cell
  have fE := bE.frozen
  cases ho : S.off with
  | true =>
    have hu : R = (noBytes, 5) := HR.out.trans (by unfold DS.read; rw [if_pos ho])
    have HU := Lib.hid hu
    clear hu
    gi_wp2
    have bR1 := (bR.set (.string ⟨#[]⟩)).other (B' := w.heap.size + 1 + 1) (by omega) (.int .i64 5)
    have bE1 := (bE.other (B' := w.heap.size + 1) (by omega) (.string ⟨#[]⟩)).set (.int .i64 5)
    refine ⟨two R, ?_, rfl, (hb3.setCell (p := ⟨w.heap.size + 1, 0, none⟩) (by simp) _).setCell (p := ⟨w.heap.size + 1 + 1, 0, none⟩) (by simp; omega) _⟩
    rw [HU.out]
    simp [results, Tryz.f21, go_sem, bR1.cell, bE1.cell, two, noBytes]
  | false =>
    by_cases hs : S.has at'
    · obtain ⟨k, rfl, hkl⟩ := has_nat hs
      have hu : R = (look S.W k (lAt S.L k) S.W.length, 0) := HR.out.trans (by unfold DS.read; rw [if_neg (by simp [ho]), if_pos hs]; rfl)
      have HU := Lib.hid hu
      have hd : decide (0 ≤ (k : Int) ∧ (k : Int) < (S.L.length : Int)) = true := by simpa [DS.has] using hs
      have hh3 := HH.out w3 hb3
      rw [hd] at hh3
      have HH3 := Lib.hid hh3
      have HB3 := Lib.hid hb3
      clear hu hh3 hd hs hb3
      gi_wp2_with fail
      refine ⟨trivial, HH3.out.mono ?_⟩
      rintro e w1 ⟨rfl, hw1⟩; obtain rfl := hw1.symm; clear hw1
      gi_wp2_with fail
      refine ⟨trivial, (newest_in Fence.wide 9 trivial rfl _ _).mono ?_⟩
      rintro e w1 ⟨rfl, rfl⟩
      gi_wp2_with fail
      have hP := pend_of (n₀ := w.heap.size + 4) (Bn := w.heap.size + 3) H.out (HB3.out.alloc HB3.out.size (.cells #[.pointer (some ⟨p, 0, none⟩)] 27)) (by omega) (by omega) (by rw [← hsz]; exact (Boxed.new w3 27 _).cell) hf
      have hs0 : (w3.alloc (.cells #[.pointer (some ⟨p, 0, none⟩)] 27)).heap.size = w.heap.size + 4 := by simp [hsz]
      have hB0 : Below w.heap.size w (w3.alloc (.cells #[.pointer (some ⟨p, 0, none⟩)] 27)) := HB3.out.alloc HB3.out.size _
      have bX0 := bX.alloc (.cells #[.pointer (some ⟨p, 0, none⟩)] 27)
      have bR0 := bR.alloc (.cells #[.pointer (some ⟨p, 0, none⟩)] 27)
      have bE0 := bE.alloc (.cells #[.pointer (some ⟨p, 0, none⟩)] 27)
      obtain ⟨W0, hW0⟩ : ∃ W0, w3.alloc (.cells #[.pointer (some ⟨p, 0, none⟩)] 27) = W0 := ⟨_, rfl⟩
      rw [hW0] at hP hs0 hB0 bX0 bR0 bE0 ⊢
      clear hW0 cX cR fR cE fE bX bR bE
      refine wpIn_rangeFunc_ownH rfl (by omega) (gf := 119) (lb := #[.pointer (some ⟨w.heap.size + 3, 0, none⟩)]) rfl trivial (enters_of Tryz.func119 (by kernel_rfl) rfl)
        (newest_stops Fence.wide 9 trivial rfl (by omega) (w.heap.size + 3) (w.heap.size + 4) p a2 cc2 S.W W0 (by omega) hP) belowK_t (belowK_b (by omega)) (Below.refl _ _) (fun _ => rfl)
        (fun pre W => ((∀ y ∈ pre, y.1 ≠ (k : Int)) ∧ Boxed W w.heap.size 3 (.int .i64 (k : Int)) ∧ Boxed W (w.heap.size + 1) 9 (.string ⟨#[]⟩) ∧ Boxed W (w.heap.size + 1 + 1) 28 (.int .i64 0) ∧ w.heap.size + 4 ≤ W.heap.size) ∧ Below w.heap.size w W)
        (fun c pre W => (c = .ret ∧ ∃ pre' y, pre = pre' ++ [y] ∧ (∀ z ∈ pre', z.1 ≠ (k : Int)) ∧ y.1 = (k : Int) ∧ Boxed W (w.heap.size + 1) 9 (.string y.2) ∧ Boxed W (w.heap.size + 1 + 1) 28 (.int .i64 0)) ∧ Below w.heap.size w W)
        (OwnFrom.and (fun s X Y row hs hg hr => ⟨hs.1, boxed_from hs.2.1 hg (fun r e => (hr r e).2), boxed_from hs.2.2.1 hg (fun r e => (hr r e).2), boxed_from hs.2.2.2.1 hg (fun r e => (hr r e).2), Nat.le_trans hs.2.2.2.2 hg.size⟩) (ownFrom_below (Nat.le_refl _) (by omega)))
        (fun c => OwnFrom.and (fun s X Y row hs hg hr => by
          obtain ⟨h1, pre', y, h2, h3, h4, h5, h6⟩ := hs
          exact ⟨h1, pre', y, h2, h3, h4, boxed_from h5 hg (fun r e => (hr r e).2), boxed_from h6 hg (fun r e => (hr r e).2)⟩) (ownFrom_below (Nat.le_refl _) (by omega)))
        ⟨⟨by simp, bX0, bR0, bE0, by omega⟩, hB0⟩
        (fun x a' W => ∃ Bx, w.heap.size + 1 + 1 < Bx ∧ W.heap[Bx]? = some (.cells #[.int .i64 x.1, .string x.2] 104 (0, 0)) ∧ a' = { tmps := #[.pointer (some ⟨p, 0, none⟩), .int .i64 (k : Int), undef, .pointer (some ⟨w.heap.size, 0, none⟩), .pointer (some ⟨w.heap.size + 1, 0, none⟩), .pointer (some ⟨w.heap.size + 1 + 1, 0, none⟩), .int .i64 0, .pointer (some ⟨Bx, 0, none⟩), .pointer (some ⟨p, 0, none⟩), .int .i64 0, .int .i64 0, .bool false, undef, .pointer (some ⟨p, 0, none⟩), .int .i64 (k : Int), .bool true, .bool false, .pointer (some ⟨p, 0, none⟩), .func (.func 119) #[] #[.pointer (some ⟨w.heap.size + 3, 0, none⟩)], .agg #[.int .i64 x.1, .string x.2], undef, undef, undef, undef, undef, undef, undef, undef, undef, undef, undef, undef, undef], defers := [] })
        (fun x a' _ X Y row hs hg hr => by
          obtain ⟨Bx, h1, h2, h3⟩ := hs
          exact ⟨Bx, h1, put_own h2 hg (fun r e => (hr r e).2), h3⟩)
        ?assign ?body ?done ?stop
      case assign =>
        rintro l pre x W K ⟨⟨hne, bX1, bR1, bE1, hs1⟩, hB1⟩ hK
        obtain ⟨x1, x2⟩ := x
        unfold encP
        gi_wp2
        exact hK _ _ ((KeepsOthers.alloc _ _).from _) ((Below.refl _ W).alloc hs1 _) ⟨⟨hne, bX1.alloc _, bR1.alloc _, bE1.alloc _, by simp; omega⟩, hB1.alloc hB1.size _⟩ ⟨W.heap.size, bE1.lt, heap_alloc_new _ _, rfl⟩
      case body =>
        rintro l pre x a' W hl' ⟨r, hr⟩ ⟨⟨hne, bX1, bR1, bE1, hs1⟩, hB1⟩ ⟨Bx, hBx, bP, rfl⟩ hlt
        obtain ⟨x1, x2⟩ := x
        have cX := bX1.cell
        have cR := bR1.cell
        have fR := bR1.frozen
        have cE := bE1.cell
        have fE := bE1.frozen
        have p0 : W.cell? ⟨Bx, 0, none⟩ = some (.int .i64 x1) := by rw [cell_of_blk bP]; rfl
        have p1 : W.cell? ⟨Bx, 1, none⟩ = some (.string x2) := by rw [cell_of_blk bP]; rfl
        gi_wp2
        · rename_i hx
          have hx' : x1 = (k : Int) := by simpa using hx
          exact ⟨((KeepsOthers.setCell _ _ _).trans (KeepsOthers.setCell _ _ _)).from _, ⟨rfl, pre, x1, x2, rfl, fun a b h => hne (a, b) h, hx', (bR1.set _).other (by omega) _, (bE1.other (by omega) _).set _⟩, (hB1.setCell (p := ⟨w.heap.size + 1, 0, none⟩) (by simp) _).setCell (p := ⟨w.heap.size + 1 + 1, 0, none⟩) (by simp; omega) _⟩
        · rename_i hx
          have hx' : ¬ x1 = (k : Int) := by simpa using hx
          refine ⟨KeepsFrom.refl _ _, Below.refl _ _, ⟨fun a b h => ?_, bX1, bR1, bE1, hs1⟩, hB1⟩
          rcases List.mem_append.1 h with h | h
          · exact hne (a, b) h
          · simp at h; rw [h.1]; exact hx'
      case done =>
        rintro D ys W hD rfl ⟨⟨hne, bX1, bR1, bE1, hs1⟩, hB1⟩ hK
        obtain ⟨g, rfl, hgo, hBg, hgl⟩ := hg (by omega)
        have cX := bX1.cell
        have cR := bR1.cell
        have fR := bR1.frozen
        have cE := bE1.cell
        have fE := bE1.frozen
        have c0 : W.cell? ⟨p, 0, none⟩ = some (.slice (some ⟨g, 0, none⟩) S.L.length c) := (hB1.cell (p := ⟨p, 0, none⟩) hpl).trans C0.out
        have cg : W.cell? ⟨g, k, none⟩ = some (.string (lAt S.L k)) := (hB1.cell (p := ⟨g, k, none⟩) hgl).trans (owns_cell H.out.own1 hgo _ _ (strs_at hkl))
        have hlk := look_none S.W k (lAt S.L k) hne
        have HL := Lib.hid hlk
        generalize lAt S.L k = s0 at *
        have i1 : (0 : Int) ≤ (k : Int) := by omega
        have i2 : (k : Int) < (S.L.length : Int) := by omega
        clear hne hlk
        gi_wp2
        gi_region
        gi_wp2
        have hK1 := ((KeepsOthers.setCell W ⟨w.heap.size + 1, 0, none⟩ (.string s0)).trans (KeepsOthers.setCell _ ⟨w.heap.size + 1 + 1, 0, none⟩ (.int .i64 0))).same D _ hK rfl
        have bR2 := (bR1.set (.string s0)).other (B' := w.heap.size + 1 + 1) (by omega) (.int .i64 0)
        have bE2 := (bE1.other (B' := w.heap.size + 1) (by omega) (.string s0)).set (.int .i64 0)
        have hB2 := (hB1.setCell (p := ⟨w.heap.size + 1, 0, none⟩) (by simp) (.string s0)).setCell (p := ⟨w.heap.size + 1 + 1, 0, none⟩) (by simp; omega) (.int .i64 0)
        generalize ((W.setCell ⟨w.heap.size + 1, 0, none⟩ (.string s0)).setCell ⟨w.heap.size + 1 + 1, 0, none⟩ (.int .i64 0)) = W2 at *
        have hK2 : W2.drew.heap[D]? = some (.deferred (some [])) := hK1
        have bR3 : Boxed W2.drew (w.heap.size + 1) 9 (.string s0) := bR2
        have bE3 : Boxed W2.drew (w.heap.size + 1 + 1) 28 (.int .i64 0) := bE2
        have hB3' : Below w.heap.size w W2.drew := ⟨hB2.os, hB2.tape, hB2.output, hB2.size, hB2.block⟩
        refine ⟨by simp, .inl ⟨_, _, rfl, run_takeDeferred hK2, ?_⟩⟩
        have hR5 := boxed_from bR3 (grownBy_putObj' _ D (.deferred none)) (fun r e => by cases e; exact ⟨_, hK2, rfl⟩)
        have hE5 := boxed_from bE3 (grownBy_putObj' _ D (.deferred none)) (fun r e => by cases e; exact ⟨_, hK2, rfl⟩)
        refine ⟨two R, ?_, rfl, hB3'.trans (belowK_b (w := w) (Nat.le_refl _) W2.drew D _ _ (by omega) hK2 rfl rfl)⟩
        rw [HU.out, HL.out]
        simp [results, Tryz.f21, go_sem, hR5.cell, hE5.cell, two]
      case stop =>
        rintro D c pre W hD hpre ⟨⟨rfl, pre', y, rfl, hne, hy, bR1, bE1⟩, hB1⟩ hK
        obtain ⟨j, hj, he⟩ := hpre
        have hlk := look_some S.W k (lAt S.L k) j hj pre' y he.symm hne hy
        have HL := Lib.hid hlk
        clear hlk hne he
        gi_wp2
        refine ⟨by simp, .inl ⟨_, _, rfl, run_takeDeferred hK, ?_⟩⟩
        have hR5 := boxed_from bR1 (grownBy_putObj' W D (.deferred none)) (fun r e => by cases e; exact ⟨_, hK, rfl⟩)
        have hE5 := boxed_from bE1 (grownBy_putObj' W D (.deferred none)) (fun r e => by cases e; exact ⟨_, hK, rfl⟩)
        refine ⟨two R, ?_, rfl, hB1.trans (belowK_b (w := w) (Nat.le_refl _) W D _ _ (by omega) hK rfl rfl)⟩
        rw [HU.out, HL.out]
        simp [results, Tryz.f21, go_sem, hR5.cell, hE5.cell, two]
    · have hu : R = (noBytes, 3) := HR.out.trans (by unfold DS.read; rw [if_neg (by simp [ho]), if_neg hs])
      have HU := Lib.hid hu
      have hd : decide (0 ≤ at' ∧ at' < (S.L.length : Int)) = false := by simpa [DS.has] using hs
      have hh3 := HH.out w3 hb3
      rw [hd] at hh3
      have HH3 := Lib.hid hh3
      clear hu hh3 hd
      gi_wp2_with fail
      refine ⟨trivial, HH3.out.mono ?_⟩
      rintro e w1 ⟨rfl, hw1⟩; obtain rfl := hw1.symm; clear hw1
      gi_wp2
      have bR1 := (bR.set (.string ⟨#[]⟩)).other (B' := w.heap.size + 1 + 1) (by omega) (.int .i64 3)
      have bE1 := (bE.other (B' := w.heap.size + 1) (by omega) (.string ⟨#[]⟩)).set (.int .i64 3)
      refine ⟨two R, ?_, rfl, (hb3.setCell (p := ⟨w.heap.size + 1, 0, none⟩) (by simp) _).setCell (p := ⟨w.heap.size + 1 + 1, 0, none⟩) (by simp; omega) _⟩
      rw [HU.out]
      simp [results, Tryz.f21, go_sem, bR1.cell, bE1.cell, two, noBytes]

theorem read_any (B p : Nat) (v1 v2 : Value) (S : DS) (at' : Int) (w : World) (h : PD w B p v1 v2 S) (hf : S.W.length ≤ 1000000) (hl : S.L.length ≤ 1000000) :
    Calls Tryz.prog 21 #[.pointer (some ⟨p, 0, none⟩), .int .i64 at'] w fun e w' => e = .returned (two (S.read at')) ∧ Below w.heap.size w w' :=
  callsIn_wide.1 (read_in B p v1 v2 S at' w h hf hl)

set_option maxRecDepth 100000 in
set_option maxHeartbeats 4000000 in
theorem read_nil_in (at' : Int) (w : World) :
    CallsIn Fence.wide 10 Tryz.prog 21 #[.pointer none, .int .i64 at'] w fun e w' => e = .returned (two (noBytes, 1)) ∧ Below w.heap.size w w' := by
  have hs1 := fun w' => (callsIn_wide (n := 9)).2 (state_nil w')
  have HS := Lib.hid hs1
  clear hs1
  refine callsIn_of_wp_marks Tryz.func21 rfl trivial ?_ rfl
  simp only [Tryz.ntmps21, List.size_toArray, List.length_cons, List.length_nil, Nat.reduceAdd, Nat.reduceSub, Array.replicate_succ, Array.replicate_zero, List.push_toArray, List.append_toArray, List.nil_append, List.cons_append]
  gi_wp2_with fail
  obtain ⟨w3, hw3, bX, bR, bE, hsz, hb3⟩ := boxes3 w (.int .i64 at') (.string ⟨#[]⟩) (.int .i64 0) 3 9 28
  rw [← hw3]
  clear hw3
  refine ⟨trivial, (HS.out _).mono ?_⟩
  rintro e w1 ⟨rfl, hw1⟩; obtain rfl := hw1.symm; clear hw1
  have cR := bR.cell
  have fR := bR.frozen
  have cE := bE.cell
  have fE := bE.frozen
  gi_wp2
  have bR1 := (bR.set (.string ⟨#[]⟩)).other (B' := w.heap.size + 1 + 1) (by omega) (.int .i64 1)
  have bE1 := (bE.other (B' := w.heap.size + 1) (by omega) (.string ⟨#[]⟩)).set (.int .i64 1)
  refine ⟨two (noBytes, 1), ?_, rfl, (hb3.setCell (p := ⟨w.heap.size + 1, 0, none⟩) (by simp) _).setCell (p := ⟨w.heap.size + 1 + 1, 0, none⟩) (by simp; omega) _⟩
  simp [results, Tryz.f21, go_sem, bR1.cell, bE1.cell, two, noBytes]

theorem read_nil (at' : Int) (w : World) :
    Calls Tryz.prog 21 #[.pointer none, .int .i64 at'] w fun e w' => e = .returned (two (noBytes, 1)) ∧ Below w.heap.size w w' :=
  callsIn_wide.1 (read_nil_in at' w)

end Go.Proofs.YtpkeikbiblfidaaGreatDoor

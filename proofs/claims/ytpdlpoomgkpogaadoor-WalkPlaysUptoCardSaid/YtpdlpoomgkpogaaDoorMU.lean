/-
  Texts put together: E0, E1, U0, U1, U2, U4.
-/
import Derived.Test.YtpdlpoomgkpogaaDoorB0
import Derived.Test.YtpdlpoomgkpogaaDoorA0
import Derived.Laws.BytesString
import Derived.Deep.DrawnRows
import Derived.Test.YtpdlpoomgkpogaaDoorMD
import Derived.Test.YtpdlpoomgkpogaaDoorMG3
import Derived.Shelf.Abstract
/-
  Sectors: the contracts of sector's repeat, Fill, Zero, Right, and the reference's.
-/
namespace Go.Proofs.YtpdlpoomgkpogaaDoor
open Go.RowKit
set_option linter.unusedVariables false
set_option linter.unusedSimpArgs false

/-- A sector of one byte. -/
def secOf (x : UInt8) : ByteArray := ⟨(List.replicate 64 x).toArray⟩
theorem secOf_size (x : UInt8) : (secOf x).size = 64 := by simp [secOf, ByteArray.size]


theorem rd_string {w : World} {a : Option Addr} {n cap : Nat} {xs : List UInt8} (h : Rd w a n cap xs) :
    (convert 84 9 (.slice a n cap)).run Tryd.prog w = .ok (.string ⟨xs.toArray⟩) w := by
  cases a with
  | none =>
    have hc := h.nil rfl
    have hn : n = 0 := by have := h.le; omega
    subst hn
    obtain rfl : xs = [] := List.eq_nil_of_length_eq_zero h.len
    rw [run_convert_bytes_string w 84 9 5 none 0 cap Tryd.underlying84 Tryd.underlying5 Tryd.underlying9]
    simp [Conv.bytesToString]
    rfl
  | some x =>
    have := run_convert_bytes_back (P := Tryd.prog) w 84 9 5 x cap xs Tryd.underlying84 Tryd.underlying5 Tryd.underlying9 (fun j hj => by
      obtain ⟨b, off, e, hlt, hc⟩ := h.at0 (by rw [← h.len]; omega)
      cases e
      rw [Addr.add_none, hc j (by rw [← h.len]; exact hj), List.getElem?_eq_getElem hj]
      rfl)
    rwa [h.len] at this




set_option maxRecDepth 20000 in
set_option maxHeartbeats 400000 in
theorem right_any (s : ByteArray) (w : World) :
    Calls Tryd.prog 38 #[.string s] w fun e w' => e = .returned (.bool (decide (s.size = 64))) ∧ w' = w := by
  go_enter Tryd.func38, Tryd.ntmps38
  go_wp2
  go_ret
  refine ⟨?_, rfl⟩
  by_cases h : s.size = 64
  · simp [h]
  · have : ¬ ((s.size : Int) = 64) := by omega
    simp [h, this]

set_option maxRecDepth 20000 in
set_option maxHeartbeats 400000 in
theorem rright_any (s : ByteArray) (w : World) :
    Calls Tryd.prog 41 #[.string s] w fun e w' => e = .returned (.bool (decide (s.size = 64))) ∧ w' = w := by
  go_enter Tryd.func41, Tryd.ntmps41
  go_wp2
  go_ret
  refine ⟨?_, rfl⟩
  by_cases h : s.size = 64
  · simp [h]
  · have : ¬ ((s.size : Int) = 64) := by omega
    simp [h, this]

set_option maxRecDepth 20000 in
set_option maxHeartbeats 400000 in
theorem rfill_any (c : Int) (x : UInt8) (hc : c = (x.toNat : Int)) (w : World) :
    Calls Tryd.prog 21 #[.int .u8 c] w fun e w' => e = .returned (.string (secOf x)) ∧ Below w.heap.size w w' := by
  subst hc
  obtain ⟨i0, hi, hz0, hz1, hz2⟩ := info_parts Tryd.info5
  go_enter Tryd.func21, Tryd.ntmps21
  go_wp2
  go_loopw [3, 4] (fun o i wr => ∃ k : Nat, k ≤ 64 ∧ i = .int .i64 k ∧ wr.ownsRow w.heap.size 5 1 o k (bvs (List.replicate k x)) ∧ Below w.heap.size w wr) (fun _ i _ => 64 - (intOf i).toNat)
  case atStart => exact ⟨0, by omega, rfl, World.ownsRow_nil _ _ _ _, Below.refl _ _⟩
  case round =>
    obtain ⟨k, hk, rfl, hown, hB⟩ := hrel
    by_cases hlt : k < 64
    · have i1 : (k : Int) < 64 := by omega
      have hs : List.replicate (k + 1) x = List.replicate k x ++ [x] := by rw [List.replicate_succ']
      have hB1 : Below w.heap.size w (wr.alloc (.cells #[.int .u8 (x.toNat : Int)] 5)) := hB.alloc hB.size _
      have HB := Lib.hid hB1
      have hrd := one_rd wr _ x rfl
      have ho := hown.alloc (.cells #[.int .u8 (x.toNat : Int)] 5)
      clear hB1
      go_wp2_with (at_builtin; refine wpList_append_rd (o := ⟨some 12, _, _, _, _, _⟩) rfl (.tmp 9) (.tmp 11) 84 rfl w.heap.size 5 i0 Tryd.underlying84 hi hz0 hz1 hz2 _ k _ rfl ho _ 1 1 [x] rfl hrd (by omega) HB.out.size ?_)
      intro v' w5 hown5 hgrow
      rw [← hs] at hown5
      have hB5 := HB.out.grown hgrow HB.out.size (fun j hj => ?_)
      · clear hown ho hgrow hrd hB
        go_wp2
        go_roundw
        case rel => exact ⟨k + 1, by omega, by go_num, hown5, hB5⟩
        case measure => simp [intOf]; omega
      · exact (hown.lt j hj).1
    · obtain rfl : k = 64 := by omega
      obtain ⟨a, c, rfl, hrd, _⟩ := owns_shape hown (by omega)
      have hcv := rd_string hrd
      go_wp2
      go_ret
      exact ⟨rfl, hB⟩

set_option maxRecDepth 20000 in
set_option maxHeartbeats 400000 in
theorem rzero_any (w : World) :
    Calls Tryd.prog 19 #[] w fun e w' => e = .returned (.string (secOf 0)) ∧ Below w.heap.size w w' := by
  have hr := rfill_any 0 0 rfl w
  go_enter Tryd.func19, Tryd.ntmps19
  go_wp2_with fail
  refine hr.mono ?_
  rintro e w1 ⟨rfl, hb⟩
  go_wp2
  go_ret
  exact ⟨rfl, hb⟩

end Go.Proofs.YtpdlpoomgkpogaaDoor
/-
  A disk: its state, its answers; how it lies in memory; frames.
-/
namespace Go.Proofs.YtpdlpoomgkpogaaDoor
open Go.RowKit
set_option linter.unusedVariables false
set_option linter.unusedSimpArgs false

/-! ### the state -/
structure DS where
  L : List ByteArray
  W : List (Int × ByteArray)
  left : Int
  off : Bool
  did : Nat

def noBytes : ByteArray := ⟨#[]⟩
def wAt (W : List (Int × ByteArray)) (i : Nat) : Int × ByteArray := W[i]?.getD (0, noBytes)
def lAt (L : List ByteArray) (i : Nat) : ByteArray := L[i]?.getD noBytes

def look (W : List (Int × ByteArray)) (at' : Int) (d : ByteArray) : Nat → ByteArray
  | 0 => d
  | i + 1 => if (wAt W i).1 = at' then (wAt W i).2 else look W at' d i
def appW (L : List ByteArray) (W : List (Int × ByteArray)) : Nat → List ByteArray
  | 0 => L
  | i + 1 => (appW L W i).set (wAt W i).1.toNat (wAt W i).2
def appK (L : List ByteArray) (W : List (Int × ByteArray)) (K : List Bool) : Nat → List ByteArray
  | 0 => L
  | i + 1 => if K[i]?.getD false = true then (appK L W K i).set (wAt W i).1.toNat (wAt W i).2 else appK L W K i

theorem appW_length (L W i) : (appW L W i).length = L.length := by
  induction i with
  | zero => rfl
  | succ i ih => simp [appW, ih]
theorem appK_length (L W K i) : (appK L W K i).length = L.length := by
  induction i with
  | zero => rfl
  | succ i ih => unfold appK; split <;> simp [ih]
theorem appK_end (L W) (K : List Bool) (i j : Nat) (h : K.length ≤ i) (hij : i ≤ j) : appK L W K j = appK L W K i := by
  induction j with
  | zero => obtain rfl : i = 0 := by omega
            rfl
  | succ j ih =>
    rcases Nat.lt_or_ge j i with h1 | h1
    · obtain rfl : i = j + 1 := by omega
      rfl
    · have e : appK L W K (j + 1) = appK L W K j := by
        show (if K[j]?.getD false = true then _ else _) = _
        rw [List.getElem?_eq_none (by omega), if_neg (by simp)]
      rw [e]; exact ih h1

def DS.has (S : DS) (at' : Int) : Prop := 0 ≤ at' ∧ at' < (S.L.length : Int)
instance (S : DS) (at' : Int) : Decidable (S.has at') := inferInstanceAs (Decidable (_ ∧ _))
def DS.burnt (S : DS) : DS := if S.left = 0 then { S with off := true, left := -1 } else { S with left := if 0 < S.left then S.left - 1 else S.left, did := S.did + 1 }
def DS.kept (S : DS) (at' : Int) : ByteArray × Int := if S.has at' then (lAt S.L at'.toNat, 0) else (noBytes, 3)
def DS.read (S : DS) (at' : Int) : ByteArray × Int := if S.off = true then (noBytes, 5) else if S.has at' then (look S.W at' (lAt S.L at'.toNat) S.W.length, 0) else (noBytes, 3)
def DS.write (S : DS) (at' : Int) (data : ByteArray) : Int × DS :=
  if S.off = true then (5, S) else if S.has at' then (if data.size = 64 then (if S.left = 0 then (5, S.burnt) else (0, ⟨S.burnt.L, S.W ++ [(at', data)], S.burnt.left, S.burnt.off, S.burnt.did⟩)) else (4, S)) else (3, S)
def DS.flush (S : DS) : Int × DS := if S.off = true then (5, S) else if S.left = 0 then (5, S.burnt) else (0, ⟨appW S.L S.W S.W.length, [], S.burnt.left, S.burnt.off, S.burnt.did⟩)
def DS.fuse (S : DS) (n : Int) : DS := { S with left := if 0 ≤ n then n else -1 }
def DS.crash (S : DS) (K : List Bool) : DS := { S with L := appK S.L S.W K S.W.length, W := [], left := -1, off := true }
def DS.up (S : DS) : Int × DS := if S.off = true then (0, { S with off := false, W := [], left := -1 }) else (21, S)

structure DS.ok (S : DS) (N : Nat) : Prop where
  ats : ∀ i, i < S.W.length → S.has (wAt S.W i).1
  low : -1 ≤ S.left
  high : S.left ≤ 9223372036854775807
  few : S.W.length ≤ S.did
  did : S.did ≤ N
  len : S.L.length ≤ 1200

theorem wAt_append_lt {W : List (Int × ByteArray)} {x} {i : Nat} (h : i < W.length) : wAt (W ++ [x]) i = wAt W i := by
  unfold wAt; rw [List.getElem?_append_left h]
theorem wAt_append_eq {W : List (Int × ByteArray)} {x} : wAt (W ++ [x]) W.length = x := by
  unfold wAt; simp

theorem DS.ok.mono {S : DS} {N M : Nat} (h : S.ok N) (hl : N ≤ M) : S.ok M := ⟨h.ats, h.low, h.high, h.few, Nat.le_trans h.did hl, h.len⟩

theorem DS.ok.burnt {S : DS} {N : Nat} (h : S.ok N) : S.burnt.ok (N + 1) := by
  have h1 := h.low; have h2 := h.high; have h3 := h.few; have h4 := h.did
  unfold DS.burnt
  split
  · exact ⟨h.ats, by simp, by simp, h3, by simp; omega, h.len⟩
  · refine ⟨h.ats, ?_, ?_, by simp; omega, by simp; omega, h.len⟩
    · show -1 ≤ (if 0 < S.left then S.left - 1 else S.left); split <;> omega
    · show (if 0 < S.left then S.left - 1 else S.left) ≤ _; split <;> omega

theorem DS.ok.write {S : DS} {N : Nat} (h : S.ok N) (at' : Int) (data : ByteArray) : (S.write at' data).2.ok (N + 1) := by
  unfold DS.write
  split
  · exact h.mono (by omega)
  · split
    · rename_i hh
      split
      · split
        · exact h.burnt
        · rename_i hl
          have hb := h.burnt
          have e1 : S.burnt.W = S.W := by unfold DS.burnt; split <;> rfl
          have e2 : S.burnt.L = S.L := by unfold DS.burnt; split <;> rfl
          have e3 : S.burnt.did = S.did + 1 := by unfold DS.burnt; rw [if_neg hl]
          refine ⟨?_, hb.low, hb.high, ?_, hb.did, hb.len⟩
          · intro i hi
            show DS.has _ _
            unfold DS.has
            simp only [List.length_append, List.length_singleton] at hi ⊢
            rw [e2]
            rcases Nat.lt_or_ge i S.W.length with h1 | h1
            · rw [wAt_append_lt h1]; exact h.ats i h1
            · obtain rfl : i = S.W.length := by omega
              rw [wAt_append_eq]; exact hh
          · have := h.few
            simp [e3]; omega
      · exact h.mono (by omega)
    · exact h.mono (by omega)

theorem DS.ok.flush {S : DS} {N : Nat} (h : S.ok N) : S.flush.2.ok (N + 1) := by
  unfold DS.flush
  split
  · exact h.mono (by omega)
  · split
    · exact h.burnt
    · have hb := h.burnt
      exact ⟨fun i hi => by simp at hi, hb.low, hb.high, by simp, hb.did, by simp only [appW_length]; exact h.len⟩

theorem DS.ok.fuse {S : DS} {N : Nat} (h : S.ok N) (n : Int) (hn : n ≤ 9223372036854775807) : (S.fuse n).ok N :=
  ⟨h.ats, by show -1 ≤ (if 0 ≤ n then n else -1); split <;> omega, by show (if 0 ≤ n then n else -1) ≤ _; split <;> omega, h.few, h.did, h.len⟩
theorem DS.ok.crash {S : DS} {N : Nat} (h : S.ok N) (K : List Bool) : (S.crash K).ok N :=
  ⟨fun i hi => by simp [DS.crash] at hi, by simp [DS.crash], by simp [DS.crash], by simp [DS.crash], h.did, by simp only [DS.crash, appK_length]; exact h.len⟩
theorem DS.ok.up {S : DS} {N : Nat} (h : S.ok N) : S.up.2.ok N := by
  unfold DS.up
  split
  · exact ⟨fun i hi => by simp at hi, by simp, by simp, by simp, h.did, h.len⟩
  · exact h

/-! ### cells -/
def strs (L : List ByteArray) : List Value := L.map Value.string
def puts (W : List (Int × ByteArray)) : List Value := W.flatMap fun x => [.int .i64 x.1, .string x.2]
theorem strs_length (L) : (strs L).length = L.length := by simp [strs]
theorem puts_length : ∀ W, (puts W).length = W.length * 2
  | [] => rfl
  | x :: W => by
    have := puts_length W
    simp [puts] at this ⊢
    omega
theorem puts_append (W X) : puts (W ++ X) = puts W ++ puts X := by simp [puts]
theorem strs_at {L : List ByteArray} {i : Nat} (h : i < L.length) : (strs L)[i]? = some (.string (lAt L i)) := by
  simp [strs, lAt, List.getElem?_eq_getElem h]
theorem puts_at : ∀ (W : List (Int × ByteArray)) (i : Nat), i < W.length → (puts W)[i * 2]? = some (.int .i64 (wAt W i).1) ∧ (puts W)[i * 2 + 1]? = some (.string (wAt W i).2)
  | [], i, h => by simp at h
  | x :: W, 0, h => ⟨rfl, rfl⟩
  | x :: W, i + 1, h => by
    have := puts_at W i (by simpa using h)
    have e : puts (x :: W) = .int .i64 x.1 :: .string x.2 :: puts W := by simp [puts]
    rw [e, show (i + 1) * 2 = i * 2 + 2 from by omega, show i * 2 + 2 + 1 = i * 2 + 1 + 2 from by omega]
    exact this
theorem strs_one (L) : ∀ u ∈ strs L, u.oneCell' = true := by
  intro u hu; simp only [strs, List.mem_map] at hu; obtain ⟨x, _, rfl⟩ := hu; rfl
theorem puts_one (W) : ∀ u ∈ puts W, u.oneCell' = true := by
  intro u hu
  simp only [puts, List.mem_flatMap] at hu
  obtain ⟨x, _, hu⟩ := hu
  simp at hu
  rcases hu with rfl | rfl <;> rfl

theorem Tryd.info9 : (Tryd.prog.info? 9).map (fun i => (i.zero, i.size, i.bytes)) = some (some (.string noBytes), 1, 16) := by kernel_rfl

/-! ### frames -/
structure Fr (A : Nat → Prop) (w w' : World) : Prop where
  os : w'.os = w.os
  tape : w'.tape = w.tape
  output : w'.output = w.output
  size : w.heap.size ≤ w'.heap.size
  block : ∀ k, k < w.heap.size → ¬ A k → w'.heap[k]? = w.heap[k]?

theorem Fr.refl (A w) : Fr A w w := ⟨rfl, rfl, rfl, Nat.le_refl _, fun _ _ _ => rfl⟩
theorem Fr.trans {A A' : Nat → Prop} {a b c : World} (h : Fr A a b) (k : Fr A' b c) (hs : ∀ i, A' i → A i ∨ a.heap.size ≤ i) : Fr A a c :=
  ⟨k.os.trans h.os, k.tape.trans h.tape, k.output.trans h.output, Nat.le_trans h.size k.size, fun i hi hne =>
    (k.block i (Nat.lt_of_lt_of_le hi h.size) (fun e => by rcases hs i e with e | e; exact hne e; omega)).trans (h.block i hi hne)⟩
theorem Fr.mono {A A' : Nat → Prop} {w w' : World} (h : Fr A w w') (hs : ∀ i, A i → A' i) : Fr A' w w' := ⟨h.os, h.tape, h.output, h.size, fun i hi hn => h.block i hi fun e => hn (hs i e)⟩
theorem Fr.of_below {A : Nat → Prop} {w w' : World} (h : Below w.heap.size w w') : Fr A w w' := ⟨h.os, h.tape, h.output, h.size, fun k hk _ => h.block k hk⟩
theorem Fr.below {A : Nat → Prop} {B : Nat} {w w' : World} (h : Fr A w w') (hB : ∀ k, A k → B ≤ k) (hs : B ≤ w.heap.size) : Below B w w' :=
  ⟨h.os, h.tape, h.output, h.size, fun k hk => h.block k (by omega) fun e => by have := hB k e; omega⟩
theorem Fr.drew {A : Nat → Prop} {w w' : World} (h : Fr A w w') : Fr A w w'.drew := ⟨h.os, h.tape, h.output, h.size, h.block⟩
theorem Fr.drewN {A : Nat → Prop} {w w' : World} (h : Fr A w w') (n : Nat) : Fr A w (w'.drewN n) := ⟨h.os, h.tape, h.output, h.size, h.block⟩
theorem Fr.set {A : Nat → Prop} {w w' : World} (h : Fr A w w') {p i : Nat} {u : Value} (hp : A p ∨ w.heap.size ≤ p) : Fr A w (w'.setCell ⟨p, i, none⟩ u) :=
  ⟨h.os, h.tape, h.output, by simpa [World.setCell] using h.size, fun k hk hne => by
    rw [Below.heap_setCell _ _ _ _ (fun e => by simp at e; subst e; rcases hp with hp | hp; exact hne hp; omega)]; exact h.block k hk hne⟩
theorem Fr.alloc {A : Nat → Prop} {w w' : World} (h : Fr A w w') (o : Obj) : Fr A w (w'.alloc o) :=
  ⟨h.os, h.tape, h.output, by have := h.size; simp; omega, fun k hk hne => by rw [Below.heap_alloc _ _ _ (Nat.lt_of_lt_of_le hk h.size)]; exact h.block k hk hne⟩
theorem Fr.grown {A : Nat → Prop} {w w' w'' : World} {row : Option Nat} (h : Fr A w w') (g : w'.grownBy w'' row) (hr : ∀ k, row = some k → A k ∨ w.heap.size ≤ k) : Fr A w w'' :=
  ⟨g.os.trans h.os, g.tape.trans h.tape, g.output.trans h.output, Nat.le_trans h.size g.size, fun k hk hne =>
    (g.block k (Nat.lt_of_lt_of_le hk h.size) (fun e => by rcases hr k e.symm with e | e; exact hne e; omega)).trans (h.block k hk hne)⟩

/-! ### a disk in memory -/
def foot (p : Nat) (v1 v2 : Value) (k : Nat) : Prop := k = p ∨ v1.ownBlock = some k ∨ v2.ownBlock = some k


theorem owns_kept {w w' : World} {B e size n : Nat} {v : Value} {xs : List Value} (h : w.ownsRow B e size v n xs) (hk : ∀ k, v.ownBlock = some k → w'.heap[k]? = w.heap[k]?) : w'.ownsRow B e size v n xs := by
  refine ⟨h.1, ?_⟩
  rcases h.2 with hn | ⟨g, cap, cur, rfl, hb, hgg, rest⟩
  · exact .inl hn
  · exact .inr ⟨g, cap, cur, rfl, hb, by rw [hk g rfl]; exact hgg, rest⟩

theorem owns_type {w : World} {B e size n : Nat} {v : Value} {xs : List Value} (h : w.ownsRow B e size v n xs) {k : Nat} (hk : v.ownBlock = some k) : ∃ cur, w.heap[k]? = some (.cells cur e (0, 0)) := by
  rcases h.2 with ⟨rfl, _⟩ | ⟨g, cap, cur, rfl, hb, hgg, _⟩
  · simp [Value.ownBlock] at hk
  · simp [Value.ownBlock] at hk
    subst hk
    exact ⟨cur, hgg⟩



theorem owns_shape1 {w : World} {B n : Nat} {v : Value} {e size : Nat} {xs : List Value} (h : w.ownsRow B e size v n xs) : ∃ a c, v = .slice a n c ∧ n ≤ c ∧ c ≤ maxLen ∧ (0 < n → ∃ g, a = some ⟨g, 0, none⟩ ∧ v.ownBlock = some g ∧ B ≤ g ∧ g < w.heap.size) := by
  have H := h
  obtain ⟨_, h2⟩ := h
  rcases h2 with ⟨rfl, rfl⟩ | ⟨g, cap, cur, rfl, hB, hh, hle, hm, _, _⟩
  · exact ⟨none, 0, rfl, Nat.le_refl _, by unfold maxLen; omega, fun h => by omega⟩
  · exact ⟨_, _, rfl, hle, hm, fun _ => ⟨g, rfl, rfl, hB, (H.lt g rfl).2⟩⟩

/-- One cell of a row is another one. -/
theorem owns_set {w : World} {B e size n : Nat} {v : Value} {xs : List Value} (h : w.ownsRow B e size v n xs) {g j : Nat} (hg : v.ownBlock = some g) (u : Value) (hj : j < xs.length) :
    (w.setCell ⟨g, j, none⟩ u).ownsRow B e size v n (xs.set j u) := by
  obtain ⟨h1, h2⟩ := h
  refine ⟨by simpa using h1, ?_⟩
  rcases h2 with ⟨rfl, _⟩ | ⟨g', cap, cur, rfl, hB, hh, hle, hm, hc, ht⟩
  · simp [Value.ownBlock] at hg
  · simp [Value.ownBlock] at hg
    subst hg
    refine .inr ⟨g', cap, cur.setIfInBounds j u, rfl, hB, blk_setCell hh, hle, hm, by simpa using hc, ?_⟩
    rw [← ht]
    simp only [Array.toList_setIfInBounds]
    rw [List.take_set]

theorem owns_set_other {w : World} {B e size n : Nat} {v : Value} {xs : List Value} (h : w.ownsRow B e size v n xs) {g j : Nat} (hg : v.ownBlock ≠ some g) (u : Value) :
    (w.setCell ⟨g, j, none⟩ u).ownsRow B e size v n xs :=
  h.kept (gb_setCell (World.grownBy.refl _ _)) (.inr hg)

theorem owns_drew {w : World} {B e size n : Nat} {v : Value} {xs : List Value} (h : w.ownsRow B e size v n xs) : w.drew.ownsRow B e size v n xs := owns_kept h fun _ _ => rfl

theorem strs_set (L : List ByteArray) (j : Nat) (s : ByteArray) : (strs L).set j (.string s) = strs (L.set j s) := by simp [strs]

theorem owns_free {w : World} {B e size n : Nat} {v : Value} {xs : List Value} (h : w.ownsRow B e size v n xs) {g : Nat} (hg : v.ownBlock = some g) (j : Nat) : w.frozen? ⟨g, j, none⟩ = false := by
  obtain ⟨cur, hc⟩ := owns_type h hg
  exact free_of_blk hc j

theorem owns_cell {w : World} {B e size n : Nat} {v : Value} {xs : List Value} (h : w.ownsRow B e size v n xs) {g : Nat} (hg : v.ownBlock = some g) (j : Nat) (u : Value) (hu : xs[j]? = some u) : w.cell? ⟨g, j, none⟩ = some u := by
  have := h.cells hg j u hu
  rwa [Addr.add_none, Nat.zero_add] at this

end Go.Proofs.YtpdlpoomgkpogaaDoor
/-
  Lists of texts; digests of sectors and of children; the document's Above.
-/
namespace Go.Proofs.YtpdlpoomgkpogaaDoor
open Go.RowKit
set_option linter.unusedVariables false
set_option linter.unusedSimpArgs false

/-- The slice value reads as the texts L. -/
structure Rs (w : World) (a : Option Addr) (n cap : Nat) (L : List ByteArray) : Prop where
  len : L.length = n
  le : n ≤ cap
  cm : cap ≤ maxLen
  at0 : 0 < n → ∃ b off, a = some ⟨b, off, none⟩ ∧ b < w.heap.size ∧ ∀ i, i < n → w.cell? ⟨b, off + i, none⟩ = some (.string (lAt L i))

theorem Rs.later {w w' : World} {a : Option Addr} {n cap : Nat} {L : List ByteArray} (h : Rs w a n cap L) (hb : Below w.heap.size w w') : Rs w' a n cap L where
  len := h.len
  le := h.le
  cm := h.cm
  at0 := fun h0 => by
    obtain ⟨b, off, ha, hlt, hc⟩ := h.at0 h0
    exact ⟨b, off, ha, Nat.lt_of_lt_of_le hlt hb.size, fun i hi => by rw [hb.cell (by exact hlt)]; exact hc i hi⟩
theorem Rs.strs {w : World} {a : Option Addr} {n cap : Nat} {L : List ByteArray} (h : Rs w a n cap L) : Strs w a n (lAt L) := ⟨h.at0⟩

theorem rs_nil (w : World) : Rs w none 0 0 [] := ⟨rfl, Nat.le_refl _, by unfold maxLen; omega, fun h => by omega⟩

theorem towns_shape {w : World} {B n : Nat} {v : Value} {L : List ByteArray} (h : w.ownsRow B 9 1 v n (strs L)) :
    ∃ a c, v = .slice a n c ∧ Rs w a n c L ∧ ∀ b off sp, a = some ⟨b, off, sp⟩ → B ≤ b ∧ v.ownBlock = some b ∧ off = 0 := by
  have H := h
  have hl : L.length = n := by have := h.1; simpa [strs_length] using this
  obtain ⟨_, h2⟩ := h
  rcases h2 with ⟨rfl, rfl⟩ | ⟨g, cap, cur, rfl, hB, hh, hle, hm, _, _⟩
  · exact ⟨none, 0, rfl, ⟨hl, Nat.le_refl _, by unfold maxLen; omega, fun h => by omega⟩, fun _ _ _ e => by cases e⟩
  · have hlt := (H.lt g rfl).2
    refine ⟨_, _, rfl, ⟨hl, hle, hm, fun _ => ⟨g, 0, rfl, hlt, fun i hi => ?_⟩⟩, fun b off sp e => by cases e; exact ⟨hB, rfl, rfl⟩⟩
    rw [Nat.zero_add]
    have := World.ownsRow.cellAt H i (by omega)
    rw [this, strs_at (by omega)]

theorem one_scell (w : World) (s : ByteArray) : ∀ (j : Nat) (u : Value), (strs [s])[j]? = some u → (w.alloc (.cells #[.string s] 9)).cell? ((⟨w.heap.size, 0, none⟩ : Addr).add j) = some u := by
  intro j u hj
  rw [Addr.add_none, cell_of_blk (heap_alloc_new w _), Nat.zero_add]
  simpa [strs] using hj
theorem tstrs_append (L M) : strs (L ++ M) = strs L ++ strs M := by simp [strs]

/-- 'append(out, s)': out the call's own (or nil), s in a new block. -/
theorem wpList_append_s {P : Program} {w w0 : World} {ops : Array Oper} {rest : List Oper} {o : Oper} {a : Act} {Q : Exit → Act → World → Prop} (hgd : o.guard = none) (s x : Operand) (t : TypeId)
    (ho : o.op = .call { callee := .builtin .append, args := #[s, x], argTypes := #[t, t] })
    (base : Nat) (i : TypeInfo) (ht : P.underlying t = some (.slice 9)) (hi : P.info? 9 = some i) (hz : i.zero = some (.string noBytes))
    (hsize : i.size = 1) (hby : i.bytes = 16)
    (v : Value) (n : Nat) (xs : List ByteArray) (hs : a.eval s = v) (hown : w.ownsRow base 9 1 v n (strs xs))
    (y : ByteArray) (hx : a.eval x = .slice (some ⟨w0.heap.size, 0, none⟩) 1 1) (hw : w = w0.alloc (.cells #[.string y] 9))
    (hbytes : n < 1000000) (hbase : base ≤ w.heap.size)
    (h : ∀ v' w', w'.ownsRow base 9 1 v' (n + 1) (strs (xs ++ [y])) → w.grownBy w' v.ownBlock → (v'.ownBlock = v.ownBlock ∨ v'.ownBlock = some w.heap.size) → wpList P ops Q rest (a.put o.dst v') w') : wpList P ops Q (o :: rest) a w := by
  subst hw
  refine wpList_append_own_at (w := w0.alloc (.cells #[.string y] 9)) hgd s x t ho base 9 i (.string noBytes) 1 16 ht hi hz hsize hby rfl (by omega) v n (strs xs) hs hown ⟨w0.heap.size, 0, none⟩ 1 1 (strs [y]) hx rfl ?_ (strs_one _) (by unfold maxLen; omega) (by omega) hbase (fun v' w' h1 h2 _ h4 => h v' w' (by rw [tstrs_append]; exact h1) h2 h4)
  exact one_scell w0 y

/-- The texts of some nodes. -/
def kids (L : List ByteArray) (ks : List Int) : List ByteArray := ks.map fun c => lAt L c.toNat
theorem kids_length (L ks) : (kids L ks).length = ks.length := by simp [kids]
theorem kids_take {L : List ByteArray} {ks : List Int} {k : Nat} (h : k < ks.length) : kids L (ks.take (k + 1)) = kids L (ks.take k) ++ [lAt L (ks[k]?.getD 0).toNat] := by
  unfold kids
  rw [List.take_add_one, List.map_append]
  congr 1
  rw [List.getElem?_eq_getElem h]
  rfl
/-- The digest of a sector; the digest of a node with these children. -/
def leafB (s : ByteArray) : ByteArray := ⟨(dig (0 :: s.data.toList)).toArray⟩
def nodeB (K : List ByteArray) : ByteArray := ⟨(dig (1 :: jn (lAt K) K.length)).toArray⟩
theorem dig_length (xs : List UInt8) : (dig xs).length = 32 := by
  unfold dig
  exact outS_length _

theorem children_mem {N F C U : Int} {k : Nat} {c : Int} (hc : c ∈ children N F C U k) : ∃ j : Nat, c = j ∧ j < k := by
  unfold children at hc
  split at hc
  · rename_i h
    obtain ⟨hok, h0, h1⟩ := h
    obtain ⟨n, f, rfl, rfl, ho⟩ := ok_of hok
    have hx : k < S n f (H n f + 1) := by simpa using h1
    obtain ⟨_, l1, _⟩ := lvl_spec hx
    simp only [Int.toNat_natCast, ch, List.mem_map, List.mem_range] at hc
    obtain ⟨j, hj, rfl⟩ := hc
    refine ⟨_, rfl, ?_⟩
    unfold chNG at hj
    split at hj
    · omega
    · omega
  · simp at hc
end Go.Proofs.YtpdlpoomgkpogaaDoor
/-
  The document's Above.
-/
namespace Go.Proofs.YtpdlpoomgkpogaaDoor
open Go.RowKit
set_option linter.unusedVariables false
set_option linter.unusedSimpArgs false

theorem jn_small (K : List ByteArray) (B : Nat) (h : ∀ i, i < K.length → (lAt K i).size ≤ B) : ∀ l, l ≤ K.length → (jn (lAt K) l).length ≤ l * B
  | 0, _ => by simp [jn]
  | l + 1, hl => by
    have h1 := jn_small K B h l (by omega)
    have h2 := h l (by omega)
    have h3 : (lAt K l).data.toList.length = (lAt K l).size := rfl
    simp only [jn, List.length_append]
    have e : (l + 1) * B = l * B + B := by rw [Nat.add_mul, Nat.one_mul]
    omega

set_option maxRecDepth 20000 in
set_option maxHeartbeats 2000000 in
theorem rabove_any (N F C U : Int) (a : Option Addr) (l cap : Nat) (L : List ByteArray) (k : Nat) (w : World) (hP : Rs w a l cap L) (hk : ∀ c ∈ children N F C U k, ∃ j : Nat, c = j ∧ j < l) (h32 : ∀ i, i < l → (lAt L i).size ≤ 1000) :
    Calls Tryd.prog 48 #[geo N F C U, .slice a l cap, .int .i64 k] w fun e w' => e = .returned (.string (nodeB (kids L (children N F C U k)))) ∧ Below w.heap.size w w' := by
  obtain ⟨i0, hi, hz0, hz1, hz2⟩ := info_parts Tryd.info9
  have hb0 := (Below.refl w.heap.size w).alloc (Nat.le_refl _) (gbox N F C U)
  have hch := rchildren_any N F C U k (w.alloc (gbox N F C U))
  have hlen := children_len N F C U k
  obtain ⟨ks, hks⟩ : ∃ ks, ks = children N F C U k := ⟨_, rfl⟩
  rw [← hks] at hch hlen hk ⊢
  have hPw := hP.later hb0
  have HP := Lib.hid hPw
  have HK := Lib.hid hk
  have H32 := Lib.hid h32
  have HCH := Lib.hid hch
  have HB0 := Lib.hid hb0
  have hcx : (cap : Int) ≤ 9223372036854775807 := by have := hP.cm; unfold maxLen at this; omega
  clear hks hch hPw hk h32 hb0 hP
  unfold geo at *
  unfold gbox at HB0 HCH HP
  go_enter Tryd.func48, Tryd.ntmps48
  go_wp2_with fail
  refine HCH.out.mono ?_
  rintro e w1 ⟨⟨v, rfl, ac, nc, cc, rfl, hri, hlow⟩, hb1⟩
  have hB1 := HB0.out.trans (hb1.mono HB0.out.size)
  have hnc := hri.len
  subst hnc
  have HR := Lib.hid hri
  have HB1 := Lib.hid hB1
  have HP1 := Lib.hid (HP.out.later hb1)
  clear hri hlow hb1 hB1 HP HB0 HCH
  go_wp2
  go_loopw [7, 9] (fun s i wr => ∃ j : Nat, j ≤ ks.length ∧ i = .int .i64 j ∧ wr.ownsRow w1.heap.size 9 1 s j (strs (kids L (ks.take j))) ∧ Below w1.heap.size w1 wr) (fun _ i _ => ks.length - (intOf i).toNat)
  case atStart => exact ⟨0, by omega, rfl, World.ownsRow_nil _ _ _ _, Below.refl _ _⟩
  case round =>
    obtain ⟨j, hj, rfl, ho, hB⟩ := hrel
    by_cases hlt : j < ks.length
    · have i0' : (0 : Int) ≤ (j : Int) := by omega
      have i1 : (j : Int) < (ks.length : Int) := by omega
      obtain ⟨b, off, rfl, hbl, hc⟩ := (HR.out.later hB).at0 (by omega)
      have c1 := hc j hlt
      obtain ⟨x, hx, hxl⟩ := HK.out _ (List.getElem_mem hlt)
      have hx' : ks[j]?.getD 0 = (x : Int) := by rw [List.getElem?_eq_getElem hlt]; exact hx
      rw [hx'] at c1
      obtain ⟨b2, off2, rfl, hbl2, hc2⟩ := (HP1.out.later hB).at0 (by omega)
      have c2 := hc2 x hxl
      have x0 : (0 : Int) ≤ (x : Int) := by omega
      have x1 : (x : Int) < (l : Int) := by omega
      obtain ⟨sx, hsx⟩ : ∃ s, s = lAt L x := ⟨_, rfl⟩
      rw [← hsx] at c2
      have htk := kids_take (L := L) hlt
      rw [hx'] at htk
      simp only [Int.toNat_natCast] at htk
      rw [← hsx] at htk
      have HTK := Lib.hid htk
      have HBB := Lib.hid hB
      have HS1 := Lib.hid hB.size
      clear hc hc2 hx hx' hxl hsx htk hB
      go_wp2_with (at_builtin; refine wpList_append_s (o := ⟨some 28, _, _, _, _, _⟩) rfl (.tmp 19) (.tmp 27) 24 rfl w1.heap.size i0 Tryd.underlying24 hi hz0 hz1 hz2 _ j _ rfl (ho.alloc _) _ rfl rfl (by omega) (by have := HS1.out; simp; omega) ?_)
      intro v5 w5 h1 h2 _
      rw [← HTK.out] at h1
      have hB5 := (HBB.out.alloc HBB.out.size (.cells #[.string sx] 9)).grown h2 (HBB.out.alloc HBB.out.size (.cells #[.string sx] 9)).size (fun x e => (ho.lt x e).1)
      obtain ⟨a5, c5, rfl, _, _⟩ := towns_shape h1
      have HO5 := Lib.hid h1
      have HB5 := Lib.hid hB5
      clear h1 h2 hB5 ho c1 c2
      go_wp2
      go_roundw
      case rel => exact ⟨j + 1, by omega, by go_num, HO5.out, HB5.out⟩
      case measure => simp [intOf]; omega
    · obtain rfl : j = ks.length := by omega
      rw [List.take_length] at ho
      obtain ⟨a5, c5, rfl, hrs, _⟩ := towns_shape ho
      have hkl := kids_length L ks
      have hks : ∀ i, i < (kids L ks).length → (lAt (kids L ks) i).size ≤ 1000 := by
        intro i hi
        rw [hkl] at hi
        have e : lAt (kids L ks) i = lAt L (ks[i]'hi).toNat := by
          unfold lAt kids
          rw [List.getElem?_map, List.getElem?_eq_getElem hi]
          rfl
        obtain ⟨x, hx, hxl⟩ := HK.out _ (List.getElem_mem hi)
        rw [e, hx]
        exact H32.out x hxl
      have hsm := jn_small (kids L ks) 1000 hks ks.length (by rw [hkl]; exact Nat.le_refl _)
      have hnd := rnode_any a5 ks.length c5 (lAt (kids L ks)) wr hrs.strs (by omega) (by omega)
      have hres : Value.string (nodeB (kids L ks)) = strV (dig (1 :: jn (lAt (kids L ks)) ks.length)) := by unfold nodeB; rw [hkl]; rfl
      have HRES := Lib.hid hres
      have HND := Lib.hid hnd
      have HBB := Lib.hid (HB1.out.trans (hB.mono HB1.out.size))
      clear hsm hnd hks hrs hkl ho hB hres
      have i1 : ¬ ((ks.length : Nat) : Int) < ((ks.length : Nat) : Int) := by omega
      go_wp2_with fail
      refine HND.out.mono ?_
      rintro e w6 ⟨rfl, hb6⟩
      have HB6 := Lib.hid (HBB.out.trans (hb6.mono HBB.out.size))
      clear hb6
      go_wp2
      go_ret
      exact ⟨by rw [HRES.out]; rfl, HB6.out⟩
end Go.Proofs.YtpdlpoomgkpogaaDoor
/-
  The document's tree in memory; its New, where all is well.
-/
namespace Go.Proofs.YtpdlpoomgkpogaaDoor
open Go.RowKit
set_option linter.unusedVariables false
set_option linter.unusedSimpArgs false

theorem tstep_append_at {P : Program} {w : World} {ops : Array Oper} {o : Oper} {a : Act} {K : Act → World → Prop} {Q : Exit → Act → World → Prop} {E : Prop} (hgd : o.guard = none) (s x : Operand) (t : TypeId)
    (ho : o.op = .call { callee := .builtin .append, args := #[s, x], argTypes := #[t, t] }) (base : Nat) (e : TypeId) (i : TypeInfo) (z : Value) (size bytes : Nat) (ht : P.underlying t = some (.slice e)) (hi : P.info? e = some i) (hz : i.zero = some z) (hsize : i.size = size) (hby : i.bytes = bytes) (hzs : z.cells.size = size) (hsz : 0 < size)
    (v : Value) (n : Nat) (xs : List Value) (hs : a.eval s = v) (hown : w.ownsRow base e size v n xs) (ad : Addr) (m c : Nat) (news : List Value) (hx : a.eval x = .slice (some ad) m c) (hl : news.length = m * size)
    (hnews : ∀ j u, news[j]? = some u → w.cell? (ad.add j) = some u) (h1 : ∀ u ∈ news, u.oneCell' = true) (h63 : n + m ≤ maxLen) (hbytes : (n + m) * bytes ≤ 140737488355328) (hbase : base ≤ w.heap.size)
    (h : ∀ v' w', w'.ownsRow base e size v' (n + m) (xs ++ news) → w.grownBy w' v.ownBlock → (v'.ownBlock = v.ownBlock ∨ v'.ownBlock = some w.heap.size) → K (a.put o.dst v') w') :
    if Region.wanted o (yielded ops a.tmps) = true then Oper.wp P o a w K Q else E := by
  have hw : Region.wanted o (yielded ops a.tmps) = true := by simp [Region.wanted, hgd]
  rw [if_pos hw]
  obtain ⟨v', w', hr, h2, h3, h4, h5⟩ := run_append_own_at (P := P) w base t o.type e i z size bytes ht hi hz hsize hby hzs hsz v n xs hown ad m c news hl hnews h1 h63 hbytes hbase
  unfold Oper.wp execOp
  simp only [ho, resolve, invoke, builtin, Sem.run_bind, Sem.run_pure, Result.andThen_ok, List.map_toArray, List.map_cons, List.map_nil, hs, hx, hr]
  exact h v' w' h2 h3 h5

theorem step_call1 {P : Program} {ops : Array Oper} {w : World} {K : Act → World → Prop} {Q : Exit → Act → World → Prop} {E : Prop} {op : Oper} {a : Act} (hgd : op.guard = none) (f : FuncId) (hrun : ∀ args w, (callFunc f args).run P w = .ok (.enter f args) w) (x : Operand) (tys : Array TypeId)
    (ho : op.op = .call { callee := .value (.func f), args := #[x], argTypes := tys }) (u r : Value) (hx : a.eval x = u) (C : World → Prop) (hc : Calls P f #[u] w fun e w' => e = .returned r ∧ C w')
    (h : ∀ w', C w' → K (a.put op.dst r) w') : if Region.wanted op (yielded ops a.tmps) = true then Oper.wp P op a w K Q else E := by
  have hw : Region.wanted op (yielded ops a.tmps) = true := by simp [Region.wanted, hgd]
  rw [if_pos hw]
  have e : (execOp a.eval op).run P w = .ok (.enter f #[u]) w := by
    obtain ⟨d, o2, t2, p2, af, g⟩ := op
    simp only at ho
    subst ho
    show (callFunc f (#[] ++ (#[x] : Array Operand).map a.eval ++ #[])).run P w = _
    rw [hrun]
    simp [← hx]
  unfold Oper.wp
  rw [e]
  exact hc.mono (by rintro e w' ⟨rfl, hC⟩; exact h w' hC)

theorem step_call3 {P : Program} {ops : Array Oper} {w : World} {K : Act → World → Prop} {Q : Exit → Act → World → Prop} {E : Prop} {op : Oper} {a : Act} (hgd : op.guard = none) (f : FuncId) (hrun : ∀ args w, (callFunc f args).run P w = .ok (.enter f args) w) (x y z : Operand) (tys : Array TypeId)
    (ho : op.op = .call { callee := .value (.func f), args := #[x, y, z], argTypes := tys }) (u v t r : Value) (hx : a.eval x = u) (hy : a.eval y = v) (hz : a.eval z = t) (C : World → Prop) (hc : Calls P f #[u, v, t] w fun e w' => e = .returned r ∧ C w')
    (h : ∀ w', C w' → K (a.put op.dst r) w') : if Region.wanted op (yielded ops a.tmps) = true then Oper.wp P op a w K Q else E := by
  have hw : Region.wanted op (yielded ops a.tmps) = true := by simp [Region.wanted, hgd]
  rw [if_pos hw]
  have e : (execOp a.eval op).run P w = .ok (.enter f #[u, v, t]) w := by
    obtain ⟨d, o2, t2, p2, af, g⟩ := op
    simp only at ho
    subst ho
    show (callFunc f (#[] ++ (#[x, y, z] : Array Operand).map a.eval ++ #[])).run P w = _
    rw [hrun]
    simp [← hx, ← hy, ← hz]
  unfold Oper.wp
  rw [e]
  exact hc.mono (by rintro e w' ⟨rfl, hC⟩; exact h w' hC)

/-- A tree at p: ty its type; a geometry, and its digests. -/
structure GT (ty : TypeId) (w : World) (B p : Nat) (v : Value) (N F C U : Int) (L : List ByteArray) : Prop where
  blk : w.heap[p]? = some (.cells #[.int .i64 N, .int .i64 F, .int .i64 C, .int .i64 U, v] ty (0, 0))
  low : B ≤ p
  own : w.ownsRow B 9 1 v L.length (strs L)
  ne : v.ownBlock ≠ some p
def tfoot (p : Nat) (v : Value) (k : Nat) : Prop := k = p ∨ v.ownBlock = some k
theorem GT.lt {ty w B p v N F C U L} (h : GT ty w B p v N F C U L) : p < w.heap.size := lt_of_block h.blk
theorem GT.kept {ty} {w w' : World} {B p v N F C U L} (h : GT ty w B p v N F C U L) (hk : ∀ k, tfoot p v k → w'.heap[k]? = w.heap[k]?) : GT ty w' B p v N F C U L :=
  ⟨(hk p (.inl rfl)).trans h.blk, h.low, owns_kept h.own (fun k hv => hk k (.inr hv)), h.ne⟩
theorem GT.foot_low {ty w B p v N F C U L} (h : GT ty w B p v N F C U L) : ∀ k, tfoot p v k → B ≤ k ∧ k < w.heap.size := by
  rintro k (rfl | e)
  · exact ⟨h.low, h.lt⟩
  · exact h.own.lt k e
theorem GT.below {ty} {w w' : World} {B p v N F C U L} (h : GT ty w B p v N F C U L) (hb : Below w.heap.size w w') : GT ty w' B p v N F C U L := h.kept fun k hk => hb.block k (h.foot_low k hk).2
theorem GT.cells {ty w B p v N F C U L} (h : GT ty w B p v N F C U L) : w.cell? ⟨p, 0, none⟩ = some (.int .i64 N) ∧ w.cell? ⟨p, 1, none⟩ = some (.int .i64 F) ∧ w.cell? ⟨p, 2, none⟩ = some (.int .i64 C) ∧ w.cell? ⟨p, 3, none⟩ = some (.int .i64 U) ∧ w.cell? ⟨p, 4, none⟩ = some v ∧ (∀ i, w.frozen? ⟨p, i, none⟩ = false) := by
  refine ⟨?_, ?_, ?_, ?_, ?_, fun i => free_of_blk h.blk i⟩ <;> (rw [cell_of_blk h.blk]; rfl)
theorem GT.frl {ty} {w w' : World} {A : Nat → Prop} {B p v N F C U L} (h : GT ty w B p v N F C U L) (hf : Fr A w w') (hd : ∀ k, tfoot p v k → ¬ A k) : GT ty w' B p v N F C U L := h.kept fun k hk => hf.block k (h.foot_low k hk).2 (hd k hk)
theorem ne_of_type {ty : TypeId} {w : World} {B p n : Nat} {v : Value} {L : List ByteArray} {cs : Array Value} (hb : w.heap[p]? = some (.cells cs ty (0, 0))) (ho : w.ownsRow B 9 1 v n (strs L)) (ht : ty ≠ 9) : v.ownBlock ≠ some p := fun e => by
  obtain ⟨cur, hc⟩ := owns_type ho e
  rw [hb] at hc
  simp at hc
  exact ht hc.2
/-- The document's tree; the program's. -/
abbrev RT := GT 63
abbrev PT := GT 60

/-- A text is appended to the tree's list, behind a call. -/
theorem rt_end {w0 w w4 w5 : World} {p : Nat} {v v5 : Value} {N F C U : Int} {L L' : List ByteArray} {o : Obj} (h : RT w w0.heap.size p v N F C U L) (h0 : Below w0.heap.size w0 w) (hb : Below w.heap.size w w4) (hg : (w4.alloc o).grownBy w5 v.ownBlock)
    (how : w5.ownsRow w0.heap.size 9 1 v5 L'.length (strs L')) : RT (w5.setCell ⟨p, 4, none⟩ v5) w0.heap.size p v5 N F C U L' ∧ Below w0.heap.size w0 (w5.setCell ⟨p, 4, none⟩ v5) := by
  have hl := h.lt
  have hb5 : w5.heap[p]? = some (.cells #[.int .i64 N, .int .i64 F, .int .i64 C, .int .i64 U, v] 63 (0, 0)) := by
    rw [hg.block p (by have := hb.size; simp; omega) (fun e => h.ne e.symm), Below.heap_alloc _ _ _ (Nat.lt_of_lt_of_le hl hb.size), hb.block p hl]
    exact h.blk
  have hn5 : v5.ownBlock ≠ some p := fun e => by
    obtain ⟨cur, hc⟩ := owns_type how e
    rw [hb5] at hc
    simp at hc
  have h4 : Below w0.heap.size w0 (w4.alloc o) := (h0.trans (hb.mono h0.size)).alloc (h0.trans (hb.mono h0.size)).size _
  exact ⟨⟨(blk_setCell hb5).trans (by simp), h.low, owns_set_other how hn5 _, hn5⟩, (h4.grown hg h4.size (fun j hj => (h.own.lt j hj).1)).setCell (p := ⟨p, 4, none⟩) h.low _⟩
theorem rt_blk5 {w w4 w5 : World} {B p : Nat} {v : Value} {N F C U : Int} {L : List ByteArray} {o : Obj} (h : RT w B p v N F C U L) (hb : Below w.heap.size w w4) (hg : (w4.alloc o).grownBy w5 v.ownBlock) : w5.heap[p]? = some (.cells #[.int .i64 N, .int .i64 F, .int .i64 C, .int .i64 U, v] 63 (0, 0)) := by
  have hl := h.lt
  rw [hg.block p (by have := hb.size; simp; omega) (fun e => h.ne e.symm), Below.heap_alloc _ _ _ (Nat.lt_of_lt_of_le hl hb.size), hb.block p hl]
  exact h.blk

/-- The tree's list as it grows: i nodes above the leaves. -/
def growL (N F C U : Int) (base : List ByteArray) : Nat → List ByteArray
  | 0 => base
  | i + 1 => growL N F C U base i ++ [nodeB (kids (growL N F C U base i) (children N F C U ((base.length + i : Nat) : Int)))]
theorem growL_length (N F C U base i) : (growL N F C U base i).length = base.length + i := by
  induction i with
  | zero => rfl
  | succ i ih => simp [growL, ih]; omega
def treeL (N F C U : Int) (Ss : List ByteArray) : List ByteArray := growL N F C U (Ss.map leafB) (nodes N F C U - Ss.length)
theorem leafB_size (s : ByteArray) : (leafB s).size = 32 := by
  show (List.toArray (dig (0 :: s.data.toList))).size = 32
  rw [List.size_toArray, dig_length]
theorem nodeB_size (K : List ByteArray) : (nodeB K).size = 32 := by
  show (List.toArray (dig (1 :: jn (lAt K) K.length))).size = 32
  rw [List.size_toArray, dig_length]
theorem lAt_append_lt {L M : List ByteArray} {i : Nat} (h : i < L.length) : lAt (L ++ M) i = lAt L i := by
  unfold lAt; rw [List.getElem?_append_left h]
theorem lAt_append_eq {L : List ByteArray} {s : ByteArray} : lAt (L ++ [s]) L.length = s := by
  unfold lAt; simp
theorem growL_size {N F C U : Int} {base : List ByteArray} (h : ∀ j, j < base.length → (lAt base j).size = 32) (i : Nat) : ∀ j, j < (growL N F C U base i).length → (lAt (growL N F C U base i) j).size = 32 := by
  induction i with
  | zero => exact h
  | succ i ih =>
    intro j hj
    rw [growL_length] at hj
    have hl := growL_length N F C U base i
    unfold growL
    rcases Nat.lt_or_ge j (base.length + i) with h1 | h1
    · rw [lAt_append_lt (by omega)]; exact ih j (by omega)
    · have e : j = (growL N F C U base i).length := by omega
      rw [e, lAt_append_eq]
      exact nodeB_size _
theorem towns_low {w : World} {B B' e size n : Nat} {v : Value} {xs : List Value} (h : w.ownsRow B e size v n xs) (hl : B' ≤ B) : w.ownsRow B' e size v n xs := by
  refine ⟨h.1, ?_⟩
  rcases h.2 with hn | ⟨g, cap, cur, rfl, hb, rest⟩
  · exact .inl hn
  · exact .inr ⟨g, cap, cur, rfl, by omega, rest⟩
/-- A new tree of these digests has come. -/
def TNew (N F C U : Int) (L : List ByteArray) (w : World) (e : Ending) (w' : World) : Prop :=
  ∃ p v, e = .returned (.tuple #[.pointer (some ⟨p, 0, none⟩), .int .i64 0]) ∧ RT w' w.heap.size p v N F C U L ∧ Below w.heap.size w w'
/-- Why there is no tree of these sectors; 0: there is one. -/
def newErr (N F C U : Int) (Ss : List ByteArray) : Int := if ¬ okG N F C U then 12 else if (Ss.length : Int) ≠ N then 8 else if ∀ i, i < Ss.length → (lAt Ss i).size = 64 then 0 else 4
def fromErr (N F C U : Int) (Ss : List ByteArray) : Int := if ¬ okG N F C U then 12 else if Ss.length ≠ nodes N F C U then 8 else if ∀ i, i < Ss.length → (lAt Ss i).size = 32 then 0 else 4
/-- What a tree's making gives. -/
def TEnd (err : Int) (N F C U : Int) (L : List ByteArray) (w : World) (e : Ending) (w' : World) : Prop :=
  (err = 0 ∧ TNew N F C U L w e w') ∨ (err ≠ 0 ∧ e = .returned (.tuple #[.pointer none, .int .i64 err]) ∧ Below w.heap.size w w')
end Go.Proofs.YtpdlpoomgkpogaaDoor
/-
  The document's tree: Root, Digest; Texts.
-/
namespace Go.Proofs.YtpdlpoomgkpogaaDoor
open Go.RowKit
set_option linter.unusedVariables false
set_option linter.unusedSimpArgs false

theorem guard_txt (op : BinOp) (x y : Operand) (u s : ByteArray) (w : World) : Sem.run Tryd.prog (eqGuard op 9 x y (.string u) (.string s)) w = .ok () w := by
  unfold eqGuard
  cases op <;> rfl
theorem neq_txt (u s : ByteArray) (w : World) : (binOp .neq 9 (.string u) (.string s)).run Tryd.prog w = .ok (.bool (!decide (u = s))) w := by
  obtain ⟨xs, rfl⟩ : ∃ xs : List UInt8, u = ⟨xs.toArray⟩ := ⟨u.data.toList, by cases u; simp⟩
  obtain ⟨ys, rfl⟩ : ∃ xs : List UInt8, s = ⟨xs.toArray⟩ := ⟨s.data.toList, by cases s; simp⟩
  go_simp
  by_cases h : xs = ys <;> simp [h]
theorem eql_txt (u s : ByteArray) (w : World) : (binOp .eql 9 (.string u) (.string s)).run Tryd.prog w = .ok (.bool (decide (u = s))) w := by
  obtain ⟨xs, rfl⟩ : ∃ xs : List UInt8, u = ⟨xs.toArray⟩ := ⟨u.data.toList, by cases u; simp⟩
  obtain ⟨ys, rfl⟩ : ∃ xs : List UInt8, s = ⟨xs.toArray⟩ := ⟨s.data.toList, by cases s; simp⟩
  go_simp
  by_cases h : xs = ys <;> simp [h]

def digP (L : List ByteArray) (node : Int) : ByteArray × Int := if node < 0 ∨ (L.length : Int) ≤ node then (noBytes, 3) else (lAt L node.toNat, 0)
def pairV (x : ByteArray × Int) : Value := .tuple #[.string x.1, .int .i64 x.2]

set_option maxRecDepth 20000 in
set_option maxHeartbeats 1000000 in
theorem trroot_any (B p : Nat) (v : Value) (N F C U : Int) (L : List ByteArray) (w : World) (h : RT w B p v N F C U L) (h0 : 0 < L.length) (h1 : L.length ≤ 1000) :
    Calls Tryd.prog 22 #[.pointer (some ⟨p, 0, none⟩)] w fun e w' => e = .returned (.string (lAt L (L.length - 1))) ∧ Below w.heap.size w w' := by
  have hd : RT w.drew B p v N F C U L := h.kept fun _ _ => rfl
  obtain ⟨_, _, _, _, c4, _⟩ := hd.cells
  obtain ⟨a, c, rfl, hrs, _⟩ := towns_shape hd.own
  obtain ⟨b, off, rfl, hbl, hc⟩ := hrs.at0 h0
  have hcx : (c : Int) ≤ 9223372036854775807 := by have := hrs.cm; unfold maxLen at this; omega
  obtain ⟨m, hm⟩ : ∃ m, L.length = m + 1 := ⟨L.length - 1, by omega⟩
  have e0 := hc m (by omega)
  rw [hm] at c4 ⊢
  rw [Nat.add_sub_cancel]
  generalize lAt L m = s at *
  have hb : Below w.heap.size w w.drew := (Below.refl _ _).drew
  have HB := Lib.hid hb
  clear hc hrs hbl h hd hb
  have i0 : (0 : Int) ≤ (m : Int) := by omega
  have i1 : ((m + 1 : Nat) : Int) - 1 = (m : Int) := by omega
  have i2 : (m : Int) < ((m + 1 : Nat) : Int) := by omega
  have i3 : IntKind.i64.wrap ((m : Int) + 1 - 1) = (m : Int) := by rw [IntWalk.i64_in _ (by omega)]; omega
  go_enter Tryd.func22, Tryd.ntmps22
  go_wp2_with fail
  go_region
  go_wp2
  go_ret
  exact ⟨rfl, HB.out⟩

set_option maxRecDepth 20000 in
set_option maxHeartbeats 1000000 in
theorem trdigest_any (B p : Nat) (v : Value) (N F C U : Int) (L : List ByteArray) (node : Int) (w : World) (h : RT w B p v N F C U L) (h1 : L.length ≤ 1000) :
    Calls Tryd.prog 53 #[.pointer (some ⟨p, 0, none⟩), .int .i64 node] w fun e w' => e = .returned (pairV (digP L node)) ∧ Below w.heap.size w w' := by
  obtain ⟨_, _, _, _, c4, _⟩ := h.cells
  obtain ⟨a, c, rfl, hrs, _⟩ := towns_shape h.own
  have hcx : (c : Int) ≤ 9223372036854775807 := by have := hrs.cm; unfold maxLen at this; omega
  unfold digP pairV
  by_cases hn : node < 0
  · rw [if_pos (.inl hn)]
    unfold noBytes
    clear h hrs
    go_enter Tryd.func53, Tryd.ntmps53
    go_wp2
    refine bodyPost_ret (results_tmp2 rfl _ _ _) rfl ?_
    exact ⟨rfl, Below.refl _ _⟩
  · by_cases hg : (L.length : Int) ≤ node
    · rw [if_pos (.inr hg)]
      unfold noBytes
      clear h hrs
      go_enter Tryd.func53, Tryd.ntmps53
      go_wp2
      refine bodyPost_ret (results_tmp2 rfl _ _ _) rfl ?_
      exact ⟨rfl, Below.refl _ _⟩
    · rw [if_neg (by omega)]
      obtain ⟨m, rfl⟩ : ∃ m : Nat, node = m := ⟨node.toNat, by omega⟩
      have hml : m < L.length := by omega
      obtain ⟨b, off, rfl, hbl, hc⟩ := hrs.at0 (by omega)
      have e0 := hc m hml
      rw [Int.toNat_natCast]
      generalize lAt L m = s at *
      have i1 : (m : Int) < (L.length : Int) := by omega
      have i0 : (0 : Int) ≤ (m : Int) := by omega
      clear hc hrs hbl h
      go_enter Tryd.func53, Tryd.ntmps53
      go_wp2
      refine bodyPost_ret (results_tmp2 rfl _ _ _) rfl ?_
      exact ⟨rfl, Below.refl _ _⟩

theorem slist_ext {L M : List ByteArray} (hl : L.length = M.length) (h : ∀ i, i < L.length → lAt L i = lAt M i) : L = M := by
  refine List.ext_getElem hl fun i h1 h2 => ?_
  have := h i h1
  unfold lAt at this
  rw [List.getElem?_eq_getElem h1, List.getElem?_eq_getElem h2] at this
  exact this
end Go.Proofs.YtpdlpoomgkpogaaDoor

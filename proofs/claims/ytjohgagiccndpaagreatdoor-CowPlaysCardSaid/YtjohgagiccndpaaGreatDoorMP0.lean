/-
  Texts put together: P0, P1, P2.
-/
import Derived.Test.YtjohgagiccndpaaGreatDoorME
import Derived.Test.YtjohgagiccndpaaGreatDoorMG3
import Derived.Test.YtjohgagiccndpaaGreatDoorME2
import Derived.Test.YtjohgagiccndpaaGreatDoorMG
import Derived.Deep.QuietTactic
/-
  Entries: lists of them in memory; what is found in one.
-/
namespace Go.Proofs.YtjohgagiccndpaaGreatDoor
open Go.RowKit
set_option linter.unusedVariables false
set_option linter.unusedSimpArgs false

structure En where
  tag : Nat
  epoch : Nat
  place : Int
  old : ByteArray
instance : Inhabited En := ⟨⟨0, 0, 0, noBytes⟩⟩
def En.val (e : En) : Value := .agg #[.int .u64 (e.tag : Int), .int .u64 (e.epoch : Int), .int .i64 e.place, .string e.old]
def noEn : En := ⟨0, 0, 0, noBytes⟩
def eAt (X : List En) (i : Nat) : En := X[i]?.getD noEn
def evs : List En → List Value
  | [] => []
  | e :: q => .int .u64 (e.tag : Int) :: .int .u64 (e.epoch : Int) :: .int .i64 e.place :: .string e.old :: evs q
theorem evs_length : ∀ q, (evs q).length = q.length * 4
  | [] => rfl
  | x :: q => by simp [evs, evs_length q]; omega
theorem evs_append : ∀ q r, evs (q ++ r) = evs q ++ evs r
  | [], r => rfl
  | x :: q, r => by simp [evs, evs_append q r]
theorem evs_one (q : List En) : ∀ u ∈ evs q, u.oneCell' = true := by
  induction q with
  | nil => intro u hu; cases hu
  | cons x q ih =>
    intro u hu
    simp only [evs, List.mem_cons] at hu
    rcases hu with rfl | rfl | rfl | rfl | hu
    · rfl
    · rfl
    · rfl
    · rfl
    · exact ih u hu
theorem evs_at : ∀ (X : List En) (i : Nat), i < X.length → (evs X)[i * 4]? = some (.int .u64 ((eAt X i).tag : Int)) ∧ (evs X)[i * 4 + 1]? = some (.int .u64 ((eAt X i).epoch : Int)) ∧ (evs X)[i * 4 + 2]? = some (.int .i64 (eAt X i).place) ∧ (evs X)[i * 4 + 3]? = some (.string (eAt X i).old)
  | [], i, h => by simp at h
  | x :: X, 0, h => ⟨rfl, rfl, rfl, rfl⟩
  | x :: X, i + 1, h => by
    have := evs_at X i (by simpa using h)
    rw [show (i + 1) * 4 = i * 4 + 4 from by omega]
    exact this
/-- The slice value reads as entries. -/
structure Es (w : World) (a : Option Addr) (n cap : Nat) (X : List En) : Prop where
  len : X.length = n
  le : n ≤ cap
  cm : cap ≤ maxLen
  at0 : 0 < n → ∃ b off, a = some ⟨b, off, none⟩ ∧ b < w.heap.size ∧ ∀ i, i < n → w.cell? ⟨b, off + i * 4, none⟩ = some (.int .u64 ((eAt X i).tag : Int)) ∧ w.cell? ⟨b, off + i * 4 + 1, none⟩ = some (.int .u64 ((eAt X i).epoch : Int)) ∧ w.cell? ⟨b, off + i * 4 + 2, none⟩ = some (.int .i64 (eAt X i).place) ∧ w.cell? ⟨b, off + i * 4 + 3, none⟩ = some (.string (eAt X i).old)
theorem Es.kept {w w' : World} {a : Option Addr} {n cap : Nat} {X : List En} (h : Es w a n cap X) (hs : w.heap.size ≤ w'.heap.size) (hk : ∀ b off, a = some ⟨b, off, none⟩ → 0 < n → b < w.heap.size → w'.heap[b]? = w.heap[b]?) : Es w' a n cap X where
  len := h.len
  le := h.le
  cm := h.cm
  at0 := fun h0 => by
    obtain ⟨b, off, ha, hlt, hc⟩ := h.at0 h0
    have he := hk b off ha h0 hlt
    exact ⟨b, off, ha, Nat.lt_of_lt_of_le hlt hs, fun i hi => by
      obtain ⟨h1, h2, h3, h4⟩ := hc i hi
      exact ⟨by rw [World.cell?_of_block (w := w) he]; exact h1, by rw [World.cell?_of_block (w := w) he]; exact h2, by rw [World.cell?_of_block (w := w) he]; exact h3, by rw [World.cell?_of_block (w := w) he]; exact h4⟩⟩
theorem Es.later {w w' : World} {a : Option Addr} {n cap : Nat} {X : List En} (h : Es w a n cap X) (hb : Below w.heap.size w w') : Es w' a n cap X := h.kept hb.size fun b _ _ _ hlt => hb.block b hlt
theorem Es.fr {A : Nat → Prop} {w w' : World} {a : Option Addr} {n cap : Nat} {X : List En} (h : Es w a n cap X) (hF : Fr A w w') (hb : ∀ b off, a = some ⟨b, off, none⟩ → 0 < n → ¬ A b) : Es w' a n cap X := h.kept hF.size fun b off e h0 hlt => hF.block b hlt (hb b off e h0)
theorem es_nil (w : World) : Es w none 0 0 [] := ⟨rfl, Nat.le_refl _, by unfold maxLen; omega, fun h => by omega⟩
theorem es_owns {w : World} {B g n cap : Nat} {X : List En} (h : w.ownsRow B 55 4 (.slice (some ⟨g, 0, none⟩) n cap) n (evs X)) (hn : X.length = n) : Es w (some ⟨g, 0, none⟩) n cap X := by
  have hlt := (h.lt g rfl).2
  have hx : ∀ (j : Nat) (u : Value), (evs X)[j]? = some u → w.cell? ⟨g, j, none⟩ = some u := fun j u hu => owns_cell h rfl j u hu
  rcases h.2 with ⟨h1, _⟩ | ⟨g', cap', cur, h1, hb, hgg, hle, hm, _⟩
  · cases h1
  · cases h1
    refine ⟨hn, hle, hm, fun h0 => ⟨g, 0, rfl, hlt, fun i hi => ?_⟩⟩
    obtain ⟨e1, e2, e3, e4⟩ := evs_at X i (by omega)
    simp only [Nat.zero_add]
    exact ⟨hx _ _ e1, hx _ _ e2, hx _ _ e3, hx _ _ e4⟩

/-- What is found: the first of a place. -/
def findE (X : List En) (place : Int) : Option ByteArray := (X.find? fun e => e.place == place).map En.old
def findV (r : Option ByteArray) : Value := match r with
  | some s => .tuple #[.string s, .bool true]
  | none => .tuple #[.string noBytes, .bool false]
theorem findE_none {X : List En} {place : Int} (h : ∀ i, i < X.length → (eAt X i).place ≠ place) : findE X place = none := by
  unfold findE
  rw [List.find?_eq_none.2 ?_]; rfl
  intro e he
  obtain ⟨i, hi, rfl⟩ := List.mem_iff_getElem.1 he
  have := h i hi
  unfold eAt at this
  rw [List.getElem?_eq_getElem hi] at this
  simpa using this
theorem findE_some {X : List En} {place : Int} {i : Nat} (hi : i < X.length) (hp : (eAt X i).place = place) (h : ∀ j, j < i → (eAt X j).place ≠ place) : findE X place = some (eAt X i).old := by
  unfold findE
  have : X.find? (fun e => e.place == place) = some X[i] := by
    rw [List.find?_eq_some_iff_getElem]
    unfold eAt at hp
    rw [List.getElem?_eq_getElem hi] at hp
    refine ⟨by simpa using hp, i, hi, rfl, fun j hj => ?_⟩
    have := h j hj
    unfold eAt at this
    rw [List.getElem?_eq_getElem (by omega)] at this
    simpa using this
  rw [this]
  unfold eAt
  rw [List.getElem?_eq_getElem hi]
  rfl

set_option maxRecDepth 20000 in
set_option maxHeartbeats 2000000 in
theorem find_prog (a : Option Addr) (n cap : Nat) (X : List En) (place : Int) (w : World) (h : Es w a n cap X) :
    Calls Tryz.prog 32 #[.slice a n cap, .int .i64 place] w fun e w' => e = .returned (findV (findE X place)) ∧ Below w.heap.size w w' := by
  have hln := h.len
  have hle := h.le
  have hcx : (cap : Int) ≤ 9223372036854775807 := by have := h.cm; unfold maxLen at this; omega
  obtain ⟨r, hr⟩ : ∃ r, r = findE X place := ⟨_, rfl⟩
  rw [← hr]
  have HR := Lib.hid hr
  have HH := Lib.hid h
  have HL := Lib.hid hln
  clear hr h hln
  go_enter Tryz.func32, Tryz.ntmps32
  go_wp2
  go_loopw [10] (fun i wr => ∃ k : Nat, k ≤ n ∧ i = .int .i64 k ∧ Below w.heap.size w wr ∧ ∀ j, j < k → (eAt X j).place ≠ place) (fun i _ => n - (intOf i).toNat)
  case atStart => exact ⟨0, by omega, rfl, Below.refl _ _, fun j hj => by omega⟩
  case round =>
    obtain ⟨k, hk, rfl, hB, hall⟩ := hrel
    have HALL := Lib.hid hall
    clear hall
    by_cases hlt : k < n
    · have i1 : (0 : Int) ≤ (k : Int) := by omega
      have i2 : (k : Int) < (n : Int) := by omega
      obtain ⟨b, off, rfl, hbl, hcl⟩ := (HH.out.later hB).at0 (by omega)
      obtain ⟨c0, c1, c2, c3⟩ := hcl k hlt
      have HB := Lib.hid (hB.alloc hB.size (.cells #[.int .u64 ((eAt X k).tag : Int), .int .u64 ((eAt X k).epoch : Int), .int .i64 (eAt X k).place, .string (eAt X k).old] 55))
      clear hcl hB
      by_cases h2 : (eAt X k).place = place
      · have hrf : r = some (eAt X k).old := HR.out.trans (findE_some (by have := HL.out; omega) h2 HALL.out)
        have h2' : ((eAt X k).place == place) = true := by simpa using h2
        generalize (eAt X k).place = x2 at *
        generalize (eAt X k).old = x3 at *
        generalize ((eAt X k).tag : Int) = x0 at *
        generalize ((eAt X k).epoch : Int) = x1 at *
        subst hrf
        clear h2
        go_wp2
        refine bodyPost_ret (results_tmp2 rfl _ _ _) rfl ?_
        exact ⟨rfl, HB.out⟩
      · have h2' : ((eAt X k).place == place) = false := by simpa using h2
        have H2 := Lib.hid h2
        have HX := Lib.hid (show ∀ j, j < k + 1 → (eAt X j).place ≠ place from fun j hj => by
          rcases Nat.lt_or_ge j k with h1 | h1
          · exact HALL.out j h1
          · obtain rfl : j = k := by omega
            exact h2)
        clear h2
        generalize (eAt X k).place = x2 at *
        generalize (eAt X k).old = x3 at *
        generalize ((eAt X k).tag : Int) = x0 at *
        generalize ((eAt X k).epoch : Int) = x1 at *
        go_wp2
        go_roundw
        case rel => exact ⟨k + 1, by omega, by go_num, HB.out, HX.out⟩
        case measure => simp [intOf]; omega
    · obtain rfl : k = n := by omega
      have hrt : r = none := HR.out.trans (findE_none (fun i hi => HALL.out i (by have := HL.out; omega)))
      subst hrt
      have i2 : ¬ (k : Int) < (k : Int) := by omega
      go_wp2
      refine bodyPost_ret (results_tmp2 rfl _ _ _) rfl ?_
      exact ⟨rfl, hB⟩

set_option maxRecDepth 20000 in
set_option maxHeartbeats 2000000 in
theorem rfind_prog (a : Option Addr) (n cap : Nat) (X : List En) (place : Int) (w : World) (h : Es w a n cap X) :
    Calls Tryz.prog 77 #[.slice a n cap, .int .i64 place] w fun e w' => e = .returned (findV (findE X place)) ∧ Below w.heap.size w w' := by
  have hln := h.len
  have hle := h.le
  have hcx : (cap : Int) ≤ 9223372036854775807 := by have := h.cm; unfold maxLen at this; omega
  obtain ⟨r, hr⟩ : ∃ r, r = findE X place := ⟨_, rfl⟩
  rw [← hr]
  have HR := Lib.hid hr
  have HH := Lib.hid h
  have HL := Lib.hid hln
  clear hr h hln
  go_enter Tryz.func77, Tryz.ntmps77
  go_wp2
  go_loopw [6] (fun i wr => ∃ k : Nat, k ≤ n ∧ i = .int .i64 k ∧ Below w.heap.size w wr ∧ ∀ j, j < k → (eAt X j).place ≠ place) (fun i _ => n - (intOf i).toNat)
  case atStart => exact ⟨0, by omega, rfl, Below.refl _ _, fun j hj => by omega⟩
  case round =>
    obtain ⟨k, hk, rfl, hB, hall⟩ := hrel
    have HALL := Lib.hid hall
    clear hall
    by_cases hlt : k < n
    · have i1 : (0 : Int) ≤ (k : Int) := by omega
      have i2 : (k : Int) < (n : Int) := by omega
      obtain ⟨b, off, rfl, hbl, hcl⟩ := (HH.out.later hB).at0 (by omega)
      obtain ⟨c0, c1, c2, c3⟩ := hcl k hlt
      have HB := Lib.hid hB
      clear hcl hB c0 c1
      by_cases h2 : (eAt X k).place = place
      · have hrf : r = some (eAt X k).old := HR.out.trans (findE_some (by have := HL.out; omega) h2 HALL.out)
        have h2' : ((eAt X k).place == place) = true := by simpa using h2
        generalize (eAt X k).place = x2 at *
        generalize (eAt X k).old = x3 at *
        subst hrf
        clear h2
        go_wp2
        refine bodyPost_ret (results_tmp2 rfl _ _ _) rfl ?_
        exact ⟨rfl, HB.out⟩
      · have h2' : ((eAt X k).place == place) = false := by simpa using h2
        have HX := Lib.hid (show ∀ j, j < k + 1 → (eAt X j).place ≠ place from fun j hj => by
          rcases Nat.lt_or_ge j k with h1 | h1
          · exact HALL.out j h1
          · obtain rfl : j = k := by omega
            exact h2)
        clear h2
        generalize (eAt X k).place = x2 at *
        generalize (eAt X k).old = x3 at *
        go_wp2
        go_roundw
        case rel => exact ⟨k + 1, by omega, by go_num, HB.out, HX.out⟩
        case measure => simp [intOf]; omega
    · obtain rfl : k = n := by omega
      have hrt : r = none := HR.out.trans (findE_none (fun i hi => HALL.out i (by have := HL.out; omega)))
      subst hrt
      have i2 : ¬ (k : Int) < (k : Int) := by omega
      go_wp2
      refine bodyPost_ret (results_tmp2 rfl _ _ _) rfl ?_
      exact ⟨rfl, hB⟩
end Go.Proofs.YtjohgagiccndpaaGreatDoor
/-
  A sector that is written and flushed; Clear, the program's and the document's; which places can be undone.
-/
namespace Go.Proofs.YtjohgagiccndpaaGreatDoor
open Go.RowKit
set_option linter.unusedVariables false
set_option linter.unusedSimpArgs false

theorem pp_trans {w w1 w2 : World} {B p : Nat} {v1 v2 : Value} {S1 S2 : DS} (h : PP w B p v1 v2 S1 w1) (k : ∀ a b, PD w1 B p a b S1 → PP w1 B p a b S2 w2) : PP w B p v1 v2 S2 w2 := by
  obtain ⟨a, b, hp, hf, ht⟩ := h
  obtain ⟨a2, b2, hp2, hf2, ht2⟩ := k a b hp
  exact ⟨a2, b2, hp2, hf.trans hf2 (fun i hi => ht i hi), fun i hi => (ht2 i hi).elim (ht i) (fun h => .inr (Nat.le_trans hf.size h))⟩
theorem pp_below {w w1 w2 : World} {B p : Nat} {v1 v2 : Value} {S : DS} (hb : Below w.heap.size w w1) (h : PP w1 B p v1 v2 S w2) : PP w B p v1 v2 S w2 := by
  obtain ⟨a, b, hp, hf, ht⟩ := h
  refine ⟨a, b, hp, ⟨hf.os.trans hb.os, hf.tape.trans hb.tape, hf.output.trans hb.output, Nat.le_trans hb.size hf.size, fun i hi hn => (hf.block i (Nat.lt_of_lt_of_le hi hb.size) hn).trans (hb.block i hi)⟩, fun i hi => (ht i hi).elim .inl (fun h => .inr (Nat.le_trans hb.size h))⟩
theorem pp_after {w w1 : World} {B p : Nat} {v1 v2 : Value} {S : DS} (h : PD w B p v1 v2 S) (hb : Below w.heap.size w w1) : PP w B p v1 v2 S w1 := pp_below hb (PP.same (h.below hb))
theorem pp_then {w w1 w2 : World} {B p : Nat} {v1 v2 : Value} {S : DS} (h : PP w B p v1 v2 S w1) (hb : Below w1.heap.size w1 w2) : PP w B p v1 v2 S w2 := pp_trans h fun a b hp => pp_after hp hb
theorem rp_trans {w w1 w2 : World} {B p : Nat} {v1 v2 : Value} {S1 S2 : DS} (h : RP w B p v1 v2 S1 w1) (k : ∀ a b, RD w1 B p a b S1 → RP w1 B p a b S2 w2) : RP w B p v1 v2 S2 w2 := by
  obtain ⟨a, b, hp, hf, ht⟩ := h
  obtain ⟨a2, b2, hp2, hf2, ht2⟩ := k a b hp
  exact ⟨a2, b2, hp2, hf.trans hf2 (fun i hi => ht i hi), fun i hi => (ht2 i hi).elim (ht i) (fun h => .inr (Nat.le_trans hf.size h))⟩
theorem rp_below {w w1 w2 : World} {B p : Nat} {v1 v2 : Value} {S : DS} (hb : Below w.heap.size w w1) (h : RP w1 B p v1 v2 S w2) : RP w B p v1 v2 S w2 := by
  obtain ⟨a, b, hp, hf, ht⟩ := h
  refine ⟨a, b, hp, ⟨hf.os.trans hb.os, hf.tape.trans hb.tape, hf.output.trans hb.output, Nat.le_trans hb.size hf.size, fun i hi hn => (hf.block i (Nat.lt_of_lt_of_le hi hb.size) hn).trans (hb.block i hi)⟩, fun i hi => (ht i hi).elim .inl (fun h => .inr (Nat.le_trans hb.size h))⟩
theorem rp_after {w w1 : World} {B p : Nat} {v1 v2 : Value} {S : DS} (h : RD w B p v1 v2 S) (hb : Below w.heap.size w w1) : RP w B p v1 v2 S w1 := rp_below hb (RP.same (h.below hb))
theorem rp_then {w w1 w2 : World} {B p : Nat} {v1 v2 : Value} {S : DS} (h : RP w B p v1 v2 S w1) (hb : Below w1.heap.size w1 w2) : RP w B p v1 v2 S w2 := rp_trans h fun a b hp => rp_after hp hb
theorem PP.size {w w1 : World} {B p : Nat} {v1 v2 : Value} {S : DS} (h : PP w B p v1 v2 S w1) : w.heap.size ≤ w1.heap.size := by obtain ⟨_, _, _, hf, _⟩ := h; exact hf.size
theorem RP.size {w w1 : World} {B p : Nat} {v1 v2 : Value} {S : DS} (h : RP w B p v1 v2 S w1) : w.heap.size ≤ w1.heap.size := by obtain ⟨_, _, _, hf, _⟩ := h; exact hf.size
/-- What the call changes of a disk leaves all else below. -/
theorem PP.old {w w1 : World} {B p : Nat} {v1 v2 : Value} {S : DS} (h : PP w B p v1 v2 S w1) (k : Nat) (hk : k < w.heap.size) (hn : ¬ foot p v1 v2 k) : w1.heap[k]? = w.heap[k]? := by obtain ⟨_, _, _, hf, _⟩ := h; exact hf.block k hk hn
theorem RP.old {w w1 : World} {B p : Nat} {v1 v2 : Value} {S : DS} (h : RP w B p v1 v2 S w1) (k : Nat) (hk : k < w.heap.size) (hn : ¬ foot p v1 v2 k) : w1.heap[k]? = w.heap[k]? := by obtain ⟨_, _, _, hf, _⟩ := h; exact hf.block k hk hn

/-- A sector that is written, and then a flush: the answer, and the disk then. -/
def storeP (S : DS) (at' : Int) (data : ByteArray) : Int × DS := if (S.write at' data).1 ≠ 0 then S.write at' data else (S.write at' data).2.flush
theorem storeP_ok {S : DS} {N : Nat} (h : S.ok N) (at' : Int) (data : ByteArray) : (storeP S at' data).2.ok (N + 2) := by
  unfold storeP
  split
  · exact (h.write _ _).mono (by omega)
  · exact (h.write _ _).flush
def clearP (N F C U : Int) (S : DS) : Int × DS := if okG N F C U then storeP S (areaAt N F C U 1 0) (secOf 0) else (12, S)
theorem clearP_ok {N F C U : Int} {S : DS} {M : Nat} (h : S.ok M) : (clearP N F C U S).2.ok (M + 2) := by
  unfold clearP
  split
  · exact storeP_ok h _ _
  · exact h.mono (by omega)

set_option maxRecDepth 20000 in
set_option maxHeartbeats 2000000 in
theorem store_any (B p : Nat) (v1 v2 : Value) (S : DS) (at' : Int) (data : ByteArray) (w : World) (h : PD w B p v1 v2 S) (hB : B ≤ w.heap.size) (N : Nat) (hok : S.ok N) (hN : N + 1 ≤ 1000000) :
    Calls Tryz.prog 58 #[.pointer (some ⟨p, 0, none⟩), .int .i64 at', .string data] w fun e w' => e = .returned (.int .i64 (storeP S at' data).1) ∧ PP w B p v1 v2 (storeP S at' data).2 w' := by
  unfold storeP
  have hwt := write_any B p v1 v2 S at' data w h hB N hok (by omega)
  have hwo := hok.write at' data
  obtain ⟨r, T, hrT⟩ : ∃ r T, S.write at' data = (r, T) := ⟨_, _, rfl⟩
  rw [hrT] at hwt hwo ⊢
  dsimp only at hwt hwo ⊢
  have HWT := Lib.hid hwt
  have HWO := Lib.hid hwo
  clear hrT hwt hwo h
  by_cases hr : r = 0
  · subst hr
    rw [if_neg (by simp)]
    have hfl := fun w3 a b (h3 : PD w3 B p a b T) (hB3 : B ≤ w3.heap.size) => flush_any B p a b T w3 h3 hB3 (N + 1) HWO.out hN
    obtain ⟨r2, T2, hT2⟩ : ∃ r T', T.flush = (r, T') := ⟨_, _, rfl⟩
    rw [hT2] at hfl ⊢
    dsimp only at hfl ⊢
    have HFL := Lib.hid hfl
    clear hfl hT2
    go_enter Tryz.func58, Tryz.ntmps58
    go_wp2_with fail
    refine HWT.out.mono ?_
    rintro e w1 ⟨rfl, hpp⟩
    have HPP := Lib.hid hpp
    obtain ⟨a, b, hp3, hf3, ht3⟩ := hpp
    go_wp2_with fail
    refine (HFL.out w1 a b hp3 (Nat.le_trans hB hf3.size)).mono ?_
    rintro e w2 ⟨rfl, hpp⟩
    have HFIN := Lib.hid (show PP w B p v1 v2 T2 w2 from by
      obtain ⟨a2, b2, hp4, hf4, ht4⟩ := hpp
      exact ⟨a2, b2, hp4, hf3.trans hf4 (fun i hi => ht3 i hi), fun i hi => (ht4 i hi).elim (ht3 i) (fun h => .inr (Nat.le_trans hf3.size h))⟩)
    clear hp3 hf3 ht3 hpp HFL HPP
    go_wp2
    go_ret
    exact ⟨rfl, HFIN.out⟩
  · have hr2 : (r == 0) = false := by simpa using hr
    have hr3 : (r != 0) = true := by simp [hr]
    rw [if_pos hr]
    dsimp only
    clear hr
    go_enter Tryz.func58, Tryz.ntmps58
    go_wp2_with fail
    refine HWT.out.mono ?_
    rintro e w1 ⟨rfl, hpp⟩
    have HPP := Lib.hid hpp
    clear hpp HWT
    go_wp2
    go_ret
    exact ⟨rfl, HPP.out⟩

/-! ### a geometry in a box -/
theorem gb_cells (w : World) (N F C U : Int) : ∀ w', Below (w.heap.size + 1) (w.alloc (gbox N F C U)) w' → w'.cell? ⟨w.heap.size, 0, none⟩ = some (.int .i64 N) ∧ w'.cell? ⟨w.heap.size, 1, none⟩ = some (.int .i64 F) ∧ w'.cell? ⟨w.heap.size, 2, none⟩ = some (.int .i64 C) ∧ w'.cell? ⟨w.heap.size, 3, none⟩ = some (.int .i64 U) := by
  intro w' hb
  have e := (hb.block w.heap.size (Nat.lt_succ_self _)).trans (heap_alloc_new w _)
  unfold gbox at e
  refine ⟨?_, ?_, ?_, ?_⟩ <;> (rw [cell_of_blk e]; rfl)

set_option maxRecDepth 20000 in
set_option maxHeartbeats 2000000 in
theorem locations_any (N F C U : Int) (k : Nat) (hk : k ≤ 1000) (w : World) :
    Calls Tryz.prog 57 #[geo N F C U, .int .i64 k] w fun e w' => e = .returned (.tuple #[.int .i64 (areaAt N F C U 1 (2 * k)), .int .i64 (areaAt N F C U 1 (2 * k + 1))]) ∧ Below w.heap.size w w' := by
  have h1 := fun w => area_any N F C U 1 (2 * k) w
  have h2 := fun w => area_any N F C U 1 (2 * k + 1) w
  obtain ⟨A1, hA1⟩ : ∃ A, A = areaAt N F C U 1 (2 * k) := ⟨_, rfl⟩
  obtain ⟨A2, hA2⟩ : ∃ A, A = areaAt N F C U 1 (2 * k + 1) := ⟨_, rfl⟩
  rw [← hA1, ← hA2]
  simp only [← hA1] at h1
  simp only [← hA2] at h2
  obtain ⟨x1, hx1⟩ : ∃ x : Int, x = 2 * k := ⟨_, rfl⟩
  obtain ⟨x2, hx2⟩ : ∃ x : Int, x = 2 * k + 1 := ⟨_, rfl⟩
  have m1 : IntKind.i64.wrap (2 * (k : Int)) = x1 := (IntWalk.i64_in _ (by omega)).trans hx1.symm
  have m2 : IntKind.i64.wrap (x1 + 1) = x2 := (IntWalk.i64_in _ (by omega)).trans (by omega)
  simp only [← hx1] at h1
  simp only [← hx2] at h2
  unfold geo at h1 h2
  have H1 := Lib.hid h1
  have H2 := Lib.hid h2
  clear h1 h2 hA1 hA2 hx1 hx2
  have hcells := gb_cells w N F C U
  have HC := Lib.hid hcells
  clear hcells
  unfold gbox at HC
  unfold geo
  have HSZ := Lib.hid (World.size_alloc w (.cells #[.int .i64 N, .int .i64 F, .int .i64 C, .int .i64 U] 23))
  go_enter Tryz.func57, Tryz.ntmps57
  go_upto_region 1 with fail
  have hG : Below (w.heap.size + 1) (w.alloc (.cells #[.int .i64 N, .int .i64 F, .int .i64 C, .int .i64 U] 23)) ((w.alloc (.cells #[.int .i64 N, .int .i64 F, .int .i64 C, .int .i64 U] 23)).drew) := (Below.refl _ _).drew
  go_region_held3 (fun w' => w'.cell? ⟨w.heap.size, 0, none⟩ = some (.int .i64 N) ∧ w'.cell? ⟨w.heap.size, 1, none⟩ = some (.int .i64 F) ∧ w'.cell? ⟨w.heap.size, 2, none⟩ = some (.int .i64 C) ∧ w'.cell? ⟨w.heap.size, 3, none⟩ = some (.int .i64 U))
    (exact HC.out _ hG)
    (first
    | (go_at_call 100; with_reducible refine (H1.out _).mono ?_; rintro r wk ⟨rfl, hb⟩; replace hG := hG.trans (hb.mono (by have := hG.size; have := HSZ.out; omega)); clear hb)
    | (go_at_call 100; with_reducible refine (H2.out _).mono ?_; rintro r wk ⟨rfl, hb⟩; replace hG := hG.trans (hb.mono (by have := hG.size; have := HSZ.out; omega)); clear hb))
  all_goals (
    rename_i hHeld
    clear hHeld
    have HB := Lib.hid (((Below.refl _ w).alloc (Nat.le_refl _) (.cells #[.int .i64 N, .int .i64 F, .int .i64 C, .int .i64 U] 23)).trans (hG.mono (by omega)))
    clear hG
    go_wp2
    refine bodyPost_ret (results_tmp2 rfl _ _ _) rfl ?_
    exact ⟨rfl, HB.out⟩)

set_option maxRecDepth 20000 in
set_option maxHeartbeats 2000000 in
theorem clear_any (B p : Nat) (v1 v2 : Value) (S : DS) (N F C U : Int) (w : World) (h : PD w B p v1 v2 S) (hB : B ≤ w.heap.size) (M : Nat) (hok : S.ok M) (hM : M + 1 ≤ 1000000) :
    Calls Tryz.prog 25 #[.pointer (some ⟨p, 0, none⟩), geo N F C U] w fun e w' => e = .returned (.int .i64 (clearP N F C U S).1) ∧ PP w B p v1 v2 (clearP N F C U S).2 w' := by
  have hr := fun w => gright_any N F C U w
  have hB0 : Below w.heap.size w (w.alloc (.cells #[.int .i64 N, .int .i64 F, .int .i64 C, .int .i64 U] 23)) := (Below.refl _ w).alloc (Nat.le_refl _) _
  unfold geo at hr
  have HH := Lib.hid h
  have HB0 := Lib.hid hB0
  clear h hB0
  by_cases ho : okG N F C U
  · rw [show clearP N F C U S = storeP S (areaAt N F C U 1 0) (secOf 0) from if_pos ho]
    rw [decide_eq_true ho] at hr
    have HR := Lib.hid hr
    have hl := fun w => locations_any N F C U 0 (by omega) w
    simp only [Int.natCast_zero, Int.mul_zero, Int.zero_add] at hl
    obtain ⟨A1, hA1⟩ : ∃ A, A = areaAt N F C U 1 0 := ⟨_, rfl⟩
    obtain ⟨A2, hA2⟩ : ∃ A, A = areaAt N F C U 1 1 := ⟨_, rfl⟩
    rw [← hA1]
    simp only [← hA1, ← hA2] at hl
    have hz := fun w => zero_any w
    have hst := fun w' (hb : Below w.heap.size w w') => store_any B p v1 v2 S A1 (secOf 0) w' (HH.out.below hb) (Nat.le_trans hB hb.size) M hok hM
    obtain ⟨R, T, hRT⟩ : ∃ r T, storeP S A1 (secOf 0) = (r, T) := ⟨_, _, rfl⟩
    rw [hRT] at hst ⊢
    dsimp only at hst ⊢
    obtain ⟨Z, hZ⟩ : ∃ Z : ByteArray, Z = secOf 0 := ⟨_, rfl⟩
    simp only [← hZ] at hz hst
    unfold geo at hl
    have HL := Lib.hid hl
    have HZ := Lib.hid hz
    have HST := Lib.hid hst
    have HC := Lib.hid (gb_cells w N F C U)
    unfold gbox at HC
    clear hl hz hst hRT hA1 hA2 hZ hr ho
    unfold geo
    go_enter Tryz.func25, Tryz.ntmps25
    go_wp2_with fail
    refine (HR.out _).mono ?_
    rintro e w1 ⟨rfl, hb⟩
    have HX := Lib.hid (show Below (w.heap.size + 1) (w.alloc (.cells #[.int .i64 N, .int .i64 F, .int .i64 C, .int .i64 U] 23)) w1 from hb.mono (by simp))
    obtain ⟨c0, c1, c2, c3⟩ := HC.out _ HX.out
    clear hb HR
    go_wp2_with fail
    refine (HL.out _).mono ?_
    rintro e w2 ⟨rfl, hb⟩
    have HB2 := Lib.hid ((HB0.out.trans (HX.out.mono (by omega))).trans (hb.mono (by have := HX.out.size; have := HB0.out.size; omega)))
    clear hb HL HX c0 c1 c2 c3 HC
    go_wp2_with fail
    refine (HZ.out _).mono ?_
    rintro e w3 ⟨rfl, hb⟩
    have HB3 := Lib.hid (HB2.out.trans (hb.mono HB2.out.size))
    clear hb HZ HB2
    go_wp2_with fail
    refine (HST.out _ HB3.out).mono ?_
    rintro e w4 ⟨rfl, hpp⟩
    have HF := Lib.hid (pp_below HB3.out hpp)
    clear hpp HST
    go_wp2
    go_ret
    exact ⟨rfl, HF.out⟩
  · rw [show clearP N F C U S = (12, S) from if_neg ho]
    rw [decide_eq_false ho] at hr
    have HR := Lib.hid hr
    clear hr ho
    unfold geo
    go_enter Tryz.func25, Tryz.ntmps25
    go_wp2_with fail
    refine (HR.out _).mono ?_
    rintro e w1 ⟨rfl, hb⟩
    have HB := Lib.hid (HB0.out.trans (hb.mono HB0.out.size))
    clear hb HR
    go_wp2
    go_ret
    exact ⟨rfl, pp_after HH.out HB.out⟩

set_option maxRecDepth 20000 in
set_option maxHeartbeats 2000000 in
theorem rclear_any (B p : Nat) (v1 v2 : Value) (S : DS) (N F C U : Int) (w : World) (h : RD w B p v1 v2 S) (hB : B ≤ w.heap.size) (M : Nat) (hok : S.ok M) (hM : M + 1 ≤ 1000000) :
    Calls Tryz.prog 46 #[.pointer (some ⟨p, 0, none⟩), geo N F C U] w fun e w' => e = .returned (.int .i64 (clearP N F C U S).1) ∧ RP w B p v1 v2 (clearP N F C U S).2 w' := by
  have hr := fun w => grright_any N F C U w
  have hB0 : Below w.heap.size w (w.alloc (.cells #[.int .i64 N, .int .i64 F, .int .i64 C, .int .i64 U] 23)) := (Below.refl _ w).alloc (Nat.le_refl _) _
  unfold geo at hr
  have HH := Lib.hid h
  have HB0 := Lib.hid hB0
  clear h hB0
  by_cases ho : okG N F C U
  · rw [show clearP N F C U S = storeP S (areaAt N F C U 1 0) (secOf 0) from if_pos ho]
    rw [decide_eq_true ho] at hr
    have HR := Lib.hid hr
    have hl := fun w => rarea2_any N F C U 1 0 w
    obtain ⟨A1, hA1⟩ : ∃ A, A = areaAt N F C U 1 0 := ⟨_, rfl⟩
    rw [← hA1]
    simp only [← hA1] at hl
    have hz := fun w => rzero_any w
    have hst := fun w' (hb : Below w.heap.size w w') => rwrite_any B p v1 v2 S A1 (secOf 0) w' (HH.out.below hb) (Nat.le_trans hB hb.size) M hok (by omega)
    have hwo := hok.write A1 (secOf 0)
    unfold storeP
    obtain ⟨R, T, hRT⟩ : ∃ r T, S.write A1 (secOf 0) = (r, T) := ⟨_, _, rfl⟩
    rw [hRT] at hst hwo ⊢
    dsimp only at hst hwo ⊢
    obtain ⟨Z, hZ⟩ : ∃ Z : ByteArray, Z = secOf 0 := ⟨_, rfl⟩
    simp only [← hZ] at hz hst
    unfold geo at hl
    have HL := Lib.hid hl
    have HZ := Lib.hid hz
    have HST := Lib.hid hst
    have HC := Lib.hid (gb_cells w N F C U)
    unfold gbox at HC
    clear hl hz hst hRT hA1 hZ hr ho
    by_cases hR0 : R = 0
    · subst hR0
      rw [if_neg (by simp)]
      have hfl := fun w3 a b (h3 : RD w3 B p a b T) (hB3 : B ≤ w3.heap.size) => rflush_any B p a b T w3 h3 hB3 (M + 1) hwo hM
      obtain ⟨r2, T2, hT2⟩ : ∃ r T', T.flush = (r, T') := ⟨_, _, rfl⟩
      rw [hT2] at hfl ⊢
      dsimp only at hfl ⊢
      have HFL := Lib.hid hfl
      clear hfl hT2 hwo
      unfold geo
      go_enter Tryz.func46, Tryz.ntmps46
      go_wp2_with fail
      refine (HR.out _).mono ?_
      rintro e w1 ⟨rfl, hb⟩
      have HX := Lib.hid (show Below (w.heap.size + 1) (w.alloc (.cells #[.int .i64 N, .int .i64 F, .int .i64 C, .int .i64 U] 23)) w1 from hb.mono (by simp))
      obtain ⟨c0, c1, c2, c3⟩ := HC.out _ HX.out
      clear hb HR
      go_wp2_with fail
      refine (HL.out _).mono ?_
      rintro e w2 ⟨rfl, hb⟩
      have HB2 := Lib.hid ((HB0.out.trans (HX.out.mono (by omega))).trans (hb.mono (by have := HX.out.size; have := HB0.out.size; omega)))
      clear hb HL HX c0 c1 c2 c3 HC
      go_wp2_with fail
      refine (HZ.out _).mono ?_
      rintro e w3 ⟨rfl, hb⟩
      have HB3 := Lib.hid (HB2.out.trans (hb.mono HB2.out.size))
      clear hb HZ HB2
      go_wp2_with fail
      refine (HST.out _ HB3.out).mono ?_
      rintro e w4 ⟨rfl, hpp⟩
      have hpp2 := rp_below HB3.out hpp
      have HPP := Lib.hid hpp2
      obtain ⟨a, b, hp3, hf3, ht3⟩ := hpp2
      clear hpp HST
      go_wp2_with fail
      refine (HFL.out _ a b hp3 (Nat.le_trans hB hf3.size)).mono ?_
      rintro e w5 ⟨rfl, hpp⟩
      have HF := Lib.hid (show RP w B p v1 v2 T2 w5 from by
        obtain ⟨a2, b2, hp4, hf4, ht4⟩ := hpp
        exact ⟨a2, b2, hp4, hf3.trans hf4 (fun i hi => ht3 i hi), fun i hi => (ht4 i hi).elim (ht3 i) (fun h => .inr (Nat.le_trans hf3.size h))⟩)
      clear hpp HFL hp3 hf3 ht3 HPP
      go_wp2
      go_ret
      exact ⟨rfl, HF.out⟩
    · have hr2 : (R == 0) = false := by simpa using hR0
      have hr3 : (R != 0) = true := by simp [hR0]
      rw [if_pos hR0]
      dsimp only
      clear hR0 hwo
      unfold geo
      go_enter Tryz.func46, Tryz.ntmps46
      go_wp2_with fail
      refine (HR.out _).mono ?_
      rintro e w1 ⟨rfl, hb⟩
      have HX := Lib.hid (show Below (w.heap.size + 1) (w.alloc (.cells #[.int .i64 N, .int .i64 F, .int .i64 C, .int .i64 U] 23)) w1 from hb.mono (by simp))
      obtain ⟨c0, c1, c2, c3⟩ := HC.out _ HX.out
      clear hb HR
      go_wp2_with fail
      refine (HL.out _).mono ?_
      rintro e w2 ⟨rfl, hb⟩
      have HB2 := Lib.hid ((HB0.out.trans (HX.out.mono (by omega))).trans (hb.mono (by have := HX.out.size; have := HB0.out.size; omega)))
      clear hb HL HX c0 c1 c2 c3 HC
      go_wp2_with fail
      refine (HZ.out _).mono ?_
      rintro e w3 ⟨rfl, hb⟩
      have HB3 := Lib.hid (HB2.out.trans (hb.mono HB2.out.size))
      clear hb HZ HB2
      go_wp2_with fail
      refine (HST.out _ HB3.out).mono ?_
      rintro e w4 ⟨rfl, hpp⟩
      have HPP := Lib.hid (rp_below HB3.out hpp)
      clear hpp HST
      go_wp2
      go_ret
      exact ⟨rfl, HPP.out⟩
  · rw [show clearP N F C U S = (12, S) from if_neg ho]
    rw [decide_eq_false ho] at hr
    have HR := Lib.hid hr
    clear hr ho
    unfold geo
    go_enter Tryz.func46, Tryz.ntmps46
    go_wp2_with fail
    refine (HR.out _).mono ?_
    rintro e w1 ⟨rfl, hb⟩
    have HB := Lib.hid (HB0.out.trans (hb.mono HB0.out.size))
    clear hb HR
    go_wp2
    go_ret
    exact ⟨rfl, rp_after HH.out HB.out⟩
end Go.Proofs.YtjohgagiccndpaaGreatDoor
/-
  Entries from the last on: the iterator of slices.Backward; the program's Back.
-/
namespace Go.Proofs.YtjohgagiccndpaaGreatDoor
open Go.RowKit
set_option linter.unusedVariables false
set_option linter.unusedSimpArgs false

def encB (x : Nat × En) : Array Value := #[.int .i64 (x.1 : Int), x.2.val]
/-- The last k, from the last one on. -/
def upE (X : List En) (k : Nat) : List (Nat × En) := (List.range k).map fun j => (X.length - 1 - j, eAt X (X.length - 1 - j))
theorem upE_succ (X k) : upE X (k + 1) = upE X k ++ [(X.length - 1 - k, eAt X (X.length - 1 - k))] := by
  unfold upE; rw [List.range_succ, List.map_append]; rfl
theorem upE_length (X k) : (upE X k).length = k := by simp [upE]

/-- What the iterator's rounds leave as it is: its box, and the entries. -/
def KpB (Bn : Nat) (a : Option Addr) (W W' : World) : Prop := W.heap.size ≤ W'.heap.size ∧ (Bn < W.heap.size → W'.heap[Bn]? = W.heap[Bn]?) ∧ ∀ b off, a = some ⟨b, off, none⟩ → b < W.heap.size → W'.heap[b]? = W.heap[b]?
theorem KpB.trans {Bn : Nat} {a : Option Addr} {A B C : World} (h : KpB Bn a A B) (k : KpB Bn a B C) : KpB Bn a A C :=
  ⟨Nat.le_trans h.1 k.1, fun hl => (k.2.1 (Nat.lt_of_lt_of_le hl h.1)).trans (h.2.1 hl), fun b off e hl => (k.2.2 b off e (Nat.lt_of_lt_of_le hl h.1)).trans (h.2.2 b off e hl)⟩
/-- The iterator's box, and the entries. -/
structure PendB (W : World) (Bn : Nat) (a aK : Option Addr) (n c : Nat) (X : List En) : Prop where
  box : W.heap[Bn]? = some (.cells #[.slice a n c] 53 (0, 0))
  es : Es W a n c X
  few : n ≤ 1000000
  ak : 0 < n → aK = a
theorem PendB.kp {W W' : World} {Bn : Nat} {a aK : Option Addr} {n c : Nat} {X : List En} (h : PendB W Bn a aK n c X) (hk : KpB Bn aK W W') : PendB W' Bn a aK n c X :=
  ⟨(hk.2.1 (lt_of_block h.box)).trans h.box, h.es.kept hk.1 fun b off e h0 hl => hk.2.2 b off ((h.ak h0).trans e) hl, h.few, h.ak⟩
theorem PendB.later {W W' : World} {Bn : Nat} {a aK : Option Addr} {n c : Nat} {X : List En} (h : PendB W Bn a aK n c X) (hb : Below W.heap.size W W') : PendB W' Bn a aK n c X :=
  ⟨(hb.block _ (lt_of_block h.box)).trans h.box, h.es.later hb, h.few, h.ak⟩

set_option maxRecDepth 100000 in
set_option maxHeartbeats 4000000 in
theorem backward1_in (F : Fence) (n : Nat) (h6 : F.fn 105) (hro : F.round = none) (hn : 1 ≤ n) (l Bn : Nat) (a aK : Option Addr) (m c : Nat) (X : List En) (J Jx : List (Nat × En) → World → Prop)
    (hY : ∀ pre x W, J pre W → pre.length < X.length → YieldAt F (n - 1) Tryz.prog l (encB x) W fun e W' =>
      (e = .returned (.bool true) ∧ J (pre ++ [x]) W' ∧ KpB Bn aK W W') ∨ (e = .returned (.bool false) ∧ Jx (pre ++ [x]) W'))
    (W : World) (hP : PendB W Bn a aK m c X) (h0 : J [] W) :
    CallsIn F n Tryz.prog 105 #[.func (.yield l) #[] #[], .pointer (some ⟨Bn, 0, none⟩)] W fun e W' => (∃ v, e = .returned v) ∧
      ((∃ ys, ys = upE X X.length ∧ J ys W') ∨ (∃ pre, (∃ k, k ≤ X.length ∧ pre = upE X k) ∧ Jx pre W')) := by
  refine callsIn_of_wp Tryz.func105 rfl h6 ?_ hro
  simp only [Tryz.ntmps105, List.size_toArray, List.length_cons, List.length_nil, Nat.reduceAdd, Nat.reduceSub, Array.replicate_succ, Array.replicate_zero, List.push_toArray, List.append_toArray, List.nil_append, List.cons_append]
  have hln := hP.es.len
  have hfw := hP.few
  have hb : W.cell? ⟨Bn, 0, none⟩ = some (.slice a m c) := by rw [cell_of_blk hP.box]; rfl
  subst hln
  have HP := Lib.hid hP
  clear hP
  gi_wp2
  clear hb
  gi_loopw [3] (fun i wr => ∃ k : Nat, k ≤ X.length ∧ i = .int .i64 ((X.length : Int) - 1 - (k : Int)) ∧ J (upE X k) wr ∧ PendB wr Bn a aK X.length c X) (fun i _ => (intOf i + 1).toNat)
  case atStart => exact ⟨0, by omega, by simp, h0, HP.out⟩
  case round =>
    obtain ⟨k, hk, rfl, hJ, hP⟩ := hrel
    by_cases hlt : k < X.length
    · obtain ⟨m, hm⟩ : ∃ m : Nat, m = X.length - 1 - k := ⟨_, rfl⟩
      have hml : m < X.length := by omega
      have e0 : (X.length : Int) - 1 - (k : Int) = (m : Int) := by omega
      rw [e0]
      have i1 : (0 : Int) ≤ (m : Int) := by omega
      have i2 : (m : Int) < (X.length : Int) := by omega
      obtain ⟨g, off, rfl, hg, hc⟩ := hP.es.at0 (by omega)
      obtain ⟨c0, c1, c2, c3⟩ := hc m hml
      have hb : wr.cell? ⟨Bn, 0, none⟩ = some (.slice (some ⟨g, off, none⟩) X.length c) := by rw [cell_of_blk hP.box]; rfl
      have hcm : (c : Int) ≤ 9223372036854775807 := by have := hP.es.cm; unfold maxLen at this; omega
      have hbig := hP.es.le
      obtain ⟨fn, tmps, assign, body, hy, hR⟩ := hY (upE X k) (m, eAt X m) wr hJ (by rw [upE_length]; exact hlt)
      have hup : upE X k ++ [(m, eAt X m)] = upE X (k + 1) := by rw [upE_succ, hm]
      rw [hup] at hR
      have HR := Lib.hid hR
      have HP := Lib.hid hP
      have HM := Lib.hid hm
      unfold encB En.val at hy
      dsimp only at hy
      clear hR hJ hc hP hm hup e0
      generalize ((eAt X m).tag : Int) = x1 at *
      generalize ((eAt X m).epoch : Int) = x2 at *
      generalize (eAt X m).place = x3 at *
      generalize (eAt X m).old = x4 at *
      gi_wp2
      refine HR.out.mono ?_
      rintro e W3 (⟨rfl, hJ3, hk3⟩ | ⟨rfl, hJx3⟩)
      · have hP3 := HP.out.kp hk3
        have HP3 := Lib.hid hP3
        clear hP3 hk3 hy
        gi_wp2
        go_roundw
        case rel => exact ⟨k + 1, by omega, by have := HM.out; go_num, hJ3, HP3.out⟩
        case measure => simp [intOf]
      · gi_wp2
        refine bodyPost_ret (results_none rfl _ _ _) rfl ?_
        exact ⟨⟨_, rfl⟩, .inr ⟨_, ⟨k + 1, by omega, rfl⟩, hJx3⟩⟩
    · obtain rfl : k = X.length := by omega
      have e0 : (X.length : Int) - 1 - (X.length : Int) = -1 := by omega
      rw [e0]
      gi_wp2
      go_end0
      exact ⟨⟨_, rfl⟩, .inl ⟨_, rfl, hJ⟩⟩

set_option maxHeartbeats 1000000 in
theorem backward_in (F : Fence) (n : Nat) (h5 : F.fn 68) (hro : F.round = none) (a : Option Addr) (m c : Nat) (w : World) :
    CallsIn F n Tryz.prog 68 #[.slice a m c] w fun e w' => e = .returned (.func (.func 105) #[] #[.pointer (some ⟨w.heap.size, 0, none⟩)]) ∧ w' = w.alloc (.cells #[.slice a m c] 53) := by
  refine callsIn_of_wp Tryz.func68 rfl h5 ?_ hro
  simp only [Tryz.ntmps68, List.size_toArray, List.length_cons, List.length_nil, Nat.reduceAdd, Nat.reduceSub, Array.replicate_succ, Array.replicate_zero, List.push_toArray, List.append_toArray, List.nil_append, List.cons_append]
  gi_wp2
  go_ret
  exact ⟨rfl, rfl⟩

theorem backward_stops (F : Fence) (n : Nat) (h6 : F.fn 105) (hro : F.round = none) (hn : 1 ≤ n) (Bn : Nat) (a aK : Option Addr) (m c : Nat) (X : List En) (w : World) (hP : PendB w Bn a aK m c X) :
    SeqStopsK F n Tryz.prog 105 #[.pointer (some ⟨Bn, 0, none⟩)] encB (KpB Bn aK) (fun ys => ys = upE X X.length) (fun pre => ∃ k, k ≤ X.length ∧ pre = upE X k) X.length w := fun l J Jx W hW _ _ hY h0 =>
  backward1_in F n h6 hro hn l Bn a aK m c X J Jx hY W (hP.later hW) h0
end Go.Proofs.YtjohgagiccndpaaGreatDoor

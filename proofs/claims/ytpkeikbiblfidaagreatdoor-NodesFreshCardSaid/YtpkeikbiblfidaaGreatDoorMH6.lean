/-
  Texts put together: H6, H7, H8.
-/
import Derived.Test.YtpkeikbiblfidaaGreatDoorMH
import Derived.Test.YtpkeikbiblfidaaGreatDoorMU
import Derived.Deep.RegionHeld3
import Derived.Deep.DeepCutAuto
/-
  Rounds that may stop with an error; what is marked, by parents and by paths; what Rehash comes to.
-/
namespace Go.Proofs.YtpkeikbiblfidaaGreatDoor
open Go.RowKit
set_option linter.unusedVariables false
set_option linter.unusedSimpArgs false

/-- Rounds, up to the first that has an error. -/
def runE {σ : Type} (f : Nat → σ → σ × Int) (s : σ) : Nat → σ × Int
  | 0 => (s, 0)
  | k + 1 => if (runE f s k).2 ≠ 0 then runE f s k else f k (runE f s k).1
theorem runE_next {σ : Type} {f : Nat → σ → σ × Int} {s t : σ} {k : Nat} (h : runE f s k = (t, 0)) : runE f s (k + 1) = f k t := by
  show (if (runE f s k).2 ≠ 0 then runE f s k else f k (runE f s k).1) = f k t
  rw [h]; simp
theorem runE_stop {σ : Type} {f : Nat → σ → σ × Int} {s : σ} {k : Nat} (h : (runE f s k).2 ≠ 0) : ∀ {n : Nat}, k ≤ n → runE f s n = runE f s k
  | 0, hn => by obtain rfl : k = 0 := by omega
                rfl
  | n + 1, hn => by
    rcases Nat.lt_or_ge n k with h1 | h1
    · obtain rfl : k = n + 1 := by omega
      rfl
    · have ih := runE_stop h h1
      show (if (runE f s n).2 ≠ 0 then runE f s n else f n (runE f s n).1) = _
      rw [ih, if_pos h]
theorem runE_err {σ : Type} {f : Nat → σ → σ × Int} {s t u : σ} {k n : Nat} {e : Int} (h : runE f s k = (t, 0)) (he : f k t = (u, e)) (h0 : e ≠ 0) (hn : k < n) : runE f s n = (u, e) := by
  have h1 : runE f s (k + 1) = (u, e) := (runE_next h).trans he
  rw [runE_stop (k := k + 1) (by rw [h1]; exact h0) hn, h1]
/-- What holds of all that comes of rounds. -/
theorem runE_inv {σ : Type} {f : Nat → σ → σ × Int} {s : σ} (P : Nat → σ → Prop) (h0 : P 0 s) (hs : ∀ k t, P k t → P (k + 1) (f k t).1) (hm : ∀ k t, P k t → P (k + 1) t) : ∀ n, P n (runE f s n).1
  | 0 => h0
  | n + 1 => by
    have ih := runE_inv P h0 hs hm n
    show P (n + 1) (if (runE f s n).2 ≠ 0 then runE f s n else f n (runE f s n).1).1
    split
    · exact hm _ _ ih
    · exact hs _ _ ih

/-- The digests of nodes that are not marked, as they are read. -/
def othF (m : Nat → Bool) (get : Nat → List UInt8 × Int) (k : Nat) (L : List ByteArray) : List ByteArray × Int :=
  if m k = true then (L, 0) else if (get k).2 ≠ 0 then (L, (get k).2) else (L.set k ⟨(get k).1.toArray⟩, 0)
/-- Those of the nodes that are, reckoned anew. -/
def cmpF (N F C U : Int) (m : Nat → Bool) (D : DS) (k : Nat) (L : List ByteArray) : List ByteArray × Int :=
  if m k = false then (L, 0) else if (k : Int) < N then (if (D.read (dataAt N F C U k)).2 ≠ 0 then (L, (D.read (dataAt N F C U k)).2) else (L.set k (leafB (D.read (dataAt N F C U k)).1), 0)) else (L.set k (nodeB (kids L (children N F C U k))), 0)
/-- They are written. -/
def savF (N F C U : Int) (m : Nat → Bool) (L : List ByteArray) (k : Nat) (D : DS) : DS × Int :=
  if m k = false then (D, 0) else ((putNP N F C U D k (lAt L k)).2, (putNP N F C U D k (lAt L k)).1)

def othL (N F C U : Int) (m : Nat → Bool) (D : DS) (k : Nat) : List ByteArray × Int := runE (othF m fun j => getP N F C U D j) (List.replicate (nodes N F C U) noBytes) k
def cmpL (N F C U : Int) (m : Nat → Bool) (D : DS) (L : List ByteArray) (k : Nat) : List ByteArray × Int := runE (cmpF N F C U m D) L k
def savL (N F C U : Int) (m : Nat → Bool) (L : List ByteArray) (D : DS) (k : Nat) : DS × Int := runE (savF N F C U m L) D k

/-- Digests are of 32 bytes, or nothing. -/
def few32 (n : Nat) (L : List ByteArray) : Prop := L.length = n ∧ ∀ i, (lAt L i).size ≤ 32
theorem few32_set {n : Nat} {L : List ByteArray} (h : few32 n L) (k : Nat) {s : ByteArray} (hs : s.size ≤ 32) : few32 n (L.set k s) := by
  refine ⟨by rw [List.length_set]; exact h.1, fun i => ?_⟩
  have := h.2 i
  unfold lAt at this ⊢
  rw [List.getElem?_set]
  split
  · split
    · exact hs
    · exact Nat.zero_le _
  · exact this
theorem few32_new (n : Nat) : few32 n (List.replicate n noBytes) := by
  refine ⟨List.length_replicate, fun i => ?_⟩
  unfold lAt
  rw [List.getElem?_replicate]
  split <;> exact Nat.zero_le _
theorem hleafB_size (s : ByteArray) : (leafB s).size = 32 := dig_length _
theorem hnodeB_size (K : List ByteArray) : (nodeB K).size = 32 := dig_length _
theorem getP_small (N F C U : Int) (D : DS) (node : Int) : (getP N F C U D node).1.length ≤ 32 := by
  unfold getP
  split
  · exact Nat.zero_le _
  · split
    · exact Nat.zero_le _
    · unfold getB
      split
      · exact Nat.zero_le _
      · split
        · rename_i h; exact Nat.le_of_eq h.1
        · exact Nat.zero_le _
theorem othF_small {n : Nat} {m : Nat → Bool} {N F C U : Int} {D : DS} (k : Nat) {L : List ByteArray} (h : few32 n L) : few32 n (othF m (fun j => getP N F C U D j) k L).1 := by
  unfold othF
  split
  · exact h
  · split
    · exact h
    · exact few32_set h k (by show (List.toArray _).size ≤ 32; rw [List.size_toArray]; exact getP_small _ _ _ _ _ _)
theorem othL_small (N F C U : Int) (m : Nat → Bool) (D : DS) (k : Nat) : few32 (nodes N F C U) (othL N F C U m D k).1 :=
  runE_inv (fun _ L => few32 (nodes N F C U) L) (few32_new _) (fun k t h => othF_small k h) (fun _ _ h => h) k
theorem cmpF_small {n : Nat} {m : Nat → Bool} {N F C U : Int} {D : DS} (k : Nat) {L : List ByteArray} (h : few32 n L) : few32 n (cmpF N F C U m D k L).1 := by
  unfold cmpF
  split
  · exact h
  · split
    · split
      · exact h
      · exact few32_set h k (Nat.le_of_eq (hleafB_size _))
    · exact few32_set h k (Nat.le_of_eq (hnodeB_size _))
theorem cmpL_small {n : Nat} (N F C U : Int) (m : Nat → Bool) (D : DS) {L : List ByteArray} (h : few32 n L) (k : Nat) : few32 n (cmpL N F C U m D L k).1 :=
  runE_inv (fun _ L => few32 n L) h (fun k t h => cmpF_small k h) (fun _ _ h => h) k

theorem putNP_ok {D : DS} {M : Nat} (h : D.ok M) (N F C U node : Int) (s : ByteArray) : (putNP N F C U D node s).2.ok (M + 1) := by
  unfold putNP
  split
  · exact h.mono (by omega)
  · split
    · exact h.mono (by omega)
    · exact h.write _ _
theorem savL_ok {D : DS} {M : Nat} (h : D.ok M) (N F C U : Int) (m : Nat → Bool) (L : List ByteArray) (k : Nat) : (savL N F C U m L D k).1.ok (M + k) :=
  runE_inv (fun j (T : DS) => T.ok (M + j)) h (fun j t h => by
    unfold savF
    split
    · exact h.mono (by omega)
    · exact putNP_ok h _ _ _ _ _ _) (fun j t h => h.mono (by omega)) k

/-! ### marks -/
/-- The first i of some leaves. -/
def leafM (l : List Int) (i : Nat) : Nat → Bool := fun k => (l.take i).any fun x => decide (x = (k : Int))
theorem leafM_next {l : List Int} {i : Nat} (h : i < l.length) (k : Nat) : leafM l (i + 1) k = (leafM l i k || decide (l[i]?.getD 0 = (k : Int))) := by
  unfold leafM
  rw [List.take_add_one, List.any_append, List.getElem?_eq_getElem h]
  simp
def prN (N F C U : Int) (k : Nat) : Nat := (parent N F C U k).toNat
/-- What the program marks. -/
def markP (N F C U : Int) (l : List Int) : Nat → Bool := mkN (prN N F C U) (leafM l l.length) (nodes N F C U - 1)
/-- What the document marks: the nodes of the first i leaves' paths. -/
def docM (N F C U : Int) (l : List Int) (i : Nat) : Nat → Bool := fun k => (l.take i).any fun x => (path N F C U x).any fun y => decide (y = (k : Int))

theorem top_root {n f : Nat} {C U : Int} (h : Ok n f) (hok : okG n f C U) : nodes n f C U - 1 = S n f (H n f) ∧ nodes n f C U = S n f (H n f) + 1 := by
  have e : nodes n f C U = S n f (H n f + 1) := by unfold nodes; rw [if_pos hok]; simp
  have e2 : S n f (H n f + 1) = S n f (H n f) + q n f (H n f) := rfl
  rw [(H_spec h).2.1] at e2
  omega
theorem mem_path {n f x : Nat} {C U : Int} (hok : okG n f C U) (hx : x < n) (k : Int) : k ∈ path n f C U x ↔ ∃ j, j ≤ H n f ∧ k = (pth n f x j : Int) := by
  unfold path
  rw [if_pos ⟨hok, by omega, by omega⟩]
  simp only [Int.toNat_natCast, List.mem_map, List.mem_range]
  constructor
  · rintro ⟨j, hj, rfl⟩; exact ⟨j, by omega, rfl⟩
  · rintro ⟨j, hj, rfl⟩; exact ⟨j, by omega, rfl⟩

theorem marks_same {N F C U : Int} (hok : okG N F C U) {l : List Int} (hl : ∀ x ∈ l, 0 ≤ x ∧ x < N) (k : Nat) : markP N F C U l k = docM N F C U l l.length k := by
  obtain ⟨n, f, rfl, rfl, ho⟩ := ok_of hok
  obtain ⟨hr, _⟩ := top_root ho hok
  rw [Bool.eq_iff_iff]
  have hd : docM n f C U l l.length k = true ↔ ∃ x ∈ l, (k : Int) ∈ path n f C U x := by
    unfold docM
    rw [List.take_length, List.any_eq_true]
    constructor
    · rintro ⟨x, hx, h⟩
      rw [List.any_eq_true] at h
      obtain ⟨y, hy, e⟩ := h
      exact ⟨x, hx, by rw [← of_decide_eq_true e]; exact hy⟩
    · rintro ⟨x, hx, h⟩
      exact ⟨x, hx, by rw [List.any_eq_true]; exact ⟨_, h, by simp⟩⟩
  rw [hd]
  unfold markP
  rw [hr]
  constructor
  · intro hm
    have := mkN_sound (pr := prN n f C U) (m := leafM l l.length) (Q := fun k => ∃ x ∈ l, (k : Int) ∈ path n f C U x) (r := S n f (H n f)) (fun k hk => by
      unfold leafM at hk
      rw [List.take_length, List.any_eq_true] at hk
      obtain ⟨x, hx, e⟩ := hk
      have e := of_decide_eq_true e
      obtain ⟨h1, h2⟩ := hl x hx
      refine ⟨x, hx, ?_⟩
      subst e
      rw [mem_path hok (by omega)]
      exact ⟨0, Nat.zero_le _, rfl⟩) (fun k hk ⟨x, hx, h⟩ => by
      refine ⟨x, hx, ?_⟩
      obtain ⟨h1, h2⟩ := hl x hx
      obtain ⟨y, rfl⟩ : ∃ y : Nat, x = y := ⟨x.toNat, by omega⟩
      rw [mem_path hok (by omega)] at h ⊢
      obtain ⟨j, hj, e⟩ := h
      have hp := pth_lt ho (show y < n by omega) j
      have hjH : j < H n f := by
        rcases Nat.lt_or_ge j (H n f) with h | h
        · exact h
        · obtain rfl : j = H n f := by omega
          omega
      have e2 := (parent_pth ho hok (show y < n by omega) hj).1
      refine ⟨j + 1, hjH, ?_⟩
      have e3 : pv n f y (j + 1) = (pth n f y (j + 1) : Int) := if_pos hjH
      unfold prN
      rw [e, e2, e3]
      simp) (S n f (H n f)) (Nat.le_refl _) k hm
    exact this
  · rintro ⟨x, hx, h⟩
    obtain ⟨h1, h2⟩ := hl x hx
    obtain ⟨y, rfl⟩ : ∃ y : Nat, x = y := ⟨x.toNat, by omega⟩
    rw [mem_path hok (by omega)] at h
    obtain ⟨j, hj, e⟩ := h
    have e : k = pth n f y j := by omega
    subst e
    refine mkN_full (P := pth n f y) (h := H n f) ?_ (fun i hi => ?_) j hj (S n f (H n f)) (fun j' e' => ?_)
    · unfold leafM
      rw [List.take_length, List.any_eq_true]
      exact ⟨_, hx, by simp [pth]⟩
    · have e2 := (parent_pth ho hok (show y < n by omega) (Nat.le_of_lt hi)).1
      have e3 : pv n f y (i + 1) = (pth n f y (i + 1) : Int) := if_pos hi
      refine ⟨?_, ?_⟩
      · unfold prN
        rw [e2, e3]
        simp
      · have a := pth_lt ho (show y < n by omega) i
        have b := pth_lt ho (show y < n by omega) (i + 1)
        omega
    · have a := pth_lt ho (show y < n by omega) j'
      have b := @S_mono n f (j' + 1) (H n f) (by omega)
      omega

/-- What comes of Rehash: its answer, and the disk. -/
def rehP (N F C U : Int) (D : DS) (l : List Int) : (List UInt8 × Int) × DS :=
  if ¬ okG N F C U then (([], 12), D) else
  if ¬ (∀ x ∈ l, 0 ≤ x ∧ x < N) then (([], 3), D) else
  if l = [] then (getP N F C U D ((nodes N F C U - 1 : Nat) : Int), D) else
  if (othL N F C U (markP N F C U l) D (nodes N F C U)).2 ≠ 0 then (([], (othL N F C U (markP N F C U l) D (nodes N F C U)).2), D) else
  if (cmpL N F C U (markP N F C U l) D (othL N F C U (markP N F C U l) D (nodes N F C U)).1 (nodes N F C U)).2 ≠ 0 then (([], (cmpL N F C U (markP N F C U l) D (othL N F C U (markP N F C U l) D (nodes N F C U)).1 (nodes N F C U)).2), D) else
  (fun L => if (savL N F C U (markP N F C U l) L D (nodes N F C U)).2 ≠ 0 then (([], (savL N F C U (markP N F C U l) L D (nodes N F C U)).2), (savL N F C U (markP N F C U l) L D (nodes N F C U)).1) else
  if (savL N F C U (markP N F C U l) L D (nodes N F C U)).1.flush.1 ≠ 0 then (([], (savL N F C U (markP N F C U l) L D (nodes N F C U)).1.flush.1), (savL N F C U (markP N F C U l) L D (nodes N F C U)).1.flush.2) else
  (((lAt L (nodes N F C U - 1)).data.toList, 0), (savL N F C U (markP N F C U l) L D (nodes N F C U)).1.flush.2)) (cmpL N F C U (markP N F C U l) D (othL N F C U (markP N F C U l) D (nodes N F C U)).1 (nodes N F C U)).1

/-- All leaves. -/
def everyL (N : Int) : List Int := (List.range N.toNat).map fun i : Nat => (i : Int)
def fullP (N F C U : Int) (D : DS) : (List UInt8 × Int) × DS := rehP N F C U D (everyL N)
/-- What comes of All. -/
def allP (N F C U : Int) (D : DS) : List ByteArray × Int :=
  if ¬ okG N F C U then ([], 12) else if (othL N F C U (fun _ => false) D (nodes N F C U)).2 ≠ 0 then ([], (othL N F C U (fun _ => false) D (nodes N F C U)).2) else ((othL N F C U (fun _ => false) D (nodes N F C U)).1, 0)
end Go.Proofs.YtpkeikbiblfidaaGreatDoor
/-
  mark: the program's.
-/
namespace Go.Proofs.YtpkeikbiblfidaaGreatDoor
open Go.RowKit
set_option linter.unusedVariables false
set_option linter.unusedSimpArgs false

theorem marksA_size (m : Nat → Bool) : (marksA m).size = 256 := by simp [marksA]
theorem marksA_one (m : Nat → Bool) : (marksA m).all (·.oneCell') = true :=
  Array.all_eq_true_iff_forall_mem.2 (fun v hv => by
    simp only [marksA, List.mem_toArray, List.mem_map] at hv
    obtain ⟨_, _, rfl⟩ := hv
    rfl)
theorem prN_lt {N F C U : Int} (hok : okG N F C U) {k : Nat} (hk : k < nodes N F C U - 1) : parent N F C U (k : Int) = (prN N F C U k : Int) ∧ prN N F C U k < nodes N F C U ∧ k < prN N F C U k := by
  obtain ⟨n, f, rfl, rfl, ho⟩ := ok_of hok
  obtain ⟨hr, hn⟩ := top_root ho hok
  rw [hr] at hk
  have hx : k < S n f (H n f + 1) := Nat.lt_of_lt_of_le hk (S_mono (Nat.le_succ _))
  obtain ⟨l1, l2, l3⟩ := lvl_spec hx
  have hlt : lvl n f k < H n f := by
    rcases Nat.lt_or_ge (lvl n f k) (H n f) with h | h
    · exact h
    · have e : lvl n f k = H n f := by omega
      rw [e] at l2; omega
  have e1 : parent n f C U (k : Int) = par n f k := by unfold parent; rw [if_pos ⟨hok, by omega, by simpa using hx⟩]; simp
  have e2 := par_at hlt l2 l3
  obtain ⟨b1, b2⟩ := par_lt ho l2 l3
  have b3 := @S_mono n f (lvl n f k + 2) (H n f + 1) (by omega)
  have b4 : nodes n f C U = S n f (H n f + 1) := by unfold nodes; rw [if_pos hok]; simp
  unfold prN
  rw [e1, e2]
  simp only [Int.toNat_natCast]
  exact ⟨by trivial, by omega, by omega⟩

/-- The box of an array of truths. -/
def MB (w : World) (g : Nat) (m : Nat → Bool) : Prop := w.heap[g]? = some (.cells (marksA m) 106 (0, 0))
theorem MB.at {w : World} {g : Nat} {m : Nat → Bool} (h : MB w g m) (i : Nat) (hi : i < 256) : w.cell? ⟨g, i, none⟩ = some (.bool (m i)) := by
  rw [cell_of_blk h]; exact marksA_at m i hi
theorem MB.free {w : World} {g : Nat} {m : Nat → Bool} (h : MB w g m) (i : Nat) : w.frozen? ⟨g, i, none⟩ = false := free_of_blk h i
theorem MB.set {w : World} {g : Nat} {m : Nat → Bool} (h : MB w g m) (i : Nat) (hi : i < 256) (b : Bool) : MB (w.setCell ⟨g, i, none⟩ (.bool b)) g (fun k => if k = i then b else m k) := by
  unfold MB at *
  rw [blk_setCell h, marksA_set m i hi]
theorem MB.kept {w w' : World} {g : Nat} {m : Nat → Bool} (h : MB w g m) (hk : w'.heap[g]? = w.heap[g]?) : MB w' g m := hk.trans h
theorem MB.lt {w : World} {g : Nat} {m : Nat → Bool} (h : MB w g m) : g < w.heap.size := lt_of_block h
theorem MB.below {w w' : World} {g : Nat} {m : Nat → Bool} (h : MB w g m) (hb : Below w.heap.size w w') : MB w' g m := h.kept (hb.block g h.lt)
theorem MB.congr {w : World} {g : Nat} {m m' : Nat → Bool} (h : MB w g m) (e : ∀ k, m k = m' k) : MB w g m' := by
  obtain rfl : m = m' := funext e
  exact h

theorem zero_mk (w : World) : (zeroValue 106).run Tryz.prog w = .ok (.agg (marksA fun _ => false)) w := by
  have := (zero_of_info (P := Tryz.prog) (t := 106) (v := .agg (marksA fun _ => false)) (n := 256) (by kernel_rfl)).1 w
  exact this

/-- The results of a function whose first result is an array in a cell, and whose second is a slot. -/
theorem results_row_tmp {P : Program} {fn : Func} {p u : Tmp} {ty : TypeId} (h : fn.results = #[.cell p ty, .tmp u]) (tmps : Array Value) (w : World) (g : Nat) (t : TypeId) (cs : Array Value) (fr : Nat × Nat) (d : TypeDesc)
    (hp : tmps.getD p undef = .pointer (some ⟨g, 0, none⟩)) (hg : w.heap[g]? = some (.cells cs t fr))
    (hu : P.underlying ty = some d) (hd : (match d with | .struct _ | .array _ _ => true | _ => false) = true) (hi : (P.info? ty).map (·.size) = some cs.size) :
    (results fn tmps).run P w = .ok (.tuple #[.agg cs, tmps.getD u undef]) w := by
  have hp' : tmps[p]?.getD undef = .pointer (some ⟨g, 0, none⟩) := by simpa using hp
  simp [results, h, hp', asAddr, run_loadVar_row w g t ty cs fr d hg hu hd hi]

theorem hset_ne {w : World} {p g j : Nat} {o : Obj} {u : Value} (h : w.heap[p]? = some o) (hne : g ≠ p) : (w.setCell ⟨g, j, none⟩ u).heap[p]? = some o :=
  (show (w.setCell ⟨g, j, none⟩ u).heap[p]? = w.heap[p]? by simp [World.setCell, Array.getElem?_modify]; intro e; exact absurd e hne).trans h

/-- Memory while mark runs: its geometry, the array of its result, and the array that it fills. -/
structure MS (w wr : World) (N F C U : Int) (Z : Array Value) (m : Nat → Bool) : Prop where
  geo : wr.heap[w.heap.size]? = some (.cells #[.int .i64 N, .int .i64 F, .int .i64 C, .int .i64 U] 23 (0, 0))
  res : wr.heap[w.heap.size + 1]? = some (.cells Z 106 (0, 0))
  box : MB wr (w.heap.size + 1 + 1) m
  bel : Below w.heap.size w wr
theorem MS.set {w wr : World} {N F C U : Int} {Z : Array Value} {m : Nat → Bool} (h : MS w wr N F C U Z m) (i : Nat) (hi : i < 256) (m' : Nat → Bool) (e : ∀ k, (if k = i then true else m k) = m' k) : MS w (wr.setCell ⟨w.heap.size + 1 + 1, i, none⟩ (.bool true)) N F C U Z m' :=
  ⟨hset_ne h.geo (by omega), hset_ne h.res (by omega), (h.box.set i hi true).congr e, h.bel.setCell (p := ⟨w.heap.size + 1 + 1, i, none⟩) (by show _ ≤ w.heap.size + 1 + 1; omega) _⟩
theorem MS.below {w wr wr' : World} {N F C U : Int} {Z : Array Value} {m : Nat → Bool} (h : MS w wr N F C U Z m) (hb : Below wr.heap.size wr wr') : MS w wr' N F C U Z m :=
  ⟨(hb.block _ (lt_of_block h.geo)).trans h.geo, (hb.block _ (lt_of_block h.res)).trans h.res, h.box.below hb, h.bel.trans (hb.mono h.bel.size)⟩
theorem MS.cells {w wr : World} {N F C U : Int} {Z : Array Value} {m : Nat → Bool} (h : MS w wr N F C U Z m) : wr.cell? ⟨w.heap.size, 0, none⟩ = some (.int .i64 N) ∧ wr.cell? ⟨w.heap.size, 1, none⟩ = some (.int .i64 F) ∧ wr.cell? ⟨w.heap.size, 2, none⟩ = some (.int .i64 C) ∧ wr.cell? ⟨w.heap.size, 3, none⟩ = some (.int .i64 U) := by
  refine ⟨?_, ?_, ?_, ?_⟩ <;> (rw [cell_of_blk h.geo]; rfl)

/-- What comes of mark. -/
def markR (N F C U : Int) (xs : List Int) : (Nat → Bool) × Int := if (∀ x ∈ xs, 0 ≤ x ∧ x < N) then (markP N F C U xs, 0) else (fun _ => false, 3)

theorem in_next {N : Int} {xs : List Int} {k : Nat} (h : ∀ x ∈ xs.take k, 0 ≤ x ∧ x < N) (hk : k < xs.length) (h2 : 0 ≤ xs[k]?.getD 0 ∧ xs[k]?.getD 0 < N) : ∀ x ∈ xs.take (k + 1), 0 ≤ x ∧ x < N := fun x hx => by
  rw [List.take_add_one, List.mem_append] at hx
  rcases hx with hx | hx
  · exact h x hx
  · rw [List.getElem?_eq_getElem hk] at hx h2
    simp at hx
    rw [hx]
    simpa using h2
theorem in_not {N : Int} {xs : List Int} {k : Nat} (hk : k < xs.length) (h2 : ¬ (0 ≤ xs[k]?.getD 0 ∧ xs[k]?.getD 0 < N)) : ¬ ∀ x ∈ xs, 0 ≤ x ∧ x < N := fun h => by
  rw [List.getElem?_eq_getElem hk] at h2
  exact h2 (h _ (List.getElem_mem hk))
theorem mkN_next {pr : Nat → Nat} {m : Nat → Bool} {k j : Nat} : mkN pr m (k + 1) j = (mkN pr m k j || (mkN pr m k k && decide (j = pr k))) := rfl

set_option maxRecDepth 20000 in
set_option maxHeartbeats 4000000 in
theorem mark_any (N F C U : Int) (hok : okG N F C U) (a : Option Addr) (n c : Nat) (xs : List Int) (w : World) (h : Ri w a n c xs) :
    Calls Tryz.prog 70 #[geo N F C U, .slice a n c] w fun e w' => e = .returned (.tuple #[.agg (marksA (markR N F C U xs).1), .int .i64 (markR N F C U xs).2]) ∧ Below w.heap.size w w' := by
  have hN := hok
  obtain ⟨N1, N2, -⟩ := hN
  have hnl := nodes_le N F C U
  have hlen := h.len
  have hcc : (c : Int) ≤ 9223372036854775807 := by have := h.cm; unfold maxLen at this; omega
  have hnc : (n : Int) ≤ (c : Int) := by have := h.le; omega
  obtain ⟨Z, hZ⟩ : ∃ Z : Array Value, Z = marksA fun _ => false := ⟨_, rfl⟩
  have hz := zero_mk
  rw [← hZ] at hz
  have hzs : Z.size = 256 := by rw [hZ]; exact marksA_size _
  have hst : MS w (((w.alloc (.cells #[.int .i64 N, .int .i64 F, .int .i64 C, .int .i64 U] 23)).alloc (.cells Z 106)).alloc (.cells Z 106)) N F C U Z (leafM xs 0) := by
    have e1 : (w.alloc (.cells #[.int .i64 N, .int .i64 F, .int .i64 C, .int .i64 U] 23)).heap.size = w.heap.size + 1 := World.size_alloc _ _
    have e2 : ((w.alloc (.cells #[.int .i64 N, .int .i64 F, .int .i64 C, .int .i64 U] 23)).alloc (.cells Z 106)).heap.size = w.heap.size + 1 + 1 := by rw [World.size_alloc, e1]
    refine ⟨?_, ?_, ?_, (((Below.refl _ w).alloc (Nat.le_refl _) _).alloc (by omega) _).alloc (by omega) _⟩
    · rw [Below.heap_alloc _ _ _ (by omega), Below.heap_alloc _ _ _ (by omega)]; exact heap_alloc_new w _
    · rw [Below.heap_alloc _ _ _ (by omega), ← e1]; exact heap_alloc_new _ _
    · unfold MB
      rw [← e2, show marksA (leafM xs 0) = Z from by rw [hZ]; rfl]
      exact heap_alloc_new _ _
  have HST := Lib.hid hst
  have HZZ := Lib.hid hZ
  have HZ := Lib.hid hzs
  have HRI := Lib.hid h
  have HOK := Lib.hid hok
  have HNL := Lib.hid hnl
  have HLEN := Lib.hid hlen
  have HN12 := Lib.hid (And.intro N1 N2)
  clear hzs hZ hst h hok hnl hlen N1 N2
  unfold geo
  go_enter Tryz.func70, Tryz.ntmps70
  go_wp2
  go_loopw [12] (fun i wr => ∃ k : Nat, k ≤ n ∧ i = .int .i64 k ∧ (∀ x ∈ xs.take k, 0 ≤ x ∧ x < N) ∧ MS w wr N F C U Z (leafM xs k)) (fun i _ => n - (intOf i).toNat)
  case atStart => exact ⟨0, by omega, rfl, fun x hx => by simp at hx, HST.out⟩
  case round =>
    clear HST hz
    obtain ⟨k, hk, rfl, hin, hM⟩ := hrel
    by_cases hlt : k < n
    · have i0 : (0 : Int) ≤ (k : Int) := by omega
      have i1 : (k : Int) < (n : Int) := by omega
      obtain ⟨b, off, rfl, hbl, hc⟩ := HRI.out.at0 (by omega)
      have d0 : wr.cell? ⟨b, off + k, none⟩ = some (.int .i64 (xs[k]?.getD 0)) := by rw [hM.bel.cell (by exact hbl)]; exact hc k hlt
      have hlx : k < xs.length := by have := HLEN.out; omega
      obtain ⟨x, hx⟩ : ∃ x, x = xs[k]?.getD 0 := ⟨_, rfl⟩
      rw [← hx] at d0
      obtain ⟨c0, c1, c2, c3⟩ := hM.cells
      have HM := Lib.hid hM
      have HIN := Lib.hid hin
      have HX := Lib.hid (And.intro hx hlx)
      clear hc hM hin hx hlx c1 c2 c3
      by_cases hx0 : 0 ≤ x
      · by_cases hx1 : x < N
        · obtain ⟨j, rfl⟩ : ∃ j : Nat, x = j := ⟨x.toNat, by omega⟩
          have j1 : (j : Int) < 256 := by have := HN12.out.2; omega
          have hfz := HM.out.box.free j
          have hcl := HM.out.box.at j (by omega)
          go_wp2
          go_roundw
          case rel => exact ⟨k + 1, by omega, by go_num, in_next HIN.out HX.out.2 (by rw [← HX.out.1]; exact ⟨hx0, hx1⟩), HM.out.set j (by omega) _ (fun q => by
            rw [leafM_next HX.out.2, ← HX.out.1]
            by_cases e : q = j
            · subst e; simp
            · rw [if_neg e]
              have : ¬ ((j : Int) = (q : Int)) := by omega
              simp [this])⟩
          case measure => simp [intOf]; omega
        · have hrs := HM.out.res
          have HNO := Lib.hid (show markR N F C U xs = (fun _ => false, 3) from if_neg (in_not HX.out.2 (by rw [← HX.out.1]; omega)))
          have HB := Lib.hid (below_setRow (cs := Tryz.zeroCells106) HM.out.bel (show w.heap.size ≤ w.heap.size + 1 by omega))
          have hi0 : (Tryz.prog.info? 106).map (·.size) = some Tryz.zeroCells106.size := by rw [zero_marks, marksA_size]; kernel_rfl
          have hz0 : Z.size = Tryz.zeroCells106.size := by rw [zero_marks, marksA_size, HZ.out]
          have ho0 : Tryz.zeroCells106.all (·.oneCell') = true := by rw [zero_marks]; exact marksA_one _
          go_wp2_with (with_reducible refine wpList_store_row (o := ⟨none, _, _, _, _, _⟩) rfl 106 (.tmp 4) (.tmp 24) rfl (w.heap.size + 1) Tryz.zeroCells106 rfl rfl 106 Z hrs hi0 hz0 ho0 ?_)
          refine bodyPost_ret (results_row_tmp (p := 4) (u := 5) (ty := 106) rfl _ _ (w.heap.size + 1) 106 Tryz.zeroCells106 (0, 0) _ rfl (setRow_heap wr (w.heap.size + 1) Z Tryz.zeroCells106 106 (0, 0) hrs) Tryz.underlying106 rfl hi0) rfl ?_
          exact ⟨by rw [HNO.out, ← zero_marks]; rfl, HB.out⟩
      · have hrs := HM.out.res
        have HNO := Lib.hid (show markR N F C U xs = (fun _ => false, 3) from if_neg (in_not HX.out.2 (by rw [← HX.out.1]; omega)))
        have HB := Lib.hid (below_setRow (cs := Tryz.zeroCells106) HM.out.bel (show w.heap.size ≤ w.heap.size + 1 by omega))
        have hi0 : (Tryz.prog.info? 106).map (·.size) = some Tryz.zeroCells106.size := by rw [zero_marks, marksA_size]; kernel_rfl
        have hz0 : Z.size = Tryz.zeroCells106.size := by rw [zero_marks, marksA_size, HZ.out]
        have ho0 : Tryz.zeroCells106.all (·.oneCell') = true := by rw [zero_marks]; exact marksA_one _
        go_wp2_with (with_reducible refine wpList_store_row (o := ⟨none, _, _, _, _, _⟩) rfl 106 (.tmp 4) (.tmp 24) rfl (w.heap.size + 1) Tryz.zeroCells106 rfl rfl 106 Z hrs hi0 hz0 ho0 ?_)
        refine bodyPost_ret (results_row_tmp (p := 4) (u := 5) (ty := 106) rfl _ _ (w.heap.size + 1) 106 Tryz.zeroCells106 (0, 0) _ rfl (setRow_heap wr (w.heap.size + 1) Z Tryz.zeroCells106 106 (0, 0) hrs) Tryz.underlying106 rfl hi0) rfl ?_
        exact ⟨by rw [HNO.out, ← zero_marks]; rfl, HB.out⟩
    · obtain rfl : k = n := by omega
      have i1 : ¬ (k : Int) < (k : Int) := by omega
      obtain ⟨c0, c1, c2, c3⟩ := hM.cells
      have hrt := root_any N F C U wr
      unfold geo at hrt
      obtain ⟨R, hR⟩ : ∃ R, R = nodes N F C U - 1 := ⟨_, rfl⟩
      rw [← hR] at hrt
      have HRT := Lib.hid hrt
      have HM := Lib.hid hM
      have hall : ∀ x ∈ xs, 0 ≤ x ∧ x < N := fun x hx => hin x (by rw [← HLEN.out, List.take_length]; exact hx)
      have HRR := Lib.hid (show markR N F C U xs = (mkN (prN N F C U) (leafM xs k) R, 0) from by unfold markR markP; rw [if_pos hall, hR, HLEN.out])
      have HR := Lib.hid hR
      have hR2 : R ≤ 254 := by have := HNL.out; omega
      have HR2 := Lib.hid hR2
      clear hM hin hrt hall hR hR2
      go_wp2_with fail
      refine HRT.out.mono ?_
      rintro e w1 ⟨rfl, hb1⟩
      have HM1 := Lib.hid (HM.out.below hb1)
      clear hb1 HM HRT c0 c1 c2 c3
      go_wp2
      go_loopw [30] (fun i wr => ∃ j : Nat, j ≤ R ∧ i = .int .i64 j ∧ MS w wr N F C U Z (mkN (prN N F C U) (leafM xs k) j)) (fun i _ => R - (intOf i).toNat)
      case atStart => exact ⟨0, by omega, rfl, HM1.out⟩
      case round =>
        clear HM1
        obtain ⟨j, hj, rfl, hM⟩ := hrel
        have hj2 : j < 256 := by have := HR2.out; omega
        by_cases hlt2 : j < R
        · have j0 : (0 : Int) ≤ (j : Int) := by omega
          have j1 : (j : Int) < (R : Int) := by omega
          have j2 : (j : Int) < 256 := by omega
          have hcl := hM.box.at j hj2
          obtain ⟨c0, c1, c2, c3⟩ := hM.cells
          have HM := Lib.hid hM
          cases hb : mkN (prN N F C U) (leafM xs k) j j with
          | false =>
            rw [hb] at hcl
            have HBJ := Lib.hid hb
            clear hM hb
            go_wp2
            go_roundw
            case rel => exact ⟨j + 1, by omega, by go_num, HM.out.geo, HM.out.res, HM.out.box.congr (fun q => by rw [mkN_next, HBJ.out]; simp), HM.out.bel⟩
            case measure => simp [intOf]; omega
          | true =>
            rw [hb] at hcl
            have HBJ := Lib.hid hb
            obtain ⟨p1, p2, p3⟩ := prN_lt HOK.out (k := j) (by have := HR.out; omega)
            have hpa := parent_any N F C U (j : Int) wr
            rw [p1] at hpa
            unfold geo at hpa
            obtain ⟨y, hy⟩ : ∃ y, y = prN N F C U j := ⟨_, rfl⟩
            rw [← hy] at hpa p2
            have y0 : (0 : Int) ≤ (y : Int) := by omega
            have y1 : (y : Int) < 256 := by have := HNL.out; omega
            have HPA := Lib.hid hpa
            have HY := Lib.hid hy
            clear hM hb hpa hy p1 p2 p3
            go_wp2_with fail
            refine HPA.out.mono ?_
            rintro e w2 ⟨rfl, hb2⟩
            have hM2 := HM.out.below hb2
            have hfz := hM2.box.free y
            have hcy := hM2.box.at y (by omega)
            have HM2 := Lib.hid hM2
            clear hM2 hb2 HPA HM c0 c1 c2 c3 hcl
            go_wp2
            go_roundw
            case rel => exact ⟨j + 1, by omega, by go_num, HM2.out.set y (by omega) _ (fun q => by
              rw [mkN_next, HBJ.out, ← HY.out]
              by_cases e : q = y
              · subst e; simp
              · rw [if_neg e]; simp [e])⟩
            case measure => simp [intOf]; omega
        · obtain rfl : j = R := by omega
          have j1 : ¬ (j : Int) < (j : Int) := by omega
          have hrs := hM.res
          have hbx : wr.heap[w.heap.size + 1 + 1]? = some (.cells (marksA (mkN (prN N F C U) (leafM xs k) j)) 106 (0, 0)) := hM.box
          have HB := Lib.hid (below_setRow (cs := marksA (mkN (prN N F C U) (leafM xs k) j)) hM.bel (show w.heap.size ≤ w.heap.size + 1 by omega))
          have hi0 : (Tryz.prog.info? 106).map (·.size) = some (marksA (mkN (prN N F C U) (leafM xs k) j)).size := by rw [marksA_size]; kernel_rfl
          have hz0 : Z.size = (marksA (mkN (prN N F C U) (leafM xs k) j)).size := by rw [marksA_size, HZ.out]
          have ho0 : (marksA (mkN (prN N F C U) (leafM xs k) j)).all (·.oneCell') = true := marksA_one _
          obtain ⟨Y, hY⟩ : ∃ Y, Y = marksA (mkN (prN N F C U) (leafM xs k) j) := ⟨_, rfl⟩
          rw [← hY] at hbx HB hi0 hz0 ho0
          have HY := Lib.hid hY
          have hrw := setRow_heap wr (w.heap.size + 1) Z Y 106 (0, 0) hrs
          clear hM hY
          go_wp2_with (first | (with_reducible refine wpList_load_row (o := ⟨some 41, _, _, _, _, _⟩) rfl 106 (.tmp 6) rfl (w.heap.size + 1 + 1) rfl 106 Y (0, 0) _ hbx Tryz.underlying106 rfl hi0 ?_) | (with_reducible refine wpList_store_row (o := ⟨none, _, _, _, _, _⟩) rfl 106 (.tmp 4) (.tmp 41) rfl (w.heap.size + 1) Y rfl rfl 106 Z hrs hi0 hz0 ho0 ?_))
          refine bodyPost_ret (results_row_tmp (p := 4) (u := 5) (ty := 106) rfl _ _ (w.heap.size + 1) 106 Y (0, 0) _ rfl hrw Tryz.underlying106 rfl hi0) rfl ?_
          exact ⟨by rw [HRR.out, HY.out]; rfl, HB.out⟩
end Go.Proofs.YtpkeikbiblfidaaGreatDoor
/-
  others: the program's.
-/
namespace Go.Proofs.YtpkeikbiblfidaaGreatDoor
open Go.RowKit
set_option linter.unusedVariables false
set_option linter.unusedSimpArgs false

theorem hmade_row (n : Nat) (h : n ≤ 1000000) (w : World) (B : Nat) (hb : B ≤ w.heap.size) :
    (w.alloc (.cells (madeCells #[.string noBytes] n) 9)).ownsRow B 9 1 (.slice (some ⟨w.heap.size, 0, none⟩) n n) n (strs (List.replicate n noBytes)) := by
  refine ⟨by simp [strs], .inr ⟨w.heap.size, n, _, rfl, hb, heap_alloc_new w _, Nat.le_refl _, by unfold maxLen; omega, by rw [size_madeCells]; simp, ?_⟩⟩
  apply List.ext_getElem?
  intro i
  by_cases hi : i < n
  · rw [List.getElem?_take_of_lt (by omega)]
    simp [madeCells, strs, hi]
    rw [Nat.mod_one]
    rfl
  · rw [List.getElem?_eq_none (by simp [madeCells]; omega), List.getElem?_eq_none (by simp [strs]; omega)]

/-- Memory while others runs: its geometry, the array of marks, the row that it fills. -/
structure OSt (w wr : World) (N F C U : Int) (m : Nat → Bool) (g n : Nat) (L : List ByteArray) : Prop where
  geo : wr.heap[w.heap.size]? = some (.cells #[.int .i64 N, .int .i64 F, .int .i64 C, .int .i64 U] 23 (0, 0))
  box : MB wr (w.heap.size + 1) m
  row : wr.ownsRow w.heap.size 9 1 (.slice (some ⟨g, 0, none⟩) n n) n (strs L)
  lo : w.heap.size + 2 ≤ g
  bel : Below w.heap.size w wr
theorem OSt.len {w wr : World} {N F C U : Int} {m : Nat → Bool} {g n : Nat} {L : List ByteArray} (h : OSt w wr N F C U m g n L) : L.length = n := by have := h.row.1; rw [strs_length] at this; omega
theorem OSt.set {w wr : World} {N F C U : Int} {m : Nat → Bool} {g n : Nat} {L : List ByteArray} (h : OSt w wr N F C U m g n L) (i : Nat) (hi : i < n) (s : ByteArray) : OSt w (wr.setCell ⟨g, i, none⟩ (.string s)) N F C U m g n (L.set i s) := by
  have hl := h.len
  have hg := h.lo
  refine ⟨hset_ne h.geo (by omega), h.box.kept (Below.heap_setCell _ _ _ _ (by show w.heap.size + 1 ≠ g; omega)), ?_, h.lo, h.bel.setCell (p := ⟨g, i, none⟩) (by show _ ≤ g; omega) _⟩
  have := owns_set h.row (g := g) rfl (.string s) (j := i) (by rw [strs_length]; omega)
  rwa [strs_set] at this
theorem OSt.below {w wr wr' : World} {N F C U : Int} {m : Nat → Bool} {g n : Nat} {L : List ByteArray} (h : OSt w wr N F C U m g n L) (hb : Below wr.heap.size wr wr') : OSt w wr' N F C U m g n L :=
  ⟨(hb.block _ (lt_of_block h.geo)).trans h.geo, h.box.below hb, owns_kept h.row fun k hk => hb.block k (h.row.lt k hk).2, h.lo, h.bel.trans (hb.mono h.bel.size)⟩
theorem OSt.cells {w wr : World} {N F C U : Int} {m : Nat → Bool} {g n : Nat} {L : List ByteArray} (h : OSt w wr N F C U m g n L) : wr.cell? ⟨w.heap.size, 0, none⟩ = some (.int .i64 N) ∧ wr.cell? ⟨w.heap.size, 1, none⟩ = some (.int .i64 F) ∧ wr.cell? ⟨w.heap.size, 2, none⟩ = some (.int .i64 C) ∧ wr.cell? ⟨w.heap.size, 3, none⟩ = some (.int .i64 U) := by
  refine ⟨?_, ?_, ?_, ?_⟩ <;> (rw [cell_of_blk h.geo]; rfl)
theorem OSt.at {w wr : World} {N F C U : Int} {m : Nat → Bool} {g n : Nat} {L : List ByteArray} (h : OSt w wr N F C U m g n L) (i : Nat) (hi : i < n) : wr.cell? ⟨g, i, none⟩ = some (.string (lAt L i)) := owns_cell h.row rfl i _ (strs_at (by rw [h.len]; exact hi))
theorem OSt.free {w wr : World} {N F C U : Int} {m : Nat → Bool} {g n : Nat} {L : List ByteArray} (h : OSt w wr N F C U m g n L) (i : Nat) : wr.frozen? ⟨g, i, none⟩ = false := owns_free h.row rfl i

theorem othF_mark {m : Nat → Bool} {get : Nat → List UInt8 × Int} {k : Nat} {L : List ByteArray} (h : m k = true) : othF m get k L = (L, 0) := if_pos h
theorem othF_bad {m : Nat → Bool} {get : Nat → List UInt8 × Int} {k : Nat} {L : List ByteArray} (h : m k = false) {r : List UInt8} {e : Int} (hg : get k = (r, e)) (he : e ≠ 0) : othF m get k L = (L, e) := by
  unfold othF; rw [if_neg (by rw [h]; simp), hg, if_pos he]
theorem othF_ok {m : Nat → Bool} {get : Nat → List UInt8 × Int} {k : Nat} {L : List ByteArray} (h : m k = false) {r : List UInt8} (hg : get k = (r, 0)) : othF m get k L = (L.set k ⟨r.toArray⟩, 0) := by
  unfold othF; rw [if_neg (by rw [h]; simp), hg, if_neg (by simp)]

set_option maxRecDepth 20000 in
set_option maxHeartbeats 4000000 in
theorem others_any (B p : Nat) (v1 v2 : Value) (D : DS) (N F C U : Int) (m : Nat → Bool) (w : World) (h : PD w B p v1 v2 D) (M : Nat) (hok : D.ok M) (hM : M ≤ 1000000) :
    Calls Tryz.prog 72 #[.pointer (some ⟨p, 0, none⟩), geo N F C U, .agg (marksA m)] w fun e w' => (∃ v, e = .returned (.tuple #[v, .int .i64 (othL N F C U m D (nodes N F C U)).2]) ∧ ((othL N F C U m D (nodes N F C U)).2 = 0 → ∃ g, v = .slice (some ⟨g, 0, none⟩) (nodes N F C U) (nodes N F C U) ∧ w'.ownsRow w.heap.size 9 1 v (nodes N F C U) (strs (othL N F C U m D (nodes N F C U)).1)) ∧ ((othL N F C U m D (nodes N F C U)).2 ≠ 0 → v = .slice none 0 0)) ∧ Below w.heap.size w w' := by
  have hnl := nodes_le N F C U
  have hnd := fun w => nodes_any N F C U w
  obtain ⟨n, hn⟩ : ∃ n, n = nodes N F C U := ⟨_, rfl⟩
  rw [← hn] at hnl ⊢
  simp only [← hn] at hnd
  obtain ⟨R, hR⟩ : ∃ R, R = othL N F C U m D n := ⟨_, rfl⟩
  rw [← hR]
  obtain ⟨Y, hY⟩ : ∃ Y, Y = marksA m := ⟨_, rfl⟩
  rw [← hY]
  obtain ⟨w0, hw0⟩ : ∃ w0, w0 = (w.alloc (.cells #[.int .i64 N, .int .i64 F, .int .i64 C, .int .i64 U] 23)).alloc (.cells Y 106) := ⟨_, rfl⟩
  have e1 : (w.alloc (.cells #[.int .i64 N, .int .i64 F, .int .i64 C, .int .i64 U] 23)).heap.size = w.heap.size + 1 := World.size_alloc _ _
  have hg0 : w0.heap[w.heap.size]? = some (.cells #[.int .i64 N, .int .i64 F, .int .i64 C, .int .i64 U] 23 (0, 0)) := by rw [hw0, Below.heap_alloc _ _ _ (by omega)]; exact heap_alloc_new w _
  have hm0 : MB w0 (w.heap.size + 1) m := by unfold MB; rw [hw0, ← hY, ← e1]; exact heap_alloc_new _ _
  have hb0 : Below w.heap.size w w0 := by rw [hw0]; exact ((Below.refl _ w).alloc (Nat.le_refl _) _).alloc (by omega) _
  have hs0 : w0.heap.size = w.heap.size + 2 := by rw [hw0, World.size_alloc, e1]
  have hcel : ∀ w', Below w0.heap.size w0 w' → w'.cell? ⟨w.heap.size, 0, none⟩ = some (.int .i64 N) ∧ w'.cell? ⟨w.heap.size, 1, none⟩ = some (.int .i64 F) ∧ w'.cell? ⟨w.heap.size, 2, none⟩ = some (.int .i64 C) ∧ w'.cell? ⟨w.heap.size, 3, none⟩ = some (.int .i64 U) := fun w' hb => by
    have e := (hb.block w.heap.size (by omega)).trans hg0
    refine ⟨?_, ?_, ?_, ?_⟩ <;> (rw [cell_of_blk e]; rfl)
  obtain ⟨c0, c1, c2, c3⟩ := hcel w0 (Below.refl _ _)
  have HP := Lib.hid h
  have HOK := Lib.hid hok
  have HR := Lib.hid hR
  have HN := Lib.hid hn
  have HW := Lib.hid hw0
  have HB0 := Lib.hid hb0
  have HG0 := Lib.hid hg0
  have HM0 := Lib.hid hm0
  have HS0 := Lib.hid hs0
  unfold geo at hnd ⊢
  have HND := Lib.hid hnd
  have HYY := Lib.hid hY
  clear h hok hR hn hw0 hb0 hg0 hm0 hs0 hnd hcel e1 hY
  go_enter Tryz.func72, Tryz.ntmps72
  go_upto_region 1 with fail
  rw [← HW.out]
  go_wp2_with fail
  refine (HND.out _).mono ?_
  rintro e w1 ⟨rfl, hb1⟩
  have hms := make_strs n (by omega) w1
  have hst : OSt w (w1.alloc (.cells (madeCells #[.string noBytes] n) 9)) N F C U m w1.heap.size n (List.replicate n noBytes) := by
    have hsz := hb1.size
    have h0 := HS0.out
    have hbb := (HB0.out.trans (hb1.mono HB0.out.size))
    refine ⟨?_, ?_, hmade_row n (by omega) w1 _ hbb.size, by omega, hbb.alloc hbb.size _⟩
    · rw [Below.heap_alloc _ _ _ (by omega), hb1.block _ (by omega)]; exact HG0.out
    · exact (HM0.out.below hb1).kept (Below.heap_alloc _ _ _ (by omega))
  obtain ⟨g, hg⟩ : ∃ g, g = w1.heap.size := ⟨_, rfl⟩
  rw [← hg] at hst hms
  have HST := Lib.hid hst
  clear c0 c1 c2 c3 hb1 hst hg
  go_wp2
  go_loopw [17] (fun i wr => ∃ (k : Nat) (L : List ByteArray), k ≤ n ∧ i = .int .i64 k ∧ othL N F C U m D k = (L, 0) ∧ OSt w wr N F C U m g n L) (fun i _ => n - (intOf i).toNat)
  case atStart => exact ⟨0, _, by omega, rfl, by rw [HN.out]; rfl, HST.out⟩
  case round =>
    clear HST hms
    obtain ⟨k, L, hk, rfl, hL, hO⟩ := hrel
    by_cases hlt : k < n
    · have i0 : (0 : Int) ≤ (k : Int) := by omega
      have i1 : (k : Int) < (n : Int) := by omega
      have i2 : (k : Int) < 256 := by omega
      have hcl := hO.box.at k (by omega)
      cases hmk : m k with
      | true =>
        rw [hmk] at hcl
        have HO := Lib.hid hO
        have HL := Lib.hid hL
        have HMK := Lib.hid hmk
        clear hO hL hmk
        go_wp2
        go_roundw
        case rel => exact ⟨k + 1, L, by omega, by go_num, (runE_next HL.out).trans (othF_mark HMK.out), HO.out⟩
        case measure => simp [intOf]; omega
      | false =>
        rw [hmk] at hcl
        obtain ⟨c0, c1, c2, c3⟩ := hO.cells
        have hgt := nget_any B p v1 v2 D N F C U k wr (HP.out.below (hO.bel)) M HOK.out hM
        obtain ⟨r, e, hre⟩ : ∃ r e, getP N F C U D k = (r, e) := ⟨_, _, rfl⟩
        rw [hre] at hgt
        dsimp only at hgt
        obtain ⟨s, hs⟩ : ∃ s : ByteArray, s = ⟨r.toArray⟩ := ⟨_, rfl⟩
        rw [show strV r = Value.string s from by rw [hs]; rfl] at hgt
        unfold geo at hgt
        have HGT := Lib.hid hgt
        have HO := Lib.hid hO
        have HL := Lib.hid hL
        have HMK := Lib.hid hmk
        have HX := Lib.hid (And.intro hre hs)
        clear hO hL hmk hgt hre hs
        go_wp2_with fail
        refine HGT.out.mono ?_
        rintro e' w2 ⟨rfl, hb2⟩
        have HO2 := Lib.hid (HO.out.below hb2)
        clear hb2 HGT HO c0 c1 c2 c3 hcl
        by_cases he : e = 0
        · subst he
          have hfz := HO2.out.free k
          have hcl := HO2.out.at k hlt
          have hX : othF m (fun j => getP N F C U D j) k L = (L.set k s, 0) := by rw [HX.out.2]; exact othF_ok HMK.out HX.out.1
          have HX2 := Lib.hid hX
          clear hX
          go_wp2
          go_roundw
          case rel => exact ⟨k + 1, L.set k s, by omega, by go_num, (runE_next HL.out).trans HX2.out, HO2.out.set k hlt s⟩
          case measure => simp [intOf]; omega
        · have he2 : (e == 0) = false := by simpa using he
          have he3 : (e != 0) = true := by simp [he]
          have HE := Lib.hid (And.intro he (HR.out.trans (runE_err HL.out (othF_bad HMK.out HX.out.1 he) he hlt)))
          have HB := Lib.hid HO2.out.bel
          clear he
          go_wp2
          refine bodyPost_ret (results_tmp2 rfl _ _ _) rfl ?_
          rw [HE.out.2]
          exact ⟨⟨_, rfl, fun h => absurd h HE.out.1, fun _ => rfl⟩, HB.out⟩
    · obtain rfl : k = n := by omega
      have i1 : ¬ (k : Int) < (k : Int) := by omega
      have HO := Lib.hid hO
      have HE := Lib.hid (HR.out.trans hL)
      clear hO hL
      go_wp2
      refine bodyPost_ret (results_tmp2 rfl _ _ _) rfl ?_
      rw [HE.out]
      exact ⟨⟨.slice (some ⟨g, 0, none⟩) k k, rfl, fun _ => ⟨⟨g, rfl⟩, HO.out.row⟩, fun h => absurd rfl h⟩, HO.out.bel⟩
end Go.Proofs.YtpkeikbiblfidaaGreatDoor

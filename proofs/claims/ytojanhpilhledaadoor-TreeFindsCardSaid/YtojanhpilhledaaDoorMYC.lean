/-
  Texts put together: YC.
-/
import Derived.Test.YtojanhpilhledaaDoorMYB
import Derived.Test.YtojanhpilhledaaDoorMY3
import Derived.Test.YtojanhpilhledaaDoorMY6
import Derived.Test.YtojanhpilhledaaDoorMY5
/-
  The walk of TreeFinds.
-/
namespace Go.Proofs.YtojanhpilhledaaDoor
open Go.RowKit
set_option linter.unusedVariables false
set_option linter.unusedSimpArgs false

theorem jn_inj (K K' : List ByteArray) : ∀ m, (∀ i, i < m → (lAt K i).size = 32 ∧ (lAt K' i).size = 32) → jn (lAt K) m = jn (lAt K') m → ∀ i, i < m → lAt K i = lAt K' i
  | 0, _, _, i, hi => by omega
  | m + 1, hs, h, i, hi => by
    have hl : ∀ (S : Nat → ByteArray) (k : Nat), (∀ i, i < k → (S i).size = 32) → (jn S k).length = 32 * k := by
      intro S k
      induction k with
      | zero => intro _; rfl
      | succ k ih =>
        intro h
        have h1 : (S k).data.toList.length = (S k).size := rfl
        rw [show jn S (k + 1) = jn S k ++ (S k).data.toList from rfl, List.length_append, ih (fun i hi => h i (by omega)), h1, h k (by omega)]
        omega
    have h1 := hl (lAt K) m (fun i hi => (hs i (by omega)).1)
    have h2 := hl (lAt K') m (fun i hi => (hs i (by omega)).2)
    obtain ⟨e1, e2⟩ := List.append_inj (show jn (lAt K) m ++ (lAt K m).data.toList = jn (lAt K') m ++ (lAt K' m).data.toList from h) (by rw [h1, h2])
    rcases Nat.lt_or_ge i m with hlt | hge
    · exact jn_inj K K' m (fun i hi => hs i (by omega)) e1 i hlt
    · obtain rfl : i = m := by omega
      have e3 : (lAt K i).data = (lAt K' i).data := Array.ext' e2
      generalize lAt K i = x at *
      generalize lAt K' i = y at *
      cases x; cases y; simpa using e3
/-- A leaf that is not told, though its sectors are unlike: two unlike texts have one digest. -/
theorem twin_pair {n : Nat} {F C U : Int} {Ss Us L O : List ByteArray} (h : TOf n F C U Ss L) (h' : TOf n F C U Us O) (h32 : ∀ i, i < L.length → (lAt L i).size = 32) (h32' : ∀ i, i < O.length → (lAt O i).size = 32) {x : Nat} (hx : x < n) (hne : lAt Ss x ≠ lAt Us x)
    (ht : lAt L x = lAt O x ∨ ∃ k : Nat, (n : Int) ≤ (k : Int) ∧ k < nodes n F C U ∧ lAt L k = lAt O k ∧ kids L (children n F C U k) ≠ kids O (children n F C U k)) :
    ∃ i k, i < 2 * nodes n F C U ∧ k < i ∧ lAt (L ++ O) i = lAt (L ++ O) k ∧ lAt (txL n F C U Ss L (nodes n F C U) ++ txL n F C U Us O (nodes n F C U)) i ≠ lAt (txL n F C U Ss L (nodes n F C U) ++ txL n F C U Us O (nodes n F C U)) k := by
  have hnp := nodes_pos h.ok
  have hlL := h.len
  have hlO := h'.len
  have key : ∀ k, k < nodes n F C U → lAt L k = lAt O k → txT n F C U Us O k ≠ txT n F C U Ss L k → ∃ i k, i < 2 * nodes n F C U ∧ k < i ∧ lAt (L ++ O) i = lAt (L ++ O) k ∧ lAt (txL n F C U Ss L (nodes n F C U) ++ txL n F C U Us O (nodes n F C U)) i ≠ lAt (txL n F C U Ss L (nodes n F C U) ++ txL n F C U Us O (nodes n F C U)) k := fun k hk e1 e2 => by
    have a1 : ∀ (A B : List ByteArray) (j : Nat), lAt (A ++ B) (A.length + j) = lAt B j := fun A B j => by
      unfold lAt; rw [List.getElem?_append_right (by omega)]; congr 2; omega
    refine ⟨nodes n F C U + k, k, by omega, by omega, ?_, ?_⟩
    · rw [show lAt (L ++ O) k = lAt L k from lAt_append_lt (by omega), ← hlL, a1, e1]
    · have hl := txL_length n F C U Ss L (nodes n F C U)
      have a2 := a1 (txL n F C U Ss L (nodes n F C U)) (txL n F C U Us O (nodes n F C U)) k
      rw [hl] at a2
      rw [a2, show lAt (txL n F C U Ss L (nodes n F C U) ++ txL n F C U Us O (nodes n F C U)) k = lAt (txL n F C U Ss L (nodes n F C U)) k from lAt_append_lt (by omega), txL_at hk, txL_at hk]
      exact e2
  have tx_ne : ∀ {A B : List UInt8}, A ≠ B → (⟨A.toArray⟩ : ByteArray) ≠ ⟨B.toArray⟩ := fun {A B} hne e => hne (by
    have := congrArg (fun z : ByteArray => z.data.toList) e
    simpa using this)
  rcases ht with ht | ⟨k, k1, k2, k3, k4⟩
  · refine key x (by omega) ht ?_
    have hc : children n F C U (x : Int) = [] := by
      have hok := h.ok
      obtain ⟨m, f, e1, rfl, ho⟩ := ok_of hok
      obtain rfl : n = m := by omega
      have h0 : S n f 1 = 0 + n := rfl
      have hm := @S_mono n f 1 (H n f + 1) (by omega)
      unfold children
      rw [if_pos ⟨hok, by omega, by simp only [Int.toNat_natCast]; omega⟩]
      simp only [Int.toNat_natCast]
      exact ch_leaf (by omega)
    unfold txT
    refine tx_ne ?_
    unfold upT hdT
    rw [hc, if_pos hx, if_pos hx]
    simp only [List.length_nil, jn, List.append_nil, ne_eq, List.cons.injEq, true_and]
    intro e
    exact hne (by
      generalize lAt Ss x = a at *
      generalize lAt Us x = b at *
      cases a; cases b
      simp only [ByteArray.mk.injEq]
      exact (Array.ext' e).symm)
  · refine key k k2 k3 ?_
    have hkm := fun c hc => @children_mem n F C U k c hc
    have hsz : ∀ (A : List ByteArray), A.length = nodes n F C U → (∀ i, i < A.length → (lAt A i).size = 32) → ∀ i, i < (children n F C U (k : Int)).length → (lAt (kids A (children n F C U (k : Int))) i).size = 32 := fun A hA h32 i hi => by
      have e : lAt (kids A (children n F C U (k : Int))) i = lAt A ((children n F C U (k : Int))[i]'hi).toNat := by
        unfold lAt kids
        rw [List.getElem?_map, List.getElem?_eq_getElem hi]
        rfl
      obtain ⟨j, hj, hjl⟩ := hkm _ (List.getElem_mem hi)
      rw [e, hj]
      exact h32 j (by omega)
    unfold txT
    refine tx_ne fun e => ?_
    unfold upT hdT at e
    rw [if_neg (by omega), if_neg (by omega)] at e
    have e2 := List.append_cancel_left e
    have e3 := jn_inj _ _ _ (fun i hi => ⟨hsz O hlO h32' i hi, hsz L hlL h32 i hi⟩) e2
    exact k4 (slist_ext (by rw [kids_length, kids_length]) fun i hi => (e3 i (by rw [kids_length] at hi; exact hi)).symm)

/-- Where one is in a list that rises. -/
theorem rise_next {xs : List Int} (hp : xs.Pairwise (· < ·)) {ka kt : Nat} (h1 : ∀ j, j < ka → ∀ v, xs[j]? = some v → v < (kt : Int)) (h2 : ∀ j, ka ≤ j → ∀ v, xs[j]? = some v → (kt : Int) ≤ v) :
    (xs[ka]? = some (kt : Int) → (∀ j, j < ka + 1 → ∀ v, xs[j]? = some v → v < ((kt + 1 : Nat) : Int)) ∧ (∀ j, ka + 1 ≤ j → ∀ v, xs[j]? = some v → ((kt + 1 : Nat) : Int) ≤ v)) ∧
    (xs[ka]? ≠ some (kt : Int) → (kt : Int) ∉ xs ∧ (∀ j, j < ka → ∀ v, xs[j]? = some v → v < ((kt + 1 : Nat) : Int)) ∧ (∀ j, ka ≤ j → ∀ v, xs[j]? = some v → ((kt + 1 : Nat) : Int) ≤ v)) := by
  have hlt : ∀ i j u v, i < j → xs[i]? = some u → xs[j]? = some v → u < v := fun i j u v hij hu hv => by
    obtain ⟨hi, rfl⟩ := List.getElem?_eq_some_iff.1 hu
    obtain ⟨hj, rfl⟩ := List.getElem?_eq_some_iff.1 hv
    exact List.pairwise_iff_getElem.1 hp i j hi hj hij
  refine ⟨fun he => ⟨fun j hj v hv => ?_, fun j hj v hv => ?_⟩, fun hne => ?_⟩
  · rcases Nat.lt_or_ge j ka with h | h
    · have := h1 j h v hv; omega
    · obtain rfl : j = ka := by omega
      rw [he] at hv; cases hv; omega
  · have := hlt ka j _ _ (by omega) he hv; omega
  · have hno : ∀ j, ka ≤ j → ∀ v, xs[j]? = some v → v ≠ (kt : Int) := fun j hj v hv e => by
      rcases Nat.lt_or_ge ka j with h | h
      · have hkl : ka < xs.length := by
          obtain ⟨hj2, _⟩ := List.getElem?_eq_some_iff.1 hv
          omega
        have hk := List.getElem?_eq_getElem hkl
        have h3 := hlt ka j _ _ h hk hv
        have h4 := h2 ka (Nat.le_refl _) _ hk
        omega
      · obtain rfl : j = ka := by omega
        exact hne (by rw [hv, e])
    refine ⟨fun hm => ?_, fun j hj v hv => by have := h1 j hj v hv; omega, fun j hj v hv => by have h3 := h2 j hj v hv; have h4 := hno j hj v hv; omega⟩
    obtain ⟨j, hj, e⟩ := List.getElem_of_mem hm
    have hv : xs[j]? = some (kt : Int) := by rw [List.getElem?_eq_getElem hj, e]
    rcases Nat.lt_or_ge j ka with h | h
    · have := h1 j h _ hv; omega
    · exact hno j h _ hv rfl

set_option maxRecDepth 20000 in
set_option maxHeartbeats 2000000 in
theorem tfinds_far (N F C U : Int) (a : Option Addr) (l cap : Nat) (xs : List UInt8) (a2 : Option Addr) (l2 cap2 : Nat) (ys : List UInt8) (w : World) (hP : Rd w a l cap xs) (hQ : Rd w a2 l2 cap2 ys) (hK : Kon w) (hx : 30 < N) :
    Calls Tryd.prog 7 #[geo N F C U, .slice a l cap, .slice a2 l2 cap2] w fun e w' => e = .returned (.bool true) ∧ Below w.heap.size w w' := by
  have hb0 := (Below.refl w.heap.size w).alloc (Nat.le_refl _) (gbox N F C U)
  have hsm := fun w => small_any N F C U w
  have hrt := fun w => grright_any N F C U w
  have hkn := fun w' (hb : Below w.heap.size w w') => tknown_any w' (hK.below hb)
  have hgc : ∀ wr, Below (w.alloc (gbox N F C U)).heap.size (w.alloc (gbox N F C U)) wr → wr.cell? ⟨w.heap.size, 0, none⟩ = some (.int .i64 N) ∧ wr.cell? ⟨w.heap.size, 1, none⟩ = some (.int .i64 F) ∧ wr.cell? ⟨w.heap.size, 2, none⟩ = some (.int .i64 C) ∧ wr.cell? ⟨w.heap.size, 3, none⟩ = some (.int .i64 U) := fun wr h => gbox_cells (by simpa using h)
  have hd : decide (N ≤ 30) = false := decide_eq_false (by omega)
  simp only [hd] at hsm
  unfold geo at *
  obtain ⟨w1, hw1⟩ : ∃ w1, w1 = w.alloc (gbox N F C U) := ⟨_, rfl⟩
  rw [← hw1] at hb0
  simp only [← hw1] at hgc
  have HSM := Lib.hid hsm
  have HRT := Lib.hid hrt
  have HKN := Lib.hid hkn
  have HGC := Lib.hid hgc
  have HB0 := Lib.hid hb0
  have HW0 := Lib.hid hw1
  have HP := Lib.hid hP
  have HQ := Lib.hid hQ
  have HK := Lib.hid hK
  clear hsm hkn hgc hb0 hK hd hw1 hP hQ hrt
  unfold gbox at HW0
  go_enter Tryd.func7, Tryd.ntmps7
  go_wp2_with fail
  rw [← HW0.out]
  obtain ⟨g0, g1, g2, g3⟩ := HGC.out _ (Below.refl _ _)
  go_wp2_with fail
  refine (HSM.out _).mono ?_
  rintro e w2 ⟨rfl, hb⟩
  have HB2 := Lib.hid (HB0.out.trans (hb.mono HB0.out.size))
  have HC2 := Lib.hid hb
  clear hb HSM HB0 g0 g1 g2 g3
  go_wp2_with fail
  refine (HKN.out _ HB2.out).mono ?_
  rintro e w9 ⟨rfl, hb⟩
  have HBB := Lib.hid (HB2.out.trans (hb.mono HB2.out.size))
  clear hb
  go_wp2
  go_ret
  exact ⟨rfl, HBB.out⟩

set_option maxRecDepth 20000 in
set_option maxHeartbeats 2000000 in
theorem tfinds_bad (N F C U : Int) (a : Option Addr) (l cap : Nat) (xs : List UInt8) (a2 : Option Addr) (l2 cap2 : Nat) (ys : List UInt8) (w : World) (hP : Rd w a l cap xs) (hQ : Rd w a2 l2 cap2 ys) (hK : Kon w) (hN : N ≤ 30) (hx : ¬ okG N F C U) :
    Calls Tryd.prog 7 #[geo N F C U, .slice a l cap, .slice a2 l2 cap2] w fun e w' => e = .returned (.bool true) ∧ Below w.heap.size w w' := by
  have hb0 := (Below.refl w.heap.size w).alloc (Nat.le_refl _) (gbox N F C U)
  have hsm := fun w => small_any N F C U w
  have hrt := fun w => grright_any N F C U w
  have hkn := fun w' (hb : Below w.heap.size w w') => tknown_any w' (hK.below hb)
  have hgc : ∀ wr, Below (w.alloc (gbox N F C U)).heap.size (w.alloc (gbox N F C U)) wr → wr.cell? ⟨w.heap.size, 0, none⟩ = some (.int .i64 N) ∧ wr.cell? ⟨w.heap.size, 1, none⟩ = some (.int .i64 F) ∧ wr.cell? ⟨w.heap.size, 2, none⟩ = some (.int .i64 C) ∧ wr.cell? ⟨w.heap.size, 3, none⟩ = some (.int .i64 U) := fun wr h => gbox_cells (by simpa using h)
  have hd : decide (N ≤ 30) = true := decide_eq_true hN
  simp only [show decide (okG N F C U) = false from decide_eq_false hx] at hrt
  simp only [hd] at hsm
  unfold geo at *
  obtain ⟨w1, hw1⟩ : ∃ w1, w1 = w.alloc (gbox N F C U) := ⟨_, rfl⟩
  rw [← hw1] at hb0
  simp only [← hw1] at hgc
  have HSM := Lib.hid hsm
  have HRT := Lib.hid hrt
  have HKN := Lib.hid hkn
  have HGC := Lib.hid hgc
  have HB0 := Lib.hid hb0
  have HW0 := Lib.hid hw1
  have HP := Lib.hid hP
  have HQ := Lib.hid hQ
  have HK := Lib.hid hK
  clear hsm hkn hgc hb0 hK hd hw1 hP hQ hrt
  unfold gbox at HW0
  go_enter Tryd.func7, Tryd.ntmps7
  go_wp2_with fail
  rw [← HW0.out]
  obtain ⟨g0, g1, g2, g3⟩ := HGC.out _ (Below.refl _ _)
  go_wp2_with fail
  refine (HSM.out _).mono ?_
  rintro e w2 ⟨rfl, hb⟩
  have HB2 := Lib.hid (HB0.out.trans (hb.mono HB0.out.size))
  have HC2 := Lib.hid hb
  clear hb HSM HB0 g0 g1 g2 g3
  obtain ⟨g0, g1, g2, g3⟩ := HGC.out _ HC2.out
  go_wp2_with fail
  refine (HRT.out _).mono ?_
  rintro e w3 ⟨rfl, hb⟩
  have HB3 := Lib.hid (HB2.out.trans (hb.mono HB2.out.size))
  have HC3 := Lib.hid (HC2.out.trans (hb.mono HC2.out.size))
  clear hb HRT g0 g1 g2 g3
  go_wp2_with fail
  refine (HKN.out _ HB3.out).mono ?_
  rintro e w9 ⟨rfl, hb⟩
  have HBB := Lib.hid (HB3.out.trans (hb.mono HB3.out.size))
  clear hb
  go_wp2
  go_ret
  exact ⟨rfl, HBB.out⟩

set_option maxRecDepth 20000 in
set_option maxHeartbeats 2000000 in
theorem tfinds_ok (n : Nat) (F C U : Int) (a : Option Addr) (l cap : Nat) (xs : List UInt8) (a2 : Option Addr) (l2 cap2 : Nat) (ys : List UInt8) (w : World) (hP : Rd w a l cap xs) (hQ : Rd w a2 l2 cap2 ys) (hK : Kon w) (hN : (n : Int) ≤ 30) (hok : okG n F C U) :
    Calls Tryd.prog 7 #[geo n F C U, .slice a l cap, .slice a2 l2 cap2] w fun e w' => e = .returned (.bool true) ∧ Below w.heap.size w w' := by
  have hb0 := (Below.refl w.heap.size w).alloc (Nat.le_refl _) (gbox n F C U)
  have hsm := fun w => small_any n F C U w
  have hrt := fun w => grright_any n F C U w
  have hkn := fun w' (hb : Below w.heap.size w w') => tknown_any w' (hK.below hb)
  have hgc : ∀ wr, Below (w.alloc (gbox n F C U)).heap.size (w.alloc (gbox n F C U)) wr → wr.cell? ⟨w.heap.size, 0, none⟩ = some (.int .i64 (n : Int)) ∧ wr.cell? ⟨w.heap.size, 1, none⟩ = some (.int .i64 F) ∧ wr.cell? ⟨w.heap.size, 2, none⟩ = some (.int .i64 C) ∧ wr.cell? ⟨w.heap.size, 3, none⟩ = some (.int .i64 U) := fun wr h => gbox_cells (by simpa using h)
  have hd : decide ((n : Int) ≤ 30) = true := decide_eq_true hN
  simp only [show decide (okG n F C U) = true from decide_eq_true hok] at hrt
  simp only [hd] at hsm
  have hnp := nodes_pos hok
  have hnl := nodes_le n F C U
  have hng := nodes_ge hok
  have hsz1 := fun w' (hb : Below w.heap.size w w') => sized_any n F C U a l cap xs w' (by omega) (hP.later hb)
  have hsz2 := fun w' (hb : Below w.heap.size w w') => sized_any n F C U a2 l2 cap2 ys w' (by omega) (hQ.later hb)
  have hnw := fun (Sk : List ByteArray) (hs : Sk.length = n) (h6 : ∀ i, i < Sk.length → (lAt Sk i).size = 64) w' a' c' (hb : Below w.heap.size w w') (hrs : Rs w' a' n c' Sk) => pend_ok (tnew_any n F C U a' n c' Sk w' hrs (hK.below hb)) (by unfold newErr; rw [if_neg (fun h => h hok), if_neg (by omega), if_pos h6])
  have hht := fun w => rheight_any n F C U w
  unfold geo at *
  obtain ⟨w1, hw1⟩ : ∃ w1, w1 = w.alloc (gbox n F C U) := ⟨_, rfl⟩
  rw [← hw1] at hb0
  simp only [← hw1] at hgc
  have HZ1 := Lib.hid hsz1
  have HZ2 := Lib.hid hsz2
  have HNW := Lib.hid hnw
  have HHT := Lib.hid hht
  have HOK := Lib.hid hok
  have HNN := Lib.hid (And.intro hnp (And.intro hnl hng))
  clear hsz1 hsz2 hnw hht hok hnp hnl hng
  have HSM := Lib.hid hsm
  have HRT := Lib.hid hrt
  have HKN := Lib.hid hkn
  have HGC := Lib.hid hgc
  have HB0 := Lib.hid hb0
  have HW0 := Lib.hid hw1
  have HP := Lib.hid hP
  have HQ := Lib.hid hQ
  have HK := Lib.hid hK
  clear hsm hkn hgc hb0 hK hd hw1 hP hQ hrt
  unfold gbox at HW0
  go_enter Tryd.func7, Tryd.ntmps7
  go_wp2_with fail
  rw [← HW0.out]
  obtain ⟨g0, g1, g2, g3⟩ := HGC.out _ (Below.refl _ _)
  go_wp2_with fail
  refine (HSM.out _).mono ?_
  rintro e w2 ⟨rfl, hb⟩
  have HB2 := Lib.hid (HB0.out.trans (hb.mono HB0.out.size))
  have HC2 := Lib.hid hb
  clear hb HSM HB0 g0 g1 g2 g3
  obtain ⟨g0, g1, g2, g3⟩ := HGC.out _ HC2.out
  go_wp2_with fail
  refine (HRT.out _).mono ?_
  rintro e w3 ⟨rfl, hb⟩
  have HB3 := Lib.hid (HB2.out.trans (hb.mono HB2.out.size))
  have HC3 := Lib.hid (HC2.out.trans (hb.mono HC2.out.size))
  clear hb HRT g0 g1 g2 g3
  obtain ⟨g0, g1, g2, g3⟩ := HGC.out _ HC3.out
  go_wp2_with fail
  refine (HZ1.out _ HB3.out).mono ?_
  rintro e w4 ⟨sv, rfl, how, hb⟩
  have HB4 := Lib.hid (HB3.out.trans (hb.mono HB3.out.size))
  have HC4 := Lib.hid (HC3.out.trans (hb.mono HC3.out.size))
  obtain ⟨av, cv, rfl, hrs, -⟩ := towns_shape how
  have hcv : (cv : Int) ≤ 9223372036854775807 := by have := hrs.cm; unfold maxLen at this; omega
  have hcn : n ≤ cv := hrs.le
  have HR1 := Lib.hid hrs
  clear hb how hrs g0 g1 g2 g3 HZ1
  obtain ⟨g0, g1, g2, g3⟩ := HGC.out _ HC4.out
  go_wp2_with fail
  refine (HZ2.out _ HB4.out).mono ?_
  rintro e w5 ⟨sv, rfl, how, hb⟩
  have HB5 := Lib.hid (HB4.out.trans (hb.mono HB4.out.size))
  have HC5 := Lib.hid (HC4.out.trans (hb.mono HC4.out.size))
  obtain ⟨bv, dv, rfl, hrs, -⟩ := towns_shape how
  have hdv : (dv : Int) ≤ 9223372036854775807 := by have := hrs.cm; unfold maxLen at this; omega
  have hdn : n ≤ dv := hrs.le
  have HR2 := Lib.hid hrs
  have HR1' := Lib.hid (HR1.out.later hb)
  clear hb how hrs g0 g1 g2 g3 HZ2 HR1
  obtain ⟨g0, g1, g2, g3⟩ := HGC.out _ HC5.out
  go_wp2_with fail
  refine (HNW.out _ (szL_length xs n) (szL_size xs n) _ _ _ HB5.out HR1'.out).mono ?_
  rintro e w6 ⟨p, v, rfl, hT, hb⟩
  have HB6 := Lib.hid (HB5.out.trans (hb.mono HB5.out.size))
  have HC6 := Lib.hid (HC5.out.trans (hb.mono HC5.out.size))
  have HT1 := Lib.hid hT
  have HR1 := Lib.hid (HR1'.out.later hb)
  have HR2' := Lib.hid (HR2.out.later hb)
  clear hb hT g0 g1 g2 g3 HR1' HR2
  obtain ⟨g0, g1, g2, g3⟩ := HGC.out _ HC6.out
  go_wp2_with fail
  refine (HNW.out _ (szL_length ys n) (szL_size ys n) _ _ _ HB6.out HR2'.out).mono ?_
  rintro e w7 ⟨q, v', rfl, hT, hb⟩
  have HB7 := Lib.hid (HB6.out.trans (hb.mono HB6.out.size))
  have HC7 := Lib.hid (HC6.out.trans (hb.mono HC6.out.size))
  have HT2 := Lib.hid (show PT w7 0 q v' n F C U (treeL n F C U (szL ys n)) from ⟨hT.blk, Nat.zero_le _, towns_low hT.own (Nat.zero_le _), hT.ne⟩)
  have hTb := HT1.out.below hb
  have HT1' := Lib.hid (show PT w7 0 p v n F C U (treeL n F C U (szL xs n)) from ⟨hTb.blk, Nat.zero_le _, towns_low hTb.own (Nat.zero_le _), hTb.ne⟩)
  have HR1' := Lib.hid (HR1.out.later hb)
  have HR2 := Lib.hid (HR2'.out.later hb)
  clear hb hT hTb g0 g1 g2 g3 HR1 HR2' HT1 HNW
  have hof1 := tof_tree HOK.out (show ((szL xs n).length : Int) = n by rw [szL_length])
  have hof2 := tof_tree HOK.out (show ((szL ys n).length : Int) = n by rw [szL_length])
  have h321 := treeL_size (N := n) (F := F) (C := C) (U := U) (szL xs n)
  have h322 := treeL_size (N := n) (F := F) (C := C) (U := U) (szL ys n)
  obtain ⟨d1, d2, d3, d4⟩ := diff_tells hof1 hof2
  have hdf := tdiff_ok 0 p q v v' n F C U C U _ _ w7 HT1'.out HT2.out HOK.out hof1.len hof2.len
  have hsmD := diff_small (L := treeL n F C U (szL xs n)) (O := treeL n F C U (szL ys n)) HOK.out
  have hpr := fun (x : Nat) (hx : x < n) => twin_pair hof1 hof2 h321 h322 hx
  have hlf : ∀ x : Nat, (x : Int) < n → lAt (treeL n F C U (szL xs n)) x ≠ lAt (treeL n F C U (szL ys n)) x → lAt (szL xs n) x ≠ lAt (szL ys n) x := fun x hx hne e => hne (by
    rw [hof1.leaf x (by rw [szL_length]; omega), hof2.leaf x (by rw [szL_length]; omega), e])
  have hsl1 := szL_length xs n
  have hsl2 := szL_length ys n
  have hss1 := szL_size xs n
  have hss2 := szL_size ys n
  have hL1 : treeL n F C U (szL xs n) = treeL n F C U (szL xs n) := rfl
  obtain ⟨xd, hxd⟩ : ∃ xd, xd = (diffP n F C U (treeL n F C U (szL xs n)) (treeL n F C U (szL ys n))).1 := ⟨_, rfl⟩
  obtain ⟨cd, hcd⟩ : ∃ cd, cd = (diffP n F C U (treeL n F C U (szL xs n)) (treeL n F C U (szL ys n))).2 := ⟨_, rfl⟩
  rw [← hxd] at d1 d2 d3 d4 hdf
  rw [← hcd] at d3 hdf hsmD
  have HDF := Lib.hid hdf
  have HD := Lib.hid (And.intro d1 (And.intro d2 d4))
  have HPR := Lib.hid hpr
  have HLF := Lib.hid hlf
  have HSS := Lib.hid (And.intro (And.intro hsl1 hss1) (And.intro hsl2 hss2))
  have HXD := Lib.hid (And.intro hxd hcd)
  have hxl : xd.length ≤ 21845 := by
    have := lvs_fst (nxD n F C U (treeL n F C U (szL xs n)) (treeL n F C U (szL ys n))) (lfD n (treeL n F C U (szL xs n)) (treeL n F C U (szL ys n))) (lfD_le n _ _) (height n F C U + 1) [((nodes n F C U - 1 : Nat) : Int)]
    rw [hxd]
    rw [hcd] at hsmD
    unfold diffP at hsmD ⊢
    omega
  have hF : 2 ≤ F ∧ F ≤ 4 := ⟨HOK.out.2.2.1, HOK.out.2.2.2.1⟩
  have hH : height n F C U ≤ 7 := by
    have hok := HOK.out
    obtain ⟨m, f, e1, e2, ho⟩ := ok_of hok
    unfold height
    rw [if_pos hok, e1, e2]
    simp only [Int.toNat_natCast]
    exact (H_spec ho).2.2
  obtain ⟨HH, hHH⟩ : ∃ z : Int, z = (height n F C U : Int) := ⟨_, rfl⟩
  rw [← hHH] at d3
  have hht := HHT.out
  simp only [← hHH] at hht
  have b1 : 0 ≤ F * HH := Int.mul_nonneg (by omega) (by omega)
  have b2 : F * HH ≤ 28 := by
    have : F * HH ≤ 4 * 7 := Int.mul_le_mul (by omega) (by omega) (by omega) (by omega)
    omega
  obtain ⟨FH, hFH⟩ : ∃ z : Int, z = F * HH := ⟨_, rfl⟩
  rw [← hFH] at d3 b1 b2
  have b3 : 0 ≤ FH * (xd.length : Int) := Int.mul_nonneg (by omega) (by omega)
  have b4 : FH * (xd.length : Int) ≤ 28 * 21845 := Int.mul_le_mul (by omega) (by omega) (by omega) (by omega)
  obtain ⟨FX, hFX⟩ : ∃ z : Int, z = FH * (xd.length : Int) := ⟨_, rfl⟩
  rw [← hFX] at d3 b3 b4
  have m1 : IntKind.i64.wrap (F * HH) = FH := by rw [hFH]; exact IntWalk.i64_in _ (by omega)
  have m2 : IntKind.i64.wrap (FH * (xd.length : Int)) = FX := by rw [hFX]; exact IntWalk.i64_in _ (by omega)
  have m3 : IntKind.i64.wrap (1 + FX) = 1 + FX := IntWalk.i64_in _ (by omega)
  have m4 : ¬ (1 + FX < (cd : Int)) := by omega
  have HBB := Lib.hid (And.intro b3 b4)
  have HM := Lib.hid hht
  clear hdf d1 d2 d3 d4 hpr hlf hsl1 hsl2 hss1 hss2 hxd hcd hsmD hF hH hHH b1 b2 b3 b4 hFH hFX hht hof1 hof2 h321 h322 HT1' HT2 hL1 HHT
  go_wp2_with fail
  refine HDF.out.mono ?_
  rintro e w8 ⟨sx, rfl, hox, hb⟩
  obtain ⟨xa, xc, rfl, hri, -⟩ := iowns_shape hox (by omega)
  have HB8 := Lib.hid (HB7.out.trans (hb.mono HB7.out.size))
  have HC8 := Lib.hid (HC7.out.trans (hb.mono HC7.out.size))
  have HRX := Lib.hid hri
  have HR1 := Lib.hid (HR1'.out.later hb)
  have HR2' := Lib.hid (HR2.out.later hb)
  have hxc : (xc : Int) ≤ 9223372036854775807 := by have := hri.cm; unfold maxLen at this; omega
  have hxn : xd.length ≤ xc := hri.le
  have hG : Below w8.drew.heap.size w8.drew w8.drew := Below.refl _ _
  have hGs : ∀ w', Below w8.drew.heap.size w8.drew w' → (w'.cell? ⟨w.heap.size, 0, none⟩ = some (.int .i64 (n : Int)) ∧ w'.cell? ⟨w.heap.size, 1, none⟩ = some (.int .i64 F) ∧ w'.cell? ⟨w.heap.size, 2, none⟩ = some (.int .i64 C) ∧ w'.cell? ⟨w.heap.size, 3, none⟩ = some (.int .i64 U)) := fun w' h => HGC.out w' (HC8.out.drew.trans (h.mono HC8.out.drew.size))
  have HGS := Lib.hid hGs
  clear hb hox hri HDF HR1' HR2 hGs HC7
  go_wp2_with fail
  go_region_held3 (fun w' => w'.cell? ⟨w.heap.size, 0, none⟩ = some (.int .i64 (n : Int)) ∧ w'.cell? ⟨w.heap.size, 1, none⟩ = some (.int .i64 F) ∧ w'.cell? ⟨w.heap.size, 2, none⟩ = some (.int .i64 C) ∧ w'.cell? ⟨w.heap.size, 3, none⟩ = some (.int .i64 U))
    (exact HGS.out _ hG)
    (first
    | (go_at_call 29; with_reducible refine (HM.out _).mono ?_; rintro r wk ⟨rfl, hb⟩; replace hG := hG.trans (hb.mono hG.size); clear hb))
  rename_i hHeld
  clear hHeld
  have HG := Lib.hid (HB8.out.drew.trans (hG.mono HB8.out.drew.size))
  have HG1 := Lib.hid (HC8.out.drew.trans (hG.mono HC8.out.drew.size))
  have HR1 := Lib.hid ((HR1.out.later (Below.refl _ _).drew).later hG)
  have HR2 := Lib.hid ((HR2'.out.later (Below.refl _ _).drew).later hG)
  have HRX := Lib.hid ((HRX.out.later (Below.refl _ _).drew).later hG)
  clear hG HGS
  go_wp2_with fail
  go_loopw [16, 17] (fun at' i wr => ∃ ka kt : Nat, kt ≤ n ∧ at' = .int .i64 ka ∧ i = .int .i64 kt ∧ ka ≤ xd.length ∧ (∀ j, j < ka → ∀ v, xd[j]? = some v → v < (kt : Int)) ∧ (∀ j, ka ≤ j → ∀ v, xd[j]? = some v → (kt : Int) ≤ v) ∧ Below wk.heap.size wk wr) (fun _ i _ => n - (intOf i).toNat)
  case atStart => exact ⟨0, 0, by omega, rfl, rfl, by omega, fun j h => by omega, fun j _ v hv => (by
    obtain ⟨y, e, _⟩ := HD.out.2.1 v (List.mem_of_getElem? hv)
    omega), Below.refl _ _⟩
  case round =>
    obtain ⟨ka, kt, hkt, rfl, rfl, hka, h1, h2, hB⟩ := hrel
    by_cases hlt : kt < n
    · have y0 : (0 : Int) ≤ (kt : Int) := by omega
      have y1 : (kt : Int) < (n : Int) := by omega
      have hrn := rise_next HD.out.1 h1 h2
      have hrx := HRX.out.later hB
      have hrA := HR1.out.later hB
      have hrB := HR2.out.later hB
      obtain ⟨bA, oA, rfl, _, hcA⟩ := hrA.at0 (by omega)
      obtain ⟨bB, oB, rfl, _, hcB⟩ := hrB.at0 (by omega)
      by_cases hat : xd[ka]? = some (kt : Int)
      · -- told
        have hkl : ka < xd.length := (List.getElem?_eq_some_iff.1 hat).1
        obtain ⟨nx1, nx2⟩ := hrn.1 hat
        obtain ⟨b, off, rfl, _, hcX⟩ := hrx.at0 (by omega)
        have e0 := hcX ka hkl
        rw [hat, Option.getD_some] at e0
        have a0 : (0 : Int) ≤ (ka : Int) := by omega
        have a1 : (ka : Int) < (xd.length : Int) := by omega
        have hne : lAt (szL xs n) kt ≠ lAt (szL ys n) kt := by
          obtain ⟨y, e, hy1, hy2⟩ := HD.out.2.1 _ (List.mem_of_getElem? hat)
          obtain rfl : kt = y := by omega
          exact HLF.out kt (by omega) hy2
        have e5 := hcA kt (by omega)
        have e6 := hcB kt (by omega)
        have hgq := fun op u v w => guard_txt op u v (lAt (szL xs n) kt) (lAt (szL ys n) kt) w
        obtain ⟨V1, hV1⟩ : ∃ V, V = Value.string (lAt (szL xs n) kt) := ⟨_, rfl⟩
        obtain ⟨V2, hV2⟩ : ∃ V, V = Value.string (lAt (szL ys n) kt) := ⟨_, rfl⟩
        rw [← hV1] at e5
        rw [← hV2] at e6
        simp only [← hV1, ← hV2] at hgq
        have hq1 : ∀ w, (binOp .eql 9 V1 V2).run Tryd.prog w = .ok (.bool false) w := fun w => by rw [hV1, hV2, eql_txt, decide_eq_false hne]
        have HNX := Lib.hid (And.intro nx1 nx2)
        have HB := Lib.hid (fun nq => below_drewN hB nq)
        clear hcX hcA hcB hrx hrA hrB hrn nx1 nx2 hat hV1 hV2 hne h1 h2 hB
        go_wp2
        go_quiet (fail)
        have HBE := Lib.hid (HB.out nq)
        clear HB e0 e5 e6 hgq hq1
        go_wp2
        go_roundw
        case rel => exact ⟨ka + 1, kt + 1, by omega, by go_num, by go_num, by omega, HNX.out.1, HNX.out.2, HBE.out⟩
        case measure => simp [intOf]; omega
      · by_cases hkl : ka < xd.length
        · obtain ⟨b, off, rfl, _, hcX⟩ := hrx.at0 (by omega)
          have e0 := hcX ka hkl
          obtain ⟨zv, hzv⟩ : ∃ z, z = xd[ka]?.getD 0 := ⟨_, rfl⟩
          have hzk : ¬ zv = (kt : Int) := fun e => hat (by rw [List.getElem?_eq_getElem hkl] at hzv ⊢; rw [← e, hzv]; rfl)
          have q0 : (zv == (kt : Int)) = false := by simpa using hzk
          rw [← hzv] at e0
          clear hzv
          have a0 : (0 : Int) ≤ (ka : Int) := by omega
          have a1 : (ka : Int) < (xd.length : Int) := by omega
          obtain ⟨hnm, nx1, nx2⟩ := hrn.2 hat
          have e5 := hcA kt (by omega)
          have e6 := hcB kt (by omega)
          have hgq := fun op u v w => guard_txt op u v (lAt (szL xs n) kt) (lAt (szL ys n) kt) w
          obtain ⟨V1, hV1⟩ : ∃ V, V = Value.string (lAt (szL xs n) kt) := ⟨_, rfl⟩
          obtain ⟨V2, hV2⟩ : ∃ V, V = Value.string (lAt (szL ys n) kt) := ⟨_, rfl⟩
          rw [← hV1] at e5
          rw [← hV2] at e6
          simp only [← hV1, ← hV2] at hgq
          by_cases hss : lAt (szL xs n) kt = lAt (szL ys n) kt
          · have hq2 : ∀ w, (binOp .neq 9 V1 V2).run Tryd.prog w = .ok (.bool false) w := fun w => by rw [hV1, hV2, neq_txt, decide_eq_true hss]; rfl
            have HNX := Lib.hid (And.intro nx1 nx2)
            have HB := Lib.hid (fun nq => below_drewN hB nq)
            clear hcX hcA hcB hrx hrA hrB hrn nx1 nx2 hat hV1 hV2 hss h1 h2 hB hnm
            go_wp2
            go_quiet (fail)
            have HBE := Lib.hid (HB.out nq)
            clear HB e5 e6 hgq hq2
            go_wp2
            go_roundw
            case rel => exact ⟨ka, kt + 1, by omega, by go_num, by go_num, by omega, HNX.out.1, HNX.out.2, HBE.out⟩
            case measure => simp [intOf]; omega
          · have hq2 : ∀ w, (binOp .neq 9 V1 V2).run Tryd.prog w = .ok (.bool true) w := fun w => by rw [hV1, hV2, neq_txt, decide_eq_false hss]; rfl
            have hpair := HPR.out kt hlt hss (HD.out.2.2 kt (by omega) hnm)
            have htw : ∀ w', Below wk.heap.size wk w' → Calls Tryd.prog 30 #[geo n F C U, .slice (some ⟨w'.heap.size, 0, none⟩) 2 2] (w'.alloc (.cells #[.slice (some ⟨bA, oA, none⟩) n cv, .slice (some ⟨bB, oB, none⟩) n dv] 24)) fun e w'' => e = .returned (.bool true) ∧ Below w'.heap.size w' w'' := fun w' hb => by
              have hal : Below w'.heap.size w' (w'.alloc (.cells #[.slice (some ⟨bA, oA, none⟩) n cv, .slice (some ⟨bB, oB, none⟩) n dv] 24)) := (Below.refl _ _).alloc (Nat.le_refl _) _
              have hbk : (w'.alloc (.cells #[.slice (some ⟨bA, oA, none⟩) n cv, .slice (some ⟨bB, oB, none⟩) n dv] 24)).heap[w'.heap.size]? = some (.cells #[.slice (some ⟨bA, oA, none⟩) n cv, .slice (some ⟨bB, oB, none⟩) n dv] 24 (0, 0)) := heap_alloc_new w' _
              refine (rtwins_any n F C U (fun i => if i = 0 then some ⟨bA, oA, none⟩ else some ⟨bB, oB, none⟩) (fun i => if i = 0 then cv else dv) (fun i => if i = 0 then szL xs n else szL ys n) (fun i => if i = 0 then treeL n F C U (szL xs n) else treeL n F C U (szL ys n)) w'.heap.size _ HOK.out (fun i hi => ?_) (by simp) ?_).mono ?_
              · have hi' : i = 0 ∨ i = 1 := by omega
                rcases hi' with rfl | rfl
                · exact ⟨by rw [cell_of_blk hbk]; rfl, (HR1.out.later hb).later hal, szL_size xs n, rfl⟩
                · exact ⟨by rw [cell_of_blk hbk]; rfl, (HR2.out.later hb).later hal, szL_size ys n, rfl⟩
              · simpa using hpair
              · rintro e w'' ⟨h1, h2⟩
                exact ⟨h1, hal.trans (h2.mono hal.size)⟩
            unfold geo at htw
            have htw2 : Calls Tryd.prog 30 #[.agg #[.int .i64 (n : Int), .int .i64 F, .int .i64 C, .int .i64 U], .slice (some ⟨wr.heap.size, 0, none⟩) 2 2] ((wr.alloc (.cells #[.slice (some ⟨bA, oA, none⟩) n cv, .slice (some ⟨bB, oB, none⟩) n dv] 24)).drew) fun e w'' => e = .returned (.bool true) ∧ Below wr.drew.heap.size wr.drew w'' := htw wr.drew hB.drew
            have HTW := Lib.hid htw2
            have HNX := Lib.hid (And.intro nx1 nx2)
            have hG : Below wk.heap.size wk wr.drew := hB.drew
            have hS : ∀ w', Below wk.heap.size wk w' → (w'.cell? ⟨w.heap.size, 0, none⟩ = some (.int .i64 (n : Int)) ∧ w'.cell? ⟨w.heap.size, 1, none⟩ = some (.int .i64 F) ∧ w'.cell? ⟨w.heap.size, 2, none⟩ = some (.int .i64 C) ∧ w'.cell? ⟨w.heap.size, 3, none⟩ = some (.int .i64 U) ∧ w'.cell? ⟨bA, oA + kt, none⟩ = some V1 ∧ w'.cell? ⟨bB, oB + kt, none⟩ = some V2) := fun w' hb => by
              obtain ⟨g0, g1, g2, g3⟩ := HGC.out w' (HG1.out.trans (hb.mono HG1.out.size))
              obtain ⟨_, _, e1, _, q1⟩ := (HR1.out.later hb).at0 (by omega)
              obtain ⟨_, _, e2, _, q2⟩ := (HR2.out.later hb).at0 (by omega)
              cases e1
              cases e2
              exact ⟨g0, g1, g2, g3, by rw [hV1]; exact q1 kt hlt, by rw [hV2]; exact q2 kt hlt⟩
            have HSS := Lib.hid hS
            clear hcX hcA hcB hrx hrA hrB hrn nx1 nx2 hat hV1 hV2 hss h1 h2 hB hnm hpair htw htw2 hS
            go_wp2
            refine wp_region_held_drew (S := (fun w' => w'.cell? ⟨w.heap.size, 0, none⟩ = some (.int .i64 (n : Int)) ∧ w'.cell? ⟨w.heap.size, 1, none⟩ = some (.int .i64 F) ∧ w'.cell? ⟨w.heap.size, 2, none⟩ = some (.int .i64 C) ∧ w'.cell? ⟨w.heap.size, 3, none⟩ = some (.int .i64 U) ∧ w'.cell? ⟨bA, oA + kt, none⟩ = some V1 ∧ w'.cell? ⟨bB, oB + kt, none⟩ = some V2)) (by kernel_rfl) (HSS.out _ hG) (fun hHeld => ?_)
            refine wpAnyH_take (i := 0) (oi := { dst := some 95, op := Op.move (Operand.tmp 18), type := 4, pos := "law.go:155", after := #[], guard := none }) (v := ?_) rfl (by kernel_rfl) (by kernel_rfl) (by kernel_rfl) (fun _ _ _ h => h) (Or.inl ⟨by rfl, ?_⟩) (by assumption) ?_
            rotate_left
            · (intro w hSw; (try dsimp only at hSw); go_simp <;> with_reducible rfl)
            try simp only [Act.put, List.setIfInBounds_toArray, List.set_cons_zero, List.set_cons_succ]
            refine wpAnyH_take (i := 1) (oi := { dst := some 96, op := Op.move (Operand.tmp 95), type := 4, pos := "law.go:155", after := #[{ on := 0, ground := Ground.data }], guard := none }) (v := ?_) rfl (by kernel_rfl) (by kernel_rfl) (by kernel_rfl) (fun _ _ _ h => h) (Or.inl ⟨by rfl, ?_⟩) (by assumption) ?_
            rotate_left
            · (intro w hSw; (try dsimp only at hSw); go_simp <;> with_reducible rfl)
            try simp only [Act.put, List.setIfInBounds_toArray, List.set_cons_zero, List.set_cons_succ]
            refine wpAnyH_take (i := 2) (oi := { dst := some 97, op := Op.move (Operand.tmp 7), type := 24, pos := "law.go:155", after := #[{ on := 1, ground := Ground.guard }], guard := some (1, true) }) (v := undef) rfl (by kernel_rfl) (by kernel_rfl) (by kernel_rfl) (fun _ _ _ h => h) (Or.inr ⟨by rfl, rfl⟩) (by assumption) ?_
            try simp only [Act.put, List.setIfInBounds_toArray, List.set_cons_zero, List.set_cons_succ]
            refine wpAnyH_take (i := 3) (oi := { dst := some 98, op := Op.move (Operand.tmp 17), type := 3, pos := "law.go:155", after := #[{ on := 1, ground := Ground.guard }], guard := some (1, true) }) (v := undef) rfl (by kernel_rfl) (by kernel_rfl) (by kernel_rfl) (fun _ _ _ h => h) (Or.inr ⟨by rfl, rfl⟩) (by assumption) ?_
            try simp only [Act.put, List.setIfInBounds_toArray, List.set_cons_zero, List.set_cons_succ]
            refine wpAnyH_take (i := 4) (oi := { dst := some 99, op := Op.indexAddr 24 (Operand.tmp 97) (Operand.tmp 98), type := 0, pos := "law.go:155", after := #[{ on := 2, ground := Ground.data }, { on := 3, ground := Ground.data }, { on := 1, ground := Ground.guard }], guard := some (1, true) }) (v := undef) rfl (by kernel_rfl) (by kernel_rfl) (by kernel_rfl) (fun _ _ _ h => h) (Or.inr ⟨by rfl, rfl⟩) (by assumption) ?_
            try simp only [Act.put, List.setIfInBounds_toArray, List.set_cons_zero, List.set_cons_succ]
            refine wpAnyH_take (i := 5) (oi := { dst := some 100, op := Op.load 9 (Operand.tmp 99), type := 9, pos := "law.go:155", after := #[{ on := 4, ground := Ground.data }, { on := 1, ground := Ground.guard }], guard := some (1, true) }) (v := undef) rfl (by kernel_rfl) (by kernel_rfl) (by kernel_rfl) (fun _ _ _ h => h) (Or.inr ⟨by rfl, rfl⟩) (by assumption) ?_
            try simp only [Act.put, List.setIfInBounds_toArray, List.set_cons_zero, List.set_cons_succ]
            refine wpAnyH_take (i := 6) (oi := { dst := some 101, op := Op.move (Operand.tmp 8), type := 24, pos := "law.go:155", after := #[{ on := 1, ground := Ground.guard }], guard := some (1, true) }) (v := undef) rfl (by kernel_rfl) (by kernel_rfl) (by kernel_rfl) (fun _ _ _ h => h) (Or.inr ⟨by rfl, rfl⟩) (by assumption) ?_
            try simp only [Act.put, List.setIfInBounds_toArray, List.set_cons_zero, List.set_cons_succ]
            refine wpAnyH_take (i := 7) (oi := { dst := some 102, op := Op.move (Operand.tmp 17), type := 3, pos := "law.go:155", after := #[{ on := 1, ground := Ground.guard }], guard := some (1, true) }) (v := undef) rfl (by kernel_rfl) (by kernel_rfl) (by kernel_rfl) (fun _ _ _ h => h) (Or.inr ⟨by rfl, rfl⟩) (by assumption) ?_
            try simp only [Act.put, List.setIfInBounds_toArray, List.set_cons_zero, List.set_cons_succ]
            refine wpAnyH_take (i := 8) (oi := { dst := some 103, op := Op.indexAddr 24 (Operand.tmp 101) (Operand.tmp 102), type := 0, pos := "law.go:155", after := #[{ on := 6, ground := Ground.data }, { on := 7, ground := Ground.data }, { on := 1, ground := Ground.guard }], guard := some (1, true) }) (v := undef) rfl (by kernel_rfl) (by kernel_rfl) (by kernel_rfl) (fun _ _ _ h => h) (Or.inr ⟨by rfl, rfl⟩) (by assumption) ?_
            try simp only [Act.put, List.setIfInBounds_toArray, List.set_cons_zero, List.set_cons_succ]
            refine wpAnyH_take (i := 9) (oi := { dst := some 104, op := Op.load 9 (Operand.tmp 103), type := 9, pos := "law.go:155", after := #[{ on := 8, ground := Ground.data }, { on := 1, ground := Ground.guard }], guard := some (1, true) }) (v := undef) rfl (by kernel_rfl) (by kernel_rfl) (by kernel_rfl) (fun _ _ _ h => h) (Or.inr ⟨by rfl, rfl⟩) (by assumption) ?_
            try simp only [Act.put, List.setIfInBounds_toArray, List.set_cons_zero, List.set_cons_succ]
            refine wpAnyH_take (i := 10) (oi := { dst := some 105, op := Op.binOp BinOp.eql 9 (Operand.tmp 100) (Operand.tmp 104) 9, type := 4, pos := "law.go:155", after := #[{ on := 5, ground := Ground.data }, { on := 9, ground := Ground.data }, { on := 1, ground := Ground.guard }], guard := some (1, true) }) (v := undef) rfl (by kernel_rfl) (by kernel_rfl) (by kernel_rfl) (fun _ _ _ h => h) (Or.inr ⟨by rfl, rfl⟩) (by assumption) ?_
            try simp only [Act.put, List.setIfInBounds_toArray, List.set_cons_zero, List.set_cons_succ]
            refine wpAnyH_take (i := 11) (oi := { dst := some 106, op := Op.pick (Operand.tmp 96) (Operand.tmp 105) (Operand.const (Value.bool false)), type := 4, pos := "law.go:155", after := #[{ on := 1, ground := Ground.data }, { on := 10, ground := Ground.data }], guard := none }) (v := ?_) rfl (by kernel_rfl) (by kernel_rfl) (by kernel_rfl) (fun _ _ _ h => h) (Or.inl ⟨by rfl, ?_⟩) (by assumption) ?_
            rotate_left
            · (intro w hSw; (try dsimp only at hSw); go_simp <;> with_reducible rfl)
            try simp only [Act.put, List.setIfInBounds_toArray, List.set_cons_zero, List.set_cons_succ]
            refine wpAnyH_take (i := 12) (oi := { dst := some 107, op := Op.move (Operand.tmp 106), type := 4, pos := "law.go:155", after := #[{ on := 11, ground := Ground.data }, { on := 1, ground := Ground.chain }], guard := none }) (v := ?_) rfl (by kernel_rfl) (by kernel_rfl) (by kernel_rfl) (fun _ _ _ h => h) (Or.inl ⟨by rfl, ?_⟩) (by assumption) ?_
            rotate_left
            · (intro w hSw; (try dsimp only at hSw); go_simp <;> with_reducible rfl)
            try simp only [Act.put, List.setIfInBounds_toArray, List.set_cons_zero, List.set_cons_succ]
            refine wpAnyH_take (i := 13) (oi := { dst := some 108, op := Op.move (Operand.tmp 18), type := 4, pos := "law.go:155", after := #[{ on := 12, ground := Ground.guard }], guard := some (12, false) }) (v := ?_) rfl (by kernel_rfl) (by kernel_rfl) (by kernel_rfl) (fun _ _ _ h => h) (Or.inl ⟨by rfl, ?_⟩) (by assumption) ?_
            rotate_left
            · (intro w hSw; (try dsimp only at hSw); go_simp <;> with_reducible rfl)
            try simp only [Act.put, List.setIfInBounds_toArray, List.set_cons_zero, List.set_cons_succ]
            refine wpAnyH_take (i := 14) (oi := { dst := some 109, op := Op.unOp UnOp.not 4 (Operand.tmp 108), type := 4, pos := "law.go:155", after := #[{ on := 13, ground := Ground.data }, { on := 12, ground := Ground.guard }], guard := some (12, false) }) (v := ?_) rfl (by kernel_rfl) (by kernel_rfl) (by kernel_rfl) (fun _ _ _ h => h) (Or.inl ⟨by rfl, ?_⟩) (by assumption) ?_
            rotate_left
            · (intro w hSw; (try dsimp only at hSw); go_simp <;> with_reducible rfl)
            try simp only [Act.put, List.setIfInBounds_toArray, List.set_cons_zero, List.set_cons_succ]
            refine wpAnyH_take (i := 15) (oi := { dst := some 110, op := Op.move (Operand.tmp 109), type := 4, pos := "law.go:155", after := #[{ on := 14, ground := Ground.data }, { on := 12, ground := Ground.chain }, { on := 12, ground := Ground.guard }], guard := some (12, false) }) (v := ?_) rfl (by kernel_rfl) (by kernel_rfl) (by kernel_rfl) (fun _ _ _ h => h) (Or.inl ⟨by rfl, ?_⟩) (by assumption) ?_
            rotate_left
            · (intro w hSw; (try dsimp only at hSw); go_simp <;> with_reducible rfl)
            try simp only [Act.put, List.setIfInBounds_toArray, List.set_cons_zero, List.set_cons_succ]
            refine wpAnyH_take (i := 16) (oi := { dst := some 111, op := Op.move (Operand.tmp 7), type := 24, pos := "law.go:155", after := #[{ on := 15, ground := Ground.guard }], guard := some (15, true) }) (v := ?_) rfl (by kernel_rfl) (by kernel_rfl) (by kernel_rfl) (fun _ _ _ h => h) (Or.inl ⟨by rfl, ?_⟩) (by assumption) ?_
            rotate_left
            · (intro w hSw; (try dsimp only at hSw); go_simp <;> with_reducible rfl)
            try simp only [Act.put, List.setIfInBounds_toArray, List.set_cons_zero, List.set_cons_succ]
            refine wpAnyH_take (i := 17) (oi := { dst := some 112, op := Op.move (Operand.tmp 17), type := 3, pos := "law.go:155", after := #[{ on := 15, ground := Ground.guard }], guard := some (15, true) }) (v := ?_) rfl (by kernel_rfl) (by kernel_rfl) (by kernel_rfl) (fun _ _ _ h => h) (Or.inl ⟨by rfl, ?_⟩) (by assumption) ?_
            rotate_left
            · (intro w hSw; (try dsimp only at hSw); go_simp <;> with_reducible rfl)
            try simp only [Act.put, List.setIfInBounds_toArray, List.set_cons_zero, List.set_cons_succ]
            refine wpAnyH_take (i := 18) (oi := { dst := some 113, op := Op.indexAddr 24 (Operand.tmp 111) (Operand.tmp 112), type := 0, pos := "law.go:155", after := #[{ on := 16, ground := Ground.data }, { on := 17, ground := Ground.data }, { on := 15, ground := Ground.guard }], guard := some (15, true) }) (v := ?_) rfl (by kernel_rfl) (by kernel_rfl) (by kernel_rfl) (fun _ _ _ h => h) (Or.inl ⟨by rfl, ?_⟩) (by assumption) ?_
            rotate_left
            · (intro w hSw; (try dsimp only at hSw); go_simp <;> with_reducible rfl)
            try simp only [Act.put, List.setIfInBounds_toArray, List.set_cons_zero, List.set_cons_succ]
            refine wpAnyH_take (i := 19) (oi := { dst := some 114, op := Op.load 9 (Operand.tmp 113), type := 9, pos := "law.go:155", after := #[{ on := 18, ground := Ground.data }, { on := 15, ground := Ground.guard }], guard := some (15, true) }) (v := ?_) rfl (by kernel_rfl) (by kernel_rfl) (by kernel_rfl) (fun _ _ _ h => h) (Or.inl ⟨by rfl, ?_⟩) (by assumption) ?_
            rotate_left
            · (intro w hSw; (try dsimp only at hSw); go_simp <;> with_reducible rfl)
            try simp only [Act.put, List.setIfInBounds_toArray, List.set_cons_zero, List.set_cons_succ]
            refine wpAnyH_take (i := 20) (oi := { dst := some 115, op := Op.move (Operand.tmp 8), type := 24, pos := "law.go:155", after := #[{ on := 15, ground := Ground.guard }], guard := some (15, true) }) (v := ?_) rfl (by kernel_rfl) (by kernel_rfl) (by kernel_rfl) (fun _ _ _ h => h) (Or.inl ⟨by rfl, ?_⟩) (by assumption) ?_
            rotate_left
            · (intro w hSw; (try dsimp only at hSw); go_simp <;> with_reducible rfl)
            try simp only [Act.put, List.setIfInBounds_toArray, List.set_cons_zero, List.set_cons_succ]
            refine wpAnyH_take (i := 21) (oi := { dst := some 116, op := Op.move (Operand.tmp 17), type := 3, pos := "law.go:155", after := #[{ on := 15, ground := Ground.guard }], guard := some (15, true) }) (v := ?_) rfl (by kernel_rfl) (by kernel_rfl) (by kernel_rfl) (fun _ _ _ h => h) (Or.inl ⟨by rfl, ?_⟩) (by assumption) ?_
            rotate_left
            · (intro w hSw; (try dsimp only at hSw); go_simp <;> with_reducible rfl)
            try simp only [Act.put, List.setIfInBounds_toArray, List.set_cons_zero, List.set_cons_succ]
            refine wpAnyH_take (i := 22) (oi := { dst := some 117, op := Op.indexAddr 24 (Operand.tmp 115) (Operand.tmp 116), type := 0, pos := "law.go:155", after := #[{ on := 20, ground := Ground.data }, { on := 21, ground := Ground.data }, { on := 15, ground := Ground.guard }], guard := some (15, true) }) (v := ?_) rfl (by kernel_rfl) (by kernel_rfl) (by kernel_rfl) (fun _ _ _ h => h) (Or.inl ⟨by rfl, ?_⟩) (by assumption) ?_
            rotate_left
            · (intro w hSw; (try dsimp only at hSw); go_simp <;> with_reducible rfl)
            try simp only [Act.put, List.setIfInBounds_toArray, List.set_cons_zero, List.set_cons_succ]
            refine wpAnyH_take (i := 23) (oi := { dst := some 118, op := Op.load 9 (Operand.tmp 117), type := 9, pos := "law.go:155", after := #[{ on := 22, ground := Ground.data }, { on := 15, ground := Ground.guard }], guard := some (15, true) }) (v := ?_) rfl (by kernel_rfl) (by kernel_rfl) (by kernel_rfl) (fun _ _ _ h => h) (Or.inl ⟨by rfl, ?_⟩) (by assumption) ?_
            rotate_left
            · (intro w hSw; (try dsimp only at hSw); go_simp <;> with_reducible rfl)
            try simp only [Act.put, List.setIfInBounds_toArray, List.set_cons_zero, List.set_cons_succ]
            refine wpAnyH_take (i := 24) (oi := { dst := some 119, op := Op.binOp BinOp.neq 9 (Operand.tmp 114) (Operand.tmp 118) 9, type := 4, pos := "law.go:155", after := #[{ on := 19, ground := Ground.data }, { on := 23, ground := Ground.data }, { on := 15, ground := Ground.guard }], guard := some (15, true) }) (v := ?_) rfl (by kernel_rfl) (by kernel_rfl) (by kernel_rfl) (fun _ _ _ h => h) (Or.inl ⟨by rfl, ?_⟩) (by assumption) ?_
            rotate_left
            · (intro w hSw; (try dsimp only at hSw); go_simp <;> with_reducible rfl)
            try simp only [Act.put, List.setIfInBounds_toArray, List.set_cons_zero, List.set_cons_succ]
            refine wpAnyH_take (i := 25) (oi := { dst := some 120, op := Op.pick (Operand.tmp 110) (Operand.tmp 119) (Operand.const (Value.bool false)), type := 4, pos := "law.go:155", after := #[{ on := 15, ground := Ground.data }, { on := 24, ground := Ground.data }, { on := 12, ground := Ground.guard }], guard := some (12, false) }) (v := ?_) rfl (by kernel_rfl) (by kernel_rfl) (by kernel_rfl) (fun _ _ _ h => h) (Or.inl ⟨by rfl, ?_⟩) (by assumption) ?_
            rotate_left
            · (intro w hSw; (try dsimp only at hSw); go_simp <;> with_reducible rfl)
            try simp only [Act.put, List.setIfInBounds_toArray, List.set_cons_zero, List.set_cons_succ]
            refine wpAnyH_take (i := 26) (oi := { dst := some 121, op := Op.move (Operand.tmp 120), type := 4, pos := "law.go:155", after := #[{ on := 25, ground := Ground.data }, { on := 15, ground := Ground.chain }, { on := 12, ground := Ground.guard }], guard := some (12, false) }) (v := ?_) rfl (by kernel_rfl) (by kernel_rfl) (by kernel_rfl) (fun _ _ _ h => h) (Or.inl ⟨by rfl, ?_⟩) (by assumption) ?_
            rotate_left
            · (intro w hSw; (try dsimp only at hSw); go_simp <;> with_reducible rfl)
            try simp only [Act.put, List.setIfInBounds_toArray, List.set_cons_zero, List.set_cons_succ]
            refine wpAnyH_take (i := 27) (oi := { dst := some 122, op := Op.load 23 (Operand.tmp 3), type := 23, pos := "law.go:155", after := #[{ on := 26, ground := Ground.guard }], guard := some (26, true) }) (v := ?_) rfl (by kernel_rfl) (by kernel_rfl) (by kernel_rfl) (fun _ _ _ h => h) (Or.inl ⟨by rfl, ?_⟩) (by assumption) ?_
            rotate_left
            · (intro w hSw; (try dsimp only at hSw); go_simp <;> with_reducible rfl)
            try simp only [Act.put, List.setIfInBounds_toArray, List.set_cons_zero, List.set_cons_succ]
            refine wpAnyH_take (i := 28) (oi := { dst := some 123, op := Op.move (Operand.tmp 7), type := 24, pos := "law.go:155", after := #[{ on := 26, ground := Ground.guard }], guard := some (26, true) }) (v := ?_) rfl (by kernel_rfl) (by kernel_rfl) (by kernel_rfl) (fun _ _ _ h => h) (Or.inl ⟨by rfl, ?_⟩) (by assumption) ?_
            rotate_left
            · (intro w hSw; (try dsimp only at hSw); go_simp <;> with_reducible rfl)
            try simp only [Act.put, List.setIfInBounds_toArray, List.set_cons_zero, List.set_cons_succ]
            refine wpAnyH_take (i := 29) (oi := { dst := some 124, op := Op.move (Operand.tmp 8), type := 24, pos := "law.go:155", after := #[{ on := 26, ground := Ground.guard }], guard := some (26, true) }) (v := ?_) rfl (by kernel_rfl) (by kernel_rfl) (by kernel_rfl) (fun _ _ _ h => h) (Or.inl ⟨by rfl, ?_⟩) (by assumption) ?_
            rotate_left
            · (intro w hSw; (try dsimp only at hSw); go_simp <;> with_reducible rfl)
            try simp only [Act.put, List.setIfInBounds_toArray, List.set_cons_zero, List.set_cons_succ]
            refine wpAnyH_ready (rs := [30]) (by kernel_rfl) (by simp) ?_
            refine AllReadyH.cons (o := { dst := some 125, op := Op.buildSlice 56 2 #[(0, Operand.tmp 123), (1, Operand.tmp 124)], type := 56, pos := "law.go:155", after := #[{ on := 28, ground := Ground.data }, { on := 29, ground := Ground.data }, { on := 26, ground := Ground.guard }], guard := some (26, true) }) rfl (fun K hK => ?_) AllReadyH.nil
            go_simp
            refine hK.out _ _ (HSS.out _ (hG.alloc hG.size _)) (fun hHeld => ?_)
            clear hK K
            try simp only [Act.put, List.setIfInBounds_toArray, List.set_cons_zero, List.set_cons_succ]
            refine wpAnyH_ready (rs := [31]) (by kernel_rfl) (by simp) ?_
            refine AllReadyH.cons (o := { dst := some 126, op := Op.call { callee := Callee.value (Operand.func 30), args := #[Operand.tmp 122, Operand.tmp 125], argTypes := #[23, 56] }, type := 4, pos := "law.go:155", after := #[{ on := 27, ground := Ground.data }, { on := 30, ground := Ground.data }, { on := 26, ground := Ground.chain }, { on := 26, ground := Ground.guard }], guard := some (26, true) }) rfl (fun K hK => ?_) AllReadyH.nil
            go_simp
            go_at_call 30
            with_reducible refine HTW.out.mono ?_
            rintro r w' ⟨rfl, hb⟩
            replace hG := hG.trans (hb.mono hG.size)
            clear hb
            refine hK.out _ _ (HSS.out _ hG) (fun hHeld => ?_)
            clear hK K
            try simp only [Act.put, List.setIfInBounds_toArray, List.set_cons_zero, List.set_cons_succ]
            refine wpAnyH_take (i := 32) (oi := { dst := some 127, op := Op.unOp UnOp.not 4 (Operand.tmp 126), type := 4, pos := "law.go:155", after := #[{ on := 31, ground := Ground.data }, { on := 26, ground := Ground.guard }], guard := some (26, true) }) (v := ?_) rfl (by kernel_rfl) (by kernel_rfl) (by kernel_rfl) (fun _ _ _ h => h) (Or.inl ⟨by rfl, ?_⟩) (by assumption) ?_
            rotate_left
            · (intro w hSw; (try dsimp only at hSw); go_simp <;> with_reducible rfl)
            try simp only [Act.put, List.setIfInBounds_toArray, List.set_cons_zero, List.set_cons_succ]
            refine wpAnyH_take (i := 33) (oi := { dst := some 128, op := Op.pick (Operand.tmp 121) (Operand.tmp 127) (Operand.const (Value.bool false)), type := 4, pos := "law.go:155", after := #[{ on := 26, ground := Ground.data }, { on := 32, ground := Ground.data }, { on := 12, ground := Ground.guard }], guard := some (12, false) }) (v := ?_) rfl (by kernel_rfl) (by kernel_rfl) (by kernel_rfl) (fun _ _ _ h => h) (Or.inl ⟨by rfl, ?_⟩) (by assumption) ?_
            rotate_left
            · (intro w hSw; (try dsimp only at hSw); go_simp <;> with_reducible rfl)
            try simp only [Act.put, List.setIfInBounds_toArray, List.set_cons_zero, List.set_cons_succ]
            refine wpAnyH_take (i := 34) (oi := { dst := some 129, op := Op.pick (Operand.tmp 107) (Operand.const (Value.bool true)) (Operand.tmp 128), type := 4, pos := "law.go:155", after := #[{ on := 12, ground := Ground.data }, { on := 33, ground := Ground.data }], guard := none }) (v := ?_) rfl (by kernel_rfl) (by kernel_rfl) (by kernel_rfl) (fun _ _ _ h => h) (Or.inl ⟨by rfl, ?_⟩) (by assumption) ?_
            rotate_left
            · (intro w hSw; (try dsimp only at hSw); go_simp <;> with_reducible rfl)
            try simp only [Act.put, List.setIfInBounds_toArray, List.set_cons_zero, List.set_cons_succ]
            refine wpAnyH_done (by kernel_rfl) ?_ _
            have HBE := Lib.hid hG
            clear hG e5 e6 hgq hq2
            go_wp2
            go_roundw
            case rel => exact ⟨ka, kt + 1, by omega, by go_num, by go_num, by omega, HNX.out.1, HNX.out.2, HBE.out⟩
            case measure => simp [intOf]; omega
        · have hcX : True := trivial
          have a1 : ¬ ((ka : Int) < (xd.length : Int)) := by omega
          obtain ⟨hnm, nx1, nx2⟩ := hrn.2 hat
          have e5 := hcA kt (by omega)
          have e6 := hcB kt (by omega)
          have hgq := fun op u v w => guard_txt op u v (lAt (szL xs n) kt) (lAt (szL ys n) kt) w
          obtain ⟨V1, hV1⟩ : ∃ V, V = Value.string (lAt (szL xs n) kt) := ⟨_, rfl⟩
          obtain ⟨V2, hV2⟩ : ∃ V, V = Value.string (lAt (szL ys n) kt) := ⟨_, rfl⟩
          rw [← hV1] at e5
          rw [← hV2] at e6
          simp only [← hV1, ← hV2] at hgq
          by_cases hss : lAt (szL xs n) kt = lAt (szL ys n) kt
          · have hq2 : ∀ w, (binOp .neq 9 V1 V2).run Tryd.prog w = .ok (.bool false) w := fun w => by rw [hV1, hV2, neq_txt, decide_eq_true hss]; rfl
            have HNX := Lib.hid (And.intro nx1 nx2)
            have HB := Lib.hid (fun nq => below_drewN hB nq)
            clear hcX hcA hcB hrx hrA hrB hrn nx1 nx2 hat hV1 hV2 hss h1 h2 hB hnm
            go_wp2
            go_quiet (fail)
            have HBE := Lib.hid (HB.out nq)
            clear HB e5 e6 hgq hq2
            go_wp2
            go_roundw
            case rel => exact ⟨ka, kt + 1, by omega, by go_num, by go_num, by omega, HNX.out.1, HNX.out.2, HBE.out⟩
            case measure => simp [intOf]; omega
          · have hq2 : ∀ w, (binOp .neq 9 V1 V2).run Tryd.prog w = .ok (.bool true) w := fun w => by rw [hV1, hV2, neq_txt, decide_eq_false hss]; rfl
            have hpair := HPR.out kt hlt hss (HD.out.2.2 kt (by omega) hnm)
            have htw : ∀ w', Below wk.heap.size wk w' → Calls Tryd.prog 30 #[geo n F C U, .slice (some ⟨w'.heap.size, 0, none⟩) 2 2] (w'.alloc (.cells #[.slice (some ⟨bA, oA, none⟩) n cv, .slice (some ⟨bB, oB, none⟩) n dv] 24)) fun e w'' => e = .returned (.bool true) ∧ Below w'.heap.size w' w'' := fun w' hb => by
              have hal : Below w'.heap.size w' (w'.alloc (.cells #[.slice (some ⟨bA, oA, none⟩) n cv, .slice (some ⟨bB, oB, none⟩) n dv] 24)) := (Below.refl _ _).alloc (Nat.le_refl _) _
              have hbk : (w'.alloc (.cells #[.slice (some ⟨bA, oA, none⟩) n cv, .slice (some ⟨bB, oB, none⟩) n dv] 24)).heap[w'.heap.size]? = some (.cells #[.slice (some ⟨bA, oA, none⟩) n cv, .slice (some ⟨bB, oB, none⟩) n dv] 24 (0, 0)) := heap_alloc_new w' _
              refine (rtwins_any n F C U (fun i => if i = 0 then some ⟨bA, oA, none⟩ else some ⟨bB, oB, none⟩) (fun i => if i = 0 then cv else dv) (fun i => if i = 0 then szL xs n else szL ys n) (fun i => if i = 0 then treeL n F C U (szL xs n) else treeL n F C U (szL ys n)) w'.heap.size _ HOK.out (fun i hi => ?_) (by simp) ?_).mono ?_
              · have hi' : i = 0 ∨ i = 1 := by omega
                rcases hi' with rfl | rfl
                · exact ⟨by rw [cell_of_blk hbk]; rfl, (HR1.out.later hb).later hal, szL_size xs n, rfl⟩
                · exact ⟨by rw [cell_of_blk hbk]; rfl, (HR2.out.later hb).later hal, szL_size ys n, rfl⟩
              · simpa using hpair
              · rintro e w'' ⟨h1, h2⟩
                exact ⟨h1, hal.trans (h2.mono hal.size)⟩
            unfold geo at htw
            have htw2 : Calls Tryd.prog 30 #[.agg #[.int .i64 (n : Int), .int .i64 F, .int .i64 C, .int .i64 U], .slice (some ⟨wr.heap.size, 0, none⟩) 2 2] ((wr.alloc (.cells #[.slice (some ⟨bA, oA, none⟩) n cv, .slice (some ⟨bB, oB, none⟩) n dv] 24)).drew) fun e w'' => e = .returned (.bool true) ∧ Below wr.drew.heap.size wr.drew w'' := htw wr.drew hB.drew
            have HTW := Lib.hid htw2
            have HNX := Lib.hid (And.intro nx1 nx2)
            have hG : Below wk.heap.size wk wr.drew := hB.drew
            have hS : ∀ w', Below wk.heap.size wk w' → (w'.cell? ⟨w.heap.size, 0, none⟩ = some (.int .i64 (n : Int)) ∧ w'.cell? ⟨w.heap.size, 1, none⟩ = some (.int .i64 F) ∧ w'.cell? ⟨w.heap.size, 2, none⟩ = some (.int .i64 C) ∧ w'.cell? ⟨w.heap.size, 3, none⟩ = some (.int .i64 U) ∧ w'.cell? ⟨bA, oA + kt, none⟩ = some V1 ∧ w'.cell? ⟨bB, oB + kt, none⟩ = some V2) := fun w' hb => by
              obtain ⟨g0, g1, g2, g3⟩ := HGC.out w' (HG1.out.trans (hb.mono HG1.out.size))
              obtain ⟨_, _, e1, _, q1⟩ := (HR1.out.later hb).at0 (by omega)
              obtain ⟨_, _, e2, _, q2⟩ := (HR2.out.later hb).at0 (by omega)
              cases e1
              cases e2
              exact ⟨g0, g1, g2, g3, by rw [hV1]; exact q1 kt hlt, by rw [hV2]; exact q2 kt hlt⟩
            have HSS := Lib.hid hS
            clear hcX hcA hcB hrx hrA hrB hrn nx1 nx2 hat hV1 hV2 hss h1 h2 hB hnm hpair htw htw2 hS
            go_wp2
            refine wp_region_held_drew (S := (fun w' => w'.cell? ⟨w.heap.size, 0, none⟩ = some (.int .i64 (n : Int)) ∧ w'.cell? ⟨w.heap.size, 1, none⟩ = some (.int .i64 F) ∧ w'.cell? ⟨w.heap.size, 2, none⟩ = some (.int .i64 C) ∧ w'.cell? ⟨w.heap.size, 3, none⟩ = some (.int .i64 U) ∧ w'.cell? ⟨bA, oA + kt, none⟩ = some V1 ∧ w'.cell? ⟨bB, oB + kt, none⟩ = some V2)) (by kernel_rfl) (HSS.out _ hG) (fun hHeld => ?_)
            refine wpAnyH_take (i := 0) (oi := { dst := some 95, op := Op.move (Operand.tmp 18), type := 4, pos := "law.go:155", after := #[], guard := none }) (v := ?_) rfl (by kernel_rfl) (by kernel_rfl) (by kernel_rfl) (fun _ _ _ h => h) (Or.inl ⟨by rfl, ?_⟩) (by assumption) ?_
            rotate_left
            · (intro w hSw; (try dsimp only at hSw); go_simp <;> with_reducible rfl)
            try simp only [Act.put, List.setIfInBounds_toArray, List.set_cons_zero, List.set_cons_succ]
            refine wpAnyH_take (i := 1) (oi := { dst := some 96, op := Op.move (Operand.tmp 95), type := 4, pos := "law.go:155", after := #[{ on := 0, ground := Ground.data }], guard := none }) (v := ?_) rfl (by kernel_rfl) (by kernel_rfl) (by kernel_rfl) (fun _ _ _ h => h) (Or.inl ⟨by rfl, ?_⟩) (by assumption) ?_
            rotate_left
            · (intro w hSw; (try dsimp only at hSw); go_simp <;> with_reducible rfl)
            try simp only [Act.put, List.setIfInBounds_toArray, List.set_cons_zero, List.set_cons_succ]
            refine wpAnyH_take (i := 2) (oi := { dst := some 97, op := Op.move (Operand.tmp 7), type := 24, pos := "law.go:155", after := #[{ on := 1, ground := Ground.guard }], guard := some (1, true) }) (v := undef) rfl (by kernel_rfl) (by kernel_rfl) (by kernel_rfl) (fun _ _ _ h => h) (Or.inr ⟨by rfl, rfl⟩) (by assumption) ?_
            try simp only [Act.put, List.setIfInBounds_toArray, List.set_cons_zero, List.set_cons_succ]
            refine wpAnyH_take (i := 3) (oi := { dst := some 98, op := Op.move (Operand.tmp 17), type := 3, pos := "law.go:155", after := #[{ on := 1, ground := Ground.guard }], guard := some (1, true) }) (v := undef) rfl (by kernel_rfl) (by kernel_rfl) (by kernel_rfl) (fun _ _ _ h => h) (Or.inr ⟨by rfl, rfl⟩) (by assumption) ?_
            try simp only [Act.put, List.setIfInBounds_toArray, List.set_cons_zero, List.set_cons_succ]
            refine wpAnyH_take (i := 4) (oi := { dst := some 99, op := Op.indexAddr 24 (Operand.tmp 97) (Operand.tmp 98), type := 0, pos := "law.go:155", after := #[{ on := 2, ground := Ground.data }, { on := 3, ground := Ground.data }, { on := 1, ground := Ground.guard }], guard := some (1, true) }) (v := undef) rfl (by kernel_rfl) (by kernel_rfl) (by kernel_rfl) (fun _ _ _ h => h) (Or.inr ⟨by rfl, rfl⟩) (by assumption) ?_
            try simp only [Act.put, List.setIfInBounds_toArray, List.set_cons_zero, List.set_cons_succ]
            refine wpAnyH_take (i := 5) (oi := { dst := some 100, op := Op.load 9 (Operand.tmp 99), type := 9, pos := "law.go:155", after := #[{ on := 4, ground := Ground.data }, { on := 1, ground := Ground.guard }], guard := some (1, true) }) (v := undef) rfl (by kernel_rfl) (by kernel_rfl) (by kernel_rfl) (fun _ _ _ h => h) (Or.inr ⟨by rfl, rfl⟩) (by assumption) ?_
            try simp only [Act.put, List.setIfInBounds_toArray, List.set_cons_zero, List.set_cons_succ]
            refine wpAnyH_take (i := 6) (oi := { dst := some 101, op := Op.move (Operand.tmp 8), type := 24, pos := "law.go:155", after := #[{ on := 1, ground := Ground.guard }], guard := some (1, true) }) (v := undef) rfl (by kernel_rfl) (by kernel_rfl) (by kernel_rfl) (fun _ _ _ h => h) (Or.inr ⟨by rfl, rfl⟩) (by assumption) ?_
            try simp only [Act.put, List.setIfInBounds_toArray, List.set_cons_zero, List.set_cons_succ]
            refine wpAnyH_take (i := 7) (oi := { dst := some 102, op := Op.move (Operand.tmp 17), type := 3, pos := "law.go:155", after := #[{ on := 1, ground := Ground.guard }], guard := some (1, true) }) (v := undef) rfl (by kernel_rfl) (by kernel_rfl) (by kernel_rfl) (fun _ _ _ h => h) (Or.inr ⟨by rfl, rfl⟩) (by assumption) ?_
            try simp only [Act.put, List.setIfInBounds_toArray, List.set_cons_zero, List.set_cons_succ]
            refine wpAnyH_take (i := 8) (oi := { dst := some 103, op := Op.indexAddr 24 (Operand.tmp 101) (Operand.tmp 102), type := 0, pos := "law.go:155", after := #[{ on := 6, ground := Ground.data }, { on := 7, ground := Ground.data }, { on := 1, ground := Ground.guard }], guard := some (1, true) }) (v := undef) rfl (by kernel_rfl) (by kernel_rfl) (by kernel_rfl) (fun _ _ _ h => h) (Or.inr ⟨by rfl, rfl⟩) (by assumption) ?_
            try simp only [Act.put, List.setIfInBounds_toArray, List.set_cons_zero, List.set_cons_succ]
            refine wpAnyH_take (i := 9) (oi := { dst := some 104, op := Op.load 9 (Operand.tmp 103), type := 9, pos := "law.go:155", after := #[{ on := 8, ground := Ground.data }, { on := 1, ground := Ground.guard }], guard := some (1, true) }) (v := undef) rfl (by kernel_rfl) (by kernel_rfl) (by kernel_rfl) (fun _ _ _ h => h) (Or.inr ⟨by rfl, rfl⟩) (by assumption) ?_
            try simp only [Act.put, List.setIfInBounds_toArray, List.set_cons_zero, List.set_cons_succ]
            refine wpAnyH_take (i := 10) (oi := { dst := some 105, op := Op.binOp BinOp.eql 9 (Operand.tmp 100) (Operand.tmp 104) 9, type := 4, pos := "law.go:155", after := #[{ on := 5, ground := Ground.data }, { on := 9, ground := Ground.data }, { on := 1, ground := Ground.guard }], guard := some (1, true) }) (v := undef) rfl (by kernel_rfl) (by kernel_rfl) (by kernel_rfl) (fun _ _ _ h => h) (Or.inr ⟨by rfl, rfl⟩) (by assumption) ?_
            try simp only [Act.put, List.setIfInBounds_toArray, List.set_cons_zero, List.set_cons_succ]
            refine wpAnyH_take (i := 11) (oi := { dst := some 106, op := Op.pick (Operand.tmp 96) (Operand.tmp 105) (Operand.const (Value.bool false)), type := 4, pos := "law.go:155", after := #[{ on := 1, ground := Ground.data }, { on := 10, ground := Ground.data }], guard := none }) (v := ?_) rfl (by kernel_rfl) (by kernel_rfl) (by kernel_rfl) (fun _ _ _ h => h) (Or.inl ⟨by rfl, ?_⟩) (by assumption) ?_
            rotate_left
            · (intro w hSw; (try dsimp only at hSw); go_simp <;> with_reducible rfl)
            try simp only [Act.put, List.setIfInBounds_toArray, List.set_cons_zero, List.set_cons_succ]
            refine wpAnyH_take (i := 12) (oi := { dst := some 107, op := Op.move (Operand.tmp 106), type := 4, pos := "law.go:155", after := #[{ on := 11, ground := Ground.data }, { on := 1, ground := Ground.chain }], guard := none }) (v := ?_) rfl (by kernel_rfl) (by kernel_rfl) (by kernel_rfl) (fun _ _ _ h => h) (Or.inl ⟨by rfl, ?_⟩) (by assumption) ?_
            rotate_left
            · (intro w hSw; (try dsimp only at hSw); go_simp <;> with_reducible rfl)
            try simp only [Act.put, List.setIfInBounds_toArray, List.set_cons_zero, List.set_cons_succ]
            refine wpAnyH_take (i := 13) (oi := { dst := some 108, op := Op.move (Operand.tmp 18), type := 4, pos := "law.go:155", after := #[{ on := 12, ground := Ground.guard }], guard := some (12, false) }) (v := ?_) rfl (by kernel_rfl) (by kernel_rfl) (by kernel_rfl) (fun _ _ _ h => h) (Or.inl ⟨by rfl, ?_⟩) (by assumption) ?_
            rotate_left
            · (intro w hSw; (try dsimp only at hSw); go_simp <;> with_reducible rfl)
            try simp only [Act.put, List.setIfInBounds_toArray, List.set_cons_zero, List.set_cons_succ]
            refine wpAnyH_take (i := 14) (oi := { dst := some 109, op := Op.unOp UnOp.not 4 (Operand.tmp 108), type := 4, pos := "law.go:155", after := #[{ on := 13, ground := Ground.data }, { on := 12, ground := Ground.guard }], guard := some (12, false) }) (v := ?_) rfl (by kernel_rfl) (by kernel_rfl) (by kernel_rfl) (fun _ _ _ h => h) (Or.inl ⟨by rfl, ?_⟩) (by assumption) ?_
            rotate_left
            · (intro w hSw; (try dsimp only at hSw); go_simp <;> with_reducible rfl)
            try simp only [Act.put, List.setIfInBounds_toArray, List.set_cons_zero, List.set_cons_succ]
            refine wpAnyH_take (i := 15) (oi := { dst := some 110, op := Op.move (Operand.tmp 109), type := 4, pos := "law.go:155", after := #[{ on := 14, ground := Ground.data }, { on := 12, ground := Ground.chain }, { on := 12, ground := Ground.guard }], guard := some (12, false) }) (v := ?_) rfl (by kernel_rfl) (by kernel_rfl) (by kernel_rfl) (fun _ _ _ h => h) (Or.inl ⟨by rfl, ?_⟩) (by assumption) ?_
            rotate_left
            · (intro w hSw; (try dsimp only at hSw); go_simp <;> with_reducible rfl)
            try simp only [Act.put, List.setIfInBounds_toArray, List.set_cons_zero, List.set_cons_succ]
            refine wpAnyH_take (i := 16) (oi := { dst := some 111, op := Op.move (Operand.tmp 7), type := 24, pos := "law.go:155", after := #[{ on := 15, ground := Ground.guard }], guard := some (15, true) }) (v := ?_) rfl (by kernel_rfl) (by kernel_rfl) (by kernel_rfl) (fun _ _ _ h => h) (Or.inl ⟨by rfl, ?_⟩) (by assumption) ?_
            rotate_left
            · (intro w hSw; (try dsimp only at hSw); go_simp <;> with_reducible rfl)
            try simp only [Act.put, List.setIfInBounds_toArray, List.set_cons_zero, List.set_cons_succ]
            refine wpAnyH_take (i := 17) (oi := { dst := some 112, op := Op.move (Operand.tmp 17), type := 3, pos := "law.go:155", after := #[{ on := 15, ground := Ground.guard }], guard := some (15, true) }) (v := ?_) rfl (by kernel_rfl) (by kernel_rfl) (by kernel_rfl) (fun _ _ _ h => h) (Or.inl ⟨by rfl, ?_⟩) (by assumption) ?_
            rotate_left
            · (intro w hSw; (try dsimp only at hSw); go_simp <;> with_reducible rfl)
            try simp only [Act.put, List.setIfInBounds_toArray, List.set_cons_zero, List.set_cons_succ]
            refine wpAnyH_take (i := 18) (oi := { dst := some 113, op := Op.indexAddr 24 (Operand.tmp 111) (Operand.tmp 112), type := 0, pos := "law.go:155", after := #[{ on := 16, ground := Ground.data }, { on := 17, ground := Ground.data }, { on := 15, ground := Ground.guard }], guard := some (15, true) }) (v := ?_) rfl (by kernel_rfl) (by kernel_rfl) (by kernel_rfl) (fun _ _ _ h => h) (Or.inl ⟨by rfl, ?_⟩) (by assumption) ?_
            rotate_left
            · (intro w hSw; (try dsimp only at hSw); go_simp <;> with_reducible rfl)
            try simp only [Act.put, List.setIfInBounds_toArray, List.set_cons_zero, List.set_cons_succ]
            refine wpAnyH_take (i := 19) (oi := { dst := some 114, op := Op.load 9 (Operand.tmp 113), type := 9, pos := "law.go:155", after := #[{ on := 18, ground := Ground.data }, { on := 15, ground := Ground.guard }], guard := some (15, true) }) (v := ?_) rfl (by kernel_rfl) (by kernel_rfl) (by kernel_rfl) (fun _ _ _ h => h) (Or.inl ⟨by rfl, ?_⟩) (by assumption) ?_
            rotate_left
            · (intro w hSw; (try dsimp only at hSw); go_simp <;> with_reducible rfl)
            try simp only [Act.put, List.setIfInBounds_toArray, List.set_cons_zero, List.set_cons_succ]
            refine wpAnyH_take (i := 20) (oi := { dst := some 115, op := Op.move (Operand.tmp 8), type := 24, pos := "law.go:155", after := #[{ on := 15, ground := Ground.guard }], guard := some (15, true) }) (v := ?_) rfl (by kernel_rfl) (by kernel_rfl) (by kernel_rfl) (fun _ _ _ h => h) (Or.inl ⟨by rfl, ?_⟩) (by assumption) ?_
            rotate_left
            · (intro w hSw; (try dsimp only at hSw); go_simp <;> with_reducible rfl)
            try simp only [Act.put, List.setIfInBounds_toArray, List.set_cons_zero, List.set_cons_succ]
            refine wpAnyH_take (i := 21) (oi := { dst := some 116, op := Op.move (Operand.tmp 17), type := 3, pos := "law.go:155", after := #[{ on := 15, ground := Ground.guard }], guard := some (15, true) }) (v := ?_) rfl (by kernel_rfl) (by kernel_rfl) (by kernel_rfl) (fun _ _ _ h => h) (Or.inl ⟨by rfl, ?_⟩) (by assumption) ?_
            rotate_left
            · (intro w hSw; (try dsimp only at hSw); go_simp <;> with_reducible rfl)
            try simp only [Act.put, List.setIfInBounds_toArray, List.set_cons_zero, List.set_cons_succ]
            refine wpAnyH_take (i := 22) (oi := { dst := some 117, op := Op.indexAddr 24 (Operand.tmp 115) (Operand.tmp 116), type := 0, pos := "law.go:155", after := #[{ on := 20, ground := Ground.data }, { on := 21, ground := Ground.data }, { on := 15, ground := Ground.guard }], guard := some (15, true) }) (v := ?_) rfl (by kernel_rfl) (by kernel_rfl) (by kernel_rfl) (fun _ _ _ h => h) (Or.inl ⟨by rfl, ?_⟩) (by assumption) ?_
            rotate_left
            · (intro w hSw; (try dsimp only at hSw); go_simp <;> with_reducible rfl)
            try simp only [Act.put, List.setIfInBounds_toArray, List.set_cons_zero, List.set_cons_succ]
            refine wpAnyH_take (i := 23) (oi := { dst := some 118, op := Op.load 9 (Operand.tmp 117), type := 9, pos := "law.go:155", after := #[{ on := 22, ground := Ground.data }, { on := 15, ground := Ground.guard }], guard := some (15, true) }) (v := ?_) rfl (by kernel_rfl) (by kernel_rfl) (by kernel_rfl) (fun _ _ _ h => h) (Or.inl ⟨by rfl, ?_⟩) (by assumption) ?_
            rotate_left
            · (intro w hSw; (try dsimp only at hSw); go_simp <;> with_reducible rfl)
            try simp only [Act.put, List.setIfInBounds_toArray, List.set_cons_zero, List.set_cons_succ]
            refine wpAnyH_take (i := 24) (oi := { dst := some 119, op := Op.binOp BinOp.neq 9 (Operand.tmp 114) (Operand.tmp 118) 9, type := 4, pos := "law.go:155", after := #[{ on := 19, ground := Ground.data }, { on := 23, ground := Ground.data }, { on := 15, ground := Ground.guard }], guard := some (15, true) }) (v := ?_) rfl (by kernel_rfl) (by kernel_rfl) (by kernel_rfl) (fun _ _ _ h => h) (Or.inl ⟨by rfl, ?_⟩) (by assumption) ?_
            rotate_left
            · (intro w hSw; (try dsimp only at hSw); go_simp <;> with_reducible rfl)
            try simp only [Act.put, List.setIfInBounds_toArray, List.set_cons_zero, List.set_cons_succ]
            refine wpAnyH_take (i := 25) (oi := { dst := some 120, op := Op.pick (Operand.tmp 110) (Operand.tmp 119) (Operand.const (Value.bool false)), type := 4, pos := "law.go:155", after := #[{ on := 15, ground := Ground.data }, { on := 24, ground := Ground.data }, { on := 12, ground := Ground.guard }], guard := some (12, false) }) (v := ?_) rfl (by kernel_rfl) (by kernel_rfl) (by kernel_rfl) (fun _ _ _ h => h) (Or.inl ⟨by rfl, ?_⟩) (by assumption) ?_
            rotate_left
            · (intro w hSw; (try dsimp only at hSw); go_simp <;> with_reducible rfl)
            try simp only [Act.put, List.setIfInBounds_toArray, List.set_cons_zero, List.set_cons_succ]
            refine wpAnyH_take (i := 26) (oi := { dst := some 121, op := Op.move (Operand.tmp 120), type := 4, pos := "law.go:155", after := #[{ on := 25, ground := Ground.data }, { on := 15, ground := Ground.chain }, { on := 12, ground := Ground.guard }], guard := some (12, false) }) (v := ?_) rfl (by kernel_rfl) (by kernel_rfl) (by kernel_rfl) (fun _ _ _ h => h) (Or.inl ⟨by rfl, ?_⟩) (by assumption) ?_
            rotate_left
            · (intro w hSw; (try dsimp only at hSw); go_simp <;> with_reducible rfl)
            try simp only [Act.put, List.setIfInBounds_toArray, List.set_cons_zero, List.set_cons_succ]
            refine wpAnyH_take (i := 27) (oi := { dst := some 122, op := Op.load 23 (Operand.tmp 3), type := 23, pos := "law.go:155", after := #[{ on := 26, ground := Ground.guard }], guard := some (26, true) }) (v := ?_) rfl (by kernel_rfl) (by kernel_rfl) (by kernel_rfl) (fun _ _ _ h => h) (Or.inl ⟨by rfl, ?_⟩) (by assumption) ?_
            rotate_left
            · (intro w hSw; (try dsimp only at hSw); go_simp <;> with_reducible rfl)
            try simp only [Act.put, List.setIfInBounds_toArray, List.set_cons_zero, List.set_cons_succ]
            refine wpAnyH_take (i := 28) (oi := { dst := some 123, op := Op.move (Operand.tmp 7), type := 24, pos := "law.go:155", after := #[{ on := 26, ground := Ground.guard }], guard := some (26, true) }) (v := ?_) rfl (by kernel_rfl) (by kernel_rfl) (by kernel_rfl) (fun _ _ _ h => h) (Or.inl ⟨by rfl, ?_⟩) (by assumption) ?_
            rotate_left
            · (intro w hSw; (try dsimp only at hSw); go_simp <;> with_reducible rfl)
            try simp only [Act.put, List.setIfInBounds_toArray, List.set_cons_zero, List.set_cons_succ]
            refine wpAnyH_take (i := 29) (oi := { dst := some 124, op := Op.move (Operand.tmp 8), type := 24, pos := "law.go:155", after := #[{ on := 26, ground := Ground.guard }], guard := some (26, true) }) (v := ?_) rfl (by kernel_rfl) (by kernel_rfl) (by kernel_rfl) (fun _ _ _ h => h) (Or.inl ⟨by rfl, ?_⟩) (by assumption) ?_
            rotate_left
            · (intro w hSw; (try dsimp only at hSw); go_simp <;> with_reducible rfl)
            try simp only [Act.put, List.setIfInBounds_toArray, List.set_cons_zero, List.set_cons_succ]
            refine wpAnyH_ready (rs := [30]) (by kernel_rfl) (by simp) ?_
            refine AllReadyH.cons (o := { dst := some 125, op := Op.buildSlice 56 2 #[(0, Operand.tmp 123), (1, Operand.tmp 124)], type := 56, pos := "law.go:155", after := #[{ on := 28, ground := Ground.data }, { on := 29, ground := Ground.data }, { on := 26, ground := Ground.guard }], guard := some (26, true) }) rfl (fun K hK => ?_) AllReadyH.nil
            go_simp
            refine hK.out _ _ (HSS.out _ (hG.alloc hG.size _)) (fun hHeld => ?_)
            clear hK K
            try simp only [Act.put, List.setIfInBounds_toArray, List.set_cons_zero, List.set_cons_succ]
            refine wpAnyH_ready (rs := [31]) (by kernel_rfl) (by simp) ?_
            refine AllReadyH.cons (o := { dst := some 126, op := Op.call { callee := Callee.value (Operand.func 30), args := #[Operand.tmp 122, Operand.tmp 125], argTypes := #[23, 56] }, type := 4, pos := "law.go:155", after := #[{ on := 27, ground := Ground.data }, { on := 30, ground := Ground.data }, { on := 26, ground := Ground.chain }, { on := 26, ground := Ground.guard }], guard := some (26, true) }) rfl (fun K hK => ?_) AllReadyH.nil
            go_simp
            go_at_call 30
            with_reducible refine HTW.out.mono ?_
            rintro r w' ⟨rfl, hb⟩
            replace hG := hG.trans (hb.mono hG.size)
            clear hb
            refine hK.out _ _ (HSS.out _ hG) (fun hHeld => ?_)
            clear hK K
            try simp only [Act.put, List.setIfInBounds_toArray, List.set_cons_zero, List.set_cons_succ]
            refine wpAnyH_take (i := 32) (oi := { dst := some 127, op := Op.unOp UnOp.not 4 (Operand.tmp 126), type := 4, pos := "law.go:155", after := #[{ on := 31, ground := Ground.data }, { on := 26, ground := Ground.guard }], guard := some (26, true) }) (v := ?_) rfl (by kernel_rfl) (by kernel_rfl) (by kernel_rfl) (fun _ _ _ h => h) (Or.inl ⟨by rfl, ?_⟩) (by assumption) ?_
            rotate_left
            · (intro w hSw; (try dsimp only at hSw); go_simp <;> with_reducible rfl)
            try simp only [Act.put, List.setIfInBounds_toArray, List.set_cons_zero, List.set_cons_succ]
            refine wpAnyH_take (i := 33) (oi := { dst := some 128, op := Op.pick (Operand.tmp 121) (Operand.tmp 127) (Operand.const (Value.bool false)), type := 4, pos := "law.go:155", after := #[{ on := 26, ground := Ground.data }, { on := 32, ground := Ground.data }, { on := 12, ground := Ground.guard }], guard := some (12, false) }) (v := ?_) rfl (by kernel_rfl) (by kernel_rfl) (by kernel_rfl) (fun _ _ _ h => h) (Or.inl ⟨by rfl, ?_⟩) (by assumption) ?_
            rotate_left
            · (intro w hSw; (try dsimp only at hSw); go_simp <;> with_reducible rfl)
            try simp only [Act.put, List.setIfInBounds_toArray, List.set_cons_zero, List.set_cons_succ]
            refine wpAnyH_take (i := 34) (oi := { dst := some 129, op := Op.pick (Operand.tmp 107) (Operand.const (Value.bool true)) (Operand.tmp 128), type := 4, pos := "law.go:155", after := #[{ on := 12, ground := Ground.data }, { on := 33, ground := Ground.data }], guard := none }) (v := ?_) rfl (by kernel_rfl) (by kernel_rfl) (by kernel_rfl) (fun _ _ _ h => h) (Or.inl ⟨by rfl, ?_⟩) (by assumption) ?_
            rotate_left
            · (intro w hSw; (try dsimp only at hSw); go_simp <;> with_reducible rfl)
            try simp only [Act.put, List.setIfInBounds_toArray, List.set_cons_zero, List.set_cons_succ]
            refine wpAnyH_done (by kernel_rfl) ?_ _
            have HBE := Lib.hid hG
            clear hG e5 e6 hgq hq2
            go_wp2
            go_roundw
            case rel => exact ⟨ka, kt + 1, by omega, by go_num, by go_num, by omega, HNX.out.1, HNX.out.2, HBE.out⟩
            case measure => simp [intOf]; omega
    · obtain rfl : kt = n := by omega
      have i1 : ¬ ((kt : Int) < (kt : Int)) := by omega
      have hke : ka = xd.length := by
        rcases Nat.lt_or_ge ka xd.length with h | h
        · have h3 := h2 ka (Nat.le_refl _) _ (List.getElem?_eq_getElem h)
          obtain ⟨y, e, hy, _⟩ := HD.out.2.1 _ (List.getElem_mem h)
          omega
        · omega
      subst hke
      have HBE := Lib.hid (HG.out.trans (hB.mono HG.out.size))
      clear h1 h2 hB
      go_wp2_with fail
      refine (HKN.out _ HBE.out).mono ?_
      rintro e w99 ⟨rfl, hb⟩
      have HBB := Lib.hid (HBE.out.trans (hb.mono HBE.out.size))
      clear hb
      go_wp2
      go_ret
      exact ⟨rfl, HBB.out⟩

theorem tfinds_any (N F C U : Int) (a : Option Addr) (l cap : Nat) (xs : List UInt8) (a2 : Option Addr) (l2 cap2 : Nat) (ys : List UInt8) (w : World) (hP : Rd w a l cap xs) (hQ : Rd w a2 l2 cap2 ys) (hK : Kon w) :
    Calls Tryd.prog 7 #[geo N F C U, .slice a l cap, .slice a2 l2 cap2] w fun e w' => e = .returned (.bool true) ∧ Below w.heap.size w w' := by
  by_cases hN : N ≤ 30
  · by_cases hok : okG N F C U
    · obtain ⟨n, rfl⟩ : ∃ n : Nat, N = n := ⟨N.toNat, by have := hok.1; omega⟩
      exact tfinds_ok n F C U a l cap xs a2 l2 cap2 ys w hP hQ hK hN hok
    · exact tfinds_bad N F C U a l cap xs a2 l2 cap2 ys w hP hQ hK hN hok
  · exact tfinds_far N F C U a l cap xs a2 l2 cap2 ys w hP hQ hK (by omega)

end Go.Proofs.YtojanhpilhledaaDoor

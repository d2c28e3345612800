/-
  Texts put together: YB.
-/
import Derived.Test.YtojanhpilhledaaDoorMY2
import Derived.Test.YtojanhpilhledaaDoorMX1
/-
  Two unlike texts with one digest: the document's Twins finds them.
-/
namespace Go.Proofs.YtojanhpilhledaaDoor
open Go.RowKit
set_option linter.unusedVariables false
set_option linter.unusedSimpArgs false

/-- The text that a node's digest is of: how it begins; the first m children's digests behind it. -/
def hdT (n : Nat) (Ss : List ByteArray) (k : Nat) : List UInt8 := if k < n then 0 :: (lAt Ss k).data.toList else [1]
def upT (n : Nat) (F C U : Int) (Ss L : List ByteArray) (k m : Nat) : List UInt8 := hdT n Ss k ++ jn (lAt (kids L (children n F C U k))) m
def txT (n : Nat) (F C U : Int) (Ss L : List ByteArray) (k : Nat) : ByteArray := ⟨(upT n F C U Ss L k (children n F C U k).length).toArray⟩
def txL (n : Nat) (F C U : Int) (Ss L : List ByteArray) (m : Nat) : List ByteArray := (List.range m).map (txT n F C U Ss L)
theorem txL_next (n F C U Ss L m) : txL n F C U Ss L (m + 1) = txL n F C U Ss L m ++ [txT n F C U Ss L m] := by simp [txL, List.range_succ]
theorem txL_length (n F C U Ss L m) : (txL n F C U Ss L m).length = m := by simp [txL]
theorem txL_at {n : Nat} {F C U : Int} {Ss L : List ByteArray} {m k : Nat} (h : k < m) : lAt (txL n F C U Ss L m) k = txT n F C U Ss L k := by
  unfold lAt txL
  rw [List.getElem?_map, List.getElem?_range h]
  rfl

/-- Two lists of texts that grow, both the call's own; a tree beside them. -/
structure TW (w0 w : World) (sT sD : Value) (T D : List ByteArray) : Prop where
  t : w.ownsRow w0.heap.size 9 1 sT T.length (strs T)
  d : w.ownsRow w0.heap.size 9 1 sD D.length (strs D)
  td : ∀ k, sT.ownBlock = some k → sD.ownBlock ≠ some k
  b : Below w0.heap.size w0 w
theorem TW.below {w0 w w' : World} {sT sD : Value} {T D : List ByteArray} (h : TW w0 w sT sD T D) (hb : Below w.heap.size w w') : TW w0 w' sT sD T D where
  t := owns_kept h.t fun k hk => hb.block k (h.t.lt k hk).2
  d := owns_kept h.d fun k hk => hb.block k (h.d.lt k hk).2
  td := h.td
  b := h.b.trans (hb.mono h.b.size)
theorem TW.growT {w0 w w' : World} {sT sT' sD : Value} {T D : List ByteArray} {s : ByteArray} (h : TW w0 w sT sD T D) (h1 : w'.ownsRow w0.heap.size 9 1 sT' (T.length + 1) (strs (T ++ [s]))) (h2 : w.grownBy w' sT.ownBlock) (h3 : sT'.ownBlock = sT.ownBlock ∨ sT'.ownBlock = some w.heap.size) : TW w0 w' sT' sD (T ++ [s]) D where
  t := by rw [List.length_append]; exact h1
  d := owns_kept h.d fun k hk => h2.block k (h.d.lt k hk).2 (fun e => h.td k e.symm hk)
  td := fun k hk e => by
    rcases h3 with h3 | h3
    · exact h.td k (h3 ▸ hk) e
    · rw [h3] at hk; cases hk; have := (h.d.lt _ e).2; omega
  b := h.b.grown h2 h.b.size (fun j hj => (h.t.lt j hj).1)
theorem TW.growD {w0 w w' : World} {sT sD sD' : Value} {T D : List ByteArray} {s : ByteArray} (h : TW w0 w sT sD T D) (h1 : w'.ownsRow w0.heap.size 9 1 sD' (D.length + 1) (strs (D ++ [s]))) (h2 : w.grownBy w' sD.ownBlock) (h3 : sD'.ownBlock = sD.ownBlock ∨ sD'.ownBlock = some w.heap.size) : TW w0 w' sT sD' T (D ++ [s]) where
  d := by rw [List.length_append]; exact h1
  t := owns_kept h.t fun k hk => h2.block k (h.t.lt k hk).2 (fun e => h.td k hk e.symm)
  td := fun k hk e => by
    rcases h3 with h3 | h3
    · exact h.td k hk (h3 ▸ e)
    · rw [h3] at e; cases e; have := (h.t.lt _ hk).2; omega
  b := h.b.grown h2 h.b.size (fun j hj => (h.d.lt j hj).1)
/-- A tree that stands apart from a row that grows. -/
structure RA (w : World) (B p : Nat) (v sT sD : Value) (N F C U : Int) (L : List ByteArray) : Prop where
  r : RT w B p v N F C U L
  at' : ∀ k, tfoot p v k → sT.ownBlock ≠ some k
  ad : ∀ k, tfoot p v k → sD.ownBlock ≠ some k
theorem RA.below {w w' : World} {B p : Nat} {v sT sD : Value} {N F C U : Int} {L : List ByteArray} (h : RA w B p v sT sD N F C U L) (hb : Below w.heap.size w w') : RA w' B p v sT sD N F C U L := ⟨h.r.below hb, h.at', h.ad⟩
theorem RA.growT {w w' : World} {B p : Nat} {v sT sT' sD : Value} {N F C U : Int} {L : List ByteArray} (h : RA w B p v sT sD N F C U L) (h2 : w.grownBy w' sT.ownBlock) (h3 : sT'.ownBlock = sT.ownBlock ∨ sT'.ownBlock = some w.heap.size) : RA w' B p v sT' sD N F C U L where
  r := h.r.kept fun k hk => h2.block k (h.r.foot_low k hk).2 (fun e => h.at' k hk e.symm)
  at' := fun k hk e => by
    rcases h3 with h3 | h3
    · exact h.at' k hk (h3 ▸ e)
    · rw [h3] at e; cases e; have := (h.r.foot_low _ hk).2; omega
  ad := h.ad
theorem RA.growD {w w' : World} {B p : Nat} {v sT sD sD' : Value} {N F C U : Int} {L : List ByteArray} (h : RA w B p v sT sD N F C U L) (h2 : w.grownBy w' sD.ownBlock) (h3 : sD'.ownBlock = sD.ownBlock ∨ sD'.ownBlock = some w.heap.size) : RA w' B p v sT sD' N F C U L where
  r := h.r.kept fun k hk => h2.block k (h.r.foot_low k hk).2 (fun e => h.ad k hk e.symm)
  at' := h.at'
  ad := fun k hk e => by
    rcases h3 with h3 | h3
    · exact h.ad k hk (h3 ▸ e)
    · rw [h3] at e; cases e; have := (h.r.foot_low _ hk).2; omega

theorem hdT_len {n : Nat} {Ss : List ByteArray} (hs : ∀ i, i < Ss.length → (lAt Ss i).size = 64) (hl : Ss.length = n) (k : Nat) : (hdT n Ss k).length ≤ 65 := by
  unfold hdT
  split
  · have h : (lAt Ss k).data.toList.length = (lAt Ss k).size := rfl
    have := hs k (by omega)
    simp only [List.length_cons]
    omega
  · simp
theorem upT_len {n : Nat} {F C U : Int} {Ss : List ByteArray} (hs : ∀ i, i < Ss.length → (lAt Ss i).size = 64) (hl : Ss.length = n) {L : List ByteArray} (hL : ∀ i, i < L.length → (lAt L i).size = 32) {k : Nat} (hk : k ≤ L.length) {m : Nat} (hm : m ≤ (children n F C U k).length) : (upT n F C U Ss L k m).length ≤ 1000 := by
  have h1 := hdT_len hs hl k
  have h2 := children_len n F C U k
  have h3 := jn_small (kids L (children n F C U k)) 32 (fun i hi => by
    rw [kids_length] at hi
    have e : lAt (kids L (children n F C U k)) i = lAt L ((children n F C U k)[i]'hi).toNat := by
      unfold lAt kids
      rw [List.getElem?_map, List.getElem?_eq_getElem hi]
      rfl
    obtain ⟨x, hx, hxl⟩ := children_mem (List.getElem_mem hi)
    rw [e, hx]
    exact Nat.le_of_eq (hL x (by omega))) m (by rw [kids_length]; exact hm)
  unfold upT
  rw [List.length_append]
  have : m * 32 ≤ 4 * 32 := Nat.mul_le_mul_right _ (by omega)
  omega

def allT (n : Nat) (F C U : Int) (Sx Lx : Nat → List ByteArray) (M : Nat) : Nat → List ByteArray
  | 0 => []
  | i + 1 => allT n F C U Sx Lx M i ++ txL n F C U (Sx i) (Lx i) M
def allD (Lx : Nat → List ByteArray) : Nat → List ByteArray
  | 0 => []
  | i + 1 => allD Lx i ++ Lx i
theorem treeL_sz {N F C U : Int} (Ss : List ByteArray) : ∀ i, i < (treeL N F C U Ss).length → (lAt (treeL N F C U Ss) i).size = 32 := by
  unfold treeL
  exact growL_size (fun j hj => by
    rw [List.length_map] at hj
    rw [map_at Ss hj]
    exact leafB_size _) _

set_option maxRecDepth 20000 in
set_option maxHeartbeats 4000000 in
theorem rtwins_any (n : Nat) (F C U : Int) (ax : Nat → Option Addr) (cx : Nat → Nat) (Sx Lx : Nat → List ByteArray) (q : Nat) (w : World) (hok : okG n F C U)
    (hq : ∀ i, i < 2 → w.cell? ⟨q, i, none⟩ = some (.slice (ax i) n (cx i)) ∧ Rs w (ax i) n (cx i) (Sx i) ∧ (∀ j, j < (Sx i).length → (lAt (Sx i) j).size = 64) ∧ Lx i = treeL n F C U (Sx i)) (hql : q < w.heap.size)
    (hx : ∃ i k, i < 2 * nodes n F C U ∧ k < i ∧ lAt (Lx 0 ++ Lx 1) i = lAt (Lx 0 ++ Lx 1) k ∧ lAt (txL n F C U (Sx 0) (Lx 0) (nodes n F C U) ++ txL n F C U (Sx 1) (Lx 1) (nodes n F C U)) i ≠ lAt (txL n F C U (Sx 0) (Lx 0) (nodes n F C U) ++ txL n F C U (Sx 1) (Lx 1) (nodes n F C U)) k) :
    Calls Tryd.prog 30 #[geo n F C U, .slice (some ⟨q, 0, none⟩) 2 2] w fun e w' => e = .returned (.bool true) ∧ Below w.heap.size w w' := by
  have hnp := nodes_pos hok
  have hnl := nodes_le n F C U
  have hng := nodes_ge hok
  have hb0 := (Below.refl w.heap.size w).alloc (Nat.le_refl _) (gbox n F C U)
  have hgc : ∀ wr, Below (w.alloc (gbox n F C U)).heap.size (w.alloc (gbox n F C U)) wr → wr.cell? ⟨w.heap.size, 0, none⟩ = some (.int .i64 (n : Int)) ∧ wr.cell? ⟨w.heap.size, 1, none⟩ = some (.int .i64 F) ∧ wr.cell? ⟨w.heap.size, 2, none⟩ = some (.int .i64 C) ∧ wr.cell? ⟨w.heap.size, 3, none⟩ = some (.int .i64 U) := fun wr h => gbox_cells (by simpa using h)
  have hnw := fun i (hi : i < 2) w' (hb : Below w.heap.size w w') => tend_ok' (rtnew_any n F C U (ax i) n (cx i) (Sx i) w' ((hq i hi).2.1.later hb)) (by unfold newErr; rw [if_neg (fun h => h hok), if_neg (by have := (hq i hi).2.1.len; omega), if_pos (hq i hi).2.2.1])
  -- BODY
  have hM : ∃ M, M = nodes n F C U := ⟨_, rfl⟩
  obtain ⟨M, hM⟩ := hM
  rw [← hM] at hx hnp hnl hng
  have htl : ∀ i, i < 2 → (Lx i).length = M ∧ ∀ j, j < (Lx i).length → (lAt (Lx i) j).size = 32 := fun i hi => by
    obtain ⟨-, h2, h3, h4⟩ := hq i hi
    rw [h4]
    exact ⟨by rw [(tof_tree hok (by have := h2.len; omega)).len, hM], treeL_sz (Sx i)⟩
  have hnw2 : ∀ i, i < 2 → ∀ w', Below w.heap.size w w' → Calls Tryd.prog 14 #[geo n F C U, .slice (ax i) n (cx i)] w' fun e w'' => ∃ p v, e = .returned (.tuple #[.pointer (some ⟨p, 0, none⟩), .int .i64 0]) ∧ RT w'' w'.heap.size p v n F C U (Lx i) ∧ Below w'.heap.size w' w'' := fun i hi w' hb => by
    have := hnw i hi w' hb
    rw [← (hq i hi).2.2.2] at this
    exact this
  have hch := fun k w => rchildren_any n F C U k w
  have hqq : ∀ i, i < 2 → ∀ w', Below w.heap.size w w' → w'.cell? ⟨q, i, none⟩ = some (.slice (ax i) n (cx i)) := fun i hi w' hb => by rw [hb.cell (by exact hql)]; exact (hq i hi).1
  have hcx : ∀ i, i < 2 → n ≤ cx i ∧ ((cx i : Nat) : Int) ≤ 9223372036854775807 := fun i hi => ⟨(hq i hi).2.1.le, by have := (hq i hi).2.1.cm; unfold maxLen at this; omega⟩
  have hsx : ∀ i, i < 2 → (Sx i).length = n ∧ ∀ j, j < (Sx i).length → (lAt (Sx i) j).size = 64 := fun i hi => ⟨(hq i hi).2.1.len, (hq i hi).2.2.1⟩
  have hsr : ∀ i, i < 2 → ∀ w', Below w.heap.size w w' → Rs w' (ax i) n (cx i) (Sx i) := fun i hi w' hb => (hq i hi).2.1.later hb
  unfold geo at hnw2 hch ⊢
  obtain ⟨w1, hw1⟩ : ∃ w1, w1 = w.alloc (gbox n F C U) := ⟨_, rfl⟩
  rw [← hw1] at hb0
  simp only [← hw1] at hgc
  have HI := Lib.hid (info_parts Tryd.info9)
  have HNW := Lib.hid hnw2
  have HCH := Lib.hid hch
  have HQQ := Lib.hid hqq
  have HCX := Lib.hid hcx
  have HSX := Lib.hid hsx
  have HSR := Lib.hid hsr
  have HTL := Lib.hid htl
  have HX := Lib.hid hx
  have HGC := Lib.hid hgc
  have HB0 := Lib.hid hb0
  have HW0 := Lib.hid hw1
  have HOK := Lib.hid hok
  have HMM := Lib.hid hM
  have HNN := Lib.hid (And.intro hnp (And.intro hnl hng))
  clear hnw hnw2 hch hqq hcx hsx hsr htl hx hgc hb0 hw1 hok hM hnp hnl hng hq
  unfold gbox at HW0
  go_enter Tryd.func30, Tryd.ntmps30
  go_wp2_with fail
  rw [← HW0.out]
  have hst : TW w1 w1 (.slice none 0 0) (.slice none 0 0) [] [] := ⟨World.ownsRow_nil _ _ _ _, World.ownsRow_nil _ _ _ _, fun k e => by simp [Value.ownBlock] at e, Below.refl _ _⟩
  have HBW := Lib.hid (fun (w' : World) (h : Below w1.heap.size w1 w') => HB0.out.trans (h.mono HB0.out.size))
  have HST := Lib.hid (And.intro hst (Below.refl w1.heap.size w1))
  clear hst
  -- all texts, all digests
  go_loopw [5, 6, 7] (fun sT sD i wr => ∃ k : Nat, k ≤ 2 ∧ i = .int .i64 k ∧ TW w1 wr sT sD (allT n F C U Sx Lx M k) (allD Lx k) ∧ Below w1.heap.size w1 wr) (fun _ _ i _ => 2 - (intOf i).toNat)
  case atStart => exact ⟨0, by omega, rfl, HST.out.1, HST.out.2⟩
  case round =>
    clear HST
    obtain ⟨i, hi, rfl, hTW, hC⟩ := hrel
    by_cases hi2 : i < 2
    · have x0 : (0 : Int) ≤ (i : Int) := by omega
      have x1 : (i : Int) < 2 := by omega
      obtain ⟨hc1, hc2⟩ := HCX.out i hi2
      have hnw := HNW.out i hi2
      have hqq := HQQ.out i hi2
      obtain ⟨hs1, hs2⟩ := HSX.out i hi2
      obtain ⟨ht1, ht2⟩ := HTL.out i hi2
      have hrs := HSR.out i hi2
      have hnxT : allT n F C U Sx Lx M (i + 1) = allT n F C U Sx Lx M i ++ txL n F C U (Sx i) (Lx i) M := rfl
      have hnxD : allD Lx (i + 1) = allD Lx i ++ Lx i := rfl
      generalize ax i = ai at *
      generalize cx i = ci at *
      have hGs : ∀ w', Below w1.heap.size w1 w' → Below w.heap.size w w' → (w'.cell? ⟨w.heap.size, 0, none⟩ = some (.int .i64 (n : Int)) ∧ w'.cell? ⟨w.heap.size, 1, none⟩ = some (.int .i64 F) ∧ w'.cell? ⟨w.heap.size, 2, none⟩ = some (.int .i64 C) ∧ w'.cell? ⟨w.heap.size, 3, none⟩ = some (.int .i64 U) ∧ w'.cell? ⟨q, i, none⟩ = some (.slice ai n ci)) := fun w' h1 h2 => by
        obtain ⟨g0, g1, g2, g3⟩ := HGC.out w' h1
        exact ⟨g0, g1, g2, g3, hqq w' h2⟩
      have HGS := Lib.hid hGs
      have HNWi := Lib.hid hnw
      have HRS := Lib.hid hrs
      have HTS := Lib.hid (And.intro (And.intro hs1 hs2) (And.intro ht1 ht2))
      have HNX := Lib.hid (And.intro hnxT hnxD)
      have hG1 : TW w1 wr.drew u5 u6 (allT n F C U Sx Lx M i) (allD Lx i) := hTW.below (Below.refl _ _).drew
      have hG2 : Below w1.heap.size w1 wr.drew := hC.drew
      clear hnw hqq hs1 hs2 ht1 ht2 hrs hnxT hnxD hGs hTW hC
      go_wp2_with fail
      go_region_held3 (fun w' => w'.cell? ⟨w.heap.size, 0, none⟩ = some (.int .i64 (n : Int)) ∧ w'.cell? ⟨w.heap.size, 1, none⟩ = some (.int .i64 F) ∧ w'.cell? ⟨w.heap.size, 2, none⟩ = some (.int .i64 C) ∧ w'.cell? ⟨w.heap.size, 3, none⟩ = some (.int .i64 U) ∧ w'.cell? ⟨q, i, none⟩ = some (.slice ai n ci))
        (exact HGS.out _ hG2 (HBW.out _ hG1.b))
        (first
        | (go_at_call 14; with_reducible refine (HNWi.out _ (HBW.out _ hG1.b)).mono ?_; rintro r wk ⟨p, v, rfl, hT, hb⟩; have HRT := Lib.hid (show RA wk wr.drew.heap.size p v u5 u6 n F C U (Lx i) from ⟨hT, fun k hk e => (by have := (hT.foot_low k hk).1; have := (hG1.t.lt k e).2; omega), fun k hk e => (by have := (hT.foot_low k hk).1; have := (hG1.d.lt k e).2; omega)⟩); replace hG1 := hG1.below hb; replace hG2 := hG2.trans (hb.mono hG2.size); clear hb hT))
      rename_i hHeld
      clear hHeld
      have hT0 := HRT.out.r
      obtain ⟨g, cv, hv, -, -, -, hgl, hgc⟩ := hT0.shape (by rw [HTS.out.2.1]; have := HNN.out.2.2; omega)
      rw [HTS.out.2.1] at hv hgl
      subst hv
      have hWW : w.heap.size ≤ w1.heap.size := HB0.out.size
      have HWW := Lib.hid hWW
      have HTW0 := Lib.hid hG1
      have HC0 := Lib.hid hG2
      have HBp := Lib.hid (show wr.drew.heap.size = wr.drew.heap.size from rfl)
      clear hT0 hWW hG1 hG2 HNWi
      go_wp2_with fail
      go_loopw [5, 6, 10] (fun sT sD k wx => ∃ kk : Nat, kk ≤ M ∧ k = .int .i64 kk ∧ TW w1 wx sT sD (allT n F C U Sx Lx M i ++ txL n F C U (Sx i) (Lx i) kk) (allD Lx i ++ (Lx i).take kk) ∧ RA wx wr.drew.heap.size p (.slice (some ⟨g, 0, none⟩) M cv) sT sD n F C U (Lx i) ∧ Below w1.heap.size w1 wx) (fun _ _ k _ => M - (intOf k).toNat)
      case atStart => exact ⟨0, by omega, rfl, by simpa [txL] using HTW0.out, HRT.out, HC0.out⟩
      case round =>
        clear HTW0 HRT HC0
        obtain ⟨kk, hkk, rfl, hTW, hRA, hC⟩ := hrel
        obtain ⟨g0, g1, g2, g3⟩ := HGC.out _ hC
        have d4 := hRA.r.cells.2.2.2.2.1
        by_cases hkM : kk < M
        · have k0 : (0 : Int) ≤ (kk : Int) := by omega
          have k1 : (kk : Int) < (M : Int) := by omega
          have hkl := children_len n F C U (kk : Int)
          have hkm := fun c hc => @children_mem n F C U kk c hc
          have hchk := HCH.out (kk : Int)
          obtain ⟨ks, hks⟩ : ∃ ks, ks = children n F C U (kk : Int) := ⟨_, rfl⟩
          have hupb := fun j (hj : j ≤ (children n F C U (kk : Int)).length) => upT_len (F := F) (C := C) (U := U) HTS.out.1.2 HTS.out.1.1 HTS.out.2.2 (by have := HTS.out.2.1; omega) hj
          have hup : ∀ j (hj : j < ks.length) (x : Nat), ks[j] = (x : Int) → ∀ w, (binOp .add 9 (strV (upT n F C U (Sx i) (Lx i) kk j)) (.string (lAt (Lx i) x))).run Tryd.prog w = .ok (strV (upT n F C U (Sx i) (Lx i) kk (j + 1))) w := fun j hj x hx w => by
            have e1 : lAt (kids (Lx i) (children n F C U (kk : Int))) j = lAt (Lx i) x := by
              unfold lAt kids
              rw [List.getElem?_map, ← hks, List.getElem?_eq_getElem hj, hx]
              rfl
            have h1 := hupb j (by rw [← hks]; omega)
            have h2 := HTS.out.2.2
            have h3 : (lAt (Lx i) x).size ≤ 1000 := by
              rcases Nat.lt_or_ge x (Lx i).length with h | h
              · rw [h2 x h]; omega
              · unfold lAt; rw [List.getElem?_eq_none h]; exact Nat.zero_le _
            rw [add_text _ _ (by omega) w]
            congr 2
            unfold upT
            rw [show jn (lAt (kids (Lx i) (children n F C U (kk : Int)))) (j + 1) = jn (lAt (kids (Lx i) (children n F C U (kk : Int)))) j ++ (lAt (kids (Lx i) (children n F C U (kk : Int))) j).data.toList from rfl, e1, List.append_assoc]
          rw [← hks] at hkl hkm hchk
          have htk : (Lx i).take (kk + 1) = (Lx i).take kk ++ [lAt (Lx i) kk] := by
            rw [List.take_add_one]
            congr 1
            unfold lAt
            rw [List.getElem?_eq_getElem (by have := HTS.out.2.1; omega)]
            rfl
          have HTK := Lib.hid htk
          clear htk
          have HKE := Lib.hid hks
          have HKS := Lib.hid hkm
          have HUP := Lib.hid hup
          obtain ⟨T, hTn⟩ : ∃ T, T = allT n F C U Sx Lx M i ++ txL n F C U (Sx i) (Lx i) kk := ⟨_, rfl⟩
          obtain ⟨D, hDn⟩ : ∃ D, D = allD Lx i ++ (Lx i).take kk := ⟨_, rfl⟩
          rw [← hTn, ← hDn] at hTW
          have HTW := Lib.hid hTW
          have HRA := Lib.hid hRA
          have HC2 := Lib.hid hC
          have hL1 : (allT n F C U Sx Lx M i ++ txL n F C U (Sx i) (Lx i) kk).length ≤ 1000 ∧ (allD Lx i ++ (Lx i).take kk).length ≤ 1000 := by
            have hn := HNN.out
            have h1 := HTL.out
            have hi' : i = 0 ∨ i = 1 := by omega
            have hm := HMM.out
            rcases hi' with rfl | rfl
            · simp only [allT, allD, List.nil_append, txL_length, List.length_take]; omega
            · have h2 := (h1 0 (by omega)).1
              simp only [allT, allD, List.nil_append, List.length_append, txL_length, List.length_take]; omega
          rw [← hTn, ← hDn] at hL1
          have HLT := Lib.hid hL1
          have HTD := Lib.hid (And.intro hTn hDn)
          clear hTn hDn
          clear hks hkm hup hupb hTW hRA hC hL1
          by_cases hkn : kk < n
          · have k2 : (kk : Int) < (n : Int) := by omega
            obtain ⟨b1, o1, rfl, hbl1, hcc1⟩ := (HRS.out _ (HBW.out _ HTW.out.b)).at0 (by omega)
            have e1 := hcc1 kk hkn
            have e2 := (HGS.out _ HC2.out (HBW.out _ HTW.out.b)).2.2.2.2
            have ha := add_text [0] (lAt (Sx i) kk) (by have := HTS.out.1.2 kk (by have := HTS.out.1.1; omega); simp; omega)
            have hS0 : strV ([0] ++ (lAt (Sx i) kk).data.toList) = strV (upT n F C U (Sx i) (Lx i) kk 0) := by unfold upT hdT; rw [if_pos hkn]; simp [jn]
            rw [hS0] at ha
            change ∀ w, (binOp .add 9 (.string ⟨#[0]⟩) _).run _ w = _ at ha
            obtain ⟨V0, hV0⟩ : ∃ V, V = strV (upT n F C U (Sx i) (Lx i) kk 0) := ⟨_, rfl⟩
            obtain ⟨V2, hV2⟩ : ∃ V, V = Value.string (lAt (Sx i) kk) := ⟨_, rfl⟩
            rw [← hV2] at e1 ha
            rw [← hV0] at ha
            have HS0 := Lib.hid hV0
            clear hV0 hV2 hS0 hcc1 hbl1
            go_wp2_with fail
            refine (hchk _).mono ?_
            rintro e wc ⟨⟨vc, rfl, ac, nc, cc, rfl, hri, -⟩, hbc⟩
            have hnc := hri.len
            subst hnc
            have hccm : (cc : Int) ≤ 9223372036854775807 := by have := hri.cm; unfold maxLen at this; omega
            have hcle := hri.le
            have HTWc := Lib.hid (HTW.out.below hbc)
            have HRAc := Lib.hid (HRA.out.below hbc)
            have HCc := Lib.hid (HC2.out.trans (hbc.mono HC2.out.size))
            have HRI := Lib.hid hri
            clear hbc hri HTW HRA HC2 hchk
            go_wp2_with fail
            go_loopw [11, 13] (fun s m wr => ∃ j : Nat, j ≤ ks.length ∧ m = .int .i64 j ∧ s = strV (upT n F C U (Sx i) (Lx i) kk j) ∧ wr = wc) (fun _ m _ => ks.length - (intOf m).toNat)
            case atStart => exact ⟨0, by omega, rfl, HS0.out, rfl⟩
            case round =>
              obtain ⟨j, hj, rfl, rfl, rfl⟩ := hrel
              by_cases hjl : j < ks.length
              · have z0 : (0 : Int) ≤ (j : Int) := by omega
                have z1 : (j : Int) < (ks.length : Int) := by omega
                obtain ⟨b, off, rfl, _, hcc⟩ := HRI.out.at0 (by omega)
                have e0 := hcc j hjl
                obtain ⟨x, hx, hxl⟩ := HKS.out _ (List.getElem_mem hjl)
                rw [show ks[j]?.getD 0 = (x : Int) from by rw [List.getElem?_eq_getElem hjl]; exact hx] at e0
                have z2 : (0 : Int) ≤ (x : Int) := by omega
                have z3 : (x : Int) < (M : Int) := by omega
                have d4 := HRAc.out.r.cells.2.2.2.2.1
                have e1 := HRAc.out.r.at (g := g) rfl (j := x) (by have := HTS.out.2.1; omega)
                have hup := HUP.out j hjl x hx
                obtain ⟨V0, hV0⟩ : ∃ V, V = strV (upT n F C U (Sx i) (Lx i) kk j) := ⟨_, rfl⟩
                obtain ⟨V1, hV1⟩ : ∃ V, V = strV (upT n F C U (Sx i) (Lx i) kk (j + 1)) := ⟨_, rfl⟩
                obtain ⟨V2, hV2⟩ : ∃ V, V = Value.string (lAt (Lx i) x) := ⟨_, rfl⟩
                rw [← hV2] at e1
                rw [← hV0, ← hV1, ← hV2] at hup
                rw [← hV0]
                have HV := Lib.hid hV1
                clear hV0 hV1 hV2 hx hcc
                go_wp2
                go_roundw
                case rel => exact ⟨j + 1, by omega, by go_num, HV.out, by first | rfl | trivial⟩
                case measure => simp [intOf]; omega
              · obtain rfl : j = ks.length := by omega
                have i1 : ¬ (ks.length : Int) < (ks.length : Int) := by omega
                obtain ⟨tx, htx⟩ : ∃ tx, tx = txT n F C U (Sx i) (Lx i) kk := ⟨_, rfl⟩
                have hres : strV (upT n F C U (Sx i) (Lx i) kk ks.length) = .string tx := by rw [htx]; unfold txT; rw [← HKE.out]; rfl
                rw [hres]
                have HTX := Lib.hid htx
                clear hres htx
                obtain ⟨i0, hi0, hz0, hz1, hz2⟩ := HI.out
                have hTWa := HTWc.out.below ((Below.refl _ _).alloc (Nat.le_refl _) (.cells #[.string tx] 9))
                have hRAa := HRAc.out.below ((Below.refl _ _).alloc (Nat.le_refl _) (.cells #[.string tx] 9))
                have hCa := HCc.out.alloc HCc.out.size (.cells #[.string tx] 9)
                have HTWa := Lib.hid hTWa
                have HRAa := Lib.hid hRAa
                have HCa := Lib.hid hCa
                have HSZ := Lib.hid hTWa.b.size
                obtain ⟨at0, ct0, e9, -⟩ := towns_shape HTWc.out.t
                have hlenT : T.length ≤ 1000 := HLT.out.1
                have hlenD : D.length ≤ 1000 := HLT.out.2
                clear hTWa hRAa hCa
                subst e9
                go_wp2_with (at_builtin; refine wpList_append_s (o := ⟨some 80, _, _, _, _, _⟩) rfl (.tmp 77) (.tmp 79) 24 rfl w1.heap.size i0 Tryd.underlying24 hi0 hz0 hz1 hz2 _ _ _ rfl HTWa.out.t _ rfl rfl (by omega) HSZ.out ?_)
                intro v5 w5 h1 h2 h3
                have hTW5 := HTWa.out.growT h1 h2 (by rw [World.size_alloc]; exact h3)
                have hRA5 := HRAa.out.growT h2 (by rw [World.size_alloc]; exact h3)
                have hC5 := HCa.out.grown h2 HCa.out.size (fun x hx => (HTWa.out.t.lt x hx).1)
                have e4 := hRA5.r.cells.2.2.2.2.1
                have e5 := hRA5.r.at (g := g) rfl (j := kk) (by have := HTS.out.2.1; omega)
                obtain ⟨yd, hyd⟩ : ∃ y, y = lAt (Lx i) kk := ⟨_, rfl⟩
                rw [← hyd] at e5
                have hTWb := hTW5.below ((Below.refl _ _).alloc (Nat.le_refl _) (.cells #[.string yd] 9))
                have hRAb := hRA5.below ((Below.refl _ _).alloc (Nat.le_refl _) (.cells #[.string yd] 9))
                have hCb := hC5.alloc hC5.size (.cells #[.string yd] 9)
                obtain ⟨ad0, cd0, e9, -⟩ := towns_shape hTW5.d
                have HTWb := Lib.hid hTWb
                have HRAb := Lib.hid hRAb
                have HCb := Lib.hid hCb
                have HSB := Lib.hid hTWb.b.size
                have HYD := Lib.hid hyd
                obtain ⟨at5, ct5, e8, -⟩ := towns_shape h1
                clear hTWb hRAb hCb h1 h2 h3 hTW5 hRA5 hC5 hyd
                subst e9
                subst e8
                go_wp2_with (at_builtin; refine wpList_append_s (o := ⟨some 90, _, _, _, _, _⟩) rfl (.tmp 81) (.tmp 89) 24 rfl w1.heap.size i0 Tryd.underlying24 hi0 hz0 hz1 hz2 _ _ _ rfl HTWb.out.d _ rfl rfl (by omega) HSB.out ?_)
                intro v6 w6 h1 h2 h3
                have hTW6 := HTWb.out.growD h1 h2 (by rw [World.size_alloc]; exact h3)
                have hRA6 := HRAb.out.growD h2 (by rw [World.size_alloc]; exact h3)
                have hC6 := HCb.out.grown h2 HCb.out.size (fun x hx => (HTWb.out.d.lt x hx).1)
                obtain ⟨ad6, cd6, e7, -⟩ := towns_shape h1
                subst e7
                have hE1 : T ++ [tx] = allT n F C U Sx Lx M i ++ txL n F C U (Sx i) (Lx i) (kk + 1) := by rw [HTD.out.1, HTX.out, List.append_assoc, ← txL_next]
                have hE2 : D ++ [yd] = allD Lx i ++ (Lx i).take (kk + 1) := by rw [HTD.out.2, HYD.out, List.append_assoc, ← HTK.out]
                rw [hE1, hE2] at hTW6
                have HX6 := Lib.hid (And.intro hTW6 (And.intro hRA6 hC6))
                clear h1 h2 h3 hTW6 hRA6 hC6 e4 e5 hE1 hE2
                go_wp2
                go_roundw
                case rel => exact ⟨kk + 1, by omega, by go_num, HX6.out.1, HX6.out.2.1, HX6.out.2.2⟩
                case measure => simp [intOf]; omega
          · have k2 : ¬ (kk : Int) < (n : Int) := by omega
            have hS0 : Value.string ⟨#[1]⟩ = strV (upT n F C U (Sx i) (Lx i) kk 0) := by unfold upT hdT; rw [if_neg hkn]; rfl
            have HS0 := Lib.hid hS0
            clear hS0
            go_wp2_with fail
            refine (hchk _).mono ?_
            rintro e wc ⟨⟨vc, rfl, ac, nc, cc, rfl, hri, -⟩, hbc⟩
            have hnc := hri.len
            subst hnc
            have hccm : (cc : Int) ≤ 9223372036854775807 := by have := hri.cm; unfold maxLen at this; omega
            have hcle := hri.le
            have HTWc := Lib.hid (HTW.out.below hbc)
            have HRAc := Lib.hid (HRA.out.below hbc)
            have HCc := Lib.hid (HC2.out.trans (hbc.mono HC2.out.size))
            have HRI := Lib.hid hri
            clear hbc hri HTW HRA HC2 hchk
            go_wp2_with fail
            go_loopw [11, 13] (fun s m wr => ∃ j : Nat, j ≤ ks.length ∧ m = .int .i64 j ∧ s = strV (upT n F C U (Sx i) (Lx i) kk j) ∧ wr = wc) (fun _ m _ => ks.length - (intOf m).toNat)
            case atStart => exact ⟨0, by omega, rfl, HS0.out, rfl⟩
            case round =>
              obtain ⟨j, hj, rfl, rfl, rfl⟩ := hrel
              by_cases hjl : j < ks.length
              · have z0 : (0 : Int) ≤ (j : Int) := by omega
                have z1 : (j : Int) < (ks.length : Int) := by omega
                obtain ⟨b, off, rfl, _, hcc⟩ := HRI.out.at0 (by omega)
                have e0 := hcc j hjl
                obtain ⟨x, hx, hxl⟩ := HKS.out _ (List.getElem_mem hjl)
                rw [show ks[j]?.getD 0 = (x : Int) from by rw [List.getElem?_eq_getElem hjl]; exact hx] at e0
                have z2 : (0 : Int) ≤ (x : Int) := by omega
                have z3 : (x : Int) < (M : Int) := by omega
                have d4 := HRAc.out.r.cells.2.2.2.2.1
                have e1 := HRAc.out.r.at (g := g) rfl (j := x) (by have := HTS.out.2.1; omega)
                have hup := HUP.out j hjl x hx
                obtain ⟨V0, hV0⟩ : ∃ V, V = strV (upT n F C U (Sx i) (Lx i) kk j) := ⟨_, rfl⟩
                obtain ⟨V1, hV1⟩ : ∃ V, V = strV (upT n F C U (Sx i) (Lx i) kk (j + 1)) := ⟨_, rfl⟩
                obtain ⟨V2, hV2⟩ : ∃ V, V = Value.string (lAt (Lx i) x) := ⟨_, rfl⟩
                rw [← hV2] at e1
                rw [← hV0, ← hV1, ← hV2] at hup
                rw [← hV0]
                have HV := Lib.hid hV1
                clear hV0 hV1 hV2 hx hcc
                go_wp2
                go_roundw
                case rel => exact ⟨j + 1, by omega, by go_num, HV.out, by first | rfl | trivial⟩
                case measure => simp [intOf]; omega
              · obtain rfl : j = ks.length := by omega
                have i1 : ¬ (ks.length : Int) < (ks.length : Int) := by omega
                obtain ⟨tx, htx⟩ : ∃ tx, tx = txT n F C U (Sx i) (Lx i) kk := ⟨_, rfl⟩
                have hres : strV (upT n F C U (Sx i) (Lx i) kk ks.length) = .string tx := by rw [htx]; unfold txT; rw [← HKE.out]; rfl
                rw [hres]
                have HTX := Lib.hid htx
                clear hres htx
                obtain ⟨i0, hi0, hz0, hz1, hz2⟩ := HI.out
                have hTWa := HTWc.out.below ((Below.refl _ _).alloc (Nat.le_refl _) (.cells #[.string tx] 9))
                have hRAa := HRAc.out.below ((Below.refl _ _).alloc (Nat.le_refl _) (.cells #[.string tx] 9))
                have hCa := HCc.out.alloc HCc.out.size (.cells #[.string tx] 9)
                have HTWa := Lib.hid hTWa
                have HRAa := Lib.hid hRAa
                have HCa := Lib.hid hCa
                have HSZ := Lib.hid hTWa.b.size
                obtain ⟨at0, ct0, e9, -⟩ := towns_shape HTWc.out.t
                have hlenT : T.length ≤ 1000 := HLT.out.1
                have hlenD : D.length ≤ 1000 := HLT.out.2
                clear hTWa hRAa hCa
                subst e9
                go_wp2_with (at_builtin; refine wpList_append_s (o := ⟨some 80, _, _, _, _, _⟩) rfl (.tmp 77) (.tmp 79) 24 rfl w1.heap.size i0 Tryd.underlying24 hi0 hz0 hz1 hz2 _ _ _ rfl HTWa.out.t _ rfl rfl (by omega) HSZ.out ?_)
                intro v5 w5 h1 h2 h3
                have hTW5 := HTWa.out.growT h1 h2 (by rw [World.size_alloc]; exact h3)
                have hRA5 := HRAa.out.growT h2 (by rw [World.size_alloc]; exact h3)
                have hC5 := HCa.out.grown h2 HCa.out.size (fun x hx => (HTWa.out.t.lt x hx).1)
                have e4 := hRA5.r.cells.2.2.2.2.1
                have e5 := hRA5.r.at (g := g) rfl (j := kk) (by have := HTS.out.2.1; omega)
                obtain ⟨yd, hyd⟩ : ∃ y, y = lAt (Lx i) kk := ⟨_, rfl⟩
                rw [← hyd] at e5
                have hTWb := hTW5.below ((Below.refl _ _).alloc (Nat.le_refl _) (.cells #[.string yd] 9))
                have hRAb := hRA5.below ((Below.refl _ _).alloc (Nat.le_refl _) (.cells #[.string yd] 9))
                have hCb := hC5.alloc hC5.size (.cells #[.string yd] 9)
                obtain ⟨ad0, cd0, e9, -⟩ := towns_shape hTW5.d
                have HTWb := Lib.hid hTWb
                have HRAb := Lib.hid hRAb
                have HCb := Lib.hid hCb
                have HSB := Lib.hid hTWb.b.size
                have HYD := Lib.hid hyd
                obtain ⟨at5, ct5, e8, -⟩ := towns_shape h1
                clear hTWb hRAb hCb h1 h2 h3 hTW5 hRA5 hC5 hyd
                subst e9
                subst e8
                go_wp2_with (at_builtin; refine wpList_append_s (o := ⟨some 90, _, _, _, _, _⟩) rfl (.tmp 81) (.tmp 89) 24 rfl w1.heap.size i0 Tryd.underlying24 hi0 hz0 hz1 hz2 _ _ _ rfl HTWb.out.d _ rfl rfl (by omega) HSB.out ?_)
                intro v6 w6 h1 h2 h3
                have hTW6 := HTWb.out.growD h1 h2 (by rw [World.size_alloc]; exact h3)
                have hRA6 := HRAb.out.growD h2 (by rw [World.size_alloc]; exact h3)
                have hC6 := HCb.out.grown h2 HCb.out.size (fun x hx => (HTWb.out.d.lt x hx).1)
                obtain ⟨ad6, cd6, e7, -⟩ := towns_shape h1
                subst e7
                have hE1 : T ++ [tx] = allT n F C U Sx Lx M i ++ txL n F C U (Sx i) (Lx i) (kk + 1) := by rw [HTD.out.1, HTX.out, List.append_assoc, ← txL_next]
                have hE2 : D ++ [yd] = allD Lx i ++ (Lx i).take (kk + 1) := by rw [HTD.out.2, HYD.out, List.append_assoc, ← HTK.out]
                rw [hE1, hE2] at hTW6
                have HX6 := Lib.hid (And.intro hTW6 (And.intro hRA6 hC6))
                clear h1 h2 h3 hTW6 hRA6 hC6 e4 e5 hE1 hE2
                go_wp2
                go_roundw
                case rel => exact ⟨kk + 1, by omega, by go_num, HX6.out.1, HX6.out.2.1, HX6.out.2.2⟩
                case measure => simp [intOf]; omega
        · obtain rfl : kk = M := by omega
          have i1 : ¬ ((kk : Int) < (kk : Int)) := by omega
          have hE : allD Lx i ++ (Lx i).take kk = allD Lx (i + 1) := by rw [List.take_of_length_le (by rw [HTS.out.2.1]; exact Nat.le_refl _)]; exact HNX.out.2.symm
          rw [hE, ← HNX.out.1] at hTW
          have HX := Lib.hid (And.intro hTW hC)
          clear hTW hRA hC hE
          go_wp2
          go_roundw
          case rel => exact ⟨i + 1, by omega, by go_num, HX.out.1, HX.out.2⟩
          case measure => simp [intOf]; omega
    · obtain rfl : i = 2 := by omega
      have i1 : ¬ ((2 : Int) < 2) := by omega
      obtain ⟨W, hW⟩ : ∃ W, W = wr := ⟨_, rfl⟩
      subst hW
      have hT2 : allT n F C U Sx Lx M 2 = txL n F C U (Sx 0) (Lx 0) M ++ txL n F C U (Sx 1) (Lx 1) M := by simp [allT]
      have hD2 : allD Lx 2 = Lx 0 ++ Lx 1 := by simp [allD]
      have hx := HX.out
      rw [← hT2, ← hD2] at hx
      have hlT : (allT n F C U Sx Lx M 2).length = 2 * M := by rw [hT2, List.length_append, txL_length, txL_length]; omega
      have hlD : (allD Lx 2).length = 2 * M := by rw [hD2, List.length_append, (HTL.out 0 (by omega)).1, (HTL.out 1 (by omega)).1]; omega
      generalize allT n F C U Sx Lx M 2 = T2 at *
      generalize allD Lx 2 = D2 at *
      obtain ⟨at2, ct2, e8, hrT, -⟩ := towns_shape hTW.t
      obtain ⟨ad2, cd2, e9, hrD, -⟩ := towns_shape hTW.d
      subst e8
      subst e9
      rw [hlT] at hrT
      rw [hlD] at hrD
      rw [hlT, hlD]
      have hcT : ((ct2 : Nat) : Int) ≤ 9223372036854775807 ∧ 2 * M ≤ ct2 := ⟨by have := hrT.cm; unfold maxLen at this; omega, hrT.le⟩
      have hcD : ((cd2 : Nat) : Int) ≤ 9223372036854775807 ∧ 2 * M ≤ cd2 := ⟨by have := hrD.cm; unfold maxLen at this; omega, hrD.le⟩
      obtain ⟨hcT1, hcT2⟩ := hcT
      obtain ⟨hcD1, hcD2⟩ := hcD
      have HRT := Lib.hid hrT
      have HRD := Lib.hid hrD
      have HBR := Lib.hid hTW.b
      have HXX := Lib.hid hx
      obtain ⟨m2, hm2⟩ : ∃ m2, m2 = 2 * M := ⟨_, rfl⟩
      have HM2 := Lib.hid hm2
      rw [← hm2] at hcT2 hcD2 ⊢
      clear hTW hC hT2 hD2 hlT hlD hrT hrD hx HX HGC HQQ HNW HCH HSR HSX HTL HB0 HCX hm2
      go_wp2_with fail
      go_loopw [15] (fun i wx => ∃ a : Nat, a ≤ m2 ∧ i = .int .i64 a ∧ (∀ x y, x < a → y < x → ¬ (lAt D2 x = lAt D2 y ∧ lAt T2 x ≠ lAt T2 y)) ∧ Below W.heap.size W wx) (fun i _ => m2 - (intOf i).toNat)
      case atStart => exact ⟨0, by omega, rfl, fun x y h => by omega, Below.refl _ _⟩
      case round =>
        obtain ⟨ka, hka, rfl, hall, hBx⟩ := hrel
        by_cases hla : ka < m2
        · have a0 : (0 : Int) ≤ (ka : Int) := by omega
          have a1 : (ka : Int) < (m2 : Int) := by omega
          have HAL := Lib.hid hall
          have HBX := Lib.hid hBx
          clear hall hBx
          go_wp2_with fail
          go_loopw [16] (fun k wx => ∃ b : Nat, b ≤ ka ∧ k = .int .i64 b ∧ (∀ y, y < b → ¬ (lAt D2 ka = lAt D2 y ∧ lAt T2 ka ≠ lAt T2 y)) ∧ Below W.heap.size W wx) (fun k _ => ka - (intOf k).toNat)
          case atStart => exact ⟨0, by omega, rfl, fun y h => by omega, HBX.out⟩
          case round =>
            have hall := HAL.out
            clear HBX
            obtain ⟨kb, hkb, rfl, hin, hBx⟩ := hrel
            by_cases hlb : kb < ka
            · have b0 : (0 : Int) ≤ (kb : Int) := by omega
              have b1 : (kb : Int) < (ka : Int) := by omega
              have b2 : (kb : Int) < (m2 : Int) := by omega
              have hrT := HRT.out.later hBx
              have hrD := HRD.out.later hBx
              obtain ⟨bT, oT, rfl, _, hcTT⟩ := hrT.at0 (by have := HM2.out; omega)
              obtain ⟨bD, oD, rfl, _, hcDD⟩ := hrD.at0 (by have := HM2.out; omega)
              have e1 := hcDD ka (by have := HM2.out; omega)
              have e2 := hcDD kb (by have := HM2.out; omega)
              have e3 := hcTT ka (by have := HM2.out; omega)
              have e4 := hcTT kb (by have := HM2.out; omega)
              have hg1 := fun u v w => guard_txt .eql u v (lAt D2 ka) (lAt D2 kb) w
              have hg2 := fun u v w => guard_txt .neq u v (lAt T2 ka) (lAt T2 kb) w
              obtain ⟨VD1, hVD1⟩ : ∃ V, V = Value.string (lAt D2 ka) := ⟨_, rfl⟩
              obtain ⟨VD2, hVD2⟩ : ∃ V, V = Value.string (lAt D2 kb) := ⟨_, rfl⟩
              obtain ⟨VT1, hVT1⟩ : ∃ V, V = Value.string (lAt T2 ka) := ⟨_, rfl⟩
              obtain ⟨VT2, hVT2⟩ : ∃ V, V = Value.string (lAt T2 kb) := ⟨_, rfl⟩
              rw [← hVD1] at e1
              rw [← hVD2] at e2
              rw [← hVT1] at e3
              rw [← hVT2] at e4
              simp only [← hVD1, ← hVD2] at hg1
              simp only [← hVT1, ← hVT2] at hg2
              have HB := Lib.hid (fun nq => below_drewN hBx nq)
              clear hcTT hcDD hrT hrD
              by_cases hd : lAt D2 ka = lAt D2 kb
              · by_cases ht : lAt T2 ka = lAt T2 kb
                · have hq1 : ∀ w, (binOp .eql 9 VD1 VD2).run Tryd.prog w = .ok (.bool true) w := fun w => by rw [hVD1, hVD2, eql_txt, decide_eq_true hd]
                  have hq2 : ∀ w, (binOp .neq 9 VT1 VT2).run Tryd.prog w = .ok (.bool false) w := fun w => by rw [hVT1, hVT2, neq_txt, decide_eq_true ht]; rfl
                  have HNX := Lib.hid (And.intro hall hin)
                  clear hVD1 hVD2 hVT1 hVT2 hall hin hBx
                  go_wp2
                  go_quiet (fail)
                  have HBE := Lib.hid (HB.out nq)
                  clear HB e1 e2 e3 e4 hq1 hq2 hg1 hg2
                  go_wp2
                  go_roundw
                  case rel => exact ⟨kb + 1, by omega, by go_num, fun y hy => (by
                    rcases Nat.lt_or_ge y kb with h | h
                    · exact HNX.out.2 y h
                    · obtain rfl : y = kb := by omega
                      exact fun hh => hh.2 ht), HBE.out⟩
                  case measure => simp [intOf]; omega
                · have hq1 : ∀ w, (binOp .eql 9 VD1 VD2).run Tryd.prog w = .ok (.bool true) w := fun w => by rw [hVD1, hVD2, eql_txt, decide_eq_true hd]
                  have hq2 : ∀ w, (binOp .neq 9 VT1 VT2).run Tryd.prog w = .ok (.bool true) w := fun w => by rw [hVT1, hVT2, neq_txt, decide_eq_false ht]; rfl
                  have HNX := Lib.hid (And.intro hall hin)
                  clear hVD1 hVD2 hVT1 hVT2 hall hin hBx
                  go_wp2
                  go_quiet (fail)
                  have HBE := Lib.hid (HB.out nq)
                  clear HB
                  go_wp2
                  go_ret
                  exact ⟨rfl, HBW.out _ (HBR.out.trans (HBE.out.mono HBR.out.size))⟩
              · have hq1 : ∀ w, (binOp .eql 9 VD1 VD2).run Tryd.prog w = .ok (.bool false) w := fun w => by rw [hVD1, hVD2, eql_txt, decide_eq_false hd]
                have HNX := Lib.hid (And.intro hall hin)
                clear hVD1 hVD2 hVT1 hVT2 hall hin hBx
                go_wp2
                go_quiet (fail)
                have HBE := Lib.hid (HB.out nq)
                clear HB e1 e2 e3 e4 hq1 hg1 hg2
                go_wp2
                go_roundw
                case rel => exact ⟨kb + 1, by omega, by go_num, fun y hy => (by
                  rcases Nat.lt_or_ge y kb with h | h
                  · exact HNX.out.2 y h
                  · obtain rfl : y = kb := by omega
                    exact fun hh => hd hh.1), HBE.out⟩
                case measure => simp [intOf]; omega
            · obtain rfl : kb = ka := by omega
              have b1 : ¬ ((kb : Int) < (kb : Int)) := by omega
              have HNX := Lib.hid (And.intro hall hin)
              have HB := Lib.hid hBx
              clear hall hin hBx
              go_wp2
              go_roundw
              case rel => exact ⟨kb + 1, by omega, by go_num, fun x y hx hy => (by
                rcases Nat.lt_or_ge x kb with h | h
                · exact HNX.out.1 x y h hy
                · obtain rfl : x = kb := by omega
                  exact HNX.out.2 y hy), HB.out⟩
              case measure => simp [intOf]; omega
        · exfalso
          obtain ⟨i, k, h1, h2, h3, h4⟩ := HXX.out
          exact hall i k (by have := HM2.out; omega) h2 ⟨h3, h4⟩
where
  tend_ok' {f : FuncId} {args : Array Value} {er : Int} {N F C U : Int} {L : List ByteArray} {w : World} (h : Calls Tryd.prog f args w fun e w' => TEnd er N F C U L w e w') (he : er = 0) : Calls Tryd.prog f args w fun e w' => TNew N F C U L w e w' :=
    h.mono fun e w' h => by
      rcases h with ⟨_, h⟩ | ⟨h, _⟩
      · exact h
      · exact absurd he h
end Go.Proofs.YtojanhpilhledaaDoor

/-
  Texts put together: V0, V1, V2.
-/
import Derived.Test.YtpdlpoomgkpogaaDoorMU
import Derived.Deep.RegionWith
import Derived.Deep.RegionHeld3
import Derived.Deep.DeepCutAuto
/-
  The program's trees: slices.Clone of texts; Digest, Geom, Root; a list that is checked (fault).
-/
namespace Go.Proofs.YtpdlpoomgkpogaaDoor
open Go.RowKit
set_option linter.unusedVariables false
set_option linter.unusedSimpArgs false

theorem rs_src {w : World} {a : Option Addr} {n c : Nat} {L : List ByteArray} (h : Rs w a n c L) (h0 : 0 < n) (o : Obj) : ∃ b off, a = some ⟨b, off, none⟩ ∧ ∀ (j : Nat) (u : Value), (strs L)[j]? = some u → (w.alloc o).cell? ((⟨b, off, none⟩ : Addr).add j) = some u := by
  obtain ⟨b, off, rfl, hb, hc⟩ := h.at0 h0
  refine ⟨b, off, rfl, fun j u hj => ?_⟩
  have hjl : j < L.length := by
    have := (List.getElem?_eq_some_iff.1 hj).1
    rwa [strs_length] at this
  rw [strs_at hjl] at hj
  cases hj
  rw [Addr.add_none, World.cell?_of_block (w := w) (Below.heap_alloc _ _ _ hb)]
  exact hc j (by rw [← h.len]; exact hjl)

set_option maxRecDepth 20000 in
set_option maxHeartbeats 1000000 in
theorem tclone_any (a : Option Addr) (n c : Nat) (L : List ByteArray) (w : World) (h : Rs w a n c L) (h0 : 0 < n) (hn : n ≤ 1000000) :
    Calls Tryd.prog 27 #[.slice a n c] w fun e w' => ∃ v', e = .returned v' ∧ w'.ownsRow w.heap.size 9 1 v' n (strs L) ∧ Below w.heap.size w w' := by
  have q22 : ∀ (w : World) (a : Option Addr) (n c n' c' : Nat), (binOp .eql 24 (.slice a n c) (.slice none n' c')).run Tryd.prog w = .ok (.bool a.isNone) w := fun w a n c n' c' => Lib.run_eql_slice_nil w _ _ a n c n' c' Tryd.underlying24
  obtain ⟨b, off, rfl, hsrc⟩ := rs_src h h0 (.cells #[] 9)
  obtain ⟨i0, hi, hz0, hz1, hz2⟩ := info_parts Tryd.info9
  have hl : (strs L).length = n * 1 := by rw [strs_length, h.len, Nat.mul_one]
  have HS := Lib.hid hsrc
  have HL := Lib.hid hl
  clear h hsrc hl
  go_enter Tryd.func27, Tryd.ntmps27
  go_wp2_with (at_builtin; refine wpList_append_own _ (o := ⟨some 7, _, _, _, _, _⟩) rfl (.tmp 5) (.tmp 6) 24 rfl w.heap.size 9 i0 _ 1 16 Tryd.underlying24 hi hz0 hz1 hz2 rfl (by omega) _ _ _ rfl (World.ownsRow_made w #[] 0 (Nat.le_refl _) (Nat.zero_le _) (by simp)) ⟨b, off, none⟩ n c (strs L) rfl HL.out HS.out (strs_one _) (by unfold maxLen; omega) (by omega) (by simp) ?_)
  intro v' w1 hown hgrow _
  go_wp2
  go_ret
  exact ⟨_, rfl, by simpa using hown, ((Below.refl _ w).alloc (Nat.le_refl _) _).grown hgrow (by simp) (by intro k hk; simp [Value.ownBlock] at hk; omega)⟩

set_option maxRecDepth 20000 in
set_option maxHeartbeats 1000000 in
theorem tdigest_any (B p : Nat) (v : Value) (N F C U : Int) (L : List ByteArray) (node : Int) (w : World) (h : PT w B p v N F C U L) (h1 : L.length ≤ 1000) :
    Calls Tryd.prog 49 #[.pointer (some ⟨p, 0, none⟩), .int .i64 node] w fun e w' => e = .returned (pairV (digP L node)) ∧ Below w.heap.size w w' := by
  obtain ⟨_, _, _, _, c4, _⟩ := h.cells
  obtain ⟨a, c, rfl, hrs, _⟩ := towns_shape h.own
  have hcx : (c : Int) ≤ 9223372036854775807 := by have := hrs.cm; unfold maxLen at this; omega
  unfold digP pairV
  by_cases hn : node < 0
  · rw [if_pos (.inl hn)]
    unfold noBytes
    clear h hrs
    go_enter Tryd.func49, Tryd.ntmps49
    go_wp2
    refine bodyPost_ret (results_tmp2 rfl _ _ _) rfl ?_
    exact ⟨rfl, Below.refl _ _⟩
  · by_cases hg : (L.length : Int) ≤ node
    · rw [if_pos (.inr hg)]
      unfold noBytes
      clear h hrs
      go_enter Tryd.func49, Tryd.ntmps49
      go_wp2
      refine bodyPost_ret (results_tmp2 rfl _ _ _) rfl ?_
      exact ⟨rfl, Below.refl _ _⟩
    · rw [if_neg (by omega)]
      obtain ⟨m, rfl⟩ : ∃ m : Nat, node = m := ⟨node.toNat, by omega⟩
      have hml : m < L.length := by omega
      obtain ⟨b, off, rfl, hbl, hc⟩ := hrs.at0 (by omega)
      have e0 := hc m hml
      rw [Int.toNat_natCast]
      generalize lAt L m = s at *
      have i1 : (m : Int) < (L.length : Int) := by omega
      have i0 : (0 : Int) ≤ (m : Int) := by omega
      clear hc hrs hbl h
      go_enter Tryd.func49, Tryd.ntmps49
      go_wp2
      refine bodyPost_ret (results_tmp2 rfl _ _ _) rfl ?_
      exact ⟨rfl, Below.refl _ _⟩

set_option maxRecDepth 20000 in
set_option maxHeartbeats 1000000 in
theorem tgeom_any (B p : Nat) (v : Value) (N F C U : Int) (L : List ByteArray) (w : World) (h : PT w B p v N F C U L) :
    Calls Tryd.prog 34 #[.pointer (some ⟨p, 0, none⟩)] w fun e w' => e = .returned (geo N F C U) ∧ Below w.heap.size w w' := by
  have hb : Below w.heap.size w (w.alloc (.cells #[.int .i64 0, .int .i64 0, .int .i64 0, .int .i64 0] 23)) := (Below.refl _ w).alloc (Nat.le_refl _) _
  obtain ⟨c0, c1, c2, c3, _, _⟩ := (h.below hb).cells
  have hp := h.lt
  have HB := Lib.hid hb
  clear h hb
  unfold geo
  go_enter Tryd.func34, Tryd.ntmps34
  go_wp2
  refine bodyPost_ret (by simp [results, Tryd.f34, go_sem]; try rfl) rfl ?_
  exact ⟨rfl, (Below.refl _ w).alloc (Nat.le_refl _) _⟩

set_option maxRecDepth 20000 in
set_option maxHeartbeats 1000000 in
theorem troot_any (B p : Nat) (v : Value) (N F C U : Int) (L : List ByteArray) (w : World) (h : PT w B p v N F C U L) (h1 : L.length ≤ 1000) (hl : L.length = nodes N F C U) (h0 : 0 < L.length) :
    Calls Tryd.prog 23 #[.pointer (some ⟨p, 0, none⟩)] w fun e w' => e = .returned (.string (lAt L (L.length - 1))) ∧ Below w.heap.size w w' := by
  have g1 := tgeom_any B p v N F C U L w h
  have g2 := fun w => root_any N F C U w
  rw [← hl] at g2
  have hd : digP L ((L.length - 1 : Nat) : Int) = (lAt L (L.length - 1), 0) := by
    unfold digP
    rw [if_neg (by omega), Int.toNat_natCast]
  have g3 := fun w' (hb : Below w.heap.size w w') => tdigest_any B p v N F C U L ((L.length - 1 : Nat) : Int) w' (h.below hb) h1
  simp only [hd] at g3
  unfold pairV at g3
  dsimp only at g3
  unfold geo at g1 g2
  generalize lAt L (L.length - 1) = s at *
  generalize ((L.length - 1 : Nat) : Int) = k at *
  have G1 := Lib.hid g1
  have G2 := Lib.hid g2
  have G3 := Lib.hid g3
  clear g1 g2 g3 h hd h1 hl h0
  go_enter Tryd.func23, Tryd.ntmps23
  go_wp2_with fail
  refine G1.out.mono ?_
  rintro e w1 ⟨rfl, hb⟩
  have HB1 := Lib.hid hb
  clear hb G1
  go_wp2_with fail
  refine (G2.out _).mono ?_
  rintro e w2 ⟨rfl, hb⟩
  have HB2 := Lib.hid (HB1.out.trans (hb.mono HB1.out.size))
  clear hb G2 HB1
  go_wp2_with fail
  refine (G3.out _ HB2.out).mono ?_
  rintro e w3 ⟨rfl, hb⟩
  have HB3 := Lib.hid (HB2.out.trans (hb.mono HB2.out.size))
  clear hb G3 HB2
  go_wp2
  go_ret
  exact ⟨rfl, HB3.out⟩

/-- Why no tree is made of a list; 0: one is. -/
def faultE (N F C U cnt : Int) (L : List ByteArray) (K : Nat) : Int := if ¬ okG N F C U then 12 else if (L.length : Int) ≠ cnt then 8 else if ∀ i, i < L.length → (lAt L i).size = K then 0 else 4
theorem faultE_new (N F C U : Int) (L) : faultE N F C U N L 64 = newErr N F C U L := rfl
theorem faultE_from (N F C U : Int) (L) : faultE N F C U (nodes N F C U : Int) L 32 = fromErr N F C U L := by
  unfold faultE fromErr
  have e : ((L.length : Int) ≠ (nodes N F C U : Int)) = (L.length ≠ nodes N F C U) := propext (by constructor <;> intro h <;> omega)
  simp only [e]

set_option maxRecDepth 20000 in
set_option maxHeartbeats 2000000 in
theorem fault_sec (N F C U cnt : Int) (a : Option Addr) (l cap : Nat) (L : List ByteArray) (w : World) (hP : Rs w a l cap L) :
    Calls Tryd.prog 24 #[geo N F C U, .int .i64 cnt, .slice a l cap, .func (.func 38) #[] #[]] w fun e w' => e = .returned (.int .i64 (faultE N F C U cnt L 64)) ∧ Below w.heap.size w w' := by
  have g1 := gright_any N F C U
  have hb0 := (Below.refl w.heap.size w).alloc (Nat.le_refl _) (gbox N F C U)
  unfold gbox at hb0
  have hle := hP.le
  have hcx : (cap : Int) ≤ 9223372036854775807 := by have := hP.cm; unfold maxLen at this; omega
  have hlen := hP.len
  have HP := Lib.hid (hP.later hb0)
  have HB0 := Lib.hid hb0
  clear hP hb0
  unfold geo at *
  by_cases hok : okG N F C U
  · simp only [decide_eq_true hok] at g1
    have G1 := Lib.hid g1
    clear g1
    by_cases hc : (l : Int) = cnt
    · subst hc
      have he : faultE N F C U (l : Int) L 64 = if ∀ i, i < l → (lAt L i).size = 64 then 0 else 4 := by unfold faultE; rw [if_neg (fun h => h hok), if_neg (by rw [hlen]; simp), hlen]
      have HE := Lib.hid he
      clear he hok
      go_enter Tryd.func24, Tryd.ntmps24
      go_wp2_with fail
      refine (G1.out _).mono ?_
      rintro e w1 ⟨rfl, hb⟩
      have HB1 := Lib.hid (HB0.out.trans (hb.mono HB0.out.size))
      have HP1 := Lib.hid (HP.out.later hb)
      clear hb HP HB0 G1
      go_wp2_with fail
      go_loopw [20] (fun i wr => ∃ k : Nat, k ≤ l ∧ i = .int .i64 k ∧ (∀ j, j < k → (lAt L j).size = 64) ∧ wr = w1) (fun i _ => l - (intOf i).toNat)
      case atStart => exact ⟨0, by omega, rfl, fun j hj => by omega, rfl⟩
      case round =>
        obtain ⟨k, hk, rfl, hall, rfl⟩ := hrel
        have HALL := Lib.hid hall
        clear hall
        by_cases hlt : k < l
        · have i0 : (0 : Int) ≤ (k : Int) := by omega
          have i1 : (k : Int) < (l : Int) := by omega
          obtain ⟨b, off, rfl, _, hcc⟩ := HP1.out.at0 (by omega)
          have e0 := hcc k hlt
          skip
          obtain ⟨s, hs⟩ : ∃ s, s = lAt L k := ⟨_, rfl⟩
          rw [← hs] at e0
          have hr := right_any s wr
          by_cases h6 : s.size = 64
          · rw [decide_eq_true h6] at hr
            have HR := Lib.hid hr
            have HX := Lib.hid (show ∀ j, j < k + 1 → (lAt L j).size = 64 from fun j hj => by
              rcases Nat.lt_or_ge j k with h | h
              · exact HALL.out j h
              · obtain rfl : j = k := by omega
                rw [← hs]; exact h6)
            clear hcc hs h6 hr
            go_wp2_with fail
            refine HR.out.mono ?_
            rintro e w2 ⟨rfl, hw2⟩
            obtain rfl := hw2.symm
            clear hw2
            go_wp2
            go_roundw
            case rel => exact ⟨k + 1, by omega, by go_num, HX.out, by first | rfl | trivial⟩
            case measure => simp [intOf]; omega
          · rw [decide_eq_false h6] at hr
            have HR := Lib.hid hr
            have h4 : faultE N F C U (l : Int) L 64 = 4 := by rw [HE.out, if_neg (fun h => h6 (by rw [hs]; exact h k hlt))]
            have H4 := Lib.hid h4
            clear hcc hs h6 hr h4
            go_wp2_with fail
            refine HR.out.mono ?_
            rintro e w2 ⟨rfl, hw2⟩
            obtain rfl := hw2.symm
            clear hw2
            go_wp2
            go_ret
            exact ⟨by rw [H4.out]; rfl, HB1.out⟩
        · obtain rfl : k = l := by omega
          have i1 : ¬ (k : Int) < (k : Int) := by omega
          have h4 : faultE N F C U (k : Int) L 64 = 0 := by rw [HE.out, if_pos HALL.out]
          have H4 := Lib.hid h4
          clear h4
          go_wp2
          go_ret
          exact ⟨by rw [H4.out]; rfl, HB1.out⟩
    · have h1 : ((l : Int) == cnt) = false := by simpa using hc
      have h2 : ((l : Int) != cnt) = true := by simp [bne, h1]
      have he : faultE N F C U cnt L 64 = 8 := by unfold faultE; rw [if_neg (fun h => h hok), if_pos (by rw [hlen]; exact hc)]
      rw [he]
      clear he hok hc
      go_enter Tryd.func24, Tryd.ntmps24
      go_wp2_with fail
      refine (G1.out _).mono ?_
      rintro e w1 ⟨rfl, hb⟩
      have HB1 := Lib.hid (HB0.out.trans (hb.mono HB0.out.size))
      clear hb HB0 G1
      go_wp2
      go_ret
      exact ⟨rfl, HB1.out⟩
  · simp only [decide_eq_false hok] at g1
    have G1 := Lib.hid g1
    have he : faultE N F C U cnt L 64 = 12 := by unfold faultE; rw [if_pos hok]
    rw [he]
    clear g1 he hok
    go_enter Tryd.func24, Tryd.ntmps24
    go_wp2_with fail
    refine (G1.out _).mono ?_
    rintro e w1 ⟨rfl, hb⟩
    have HB1 := Lib.hid (HB0.out.trans (hb.mono HB0.out.size))
    clear hb HB0 G1
    go_wp2
    go_ret
    exact ⟨rfl, HB1.out⟩

set_option maxRecDepth 20000 in
theorem dright_all (s : ByteArray) (w : World) :
    Calls Tryd.prog 26 #[.string s] w fun e w' => e = .returned (.bool (decide (s.size = 32))) ∧ w' = w := by
  go_enter Tryd.func26, Tryd.ntmps26
  go_wp2
  go_ret
  refine ⟨?_, rfl⟩
  by_cases h : s.size = 32
  · simp [h]
  · have : ¬ ((s.size : Int) = 32) := by omega
    simp [h, this]

set_option maxRecDepth 20000 in
set_option maxHeartbeats 2000000 in
theorem fault_dig (N F C U cnt : Int) (a : Option Addr) (l cap : Nat) (L : List ByteArray) (w : World) (hP : Rs w a l cap L) :
    Calls Tryd.prog 24 #[geo N F C U, .int .i64 cnt, .slice a l cap, .func (.func 26) #[] #[]] w fun e w' => e = .returned (.int .i64 (faultE N F C U cnt L 32)) ∧ Below w.heap.size w w' := by
  have g1 := gright_any N F C U
  have hb0 := (Below.refl w.heap.size w).alloc (Nat.le_refl _) (gbox N F C U)
  unfold gbox at hb0
  have hle := hP.le
  have hcx : (cap : Int) ≤ 9223372036854775807 := by have := hP.cm; unfold maxLen at this; omega
  have hlen := hP.len
  have HP := Lib.hid (hP.later hb0)
  have HB0 := Lib.hid hb0
  clear hP hb0
  unfold geo at *
  by_cases hok : okG N F C U
  · simp only [decide_eq_true hok] at g1
    have G1 := Lib.hid g1
    clear g1
    by_cases hc : (l : Int) = cnt
    · subst hc
      have he : faultE N F C U (l : Int) L 32 = if ∀ i, i < l → (lAt L i).size = 32 then 0 else 4 := by unfold faultE; rw [if_neg (fun h => h hok), if_neg (by rw [hlen]; simp), hlen]
      have HE := Lib.hid he
      clear he hok
      go_enter Tryd.func24, Tryd.ntmps24
      go_wp2_with fail
      refine (G1.out _).mono ?_
      rintro e w1 ⟨rfl, hb⟩
      have HB1 := Lib.hid (HB0.out.trans (hb.mono HB0.out.size))
      have HP1 := Lib.hid (HP.out.later hb)
      clear hb HP HB0 G1
      go_wp2_with fail
      go_loopw [20] (fun i wr => ∃ k : Nat, k ≤ l ∧ i = .int .i64 k ∧ (∀ j, j < k → (lAt L j).size = 32) ∧ wr = w1) (fun i _ => l - (intOf i).toNat)
      case atStart => exact ⟨0, by omega, rfl, fun j hj => by omega, rfl⟩
      case round =>
        obtain ⟨k, hk, rfl, hall, rfl⟩ := hrel
        have HALL := Lib.hid hall
        clear hall
        by_cases hlt : k < l
        · have i0 : (0 : Int) ≤ (k : Int) := by omega
          have i1 : (k : Int) < (l : Int) := by omega
          obtain ⟨b, off, rfl, _, hcc⟩ := HP1.out.at0 (by omega)
          have e0 := hcc k hlt
          obtain ⟨s, hs⟩ : ∃ s, s = lAt L k := ⟨_, rfl⟩
          rw [← hs] at e0
          have hr := dright_all s wr
          by_cases h6 : s.size = 32
          · rw [decide_eq_true h6] at hr
            have HR := Lib.hid hr
            have HX := Lib.hid (show ∀ j, j < k + 1 → (lAt L j).size = 32 from fun j hj => by
              rcases Nat.lt_or_ge j k with h | h
              · exact HALL.out j h
              · obtain rfl : j = k := by omega
                rw [← hs]; exact h6)
            clear hcc hs h6 hr
            go_wp2_with fail
            refine HR.out.mono ?_
            rintro e w2 ⟨rfl, hw2⟩
            obtain rfl := hw2.symm
            clear hw2
            go_wp2
            go_roundw
            case rel => exact ⟨k + 1, by omega, by go_num, HX.out, by first | rfl | trivial⟩
            case measure => simp [intOf]; omega
          · rw [decide_eq_false h6] at hr
            have HR := Lib.hid hr
            have h4 : faultE N F C U (l : Int) L 32 = 4 := by rw [HE.out, if_neg (fun h => h6 (by rw [hs]; exact h k hlt))]
            have H4 := Lib.hid h4
            clear hcc hs h6 hr h4
            go_wp2_with fail
            refine HR.out.mono ?_
            rintro e w2 ⟨rfl, hw2⟩
            obtain rfl := hw2.symm
            clear hw2
            go_wp2
            go_ret
            exact ⟨by rw [H4.out]; rfl, HB1.out⟩
        · obtain rfl : k = l := by omega
          have i1 : ¬ (k : Int) < (k : Int) := by omega
          have h4 : faultE N F C U (k : Int) L 32 = 0 := by rw [HE.out, if_pos HALL.out]
          have H4 := Lib.hid h4
          clear h4
          go_wp2
          go_ret
          exact ⟨by rw [H4.out]; rfl, HB1.out⟩
    · have h1 : ((l : Int) == cnt) = false := by simpa using hc
      have h2 : ((l : Int) != cnt) = true := by simp [bne, h1]
      have he : faultE N F C U cnt L 32 = 8 := by unfold faultE; rw [if_neg (fun h => h hok), if_pos (by rw [hlen]; exact hc)]
      rw [he]
      clear he hok hc
      go_enter Tryd.func24, Tryd.ntmps24
      go_wp2_with fail
      refine (G1.out _).mono ?_
      rintro e w1 ⟨rfl, hb⟩
      have HB1 := Lib.hid (HB0.out.trans (hb.mono HB0.out.size))
      clear hb HB0 G1
      go_wp2
      go_ret
      exact ⟨rfl, HB1.out⟩
  · simp only [decide_eq_false hok] at g1
    have G1 := Lib.hid g1
    have he : faultE N F C U cnt L 32 = 12 := by unfold faultE; rw [if_pos hok]
    rw [he]
    clear g1 he hok
    go_enter Tryd.func24, Tryd.ntmps24
    go_wp2_with fail
    refine (G1.out _).mono ?_
    rintro e w1 ⟨rfl, hb⟩
    have HB1 := Lib.hid (HB0.out.trans (hb.mono HB0.out.size))
    clear hb HB0 G1
    go_wp2
    go_ret
    exact ⟨rfl, HB1.out⟩

end Go.Proofs.YtpdlpoomgkpogaaDoor
/-
  The program's fromChildren.
-/
namespace Go.Proofs.YtpdlpoomgkpogaaDoor
open Go.RowKit
set_option linter.unusedVariables false
set_option linter.unusedSimpArgs false

theorem kids_small {L : List ByteArray} {ks : List Int} {l : Nat} (hk : ∀ c ∈ ks, ∃ j : Nat, c = j ∧ j < l) (h32 : ∀ i, i < l → (lAt L i).size ≤ 1000) : ∀ i, i < (kids L ks).length → (lAt (kids L ks) i).size ≤ 1000 := by
  intro i hi
  rw [kids_length] at hi
  have e : lAt (kids L ks) i = lAt L (ks[i]'hi).toNat := by
    unfold lAt kids
    rw [List.getElem?_map, List.getElem?_eq_getElem hi]
    rfl
  obtain ⟨x, hx, hxl⟩ := hk _ (List.getElem_mem hi)
  rw [e, hx]
  exact h32 x hxl

set_option maxRecDepth 20000 in
set_option maxHeartbeats 2000000 in
theorem fromch_any (B p : Nat) (v : Value) (N F C U : Int) (L : List ByteArray) (k : Nat) (w : World) (h : PT w B p v N F C U L) (hK : Kon w) (hk : ∀ c ∈ children N F C U k, ∃ j : Nat, c = j ∧ j < L.length) (h32 : ∀ i, i < L.length → (lAt L i).size ≤ 1000) :
    Calls Tryd.prog 47 #[.pointer (some ⟨p, 0, none⟩), .int .i64 k] w fun e w' => e = .returned (.string (nodeB (kids L (children N F C U k)))) ∧ Below w.heap.size w w' := by
  obtain ⟨i0, hi, hz0, hz1, hz2⟩ := info_parts Tryd.info9
  obtain ⟨c0, c1, c2, c3, c4, _⟩ := h.cells
  have hch := children_any N F C U k w
  have hlen := children_len N F C U k
  obtain ⟨ks, hks⟩ : ∃ ks, ks = children N F C U k := ⟨_, rfl⟩
  rw [← hks] at hch hlen hk ⊢
  have HT := Lib.hid h
  have HKK := Lib.hid hK
  have HK := Lib.hid hk
  have H32 := Lib.hid h32
  have HCH := Lib.hid hch
  obtain ⟨av, cv, rfl, hrs0, _⟩ := towns_shape h.own
  have hcx : (cv : Int) ≤ 9223372036854775807 := by have := hrs0.cm; unfold maxLen at this; omega
  clear hks hch hk h32 h hK hrs0
  unfold geo at *
  go_enter Tryd.func47, Tryd.ntmps47
  go_wp2_with fail
  refine HCH.out.mono ?_
  rintro e w1 ⟨⟨v, rfl, ac, nc, cc, rfl, hri, hlow⟩, hb1⟩
  have hnc := hri.len
  subst hnc
  have HR := Lib.hid hri
  have HB1 := Lib.hid hb1
  have HT1 := Lib.hid (HT.out.below hb1)
  have HKK1 := Lib.hid (HKK.out.below hb1)
  clear hri hlow hb1 HT HKK HCH c0 c1 c2 c3 c4
  go_wp2
  go_loopw [5, 15] (fun s i wr => ∃ j : Nat, j ≤ ks.length ∧ i = .int .i64 j ∧ wr.ownsRow w1.heap.size 9 1 s j (strs (kids L (ks.take j))) ∧ Below w1.heap.size w1 wr) (fun _ i _ => ks.length - (intOf i).toNat)
  case atStart => exact ⟨0, by omega, rfl, World.ownsRow_nil _ _ _ _, Below.refl _ _⟩
  case round =>
    obtain ⟨j, hj, rfl, ho, hB⟩ := hrel
    by_cases hlt : j < ks.length
    · have i0' : (0 : Int) ≤ (j : Int) := by omega
      have i1 : (j : Int) < (ks.length : Int) := by omega
      obtain ⟨b, off, rfl, hbl, hc⟩ := (HR.out.later hB).at0 (by omega)
      have c1 := hc j hlt
      obtain ⟨x, hx, hxl⟩ := HK.out _ (List.getElem_mem hlt)
      have hx' : ks[j]?.getD 0 = (x : Int) := by rw [List.getElem?_eq_getElem hlt]; exact hx
      rw [hx'] at c1
      have htw := HT1.out.below hB
      obtain ⟨_, _, _, _, d4, _⟩ := htw.cells
      obtain ⟨av', cv', hav, hrs, _⟩ := towns_shape htw.own
      cases hav
      obtain ⟨b2, off2, rfl, hbl2, hc2⟩ := hrs.at0 (by omega)
      have c2 := hc2 x hxl
      have x0 : (0 : Int) ≤ (x : Int) := by omega
      have x1 : (x : Int) < (L.length : Int) := by omega
      obtain ⟨sx, hsx⟩ : ∃ s, s = lAt L x := ⟨_, rfl⟩
      rw [← hsx] at c2
      have htk := kids_take (L := L) hlt
      rw [hx'] at htk
      simp only [Int.toNat_natCast] at htk
      rw [← hsx] at htk
      have HTK := Lib.hid htk
      have HBB := Lib.hid hB
      have HS1 := Lib.hid hB.size
      clear hc hc2 hx hx' hxl hsx htk hB htw hrs
      go_wp2_with (at_builtin; refine wpList_append_s (o := ⟨some 28, _, _, _, _, _⟩) rfl (.tmp 19) (.tmp 27) 24 rfl w1.heap.size i0 Tryd.underlying24 hi hz0 hz1 hz2 _ j _ rfl (ho.alloc _) _ rfl rfl (by omega) (by have := HS1.out; simp; omega) ?_)
      intro v5 w5 h1 h2 _
      rw [← HTK.out] at h1
      have hB5 := (HBB.out.alloc HBB.out.size (.cells #[.string sx] 9)).grown h2 (HBB.out.alloc HBB.out.size (.cells #[.string sx] 9)).size (fun x e => (ho.lt x e).1)
      obtain ⟨a5, c5, rfl, _, _⟩ := towns_shape h1
      have HO5 := Lib.hid h1
      have HB5 := Lib.hid hB5
      clear h1 h2 hB5 ho c1 c2 d4
      go_wp2
      go_roundw
      case rel => exact ⟨j + 1, by omega, by go_num, HO5.out, HB5.out⟩
      case measure => simp [intOf]; omega
    · obtain rfl : j = ks.length := by omega
      rw [List.take_length] at ho
      obtain ⟨a5, c5, rfl, hrs, _⟩ := towns_shape ho
      have hkl := kids_length L ks
      have hsm := jn_small (kids L ks) 1000 (kids_small HK.out H32.out) ks.length (by rw [hkl]; exact Nat.le_refl _)
      have hnd := node_any a5 ks.length c5 (lAt (kids L ks)) wr hrs.strs (HKK1.out.below hB) (by omega) (by omega)
      have hres : Value.string (nodeB (kids L ks)) = strV (dig (1 :: jn (lAt (kids L ks)) ks.length)) := by unfold nodeB; rw [hkl]; rfl
      have HRES := Lib.hid hres
      have HND := Lib.hid hnd
      have HBB := Lib.hid (HB1.out.trans (hB.mono HB1.out.size))
      clear hsm hnd hrs hkl ho hB hres
      have i1 : ¬ ((ks.length : Nat) : Int) < ((ks.length : Nat) : Int) := by omega
      go_wp2_with fail
      refine HND.out.mono ?_
      rintro e w6 ⟨rfl, hb6⟩
      have HB6 := Lib.hid (HBB.out.trans (hb6.mono HBB.out.size))
      clear hb6
      go_wp2
      go_ret
      exact ⟨by rw [HRES.out]; rfl, HB6.out⟩
end Go.Proofs.YtpdlpoomgkpogaaDoor
/-
  The program's New.
-/
namespace Go.Proofs.YtpdlpoomgkpogaaDoor
open Go.RowKit
set_option linter.unusedVariables false
set_option linter.unusedSimpArgs false

theorem nodes_pos {N F C U : Int} (h : okG N F C U) : N ≤ (nodes N F C U : Int) := by
  obtain ⟨n, f, rfl, rfl, ho⟩ := ok_of h
  unfold nodes
  rw [if_pos h]
  have := @S_mono n f 1 (H n f + 1) (by omega)
  have e : S n f 1 = n := by simp [S, q]
  simp only [Int.toNat_natCast]
  omega

theorem make_strs (n : Nat) (h : n ≤ 1000000) (w : World) :
    (Instr.makeSlice 24 (.int .i64 (n : Int)) (.int .i64 (n : Int))).run Tryd.prog w = .ok (.slice (some ⟨w.heap.size, 0, none⟩) n n) (w.alloc (.cells (madeCells #[.string noBytes] n) 9)) :=
  run_make_row' 24 9 (.string noBytes) 16 Tryd.underlying24 Tryd.info9 rfl .i64 .i64 n (by omega) (by omega) w
theorem made_row (n : Nat) (h : n ≤ 1000000) (w : World) (B : Nat) (hb : B ≤ w.heap.size) :
    (w.alloc (.cells (madeCells #[.string noBytes] n) 9)).ownsRow B 9 1 (.slice (some ⟨w.heap.size, 0, none⟩) n n) n (strs (List.replicate n noBytes)) := by
  refine ⟨by simp [strs], .inr ⟨w.heap.size, n, _, rfl, hb, heap_alloc_new w _, Nat.le_refl _, by unfold maxLen; omega, by rw [size_madeCells]; simp, ?_⟩⟩
  apply List.ext_getElem?
  intro i
  by_cases hi : i < n
  · rw [List.getElem?_take_of_lt (by omega)]
    simp [madeCells, strs, hi]
    rw [Nat.mod_one]
    rfl
  · rw [List.getElem?_eq_none (by simp [madeCells]; omega), List.getElem?_eq_none (by simp [strs]; omega)]

theorem set_blk {w : World} {p g j : Nat} {o : Obj} {u : Value} (h : w.heap[p]? = some o) (hne : g ≠ p) : (w.setCell ⟨g, j, none⟩ u).heap[p]? = some o :=
  (show (w.setCell ⟨g, j, none⟩ u).heap[p]? = w.heap[p]? by simp [World.setCell, Array.getElem?_modify]; intro e; exact absurd e hne).trans h
theorem GT.set {ty w B p v N F C U L} (h : GT ty w B p v N F C U L) {g j : Nat} (hg : v.ownBlock = some g) (hj : j < L.length) (s : ByteArray) :
    GT ty (w.setCell ⟨g, j, none⟩ (.string s)) B p v N F C U (L.set j s) := by
  have hne : g ≠ p := fun e => h.ne (by rw [hg, e])
  refine ⟨set_blk h.blk hne, h.low, ?_, h.ne⟩
  have := owns_set h.own hg (.string s) (j := j) (by rw [strs_length]; exact hj)
  rw [strs_set] at this
  rw [List.length_set]
  exact this
theorem GT.free {ty w B p v N F C U L} (h : GT ty w B p v N F C U L) {g : Nat} (hg : v.ownBlock = some g) (j : Nat) : w.frozen? ⟨g, j, none⟩ = false := owns_free h.own hg j
theorem GT.at {ty w B p v N F C U L} (h : GT ty w B p v N F C U L) {g : Nat} (hg : v.ownBlock = some g) {j : Nat} (hj : j < L.length) : w.cell? ⟨g, j, none⟩ = some (.string (lAt L j)) := owns_cell h.own hg j _ (strs_at hj)
theorem GT.shape {ty w B p v N F C U L} (h : GT ty w B p v N F C U L) (h0 : 0 < L.length) : ∃ g c, v = .slice (some ⟨g, 0, none⟩) L.length c ∧ v.ownBlock = some g ∧ B ≤ g ∧ g < w.heap.size ∧ L.length ≤ c ∧ (c : Int) ≤ 9223372036854775807 := by
  obtain ⟨a, c, rfl, hle, hm, hg⟩ := owns_shape1 h.own
  obtain ⟨g, rfl, hb, hB, hl⟩ := hg h0
  exact ⟨g, c, rfl, hb, hB, hl, hle, by unfold maxLen at hm; omega⟩
theorem below_row {w w0 : World} {n g j : Nat} {u : Value} (h : Below n w0 w) (hg : n ≤ g) : Below n w0 (w.setCell ⟨g, j, none⟩ u) := h.setCell (p := ⟨g, j, none⟩) hg u

theorem set_app {α : Type} (A : List α) (y x : α) (B : List α) : ∀ n, A.length = n → (A ++ y :: B).set n x = A ++ x :: B := by
  rintro n rfl
  induction A with
  | nil => rfl
  | cons a A ih => simp [ih]
/-- The leaves' digests as they come: k are there, of M nodes. -/
def leafL (Ss : List ByteArray) (M k : Nat) : List ByteArray := (Ss.take k).map leafB ++ List.replicate (M - k) noBytes
theorem leafL_length {Ss : List ByteArray} {M k : Nat} (h : k ≤ Ss.length) (hM : k ≤ M) : (leafL Ss M k).length = M := by simp [leafL]; omega
theorem leafL_set {Ss : List ByteArray} {M k : Nat} (h : k < Ss.length) (hM : k < M) : (leafL Ss M k).set k (leafB (lAt Ss k)) = leafL Ss M (k + 1) := by
  unfold leafL
  have e : List.replicate (M - k) noBytes = noBytes :: List.replicate (M - (k + 1)) noBytes := by rw [show M - k = (M - (k + 1)) + 1 from by omega]; rfl
  have e2 : ((Ss.take k).map leafB).length = k := by simp; omega
  rw [e, set_app _ _ _ _ k e2, List.take_add_one, List.map_append, List.append_assoc]
  congr 1
  unfold lAt
  rw [List.getElem?_eq_getElem h]
  rfl
/-- The nodes' digests as they come: m above the leaves are there. -/
def nodeL (N F C U : Int) (base : List ByteArray) (M m : Nat) : List ByteArray := growL N F C U base m ++ List.replicate (M - (base.length + m)) noBytes
theorem nodeL_length {N F C U : Int} {base : List ByteArray} {M m : Nat} (h : base.length + m ≤ M) : (nodeL N F C U base M m).length = M := by simp [nodeL, growL_length]; omega
theorem kids_app {L X : List ByteArray} {ks : List Int} (h : ∀ c ∈ ks, ∃ j : Nat, c = j ∧ j < L.length) : kids (L ++ X) ks = kids L ks := by
  unfold kids
  refine List.map_congr_left fun c hc => ?_
  obtain ⟨j, rfl, hj⟩ := h c hc
  simp only [Int.toNat_natCast]
  exact lAt_append_lt hj
theorem nodeL_set {N F C U : Int} {base : List ByteArray} {M m : Nat} (h : base.length + m < M) :
    (nodeL N F C U base M m).set (base.length + m) (nodeB (kids (nodeL N F C U base M m) (children N F C U ((base.length + m : Nat) : Int)))) = nodeL N F C U base M (m + 1) := by
  have hk : kids (nodeL N F C U base M m) (children N F C U ((base.length + m : Nat) : Int)) = kids (growL N F C U base m) (children N F C U ((base.length + m : Nat) : Int)) :=
    kids_app fun c hc => by rw [growL_length]; exact children_mem hc
  rw [hk]
  unfold nodeL
  have e : List.replicate (M - (base.length + m)) noBytes = noBytes :: List.replicate (M - (base.length + (m + 1))) noBytes := by rw [show M - (base.length + m) = (M - (base.length + (m + 1))) + 1 from by omega]; rfl
  rw [e, set_app _ _ _ _ _ (growL_length _ _ _ _ _ _)]
  show _ = (growL N F C U base m ++ [_]) ++ _
  rw [List.append_assoc]
  rfl
theorem leaf_node {N F C U : Int} {Ss : List ByteArray} {M : Nat} (h : Ss.length ≤ M) : leafL Ss M Ss.length = nodeL N F C U (Ss.map leafB) M 0 := by
  unfold leafL nodeL
  rw [List.take_length, List.length_map]
  rfl
theorem nodeL_small {N F C U : Int} {base : List ByteArray} {M m : Nat} (h : ∀ j, j < base.length → (lAt base j).size = 32) : ∀ i, i < (nodeL N F C U base M m).length → (lAt (nodeL N F C U base M m) i).size ≤ 1000 := by
  intro i hi
  unfold nodeL at *
  rcases Nat.lt_or_ge i (growL N F C U base m).length with h1 | h1
  · rw [lAt_append_lt h1, growL_size h m i h1]; omega
  · unfold lAt
    rw [List.getElem?_append_right h1]
    by_cases h2 : i - (growL N F C U base m).length < M - (base.length + m)
    · rw [List.getElem?_replicate_of_lt h2]; show noBytes.size ≤ 1000; exact Nat.zero_le _
    · rw [List.getElem?_eq_none (by simp; omega)]; show noBytes.size ≤ 1000; exact Nat.zero_le _
end Go.Proofs.YtpdlpoomgkpogaaDoor

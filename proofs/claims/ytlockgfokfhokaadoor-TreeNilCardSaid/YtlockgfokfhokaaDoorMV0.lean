/-
  Texts put together: V0, V1.
-/
import Derived.Test.YtlockgfokfhokaaDoorU4
import Derived.Deep.RegionWith
/-
  The program's trees: slices.Clone of texts; Digest, Geom, Root; a list that is checked (fault).
-/
namespace Go.Proofs.YtlockgfokfhokaaDoor
open Go.RowKit
set_option linter.unusedVariables false
set_option linter.unusedSimpArgs false

theorem rs_src {w : World} {a : Option Addr} {n c : Nat} {L : List ByteArray} (h : Rs w a n c L) (h0 : 0 < n) (o : Obj) : ∃ b off, a = some ⟨b, off, none⟩ ∧ ∀ (j : Nat) (u : Value), (strs L)[j]? = some u → (w.alloc o).cell? ((⟨b, off, none⟩ : Addr).add j) = some u := by
  obtain ⟨b, off, rfl, hb, hc⟩ := h.at0 h0
  refine ⟨b, off, rfl, fun j u hj => ?_⟩
  have hjl : j < L.length := by
    have := (List.getElem?_eq_some_iff.1 hj).1
    rwa [strs_length] at this
  rw [strs_at hjl] at hj
  cases hj
  rw [Addr.add_none, World.cell?_of_block (w := w) (Below.heap_alloc _ _ _ hb)]
  exact hc j (by rw [← h.len]; exact hjl)

set_option maxRecDepth 20000 in
set_option maxHeartbeats 1000000 in
theorem tclone_any (a : Option Addr) (n c : Nat) (L : List ByteArray) (w : World) (h : Rs w a n c L) (h0 : 0 < n) (hn : n ≤ 1000000) :
    Calls Tryd.prog 45 #[.slice a n c] w fun e w' => ∃ v', e = .returned v' ∧ w'.ownsRow w.heap.size 9 1 v' n (strs L) ∧ Below w.heap.size w w' := by
  have q22 : ∀ (w : World) (a : Option Addr) (n c n' c' : Nat), (binOp .eql 24 (.slice a n c) (.slice none n' c')).run Tryd.prog w = .ok (.bool a.isNone) w := fun w a n c n' c' => Lib.run_eql_slice_nil w _ _ a n c n' c' Tryd.underlying24
  obtain ⟨b, off, rfl, hsrc⟩ := rs_src h h0 (.cells #[] 9)
  obtain ⟨i0, hi, hz0, hz1, hz2⟩ := info_parts Tryd.info9
  have hl : (strs L).length = n * 1 := by rw [strs_length, h.len, Nat.mul_one]
  have HS := Lib.hid hsrc
  have HL := Lib.hid hl
  clear h hsrc hl
  go_enter Tryd.func45, Tryd.ntmps45
  go_wp2_with (at_builtin; refine wpList_append_own _ (o := ⟨some 7, _, _, _, _, _⟩) rfl (.tmp 5) (.tmp 6) 24 rfl w.heap.size 9 i0 _ 1 16 Tryd.underlying24 hi hz0 hz1 hz2 rfl (by omega) _ _ _ rfl (World.ownsRow_made w #[] 0 (Nat.le_refl _) (Nat.zero_le _) (by simp)) ⟨b, off, none⟩ n c (strs L) rfl HL.out HS.out (strs_one _) (by unfold maxLen; omega) (by omega) (by simp) ?_)
  intro v' w1 hown hgrow _
  go_wp2
  go_ret
  exact ⟨_, rfl, by simpa using hown, ((Below.refl _ w).alloc (Nat.le_refl _) _).grown hgrow (by simp) (by intro k hk; simp [Value.ownBlock] at hk; omega)⟩

set_option maxRecDepth 20000 in
set_option maxHeartbeats 1000000 in
theorem tdigest_any (B p : Nat) (v : Value) (N F C U : Int) (L : List ByteArray) (node : Int) (w : World) (h : PT w B p v N F C U L) (h1 : L.length ≤ 1000) :
    Calls Tryd.prog 29 #[.pointer (some ⟨p, 0, none⟩), .int .i64 node] w fun e w' => e = .returned (pairV (digP L node)) ∧ Below w.heap.size w w' := by
  obtain ⟨_, _, _, _, c4, _⟩ := h.cells
  obtain ⟨a, c, rfl, hrs, _⟩ := towns_shape h.own
  have hcx : (c : Int) ≤ 9223372036854775807 := by have := hrs.cm; unfold maxLen at this; omega
  unfold digP pairV
  by_cases hn : node < 0
  · rw [if_pos (.inl hn)]
    unfold noBytes
    clear h hrs
    go_enter Tryd.func29, Tryd.ntmps29
    go_wp2
    refine bodyPost_ret (results_tmp2 rfl _ _ _) rfl ?_
    exact ⟨rfl, Below.refl _ _⟩
  · by_cases hg : (L.length : Int) ≤ node
    · rw [if_pos (.inr hg)]
      unfold noBytes
      clear h hrs
      go_enter Tryd.func29, Tryd.ntmps29
      go_wp2
      refine bodyPost_ret (results_tmp2 rfl _ _ _) rfl ?_
      exact ⟨rfl, Below.refl _ _⟩
    · rw [if_neg (by omega)]
      obtain ⟨m, rfl⟩ : ∃ m : Nat, node = m := ⟨node.toNat, by omega⟩
      have hml : m < L.length := by omega
      obtain ⟨b, off, rfl, hbl, hc⟩ := hrs.at0 (by omega)
      have e0 := hc m hml
      rw [Int.toNat_natCast]
      generalize lAt L m = s at *
      have i1 : (m : Int) < (L.length : Int) := by omega
      have i0 : (0 : Int) ≤ (m : Int) := by omega
      clear hc hrs hbl h
      go_enter Tryd.func29, Tryd.ntmps29
      go_wp2
      refine bodyPost_ret (results_tmp2 rfl _ _ _) rfl ?_
      exact ⟨rfl, Below.refl _ _⟩

set_option maxRecDepth 20000 in
set_option maxHeartbeats 1000000 in
theorem tgeom_any (B p : Nat) (v : Value) (N F C U : Int) (L : List ByteArray) (w : World) (h : PT w B p v N F C U L) :
    Calls Tryd.prog 30 #[.pointer (some ⟨p, 0, none⟩)] w fun e w' => e = .returned (geo N F C U) ∧ Below w.heap.size w w' := by
  have hb : Below w.heap.size w (w.alloc (.cells #[.int .i64 0, .int .i64 0, .int .i64 0, .int .i64 0] 23)) := (Below.refl _ w).alloc (Nat.le_refl _) _
  obtain ⟨c0, c1, c2, c3, _, _⟩ := (h.below hb).cells
  have hp := h.lt
  have HB := Lib.hid hb
  clear h hb
  unfold geo
  go_enter Tryd.func30, Tryd.ntmps30
  go_wp2
  refine bodyPost_ret (by simp [results, Tryd.f30, go_sem]; try rfl) rfl ?_
  exact ⟨rfl, (Below.refl _ w).alloc (Nat.le_refl _) _⟩

set_option maxRecDepth 20000 in
set_option maxHeartbeats 1000000 in
theorem troot_any (B p : Nat) (v : Value) (N F C U : Int) (L : List ByteArray) (w : World) (h : PT w B p v N F C U L) (h1 : L.length ≤ 1000) (hl : L.length = nodes N F C U) (h0 : 0 < L.length) :
    Calls Tryd.prog 31 #[.pointer (some ⟨p, 0, none⟩)] w fun e w' => e = .returned (.string (lAt L (L.length - 1))) ∧ Below w.heap.size w w' := by
  have g1 := tgeom_any B p v N F C U L w h
  have g2 := fun w => root_any N F C U w
  rw [← hl] at g2
  have hd : digP L ((L.length - 1 : Nat) : Int) = (lAt L (L.length - 1), 0) := by
    unfold digP
    rw [if_neg (by omega), Int.toNat_natCast]
  have g3 := fun w' (hb : Below w.heap.size w w') => tdigest_any B p v N F C U L ((L.length - 1 : Nat) : Int) w' (h.below hb) h1
  simp only [hd] at g3
  unfold pairV at g3
  dsimp only at g3
  unfold geo at g1 g2
  generalize lAt L (L.length - 1) = s at *
  generalize ((L.length - 1 : Nat) : Int) = k at *
  have G1 := Lib.hid g1
  have G2 := Lib.hid g2
  have G3 := Lib.hid g3
  clear g1 g2 g3 h hd h1 hl h0
  go_enter Tryd.func31, Tryd.ntmps31
  go_wp2_with fail
  refine G1.out.mono ?_
  rintro e w1 ⟨rfl, hb⟩
  have HB1 := Lib.hid hb
  clear hb G1
  go_wp2_with fail
  refine (G2.out _).mono ?_
  rintro e w2 ⟨rfl, hb⟩
  have HB2 := Lib.hid (HB1.out.trans (hb.mono HB1.out.size))
  clear hb G2 HB1
  go_wp2_with fail
  refine (G3.out _ HB2.out).mono ?_
  rintro e w3 ⟨rfl, hb⟩
  have HB3 := Lib.hid (HB2.out.trans (hb.mono HB2.out.size))
  clear hb G3 HB2
  go_wp2
  go_ret
  exact ⟨rfl, HB3.out⟩

/-- Why no tree is made of a list; 0: one is. -/
def faultE (N F C U cnt : Int) (L : List ByteArray) (K : Nat) : Int := if ¬ okG N F C U then 12 else if (L.length : Int) ≠ cnt then 8 else if ∀ i, i < L.length → (lAt L i).size = K then 0 else 4
theorem faultE_new (N F C U : Int) (L) : faultE N F C U N L 64 = newErr N F C U L := rfl
theorem faultE_from (N F C U : Int) (L) : faultE N F C U (nodes N F C U : Int) L 32 = fromErr N F C U L := by
  unfold faultE fromErr
  have e : ((L.length : Int) ≠ (nodes N F C U : Int)) = (L.length ≠ nodes N F C U) := propext (by constructor <;> intro h <;> omega)
  simp only [e]

set_option maxRecDepth 20000 in
set_option maxHeartbeats 2000000 in
theorem fault_sec (N F C U cnt : Int) (a : Option Addr) (l cap : Nat) (L : List ByteArray) (w : World) (hP : Rs w a l cap L) :
    Calls Tryd.prog 36 #[geo N F C U, .int .i64 cnt, .slice a l cap, .func (.func 37) #[] #[]] w fun e w' => e = .returned (.int .i64 (faultE N F C U cnt L 64)) ∧ Below w.heap.size w w' := by
  have g1 := gright_any N F C U
  have hb0 := (Below.refl w.heap.size w).alloc (Nat.le_refl _) (gbox N F C U)
  unfold gbox at hb0
  have hle := hP.le
  have hcx : (cap : Int) ≤ 9223372036854775807 := by have := hP.cm; unfold maxLen at this; omega
  have hlen := hP.len
  have HP := Lib.hid (hP.later hb0)
  have HB0 := Lib.hid hb0
  clear hP hb0
  unfold geo at *
  by_cases hok : okG N F C U
  · simp only [decide_eq_true hok] at g1
    have G1 := Lib.hid g1
    clear g1
    by_cases hc : (l : Int) = cnt
    · subst hc
      have he : faultE N F C U (l : Int) L 64 = if ∀ i, i < l → (lAt L i).size = 64 then 0 else 4 := by unfold faultE; rw [if_neg (fun h => h hok), if_neg (by rw [hlen]; simp), hlen]
      have HE := Lib.hid he
      clear he hok
      go_enter Tryd.func36, Tryd.ntmps36
      go_wp2_with fail
      refine (G1.out _).mono ?_
      rintro e w1 ⟨rfl, hb⟩
      have HB1 := Lib.hid (HB0.out.trans (hb.mono HB0.out.size))
      have HP1 := Lib.hid (HP.out.later hb)
      clear hb HP HB0 G1
      go_wp2_with fail
      go_loopw [20] (fun i wr => ∃ k : Nat, k ≤ l ∧ i = .int .i64 k ∧ (∀ j, j < k → (lAt L j).size = 64) ∧ wr = w1) (fun i _ => l - (intOf i).toNat)
      case atStart => exact ⟨0, by omega, rfl, fun j hj => by omega, rfl⟩
      case round =>
        obtain ⟨k, hk, rfl, hall, rfl⟩ := hrel
        have HALL := Lib.hid hall
        clear hall
        by_cases hlt : k < l
        · have i0 : (0 : Int) ≤ (k : Int) := by omega
          have i1 : (k : Int) < (l : Int) := by omega
          obtain ⟨b, off, rfl, _, hcc⟩ := HP1.out.at0 (by omega)
          have e0 := hcc k hlt
          skip
          obtain ⟨s, hs⟩ : ∃ s, s = lAt L k := ⟨_, rfl⟩
          rw [← hs] at e0
          have hr := right_any s wr
          by_cases h6 : s.size = 64
          · rw [decide_eq_true h6] at hr
            have HR := Lib.hid hr
            have HX := Lib.hid (show ∀ j, j < k + 1 → (lAt L j).size = 64 from fun j hj => by
              rcases Nat.lt_or_ge j k with h | h
              · exact HALL.out j h
              · obtain rfl : j = k := by omega
                rw [← hs]; exact h6)
            clear hcc hs h6 hr
            go_wp2_with fail
            refine HR.out.mono ?_
            rintro e w2 ⟨rfl, hw2⟩
            obtain rfl := hw2.symm
            clear hw2
            go_wp2
            go_roundw
            case rel => exact ⟨k + 1, by omega, by go_num, HX.out, by first | rfl | trivial⟩
            case measure => simp [intOf]; omega
          · rw [decide_eq_false h6] at hr
            have HR := Lib.hid hr
            have h4 : faultE N F C U (l : Int) L 64 = 4 := by rw [HE.out, if_neg (fun h => h6 (by rw [hs]; exact h k hlt))]
            have H4 := Lib.hid h4
            clear hcc hs h6 hr h4
            go_wp2_with fail
            refine HR.out.mono ?_
            rintro e w2 ⟨rfl, hw2⟩
            obtain rfl := hw2.symm
            clear hw2
            go_wp2
            go_ret
            exact ⟨by rw [H4.out]; rfl, HB1.out⟩
        · obtain rfl : k = l := by omega
          have i1 : ¬ (k : Int) < (k : Int) := by omega
          have h4 : faultE N F C U (k : Int) L 64 = 0 := by rw [HE.out, if_pos HALL.out]
          have H4 := Lib.hid h4
          clear h4
          go_wp2
          go_ret
          exact ⟨by rw [H4.out]; rfl, HB1.out⟩
    · have h1 : ((l : Int) == cnt) = false := by simpa using hc
      have h2 : ((l : Int) != cnt) = true := by simp [bne, h1]
      have he : faultE N F C U cnt L 64 = 8 := by unfold faultE; rw [if_neg (fun h => h hok), if_pos (by rw [hlen]; exact hc)]
      rw [he]
      clear he hok hc
      go_enter Tryd.func36, Tryd.ntmps36
      go_wp2_with fail
      refine (G1.out _).mono ?_
      rintro e w1 ⟨rfl, hb⟩
      have HB1 := Lib.hid (HB0.out.trans (hb.mono HB0.out.size))
      clear hb HB0 G1
      go_wp2
      go_ret
      exact ⟨rfl, HB1.out⟩
  · simp only [decide_eq_false hok] at g1
    have G1 := Lib.hid g1
    have he : faultE N F C U cnt L 64 = 12 := by unfold faultE; rw [if_pos hok]
    rw [he]
    clear g1 he hok
    go_enter Tryd.func36, Tryd.ntmps36
    go_wp2_with fail
    refine (G1.out _).mono ?_
    rintro e w1 ⟨rfl, hb⟩
    have HB1 := Lib.hid (HB0.out.trans (hb.mono HB0.out.size))
    clear hb HB0 G1
    go_wp2
    go_ret
    exact ⟨rfl, HB1.out⟩

set_option maxRecDepth 20000 in
set_option maxHeartbeats 2000000 in
theorem fault_dig (N F C U cnt : Int) (a : Option Addr) (l cap : Nat) (L : List ByteArray) (w : World) (hP : Rs w a l cap L) (hS : ∀ i, i < l → (lAt L i).size ≤ 9223372036854775807) :
    Calls Tryd.prog 36 #[geo N F C U, .int .i64 cnt, .slice a l cap, .func (.func 44) #[] #[]] w fun e w' => e = .returned (.int .i64 (faultE N F C U cnt L 32)) ∧ Below w.heap.size w w' := by
  have g1 := gright_any N F C U
  have hb0 := (Below.refl w.heap.size w).alloc (Nat.le_refl _) (gbox N F C U)
  unfold gbox at hb0
  have hle := hP.le
  have hcx : (cap : Int) ≤ 9223372036854775807 := by have := hP.cm; unfold maxLen at this; omega
  have hlen := hP.len
  have HP := Lib.hid (hP.later hb0)
  have HB0 := Lib.hid hb0
  clear hP hb0
  unfold geo at *
  by_cases hok : okG N F C U
  · simp only [decide_eq_true hok] at g1
    have G1 := Lib.hid g1
    clear g1
    by_cases hc : (l : Int) = cnt
    · subst hc
      have he : faultE N F C U (l : Int) L 32 = if ∀ i, i < l → (lAt L i).size = 32 then 0 else 4 := by unfold faultE; rw [if_neg (fun h => h hok), if_neg (by rw [hlen]; simp), hlen]
      have HE := Lib.hid he
      clear he hok
      go_enter Tryd.func36, Tryd.ntmps36
      go_wp2_with fail
      refine (G1.out _).mono ?_
      rintro e w1 ⟨rfl, hb⟩
      have HB1 := Lib.hid (HB0.out.trans (hb.mono HB0.out.size))
      have HP1 := Lib.hid (HP.out.later hb)
      clear hb HP HB0 G1
      go_wp2_with fail
      go_loopw [20] (fun i wr => ∃ k : Nat, k ≤ l ∧ i = .int .i64 k ∧ (∀ j, j < k → (lAt L j).size = 32) ∧ wr = w1) (fun i _ => l - (intOf i).toNat)
      case atStart => exact ⟨0, by omega, rfl, fun j hj => by omega, rfl⟩
      case round =>
        obtain ⟨k, hk, rfl, hall, rfl⟩ := hrel
        have HALL := Lib.hid hall
        clear hall
        by_cases hlt : k < l
        · have i0 : (0 : Int) ≤ (k : Int) := by omega
          have i1 : (k : Int) < (l : Int) := by omega
          obtain ⟨b, off, rfl, _, hcc⟩ := HP1.out.at0 (by omega)
          have e0 := hcc k hlt
          have hS0 := hS k hlt
          obtain ⟨s, hs⟩ : ∃ s, s = lAt L k := ⟨_, rfl⟩
          rw [← hs] at e0 hS0
          have hr := dright_any s wr hS0
          by_cases h6 : s.size = 32
          · rw [decide_eq_true h6] at hr
            have HR := Lib.hid hr
            have HX := Lib.hid (show ∀ j, j < k + 1 → (lAt L j).size = 32 from fun j hj => by
              rcases Nat.lt_or_ge j k with h | h
              · exact HALL.out j h
              · obtain rfl : j = k := by omega
                rw [← hs]; exact h6)
            clear hcc hs h6 hr hS0 hS
            go_wp2_with fail
            refine HR.out.mono ?_
            rintro e w2 ⟨rfl, hw2⟩
            obtain rfl := hw2.symm
            clear hw2
            go_wp2
            go_roundw
            case rel => exact ⟨k + 1, by omega, by go_num, HX.out, by first | rfl | trivial⟩
            case measure => simp [intOf]; omega
          · rw [decide_eq_false h6] at hr
            have HR := Lib.hid hr
            have h4 : faultE N F C U (l : Int) L 32 = 4 := by rw [HE.out, if_neg (fun h => h6 (by rw [hs]; exact h k hlt))]
            have H4 := Lib.hid h4
            clear hcc hs h6 hr h4 hS0 hS
            go_wp2_with fail
            refine HR.out.mono ?_
            rintro e w2 ⟨rfl, hw2⟩
            obtain rfl := hw2.symm
            clear hw2
            go_wp2
            go_ret
            exact ⟨by rw [H4.out]; rfl, HB1.out⟩
        · obtain rfl : k = l := by omega
          have i1 : ¬ (k : Int) < (k : Int) := by omega
          have h4 : faultE N F C U (k : Int) L 32 = 0 := by rw [HE.out, if_pos HALL.out]
          have H4 := Lib.hid h4
          clear h4
          go_wp2
          go_ret
          exact ⟨by rw [H4.out]; rfl, HB1.out⟩
    · have h1 : ((l : Int) == cnt) = false := by simpa using hc
      have h2 : ((l : Int) != cnt) = true := by simp [bne, h1]
      have he : faultE N F C U cnt L 32 = 8 := by unfold faultE; rw [if_neg (fun h => h hok), if_pos (by rw [hlen]; exact hc)]
      rw [he]
      clear he hok hc
      go_enter Tryd.func36, Tryd.ntmps36
      go_wp2_with fail
      refine (G1.out _).mono ?_
      rintro e w1 ⟨rfl, hb⟩
      have HB1 := Lib.hid (HB0.out.trans (hb.mono HB0.out.size))
      clear hb HB0 G1
      go_wp2
      go_ret
      exact ⟨rfl, HB1.out⟩
  · simp only [decide_eq_false hok] at g1
    have G1 := Lib.hid g1
    have he : faultE N F C U cnt L 32 = 12 := by unfold faultE; rw [if_pos hok]
    rw [he]
    clear g1 he hok
    go_enter Tryd.func36, Tryd.ntmps36
    go_wp2_with fail
    refine (G1.out _).mono ?_
    rintro e w1 ⟨rfl, hb⟩
    have HB1 := Lib.hid (HB0.out.trans (hb.mono HB0.out.size))
    clear hb HB0 G1
    go_wp2
    go_ret
    exact ⟨rfl, HB1.out⟩

end Go.Proofs.YtlockgfokfhokaaDoor
/-
  The program's fromChildren.
-/
namespace Go.Proofs.YtlockgfokfhokaaDoor
open Go.RowKit
set_option linter.unusedVariables false
set_option linter.unusedSimpArgs false

theorem kids_small {L : List ByteArray} {ks : List Int} {l : Nat} (hk : ∀ c ∈ ks, ∃ j : Nat, c = j ∧ j < l) (h32 : ∀ i, i < l → (lAt L i).size ≤ 1000) : ∀ i, i < (kids L ks).length → (lAt (kids L ks) i).size ≤ 1000 := by
  intro i hi
  rw [kids_length] at hi
  have e : lAt (kids L ks) i = lAt L (ks[i]'hi).toNat := by
    unfold lAt kids
    rw [List.getElem?_map, List.getElem?_eq_getElem hi]
    rfl
  obtain ⟨x, hx, hxl⟩ := hk _ (List.getElem_mem hi)
  rw [e, hx]
  exact h32 x hxl

set_option maxRecDepth 20000 in
set_option maxHeartbeats 2000000 in
theorem fromch_any (B p : Nat) (v : Value) (N F C U : Int) (L : List ByteArray) (k : Nat) (w : World) (h : PT w B p v N F C U L) (hK : Kon w) (hk : ∀ c ∈ children N F C U k, ∃ j : Nat, c = j ∧ j < L.length) (h32 : ∀ i, i < L.length → (lAt L i).size ≤ 1000) :
    Calls Tryd.prog 40 #[.pointer (some ⟨p, 0, none⟩), .int .i64 k] w fun e w' => e = .returned (.string (nodeB (kids L (children N F C U k)))) ∧ Below w.heap.size w w' := by
  obtain ⟨i0, hi, hz0, hz1, hz2⟩ := info_parts Tryd.info9
  obtain ⟨c0, c1, c2, c3, c4, _⟩ := h.cells
  have hch := children_any N F C U k w
  have hlen := children_len N F C U k
  obtain ⟨ks, hks⟩ : ∃ ks, ks = children N F C U k := ⟨_, rfl⟩
  rw [← hks] at hch hlen hk ⊢
  have HT := Lib.hid h
  have HKK := Lib.hid hK
  have HK := Lib.hid hk
  have H32 := Lib.hid h32
  have HCH := Lib.hid hch
  obtain ⟨av, cv, rfl, hrs0, _⟩ := towns_shape h.own
  have hcx : (cv : Int) ≤ 9223372036854775807 := by have := hrs0.cm; unfold maxLen at this; omega
  clear hks hch hk h32 h hK hrs0
  unfold geo at *
  go_enter Tryd.func40, Tryd.ntmps40
  go_wp2_with fail
  refine HCH.out.mono ?_
  rintro e w1 ⟨⟨v, rfl, ac, nc, cc, rfl, hri, hlow⟩, hb1⟩
  have hnc := hri.len
  subst hnc
  have HR := Lib.hid hri
  have HB1 := Lib.hid hb1
  have HT1 := Lib.hid (HT.out.below hb1)
  have HKK1 := Lib.hid (HKK.out.below hb1)
  clear hri hlow hb1 HT HKK HCH c0 c1 c2 c3 c4
  go_wp2
  go_loopw [5, 15] (fun s i wr => ∃ j : Nat, j ≤ ks.length ∧ i = .int .i64 j ∧ wr.ownsRow w1.heap.size 9 1 s j (strs (kids L (ks.take j))) ∧ Below w1.heap.size w1 wr) (fun _ i _ => ks.length - (intOf i).toNat)
  case atStart => exact ⟨0, by omega, rfl, World.ownsRow_nil _ _ _ _, Below.refl _ _⟩
  case round =>
    obtain ⟨j, hj, rfl, ho, hB⟩ := hrel
    by_cases hlt : j < ks.length
    · have i0' : (0 : Int) ≤ (j : Int) := by omega
      have i1 : (j : Int) < (ks.length : Int) := by omega
      obtain ⟨b, off, rfl, hbl, hc⟩ := (HR.out.later hB).at0 (by omega)
      have c1 := hc j hlt
      obtain ⟨x, hx, hxl⟩ := HK.out _ (List.getElem_mem hlt)
      have hx' : ks[j]?.getD 0 = (x : Int) := by rw [List.getElem?_eq_getElem hlt]; exact hx
      rw [hx'] at c1
      have htw := HT1.out.below hB
      obtain ⟨_, _, _, _, d4, _⟩ := htw.cells
      obtain ⟨av', cv', hav, hrs, _⟩ := towns_shape htw.own
      cases hav
      obtain ⟨b2, off2, rfl, hbl2, hc2⟩ := hrs.at0 (by omega)
      have c2 := hc2 x hxl
      have x0 : (0 : Int) ≤ (x : Int) := by omega
      have x1 : (x : Int) < (L.length : Int) := by omega
      obtain ⟨sx, hsx⟩ : ∃ s, s = lAt L x := ⟨_, rfl⟩
      rw [← hsx] at c2
      have htk := kids_take (L := L) hlt
      rw [hx'] at htk
      simp only [Int.toNat_natCast] at htk
      rw [← hsx] at htk
      have HTK := Lib.hid htk
      have HBB := Lib.hid hB
      have HS1 := Lib.hid hB.size
      clear hc hc2 hx hx' hxl hsx htk hB htw hrs
      go_wp2_with (at_builtin; refine wpList_append_s (o := ⟨some 28, _, _, _, _, _⟩) rfl (.tmp 19) (.tmp 27) 24 rfl w1.heap.size i0 Tryd.underlying24 hi hz0 hz1 hz2 _ j _ rfl (ho.alloc _) _ rfl rfl (by omega) (by have := HS1.out; simp; omega) ?_)
      intro v5 w5 h1 h2 _
      rw [← HTK.out] at h1
      have hB5 := (HBB.out.alloc HBB.out.size (.cells #[.string sx] 9)).grown h2 (HBB.out.alloc HBB.out.size (.cells #[.string sx] 9)).size (fun x e => (ho.lt x e).1)
      obtain ⟨a5, c5, rfl, _, _⟩ := towns_shape h1
      have HO5 := Lib.hid h1
      have HB5 := Lib.hid hB5
      clear h1 h2 hB5 ho c1 c2 d4
      go_wp2
      go_roundw
      case rel => exact ⟨j + 1, by omega, by go_num, HO5.out, HB5.out⟩
      case measure => simp [intOf]; omega
    · obtain rfl : j = ks.length := by omega
      rw [List.take_length] at ho
      obtain ⟨a5, c5, rfl, hrs, _⟩ := towns_shape ho
      have hkl := kids_length L ks
      have hsm := jn_small (kids L ks) 1000 (kids_small HK.out H32.out) ks.length (by rw [hkl]; exact Nat.le_refl _)
      have hnd := node_any a5 ks.length c5 (lAt (kids L ks)) wr hrs.strs (HKK1.out.below hB) (by omega) (by omega)
      have hres : Value.string (nodeB (kids L ks)) = strV (dig (1 :: jn (lAt (kids L ks)) ks.length)) := by unfold nodeB; rw [hkl]; rfl
      have HRES := Lib.hid hres
      have HND := Lib.hid hnd
      have HBB := Lib.hid (HB1.out.trans (hB.mono HB1.out.size))
      clear hsm hnd hrs hkl ho hB hres
      have i1 : ¬ ((ks.length : Nat) : Int) < ((ks.length : Nat) : Int) := by omega
      go_wp2_with fail
      refine HND.out.mono ?_
      rintro e w6 ⟨rfl, hb6⟩
      have HB6 := Lib.hid (HBB.out.trans (hb6.mono HBB.out.size))
      clear hb6
      go_wp2
      go_ret
      exact ⟨by rw [HRES.out]; rfl, HB6.out⟩
end Go.Proofs.YtlockgfokfhokaaDoor

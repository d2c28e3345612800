/-
  Texts put together: HD.
-/
import Derived.Test.YtpkeikbiblfidaaGreatDoorMHC
/-
  anew: the document's marks.
-/
namespace Go.Proofs.YtpkeikbiblfidaaGreatDoor
open Go.RowKit
set_option linter.unusedVariables false
set_option linter.unusedSimpArgs false

/-- The first n truths. -/
def bools (m : Nat → Bool) (n : Nat) : List Value := (List.range n).map fun i => Value.bool (m i)
theorem bools_length (m : Nat → Bool) (n : Nat) : (bools m n).length = n := by simp [bools]
theorem bools_at (m : Nat → Bool) {n i : Nat} (h : i < n) : (bools m n)[i]? = some (.bool (m i)) := by
  unfold bools
  rw [List.getElem?_map, List.getElem?_range h]; rfl
theorem bools_set (m : Nat → Bool) {n i : Nat} (h : i < n) (b : Bool) : (bools m n).set i (.bool b) = bools (fun k => if k = i then b else m k) n := by
  apply List.ext_getElem?
  intro k
  rw [List.getElem?_set]
  by_cases hk : k < n
  · rw [bools_at _ hk, bools_at _ hk]
    by_cases e : i = k
    · subst e; rw [if_pos rfl, if_pos (by rw [bools_length]; exact h), if_pos rfl]
    · rw [if_neg e, if_neg (fun x => e x.symm)]
  · have e1 : (bools m n)[k]? = none := List.getElem?_eq_none (by rw [bools_length]; omega)
    have e2 : (bools (fun k => if k = i then b else m k) n)[k]? = none := List.getElem?_eq_none (by rw [bools_length]; omega)
    rw [e1, e2, if_neg (by omega)]
theorem bools_congr {m m' : Nat → Bool} {n : Nat} (h : ∀ k, k < n → m k = m' k) : bools m n = bools m' n := by
  apply List.ext_getElem?
  intro k
  by_cases hk : k < n
  · rw [bools_at _ hk, bools_at _ hk, h k hk]
  · rw [List.getElem?_eq_none (by rw [bools_length]; omega), List.getElem?_eq_none (by rw [bools_length]; omega)]

theorem Tryz.info4h : (Tryz.prog.info? 4).map (fun i => (i.zero, i.size, i.bytes)) = some (some (.bool false), 1, 1) := by kernel_rfl
theorem make_bools (n : Nat) (h : n ≤ 1000000) (w : World) :
    (Instr.makeSlice 35 (.int .i64 (n : Int)) (.int .i64 (n : Int))).run Tryz.prog w = .ok (.slice (some ⟨w.heap.size, 0, none⟩) n n) (w.alloc (.cells (madeCells #[.bool false] n) 4)) :=
  run_make_row' 35 4 (.bool false) 1 Tryz.underlying35 Tryz.info4h rfl .i64 .i64 n (by omega) (by omega) w
theorem made_bools (n : Nat) (h : n ≤ 1000000) (w : World) (B : Nat) (hb : B ≤ w.heap.size) :
    (w.alloc (.cells (madeCells #[.bool false] n) 4)).ownsRow B 4 1 (.slice (some ⟨w.heap.size, 0, none⟩) n n) n (bools (fun _ => false) n) := by
  refine ⟨by simp [bools], .inr ⟨w.heap.size, n, _, rfl, hb, heap_alloc_new w _, Nat.le_refl _, by unfold maxLen; omega, by rw [size_madeCells]; simp, ?_⟩⟩
  apply List.ext_getElem?
  intro i
  by_cases hi : i < n
  · rw [List.getElem?_take_of_lt (by omega), bools_at _ hi]
    simp [madeCells, hi]
    rw [Nat.mod_one]
    rfl
  · rw [List.getElem?_eq_none (by simp [madeCells]; omega), List.getElem?_eq_none (by simp [bools]; omega)]

/-- Memory while anew runs: its geometry, the row of truths. -/
structure ASt (w wr : World) (N F C U : Int) (g n : Nat) (m : Nat → Bool) : Prop where
  geo : wr.heap[w.heap.size]? = some (.cells #[.int .i64 N, .int .i64 F, .int .i64 C, .int .i64 U] 23 (0, 0))
  row : wr.ownsRow w.heap.size 4 1 (.slice (some ⟨g, 0, none⟩) n n) n (bools m n)
  lo : w.heap.size + 1 ≤ g
  bel : Below w.heap.size w wr
theorem ASt.set {w wr : World} {N F C U : Int} {g n : Nat} {m : Nat → Bool} (h : ASt w wr N F C U g n m) (i : Nat) (hi : i < n) (m' : Nat → Bool) (e : ∀ k, (if k = i then true else m k) = m' k) : ASt w (wr.setCell ⟨g, i, none⟩ (.bool true)) N F C U g n m' := by
  have hg := h.lo
  refine ⟨hset_ne h.geo (by omega), ?_, h.lo, h.bel.setCell (p := ⟨g, i, none⟩) (by show _ ≤ g; omega) _⟩
  have := owns_set h.row (g := g) rfl (.bool true) (j := i) (by rw [bools_length]; omega)
  rw [bools_set m hi] at this
  rwa [bools_congr fun k _ => e k] at this
theorem ASt.below {w wr wr' : World} {N F C U : Int} {g n : Nat} {m : Nat → Bool} (h : ASt w wr N F C U g n m) (hb : Below wr.heap.size wr wr') : ASt w wr' N F C U g n m :=
  ⟨(hb.block _ (lt_of_block h.geo)).trans h.geo, owns_kept h.row fun k hk => hb.block k (h.row.lt k hk).2, h.lo, h.bel.trans (hb.mono h.bel.size)⟩
theorem ASt.congr {w wr : World} {N F C U : Int} {g n : Nat} {m m' : Nat → Bool} (h : ASt w wr N F C U g n m) (e : ∀ k, m k = m' k) : ASt w wr N F C U g n m' := by
  obtain rfl : m = m' := funext e
  exact h
theorem ASt.cells {w wr : World} {N F C U : Int} {g n : Nat} {m : Nat → Bool} (h : ASt w wr N F C U g n m) : wr.cell? ⟨w.heap.size, 0, none⟩ = some (.int .i64 N) ∧ wr.cell? ⟨w.heap.size, 1, none⟩ = some (.int .i64 F) ∧ wr.cell? ⟨w.heap.size, 2, none⟩ = some (.int .i64 C) ∧ wr.cell? ⟨w.heap.size, 3, none⟩ = some (.int .i64 U) := by
  refine ⟨?_, ?_, ?_, ?_⟩ <;> (rw [cell_of_blk h.geo]; rfl)
theorem ASt.at {w wr : World} {N F C U : Int} {g n : Nat} {m : Nat → Bool} (h : ASt w wr N F C U g n m) (i : Nat) (hi : i < n) : wr.cell? ⟨g, i, none⟩ = some (.bool (m i)) := owns_cell h.row rfl i _ (bools_at m hi)
theorem ASt.free {w wr : World} {N F C U : Int} {g n : Nat} {m : Nat → Bool} (h : ASt w wr N F C U g n m) (i : Nat) : wr.frozen? ⟨g, i, none⟩ = false := owns_free h.row rfl i

/-- The marks while the j first nodes of one path more are marked. -/
def docJ (m : Nat → Bool) (P : List Int) (j : Nat) : Nat → Bool := fun k => m k || (P.take j).any fun y => decide (y = (k : Int))
theorem docJ_zero (m : Nat → Bool) (P : List Int) (k : Nat) : docJ m P 0 k = m k := by simp [docJ]
theorem docJ_next {m : Nat → Bool} {P : List Int} {j : Nat} (h : j < P.length) (k : Nat) : docJ m P (j + 1) k = (docJ m P j k || decide (P[j]?.getD 0 = (k : Int))) := by
  unfold docJ
  rw [List.take_add_one, List.any_append, List.getElem?_eq_getElem h]
  simp [Bool.or_assoc]
theorem docM_next {N F C U : Int} {xs : List Int} {i : Nat} (h : i < xs.length) (k : Nat) : docM N F C U xs (i + 1) k = docJ (docM N F C U xs i) (path N F C U (xs[i]?.getD 0)) (path N F C U (xs[i]?.getD 0)).length k := by
  unfold docM docJ
  rw [List.take_add_one, List.any_append, List.getElem?_eq_getElem h, List.take_length]
  simp
theorem path_nodes {N F C U : Int} (hok : okG N F C U) {x : Int} (h : 0 ≤ x ∧ x < N) {j : Nat} (hj : j < (path N F C U x).length) : ∃ y : Nat, (path N F C U x)[j]?.getD 0 = (y : Int) ∧ y < nodes N F C U := by
  obtain ⟨n, f, rfl, rfl, ho⟩ := ok_of hok
  obtain ⟨h1, h2⟩ := h
  obtain ⟨z, rfl⟩ : ∃ z : Nat, x = z := ⟨x.toNat, by omega⟩
  have hm : (path n f C U z)[j]?.getD 0 ∈ path n f C U z := by rw [List.getElem?_eq_getElem hj]; exact List.getElem_mem hj
  obtain ⟨i, hi, e⟩ := (mem_path hok (show z < n by omega) _).1 hm
  refine ⟨_, e, ?_⟩
  have hp := pth_lt ho (show z < n by omega) i
  have := @S_mono n f (i + 1) (H n f + 1) (by omega)
  have e4 : nodes n f C U = S n f (H n f + 1) := by unfold nodes; rw [if_pos hok]; simp
  omega
theorem path_len (N F C U x : Int) : (path N F C U x).length ≤ 8 := by
  unfold path
  split
  · rename_i h
    obtain ⟨hok, _⟩ := h
    obtain ⟨n, f, rfl, rfl, ho⟩ := ok_of hok
    have := (H_spec ho).2.2
    simp
    omega
  · simp

set_option maxRecDepth 20000 in
set_option maxHeartbeats 4000000 in
theorem anew_any (N F C U : Int) (hok : okG N F C U) (a : Option Addr) (l c : Nat) (xs : List Int) (w : World) (h : Ri w a l c xs) (hin : ∀ x ∈ xs, 0 ≤ x ∧ x < N) :
    Calls Tryz.prog 108 #[geo N F C U, .slice a l c] w fun e w' => (∃ g, e = .returned (.slice (some ⟨g, 0, none⟩) (nodes N F C U) (nodes N F C U)) ∧ w'.ownsRow w.heap.size 4 1 (.slice (some ⟨g, 0, none⟩) (nodes N F C U) (nodes N F C U)) (nodes N F C U) (bools (docM N F C U xs xs.length) (nodes N F C U))) ∧ Below w.heap.size w w' := by
  have hnl := nodes_le N F C U
  have hlen := h.len
  have hcc : (c : Int) ≤ 9223372036854775807 := by have := h.cm; unfold maxLen at this; omega
  have hnc : (l : Int) ≤ (c : Int) := by have := h.le; omega
  have hnd := fun w => rnodes_any N F C U w
  obtain ⟨n, hn⟩ : ∃ n, n = nodes N F C U := ⟨_, rfl⟩
  rw [← hn] at hnl ⊢
  simp only [← hn] at hnd
  obtain ⟨w0, hw0⟩ : ∃ w0, w0 = w.alloc (.cells #[.int .i64 N, .int .i64 F, .int .i64 C, .int .i64 U] 23) := ⟨_, rfl⟩
  have hb0 : Below w.heap.size w w0 := by rw [hw0]; exact (Below.refl _ w).alloc (Nat.le_refl _) _
  have hs0 : w0.heap.size = w.heap.size + 1 := by rw [hw0]; exact World.size_alloc _ _
  have hg0 : w0.heap[w.heap.size]? = some (.cells #[.int .i64 N, .int .i64 F, .int .i64 C, .int .i64 U] 23 (0, 0)) := by rw [hw0]; exact heap_alloc_new w _
  have hcel : w0.cell? ⟨w.heap.size, 0, none⟩ = some (.int .i64 N) ∧ w0.cell? ⟨w.heap.size, 1, none⟩ = some (.int .i64 F) ∧ w0.cell? ⟨w.heap.size, 2, none⟩ = some (.int .i64 C) ∧ w0.cell? ⟨w.heap.size, 3, none⟩ = some (.int .i64 U) := by
    refine ⟨?_, ?_, ?_, ?_⟩ <;> (rw [cell_of_blk hg0]; rfl)
  obtain ⟨c0, c1, c2, c3⟩ := hcel
  have HRI := Lib.hid h
  have HIN := Lib.hid hin
  have HN := Lib.hid hn
  have HW := Lib.hid hw0
  have HB0 := Lib.hid hb0
  have HG0 := Lib.hid hg0
  have HS0 := Lib.hid hs0
  have HLEN := Lib.hid hlen
  have HOK := Lib.hid hok
  unfold geo at hnd ⊢
  have HND := Lib.hid hnd
  clear h hin hn hw0 hb0 hg0 hs0 hnd hlen hok
  go_enter Tryz.func108, Tryz.ntmps108
  go_upto_region 1 with fail
  rw [← HW.out]
  go_wp2_with fail
  refine (HND.out _).mono ?_
  rintro e w1 ⟨rfl, hb1⟩
  have hms := make_bools n (by omega) w1
  have hst : ASt w (w1.alloc (.cells (madeCells #[.bool false] n) 4)) N F C U w1.heap.size n (docM N F C U xs 0) := by
    have hsz := hb1.size
    have h0 := HS0.out
    have hbb := (HB0.out.trans (hb1.mono HB0.out.size))
    refine ⟨?_, made_bools n (by omega) w1 _ hbb.size, by omega, hbb.alloc hbb.size _⟩
    rw [Below.heap_alloc _ _ _ (by omega), hb1.block _ (by omega)]; exact HG0.out
  obtain ⟨g, hg⟩ : ∃ g, g = w1.heap.size := ⟨_, rfl⟩
  rw [← hg] at hst hms
  have HST := Lib.hid hst
  clear c0 c1 c2 c3 hb1 hst hg
  go_wp2
  go_loopw [6] (fun i wr => ∃ k : Nat, k ≤ l ∧ i = .int .i64 k ∧ ASt w wr N F C U g n (docM N F C U xs k)) (fun i _ => l - (intOf i).toNat)
  case atStart => exact ⟨0, by omega, rfl, HST.out⟩
  case round =>
    clear HST hms
    obtain ⟨k, hk, rfl, hA⟩ := hrel
    by_cases hlt : k < l
    · have i0 : (0 : Int) ≤ (k : Int) := by omega
      have i1 : (k : Int) < (l : Int) := by omega
      obtain ⟨b, off, rfl, hbl, hc⟩ := HRI.out.at0 (by omega)
      have hlx : k < xs.length := by have := HLEN.out; omega
      obtain ⟨x, hx⟩ : ∃ x, x = xs[k]?.getD 0 := ⟨_, rfl⟩
      have hx2 : 0 ≤ x ∧ x < N := by rw [hx, List.getElem?_eq_getElem hlx]; exact HIN.out _ (List.getElem_mem hlx)
      have hkp : ∀ w', Below wr.drew.heap.size wr.drew w' → (w'.cell? ⟨w.heap.size, 0, none⟩ = some (.int .i64 N) ∧ w'.cell? ⟨w.heap.size, 1, none⟩ = some (.int .i64 F) ∧ w'.cell? ⟨w.heap.size, 2, none⟩ = some (.int .i64 C) ∧ w'.cell? ⟨w.heap.size, 3, none⟩ = some (.int .i64 U)) ∧ w'.cell? ⟨b, off + k, none⟩ = some (.int .i64 x) := fun w' hb => by
        have hA2 := (hA.below (Below.refl _ _).drew).below hb
        exact ⟨hA2.cells, by rw [hx, hA2.bel.cell (by exact hbl)]; exact hc k hlt⟩
      have hpa := fun w => rpath_any N F C U x w
      have hpl := path_len N F C U x
      obtain ⟨P, hP⟩ : ∃ P, P = path N F C U x := ⟨_, rfl⟩
      have hpn : ∀ j, j < P.length → ∃ y : Nat, P[j]?.getD 0 = (y : Int) ∧ y < n := fun j hj => by
        rw [hP] at hj ⊢; have := path_nodes HOK.out hx2 hj; rw [← HN.out] at this; exact this
      rw [← hP] at hpl
      simp only [← hP] at hpa
      unfold geo at hpa
      have HPA := Lib.hid hpa
      have HKP := Lib.hid hkp
      have HA := Lib.hid hA
      have HX := Lib.hid (And.intro hx (And.intro hlx hP))
      have HPN := Lib.hid (And.intro hpn hpl)
      have hG : Below wr.drew.heap.size wr.drew wr.drew := Below.refl _ _
      clear hc hA hx hx2 hlx hP hpa hkp hpn hpl
      go_wp2_with fail
      go_region_held3 (fun w' : World => (w'.cell? ⟨w.heap.size, 0, none⟩ = some (.int .i64 N) ∧ w'.cell? ⟨w.heap.size, 1, none⟩ = some (.int .i64 F) ∧ w'.cell? ⟨w.heap.size, 2, none⟩ = some (.int .i64 C) ∧ w'.cell? ⟨w.heap.size, 3, none⟩ = some (.int .i64 U)) ∧ w'.cell? ⟨b, off + k, none⟩ = some (.int .i64 x))
        (first | exact HKP.out _ hG)
        (first
        | (go_at_call 126; with_reducible refine (HPA.out _).mono ?_; rintro r wn ⟨⟨v, rfl, hLf⟩, hb⟩; have hgx := hG.size; replace hG := hG.trans (hb.mono hG.size); clear hb))
      all_goals (
        rename_i hHeld
        clear hHeld
        obtain ⟨pa, pn, pc, rfl, hpr, hlow⟩ := hLf
        have HLOW := Lib.hid (show ∀ b off, pa = some ⟨b, off, none⟩ → b ≠ g from fun b off e => by have h1 := hlow b off e; have h2 := (HA.out.row.lt g rfl).2; have h3 : wr.drew.heap.size = wr.heap.size := rfl; omega)
        clear hlow hgx
        have hA2 := (HA.out.below (Below.refl _ _).drew).below hG
        have HA2 := Lib.hid hA2
        have HPR := Lib.hid hpr
        have hpln := hpr.len
        have hpc : (pc : Int) ≤ 9223372036854775807 := by have := hpr.cm; unfold maxLen at this; omega
        have hpn2 : (pn : Int) ≤ (pc : Int) := by have := hpr.le; omega
        subst hpln
        clear hA2 hpr hG
        go_wp2
        go_loopw [8] (fun i wr => ∃ j : Nat, j ≤ P.length ∧ i = .int .i64 j ∧ ASt w wr N F C U g n (docJ (docM N F C U xs k) P j) ∧ Ri wr pa P.length pc P) (fun i _ => P.length - (intOf i).toNat)
        case atStart => exact ⟨0, by omega, rfl, HA2.out.congr (fun q => (docJ_zero _ _ _).symm), HPR.out⟩
        case round =>
          clear HA2 HPR
          obtain ⟨j, hj, rfl, hA3, hR3⟩ := hrel
          have HA3 := Lib.hid hA3
          have HR3 := Lib.hid hR3
          by_cases hlt2 : j < P.length
          · have j0 : (0 : Int) ≤ (j : Int) := by omega
            have j1 : (j : Int) < (P.length : Int) := by omega
            obtain ⟨b2, off2, rfl, hbl2, hc2⟩ := hR3.at0 (by omega)
            have d2 := hc2 j hlt2
            obtain ⟨y, hy, hyn⟩ := HPN.out.1 j hlt2
            rw [hy] at d2
            have y0 : (0 : Int) ≤ (y : Int) := by omega
            have y1 : (y : Int) < (n : Int) := by omega
            have hfz := hA3.free y
            have hcl := hA3.at y hyn
            have HY := Lib.hid hy
            clear hA3 hR3 hc2 hy
            go_wp2
            go_roundw
            case rel => exact ⟨j + 1, by omega, by go_num, HA3.out.set y hyn _ (fun q => by
              rw [docJ_next hlt2, HY.out]
              by_cases e : q = y
              · subst e; simp
              · have : ¬ ((y : Int) = (q : Int)) := by omega
                simp [e, this]), HR3.out.kept (by simp [World.setCell]) (fun b off e _ => Below.heap_setCell _ _ _ _ (HLOW.out b off e))⟩
            case measure => simp [intOf]; omega
          · obtain rfl : j = P.length := by omega
            have j1 : ¬ (P.length : Int) < (P.length : Int) := by omega
            clear hA3 hR3
            go_wp2
            go_roundw
            case rel => exact ⟨k + 1, by omega, by go_num, HA3.out.congr (fun q => by rw [docM_next HX.out.2.1, ← HX.out.1, ← HX.out.2.2])⟩
            case measure => simp [intOf]; omega)
    · obtain rfl : k = l := by omega
      have i1 : ¬ (k : Int) < (k : Int) := by omega
      have HA := Lib.hid (hA.congr (m' := docM N F C U xs xs.length) (fun q => by rw [HLEN.out]))
      clear hA
      go_wp2
      go_ret
      exact ⟨⟨g, rfl, HA.out.row⟩, HA.out.bel⟩
end Go.Proofs.YtpkeikbiblfidaaGreatDoor

/-
  Texts put together: HE.
-/
import Derived.Test.YtpkeikbiblfidaaGreatDoorMHD
/-
  Rehash: the document's.
-/
namespace Go.Proofs.YtpkeikbiblfidaaGreatDoor
open Go.RowKit
set_option linter.unusedVariables false
set_option linter.unusedSimpArgs false

theorem hrp_join {w w1 w2 : World} {B p : Nat} {v1 v2 a b : Value} {S2 : DS} (hf : Fr (foot p v1 v2) w w1) (ht : ∀ k, foot p a b k → foot p v1 v2 k ∨ w.heap.size ≤ k) (k : RP w1 B p a b S2 w2) : RP w B p v1 v2 S2 w2 := by
  obtain ⟨c, d, hp2, hf2, ht2⟩ := k
  exact ⟨c, d, hp2, hf.trans hf2 fun i hi => ht i hi, fun i hi => by
    rcases ht2 i hi with h | h
    · exact ht i h
    · exact .inr (Nat.le_trans hf.size h)⟩

/-- Memory while the document's Rehash runs: its geometry, its marks, its digests. -/
structure ESt (w wr : World) (N F C U : Int) (gm g n : Nat) (m : Nat → Bool) (L : List ByteArray) : Prop where
  geo : wr.heap[w.heap.size]? = some (.cells #[.int .i64 N, .int .i64 F, .int .i64 C, .int .i64 U] 23 (0, 0))
  mks : wr.ownsRow w.heap.size 4 1 (.slice (some ⟨gm, 0, none⟩) n n) n (bools m n)
  row : wr.ownsRow w.heap.size 9 1 (.slice (some ⟨g, 0, none⟩) n n) n (strs L)
  ne : gm ≠ g
  lo : w.heap.size + 1 ≤ gm ∧ w.heap.size + 1 ≤ g
  bel : Below w.heap.size w wr
theorem ESt.len {w wr : World} {N F C U : Int} {gm g n : Nat} {m : Nat → Bool} {L : List ByteArray} (h : ESt w wr N F C U gm g n m L) : L.length = n := by have := h.row.1; rw [strs_length] at this; omega
theorem ESt.set {w wr : World} {N F C U : Int} {gm g n : Nat} {m : Nat → Bool} {L : List ByteArray} (h : ESt w wr N F C U gm g n m L) (i : Nat) (hi : i < n) (s : ByteArray) : ESt w (wr.setCell ⟨g, i, none⟩ (.string s)) N F C U gm g n m (L.set i s) := by
  have hl := h.len
  obtain ⟨l1, l2⟩ := h.lo
  refine ⟨hset_ne h.geo (by omega), owns_set_other h.mks (by simp [Value.ownBlock]; exact h.ne) _, ?_, h.ne, h.lo, h.bel.setCell (p := ⟨g, i, none⟩) (by show _ ≤ g; omega) _⟩
  have := owns_set h.row (g := g) rfl (.string s) (j := i) (by rw [strs_length]; omega)
  rwa [strs_set] at this
theorem ESt.below {w wr wr' : World} {N F C U : Int} {gm g n : Nat} {m : Nat → Bool} {L : List ByteArray} (h : ESt w wr N F C U gm g n m L) (hb : Below wr.heap.size wr wr') : ESt w wr' N F C U gm g n m L :=
  ⟨(hb.block _ (lt_of_block h.geo)).trans h.geo, owns_kept h.mks fun k hk => hb.block k (h.mks.lt k hk).2, owns_kept h.row fun k hk => hb.block k (h.row.lt k hk).2, h.ne, h.lo, h.bel.trans (hb.mono h.bel.size)⟩
theorem ESt.cells {w wr : World} {N F C U : Int} {gm g n : Nat} {m : Nat → Bool} {L : List ByteArray} (h : ESt w wr N F C U gm g n m L) : wr.cell? ⟨w.heap.size, 0, none⟩ = some (.int .i64 N) ∧ wr.cell? ⟨w.heap.size, 1, none⟩ = some (.int .i64 F) ∧ wr.cell? ⟨w.heap.size, 2, none⟩ = some (.int .i64 C) ∧ wr.cell? ⟨w.heap.size, 3, none⟩ = some (.int .i64 U) := by
  refine ⟨?_, ?_, ?_, ?_⟩ <;> (rw [cell_of_blk h.geo]; rfl)
theorem ESt.at {w wr : World} {N F C U : Int} {gm g n : Nat} {m : Nat → Bool} {L : List ByteArray} (h : ESt w wr N F C U gm g n m L) (i : Nat) (hi : i < n) : wr.cell? ⟨g, i, none⟩ = some (.string (lAt L i)) ∧ wr.cell? ⟨gm, i, none⟩ = some (.bool (m i)) := ⟨owns_cell h.row rfl i _ (strs_at (by rw [h.len]; exact hi)), owns_cell h.mks rfl i _ (bools_at m hi)⟩
theorem ESt.free {w wr : World} {N F C U : Int} {gm g n : Nat} {m : Nat → Bool} {L : List ByteArray} (h : ESt w wr N F C U gm g n m L) (i : Nat) : wr.frozen? ⟨g, i, none⟩ = false := owns_free h.row rfl i
theorem ESt.rs {w wr : World} {N F C U : Int} {gm g n : Nat} {m : Nat → Bool} {L : List ByteArray} (h : ESt w wr N F C U gm g n m L) : Rs wr (some ⟨g, 0, none⟩) n n L := by
  obtain ⟨a, c, e, hr, _⟩ := towns_shape h.row
  simp only [Value.slice.injEq] at e
  obtain ⟨rfl, _, rfl⟩ := e
  exact hr

set_option maxRecDepth 20000 in
set_option maxHeartbeats 16000000 in
theorem rreh_any (B p : Nat) (v1 v2 : Value) (D : DS) (N F C U : Int) (a : Option Addr) (l c : Nat) (xs : List Int) (w : World) (h : RD w B p v1 v2 D) (hB : B ≤ w.heap.size) (M : Nat) (hok : D.ok M) (hM : M + 300 ≤ 1000000) (hz : D.sz) (hri : Ri w a l c xs) :
    Calls Tryz.prog 51 #[.pointer (some ⟨p, 0, none⟩), geo N F C U, .slice a l c] w fun e w' => e = .returned (.tuple #[strV (rehP N F C U D xs).1.1, .int .i64 (rehP N F C U D xs).1.2]) ∧ RP w B p v1 v2 (rehP N F C U D xs).2 w' := by
  have hcc : (c : Int) ≤ 9223372036854775807 := by have := hri.cm; unfold maxLen at this; omega
  have hlc : (l : Int) ≤ (c : Int) := by have := hri.le; omega
  obtain ⟨R, hR⟩ : ∃ R, R = rehP N F C U D xs := ⟨_, rfl⟩
  rw [← hR]
  obtain ⟨w0, hw0⟩ : ∃ w0, w0 = w.alloc (.cells #[.int .i64 N, .int .i64 F, .int .i64 C, .int .i64 U] 23) := ⟨_, rfl⟩
  have hb0 : Below w.heap.size w w0 := by rw [hw0]; exact (Below.refl _ w).alloc (Nat.le_refl _) _
  have hs0 : w0.heap.size = w.heap.size + 1 := by rw [hw0]; exact World.size_alloc _ _
  have hg0 : w0.heap[w.heap.size]? = some (.cells #[.int .i64 N, .int .i64 F, .int .i64 C, .int .i64 U] 23 (0, 0)) := by rw [hw0]; exact heap_alloc_new w _
  have hgc : ∀ w' : World, w'.heap[w.heap.size]? = w0.heap[w.heap.size]? → w'.cell? ⟨w.heap.size, 0, none⟩ = some (.int .i64 N) ∧ w'.cell? ⟨w.heap.size, 1, none⟩ = some (.int .i64 F) ∧ w'.cell? ⟨w.heap.size, 2, none⟩ = some (.int .i64 C) ∧ w'.cell? ⟨w.heap.size, 3, none⟩ = some (.int .i64 U) := fun w' e => by
    have e := e.trans hg0
    refine ⟨?_, ?_, ?_, ?_⟩ <;> (rw [cell_of_blk e]; rfl)
  have hgr := fun w => grright_any N F C U w
  obtain ⟨c0, c1, c2, c3⟩ := hgc w0 rfl
  have HP := Lib.hid h
  have HOK := Lib.hid hok
  have HZ := Lib.hid hz
  have HR := Lib.hid hR
  have HW := Lib.hid hw0
  have HB0 := Lib.hid hb0
  have HGC := Lib.hid hgc
  have HRI := Lib.hid hri
  have HBB := Lib.hid hB
  have HS0 := Lib.hid hs0
  have HG0 := Lib.hid hg0
  clear h hok hz hR hw0 hb0 hgc hri hB hg0 hs0
  unfold geo at hgr ⊢
  by_cases hg : okG N F C U
  · have hd : decide (okG N F C U) = true := by simpa using hg
    simp only [hd] at hgr
    have HGR := Lib.hid hgr
    have HG := Lib.hid hg
    clear hgr hd hg
    go_enter Tryz.func51, Tryz.ntmps51
    go_upto_region 1 with fail
    rw [← HW.out]
    go_wp2_with fail
    refine (HGR.out _).mono ?_
    rintro e wa ⟨rfl, hba⟩
    have HBA := Lib.hid hba
    clear hba c0 c1 c2 c3
    go_wp2
    go_loopw [8] (fun i wr => ∃ k : Nat, k ≤ l ∧ i = .int .i64 k ∧ (∀ x ∈ xs.take k, 0 ≤ x ∧ x < N) ∧ Below w0.heap.size w0 wr) (fun i _ => l - (intOf i).toNat)
    case atStart => exact ⟨0, by omega, rfl, fun x hx => by simp at hx, HBA.out⟩
    case round =>
      clear HBA
      obtain ⟨k, hk, rfl, hin, hB⟩ := hrel
      by_cases hlt : k < l
      · have i0 : (0 : Int) ≤ (k : Int) := by omega
        have i1 : (k : Int) < (l : Int) := by omega
        obtain ⟨b, off, rfl, hbl, hc⟩ := HRI.out.at0 (by omega)
        have hbw := HB0.out.trans (hB.mono HB0.out.size)
        have d0 : wr.cell? ⟨b, off + k, none⟩ = some (.int .i64 (xs[k]?.getD 0)) := by rw [hbw.cell (by exact hbl)]; exact hc k hlt
        have hlx : k < xs.length := by have := HRI.out.len; omega
        obtain ⟨x, hx⟩ : ∃ x, x = xs[k]?.getD 0 := ⟨_, rfl⟩
        rw [← hx] at d0
        obtain ⟨c0, c1, c2, c3⟩ := HGC.out wr (hB.block _ (by have := HS0.out; omega))
        have HIN := Lib.hid hin
        have HX := Lib.hid (And.intro hx hlx)
        have HBR := Lib.hid hB
        have HBW := Lib.hid hbw
        clear hc hin hx hlx c1 c2 c3 hB hbw
        by_cases hx0 : x < 0
        · have hno := in_not (N := N) HX.out.2 (by rw [← HX.out.1]; omega)
          have HE := Lib.hid (HR.out.trans (rehP_range HG.out hno))
          clear hno
          go_wp2_with fail
          go_quiet (fail)
          go_wp2
          refine bodyPost_ret (results_tmp2 rfl _ _ _) rfl ?_
          rw [HE.out]
          exact ⟨rfl, hrp_after HP.out (HBW.out.grown (gb_drewN _ _ none) HBW.out.size (fun j h => by cases h))⟩
        · by_cases hx1 : x < N
          · have hx2 : ¬ N ≤ x := by omega
            have hx3 : 0 ≤ x := by omega
            go_wp2_with fail
            go_quiet (fail)
            go_wp2
            go_roundw
            case rel => exact ⟨k + 1, by omega, by go_num, in_next HIN.out HX.out.2 (by rw [← HX.out.1]; exact ⟨hx3, hx1⟩), HBR.out.grown (gb_drewN _ _ none) HBR.out.size (fun j h => by cases h)⟩
            case measure => simp [intOf]; omega
          · have hx2 : N ≤ x := by omega
            have hx3 : 0 ≤ x := by omega
            have hno := in_not (N := N) HX.out.2 (by rw [← HX.out.1]; omega)
            have HE := Lib.hid (HR.out.trans (rehP_range HG.out hno))
            clear hno
            go_wp2_with fail
            go_quiet (fail)
            go_wp2
            refine bodyPost_ret (results_tmp2 rfl _ _ _) rfl ?_
            rw [HE.out]
            exact ⟨rfl, hrp_after HP.out (HBW.out.grown (gb_drewN _ _ none) HBW.out.size (fun j h => by cases h))⟩
      · obtain rfl : k = l := by omega
        have i1 : ¬ (k : Int) < (k : Int) := by omega
        have hall : ∀ x ∈ xs, 0 ≤ x ∧ x < N := fun x hx => hin x (by rw [← HRI.out.len, List.take_length]; exact hx)
        have HALL := Lib.hid hall
        have HB2 := Lib.hid hB
        clear hall hin hB
        by_cases hl0 : k = 0
        · subst hl0
          have hx0 : xs = [] := List.eq_nil_of_length_eq_zero HRI.out.len
          have HE := Lib.hid (show R = (getP N F C U D ((nodes N F C U - 1 : Nat) : Int), D) from by rw [HR.out, hx0]; exact rehP_none HG.out)
          clear hx0
          have hrt := fun w => rroot_any N F C U w
          have hgt := fun w' (hb : Below wr.drew.heap.size wr.drew w') => rnget_any B p v1 v2 D N F C U ((nodes N F C U - 1 : Nat) : Int) w' (HP.out.below (HB0.out.trans ((HB2.out.drew.trans (hb.mono HB2.out.drew.size)).mono HB0.out.size))) M HOK.out (by omega)
          obtain ⟨r, e, hre⟩ : ∃ r e, getP N F C U D ((nodes N F C U - 1 : Nat) : Int) = (r, e) := ⟨_, _, rfl⟩
          have hre2 := HE.out
          rw [hre] at hre2
          simp only [hre] at hgt
          have HE2 := Lib.hid hre2
          obtain ⟨s, hs⟩ : ∃ s : ByteArray, s = ⟨r.toArray⟩ := ⟨_, rfl⟩
          simp only [show strV r = Value.string s from by rw [hs]; rfl] at hgt
          obtain ⟨rt, hrt2⟩ : ∃ x : Int, x = ((nodes N F C U - 1 : Nat) : Int) := ⟨_, rfl⟩
          simp only [← hrt2] at hrt hgt
          unfold geo at hrt hgt
          have HRT := Lib.hid hrt
          have HGT := Lib.hid hgt
          have HS := Lib.hid hs
          have hkp : ∀ w', Below wr.drew.heap.size wr.drew w' → (w'.cell? ⟨w.heap.size, 0, none⟩ = some (.int .i64 N) ∧ w'.cell? ⟨w.heap.size, 1, none⟩ = some (.int .i64 F) ∧ w'.cell? ⟨w.heap.size, 2, none⟩ = some (.int .i64 C) ∧ w'.cell? ⟨w.heap.size, 3, none⟩ = some (.int .i64 U)) := fun w' hb => HGC.out w' ((hb.block _ (by have := HS0.out; have := HB2.out.drew.size; omega)).trans (HB2.out.drew.block _ (by have := HS0.out; omega)))
          have HKP := Lib.hid hkp
          have hG : Below wr.drew.heap.size wr.drew wr.drew := Below.refl _ _
          clear hrt hgt hre hre2 hs hkp hrt2 HE
          go_wp2_with fail
          go_region_held3 (fun w' : World => w'.cell? ⟨w.heap.size, 0, none⟩ = some (.int .i64 N) ∧ w'.cell? ⟨w.heap.size, 1, none⟩ = some (.int .i64 F) ∧ w'.cell? ⟨w.heap.size, 2, none⟩ = some (.int .i64 C) ∧ w'.cell? ⟨w.heap.size, 3, none⟩ = some (.int .i64 U))
            (first | exact HKP.out _ hG)
            (first
            | (go_at_call 107; with_reducible refine (HRT.out _).mono ?_; rintro r wn ⟨rfl, hb⟩; replace hG := hG.trans (hb.mono hG.size); clear hb)
            | (go_at_call 47; with_reducible refine (HGT.out _ hG).mono ?_; rintro r wn2 ⟨rfl, hb⟩; replace hG := hG.trans (hb.mono hG.size); clear hb))
          all_goals (
            rename_i hHeld
            clear hHeld
            have HG2 := Lib.hid hG
            clear hG
            go_wp2
            refine bodyPost_ret (results_tmp2 rfl _ _ _) rfl ?_
            rw [HE2.out]
            refine ⟨by rw [show strV r = Value.string s from by rw [HS.out]; rfl]; rfl, hrp_after HP.out (HB0.out.trans ((HB2.out.drew.trans (HG2.out.mono HB2.out.drew.size)).mono HB0.out.size))⟩)
        · have hl1 : ((k : Int) == 0) = false := by simp; omega
          have hxn : xs ≠ [] := fun e => hl0 (by rw [← HRI.out.len, e]; rfl)
          obtain ⟨n, hn⟩ : ∃ n, n = nodes N F C U := ⟨_, rfl⟩
          obtain ⟨m, hm⟩ : ∃ m, m = markP N F C U xs := ⟨_, rfl⟩
          have HE := Lib.hid (show R = rehQ N F C U m D from by rw [HR.out, hm]; exact rehP_some HG.out HALL.out hxn)
          have hnl := nodes_le N F C U
          have hnp := nodes_le1 HG.out
          rw [← hn] at hnl hnp
          have hbw : Below w.heap.size w wr := HB0.out.trans (HB2.out.mono HB0.out.size)
          have han := anew_any N F C U HG.out a k c xs wr (HRI.out.later hbw) HALL.out
          rw [show bools (docM N F C U xs xs.length) (nodes N F C U) = bools m (nodes N F C U) from by rw [hm]; exact bools_congr fun q _ => (marks_same HG.out HALL.out q).symm, ← hn] at han
          obtain ⟨c0, c1, c2, c3⟩ := HGC.out wr (HB2.out.block _ (by have := HS0.out; omega))
          unfold geo at han
          have HAN := Lib.hid han
          have HN := Lib.hid hn
          have HBW := Lib.hid (And.intro hbw (show wr.heap[w.heap.size]? = _ from (HB2.out.block _ (by have := HS0.out; omega)).trans HG0.out))
          clear hxn hm han hn hbw
          go_wp2_with fail
          refine HAN.out.mono ?_
          rintro e w1 ⟨⟨gm, rfl, hmr⟩, hb1⟩
          have hms := make_strs n (by omega) w1
          have hst : ESt w (w1.alloc (.cells (madeCells #[.string noBytes] n) 9)) N F C U gm w1.heap.size n m (List.replicate n noBytes) := by
            have hsz := hb1.size
            have hwl : w.heap.size < wr.heap.size := lt_of_block HBW.out.2
            have hbb := HBW.out.1.trans (hb1.mono HBW.out.1.size)
            have hgl := hmr.lt gm rfl
            refine ⟨?_, ?_, hmade_row n (by omega) w1 _ hbb.size, by omega, ⟨by omega, by omega⟩, hbb.alloc hbb.size _⟩
            · rw [Below.heap_alloc _ _ _ (by omega), hb1.block _ hwl]; exact HBW.out.2
            · exact owns_kept (owns_low hmr HBW.out.1.size) fun q hq => Below.heap_alloc _ _ _ ((owns_low hmr HBW.out.1.size).lt q hq).2
          obtain ⟨g, hg⟩ : ∃ g, g = w1.heap.size := ⟨_, rfl⟩
          rw [← hg] at hst hms
          have HST := Lib.hid hst
          clear c0 c1 c2 c3 hb1 hst hg hmr HAN HBW
          go_wp2
          go_loopw [11] (fun i wr => ∃ (k : Nat) (L : List ByteArray), k ≤ n ∧ i = .int .i64 k ∧ othL N F C U m D k = (L, 0) ∧ ESt w wr N F C U gm g n m L) (fun i _ => n - (intOf i).toNat)
          case atStart => exact ⟨0, _, by omega, rfl, by rw [HN.out]; rfl, HST.out⟩
          case round =>
            clear HST hms
            obtain ⟨k, L, hk, rfl, hL, hO⟩ := hrel
            have HO := Lib.hid hO
            have HL := Lib.hid hL
            clear hL
            by_cases hlt : k < n
            · have i0 : (0 : Int) ≤ (k : Int) := by omega
              have i1 : (k : Int) < (n : Int) := by omega
              have hcl := (hO.at k hlt).2
              cases hmk : m k with
              | true =>
                rw [hmk] at hcl
                have HMK := Lib.hid hmk
                clear hO hmk
                go_wp2
                go_roundw
                case rel => exact ⟨k + 1, L, by omega, by go_num, (runE_next HL.out).trans (othF_mark HMK.out), HO.out⟩
                case measure => simp [intOf]; omega
              | false =>
                rw [hmk] at hcl
                obtain ⟨c0, c1, c2, c3⟩ := hO.cells
                have hgt := rnget_any B p v1 v2 D N F C U k wr (HP.out.below hO.bel) M HOK.out (by omega)
                obtain ⟨r, e, hre⟩ : ∃ r e, getP N F C U D k = (r, e) := ⟨_, _, rfl⟩
                rw [hre] at hgt
                dsimp only at hgt
                obtain ⟨s, hs⟩ : ∃ s : ByteArray, s = ⟨r.toArray⟩ := ⟨_, rfl⟩
                rw [show strV r = Value.string s from by rw [hs]; rfl] at hgt
                unfold geo at hgt
                have HGT := Lib.hid hgt
                have HMK := Lib.hid hmk
                have HX := Lib.hid (And.intro hre hs)
                clear hO hmk hgt hre hs
                go_wp2_with fail
                refine HGT.out.mono ?_
                rintro e' w2 ⟨rfl, hb2⟩
                have HO2 := Lib.hid (HO.out.below hb2)
                clear hb2 HGT HO c0 c1 c2 c3 hcl
                by_cases he : e = 0
                · subst he
                  have hfz := HO2.out.free k
                  have hcl := (HO2.out.at k hlt).1
                  have HX2 := Lib.hid (show othF m (fun j => getP N F C U D j) k L = (L.set k s, 0) from by rw [HX.out.2]; exact othF_ok HMK.out HX.out.1)
                  go_wp2
                  go_roundw
                  case rel => exact ⟨k + 1, L.set k s, by omega, by go_num, (runE_next HL.out).trans HX2.out, HO2.out.set k hlt s⟩
                  case measure => simp [intOf]; omega
                · have he2 : (e == 0) = false := by simpa using he
                  have he3 : (e != 0) = true := by simp [he]
                  have HE2 := Lib.hid (show R = (([], e), D) from by
                    have h1 : othL N F C U m D n = (L, e) := runE_err HL.out (othF_bad HMK.out HX.out.1 he) he hlt
                    rw [HE.out]; unfold rehQ; rw [← HN.out, h1]; dsimp only; rw [if_pos he])
                  have HB := Lib.hid HO2.out.bel
                  clear he
                  go_wp2
                  refine bodyPost_ret (results_tmp2 rfl _ _ _) rfl ?_
                  rw [HE2.out]
                  exact ⟨rfl, hrp_after HP.out HB.out⟩
            · obtain rfl : k = n := by omega
              have j1 : ¬ (k : Int) < (k : Int) := by omega
              clear hO
              have h32 : few32 k L := by have := othL_small N F C U m D k; rw [HL.out, ← HN.out] at this; exact this
              have HE2 := Lib.hid (show R = if (cmpL N F C U m D L k).2 ≠ 0 then (([], (cmpL N F C U m D L k).2), D) else if (savR N F C U m (cmpL N F C U m D L k).1 D k).1 ≠ 0 then (([], (savR N F C U m (cmpL N F C U m D L k).1 D k).1), (savR N F C U m (cmpL N F C U m D L k).1 D k).2) else (((lAt (cmpL N F C U m D L k).1 (k - 1)).data.toList, 0), (savR N F C U m (cmpL N F C U m D L k).1 D k).2) from by
                rw [HE.out]; unfold rehQ; rw [← HN.out, HL.out]; rfl)
              have H32 := Lib.hid h32
              clear h32 HL HE
              obtain ⟨L0, hL0⟩ : ∃ L0, L0 = L := ⟨_, rfl⟩
              rw [← hL0] at HE2 H32
              have HL0 := Lib.hid hL0
              clear hL0
              go_wp2
              go_loopw [14] (fun i wr => ∃ (j : Nat) (L : List ByteArray), j ≤ k ∧ i = .int .i64 j ∧ cmpL N F C U m D L0 j = (L, 0) ∧ few32 k L ∧ ESt w wr N F C U gm g k m L) (fun i _ => k - (intOf i).toNat)
              case atStart => exact ⟨0, L0, by omega, rfl, rfl, H32.out, by rw [HL0.out]; exact HO.out⟩
              case round =>
                clear HO HL0 H32
                obtain ⟨j, L, hj, rfl, hL, h32, hO⟩ := hrel
                have HO := Lib.hid hO
                have HL := Lib.hid hL
                have H32 := Lib.hid h32
                clear hL h32
                by_cases hlt : j < k
                · have i0 : (0 : Int) ≤ (j : Int) := by omega
                  have i1 : (j : Int) < (k : Int) := by omega
                  have hcl := (hO.at j hlt).2
                  cases hmk : m j with
                  | false =>
                    rw [hmk] at hcl
                    have HMK := Lib.hid hmk
                    clear hO hmk
                    go_wp2
                    go_roundw
                    case rel => exact ⟨j + 1, L, by omega, by go_num, (runE_next HL.out).trans (cmpF_off HMK.out), H32.out, HO.out⟩
                    case measure => simp [intOf]; omega
                  | true =>
                    rw [hmk] at hcl
                    obtain ⟨c0, c1, c2, c3⟩ := hO.cells
                    by_cases hltN : (j : Int) < N
                    · have hdt := fun w => rdata_any N F C U (j : Int) w
                      obtain ⟨at', hat⟩ : ∃ x, x = dataAt N F C U (j : Int) := ⟨_, rfl⟩
                      obtain ⟨d, q, hdq⟩ : ∃ d q, D.read at' = (d, q) := ⟨_, _, rfl⟩
                      have hH : hashR N F C U D L j = if q ≠ 0 then (noBytes, q) else (leafB d, 0) := by unfold hashR; rw [if_pos hltN, ← hat, hdq]
                      simp only [← hat] at hdt
                      have hd64 : d.size ≤ 64 := by have := HZ.out.read64 at'; rw [hdq] at this; exact this
                      have hWl : D.W.length ≤ 1000000 := by have := HOK.out.few; have := HOK.out.did; omega
                      have hLl : D.L.length ≤ 1000000 := by have := HOK.out.len; omega
                      have hrd := fun w' (hb : Below wr.heap.size wr w') => rread_any B p v1 v2 D at' w' (HP.out.below (hO.bel.trans (hb.mono hO.bel.size))) hWl (by have := HOK.out.len; omega)
                      simp only [hdq] at hrd
                      unfold two at hrd
                      dsimp only at hrd
                      unfold geo at hdt
                      have hlf := fun w' => Dg.rleaf_any d w' (by omega)
                      rw [show Dg.strV (Dg.dig (0 :: d.data.toList)) = Value.string (leafB d) from rfl] at hlf
                      have HDT := Lib.hid hdt
                      have HRD := Lib.hid hrd
                      have HLF := Lib.hid hlf
                      have HH := Lib.hid hH
                      have HMK := Lib.hid hmk
                      clear hdt hrd hlf hat hdq hd64 hmk hH hO hWl hLl
                      go_wp2_with fail
                      refine (HDT.out _).mono ?_
                      rintro e w2 ⟨rfl, hb2⟩
                      have HRD2 := Lib.hid (HRD.out w2 hb2)
                      have HO2 := Lib.hid (HO.out.below hb2)
                      clear hb2 HRD HDT HO c0 c1 c2 c3
                      go_wp2_with fail
                      refine HRD2.out.mono ?_
                      rintro e w3 ⟨rfl, hw3⟩; obtain rfl := hw3.symm; clear hw3 HRD2
                      by_cases hq : q = 0
                      · subst hq
                        have HH2 := Lib.hid (HH.out.trans (if_neg (by simp)))
                        clear HH
                        go_wp2_with fail
                        refine (HLF.out _).mono ?_
                        rintro e w4 ⟨rfl, hb4⟩
                        have HO3 := Lib.hid (HO2.out.below hb4)
                        clear hb4 HO2
                        have hfz := HO3.out.free j
                        have hc2 := (HO3.out.at j hlt).1
                        have HX2 := Lib.hid ((cmpF_on HMK.out HH2.out).trans (if_neg (by simp)))
                        have H322 := Lib.hid (show few32 k (L.set j (leafB d)) from few32_set H32.out j (Nat.le_of_eq (hleafB_size _)))
                        generalize leafB d = z at *
                        go_wp2
                        go_roundw
                        case rel => exact ⟨j + 1, L.set j z, by omega, by go_num, (runE_next HL.out).trans HX2.out, H322.out, HO3.out.set j hlt z⟩
                        case measure => simp [intOf]; omega
                      · have he2 : (q == 0) = false := by simpa using hq
                        have he3 : (q != 0) = true := by simp [hq]
                        have HE3 := Lib.hid (show R = (([], q), D) from by
                          have h1 : cmpL N F C U m D L0 k = (L, q) := runE_err HL.out ((cmpF_on HMK.out (HH.out.trans (if_pos hq))).trans (if_pos hq)) hq hlt
                          rw [HE2.out, h1]; dsimp only; rw [if_pos hq])
                        have HB := Lib.hid HO2.out.bel
                        clear hq
                        go_wp2
                        refine bodyPost_ret (results_tmp2 rfl _ _ _) rfl ?_
                        rw [HE3.out]
                        exact ⟨rfl, hrp_after HP.out HB.out⟩
                    · have hH : hashR N F C U D L j = (nodeB (kids L (children N F C U j)), 0) := by unfold hashR; rw [if_neg hltN]
                      have hab := rabove_any N F C U (some ⟨g, 0, none⟩) k k L j wr hO.rs (fun x hx => by
                        obtain ⟨y, e, hy⟩ := children_mem hx
                        exact ⟨y, e, by omega⟩) (fun i _ => by have := H32.out.2 i; omega)
                      obtain ⟨z, hz⟩ : ∃ z, z = nodeB (kids L (children N F C U j)) := ⟨_, rfl⟩
                      rw [← hz] at hH hab
                      have hz32 : z.size = 32 := by rw [hz]; exact hnodeB_size _
                      unfold geo at hab
                      have HAB := Lib.hid hab
                      have HMK := Lib.hid hmk
                      have HX2 := Lib.hid ((cmpF_on hmk hH).trans (if_neg (by simp)))
                      have H322 := Lib.hid (show few32 k (L.set j z) from few32_set H32.out j (by omega))
                      clear hab hH hmk hO hz hz32
                      go_wp2_with fail
                      refine HAB.out.mono ?_
                      rintro e w2 ⟨rfl, hb2⟩
                      have HO3 := Lib.hid (HO.out.below hb2)
                      have hfz := HO3.out.free j
                      have hc2 := (HO3.out.at j hlt).1
                      clear hb2 HO c0 c1 c2 c3 hcl HAB
                      go_wp2
                      go_roundw
                      case rel => exact ⟨j + 1, L.set j z, by omega, by go_num, (runE_next HL.out).trans HX2.out, H322.out, HO3.out.set j hlt z⟩
                      case measure => simp [intOf]; omega
                · obtain rfl : j = k := by omega
                  have j1 : ¬ (j : Int) < (j : Int) := by omega
                  have HE3 := Lib.hid (show R = if (savR N F C U m L D j).1 ≠ 0 then (([], (savR N F C U m L D j).1), (savR N F C U m L D j).2) else (((lAt L (j - 1)).data.toList, 0), (savR N F C U m L D j).2) from by
                    rw [HE2.out, HL.out]; rfl)
                  have hkeep : ∀ (wq : World) (D' : DS), RP wr B p v1 v2 D' wq → (wq.cell? ⟨w.heap.size, 0, none⟩ = some (.int .i64 N) ∧ wq.cell? ⟨w.heap.size, 1, none⟩ = some (.int .i64 F) ∧ wq.cell? ⟨w.heap.size, 2, none⟩ = some (.int .i64 C) ∧ wq.cell? ⟨w.heap.size, 3, none⟩ = some (.int .i64 U)) ∧ ∀ i, i < j → wq.cell? ⟨gm, i, none⟩ = some (.bool (m i)) ∧ wq.cell? ⟨g, i, none⟩ = some (.string (lAt L i)) := fun wq D' hpp => by
                    obtain ⟨_, _, _, hf, _⟩ := hpp
                    have hfl := HP.out.foot_low
                    obtain ⟨lo1, lo2⟩ := hO.lo
                    have g1 := (hf.block w.heap.size (lt_of_block hO.geo) (fun hx => by have := (hfl _ hx).2; omega)).trans hO.geo
                    refine ⟨?_, fun i hi => ⟨?_, ?_⟩⟩
                    · refine ⟨?_, ?_, ?_, ?_⟩ <;> (rw [cell_of_blk g1]; rfl)
                    · rw [World.cell?_of_block (w := wr) (hf.block gm (hO.mks.lt gm rfl).2 (fun hx => by have := (hfl _ hx).2; omega))]; exact (hO.at i hi).2
                    · rw [World.cell?_of_block (w := wr) (hf.block g (hO.row.lt g rfl).2 (fun hx => by have := (hfl _ hx).2; omega))]; exact (hO.at i hi).1
                  have HPS := Lib.hid (RP.same (HP.out.below hO.bel))
                  have HKP := Lib.hid hkeep
                  have HB4 := Lib.hid hO.bel
                  clear hO HO hkeep HL HE2
                  obtain ⟨w4, hw4⟩ : ∃ w4, w4 = wr := ⟨_, rfl⟩
                  rw [← hw4] at HPS HKP HB4 ⊢
                  clear hw4
                  go_wp2
                  go_loopw [17] (fun i wr => ∃ (i' : Nat) (D' : DS), i' ≤ j ∧ i = .int .i64 i' ∧ savL N F C U m L D i' = (D', 0) ∧ RP w4 B p v1 v2 D' wr) (fun i _ => j - (intOf i).toNat)
                  case atStart => exact ⟨0, D, by omega, rfl, rfl, HPS.out⟩
                  case round =>
                    clear HPS
                    obtain ⟨k, D', hk, rfl, hD, hpp⟩ := hrel
                    obtain ⟨⟨c0, c1, c2, c3⟩, hcs⟩ := HKP.out wr D' hpp
                    by_cases hlt : k < j
                    · have i0 : (0 : Int) ≤ (k : Int) := by omega
                      have i1 : (k : Int) < (j : Int) := by omega
                      obtain ⟨hcl, hck⟩ := hcs k hlt
                      obtain ⟨s, hs⟩ : ∃ s, s = lAt L k := ⟨_, rfl⟩
                      rw [← hs] at hck
                      have HD := Lib.hid hD
                      have HS := Lib.hid hs
                      have HPP := Lib.hid hpp
                      clear hcs hD hs hpp
                      cases hmk : m k with
                      | false =>
                        rw [hmk] at hcl
                        have HMK := Lib.hid hmk
                        clear hmk
                        go_wp2
                        go_roundw
                        case rel => exact ⟨k + 1, D', by omega, by go_num, (runE_next HD.out).trans (savF_off HMK.out), HPP.out⟩
                        case measure => simp [intOf]; omega
                      | true =>
                        rw [hmk] at hcl
                        obtain ⟨va, vb, hpd, hfr, hft⟩ := HPP.out
                        have hok' : D'.ok (M + k) := by have := savL_ok HOK.out N F C U m L k; rw [HD.out] at this; exact this
                        have hdr : Below wr.heap.size wr wr.drew := (Below.refl _ _).drew
                        have hpu := rnput_any B p va vb D' N F C U k s wr.drew (hpd.below hdr) (Nat.le_trans HBB.out (Nat.le_trans HB4.out.size hfr.size)) (M + k) hok' (by have := H32.out.1; omega) (by have := H32.out.2 k; rw [← HS.out] at this; omega)
                        obtain ⟨e, T, het⟩ : ∃ e T, putNP N F C U D' k s = (e, T) := ⟨_, _, rfl⟩
                        rw [het] at hpu
                        dsimp only at hpu
                        unfold geo at hpu
                        have HPU := Lib.hid hpu
                        have HX := Lib.hid (show savF N F C U m L k D' = (T, e) from by rw [savF_on hmk, ← HS.out, het])
                        have HFR := Lib.hid (And.intro (show Fr (foot p v1 v2) w4 wr.drew from hfr.drew) hft)
                        have hst : (wr.drew.cell? ⟨w.heap.size, 0, none⟩ = some (.int .i64 N) ∧ wr.drew.cell? ⟨w.heap.size, 1, none⟩ = some (.int .i64 F) ∧ wr.drew.cell? ⟨w.heap.size, 2, none⟩ = some (.int .i64 C) ∧ wr.drew.cell? ⟨w.heap.size, 3, none⟩ = some (.int .i64 U)) ∧ wr.drew.cell? ⟨g, k, none⟩ = some (.string s) := ⟨⟨c0, c1, c2, c3⟩, hck⟩
                        have hkp : ∀ w5, RP w4 B p v1 v2 T w5 → (w5.cell? ⟨w.heap.size, 0, none⟩ = some (.int .i64 N) ∧ w5.cell? ⟨w.heap.size, 1, none⟩ = some (.int .i64 F) ∧ w5.cell? ⟨w.heap.size, 2, none⟩ = some (.int .i64 C) ∧ w5.cell? ⟨w.heap.size, 3, none⟩ = some (.int .i64 U)) ∧ w5.cell? ⟨g, k, none⟩ = some (.string s) := fun w5 hp => by
                          obtain ⟨h1, h2⟩ := HKP.out w5 T hp
                          exact ⟨h1, by rw [HS.out]; exact (h2 k hlt).2⟩
                        have HST := Lib.hid hst
                        have HKQ := Lib.hid hkp
                        clear hmk hpu het hfr hft hpd hok' hst hkp hdr
                        go_wp2_with fail
                        go_region_held3 (fun w' : World => (w'.cell? ⟨w.heap.size, 0, none⟩ = some (.int .i64 N) ∧ w'.cell? ⟨w.heap.size, 1, none⟩ = some (.int .i64 F) ∧ w'.cell? ⟨w.heap.size, 2, none⟩ = some (.int .i64 C) ∧ w'.cell? ⟨w.heap.size, 3, none⟩ = some (.int .i64 U)) ∧ w'.cell? ⟨g, k, none⟩ = some (.string s))
                          (first | exact HST.out | exact HKQ.out _ hp3)
                          (first
                          | (go_at_call 49; refine HPU.out.mono ?_; rintro r w5 ⟨rfl, hp2⟩; have hp3 := hrp_join HFR.out.1 HFR.out.2 hp2; clear hp2))
                        all_goals (
                          rename_i hHeld
                          clear hHeld
                          have HP2 := Lib.hid hp3
                          clear hp3 HPU c0 c1 c2 c3 hcl hck
                          by_cases he : e = 0
                          · subst he
                            go_wp2
                            go_roundw
                            case rel => exact ⟨k + 1, T, by omega, by go_num, (runE_next HD.out).trans HX.out, HP2.out⟩
                            case measure => simp [intOf]; omega
                          · have he2 : (e == 0) = false := by simpa using he
                            have he3 : (e != 0) = true := by simp [he]
                            have HE4 := Lib.hid (show R = (([], e), T) from by
                              have h1 : savR N F C U m L D j = (e, T) := by
                                unfold savR
                                rw [show savL N F C U m L D j = (T, e) from runE_err HD.out HX.out he hlt, if_pos he]
                              rw [HE3.out, h1]; dsimp only; rw [if_pos he])
                            clear he
                            go_wp2
                            refine bodyPost_ret (results_tmp2 rfl _ _ _) rfl ?_
                            rw [HE4.out]
                            exact ⟨rfl, hrp_below HB4.out HP2.out⟩)
                    · obtain rfl : k = j := by omega
                      have i1 : ¬ (k : Int) < (k : Int) := by omega
                      obtain ⟨va, vb, hpd, hfr, hft⟩ := hpp
                      have hok' : D'.ok (M + k) := by have := savL_ok HOK.out N F C U m L k; rw [hD] at this; exact this
                      have hfl := rflush_any B p va vb D' wr hpd (Nat.le_trans HBB.out (Nat.le_trans HB4.out.size hfr.size)) (M + k) hok' (by have := H32.out.1; omega)
                      have HFL := Lib.hid hfl
                      have HFR := Lib.hid (And.intro hfr hft)
                      obtain ⟨e, T, heT⟩ : ∃ e T, D'.flush = (e, T) := ⟨_, _, rfl⟩
                      rw [heT] at HFL
                      have HS := Lib.hid (show savR N F C U m L D k = (e, T) from by unfold savR; rw [hD]; simp [heT])
                      clear hpd hfr hft hfl hok' hD c0 c1 c2 c3 hcs heT
                      go_wp2_with fail
                      refine HFL.out.mono ?_
                      rintro e' w5 ⟨rfl, hp2⟩
                      have hp3 := hrp_join HFR.out.1 HFR.out.2 hp2
                      have HP2 := Lib.hid hp3
                      clear hp2 HFL hp3
                      by_cases he : e = 0
                      · subst he
                        obtain ⟨_, hcs⟩ := HKP.out w5 T HP2.out
                        have hk1 : k - 1 < k := by omega
                        have hck := (hcs (k - 1) hk1).2
                        have HE4 := Lib.hid (show R = (((lAt L (k - 1)).data.toList, 0), T) from by rw [HE3.out, HS.out]; rfl)
                        obtain ⟨s, hs⟩ : ∃ s, s = lAt L (k - 1) := ⟨_, rfl⟩
                        rw [← hs] at hck HE4
                        obtain ⟨rt, hrt⟩ : ∃ x : Nat, x = k - 1 := ⟨_, rfl⟩
                        rw [← hrt] at hck hk1
                        have r1 : (k : Int) - 1 = (rt : Int) := by omega
                        have r2 : IntKind.i64.wrap ((k : Int) - 1) = (rt : Int) := by rw [r1]; exact IntWalk.i64_in _ (by omega)
                        have r3 : (0 : Int) ≤ (rt : Int) := by omega
                        have r4 : (rt : Int) < (k : Int) := by omega
                        clear hcs hs hrt
                        go_wp2
                        refine bodyPost_ret (results_tmp2 rfl _ _ _) rfl ?_
                        rw [HE4.out]
                        exact ⟨by rw [hstrV_data]; rfl, hrp_below HB4.out HP2.out⟩
                      · have he2 : (e == 0) = false := by simpa using he
                        have he3 : (e != 0) = true := by simp [he]
                        have HE4 := Lib.hid (show R = (([], e), T) from by rw [HE3.out, HS.out]; dsimp only; rw [if_pos he])
                        clear he
                        go_wp2
                        refine bodyPost_ret (results_tmp2 rfl _ _ _) rfl ?_
                        rw [HE4.out]
                        exact ⟨rfl, hrp_below HB4.out HP2.out⟩
  · have hd : decide (okG N F C U) = false := by simpa using hg
    simp only [hd] at hgr
    have HGR := Lib.hid hgr
    have HE := Lib.hid (HR.out.trans (rehP_geom hg))
    clear hgr hd hg
    go_enter Tryz.func51, Tryz.ntmps51
    go_upto_region 1 with fail
    rw [← HW.out]
    go_wp2_with fail
    refine (HGR.out _).mono ?_
    rintro e wa ⟨rfl, hba⟩
    have HBA := Lib.hid (HB0.out.trans (hba.mono HB0.out.size))
    clear hba
    go_wp2
    refine bodyPost_ret (results_tmp2 rfl _ _ _) rfl ?_
    rw [HE.out]
    exact ⟨rfl, hrp_after HP.out HBA.out⟩
end Go.Proofs.YtpkeikbiblfidaaGreatDoor

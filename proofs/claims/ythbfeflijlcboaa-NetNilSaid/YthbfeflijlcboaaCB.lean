/-
  The fixed calls (known); a net that is not there.
-/
import Derived.Test.YthbfeflijlcboaaCA
import Derived.Lib.SlBytesConst
namespace Go.Proofs.Ythbfeflijlcboaa
open Go.RowKit
set_option linter.unusedVariables false
set_option linter.unusedSimpArgs false

def kb2 : ByteArray := ⟨#[97, 98]⟩
def kb1 : ByteArray := ⟨#[97]⟩
def kS1 : NS := ⟨[(1, kb2)], 1, 0, 0⟩
def kS2 : NS := ⟨[(1, kb2), (1, kb2)], 2, 0, 0⟩
def kS3 : NS := ⟨[(1, kb2)], 2, 1, 0⟩
def kS4 : NS := ⟨[(1, kb1)], 2, 1, 0⟩
theorem k1 : ns0.send 1 kb2 = (0, kS1) := rfl
theorem k2 : kS1.twice 0 = (0, kS2) := rfl
theorem k3 : kS2.at' 0 = ((1, kb2), 0) := rfl
theorem k3' : kS2.take 0 = kS3 := rfl
theorem k4 : kS3.cut 0 1 = (0, kS4) := by
  unfold NS.cut
  rw [if_pos ⟨by decide, by decide⟩, if_neg (by decide)]
  rfl
theorem k5 : kS4.at' 0 = ((1, kb1), 0) := rfl

theorem two_rd (w : World) : Rd (w.alloc (.cells #[.int .u8 97, .int .u8 98] 5 (2, 3))) (some ⟨w.heap.size, 0, none⟩) 2 2 [97, 98] := by
  refine ⟨rfl, Nat.le_refl _, by omega, by unfold maxLen; omega, fun _ => ⟨_, _, rfl, by simp, fun i hi => ?_⟩, fun e => by cases e⟩
  match i, hi with
  | 0, _ => exact World.cell?_alloc_mark _ _ _ _ _
  | 1, _ => exact World.cell?_alloc_mark _ _ _ _ _

/-- The net of a call that began at w0. -/
def KN (w0 w : World) (p : Nat) (S : NS) : Prop := ∃ v, PN w w0.heap.size p v S ∧ Below w0.heap.size w0 w
theorem KN.np {w0 w w' : World} {p : Nat} {v : Value} {S S' : NS} (h : PN w w0.heap.size p v S) (hb : Below w0.heap.size w0 w) (h2 : NP 53 pF w w0.heap.size p v S' w') : KN w0 w' p S' := by
  obtain ⟨v', hn, hf, ht⟩ := h2
  exact ⟨v', hn, hb.trans (hf.below (fun k hk => (Nt.ft_low h k hk).1) hb.size)⟩
theorem KN.later {w0 w w' : World} {p : Nat} {S : NS} (h : KN w0 w p S) (hb : Below w.heap.size w w') : KN w0 w' p S := by
  obtain ⟨v, hn, h0⟩ := h
  exact ⟨v, Nt.below hn hb, h0.trans (hb.mono h0.size)⟩

set_option maxRecDepth 20000 in
set_option maxHeartbeats 1000000 in
theorem known_true (w : World) :
    Calls Try.prog 7 #[] w fun e w' => e = .returned (.bool true) ∧ Below w.heap.size w w' := by
  have HN := Lib.hid (new_any w)
  have hcv := fun (C : Array Value) (n c : Nat) (w : World) => Lib.run_convert_bytes_const (P := Try.prog) w 46 5 C n c Try.underlying46 Try.underlying5
  go_enter Try.func7, Try.ntmps7
  go_wp2_with fail
  refine HN.out.mono ?_
  rintro e w1 ⟨p, v, rfl, hp, hb1⟩
  have hb1a : Below w1.heap.size w1 (w1.alloc (.cells #[.int .u8 97, .int .u8 98] 5 (2, 3))) := (Below.refl _ _).alloc (Nat.le_refl _) _
  have hpa : PN (w1.alloc (.cells #[.int .u8 97, .int .u8 98] 5 (2, 3))) w.heap.size p v ns0 := Nt.below hp hb1a
  have hba := hb1.trans (hb1a.mono hb1.size)
  have h1 := send_any w.heap.size p v ns0 1 _ 2 2 [97, 98] kb2 _ 0 hpa hba.size ns0_ok (by omega) (two_rd w1) rfl (fun b off e _ e2 => by cases e; have := Nt.lt hp; omega)
  rw [k1] at h1
  have H1 := Lib.hid (h1.mono (R' := fun e w' => e = .returned (.int .i64 0) ∧ KN w w' p kS1) (fun e w' h => ⟨h.1, KN.np hpa hba h.2⟩))
  clear hb1a hpa hba h1 hp hb1
  go_wp2_with fail
  refine H1.out.mono ?_
  rintro e w2 ⟨rfl, v2, hp2, hb2⟩
  have h2 := twice_any w.heap.size p v2 kS1 0 w2 5 hp2 hb2.size ⟨by decide, by decide, by decide⟩ (by omega)
  rw [k2] at h2
  have H2 := Lib.hid (h2.mono (R' := fun e w' => e = .returned (.int .i64 0) ∧ KN w w' p kS2) (fun e w' h => ⟨h.1, KN.np hp2 hb2 h.2⟩))
  clear h2 hp2 hb2
  go_wp2_with fail
  refine H2.out.mono ?_
  rintro e w3 ⟨rfl, v3, hp3, hb3⟩
  have h3 := take_any w.heap.size p v3 kS2 0 w3 5 hp3 ⟨by decide, by decide, by decide⟩ (by omega)
  rw [k3, k3'] at h3
  unfold pkE pkV at h3
  have H3 := Lib.hid (h3.mono (R' := fun e w' => e = .returned (.tuple #[.agg #[.int .i64 1, .string kb2], .int .i64 0]) ∧ KN w w' p kS3) (fun e w' h => ⟨h.1, KN.np hp3 hb3 h.2⟩))
  clear h3 hp3 hb3
  go_wp2_with fail
  refine H3.out.mono ?_
  rintro e w4 ⟨rfl, hk4⟩
  have hal : Below w4.heap.size w4 (w4.alloc (.cells #[.int .i64 1, .string kb2] 41)) := (Below.refl _ _).alloc (Nat.le_refl _) _
  obtain ⟨v4, hp4', hb4'⟩ := hk4
  have hp4 : PN (w4.alloc (.cells #[.int .i64 1, .string kb2] 41)) w.heap.size p v4 kS3 := Nt.below hp4' hal
  have hb4 := hb4'.trans (hal.mono hb4'.size)
  have hcut := cut_any w.heap.size p v4 kS3 0 1 _ hp4 (by decide)
  rw [k4] at hcut
  have H4 := Lib.hid (hcut.mono (R' := fun e w' => e = .returned (.int .i64 0) ∧ KN w w' p kS4 ∧ Fr (ft p v4) (w4.alloc (.cells #[.int .i64 1, .string kb2] 41)) w') (fun e w' h => ⟨h.1, KN.np hp4 hb4 h.2, np_frm h.2⟩))
  have hnw : ¬ ft p v4 w4.heap.size := fun e => by have := (Nt.ft_low hp4' _ e).2; omega
  have hpk := pk_new w4 1 kb2
  have HPK := Lib.hid (And.intro hnw hpk)
  clear hcut hal hp4 hb4 hp4' hb4' hnw hpk
  go_wp2_with fail
  refine H4.out.mono ?_
  rintro e w5 ⟨rfl, hk5, hf5⟩
  have z0 := fr_cell (i := 0) hf5 HPK.out.2.1 HPK.out.1
  have z1 := fr_cell (i := 1) hf5 HPK.out.2.2 HPK.out.1
  have hw4 : w4.heap.size < w5.heap.size := by have := hf5.size; simp at this; omega
  obtain ⟨v5, hp5, hb5⟩ := hk5
  have h5 := at_any w.heap.size p v5 kS4 0 w5 hp5
  rw [k5] at h5
  unfold pkE pkV at h5
  have HK5 := Lib.hid (show KN w w5 p kS4 from ⟨v5, hp5, hb5⟩)
  have H5 := Lib.hid h5
  have HZ := Lib.hid (And.intro z0 (And.intro z1 hw4))
  clear h5 hp5 hb5 z0 z1 hw4 hf5
  go_wp2_with fail
  refine H5.out.mono ?_
  rintro e w6 ⟨rfl, hb6⟩
  have hal : Below w6.heap.size w6 (w6.alloc (.cells #[.int .i64 1, .string kb1] 41)) := (Below.refl _ _).alloc (Nat.le_refl _) _
  have hb7 := hb6.trans (hal.mono hb6.size)
  obtain ⟨z0, z1, hw4⟩ := HZ.out
  have y0 := (hb7.cell (p := ⟨w4.heap.size, 0, none⟩) hw4).trans z0
  have y1 := (hb7.cell (p := ⟨w4.heap.size, 1, none⟩) hw4).trans z1
  obtain ⟨x0, x1⟩ := pk_new w6 1 kb1
  obtain ⟨v7, hp7, hb7'⟩ := HK5.out.later hb7
  obtain ⟨c0, c1, c2, c3, hf⟩ := PN.cells hp7
  obtain ⟨a, c, rfl, hle, hcm, _⟩ := owns_shape1 (Nt.own hp7)
  have hln := fun w' (h : w'.cell? ⟨p, 3, none⟩ = some (.slice a 1 c)) => len_any p a 1 c w' h
  have HLN := Lib.hid (hln _ c3)
  have HB7 := Lib.hid hb7'
  have qe := eql_pk 1 kb2
  have qg := guard_pk
  clear z0 z1 hw4 hb7 hal hb6 hp7 hb7' c0 c1 c2 hf hln
  unfold kb2 kb1 at *
  go_wp2_with fail
  refine HLN.out.mono ?_
  rintro e w8 ⟨rfl, hw1⟩; obtain rfl := hw1.symm; clear hw1
  go_wp2
  go_ret
  exact ⟨rfl, HB7.out⟩

set_option maxRecDepth 20000 in
set_option maxHeartbeats 400000 in
theorem take_nil (i : Int) (w : World) :
    Calls Try.prog 17 #[.pointer none, .int .i64 i] w fun e w' => e = .returned (pkE ((0, noBytes), 1)) ∧ Below w.heap.size w w' := by
  have hal : Below w.heap.size w (w.alloc (.cells #[.int .i64 0, .string ⟨#[]⟩] 41)) := (Below.refl _ _).alloc (Nat.le_refl _) _
  have HAT := Lib.hid (remove_nil i (w.alloc (.cells #[.int .i64 0, .string ⟨#[]⟩] 41)))
  have HAL := Lib.hid hal
  unfold pkE pkV noBytes at HAT
  unfold noBytes
  go_enter Try.func17, Try.ntmps17
  go_wp2_with fail
  refine HAT.out.mono ?_
  rintro e w1 ⟨rfl, hb1⟩
  have hb1w := HAL.out.trans (hb1.mono HAL.out.size)
  have hal2 : Below w1.heap.size w1 (w1.alloc (.cells #[.int .i64 0, .string ⟨#[]⟩] 41)) := (Below.refl _ _).alloc (Nat.le_refl _) _
  have hrb := ((hb1.trans (hal2.mono hb1.size)).block w.heap.size (by simp)).trans (heap_alloc_new w (.cells #[.int .i64 0, .string ⟨#[]⟩] 41))
  obtain ⟨q0, q1⟩ := pk_new w1 0 ⟨#[]⟩
  have hb2 : Below w.heap.size w _ := hb1w.trans (hal2.mono hb1w.size)
  obtain ⟨w4, hw4⟩ : ∃ w4, w4 = w1.alloc (.cells #[.int .i64 0, .string ⟨#[]⟩] 41) := ⟨_, rfl⟩
  rw [← hw4] at hrb hb2
  have r0 : w4.cell? ⟨w.heap.size, 0, none⟩ = some (.int .i64 0) := by rw [cell_of_blk hrb]; rfl
  have r1 : w4.cell? ⟨w.heap.size, 1, none⟩ = some (.string ⟨#[]⟩) := by rw [cell_of_blk hrb]; rfl
  have rf : ∀ i, w4.frozen? ⟨w.heap.size, i, none⟩ = false := fun i => free_of_blk hrb i
  have hb5 := blk_setCell (i := 1) (u := .string ⟨#[]⟩) (blk_setCell (i := 0) (u := .int .i64 0) hrb)
  have z0 : ((w4.setCell ⟨w.heap.size, 0, none⟩ (.int .i64 0)).setCell ⟨w.heap.size, 1, none⟩ (.string ⟨#[]⟩)).cell? ⟨w.heap.size, 0, none⟩ = some (.int .i64 0) := by rw [cell_of_blk hb5]; rfl
  have z1 : ((w4.setCell ⟨w.heap.size, 0, none⟩ (.int .i64 0)).setCell ⟨w.heap.size, 1, none⟩ (.string ⟨#[]⟩)).cell? ⟨w.heap.size, 1, none⟩ = some (.string ⟨#[]⟩) := by rw [cell_of_blk hb5]; rfl
  have hend : Below w.heap.size w ((w4.setCell ⟨w.heap.size, 0, none⟩ (.int .i64 0)).setCell ⟨w.heap.size, 1, none⟩ (.string ⟨#[]⟩)) := Below.setCell (Below.setCell hb2 (show w.heap.size ≤ (⟨w.heap.size, 0, none⟩ : Addr).block from Nat.le_refl _) (.int .i64 0)) (show w.heap.size ≤ (⟨w.heap.size, 1, none⟩ : Addr).block from Nat.le_refl _) (.string ⟨#[]⟩)
  rw [hw4] at r0 r1 rf z0 z1 hend
  have HZ := Lib.hid (And.intro z0 (And.intro z1 hend))
  clear z0 z1 hb5 hrb hb2 hal2 hb1w hb1 hw4 hend
  go_wp2
  obtain ⟨z0, z1, hend⟩ := HZ.out
  refine bodyPost_ret (by simp [results, Try.results17, go_sem, z0, z1]; try rfl) rfl ?_
  exact ⟨rfl, hend⟩


set_option maxRecDepth 20000 in
set_option maxHeartbeats 1000000 in
theorem nil_walk (i : Int) (b : ByteArray) (w : World) (hb : b.size ≤ 140737488355328) :
    Calls Try.prog 5 #[.int .i64 i, .string b] w fun e w' => e = .returned (.bool true) ∧ Below w.heap.size w w' := by
  have HA := Lib.hid (at_nil i w)
  have HR := Lib.hid (fun w => remove_nil i w)
  go_enter Try.func5, Try.ntmps5
  go_wp2_with fail
  refine (drop_nil _).mono ?_
  rintro e w1 ⟨rfl, hw1⟩; obtain rfl := hw1.symm; clear hw1
  unfold pkE pkV noBytes at HA
  go_wp2_with fail
  refine HA.out.mono ?_
  rintro e w1 ⟨rfl, hb1⟩
  have hb1a := hb1.alloc hb1.size (.cells #[.int .i64 0, .string ⟨#[]⟩] 41)
  have HT := Lib.hid (take_nil i (w1.alloc (.cells #[.int .i64 0, .string ⟨#[]⟩] 41)))
  have HB1 := Lib.hid hb1a
  unfold pkE pkV noBytes at HT
  clear hb1 hb1a
  go_wp2_with fail
  refine HT.out.mono ?_
  rintro e w2 ⟨rfl, hb2⟩
  have hb2a := (HB1.out.trans (hb2.mono HB1.out.size))
  have HB2 := Lib.hid (hb2a.alloc hb2a.size (.cells #[.int .i64 0, .string ⟨#[]⟩] 41))
  clear hb2 hb2a
  obtain ⟨w3, hw3⟩ : ∃ w3, w3 = w2.alloc (.cells #[.int .i64 0, .string ⟨#[]⟩] 41) := ⟨_, rfl⟩
  obtain ⟨cc, wc, hcv, hrd, hbc⟩ := cv_rd b hb w3
  rw [hw3] at hcv
  have HBC := Lib.hid (HB2.out.trans (show Below w.heap.size (w2.alloc (.cells #[.int .i64 0, .string ⟨#[]⟩] 41)) wc from by rw [← hw3]; exact hbc.mono (by rw [hw3]; exact HB2.out.size)))
  have HLO := Lib.hid (lose_nil i wc)
  clear hw3 hrd hbc
  go_wp2_with fail
  refine (counts_nil _).mono ?_
  rintro e w4 ⟨rfl, hw1⟩; obtain rfl := hw1.symm; clear hw1
  go_wp2_with fail
  refine (len_nil _).mono ?_
  rintro e w4 ⟨rfl, hw1⟩; obtain rfl := hw1.symm; clear hw1
  go_wp2_with fail
  refine (send_nil _ _ _).mono ?_
  rintro e w4 ⟨rfl, hw1⟩; obtain rfl := hw1.symm; clear hw1
  go_wp2_with fail
  refine HLO.out.mono ?_
  rintro e w5 ⟨rfl, hb5⟩
  have HB5 := Lib.hid (HBC.out.trans (hb5.mono HBC.out.size))
  clear hb5
  go_wp2_with fail
  refine (twice_nil _ _).mono ?_
  rintro e w4 ⟨rfl, hw1⟩; obtain rfl := hw1.symm; clear hw1
  go_wp2_with fail
  refine (cut_nil _ _ _).mono ?_
  rintro e w4 ⟨rfl, hw1⟩; obtain rfl := hw1.symm; clear hw1
  go_wp2_with fail
  refine (copy_nil _).mono ?_
  rintro e w4 ⟨rfl, hw1⟩; obtain rfl := hw1.symm; clear hw1
  go_wp2_with fail
  refine (known_true _).mono ?_
  rintro e w6 ⟨rfl, hb6⟩
  go_wp2
  go_ret
  exact ⟨rfl, HB5.out.trans (hb6.mono HB5.out.size)⟩
end Go.Proofs.Ythbfeflijlcboaa


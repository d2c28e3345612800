/-
  Contract of the program's Children.
-/
import Derived.Test.YtlockgfokfhokaaDoorG7
namespace Go.Proofs.YtlockgfokfhokaaDoor
open Go.RowKit
set_option linter.unusedVariables false
set_option linter.unusedSimpArgs false

/-- The numbers from A on, i of them. -/
def rng (A i : Nat) : List Int := (List.range i).map (fun j => ((A + j : Nat) : Int))
theorem rng_next (A i : Nat) : rng A (i + 1) = rng A i ++ [((A + i : Nat) : Int)] := by simp [rng, List.range_succ]
theorem rng_length (A i : Nat) : (rng A i).length = i := by simp [rng]

set_option maxRecDepth 20000 in
set_option maxHeartbeats 1000000 in
theorem children_any (N F C U node : Int) (w : World) :
    Calls Tryd.prog 62 #[geo N F C U, .int .i64 node] w fun e w' => (∃ v, e = .returned v ∧ Lf w' w.heap.size v (children N F C U node)) ∧ Below w.heap.size w w' := by
  have hs := starts_any N F C U
  obtain ⟨p1, p2, -⟩ := levels_pre N F C U
  have hlo := levelOf_any (levels N F C U) (levels N F C U).length p1 p2
  have hb0 := (Below.refl w.heap.size w).alloc (Nat.le_refl _) (gbox N F C U)
  obtain ⟨i0, hi, hz0, hz1, hz2⟩ := info_parts Tryd.info3
  rcases level_cases N F C U node with ⟨h1, -, h2, -⟩ | ⟨n, f, j, x, rfl, rfl, rfl, ho, hok, hj, hx1, hx2, h1, hl, -, h2, -, -⟩
  · rw [h2]
    generalize levels N F C U = xs at *
    unfold geo at *
    clear h2 p1 p2
    go_enter Tryd.func62, Tryd.ntmps62
    go_wp2_with fail
    refine (hs _).mono ?_
    rintro e w1 ⟨⟨v, rfl, hv⟩, hb⟩
    have hb1 := hb0.trans (hb.mono (by simp))
    have hlv := hlo v node w1 hv.li
    rw [h1] at hlv
    clear hb hb0 hs hlo h1
    go_wp2_with fail
    refine hlv.mono ?_
    rintro e w2 ⟨rfl, hd⟩
    have hb2 := hb1.trans (hd.below.mono hb1.size)
    clear hd hlv hb1
    go_wp2
    go_ret
    exact ⟨⟨_, rfl, lf_nil _ _⟩, hb2⟩
  · rw [h2]
    rw [hl, lev_length] at hs hlo h1
    clear h2 hl
    have hs8 := S_le ho
    have hsm := @S_mono n f j (H n f + 1) (by omega)
    have f1 := ho.f1
    have f2 := ho.f2
    have hH := (H_spec ho).2.2
    have t3 := stt_length (lev n f (H n f)) (H n f + 1)
    have t0 : ∀ i, i ≤ H n f + 1 → (stt (lev n f (H n f)) (H n f + 1))[i]?.getD 0 = (S n f i : Int) := fun i hi => by
      rw [stt_at (lev n f (H n f)) (H n f + 1) i hi, lev_pre n f (H n f) i hi]
    have hx3 : x ≤ 255 := by have := @S_mono n f (j + 1) (H n f + 1) (by omega); omega
    generalize stt (lev n f (H n f)) (H n f + 1) = L at *
    unfold geo at *
    clear p1 p2
    go_enter Tryd.func62, Tryd.ntmps62
    go_wp2_with fail
    refine (hs _).mono ?_
    rintro e w1 ⟨⟨v, rfl, hv⟩, hb⟩
    have hb1 : Below (w.heap.size + 1) (w.alloc (gbox n f C U)) w1 := hb.mono (by simp)
    have hlv := hlo v x w1 hv.li
    rw [h1] at hlv
    clear hb hs hlo h1
    go_wp2_with fail
    refine hlv.mono ?_
    rintro e w2 ⟨rfl, hd⟩
    have hb2 := hb1.trans (hd.below.mono (by have := hb1.size; simpa using this))
    have hv2 := hv.li.later hd.below
    clear hd hlv hb1 hv
    obtain ⟨c1, c2, c3, c4⟩ := gbox_cells hb2
    have HB := Lib.hid ((hb0.trans (hb2.mono (by omega))))
    have hsz2 : w.heap.size < w2.heap.size := by have := hb2.size; simp at this; omega
    clear hb2 hb0
    cases j with
    | zero =>
      have hR := ch_leaf hx2
      have HR := Lib.hid hR
      clear hR t0
      go_wp2
      go_ret
      exact ⟨⟨_, rfl, by rw [HR.out]; exact lf_nil _ _⟩, HB.out⟩
    | succ k =>
      obtain ⟨e1, e2⟩ := ch_at (by omega) hx1 hx2
      have hch : ch n f x = (List.range (chNG n f x)).map (fun j => ((chA n f x + j : Nat) : Int)) := rfl
      obtain ⟨a, nn, c, rfl, hri⟩ := hv2
      have hnn := hri.len
      rw [t3] at hnn
      subst hnn
      obtain ⟨b, off, rfl, hbl, hc⟩ := hri.at0 (by omega)
      have k1 := hc k (by omega)
      have k2 := hc (k + 1) (by omega)
      rw [t0 k (by omega)] at k1
      rw [t0 (k + 1) (by omega)] at k2
      have hkm := @S_mono n f k (k + 1) (by omega)
      clear hc t0
      rw [e1] at hch
      rw [e2] at hch
      clear e1 e2
      generalize S n f k = z1 at *
      generalize S n f (k + 1) = z2 at *
      generalize S n f (k + 1 + 1) = z3 at *
      generalize H n f = M at *
      have g1 : ((k : Int) + 1 == -1) = false := by rw [beq_eq_false_iff_ne]; omega
      have g2 : ((k : Int) + 1 == 0) = false := by rw [beq_eq_false_iff_ne]; omega
      have i1 : (0 : Int) ≤ (k : Int) := by omega
      have i2 : (k : Int) < (M : Int) + 1 + 1 := by omega
      have i3 : (k : Int) + 1 < (M : Int) + 1 + 1 := by omega
      have wr1 : IntKind.i64.wrap ((k : Int) + 1 - 1) = (k : Int) := by rw [IntWalk.i64_in _ (by omega)]; omega
      have wr2 : IntKind.i64.wrap ((x : Int) - (z2 : Int)) = ((x - z2 : Nat) : Int) := by rw [IntWalk.i64_in _ (by omega)]; omega
      have hd8 : x - z2 ≤ 255 := by omega
      have hdf : (x - z2) * f ≤ 255 * 4 := Nat.mul_le_mul hd8 f2
      generalize x - z2 = d at *
      have wr3 : IntKind.i64.wrap ((d : Int) * (f : Int)) = ((d * f : Nat) : Int) := by
        rw [show (d : Int) * (f : Int) = ((d * f : Nat) : Int) from (Int.natCast_mul d f).symm, IntWalk.i64_in _ (by omega)]
      generalize d * f = df at *
      have wr4 : IntKind.i64.wrap ((z1 : Int) + (df : Int)) = ((z1 + df : Nat) : Int) := by rw [IntWalk.i64_in _ (by omega)]; omega
      have hA8 : z1 + df ≤ 2000 := by omega
      generalize z1 + df = A at *
      have HC := Lib.hid hch
      clear hch hdf
      go_wp2
      go_quiet (fail)
      obtain ⟨w5, h5⟩ : ∃ w5, w5 = w2.drewN nq := ⟨_, rfl⟩
      have d2 : w5.cell? ⟨w.heap.size, 1, none⟩ = some (.int .i64 (f : Int)) := by rw [h5]; exact c2
      have m2 : w5.cell? ⟨b, off + (k + 1), none⟩ = some (.int .i64 (z2 : Int)) := by rw [h5]; exact k2
      have hB5 : Below w.heap.size w w5 := by rw [h5]; exact below_drewN HB.out nq
      have hz5 : w.heap.size < w5.heap.size := by rw [h5]; exact hsz2
      have hb5 : b < w5.heap.size := by rw [h5]; exact hbl
      rw [← h5]
      obtain ⟨K, hK⟩ : ∃ K, K = min f (z2 - A) := ⟨_, rfl⟩
      rw [← hK] at HC
      have hK4 : K ≤ 4 := by omega
      have z28 : z2 ≤ 255 := by omega
      have H5 := Lib.hid hB5
      clear h5 c1 c2 c3 c4 k1 k2 hbl wr1 wr2 wr3 wr4 hB5 HB
      go_wp2
      go_loopw [8, 9] (fun l y wr => ∃ i : Nat, i ≤ K ∧ y = .int .i64 ((A : Int) + (i : Int)) ∧ wr.ownsRow w5.heap.size 3 1 l i (ivs (rng A i)) ∧ Below w5.heap.size w5 wr) (fun _ y _ => A + K - (intOf y).toNat)
      case atStart => exact ⟨0, by omega, by simp, World.ownsRow_nil _ _ _ _, Below.refl _ _⟩
      case round =>
        obtain ⟨i, hi9, rfl, hown, hB⟩ := hrel
        have d2r : wr.cell? ⟨w.heap.size, 1, none⟩ = some (.int .i64 (f : Int)) := by rw [hB.cell hz5]; exact d2
        have m2r : wr.cell? ⟨b, off + (k + 1), none⟩ = some (.int .i64 (z2 : Int)) := by rw [hB.cell hb5]; exact m2
        have wr1 : IntKind.i64.wrap ((A : Int) + (f : Int)) = (A : Int) + (f : Int) := IntWalk.i64_in _ (by omega)
        by_cases hlt : i < K
        · have l1 : (A : Int) + (i : Int) < min ((A : Int) + (f : Int)) (z2 : Int) := by omega
          have HB := Lib.hid hB
          have HO := Lib.hid hown
          have HK := Lib.hid hK
          clear hB hown hK
          go_wp2
          go_quiet (fail)
          obtain ⟨wq, hwq⟩ : ∃ wq, wq = wr.drewN nq := ⟨_, rfl⟩
          have hown : wq.ownsRow w5.heap.size 3 1 u8 i (ivs (rng A i)) := by rw [hwq]; exact HO.out
          have hB : Below w5.heap.size w5 wq := by rw [hwq]; exact below_drewN HB.out nq
          rw [← hwq]
          clear hwq HB HO d2r m2r
          have ho := hown.alloc (.cells #[.int .i64 ((A : Int) + (i : Int))] 3)
          have HB1 := Lib.hid (hB.alloc hB.size (.cells #[.int .i64 ((A : Int) + (i : Int))] 3))
          have HBS := Lib.hid (show w5.heap.size ≤ (wq.alloc (.cells #[.int .i64 ((A : Int) + (i : Int))] 3)).heap.size by simp; have := hB.size; omega)
          have hnx := rng_next A i
          have hcast : ((A + i : Nat) : Int) = (A : Int) + (i : Int) := by omega
          rw [hcast] at hnx
          have HN := Lib.hid hnx
          clear hB hnx hcast
          go_wp2_with (at_builtin; refine wpList_append_i (o := ⟨some 53, _, _, _, _, _⟩) rfl (.tmp 50) (.tmp 52) 46 rfl w5.heap.size i0 Tryd.underlying46 hi hz0 hz1 hz2 _ i _ rfl ho _ rfl rfl (by omega) HBS.out ?_)
          intro v' w6 hown6 hgrow
          rw [← HN.out] at hown6
          have hB6 := HB1.out.grown hgrow HBS.out (fun j hj => (hown.lt j hj).1)
          clear hown ho hgrow
          go_wp2
          go_roundw
          case rel => exact ⟨i + 1, by omega, by simp; omega, hown6, hB6⟩
          case measure => simp [intOf]; omega
        · obtain rfl : i = K := by omega
          have l1 : ¬ ((A : Int) + (i : Int) < min ((A : Int) + (f : Int)) (z2 : Int)) := by omega
          have HB := Lib.hid hB
          have HO := Lib.hid hown
          have HK := Lib.hid hK
          clear hB hown hK
          go_wp2
          go_quiet (fail)
          have hO : (wr.drewN nq).ownsRow w5.heap.size 3 1 u8 i (ivs (rng A i)) := HO.out
          have hfin : Lf (wr.drewN nq) w.heap.size u8 (ch n f x) := by
            rw [HC.out]; exact (lf_owns hO (by omega)).mono (Nat.le_of_lt hz5)
          have hbf : Below w.heap.size w (wr.drewN nq) := H5.out.trans (below_drewN (HB.out.mono (Nat.le_of_lt hz5)) nq)
          have HF := Lib.hid hfin
          clear hfin hO
          go_wp2
          go_ret
          exact ⟨⟨_, rfl, HF.out⟩, hbf⟩

end Go.Proofs.YtlockgfokfhokaaDoor


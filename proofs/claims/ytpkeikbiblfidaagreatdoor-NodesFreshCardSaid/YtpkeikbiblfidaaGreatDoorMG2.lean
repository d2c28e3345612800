/-
  Texts put together: G7, G8, G9, GA, GB, GC.
-/
import Derived.Test.YtpkeikbiblfidaaGreatDoorMG
/-
  Contract of the program's Parent.
-/
namespace Go.Proofs.YtpkeikbiblfidaaGreatDoor
open Go.RowKit
set_option linter.unusedVariables false
set_option linter.unusedSimpArgs false

theorem level_cases (N F C U node : Int) :
    (lvo (pre (levels N F C U)) node (levels N F C U).length 0 = -1 ∧ parent N F C U node = -1 ∧ children N F C U node = [] ∧ ¬ (okG N F C U ∧ 0 ≤ node ∧ node < (nodes N F C U : Int))) ∨
    ∃ n f j x : Nat, N = n ∧ F = f ∧ node = x ∧ Ok n f ∧ okG N F C U ∧ j ≤ H n f ∧ S n f j ≤ x ∧ x < S n f (j + 1) ∧ lvo (pre (levels N F C U)) node (levels N F C U).length 0 = (j : Int) ∧
      levels N F C U = lev n f (H n f) ∧ parent N F C U node = par n f x ∧ children N F C U node = ch n f x ∧ height N F C U = H n f ∧ nodes N F C U = S n f (H n f + 1) := by
  by_cases h : okG N F C U
  · obtain ⟨n, f, rfl, rfl, hh⟩ := ok_of h
    have e : levels n f C U = lev n f (H n f) := by unfold levels; rw [if_pos h]; rfl
    have e2 : nodes n f C U = S n f (H n f + 1) := by unfold nodes; rw [if_pos h]; rfl
    have e3 : height n f C U = H n f := by unfold height; rw [if_pos h]; rfl
    rw [e, lev_length, e2]
    rcases lvo_spec (pre (lev n f (H n f))) node (H n f + 1) 0 with ⟨h1, h2⟩ | ⟨j, h1, h2, h3, h4, h5⟩
    · left
      have hout : ¬ (0 ≤ node ∧ node < (S n f (H n f + 1) : Nat)) := by
        rintro ⟨g1, g2⟩
        have hx := lvl_spec (n := n) (f := f) (x := node.toNat) (by omega)
        refine h2 (lvl n f node.toNat) (Nat.zero_le _) (by omega) ?_
        rw [lev_pre _ _ _ _ (by omega), lev_pre _ _ _ _ (by omega)]
        omega
      refine ⟨h1, ?_, ?_, fun g => hout g.2⟩
      · unfold parent; rw [if_neg (fun g => hout g.2)]
      · unfold children; rw [if_neg (fun g => hout g.2)]
    · right
      rw [lev_pre _ _ _ _ (by omega)] at h4
      rw [lev_pre _ _ _ _ (by omega)] at h5
      have hS := @S_mono n f (j + 1) (H n f + 1) (by omega)
      have hin : okG (n : Int) (f : Int) C U ∧ 0 ≤ node ∧ node < (S n f (H n f + 1) : Nat) := ⟨h, by omega, by omega⟩
      refine ⟨n, f, j, node.toNat, rfl, rfl, by omega, hh, h, by omega, by omega, by omega, h3, rfl, ?_, ?_, e3, rfl⟩
      · exact if_pos hin
      · exact if_pos hin
  · left
    have e : levels N F C U = [] := by unfold levels; rw [if_neg h]
    rw [e]
    refine ⟨rfl, ?_, ?_, fun g => h g.1⟩
    · unfold parent; rw [if_neg (fun g => h g.1)]
    · unfold children; rw [if_neg (fun g => h g.1)]

set_option maxRecDepth 20000 in
set_option maxHeartbeats 1000000 in
theorem parent_any (N F C U node : Int) (w : World) :
    Calls Tryz.prog 115 #[geo N F C U, .int .i64 node] w fun e w' => e = .returned (.int .i64 (parent N F C U node)) ∧ Below w.heap.size w w' := by
  have hs := starts_any N F C U
  have hh := height_any N F C U
  obtain ⟨p1, p2, -⟩ := levels_pre N F C U
  have hlo := levelOf_any (levels N F C U) (levels N F C U).length p1 p2
  have hb0 := (Below.refl w.heap.size w).alloc (Nat.le_refl _) (gbox N F C U)
  rcases level_cases N F C U node with ⟨h1, h2, -⟩ | ⟨n, f, j, x, rfl, rfl, rfl, ho, hok, hj, hx1, hx2, h1, hl, h2, -, h3, -⟩
  · rw [h2]
    generalize levels N F C U = xs at *
    unfold geo at *
    clear h2 hh p1 p2
    go_enter Tryz.func115, Tryz.ntmps115
    go_wp2_with fail
    refine (hs _).mono ?_
    rintro e w1 ⟨⟨v, rfl, hv⟩, hb⟩
    have hb1 := hb0.trans (hb.mono (by simp))
    have hlv := hlo v node w1 hv.li
    rw [h1] at hlv
    clear hb hb0 hs hlo h1
    go_wp2_with fail
    refine hlv.mono ?_
    rintro e w2 ⟨rfl, hd⟩
    have hb2 := hb1.trans (hd.below.mono hb1.size)
    clear hd hlv hb1
    go_wp2
    go_ret
    exact ⟨rfl, hb2⟩
  · rw [h2]
    rw [h3] at hh
    rw [hl, lev_length] at hs hlo h1
    clear h2 h3 hl
    have q1 := lev_pre n f (H n f) j (by omega)
    have q2 := lev_pre n f (H n f) (j + 1) (by omega)
    have hs8 := S_le ho
    have hsm := @S_mono n f (j + 1) (H n f + 1) (by omega)
    have t1 := stt_at (lev n f (H n f)) (H n f + 1) j (by omega)
    have t2 := stt_at (lev n f (H n f)) (H n f + 1) (j + 1) (by omega)
    have t3 := stt_length (lev n f (H n f)) (H n f + 1)
    rw [q1] at t1
    rw [q2] at t2
    generalize stt (lev n f (H n f)) (H n f + 1) = L at *
    have f1 := ho.f1
    have f2 := ho.f2
    have hH := (H_spec ho).2.2
    have hp1 : j = H n f → par n f x = -1 := fun e => by subst e; exact par_top hx1 hx2
    have hp2 : j < H n f → par n f x = ((S n f (j + 1) + (x - S n f j) / f : Nat) : Int) := fun e => par_at e hx1 hx2
    generalize H n f = M at *
    have HP1 := Lib.hid hp1
    have HP2 := Lib.hid hp2
    clear hp1 hp2
    generalize par n f x = R at *
    generalize S n f j = z1 at *
    generalize S n f (j + 1) = z2 at *
    unfold geo at *
    clear p1 p2 q1 q2
    go_enter Tryz.func115, Tryz.ntmps115
    go_wp2_with fail
    refine (hs _).mono ?_
    rintro e w1 ⟨⟨v, rfl, hv⟩, hb⟩
    have hb1 : Below (w.heap.size + 1) (w.alloc (gbox n f C U)) w1 := hb.mono (by simp)
    have hlv := hlo v x w1 hv.li
    rw [h1] at hlv
    clear hb hs hlo h1
    go_wp2_with fail
    refine hlv.mono ?_
    rintro e w2 ⟨rfl, hd⟩
    have hb2 := hb1.trans (hd.below.mono (by have := hb1.size; simpa using this))
    have hv2 := hv.li.later hd.below
    clear hd hlv hb1 hv
    obtain ⟨c1, c2, c3, c4⟩ := gbox_cells hb2
    have j0 : ¬ ((j : Int) = -1) := by omega
    go_wp2_with fail
    refine (hh _).mono ?_
    rintro e w3 ⟨rfl, hb⟩
    have hv3 := hv2.later hb
    have hb3 := hb2.trans (hb.mono (by have := hb2.size; simpa using this))
    clear hb hv2 hb2 hh c1 c2 c3 c4
    obtain ⟨c1, c2, c3, c4⟩ := gbox_cells hb3
    have HB := Lib.hid ((hb0.trans (hb3.mono (by omega))))
    clear hb3 hb0
    by_cases hjM : j = M
    · have hR := HP1.out hjM
      have hjM' : (j : Int) = (M : Int) := by omega
      have HR := Lib.hid hR
      subst hjM
      clear hR hjM'
      go_wp2
      go_ret
      exact ⟨by rw [HR.out]; rfl, HB.out⟩
    · have HR := Lib.hid (HP2.out (by omega))
      have g1 : ((j : Int) == -1) = false := by simp
      have g2 : ((j : Int) == (M : Int)) = false := by simp; omega
      clear j0 hjM
      obtain ⟨a, nn, c, rfl, hri⟩ := hv3
      have hnn := hri.len
      rw [t3] at hnn
      subst hnn
      obtain ⟨b, off, rfl, hbl, hc⟩ := hri.at0 (by omega)
      have k1 := hc j (by omega)
      have k2 := hc (j + 1) (by omega)
      rw [t1] at k1
      rw [t2] at k2
      clear hc t1 t2
      have i1 : (0 : Int) ≤ (j : Int) := by omega
      have i2 : (j : Int) < (M : Int) + 1 + 1 := by omega
      have i3 : (j : Int) + 1 < (M : Int) + 1 + 1 := by omega
      have wr1 : IntKind.i64.wrap ((j : Int) + 1) = (j : Int) + 1 := IntWalk.i64_in _ (by omega)
      have wr2 : IntKind.i64.wrap ((x : Int) - (z1 : Int)) = ((x - z1 : Nat) : Int) := by rw [IntWalk.i64_in _ (by omega)]; omega
      have hd8 : x - z1 ≤ 255 := by omega
      generalize x - z1 = d at *
      have hH' := hH
      go_wp2
      go_quiet (fail)
      have hB4 := below_drewN HB.out nq
      go_wp2
      go_ret
      refine ⟨?_, hB4⟩
      have hdf : (d : Int) / (f : Int) = ((d / f : Nat) : Int) := (Int.natCast_ediv _ _).symm
      have hdl := Nat.div_le_self d f
      rw [HR.out, hdf]
      generalize d / f = dv at *
      refine congrArg (fun x => Ending.returned (Value.int .i64 x)) ?_
      rw [IntWalk.wrap64_in (dv : Int) (by omega), IntWalk.wrap64_in _ (by omega)]
      omega

end Go.Proofs.YtpkeikbiblfidaaGreatDoor
/-
  Contract of the program's Children.
-/
namespace Go.Proofs.YtpkeikbiblfidaaGreatDoor
open Go.RowKit
set_option linter.unusedVariables false
set_option linter.unusedSimpArgs false

/-- The numbers from A on, i of them. -/
def rng (A i : Nat) : List Int := (List.range i).map (fun j => ((A + j : Nat) : Int))
theorem rng_next (A i : Nat) : rng A (i + 1) = rng A i ++ [((A + i : Nat) : Int)] := by simp [rng, List.range_succ]
theorem rng_length (A i : Nat) : (rng A i).length = i := by simp [rng]

set_option maxRecDepth 20000 in
set_option maxHeartbeats 1000000 in
theorem children_any (N F C U node : Int) (w : World) :
    Calls Tryz.prog 149 #[geo N F C U, .int .i64 node] w fun e w' => (∃ v, e = .returned v ∧ Lf w' w.heap.size v (children N F C U node)) ∧ Below w.heap.size w w' := by
  have hs := starts_any N F C U
  obtain ⟨p1, p2, -⟩ := levels_pre N F C U
  have hlo := levelOf_any (levels N F C U) (levels N F C U).length p1 p2
  have hb0 := (Below.refl w.heap.size w).alloc (Nat.le_refl _) (gbox N F C U)
  obtain ⟨i0, hi, hz0, hz1, hz2⟩ := info_parts Tryz.info3
  rcases level_cases N F C U node with ⟨h1, -, h2, -⟩ | ⟨n, f, j, x, rfl, rfl, rfl, ho, hok, hj, hx1, hx2, h1, hl, -, h2, -, -⟩
  · rw [h2]
    generalize levels N F C U = xs at *
    unfold geo at *
    clear h2 p1 p2
    go_enter Tryz.func149, Tryz.ntmps149
    go_wp2_with fail
    refine (hs _).mono ?_
    rintro e w1 ⟨⟨v, rfl, hv⟩, hb⟩
    have hb1 := hb0.trans (hb.mono (by simp))
    have hlv := hlo v node w1 hv.li
    rw [h1] at hlv
    clear hb hb0 hs hlo h1
    go_wp2_with fail
    refine hlv.mono ?_
    rintro e w2 ⟨rfl, hd⟩
    have hb2 := hb1.trans (hd.below.mono hb1.size)
    clear hd hlv hb1
    go_wp2
    go_ret
    exact ⟨⟨_, rfl, lf_nil _ _⟩, hb2⟩
  · rw [h2]
    rw [hl, lev_length] at hs hlo h1
    clear h2 hl
    have hs8 := S_le ho
    have hsm := @S_mono n f j (H n f + 1) (by omega)
    have f1 := ho.f1
    have f2 := ho.f2
    have hH := (H_spec ho).2.2
    have t3 := stt_length (lev n f (H n f)) (H n f + 1)
    have t0 : ∀ i, i ≤ H n f + 1 → (stt (lev n f (H n f)) (H n f + 1))[i]?.getD 0 = (S n f i : Int) := fun i hi => by
      rw [stt_at (lev n f (H n f)) (H n f + 1) i hi, lev_pre n f (H n f) i hi]
    have hx3 : x ≤ 255 := by have := @S_mono n f (j + 1) (H n f + 1) (by omega); omega
    generalize stt (lev n f (H n f)) (H n f + 1) = L at *
    unfold geo at *
    clear p1 p2
    go_enter Tryz.func149, Tryz.ntmps149
    go_wp2_with fail
    refine (hs _).mono ?_
    rintro e w1 ⟨⟨v, rfl, hv⟩, hb⟩
    have hb1 : Below (w.heap.size + 1) (w.alloc (gbox n f C U)) w1 := hb.mono (by simp)
    have hlv := hlo v x w1 hv.li
    rw [h1] at hlv
    clear hb hs hlo h1
    go_wp2_with fail
    refine hlv.mono ?_
    rintro e w2 ⟨rfl, hd⟩
    have hb2 := hb1.trans (hd.below.mono (by have := hb1.size; simpa using this))
    have hv2 := hv.li.later hd.below
    clear hd hlv hb1 hv
    obtain ⟨c1, c2, c3, c4⟩ := gbox_cells hb2
    have HB := Lib.hid ((hb0.trans (hb2.mono (by omega))))
    have hsz2 : w.heap.size < w2.heap.size := by have := hb2.size; simp at this; omega
    clear hb2 hb0
    cases j with
    | zero =>
      have hR := ch_leaf hx2
      have HR := Lib.hid hR
      clear hR t0
      go_wp2
      go_ret
      exact ⟨⟨_, rfl, by rw [HR.out]; exact lf_nil _ _⟩, HB.out⟩
    | succ k =>
      obtain ⟨e1, e2⟩ := ch_at (by omega) hx1 hx2
      have hch : ch n f x = (List.range (chNG n f x)).map (fun j => ((chA n f x + j : Nat) : Int)) := rfl
      obtain ⟨a, nn, c, rfl, hri⟩ := hv2
      have hnn := hri.len
      rw [t3] at hnn
      subst hnn
      obtain ⟨b, off, rfl, hbl, hc⟩ := hri.at0 (by omega)
      have k1 := hc k (by omega)
      have k2 := hc (k + 1) (by omega)
      rw [t0 k (by omega)] at k1
      rw [t0 (k + 1) (by omega)] at k2
      have hkm := @S_mono n f k (k + 1) (by omega)
      clear hc t0
      rw [e1] at hch
      rw [e2] at hch
      clear e1 e2
      generalize S n f k = z1 at *
      generalize S n f (k + 1) = z2 at *
      generalize S n f (k + 1 + 1) = z3 at *
      generalize H n f = M at *
      have g1 : ((k : Int) + 1 == -1) = false := by rw [beq_eq_false_iff_ne]; omega
      have g2 : ((k : Int) + 1 == 0) = false := by rw [beq_eq_false_iff_ne]; omega
      have i1 : (0 : Int) ≤ (k : Int) := by omega
      have i2 : (k : Int) < (M : Int) + 1 + 1 := by omega
      have i3 : (k : Int) + 1 < (M : Int) + 1 + 1 := by omega
      have wr1 : IntKind.i64.wrap ((k : Int) + 1 - 1) = (k : Int) := by rw [IntWalk.i64_in _ (by omega)]; omega
      have wr2 : IntKind.i64.wrap ((x : Int) - (z2 : Int)) = ((x - z2 : Nat) : Int) := by rw [IntWalk.i64_in _ (by omega)]; omega
      have hd8 : x - z2 ≤ 255 := by omega
      have hdf : (x - z2) * f ≤ 255 * 4 := Nat.mul_le_mul hd8 f2
      generalize x - z2 = d at *
      have wr3 : IntKind.i64.wrap ((d : Int) * (f : Int)) = ((d * f : Nat) : Int) := by
        rw [show (d : Int) * (f : Int) = ((d * f : Nat) : Int) from (Int.natCast_mul d f).symm, IntWalk.i64_in _ (by omega)]
      generalize d * f = df at *
      have wr4 : IntKind.i64.wrap ((z1 : Int) + (df : Int)) = ((z1 + df : Nat) : Int) := by rw [IntWalk.i64_in _ (by omega)]; omega
      have hA8 : z1 + df ≤ 2000 := by omega
      generalize z1 + df = A at *
      have HC := Lib.hid hch
      clear hch hdf
      go_wp2
      go_quiet (fail)
      obtain ⟨w5, h5⟩ : ∃ w5, w5 = w2.drewN nq := ⟨_, rfl⟩
      have d2 : w5.cell? ⟨w.heap.size, 1, none⟩ = some (.int .i64 (f : Int)) := by rw [h5]; exact c2
      have m2 : w5.cell? ⟨b, off + (k + 1), none⟩ = some (.int .i64 (z2 : Int)) := by rw [h5]; exact k2
      have hB5 : Below w.heap.size w w5 := by rw [h5]; exact below_drewN HB.out nq
      have hz5 : w.heap.size < w5.heap.size := by rw [h5]; exact hsz2
      have hb5 : b < w5.heap.size := by rw [h5]; exact hbl
      rw [← h5]
      obtain ⟨K, hK⟩ : ∃ K, K = min f (z2 - A) := ⟨_, rfl⟩
      rw [← hK] at HC
      have hK4 : K ≤ 4 := by omega
      have z28 : z2 ≤ 255 := by omega
      have H5 := Lib.hid hB5
      clear h5 c1 c2 c3 c4 k1 k2 hbl wr1 wr2 wr3 wr4 hB5 HB
      go_wp2
      go_loopw [8, 9] (fun l y wr => ∃ i : Nat, i ≤ K ∧ y = .int .i64 ((A : Int) + (i : Int)) ∧ wr.ownsRow w5.heap.size 3 1 l i (ivs (rng A i)) ∧ Below w5.heap.size w5 wr) (fun _ y _ => A + K - (intOf y).toNat)
      case atStart => exact ⟨0, by omega, by simp, World.ownsRow_nil _ _ _ _, Below.refl _ _⟩
      case round =>
        obtain ⟨i, hi9, rfl, hown, hB⟩ := hrel
        have d2r : wr.cell? ⟨w.heap.size, 1, none⟩ = some (.int .i64 (f : Int)) := by rw [hB.cell hz5]; exact d2
        have m2r : wr.cell? ⟨b, off + (k + 1), none⟩ = some (.int .i64 (z2 : Int)) := by rw [hB.cell hb5]; exact m2
        have wr1 : IntKind.i64.wrap ((A : Int) + (f : Int)) = (A : Int) + (f : Int) := IntWalk.i64_in _ (by omega)
        by_cases hlt : i < K
        · have l1 : (A : Int) + (i : Int) < min ((A : Int) + (f : Int)) (z2 : Int) := by omega
          have HB := Lib.hid hB
          have HO := Lib.hid hown
          have HK := Lib.hid hK
          clear hB hown hK
          go_wp2
          go_quiet (fail)
          obtain ⟨wq, hwq⟩ : ∃ wq, wq = wr.drewN nq := ⟨_, rfl⟩
          have hown : wq.ownsRow w5.heap.size 3 1 u8 i (ivs (rng A i)) := by rw [hwq]; exact HO.out
          have hB : Below w5.heap.size w5 wq := by rw [hwq]; exact below_drewN HB.out nq
          rw [← hwq]
          clear hwq HB HO d2r m2r
          have ho := hown.alloc (.cells #[.int .i64 ((A : Int) + (i : Int))] 3)
          have HB1 := Lib.hid (hB.alloc hB.size (.cells #[.int .i64 ((A : Int) + (i : Int))] 3))
          have HBS := Lib.hid (show w5.heap.size ≤ (wq.alloc (.cells #[.int .i64 ((A : Int) + (i : Int))] 3)).heap.size by simp; have := hB.size; omega)
          have hnx := rng_next A i
          have hcast : ((A + i : Nat) : Int) = (A : Int) + (i : Int) := by omega
          rw [hcast] at hnx
          have HN := Lib.hid hnx
          clear hB hnx hcast
          go_wp2_with (at_builtin; refine wpList_append_i (o := ⟨some 53, _, _, _, _, _⟩) rfl (.tmp 50) (.tmp 52) 34 rfl w5.heap.size i0 Tryz.underlying34 hi hz0 hz1 hz2 _ i _ rfl ho _ rfl rfl (by omega) HBS.out ?_)
          intro v' w6 hown6 hgrow
          rw [← HN.out] at hown6
          have hB6 := HB1.out.grown hgrow HBS.out (fun j hj => (hown.lt j hj).1)
          clear hown ho hgrow
          go_wp2
          go_roundw
          case rel => exact ⟨i + 1, by omega, by simp; omega, hown6, hB6⟩
          case measure => simp [intOf]; omega
        · obtain rfl : i = K := by omega
          have l1 : ¬ ((A : Int) + (i : Int) < min ((A : Int) + (f : Int)) (z2 : Int)) := by omega
          have HB := Lib.hid hB
          have HO := Lib.hid hown
          have HK := Lib.hid hK
          clear hB hown hK
          go_wp2
          go_quiet (fail)
          have hO : (wr.drewN nq).ownsRow w5.heap.size 3 1 u8 i (ivs (rng A i)) := HO.out
          have hfin : Lf (wr.drewN nq) w.heap.size u8 (ch n f x) := by
            rw [HC.out]; exact (lf_owns hO (by omega)).mono (Nat.le_of_lt hz5)
          have hbf : Below w.heap.size w (wr.drewN nq) := H5.out.trans (below_drewN (HB.out.mono (Nat.le_of_lt hz5)) nq)
          have HF := Lib.hid hfin
          clear hfin hO
          go_wp2
          go_ret
          exact ⟨⟨_, rfl, HF.out⟩, hbf⟩

end Go.Proofs.YtpkeikbiblfidaaGreatDoor
/-
  Contract of the program's Path.
-/
namespace Go.Proofs.YtpkeikbiblfidaaGreatDoor
open Go.RowKit
set_option linter.unusedVariables false
set_option linter.unusedSimpArgs false

/-- The k-th node of a path, and -1 behind the root. -/
def pv (n f x k : Nat) : Int := if k ≤ H n f then (pth n f x k : Int) else -1
/-- The first i nodes of a path. -/
def pl (n f x i : Nat) : List Int := (List.range i).map (fun k => (pth n f x k : Int))
theorem pl_next (n f x i : Nat) : pl n f x (i + 1) = pl n f x i ++ [(pth n f x i : Int)] := by simp [pl, List.range_succ]
theorem pl_length (n f x i : Nat) : (pl n f x i).length = i := by simp [pl]
def pm (z : Int) : Nat := if z < 0 then 0 else 256 - z.toNat

theorem parent_pth {n f x k : Nat} {C U : Int} (h : Ok n f) (hok : okG n f C U) (hx : x < n) (hk : k ≤ H n f) :
    parent n f C U (pth n f x k) = pv n f x (k + 1) ∧ pth n f x k < 256 ∧ pm (pv n f x (k + 1)) < pm (pth n f x k) := by
  have hp := pth_lt h hx k
  have hs := @S_mono n f (k + 1) (H n f + 1) (by omega)
  have hs8 := S_le h
  have hin : okG (n : Int) (f : Int) C U ∧ 0 ≤ (pth n f x k : Int) ∧ (pth n f x k : Int) < (S n f (H n f + 1) : Nat) := ⟨hok, by omega, by omega⟩
  have e1 : parent n f C U (pth n f x k) = par n f (pth n f x k) := if_pos hin
  by_cases hk2 : k < H n f
  · have hq := pth_lt h hx (k + 1)
    have hs2 := @S_mono n f (k + 2) (H n f + 1) (by omega)
    have e3 : pv n f x (k + 1) = (pth n f x (k + 1) : Int) := if_pos hk2
    refine ⟨?_, by omega, ?_⟩
    · rw [e1, par_at hk2 hp.1 hp.2, e3]
      rfl
    · rw [e3]; unfold pm
      rw [if_neg (by omega), if_neg (by omega)]
      omega
  · obtain rfl : k = H n f := by omega
    have e3 : pv n f x (H n f + 1) = -1 := if_neg (by omega)
    refine ⟨?_, by omega, ?_⟩
    · rw [e1, par_top hp.1 hp.2, e3]
    · rw [e3]; unfold pm
      rw [if_pos (by omega), if_neg (by omega)]
      omega

set_option maxRecDepth 20000 in
set_option maxHeartbeats 1000000 in
theorem path_any (N F C U leaf : Int) (w : World) :
    Calls Tryz.prog 122 #[geo N F C U, .int .i64 leaf] w fun e w' => (∃ v, e = .returned v ∧ Lf w' w.heap.size v (path N F C U leaf)) ∧ Below w.heap.size w w' := by
  have hr := gright_any N F C U
  have hp := fun y => parent_any N F C U y
  obtain ⟨i0, hi, hz0, hz1, hz2⟩ := info_parts Tryz.info3
  have hb0 := (Below.refl w.heap.size w).alloc (Nat.le_refl _) (gbox N F C U)
  by_cases hok : okG N F C U
  · have hd : decide (okG N F C U) = true := by simpa using hok
    rw [hd] at hr
    have hN := hok
    obtain ⟨N1, N2, -⟩ := hN
    by_cases hl : 0 ≤ leaf ∧ leaf < N
    · have hpath : path N F C U leaf = pl N.toNat F.toNat leaf.toNat (H N.toNat F.toNat + 1) := if_pos ⟨hok, hl⟩
      rw [hpath]
      obtain ⟨n, f, rfl, rfl, ho⟩ := ok_of hok
      obtain ⟨l1, l2⟩ := hl
      obtain ⟨x, rfl⟩ : ∃ x : Nat, leaf = x := ⟨leaf.toNat, by omega⟩
      simp only [Int.toNat_natCast]
      have hx : x < n := by omega
      have hH := (H_spec ho).2.2
      have hpp := fun k => parent_pth (k := k) ho hok hx
      have hpv0 : pv n f x 0 = (x : Int) := if_pos (Nat.zero_le _)
      have l3 : (x : Int) ≤ (n : Int) - 1 := by omega
      unfold geo at *
      clear hpath hok hd
      go_enter Tryz.func122, Tryz.ntmps122
      go_wp2_with fail
      refine (hr _).mono ?_
      rintro e w1 ⟨rfl, hb⟩
      have hb1 : Below (w.heap.size + 1) (w.alloc (gbox n f C U)) w1 := hb.mono (by simp)
      obtain ⟨c1, c2, c3, c4⟩ := gbox_cells hb1
      have hwi := within_any (x : Int) 0 ((n : Int) - 1)
      have hwd : decide ((0 : Int) ≤ (x : Int) ∧ (x : Int) ≤ (n : Int) - 1) = true := by rw [decide_eq_true_iff]; omega
      rw [hwd] at hwi
      clear hb hr hwd
      go_wp2_with fail
      refine (hwi _).mono ?_
      rintro e w2 ⟨rfl, hw2⟩
      obtain rfl := hw2.symm
      clear hwi hw2
      go_wp2
      go_loopw [5, 6] (fun l y wr => ∃ i : Nat, i ≤ H n f + 1 ∧ y = .int .i64 (pv n f x i) ∧ wr.ownsRow (w.heap.size + 1) 3 1 l i (ivs (pl n f x i)) ∧ Below (w.heap.size + 1) (w.alloc (gbox n f C U)) wr) (fun _ y _ => pm (intOf y))
      case atStart => exact ⟨0, by omega, by rw [hpv0], World.ownsRow_nil _ _ _ _, hb1⟩
      case round =>
        obtain ⟨i, hi9, rfl, hown, hB⟩ := hrel
        have hbs : w.heap.size + 1 ≤ wr.heap.size := by have := hB.size; simpa using this
        by_cases hlt : i ≤ H n f
        · obtain ⟨e1, e2, e3⟩ := hpp i hlt
          have e4 : pv n f x i = (pth n f x i : Int) := if_pos hlt
          have hnx := pl_next n f x i
          rw [e4]
          generalize hnn : pv n f x (i + 1) = nxt at *
          have HNN := Lib.hid hnn
          clear hnn
          generalize pth n f x i = y at *
          have g1 : ((y : Int) != -1) = true := by rw [bne_iff_ne]; omega
          have ho := hown.alloc (.cells #[.int .i64 (y : Int)] 3)
          have hB1 := hB.alloc hbs (.cells #[.int .i64 (y : Int)] 3)
          have HBS := Lib.hid (show w.heap.size + 1 ≤ (wr.alloc (.cells #[.int .i64 (y : Int)] 3)).heap.size by simp; omega)
          have HN := Lib.hid hnx
          have HPM := Lib.hid e3
          have HE := Lib.hid e4
          have hpy := hp (y : Int)
          rw [e1] at hpy
          clear hnx hB e1 e3 e4 hpp hp
          go_wp2_with (at_builtin; refine wpList_append_i (o := ⟨some 27, _, _, _, _, _⟩) rfl (.tmp 24) (.tmp 26) 34 rfl (w.heap.size + 1) i0 Tryz.underlying34 hi hz0 hz1 hz2 _ i _ rfl ho _ rfl rfl (by omega) HBS.out ?_)
          intro v' w5 hown5 hgrow
          rw [← HN.out] at hown5
          have hB5 := hB1.grown hgrow HBS.out (fun j hj => (hown.lt j hj).1)
          have hbs5 : w.heap.size + 1 ≤ w5.heap.size := by have := hB5.size; simpa using this
          clear hown ho hgrow hB1
          obtain ⟨k1, k2, k3, k4⟩ := gbox_cells hB5
          go_wp2_with fail
          refine (hpy _).mono ?_
          rintro e w6 ⟨rfl, hb6⟩
          have hown6 := hown5.kept (w' := w6) (row := none) ⟨hb6.os, hb6.tape, hb6.output, hb6.size, fun k hk _ => hb6.block k hk⟩ (by
            rcases h : v'.ownBlock with _ | g
            · exact .inl rfl
            · exact .inr (by simp))
          have hB6 := hB5.trans (hb6.mono hbs5)
          clear hown5 hB5 hb6 k1 k2 k3 k4 hpy
          go_wp2
          go_roundw
          case rel => exact ⟨i + 1, by omega, by rw [HNN.out], hown6, hB6⟩
          case measure => simp only [intOf]; exact HPM.out
        · have hi1 : i = H n f + 1 := by omega
          subst hi1
          have e4 : pv n f x (H n f + 1) = -1 := if_neg (by omega)
          rw [e4]
          have hf := lf_owns hown (by omega)
          have HF := Lib.hid (hf.mono (show w.heap.size ≤ w.heap.size + 1 by omega))
          have HB := Lib.hid (hb0.trans (hB.mono (show w.heap.size ≤ w.heap.size + 1 by omega)))
          clear hown hB hf e4
          go_wp2
          go_ret
          exact ⟨⟨_, rfl, HF.out⟩, HB.out⟩
    · have hpath : path N F C U leaf = [] := if_neg (fun h => hl h.2)
      rw [hpath]
      unfold geo at *
      clear hp hpath hok hd
      go_enter Tryz.func122, Tryz.ntmps122
      go_wp2_with fail
      refine (hr _).mono ?_
      rintro e w1 ⟨rfl, hb⟩
      have hb1 : Below (w.heap.size + 1) (w.alloc (gbox N F C U)) w1 := hb.mono (by simp)
      obtain ⟨c1, c2, c3, c4⟩ := gbox_cells hb1
      have HB := Lib.hid (hb0.trans (hb1.mono (by omega)))
      clear hb hb1 hr
      by_cases l1 : 0 ≤ leaf
      · have l2 : ¬ (leaf ≤ N - 1) := by omega
        clear hl
        go_wp2
        all_goals first
          | (exfalso
             have h9 : (!decide (leaf ≤ N - 1)) = false := by assumption
             simp at h9
             omega)
          | (go_ret
             exact ⟨⟨_, rfl, lf_nil _ _⟩, HB.out⟩)
      · clear hl
        go_wp2
        go_ret
        exact ⟨⟨_, rfl, lf_nil _ _⟩, HB.out⟩
  · have hd : decide (okG N F C U) = false := by simpa using hok
    have hpath : path N F C U leaf = [] := if_neg (fun h => hok h.1)
    rw [hd] at hr
    rw [hpath]
    unfold geo at *
    clear hp hpath hok hd
    go_enter Tryz.func122, Tryz.ntmps122
    go_wp2_with fail
    refine (hr _).mono ?_
    rintro e w1 ⟨rfl, hb⟩
    have hb1 : Below (w.heap.size + 1) (w.alloc (gbox N F C U)) w1 := hb.mono (by simp)
    have HB := Lib.hid (hb0.trans (hb1.mono (by omega)))
    clear hb hb1 hr
    go_wp2
    go_ret
    exact ⟨⟨_, rfl, lf_nil _ _⟩, HB.out⟩

end Go.Proofs.YtpkeikbiblfidaaGreatDoor
/-
  Contract of the reference's Children.
-/
namespace Go.Proofs.YtpkeikbiblfidaaGreatDoor
open Go.RowKit
set_option linter.unusedVariables false
set_option linter.unusedSimpArgs false

theorem children_in {n f : Nat} {C U node : Int} (h : Ok n f) (hok : okG n f C U) (i : Nat) (hi : i < H n f) (h1 : (S n f (i + 1) : Int) ≤ node) (h2 : node < (S n f (i + 2) : Int)) :
    ∃ x : Nat, node = x ∧ S n f (i + 1) ≤ x ∧ x ≤ 255 ∧ children n f C U node = rng (S n f i + (x - S n f (i + 1)) * f) (min f (q n f i - (x - S n f (i + 1)) * f)) := by
  have hm := @S_mono n f (i + 2) (H n f + 1) (by omega)
  have h8 := S_le h
  have hin : okG (n : Int) (f : Int) C U ∧ 0 ≤ node ∧ node < (S n f (H n f + 1) : Nat) := ⟨hok, by omega, by omega⟩
  have e : children n f C U node = ch n f node.toNat := if_pos hin
  obtain ⟨e1, e2⟩ := ch_at (n := n) (f := f) (x := node.toNat) (k := i) hi (by omega) (by omega)
  have e3 : S n f (i + 1) = S n f i + q n f i := rfl
  refine ⟨node.toNat, by omega, by omega, by omega, ?_⟩
  rw [e]
  unfold ch rng
  rw [e1, e2]
  congr 2
  omega

theorem children_out {n f : Nat} {C U node : Int} (h : Ok n f) (hno : ∀ i, i < H n f → ¬ ((S n f (i + 1) : Int) ≤ node ∧ node < (S n f (i + 2) : Int))) : children n f C U node = [] := by
  by_cases hin : okG (n : Int) (f : Int) C U ∧ 0 ≤ node ∧ node < (S n f (H n f + 1) : Nat)
  · have e : children n f C U node = ch n f node.toNat := if_pos hin
    have hl := lvl_spec (n := n) (f := f) (x := node.toNat) (by omega)
    rw [e]
    rcases Nat.eq_zero_or_pos (lvl n f node.toNat) with h0 | h0
    · refine ch_leaf ?_
      rw [h0] at hl
      exact hl.2.2
    · obtain ⟨k, hk⟩ : ∃ k, lvl n f node.toNat = k + 1 := ⟨lvl n f node.toNat - 1, by omega⟩
      rw [hk] at hl
      have l1 : S n f (k + 1) ≤ node.toNat := hl.2.1
      have l2 : node.toNat < S n f (k + 2) := hl.2.2
      exact absurd ⟨by omega, by omega⟩ (hno k (by omega))
  · exact if_neg hin

set_option maxRecDepth 20000 in
set_option maxHeartbeats 1000000 in
theorem rchildren_any (N F C U node : Int) (w : World) :
    Calls Tryz.prog 120 #[geo N F C U, .int .i64 node] w fun e w' => (∃ v, e = .returned v ∧ Lf w' w.heap.size v (children N F C U node)) ∧ Below w.heap.size w w' := by
  have hr := rlevels_any N F C U
  obtain ⟨i0, hi, hz0, hz1, hz2⟩ := info_parts Tryz.info3
  have hb0 := (Below.refl w.heap.size w).alloc (Nat.le_refl _) (gbox N F C U)
  by_cases hok : okG N F C U
  · obtain ⟨n, f, rfl, rfl, ho⟩ := ok_of hok
    have e : levels n f C U = lev n f (H n f) := if_pos hok
    rw [e] at hr
    have hin := fun i => children_in (node := node) ho hok i
    have hout := children_out (C := C) (U := U) (node := node) ho
    have hH := (H_spec ho).2.2
    have f1 := ho.f1
    have f2 := ho.f2
    have h8 := S_le ho
    have hq := lev_at n f (H n f)
    have hln := lev_length n f (H n f)
    have hq8 := q_le ho
    generalize children n f C U node = CH at *
    unfold geo at *
    clear e hok
    go_enter Tryz.func120, Tryz.ntmps120
    go_wp2_with fail
    refine (hr _).mono ?_
    rintro e w1 ⟨⟨v, rfl, a, nn, c, rfl, hri, -⟩, hb⟩
    have hb1 : Below (w.heap.size + 1) (w.alloc (gbox n f C U)) w1 := hb.mono (by simp)
    have hnn := hri.len
    rw [hln] at hnn
    subst hnn
    obtain ⟨b, off, rfl, hbl, hc⟩ := hri.at0 (by omega)
    obtain ⟨c1, c2, c3, c4⟩ := gbox_cells hb1
    have hsz : w.heap.size < w1.heap.size := by have := hb1.size; simp at this; omega
    have HB := Lib.hid (hb0.trans (hb1.mono (by omega)))
    clear hb hb1 hr hri hb0
    go_wp2
    go_loopw [7, 6] (fun y z wr => ∃ i : Nat, i ≤ H n f ∧ y = .int .i64 (i : Int) ∧ z = .int .i64 (S n f i : Int) ∧ (∀ j, j < i → ¬ ((S n f (j + 1) : Int) ≤ node ∧ node < (S n f (j + 2) : Int))) ∧ wr = w1) (fun y _ _ => H n f - (intOf y).toNat)
    case atStart => exact ⟨0, by omega, rfl, rfl, fun j hj => by omega, rfl⟩
    case round =>
      obtain ⟨i, hi9, rfl, rfl, hno, hw⟩ := hrel
      obtain rfl := hw.symm
      clear hw
      by_cases hlt : i < H n f
      · have k1 := hc i (by omega)
        have k2 := hc (i + 1) (by omega)
        rw [hq i (by omega)] at k1
        rw [hq (i + 1) (by omega)] at k2
        have i1 : (0 : Int) ≤ (i : Int) := by omega
        have i2 : (i : Int) + 1 < ((H n f : Nat) : Int) + 1 := by omega
        have i3 : (i : Int) < ((H n f : Nat) : Int) + 1 := by omega
        have s1 : S n f (i + 1) = S n f i + q n f i := rfl
        have s2 : S n f (i + 2) = S n f (i + 1) + q n f (i + 1) := rfl
        have hm := @S_mono n f (i + 2) (H n f + 1) (by omega)
        have hini := hin i hlt
        have hqi := hq8 i
        have hno2 : ¬ ((S n f (i + 1) : Int) ≤ node ∧ node < (S n f (i + 2) : Int)) → ∀ j, j < i + 1 → ¬ ((S n f (j + 1) : Int) ≤ node ∧ node < (S n f (j + 2) : Int)) := fun h j hj => by
          by_cases e : j = i
          · subst e; exact h
          · exact hno j (by omega)
        clear hno hin hout hc hq hln hq8
        rw [s1] at s2
        rw [s1, s2] at hini hno2
        rw [s2] at hm
        have HS1 := Lib.hid s1
        generalize hHH : H n f = M at *
        have HHH := Lib.hid hHH
        clear hHH s1 s2
        generalize q n f i = qi at *
        generalize q n f (i + 1) = qn at *
        have HN := Lib.hid hno2
        have HI := Lib.hid hini
        clear hno2 hini
        generalize hz : S n f i = z0 at *
        have HZ := Lib.hid hz
        clear hz
        by_cases h1 : (z0 : Int) + (qi : Int) ≤ node
        · by_cases h2 : node < (z0 : Int) + (qi : Int) + (qn : Int)
          · obtain ⟨x, rfl, hx1, hx2, hCH⟩ := HI.out (by omega) (by omega)
            clear HI HN HS1
            have hd : (x : Int) - ((z0 : Int) + (qi : Int)) = ((x - (z0 + qi) : Nat) : Int) := by omega
            have hd8 : x - (z0 + qi) ≤ 255 := by omega
            have hdf : (x - (z0 + qi)) * f ≤ 255 * 4 := Nat.mul_le_mul hd8 f2
            generalize x - (z0 + qi) = d at *
            have hmul : (d : Int) * (f : Int) = ((d * f : Nat) : Int) := (Int.natCast_mul d f).symm
            generalize d * f = D at *
            have hszr : w.heap.size ≤ w1.heap.size := Nat.le_of_lt hsz
            have HC := Lib.hid hCH
            clear hCH
            go_wp2
            go_loopw [10, 9] (fun y l w' => ∃ k : Nat, k ≤ f ∧ y = .int .i64 (k : Int) ∧ w'.ownsRow w1.heap.size 3 1 l (min k (qi - D)) (ivs (rng (z0 + D) (min k (qi - D)))) ∧ Below w1.heap.size w1 w') (fun y _ _ => f - (intOf y).toNat)
            case atStart => exact ⟨0, by omega, rfl, by simpa [rng, ivs] using World.ownsRow_nil _ _ _ _, Below.refl _ _⟩
            case round =>
              obtain ⟨k, hk9, rfl, hown, hBw⟩ := hrel
              have d2 : wr.cell? ⟨w.heap.size, 1, none⟩ = some (.int .i64 (f : Int)) := by rw [hBw.cell hsz]; exact c2
              have d3 : wr.cell? ⟨b, off + i, none⟩ = some (.int .i64 (qi : Int)) := by rw [hBw.cell hbl]; exact k1
              have HBw := Lib.hid hBw
              by_cases hkf : k < f
              · have j0 : (k : Int) < (f : Int) := by omega
                by_cases hkq : D + k < qi
                · have j1 : (D : Int) + (k : Int) < (qi : Int) := by omega
                  have e1 : min k (qi - D) = k := by omega
                  have e2 : min (k + 1) (qi - D) = k + 1 := by omega
                  have hnx := rng_next (z0 + D) k
                  have hcast : ((z0 + D + k : Nat) : Int) = (z0 : Int) + ((D : Int) + (k : Int)) := by omega
                  rw [hcast] at hnx
                  rw [e1] at hown
                  have ho := hown.alloc (.cells #[.int .i64 ((z0 : Int) + ((D : Int) + (k : Int)))] 3)
                  have hB1 := hBw.alloc hBw.size (.cells #[.int .i64 ((z0 : Int) + ((D : Int) + (k : Int)))] 3)
                  have HBS := Lib.hid (show w1.heap.size ≤ (wr.alloc (.cells #[.int .i64 ((z0 : Int) + ((D : Int) + (k : Int)))] 3)).heap.size by simp; have := hBw.size; omega)
                  have HN := Lib.hid hnx
                  have HE2 := Lib.hid e2
                  clear hnx hcast e1 e2 hBw
                  go_wp2_with (at_builtin; refine wpList_append_i (o := ⟨some 66, _, _, _, _, _⟩) rfl (.tmp 61) (.tmp 65) 34 rfl w1.heap.size i0 Tryz.underlying34 hi hz0 hz1 hz2 _ k _ rfl ho _ rfl rfl (by omega) HBS.out ?_)
                  intro v' w5 hown5 hgrow
                  rw [← HN.out] at hown5
                  have hB5 := hB1.grown hgrow HBS.out (fun j hj => (hown.lt j hj).1)
                  clear hown ho hgrow hB1 d2 d3
                  go_wp2
                  go_roundw
                  case rel => exact ⟨k + 1, by omega, by go_num, by rw [HE2.out]; exact hown5, hB5⟩
                  case measure => simp [intOf]; omega
                · have j1 : ¬ ((D : Int) + (k : Int) < (qi : Int)) := by omega
                  have e2 : min (k + 1) (qi - D) = min k (qi - D) := by omega
                  have HO := Lib.hid hown
                  have HE2 := Lib.hid e2
                  clear hown e2 hBw
                  go_wp2
                  go_roundw
                  case rel => exact ⟨k + 1, by omega, by go_num, by rw [HE2.out]; exact HO.out, HBw.out⟩
                  case measure => simp [intOf]; omega
              · obtain rfl : k = f := by omega
                have hfin := (lf_owns hown (by omega)).mono hszr
                rw [← HC.out] at hfin
                have HF := Lib.hid hfin
                have HBf := Lib.hid (HB.out.trans (hBw.mono hszr))
                clear hown hfin hBw
                go_wp2
                go_ret
                exact ⟨⟨_, rfl, HF.out⟩, HBf.out⟩
          · have HN2 := Lib.hid (HN.out (by omega))
            clear HI HN
            go_wp2
            go_roundw
            case rel => exact ⟨i + 1, by omega, by go_num, by rw [HS1.out]; go_num, HN2.out, by first | rfl | trivial⟩
            case measure => simp [intOf]; omega
        · have HN2 := Lib.hid (HN.out (by omega))
          clear HI HN
          go_wp2
          go_roundw
          case rel => exact ⟨i + 1, by omega, by go_num, by rw [HS1.out]; go_num, HN2.out, by first | rfl | trivial⟩
          case measure => simp [intOf]; omega
      · obtain rfl : i = H n f := by omega
        have hCH := hout hno
        clear hout hin hno
        go_wp2
        go_ret
        exact ⟨⟨_, rfl, by rw [hCH]; exact lf_nil _ _⟩, HB.out⟩
  · have e : levels N F C U = [] := if_neg hok
    have e2 : children N F C U node = [] := if_neg (fun h => hok h.1)
    rw [e] at hr
    rw [e2]
    unfold geo at *
    clear e e2 hok
    go_enter Tryz.func120, Tryz.ntmps120
    go_wp2_with fail
    refine (hr _).mono ?_
    rintro e w1 ⟨⟨v, rfl, a, nn, c, rfl, hri, -⟩, hb⟩
    have hb1 : Below w.heap.size w w1 := hb0.trans (hb.mono (by simp))
    have hnn := hri.len
    obtain rfl : nn = 0 := by simpa using hnn.symm
    clear hb hr hri hb0 hnn
    go_wp2
    go_loopw [7] (fun y wr => y = .int .i64 0 ∧ wr = w1) (fun _ _ => 0)
    case atStart => exact ⟨rfl, rfl⟩
    case round =>
      obtain ⟨rfl, rfl⟩ := hrel
      go_wp2
      go_ret
      exact ⟨⟨_, rfl, lf_nil _ _⟩, hb1⟩

end Go.Proofs.YtpkeikbiblfidaaGreatDoor
/-
  Contract of the reference's Parent.
-/
namespace Go.Proofs.YtpkeikbiblfidaaGreatDoor
open Go.RowKit
set_option linter.unusedVariables false
set_option linter.unusedSimpArgs false

theorem ch_mem {n f k : Nat} (i : Nat) : i < (ch n f k).length → (ch n f k)[i]?.getD 0 = ((chA n f k + i : Nat) : Int) ∧ i < chNG n f k := by
  intro h
  have h' : i < chNG n f k := by simpa [ch] using h
  exact ⟨by simp [ch, List.getElem?_map, List.getElem?_range h'], h'⟩

theorem chA_top {n f k : Nat} (h : Ok n f) (hk : k < S n f (H n f + 1)) (j : Nat) (hj : j < chNG n f k) : chA n f k + j < S n f (H n f + 1) := by
  obtain ⟨a1, a2, a3⟩ := lvl_spec hk
  have hm := @S_mono n f (lvl n f k) (H n f + 1) (by omega)
  unfold chNG at hj
  split at hj <;> omega

theorem parent_child {N F C U : Int} {node : Int} {k i : Nat} (hk : k < nodes N F C U) (hi : i < (children N F C U k).length) (he : (children N F C U k)[i]?.getD 0 = node) : parent N F C U node = (k : Int) := by
  by_cases hok : okG N F C U
  · obtain ⟨n, f, rfl, rfl, ho⟩ := ok_of hok
    have e2 : nodes n f C U = S n f (H n f + 1) := if_pos hok
    rw [e2] at hk
    have hin : okG (n : Int) (f : Int) C U ∧ 0 ≤ (k : Int) ∧ (k : Int) < (S n f (H n f + 1) : Nat) := ⟨hok, by omega, by omega⟩
    have e : children n f C U k = ch n f k := if_pos hin
    rw [e] at hi he
    obtain ⟨h1, h2⟩ := ch_mem i hi
    rw [h1] at he
    subst he
    have h3 := chA_top ho hk i h2
    have hin2 : okG (n : Int) (f : Int) C U ∧ 0 ≤ ((chA n f k + i : Nat) : Int) ∧ ((chA n f k + i : Nat) : Int) < (S n f (H n f + 1) : Nat) := ⟨hok, by omega, by omega⟩
    have e3 : parent n f C U ((chA n f k + i : Nat) : Int) = par n f (chA n f k + i) := if_pos hin2
    rw [e3]
    exact (family ho hk h3).1 ⟨by omega, by omega⟩
  · have e2 : nodes N F C U = 0 := if_neg hok
    omega

theorem parent_none {N F C U : Int} {node : Int} (hno : ∀ k, k < nodes N F C U → ∀ i, i < (children N F C U k).length → (children N F C U k)[i]?.getD 0 ≠ node) : parent N F C U node = -1 := by
  rcases level_cases N F C U node with ⟨-, h2, -⟩ | ⟨n, f, j, x, rfl, rfl, rfl, ho, hok, hj, hx1, hx2, -, -, h2, -, -, h4⟩
  · exact h2
  · rw [h2]
    by_cases hjH : j = H n f
    · subst hjH; exact par_top hx1 hx2
    · exfalso
      have hp := par_at (by omega) hx1 hx2
      have hlt := par_lt ho hx1 hx2
      generalize S n f (j + 1) + (x - S n f j) / f = p at *
      have hm := @S_mono n f (j + 2) (H n f + 1) (by omega)
      have hm2 := @S_mono n f (j + 1) (H n f + 1) (by omega)
      have hpl : p < S n f (H n f + 1) := by omega
      obtain ⟨c1, c2⟩ := (family ho hpl (by omega)).2 hp
      have hin : okG (n : Int) (f : Int) C U ∧ 0 ≤ (p : Int) ∧ (p : Int) < (S n f (H n f + 1) : Nat) := ⟨hok, by omega, by omega⟩
      have e : children n f C U p = ch n f p := if_pos hin
      have hl : (ch n f p).length = chNG n f p := by simp [ch]
      have := hno p (by omega) (x - chA n f p) (by rw [e, hl]; omega)
      rw [e] at this
      have h1 := (ch_mem (n := n) (f := f) (k := p) (x - chA n f p) (by omega)).1
      rw [h1] at this
      exact this (by omega)

theorem children_len (N F C U node : Int) : (children N F C U node).length ≤ 4 := by
  unfold children
  split
  · rename_i h
    obtain ⟨n, f, rfl, rfl, ho⟩ := ok_of h.1
    have := ho.f2
    simp only [Int.toNat_natCast, ch, List.length_map, List.length_range]
    unfold chNG
    split <;> omega
  · simp

theorem nodes_le (N F C U : Int) : nodes N F C U ≤ 255 := by have := levels_pre N F C U; have := this.2.1 _ (Nat.le_refl _); omega

set_option maxRecDepth 20000 in
set_option maxHeartbeats 1000000 in
theorem rparent_any (N F C U node : Int) (w : World) :
    Calls Tryz.prog 152 #[geo N F C U, .int .i64 node] w fun e w' => e = .returned (.int .i64 (parent N F C U node)) ∧ Below w.heap.size w w' := by
  have hr := rnodes_any N F C U
  have hch := fun k => rchildren_any N F C U k
  have hb0 := (Below.refl w.heap.size w).alloc (Nat.le_refl _) (gbox N F C U)
  have hfound := fun k i => parent_child (N := N) (F := F) (C := C) (U := U) (node := node) (k := k) (i := i)
  have hnone := parent_none (N := N) (F := F) (C := C) (U := U) (node := node)
  have hcl := children_len N F C U
  have hnl := nodes_le N F C U
  generalize nodes N F C U = M at *
  generalize parent N F C U node = R at *
  generalize children N F C U = CH at *
  unfold geo at *
  go_enter Tryz.func152, Tryz.ntmps152
  go_wp2_with fail
  refine (hr _).mono ?_
  rintro e w1 ⟨rfl, hb⟩
  have hb1 : Below (w.heap.size + 1) (w.alloc (gbox N F C U)) w1 := hb.mono (by simp)
  clear hb hr
  go_wp2
  go_loopw [6] (fun y wr => ∃ k : Nat, k ≤ M ∧ y = .int .i64 (k : Int) ∧ (∀ j, j < k → ∀ i, i < (CH j).length → (CH j)[i]?.getD 0 ≠ node) ∧ Below (w.heap.size + 1) (w.alloc (gbox N F C U)) wr) (fun y _ => M - (intOf y).toNat)
  case atStart => exact ⟨0, by omega, rfl, fun j hj => by omega, hb1⟩
  case round =>
    obtain ⟨k, hk9, rfl, hno, hB⟩ := hrel
    by_cases hlt : k < M
    · obtain ⟨c1, c2, c3, c4⟩ := gbox_cells hB
      have hck := hch (k : Int)
      have hsz : w.heap.size + 1 ≤ wr.heap.size := by have := hB.size; simpa using this
      have HNO := Lib.hid hno
      have HF := Lib.hid (hfound k)
      have hcl4 := hcl (k : Int)
      have HB := Lib.hid hB
      clear hno hch hnone hfound hB
      go_wp2_with fail
      refine (hck _).mono ?_
      rintro e w2 ⟨⟨v, rfl, a, m, c, rfl, hri, -⟩, hb2⟩
      have hB2 := HB.out.trans (hb2.mono hsz)
      have hm := hri.len
      have HB2 := Lib.hid hB2
      clear hb2 HB c1 c2 c3 c4 hck hB2
      go_wp2
      go_loopw [8] (fun y w' => ∃ i : Nat, i ≤ m ∧ y = .int .i64 (i : Int) ∧ (∀ j, j < i → (CH k)[j]?.getD 0 ≠ node) ∧ w' = w2) (fun y _ => m - (intOf y).toNat)
      case atStart => exact ⟨0, by omega, rfl, fun j hj => by omega, rfl⟩
      case round =>
        obtain ⟨i, hi9, rfl, hno, hw⟩ := hrel
        obtain rfl := hw.symm
        by_cases hlt2 : i < m
        · obtain ⟨b, off, rfl, hbl, hc⟩ := hri.at0 (by omega)
          have hci := hc i hlt2
          have hno2 : (CH k)[i]?.getD 0 ≠ node → ∀ j, j < i + 1 → (CH k)[j]?.getD 0 ≠ node := fun h j hj => by
            by_cases e : j = i
            · subst e; exact h
            · exact hno j (by omega)
          have hfi := HF.out i hlt (by omega)
          have i1 : (0 : Int) ≤ (i : Int) := by omega
          have i2 : (i : Int) < (m : Int) := by omega
          have hm4 : m ≤ 4 := by omega
          have HM := Lib.hid hm
          clear hno hc hw hm
          generalize (CH k)[i]?.getD 0 = z at *
          by_cases hz : z = node
          · have hR := hfi hz
            have HR := Lib.hid hR
            subst hz
            clear hfi hno2 hR
            go_wp2
            go_ret
            exact ⟨by rw [HR.out]; rfl, HB2.out.mono (by omega) |> fun h => (hb0.trans h)⟩
          · have HN2 := Lib.hid (hno2 hz)
            have hz2 : (z == node) = false := by simpa using hz
            clear hno2 hfi hz
            go_wp2
            go_roundw
            case rel => exact ⟨i + 1, by omega, by go_num, HN2.out, by first | rfl | trivial⟩
            case measure => simp [intOf]; omega
        · obtain rfl : i = m := by omega
          have hno2 : ∀ j, j < k + 1 → ∀ i, i < (CH j).length → (CH j)[i]?.getD 0 ≠ node := fun j hj i' hi' => by
            by_cases e : j = k
            · subst e; exact hno i' (by omega)
            · exact HNO.out j (by omega) i' hi'
          have HN2 := Lib.hid hno2
          clear hno2 hno hw HNO
          go_wp2
          go_roundw
          case rel => exact ⟨k + 1, by omega, by go_num, HN2.out, HB2.out⟩
          case measure => simp [intOf]; omega
    · obtain rfl : k = M := by omega
      have HR := Lib.hid (hnone hno)
      clear hno hnone hfound hch
      go_wp2
      go_ret
      exact ⟨by rw [HR.out]; rfl, hb0.trans (hB.mono (by omega))⟩

end Go.Proofs.YtpkeikbiblfidaaGreatDoor
/-
  Contract of the reference's Path.
-/
namespace Go.Proofs.YtpkeikbiblfidaaGreatDoor
open Go.RowKit
set_option linter.unusedVariables false
set_option linter.unusedSimpArgs false

set_option maxRecDepth 20000 in
set_option maxHeartbeats 1000000 in
theorem rpath_any (N F C U leaf : Int) (w : World) :
    Calls Tryz.prog 126 #[geo N F C U, .int .i64 leaf] w fun e w' => (∃ v, e = .returned v ∧ Lf w' w.heap.size v (path N F C U leaf)) ∧ Below w.heap.size w w' := by
  have hr := grright_any N F C U
  have hp := fun y => rparent_any N F C U y
  obtain ⟨i0, hi, hz0, hz1, hz2⟩ := info_parts Tryz.info3
  have hb0 := (Below.refl w.heap.size w).alloc (Nat.le_refl _) (gbox N F C U)
  by_cases hok : okG N F C U
  · have hd : decide (okG N F C U) = true := by simpa using hok
    rw [hd] at hr
    have hN := hok
    obtain ⟨N1, N2, -⟩ := hN
    by_cases hl : 0 ≤ leaf ∧ leaf < N
    · have hpath : path N F C U leaf = pl N.toNat F.toNat leaf.toNat (H N.toNat F.toNat + 1) := if_pos ⟨hok, hl⟩
      rw [hpath]
      obtain ⟨n, f, rfl, rfl, ho⟩ := ok_of hok
      obtain ⟨l1, l2⟩ := hl
      obtain ⟨x, rfl⟩ : ∃ x : Nat, leaf = x := ⟨leaf.toNat, by omega⟩
      simp only [Int.toNat_natCast]
      have hx : x < n := by omega
      have hH := (H_spec ho).2.2
      have hpp := fun k => parent_pth (k := k) ho hok hx
      have hpv0 : pv n f x 0 = (x : Int) := if_pos (Nat.zero_le _)
      have l3 : (x : Int) ≤ (n : Int) - 1 := by omega
      unfold geo at *
      clear hpath hok hd
      go_enter Tryz.func126, Tryz.ntmps126
      go_wp2_with fail
      refine (hr _).mono ?_
      rintro e w1 ⟨rfl, hb⟩
      have hb1 : Below (w.heap.size + 1) (w.alloc (gbox n f C U)) w1 := hb.mono (by simp)
      obtain ⟨c1, c2, c3, c4⟩ := gbox_cells hb1
      clear hb hr
      go_wp2
      simp only [show decide ((x : Int) < 0) = false from decide_eq_false (by omega), show decide (n ≤ x) = false from decide_eq_false (by omega), Bool.or_self]
      go_loopw [5, 6] (fun l y wr => ∃ i : Nat, i ≤ H n f + 1 ∧ y = .int .i64 (pv n f x i) ∧ wr.ownsRow (w.heap.size + 1) 3 1 l i (ivs (pl n f x i)) ∧ Below (w.heap.size + 1) (w.alloc (gbox n f C U)) wr) (fun _ y _ => pm (intOf y))
      case atStart => exact ⟨0, by omega, by rw [hpv0], World.ownsRow_nil _ _ _ _, hb1⟩
      case round =>
        obtain ⟨i, hi9, rfl, hown, hB⟩ := hrel
        have hbs : w.heap.size + 1 ≤ wr.heap.size := by have := hB.size; simpa using this
        by_cases hlt : i ≤ H n f
        · obtain ⟨e1, e2, e3⟩ := hpp i hlt
          have e4 : pv n f x i = (pth n f x i : Int) := if_pos hlt
          have hnx := pl_next n f x i
          rw [e4]
          generalize hnn : pv n f x (i + 1) = nxt at *
          have HNN := Lib.hid hnn
          clear hnn
          generalize pth n f x i = y at *
          have g1 : (0 : Int) ≤ (y : Int) := by omega
          have ho := hown.alloc (.cells #[.int .i64 (y : Int)] 3)
          have hB1 := hB.alloc hbs (.cells #[.int .i64 (y : Int)] 3)
          have HBS := Lib.hid (show w.heap.size + 1 ≤ (wr.alloc (.cells #[.int .i64 (y : Int)] 3)).heap.size by simp; omega)
          have HN := Lib.hid hnx
          have HPM := Lib.hid e3
          have HE := Lib.hid e4
          have hpy := hp (y : Int)
          rw [e1] at hpy
          clear hnx hB e1 e3 e4 hpp hp
          go_wp2_with (at_builtin; refine wpList_append_i (o := ⟨some 29, _, _, _, _, _⟩) rfl (.tmp 26) (.tmp 28) 34 rfl (w.heap.size + 1) i0 Tryz.underlying34 hi hz0 hz1 hz2 _ i _ rfl ho _ rfl rfl (by omega) HBS.out ?_)
          intro v' w5 hown5 hgrow
          rw [← HN.out] at hown5
          have hB5 := hB1.grown hgrow HBS.out (fun j hj => (hown.lt j hj).1)
          have hbs5 : w.heap.size + 1 ≤ w5.heap.size := by have := hB5.size; simpa using this
          clear hown ho hgrow hB1
          obtain ⟨k1, k2, k3, k4⟩ := gbox_cells hB5
          go_wp2_with fail
          refine (hpy _).mono ?_
          rintro e w6 ⟨rfl, hb6⟩
          have hown6 := hown5.kept (w' := w6) (row := none) ⟨hb6.os, hb6.tape, hb6.output, hb6.size, fun k hk _ => hb6.block k hk⟩ (by
            rcases h : v'.ownBlock with _ | g
            · exact .inl rfl
            · exact .inr (by simp))
          have hB6 := hB5.trans (hb6.mono hbs5)
          clear hown5 hB5 hb6 k1 k2 k3 k4 hpy
          go_wp2
          go_roundw
          case rel => exact ⟨i + 1, by omega, by rw [HNN.out], hown6, hB6⟩
          case measure => simp only [intOf]; exact HPM.out
        · have hi1 : i = H n f + 1 := by omega
          subst hi1
          have e4 : pv n f x (H n f + 1) = -1 := if_neg (by omega)
          rw [e4]
          have hf := lf_owns hown (by omega)
          have HF := Lib.hid (hf.mono (show w.heap.size ≤ w.heap.size + 1 by omega))
          have HB := Lib.hid (hb0.trans (hB.mono (show w.heap.size ≤ w.heap.size + 1 by omega)))
          clear hown hB hf e4
          go_wp2
          go_ret
          exact ⟨⟨_, rfl, HF.out⟩, HB.out⟩
    · have hpath : path N F C U leaf = [] := if_neg (fun h => hl h.2)
      rw [hpath]
      unfold geo at *
      clear hp hpath hok hd
      go_enter Tryz.func126, Tryz.ntmps126
      go_wp2_with fail
      refine (hr _).mono ?_
      rintro e w1 ⟨rfl, hb⟩
      have hb1 : Below (w.heap.size + 1) (w.alloc (gbox N F C U)) w1 := hb.mono (by simp)
      obtain ⟨c1, c2, c3, c4⟩ := gbox_cells hb1
      have HB := Lib.hid (hb0.trans (hb1.mono (by omega)))
      clear hb hb1 hr
      by_cases l1 : 0 ≤ leaf
      · have l2 : ¬ (leaf ≤ N - 1) := by omega
        clear hl
        go_wp2
        all_goals first
          | (exfalso
             have h9 : (!decide (leaf ≤ N - 1)) = false := by assumption
             simp at h9
             omega)
          | (go_ret
             exact ⟨⟨_, rfl, lf_nil _ _⟩, HB.out⟩)
      · clear hl
        go_wp2
        go_ret
        exact ⟨⟨_, rfl, lf_nil _ _⟩, HB.out⟩
  · have hd : decide (okG N F C U) = false := by simpa using hok
    have hpath : path N F C U leaf = [] := if_neg (fun h => hok h.1)
    rw [hd] at hr
    rw [hpath]
    unfold geo at *
    clear hp hpath hok hd
    go_enter Tryz.func126, Tryz.ntmps126
    go_wp2_with fail
    refine (hr _).mono ?_
    rintro e w1 ⟨rfl, hb⟩
    have hb1 : Below (w.heap.size + 1) (w.alloc (gbox N F C U)) w1 := hb.mono (by simp)
    have HB := Lib.hid (hb0.trans (hb1.mono (by omega)))
    clear hb hb1 hr
    go_wp2
    go_ret
    exact ⟨⟨_, rfl, lf_nil _ _⟩, HB.out⟩

end Go.Proofs.YtpkeikbiblfidaaGreatDoor

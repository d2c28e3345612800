/-
  Contract of the program's Parent.
-/
import Derived.Test.YtlockgfokfhokaaDoorG6
namespace Go.Proofs.YtlockgfokfhokaaDoor
open Go.RowKit
set_option linter.unusedVariables false
set_option linter.unusedSimpArgs false

theorem level_cases (N F C U node : Int) :
    (lvo (pre (levels N F C U)) node (levels N F C U).length 0 = -1 ∧ parent N F C U node = -1 ∧ children N F C U node = [] ∧ ¬ (okG N F C U ∧ 0 ≤ node ∧ node < (nodes N F C U : Int))) ∨
    ∃ n f j x : Nat, N = n ∧ F = f ∧ node = x ∧ Ok n f ∧ okG N F C U ∧ j ≤ H n f ∧ S n f j ≤ x ∧ x < S n f (j + 1) ∧ lvo (pre (levels N F C U)) node (levels N F C U).length 0 = (j : Int) ∧
      levels N F C U = lev n f (H n f) ∧ parent N F C U node = par n f x ∧ children N F C U node = ch n f x ∧ height N F C U = H n f ∧ nodes N F C U = S n f (H n f + 1) := by
  by_cases h : okG N F C U
  · obtain ⟨n, f, rfl, rfl, hh⟩ := ok_of h
    have e : levels n f C U = lev n f (H n f) := by unfold levels; rw [if_pos h]; rfl
    have e2 : nodes n f C U = S n f (H n f + 1) := by unfold nodes; rw [if_pos h]; rfl
    have e3 : height n f C U = H n f := by unfold height; rw [if_pos h]; rfl
    rw [e, lev_length, e2]
    rcases lvo_spec (pre (lev n f (H n f))) node (H n f + 1) 0 with ⟨h1, h2⟩ | ⟨j, h1, h2, h3, h4, h5⟩
    · left
      have hout : ¬ (0 ≤ node ∧ node < (S n f (H n f + 1) : Nat)) := by
        rintro ⟨g1, g2⟩
        have hx := lvl_spec (n := n) (f := f) (x := node.toNat) (by omega)
        refine h2 (lvl n f node.toNat) (Nat.zero_le _) (by omega) ?_
        rw [lev_pre _ _ _ _ (by omega), lev_pre _ _ _ _ (by omega)]
        omega
      refine ⟨h1, ?_, ?_, fun g => hout g.2⟩
      · unfold parent; rw [if_neg (fun g => hout g.2)]
      · unfold children; rw [if_neg (fun g => hout g.2)]
    · right
      rw [lev_pre _ _ _ _ (by omega)] at h4
      rw [lev_pre _ _ _ _ (by omega)] at h5
      have hS := @S_mono n f (j + 1) (H n f + 1) (by omega)
      have hin : okG (n : Int) (f : Int) C U ∧ 0 ≤ node ∧ node < (S n f (H n f + 1) : Nat) := ⟨h, by omega, by omega⟩
      refine ⟨n, f, j, node.toNat, rfl, rfl, by omega, hh, h, by omega, by omega, by omega, h3, rfl, ?_, ?_, e3, rfl⟩
      · exact if_pos hin
      · exact if_pos hin
  · left
    have e : levels N F C U = [] := by unfold levels; rw [if_neg h]
    rw [e]
    refine ⟨rfl, ?_, ?_, fun g => h g.1⟩
    · unfold parent; rw [if_neg (fun g => h g.1)]
    · unfold children; rw [if_neg (fun g => h g.1)]

set_option maxRecDepth 20000 in
set_option maxHeartbeats 1000000 in
theorem parent_any (N F C U node : Int) (w : World) :
    Calls Tryd.prog 65 #[geo N F C U, .int .i64 node] w fun e w' => e = .returned (.int .i64 (parent N F C U node)) ∧ Below w.heap.size w w' := by
  have hs := starts_any N F C U
  have hh := height_any N F C U
  obtain ⟨p1, p2, -⟩ := levels_pre N F C U
  have hlo := levelOf_any (levels N F C U) (levels N F C U).length p1 p2
  have hb0 := (Below.refl w.heap.size w).alloc (Nat.le_refl _) (gbox N F C U)
  rcases level_cases N F C U node with ⟨h1, h2, -⟩ | ⟨n, f, j, x, rfl, rfl, rfl, ho, hok, hj, hx1, hx2, h1, hl, h2, -, h3, -⟩
  · rw [h2]
    generalize levels N F C U = xs at *
    unfold geo at *
    clear h2 hh p1 p2
    go_enter Tryd.func65, Tryd.ntmps65
    go_wp2_with fail
    refine (hs _).mono ?_
    rintro e w1 ⟨⟨v, rfl, hv⟩, hb⟩
    have hb1 := hb0.trans (hb.mono (by simp))
    have hlv := hlo v node w1 hv.li
    rw [h1] at hlv
    clear hb hb0 hs hlo h1
    go_wp2_with fail
    refine hlv.mono ?_
    rintro e w2 ⟨rfl, hd⟩
    have hb2 := hb1.trans (hd.below.mono hb1.size)
    clear hd hlv hb1
    go_wp2
    go_ret
    exact ⟨rfl, hb2⟩
  · rw [h2]
    rw [h3] at hh
    rw [hl, lev_length] at hs hlo h1
    clear h2 h3 hl
    have q1 := lev_pre n f (H n f) j (by omega)
    have q2 := lev_pre n f (H n f) (j + 1) (by omega)
    have hs8 := S_le ho
    have hsm := @S_mono n f (j + 1) (H n f + 1) (by omega)
    have t1 := stt_at (lev n f (H n f)) (H n f + 1) j (by omega)
    have t2 := stt_at (lev n f (H n f)) (H n f + 1) (j + 1) (by omega)
    have t3 := stt_length (lev n f (H n f)) (H n f + 1)
    rw [q1] at t1
    rw [q2] at t2
    generalize stt (lev n f (H n f)) (H n f + 1) = L at *
    have f1 := ho.f1
    have f2 := ho.f2
    have hH := (H_spec ho).2.2
    have hp1 : j = H n f → par n f x = -1 := fun e => by subst e; exact par_top hx1 hx2
    have hp2 : j < H n f → par n f x = ((S n f (j + 1) + (x - S n f j) / f : Nat) : Int) := fun e => par_at e hx1 hx2
    generalize H n f = M at *
    have HP1 := Lib.hid hp1
    have HP2 := Lib.hid hp2
    clear hp1 hp2
    generalize par n f x = R at *
    generalize S n f j = z1 at *
    generalize S n f (j + 1) = z2 at *
    unfold geo at *
    clear p1 p2 q1 q2
    go_enter Tryd.func65, Tryd.ntmps65
    go_wp2_with fail
    refine (hs _).mono ?_
    rintro e w1 ⟨⟨v, rfl, hv⟩, hb⟩
    have hb1 : Below (w.heap.size + 1) (w.alloc (gbox n f C U)) w1 := hb.mono (by simp)
    have hlv := hlo v x w1 hv.li
    rw [h1] at hlv
    clear hb hs hlo h1
    go_wp2_with fail
    refine hlv.mono ?_
    rintro e w2 ⟨rfl, hd⟩
    have hb2 := hb1.trans (hd.below.mono (by have := hb1.size; simpa using this))
    have hv2 := hv.li.later hd.below
    clear hd hlv hb1 hv
    obtain ⟨c1, c2, c3, c4⟩ := gbox_cells hb2
    have j0 : ¬ ((j : Int) = -1) := by omega
    go_wp2_with fail
    refine (hh _).mono ?_
    rintro e w3 ⟨rfl, hb⟩
    have hv3 := hv2.later hb
    have hb3 := hb2.trans (hb.mono (by have := hb2.size; simpa using this))
    clear hb hv2 hb2 hh c1 c2 c3 c4
    obtain ⟨c1, c2, c3, c4⟩ := gbox_cells hb3
    have HB := Lib.hid ((hb0.trans (hb3.mono (by omega))))
    clear hb3 hb0
    by_cases hjM : j = M
    · have hR := HP1.out hjM
      have hjM' : (j : Int) = (M : Int) := by omega
      have HR := Lib.hid hR
      subst hjM
      clear hR hjM'
      go_wp2
      go_ret
      exact ⟨by rw [HR.out]; rfl, HB.out⟩
    · have HR := Lib.hid (HP2.out (by omega))
      have g1 : ((j : Int) == -1) = false := by simp
      have g2 : ((j : Int) == (M : Int)) = false := by simp; omega
      clear j0 hjM
      obtain ⟨a, nn, c, rfl, hri⟩ := hv3
      have hnn := hri.len
      rw [t3] at hnn
      subst hnn
      obtain ⟨b, off, rfl, hbl, hc⟩ := hri.at0 (by omega)
      have k1 := hc j (by omega)
      have k2 := hc (j + 1) (by omega)
      rw [t1] at k1
      rw [t2] at k2
      clear hc t1 t2
      have i1 : (0 : Int) ≤ (j : Int) := by omega
      have i2 : (j : Int) < (M : Int) + 1 + 1 := by omega
      have i3 : (j : Int) + 1 < (M : Int) + 1 + 1 := by omega
      have wr1 : IntKind.i64.wrap ((j : Int) + 1) = (j : Int) + 1 := IntWalk.i64_in _ (by omega)
      have wr2 : IntKind.i64.wrap ((x : Int) - (z1 : Int)) = ((x - z1 : Nat) : Int) := by rw [IntWalk.i64_in _ (by omega)]; omega
      have hd8 : x - z1 ≤ 255 := by omega
      generalize x - z1 = d at *
      have hH' := hH
      go_wp2
      go_quiet (fail)
      have hB4 := below_drewN HB.out nq
      go_wp2
      go_ret
      refine ⟨?_, hB4⟩
      have hdf : (d : Int) / (f : Int) = ((d / f : Nat) : Int) := (Int.natCast_ediv _ _).symm
      have hdl := Nat.div_le_self d f
      rw [HR.out, hdf]
      generalize d / f = dv at *
      refine congrArg (fun x => Ending.returned (Value.int .i64 x)) ?_
      rw [IntWalk.wrap64_in (dv : Int) (by omega), IntWalk.wrap64_in _ (by omega)]
      omega

end Go.Proofs.YtlockgfokfhokaaDoor


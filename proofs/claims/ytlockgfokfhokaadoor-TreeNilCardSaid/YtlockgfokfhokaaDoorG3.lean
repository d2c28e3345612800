/-
  Contracts of both Levels.
-/
import Derived.Test.YtlockgfokfhokaaDoorG2
namespace Go.Proofs.YtlockgfokfhokaaDoor
open Go.RowKit
set_option linter.unusedVariables false
set_option linter.unusedSimpArgs false

/-- A geometry in a box. -/
def gbox (N F C U : Int) : Obj := .cells #[.int .i64 N, .int .i64 F, .int .i64 C, .int .i64 U] 23
theorem gbox_cells {w wr : World} {N F C U : Int} (h : Below (w.heap.size + 1) (w.alloc (gbox N F C U)) wr) :
    wr.cell? ⟨w.heap.size, 0, none⟩ = some (.int .i64 N) ∧ wr.cell? ⟨w.heap.size, 1, none⟩ = some (.int .i64 F) ∧ wr.cell? ⟨w.heap.size, 2, none⟩ = some (.int .i64 C) ∧ wr.cell? ⟨w.heap.size, 3, none⟩ = some (.int .i64 U) := by
  refine ⟨?_, ?_, ?_, ?_⟩ <;> (rw [h.cell (by simp)]; exact World.cell?_alloc_at _ _ _ _ rfl)
theorem gbox_alloc {w wr : World} {N F C U : Int} (h : Below (w.heap.size + 1) (w.alloc (gbox N F C U)) wr) (o : Obj) :
    (wr.alloc o).cell? ⟨w.heap.size, 0, none⟩ = some (.int .i64 N) ∧ (wr.alloc o).cell? ⟨w.heap.size, 1, none⟩ = some (.int .i64 F) ∧ (wr.alloc o).cell? ⟨w.heap.size, 2, none⟩ = some (.int .i64 C) ∧ (wr.alloc o).cell? ⟨w.heap.size, 3, none⟩ = some (.int .i64 U) :=
  gbox_cells (h.trans ((Below.refl _ _).alloc (by have := h.size; simpa using this) o))

theorem ok_of {N F C U : Int} (h : okG N F C U) : ∃ n f : Nat, N = n ∧ F = f ∧ Ok n f := by
  obtain ⟨h1, h2, h3, h4, _⟩ := h
  exact ⟨N.toNat, F.toNat, by omega, by omega, by constructor <;> omega⟩

/-- The levels up to the i-th. -/
def lev (n f i : Nat) : List Int := (List.range (i + 1)).map (fun i => (q n f i : Int))
theorem lev_next (n f i : Nat) : lev n f (i + 1) = lev n f i ++ [(q n f (i + 1) : Int)] := by simp [lev, List.range_succ]
theorem lev_length (n f i : Nat) : (lev n f i).length = i + 1 := by simp [lev]

set_option maxRecDepth 20000 in
set_option maxHeartbeats 400000 in
theorem levels_ok (n f : Nat) (C U : Int) (h : Ok n f) (hok : okG n f C U) (w : World) :
    Calls Tryd.prog 60 #[geo n f C U] w fun e w' => (∃ v, e = .returned v ∧ Lf w' w.heap.size v (lev n f (H n f))) ∧ Below w.heap.size w w' := by
  have hr := gright_any n f C U
  have hd : decide (okG n f C U) = true := by simpa using hok
  rw [hd] at hr
  obtain ⟨i0, hi, hz0, hz1, hz2⟩ := info_parts Tryd.info3
  obtain ⟨s1, s2, s3⟩ := H_spec h
  have hb0 := (Below.refl w.heap.size w).alloc (Nat.le_refl _) (gbox n f C U)
  unfold geo at hr ⊢
  go_enter Tryd.func60, Tryd.ntmps60
  go_wp2_with fail
  refine (hr _).mono ?_
  rintro e w1 ⟨rfl, hb⟩
  have hb1 : Below (w.heap.size + 1) (w.alloc (gbox n f C U)) w1 := hb.mono (by simp)
  obtain ⟨c1, c2, -, -⟩ := gbox_cells hb1
  have d1 := fun o => (gbox_alloc hb1 o).1
  have d2 := fun o => (gbox_alloc hb1 o).2.1
  have hsz : w.heap.size + 1 ≤ w1.heap.size := by have := hb1.size; simpa using this
  clear hb
  have hlen : ∀ i, (lev n f i).length = i + 1 := lev_length n f
  go_wp2
  go_loopw [3, 4] (fun l x wr => ∃ i : Nat, i ≤ H n f ∧ x = .int .i64 (q n f i : Int) ∧ wr.ownsRow (w.heap.size + 1) 3 1 l (i + 1) (ivs (lev n f i)) ∧ Below (w.heap.size + 1) (w.alloc (gbox n f C U)) wr) (fun _ x _ => (intOf x).toNat)
  case atStart =>
    refine ⟨0, by omega, rfl, one_owns w1 _ _ (by omega), hb1.alloc (by omega) _⟩
  case round =>
    obtain ⟨i, hi9, rfl, hown, hB⟩ := hrel
    have hqi := q_pos h i
    have hql := q_le h i
    have hst := ceil_step h.f1 h.f2 hqi
    have hf1 := h.f1
    have hf2 := h.f2
    have hq1 : (q n f i + f - 1) / f = q n f (i + 1) := rfl
    rw [hq1] at hst
    by_cases hlt : 1 < q n f i
    · have hi2 : i < H n f := by
        rcases Nat.lt_or_ge i (H n f) with g | g
        · exact g
        · obtain rfl : i = H n f := by omega
          omega
      obtain ⟨c1, c2, -, -⟩ := gbox_cells hB
      have HB := Lib.hid hB
      have hdv : ((q n f i : Int) + (f : Int) - 1) / (f : Int) = (q n f (i + 1) : Int) := by
        rw [show (q n f i : Int) + (f : Int) - 1 = ((q n f i + f - 1 : Nat) : Int) from by omega, ← hq1, Int.natCast_ediv]
      have HD := Lib.hid hdv
      clear hdv
      have ho := hown.alloc (.cells #[.int .i64 (((q n f i : Int) + (f : Int) - 1) / (f : Int))] 3)
      have hszr : w.heap.size + 1 ≤ wr.heap.size := by have := hB.size; simpa using this
      have HB1 := Lib.hid (hB.alloc hszr (.cells #[.int .i64 (((q n f i : Int) + (f : Int) - 1) / (f : Int))] 3))
      have HBS := Lib.hid (show w.heap.size + 1 ≤ (wr.alloc (.cells #[.int .i64 (((q n f i : Int) + (f : Int) - 1) / (f : Int))] 3)).heap.size by simp; omega)
      go_wp2_with (at_builtin; refine wpList_append_i (o := ⟨some 26, _, _, _, _, _⟩) rfl (.tmp 23) (.tmp 25) 46 rfl (w.heap.size + 1) i0 Tryd.underlying46 hi hz0 hz1 hz2 _ (i + 1) _ rfl ho _ rfl rfl (by omega) HBS.out ?_)
      intro v' w5 hown5 hgrow
      rw [HD.out, ← lev_next] at hown5
      have hB5 := HB1.out.grown hgrow HBS.out (fun j hj => (hown.lt j hj).1)
      have hl5 := hown5.1
      clear hown ho hgrow hB c1 c2
      obtain ⟨a, c, rfl, -, -⟩ := iowns_shape hown5 (by omega)
      go_wp2
      go_roundw
      case rel => exact ⟨i + 1, by omega, by rw [HD.out], hown5, hB5⟩
      case measure => simp only [intOf, HD.out]; omega
    · have hi2 : i = H n f := by
        rcases Nat.lt_or_ge i (H n f) with g | g
        · exact absurd (s1 i g) hlt
        · omega
      subst hi2
      obtain ⟨a, c, rfl, hri, hge⟩ := iowns_shape hown (by omega)
      go_wp2
      go_ret
      exact ⟨⟨_, rfl, _, _, _, rfl, hri, fun b off e => by have := hge b off _ e; omega⟩, (hb0.trans (hB.mono (by omega)))⟩

set_option maxRecDepth 20000 in
set_option maxHeartbeats 400000 in
theorem rlevels_ok (n f : Nat) (C U : Int) (h : Ok n f) (hok : okG n f C U) (w : World) :
    Calls Tryd.prog 56 #[geo n f C U] w fun e w' => (∃ v, e = .returned v ∧ Lf w' w.heap.size v (lev n f (H n f))) ∧ Below w.heap.size w w' := by
  have hr := grright_any n f C U
  have hd : decide (okG n f C U) = true := by simpa using hok
  rw [hd] at hr
  obtain ⟨i0, hi, hz0, hz1, hz2⟩ := info_parts Tryd.info3
  obtain ⟨s1, s2, s3⟩ := H_spec h
  have hb0 := (Below.refl w.heap.size w).alloc (Nat.le_refl _) (gbox n f C U)
  unfold geo at hr ⊢
  go_enter Tryd.func56, Tryd.ntmps56
  go_wp2_with fail
  refine (hr _).mono ?_
  rintro e w1 ⟨rfl, hb⟩
  have hb1 : Below (w.heap.size + 1) (w.alloc (gbox n f C U)) w1 := hb.mono (by simp)
  obtain ⟨c1, c2, -, -⟩ := gbox_cells hb1
  have d1 := fun o => (gbox_alloc hb1 o).1
  have d2 := fun o => (gbox_alloc hb1 o).2.1
  have hsz : w.heap.size + 1 ≤ w1.heap.size := by have := hb1.size; simpa using this
  clear hb
  have hlen : ∀ i, (lev n f i).length = i + 1 := lev_length n f
  go_wp2
  go_loopw [3, 4] (fun l x wr => ∃ i : Nat, i ≤ H n f ∧ x = .int .i64 (q n f i : Int) ∧ wr.ownsRow (w.heap.size + 1) 3 1 l (i + 1) (ivs (lev n f i)) ∧ Below (w.heap.size + 1) (w.alloc (gbox n f C U)) wr) (fun _ x _ => (intOf x).toNat)
  case atStart =>
    refine ⟨0, by omega, rfl, one_owns w1 _ _ (by omega), hb1.alloc (by omega) _⟩
  case round =>
    obtain ⟨i, hi9, rfl, hown, hB⟩ := hrel
    have hqi := q_pos h i
    have hql := q_le h i
    have hst := ceil_step h.f1 h.f2 hqi
    have hf1 := h.f1
    have hf2 := h.f2
    have hq1 : (q n f i + f - 1) / f = q n f (i + 1) := rfl
    rw [hq1] at hst
    by_cases hlt : 1 < q n f i
    · have hi2 : i < H n f := by
        rcases Nat.lt_or_ge i (H n f) with g | g
        · exact g
        · obtain rfl : i = H n f := by omega
          omega
      obtain ⟨c1, c2, -, -⟩ := gbox_cells hB
      have HB := Lib.hid hB
      have hdv : ((q n f i : Int) + (f : Int) - 1) / (f : Int) = (q n f (i + 1) : Int) := by
        rw [show (q n f i : Int) + (f : Int) - 1 = ((q n f i + f - 1 : Nat) : Int) from by omega, ← hq1, Int.natCast_ediv]
      have HD := Lib.hid hdv
      clear hdv
      have ho := hown.alloc (.cells #[.int .i64 (((q n f i : Int) + (f : Int) - 1) / (f : Int))] 3)
      have hszr : w.heap.size + 1 ≤ wr.heap.size := by have := hB.size; simpa using this
      have HB1 := Lib.hid (hB.alloc hszr (.cells #[.int .i64 (((q n f i : Int) + (f : Int) - 1) / (f : Int))] 3))
      have HBS := Lib.hid (show w.heap.size + 1 ≤ (wr.alloc (.cells #[.int .i64 (((q n f i : Int) + (f : Int) - 1) / (f : Int))] 3)).heap.size by simp; omega)
      go_wp2_with (at_builtin; refine wpList_append_i (o := ⟨some 26, _, _, _, _, _⟩) rfl (.tmp 23) (.tmp 25) 46 rfl (w.heap.size + 1) i0 Tryd.underlying46 hi hz0 hz1 hz2 _ (i + 1) _ rfl ho _ rfl rfl (by omega) HBS.out ?_)
      intro v' w5 hown5 hgrow
      rw [HD.out, ← lev_next] at hown5
      have hB5 := HB1.out.grown hgrow HBS.out (fun j hj => (hown.lt j hj).1)
      have hl5 := hown5.1
      clear hown ho hgrow hB c1 c2
      obtain ⟨a, c, rfl, -, -⟩ := iowns_shape hown5 (by omega)
      go_wp2
      go_roundw
      case rel => exact ⟨i + 1, by omega, by rw [HD.out], hown5, hB5⟩
      case measure => simp only [intOf, HD.out]; omega
    · have hi2 : i = H n f := by
        rcases Nat.lt_or_ge i (H n f) with g | g
        · exact absurd (s1 i g) hlt
        · omega
      subst hi2
      obtain ⟨a, c, rfl, hri, hge⟩ := iowns_shape hown (by omega)
      go_wp2
      go_ret
      exact ⟨⟨_, rfl, _, _, _, rfl, hri, fun b off e => by have := hge b off _ e; omega⟩, (hb0.trans (hB.mono (by omega)))⟩


set_option maxRecDepth 20000 in
set_option maxHeartbeats 400000 in
theorem levels_no (N F C U : Int) (hok : ¬ okG N F C U) (w : World) :
    Calls Tryd.prog 60 #[geo N F C U] w fun e w' => (∃ v, e = .returned v ∧ Lf w' w.heap.size v []) ∧ Below w.heap.size w w' := by
  have hr := gright_any N F C U
  have hd : decide (okG N F C U) = false := by simpa using hok
  rw [hd] at hr
  have hb0 := (Below.refl w.heap.size w).alloc (Nat.le_refl _) (gbox N F C U)
  unfold geo at hr ⊢
  go_enter Tryd.func60, Tryd.ntmps60
  go_wp2_with fail
  refine (hr _).mono ?_
  rintro e w1 ⟨rfl, hb⟩
  have hb1 : Below w.heap.size w w1 := hb0.trans (hb.mono (by simp))
  clear hb
  go_wp2
  go_ret
  exact ⟨⟨_, rfl, lf_nil _ _⟩, hb1⟩

set_option maxRecDepth 20000 in
set_option maxHeartbeats 400000 in
theorem rlevels_no (N F C U : Int) (hok : ¬ okG N F C U) (w : World) :
    Calls Tryd.prog 56 #[geo N F C U] w fun e w' => (∃ v, e = .returned v ∧ Lf w' w.heap.size v []) ∧ Below w.heap.size w w' := by
  have hr := grright_any N F C U
  have hd : decide (okG N F C U) = false := by simpa using hok
  rw [hd] at hr
  have hb0 := (Below.refl w.heap.size w).alloc (Nat.le_refl _) (gbox N F C U)
  unfold geo at hr ⊢
  go_enter Tryd.func56, Tryd.ntmps56
  go_wp2_with fail
  refine (hr _).mono ?_
  rintro e w1 ⟨rfl, hb⟩
  have hb1 : Below w.heap.size w w1 := hb0.trans (hb.mono (by simp))
  clear hb
  go_wp2
  go_ret
  exact ⟨⟨_, rfl, lf_nil _ _⟩, hb1⟩

/-- Levels, whatever the geometry. -/
theorem levels_any (N F C U : Int) (w : World) :
    Calls Tryd.prog 60 #[geo N F C U] w fun e w' => (∃ v, e = .returned v ∧ Lf w' w.heap.size v (levels N F C U)) ∧ Below w.heap.size w w' := by
  by_cases h : okG N F C U
  · obtain ⟨n, f, rfl, rfl, hh⟩ := ok_of h
    have : levels n f C U = lev n f (H n f) := by unfold levels; rw [if_pos h]; rfl
    rw [this]
    exact levels_ok n f C U hh h w
  · have : levels N F C U = [] := by unfold levels; rw [if_neg h]
    rw [this]
    exact levels_no N F C U h w

/-- Levels, whatever the geometry. -/
theorem rlevels_any (N F C U : Int) (w : World) :
    Calls Tryd.prog 56 #[geo N F C U] w fun e w' => (∃ v, e = .returned v ∧ Lf w' w.heap.size v (levels N F C U)) ∧ Below w.heap.size w w' := by
  by_cases h : okG N F C U
  · obtain ⟨n, f, rfl, rfl, hh⟩ := ok_of h
    have : levels n f C U = lev n f (H n f) := by unfold levels; rw [if_pos h]; rfl
    rw [this]
    exact rlevels_ok n f C U hh h w
  · have : levels N F C U = [] := by unfold levels; rw [if_neg h]
    rw [this]
    exact rlevels_no N F C U h w

end Go.Proofs.YtlockgfokfhokaaDoor


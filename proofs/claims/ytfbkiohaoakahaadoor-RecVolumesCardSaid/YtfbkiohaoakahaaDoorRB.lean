/-
  Volumes as records: why a side has none; their bytes.
-/
import Derived.Test.YtfbkiohaoakahaaDoorRA
namespace Go.Proofs.YtfbkiohaoakahaaDoor
open Go.RowKit
set_option linter.unusedVariables false
set_option linter.unusedSimpArgs false

/-- A configuration as a value. -/
def conf (V N F C U L : Int) : Value := .agg #[.int .u32 V, .int .i64 N, .int .i64 F, .int .i64 C, .int .i64 U, .int .u64 L]

/-- A configuration in a box. -/
def cbox (V N F C U L : Int) : Obj := .cells #[.int .u32 V, .int .i64 N, .int .i64 F, .int .i64 C, .int .i64 U, .int .u64 L] 36

/-- A block holds a configuration. -/
def Cf (w : World) (p : Nat) (V N F C U L : Int) : Prop :=
  w.cell? ⟨p, 0, none⟩ = some (.int .u32 V) ∧ w.cell? ⟨p, 1, none⟩ = some (.int .i64 N) ∧ w.cell? ⟨p, 2, none⟩ = some (.int .i64 F) ∧ w.cell? ⟨p, 3, none⟩ = some (.int .i64 C) ∧ w.cell? ⟨p, 4, none⟩ = some (.int .i64 U) ∧ w.cell? ⟨p, 5, none⟩ = some (.int .u64 L)

theorem Cf.keep {w w' : World} {p B : Nat} {V N F C U L : Int} (h : Cf w p V N F C U L) (hb : Below B w w') (hp : p < B) : Cf w' p V N F C U L := by
  obtain ⟨a, b, c, d, e, f⟩ := h
  refine ⟨?_, ?_, ?_, ?_, ?_, ?_⟩ <;> (rw [hb.cell hp]; assumption)

theorem Cf.box (w : World) (V N F C U L : Int) : Cf (w.alloc (cbox V N F C U L)) w.heap.size V N F C U L := by
  refine ⟨?_, ?_, ?_, ?_, ?_, ?_⟩ <;> exact World.cell?_alloc_at _ _ _ _ rfl

/-- Why a side has no such volume; 0: it may. -/
def faultN (side N F C U L : Int) : Nat :=
  if side = 0 ∨ side = 1 then if okG N F C U then if 1 ≤ L ∧ L ≤ 281474976710656 then 0 else 14 else 12 else 2

set_option maxRecDepth 20000 in
set_option maxHeartbeats 1000000 in
theorem fault_any (side V N F C U L : Int) (w : World) :
    Calls Tryd.prog 29 #[.int .i64 side, conf V N F C U L] w fun e w' => e = .returned (.int .i64 (faultN side N F C U L : Int)) ∧ Below w.heap.size w w' := by
  have hg := fun w => gright_any N F C U w
  unfold geo at hg
  have hb0 : Below w.heap.size w (w.alloc (cbox V N F C U L)) := (Below.refl _ _).alloc (Nat.le_refl _) _
  have hc0 := Cf.box w V N F C U L
  by_cases hs : side = 0 ∨ side = 1
  · by_cases hok : okG N F C U
    · have hd : decide (okG N F C U) = true := by simpa using hok
      simp only [hd] at hg
      have hf : faultN side N F C U L = if 1 ≤ L ∧ L ≤ 281474976710656 then 0 else 14 := by
        unfold faultN; rw [if_pos hs, if_pos hok]
      have HF := Lib.hid hf
      have HG := Lib.hid hg
      have HB0 := Lib.hid hb0
      have HC0 := Lib.hid hc0
      clear hf hg hok hd hb0 hc0
      rcases hs with rfl | rfl
      all_goals
        go_enter Tryd.func29, Tryd.ntmps29
        unfold conf
        go_wp2_with fail
        refine (HG.out _).mono ?_
        rintro r w1 ⟨rfl, hb⟩
        have hB1 := Lib.hid (HB0.out.trans (hb.mono (by simp)))
        obtain ⟨-, -, -, -, -, c6⟩ := HC0.out.keep hb (by simp)
        clear hb
        go_wp2
        all_goals (try go_ret)
        all_goals (try (refine ⟨?_, hB1.out⟩; rw [HF.out]; first | rfl | rw [if_pos (by omega)]; rfl | rw [if_neg (by omega)]; rfl))
    · have hd : decide (okG N F C U) = false := by simpa using hok
      simp only [hd] at hg
      have hf : faultN side N F C U L = 12 := by
        unfold faultN; rw [if_pos hs, if_neg hok]
      rw [hf]
      have HG := Lib.hid hg
      have HB0 := Lib.hid hb0
      clear hf hg hok hd hb0 hc0
      rcases hs with rfl | rfl
      all_goals
        go_enter Tryd.func29, Tryd.ntmps29
        unfold conf
        go_wp2_with fail
        refine (HG.out _).mono ?_
        rintro r w1 ⟨rfl, hb⟩
        have hB1 := Lib.hid (HB0.out.trans (hb.mono (by simp)))
        clear hb
        go_wp2
        go_ret
        exact ⟨rfl, hB1.out⟩
  · have hf : faultN side N F C U L = 2 := if_neg hs
    rw [hf]
    have h0 : (side != 0) = true := by simpa using fun h => hs (.inl h)
    have h1 : (side != 1) = true := by simpa using fun h => hs (.inr h)
    have h0' : (side == 0) = false := by simpa using fun h => hs (.inl h)
    have h1' : (side == 1) = false := by simpa using fun h => hs (.inr h)
    have HB0 := Lib.hid hb0
    clear hf hg hs hb0 hc0
    go_enter Tryd.func29, Tryd.ntmps29
    unfold conf
    go_wp2
    go_ret
    exact ⟨rfl, HB0.out⟩

end Go.Proofs.YtfbkiohaoakahaaDoor


/-
  Volumes as records: the program's Config.
-/
import Derived.Test.YtfbkiohaoakahaaDoorRE
namespace Go.Proofs.YtfbkiohaoakahaaDoor
open Go.RowKit
set_option linter.unusedVariables false
set_option linter.unusedSimpArgs false

/-- A side, a configuration, an error. -/
def sideV (s V N F C U L e : Int) : Value := .tuple #[.int .i64 s, conf V N F C U L, .int .i64 e]

/-- Why a volume's body is none; 0: it is one. -/
def bodyN (b : List UInt8) : Nat := faultN (fld b 0 1) (fld b 5 2) (fld b 7 1) (fld b 8 2) (fld b 10 2) (fld b 12 8)

/-- The side and the volume of a record. -/
def configV (xs : List UInt8) : Value :=
  if (openP 1 xs).2 ≠ 0 then sideV 0 0 0 0 0 0 0 (openP 1 xs).2
  else if (openP 1 xs).1.length ≠ 20 ∨ bodyN (openP 1 xs).1 ≠ 0 then sideV 0 0 0 0 0 0 0 6
  else sideV (fld (openP 1 xs).1 0 1) (fld (openP 1 xs).1 1 4) (fld (openP 1 xs).1 5 2) (fld (openP 1 xs).1 7 1) (fld (openP 1 xs).1 8 2) (fld (openP 1 xs).1 10 2) (fld (openP 1 xs).1 12 8) 0

/-- What the results' box of a function keeps: six cells of an empty configuration. -/
structure Rz (w0 w : World) (r : Nat) : Prop where
  br : w.heap[r]? = some (.cells z6 36 (0, 0))
  hr : w0.heap.size ≤ r
  fr : Below w0.heap.size w0 w

theorem Rz.new (w : World) : Rz w (w.alloc (.cells z6 36)) w.heap.size :=
  ⟨heap_alloc_new w _, Nat.le_refl _, (Below.refl _ _).alloc (Nat.le_refl _) _⟩
theorem Rz.keep {w0 w w' : World} {r : Nat} (h : Rz w0 w r) (hb : Below w.heap.size w w') : Rz w0 w' r :=
  ⟨(hb.block r (lt_of_block h.br)).trans h.br, h.hr, h.fr.trans (hb.mono h.fr.size)⟩
theorem Rz.cells {w0 w : World} {r : Nat} (h : Rz w0 w r) :
    (w.cell? ⟨r, 0, none⟩ = some (.int .u32 0) ∧ w.cell? ⟨r, 1, none⟩ = some (.int .i64 0) ∧ w.cell? ⟨r, 2, none⟩ = some (.int .i64 0) ∧ w.cell? ⟨r, 3, none⟩ = some (.int .i64 0) ∧ w.cell? ⟨r, 4, none⟩ = some (.int .i64 0) ∧ w.cell? ⟨r, 5, none⟩ = some (.int .u64 0)) ∧ ∀ i, w.frozen? ⟨r, i, none⟩ = false :=
  ⟨⟨cell_of_blk h.br 0, cell_of_blk h.br 1, cell_of_blk h.br 2, cell_of_blk h.br 3, cell_of_blk h.br 4, cell_of_blk h.br 5⟩, free_of_blk h.br⟩

theorem put6_cells0 {w : World} {r : Nat} {c0 c1 c2 c3 c4 c5 : Value} {t : TypeId} (h : w.heap[r]? = some (.cells #[c0, c1, c2, c3, c4, c5] t (0, 0))) (v0 v1 v2 v3 v4 v5 : Value) :
    (put6 w r v0 v1 v2 v3 v4 v5).cell? ⟨r, 0, none⟩ = some v0 ∧ (put6 w r v0 v1 v2 v3 v4 v5).cell? ⟨r, 1, none⟩ = some v1 ∧ (put6 w r v0 v1 v2 v3 v4 v5).cell? ⟨r, 2, none⟩ = some v2 ∧ (put6 w r v0 v1 v2 v3 v4 v5).cell? ⟨r, 3, none⟩ = some v3 ∧ (put6 w r v0 v1 v2 v3 v4 v5).cell? ⟨r, 4, none⟩ = some v4 ∧ (put6 w r v0 v1 v2 v3 v4 v5).cell? ⟨r, 5, none⟩ = some v5 := by
  have hb : (put6 w r v0 v1 v2 v3 v4 v5).heap[r]? = some (.cells #[v0, v1, v2, v3, v4, v5] t (0, 0)) := put6_blk h v0 v1 v2 v3 v4 v5
  generalize put6 w r v0 v1 v2 v3 v4 v5 = w' at *
  exact ⟨cell_of_blk hb 0, cell_of_blk hb 1, cell_of_blk hb 2, cell_of_blk hb 3, cell_of_blk hb 4, cell_of_blk hb 5⟩

set_option maxRecDepth 20000 in
set_option maxHeartbeats 4000000 in
theorem config_any (xs : List UInt8) (w : World) :
    Calls Tryd.prog 16 #[strV xs] w fun e w' => e = .returned (configV xs) ∧ Below w.heap.size w w' := by
  have ho := fun w => open_any 1 xs w
  unfold tupV at ho
  have hrz := Rz.new w
  by_cases h0 : (openP 1 xs).2 = 0
  · obtain ⟨b, hb⟩ : ∃ b, b = (openP 1 xs).1 := ⟨_, rfl⟩
    have hc : configV xs = if b.length ≠ 20 ∨ bodyN b ≠ 0 then sideV 0 0 0 0 0 0 0 6 else sideV (fld b 0 1) (fld b 1 4) (fld b 5 2) (fld b 7 1) (fld b 8 2) (fld b 10 2) (fld b 12 8) 0 := by
      rw [hb]; unfold configV; rw [if_neg (by omega)]
    rw [hc]
    rw [h0, ← hb] at ho
    clear h0 hb hc
    have hln := fun w => len_str b w
    have HO := Lib.hid ho
    have HZ := Lib.hid hrz
    by_cases hl : b.length = 20
    · have hvo := fun w => read_any b hl w
      have hfa := fun w => fault_any (fld b 0 1) (fld b 1 4) (fld b 5 2) (fld b 7 1) (fld b 8 2) (fld b 10 2) (fld b 12 8) w
      have hif : (if b.length ≠ 20 ∨ bodyN b ≠ 0 then sideV 0 0 0 0 0 0 0 6 else sideV (fld b 0 1) (fld b 1 4) (fld b 5 2) (fld b 7 1) (fld b 8 2) (fld b 10 2) (fld b 12 8) 0) = (if bodyN b ≠ 0 then sideV 0 0 0 0 0 0 0 6 else sideV (fld b 0 1) (fld b 1 4) (fld b 5 2) (fld b 7 1) (fld b 8 2) (fld b 10 2) (fld b 12 8) 0) := by
        by_cases hx : bodyN b ≠ 0
        · rw [if_pos (.inr hx), if_pos hx]
        · rw [if_neg (fun h => h.elim (fun h => h hl) hx), if_neg hx]
      rw [hif]
      rw [hl] at hln
      change ∀ w, Calls Tryd.prog _ _ w (fun e w' => e = .returned (.int .i64 (bodyN b : Int)) ∧ _) at hfa
      unfold volumeV at hvo
      unfold sideV
      generalize bodyN b = bn at *
      generalize fld b 0 1 = k0 at *
      generalize fld b 1 4 = k1 at *
      generalize fld b 5 2 = k2 at *
      generalize fld b 7 1 = k3 at *
      generalize fld b 8 2 = k4 at *
      generalize fld b 10 2 = k5 at *
      generalize fld b 12 8 = k6 at *
      generalize strV b = B at *
      generalize strV xs = V at *
      have HVO := Lib.hid hvo
      have HFA := Lib.hid hfa
      unfold conf at *
      clear hif ho hrz hl hvo hfa
      by_cases hbn : bn = 0
      · rw [if_neg (fun h => h hbn)]
        subst hbn
        go_enter Tryd.func16, Tryd.ntmps16
        go_wp2_with fail
        refine (HO.out _).mono ?_
        rintro r w1 ⟨rfl, hb⟩
        have HZ1 := Lib.hid (HZ.out.keep hb)
        clear hb
        go_wp2_with fail
        refine (HVO.out _).mono ?_
        rintro r w2 ⟨rfl, hb⟩
        have HZ2 := Lib.hid (HZ1.out.keep hb)
        clear hb
        go_wp2_with fail
        refine (HFA.out _).mono ?_
        rintro r w3 ⟨rfl, hb⟩
        have HZ3 := Lib.hid ((HZ2.out.keep ((Below.refl _ _).alloc (Nat.le_refl _) _)).keep hb)
        obtain ⟨⟨r0, r1, r2, r3, r4, r5⟩, rz⟩ := HZ3.out.cells
        obtain ⟨b0, b1, b2, b3, b4, b5⟩ := (Cf.box w2 k1 k2 k3 k4 k5 k6).keep hb (by simp)
        have hne : w.heap.size ≠ w2.heap.size := by have := lt_of_block HZ2.out.br; omega
        clear hb
        go_wp2_with fail
        go_region
        change Exit.then _ _ _ _ (put6 w3 w.heap.size (.int .u32 k1) (.int .i64 k2) (.int .i64 k3) (.int .i64 k4) (.int .i64 k5) (.int .u64 k6)).drew
        clear r0 r1 r2 r3 r4 r5 b0 b1 b2 b3 b4 b5 rz hne
        have hcs := put6_cells HZ3.out.br (.int .u32 k1) (.int .i64 k2) (.int .i64 k3) (.int .i64 k4) (.int .i64 k5) (.int .u64 k6)
        have hfr := (put6_below HZ3.out.fr HZ3.out.hr (.int .u32 k1) (.int .i64 k2) (.int .i64 k3) (.int .i64 k4) (.int .i64 k5) (.int .u64 k6)).drew
        obtain ⟨w4, hw⟩ : ∃ w4, w4 = (put6 w3 w.heap.size (.int .u32 k1) (.int .i64 k2) (.int .i64 k3) (.int .i64 k4) (.int .i64 k5) (.int .u64 k6)).drew := ⟨_, rfl⟩
        rw [← hw] at hcs hfr ⊢
        obtain ⟨q0, q1, q2, q3, q4, q5⟩ := hcs
        go_wp2
        refine bodyPost_ret (by simp [results, Tryd.results16, go_sem, q0, q1, q2, q3, q4, q5]; try rfl) rfl ?_
        exact ⟨rfl, hfr⟩
      · rw [if_pos hbn]
        have he : ((bn : Int) == 0) = false := by simpa using hbn
        have he2 : ((bn : Int) != 0) = true := by simpa using hbn
        go_enter Tryd.func16, Tryd.ntmps16
        go_wp2_with fail
        refine (HO.out _).mono ?_
        rintro r w1 ⟨rfl, hb⟩
        have HZ1 := Lib.hid (HZ.out.keep hb)
        clear hb
        go_wp2_with fail
        refine (HVO.out _).mono ?_
        rintro r w2 ⟨rfl, hb⟩
        have HZ2 := Lib.hid (HZ1.out.keep hb)
        clear hb
        go_wp2_with fail
        refine (HFA.out _).mono ?_
        rintro r w3 ⟨rfl, hb⟩
        have HZ3 := Lib.hid ((HZ2.out.keep ((Below.refl _ _).alloc (Nat.le_refl _) _)).keep hb)
        obtain ⟨⟨r0, r1, r2, r3, r4, r5⟩, rz⟩ := HZ3.out.cells
        clear hb
        go_wp2
        change bodyPost _ _ _ _ _ (put6 w3 w.heap.size (.int .u32 0) (.int .i64 0) (.int .i64 0) (.int .i64 0) (.int .i64 0) (.int .u64 0))
        have hcs := put6_cells0 HZ3.out.br (.int .u32 0) (.int .i64 0) (.int .i64 0) (.int .i64 0) (.int .i64 0) (.int .u64 0)
        have hfr := put6_below HZ3.out.fr HZ3.out.hr (.int .u32 0) (.int .i64 0) (.int .i64 0) (.int .i64 0) (.int .i64 0) (.int .u64 0)
        obtain ⟨w4, hw⟩ : ∃ w4, w4 = (put6 w3 w.heap.size (.int .u32 0) (.int .i64 0) (.int .i64 0) (.int .i64 0) (.int .i64 0) (.int .u64 0)) := ⟨_, rfl⟩
        rw [← hw] at hcs hfr ⊢
        obtain ⟨q0, q1, q2, q3, q4, q5⟩ := hcs
        refine bodyPost_ret (by simp [results, Tryd.results16, go_sem, q0, q1, q2, q3, q4, q5]; try rfl) rfl ?_
        exact ⟨rfl, hfr⟩
    · have hif : (if b.length ≠ 20 ∨ bodyN b ≠ 0 then sideV 0 0 0 0 0 0 0 6 else sideV (fld b 0 1) (fld b 1 4) (fld b 5 2) (fld b 7 1) (fld b 8 2) (fld b 10 2) (fld b 12 8) 0) = sideV 0 0 0 0 0 0 0 6 := if_pos (.inl hl)
      rw [hif]
      unfold sideV conf
      generalize hbl : b.length = bl at *
      have hl2 : ((bl : Int) == 20) = false := by simpa using (by omega : ¬ ((bl : Int) = 20))
      have hl3 : ((bl : Int) != 20) = true := by simpa using (by omega : ¬ ((bl : Int) = 20))
      generalize strV b = B at *
      generalize strV xs = V at *
      clear hif hl hbl ho hrz
      go_enter Tryd.func16, Tryd.ntmps16
      go_wp2_with fail
      refine (HO.out _).mono ?_
      rintro r w1 ⟨rfl, hb⟩
      have HZ1 := Lib.hid (HZ.out.keep hb)
      obtain ⟨⟨r0, r1, r2, r3, r4, r5⟩, rz⟩ := HZ1.out.cells
      clear hb HZ HO
      go_wp2
      change bodyPost _ _ _ _ _ (put6 w1 w.heap.size (.int .u32 0) (.int .i64 0) (.int .i64 0) (.int .i64 0) (.int .i64 0) (.int .u64 0))
      have hcs := put6_cells0 HZ1.out.br (.int .u32 0) (.int .i64 0) (.int .i64 0) (.int .i64 0) (.int .i64 0) (.int .u64 0)
      have hfr := put6_below HZ1.out.fr HZ1.out.hr (.int .u32 0) (.int .i64 0) (.int .i64 0) (.int .i64 0) (.int .i64 0) (.int .u64 0)
      obtain ⟨w2, hw⟩ : ∃ w2, w2 = (put6 w1 w.heap.size (.int .u32 0) (.int .i64 0) (.int .i64 0) (.int .i64 0) (.int .i64 0) (.int .u64 0)) := ⟨_, rfl⟩
      rw [← hw] at hcs hfr ⊢
      obtain ⟨q0, q1, q2, q3, q4, q5⟩ := hcs
      refine bodyPost_ret (by simp [results, Tryd.results16, go_sem, q0, q1, q2, q3, q4, q5]; try rfl) rfl ?_
      exact ⟨rfl, hfr⟩
  · have hc : configV xs = sideV 0 0 0 0 0 0 0 (openP 1 xs).2 := if_pos h0
    rw [hc]
    generalize (openP 1 xs).2 = e at *
    generalize strV (openP 1 xs).1 = B at *
    generalize strV xs = V at *
    have he : ((e : Int) == 0) = false := by simpa using h0
    have he2 : ((e : Int) != 0) = true := by simpa using h0
    have HO := Lib.hid ho
    have HZ := Lib.hid hrz
    unfold sideV conf
    clear hc h0 ho hrz
    go_enter Tryd.func16, Tryd.ntmps16
    go_wp2_with fail
    refine (HO.out _).mono ?_
    rintro r w1 ⟨rfl, hb⟩
    have HZ1 := Lib.hid (HZ.out.keep hb)
    obtain ⟨⟨r0, r1, r2, r3, r4, r5⟩, rz⟩ := HZ1.out.cells
    clear hb HZ HO
    go_wp2
    change bodyPost _ _ _ _ _ (put6 w1 w.heap.size (.int .u32 0) (.int .i64 0) (.int .i64 0) (.int .i64 0) (.int .i64 0) (.int .u64 0))
    have hcs := put6_cells0 HZ1.out.br (.int .u32 0) (.int .i64 0) (.int .i64 0) (.int .i64 0) (.int .i64 0) (.int .u64 0)
    have hfr := put6_below HZ1.out.fr HZ1.out.hr (.int .u32 0) (.int .i64 0) (.int .i64 0) (.int .i64 0) (.int .i64 0) (.int .u64 0)
    obtain ⟨w2, hw⟩ : ∃ w2, w2 = (put6 w1 w.heap.size (.int .u32 0) (.int .i64 0) (.int .i64 0) (.int .i64 0) (.int .i64 0) (.int .u64 0)) := ⟨_, rfl⟩
    rw [← hw] at hcs hfr ⊢
    obtain ⟨q0, q1, q2, q3, q4, q5⟩ := hcs
    refine bodyPost_ret (by simp [results, Tryd.results16, go_sem, q0, q1, q2, q3, q4, q5]; try rfl) rfl ?_
    exact ⟨rfl, hfr⟩

end Go.Proofs.YtfbkiohaoakahaaDoor


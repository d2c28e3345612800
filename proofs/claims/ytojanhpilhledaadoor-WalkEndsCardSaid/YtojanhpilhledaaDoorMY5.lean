/-
  Texts put together: Y5.
-/
import Derived.Test.YtojanhpilhledaaDoorMU
/-
  Sectors that numbers make.
-/
namespace Go.Proofs.YtojanhpilhledaaDoor
open Go.RowKit
set_option linter.unusedVariables false
set_option linter.unusedSimpArgs false

/-- The first m sectors that numbers make. -/
def szL (xs : List UInt8) (m : Nat) : List ByteArray := (List.range m).map fun i => secOf (xs[i]?.getD 0)
theorem szL_length (xs m) : (szL xs m).length = m := by simp [szL]
theorem szL_next (xs m) : szL xs (m + 1) = szL xs m ++ [secOf (xs[m]?.getD 0)] := by simp [szL, List.range_succ]
theorem szL_size (xs m) : ∀ i, i < (szL xs m).length → (lAt (szL xs m) i).size = 64 := by
  intro i hi
  rw [szL_length] at hi
  unfold lAt szL
  rw [List.getElem?_map, List.getElem?_range hi]
  exact secOf_size _

set_option maxRecDepth 20000 in
set_option maxHeartbeats 1000000 in
theorem sized_any (n : Nat) (F C U : Int) (a : Option Addr) (l cap : Nat) (xs : List UInt8) (w : World) (hn : n ≤ 128) (hP : Rd w a l cap xs) :
    Calls Tryd.prog 24 #[geo n F C U, .slice a l cap] w fun e w' => ∃ v, e = .returned v ∧ w'.ownsRow w.heap.size 9 1 v n (strs (szL xs n)) ∧ Below w.heap.size w w' := by
  obtain ⟨i0, hi, hz0, hz1, hz2⟩ := info_parts Tryd.info9
  have hb0 := (Below.refl w.heap.size w).alloc (Nat.le_refl _) (gbox n F C U)
  have hgc : ∀ wr, Below (w.heap.size + 1) (w.alloc (gbox n F C U)) wr → wr.cell? ⟨w.heap.size, 0, none⟩ = some (.int .i64 (n : Int)) := fun wr h => (gbox_cells h).1
  have hfl := fun x w => rfill_any (x.toNat : Int) x rfl w
  have hlen := hP.len
  have hbig := hP.big
  have HP := Lib.hid hP
  have HGC := Lib.hid hgc
  have HFL := Lib.hid hfl
  have HB0 := Lib.hid hb0
  clear hP hgc hfl hb0
  unfold geo
  unfold gbox at HGC HB0
  go_enter Tryd.func24, Tryd.ntmps24
  go_wp2_with fail
  have hst := (Below.refl (w.heap.size + 1) (w.alloc (.cells #[.int .i64 (n : Int), .int .i64 F, .int .i64 C, .int .i64 U] 23)))
  go_loopw [5, 6] (fun s i wr => ∃ k : Nat, k ≤ n ∧ i = .int .i64 k ∧ wr.ownsRow (w.heap.size + 1) 9 1 s k (strs (szL xs k)) ∧ Below (w.heap.size + 1) (w.alloc (.cells #[.int .i64 (n : Int), .int .i64 F, .int .i64 C, .int .i64 U] 23)) wr) (fun _ i _ => n - (intOf i).toNat)
  case atStart => exact ⟨0, by omega, rfl, World.ownsRow_nil _ _ _ _, hst⟩
  case round =>
    clear hst
    obtain ⟨k, hk, rfl, ho, hB⟩ := hrel
    have g0 := HGC.out wr hB
    have hbs : w.heap.size + 1 ≤ wr.heap.size := by have := hB.size; simpa using this
    by_cases hlt : k < n
    · have j1 : (k : Int) < (n : Int) := by omega
      have j2 : (k : Int) < 128 := by omega
      have j0 : (0 : Int) ≤ (k : Int) := by omega
      have hnx := szL_next xs k
      obtain ⟨x, hx⟩ : ∃ x, x = xs[k]?.getD 0 := ⟨_, rfl⟩
      have hfl := fun w => HFL.out x w
      obtain ⟨sx, hsx⟩ : ∃ s, s = secOf x := ⟨_, rfl⟩
      rw [← hx, ← hsx] at hnx
      simp only [← hsx] at hfl
      have HNX := Lib.hid hnx
      have HO := Lib.hid ho
      have HB := Lib.hid hB
      have HBS := Lib.hid hbs
      clear hnx ho hB hbs hsx HFL
      by_cases hkl : k < l
      · have j3 : (k : Int) < (l : Int) := by omega
        obtain ⟨b, off, rfl, hbl, hc⟩ := (HP.out.later HB0.out).at0 (by omega)
        have hbl2 : b < w.heap.size + 1 := by simpa using hbl
        have hc1 := hc k hkl
        have c1 : wr.cell? ⟨b, off + k, none⟩ = some (.int .u8 (x.toNat : Int)) := by rw [HB.out.cell (by exact hbl2), hc1, hx]
        obtain ⟨X, hX⟩ : ∃ X, X = (x.toNat : Int) := ⟨_, rfl⟩
        rw [← hX] at c1
        simp only [← hX] at hfl
        clear hc hc1 hbl hbl2 hX hx
        go_wp2_with fail
        refine (hfl _).mono ?_
        rintro e w4 ⟨rfl, hb4⟩
        have hB4 := HB.out.trans (hb4.mono HBS.out)
        have ho4 := (owns_kept HO.out fun j hj => hb4.block j (HO.out.lt j hj).2)
        have ho5 := ho4.alloc (.cells #[.string sx] 9)
        have hs4 : w.heap.size + 1 ≤ w4.heap.size := by have := hB4.size; simpa using this
        have HB4 := Lib.hid hB4
        have HO4 := Lib.hid ho4
        have HS4 := Lib.hid hs4
        clear hb4 hfl ho4 hs4 hB4
        go_wp2_with (at_builtin; refine wpList_append_s (o := ⟨some 30, _, _, _, _, _⟩) rfl (.tmp 26) (.tmp 29) 24 rfl (w.heap.size + 1) i0 Tryd.underlying24 hi hz0 hz1 hz2 _ k _ rfl ho5 _ rfl rfl (by omega) (by have := HS4.out; simp; omega) ?_)
        intro v5 w5 h1 h2 _
        rw [← HNX.out] at h1
        have hB5 := (HB4.out.alloc HS4.out (.cells #[.string sx] 9)).grown h2 (by have := HS4.out; simp; omega) (fun x e => (HO4.out.lt x e).1)
        have HX := Lib.hid h1
        have HB5 := Lib.hid hB5
        clear h1 h2 hB5 ho5
        go_wp2
        go_roundw
        case rel => exact ⟨k + 1, by omega, by go_num, HX.out, HB5.out⟩
        case measure => simp [intOf]; omega
      · have j3 : ¬ (k : Int) < (l : Int) := by omega
        have hx0 : x = 0 := by rw [hx, List.getElem?_eq_none (by omega)]; rfl
        subst hx0
        have hfl : ∀ w, Calls Tryd.prog 49 #[.int .u8 0] w fun e w' => e = .returned (.string sx) ∧ Below w.heap.size w w' := hfl
        clear hx
        go_wp2_with fail
        refine (hfl _).mono ?_
        rintro e w4 ⟨rfl, hb4⟩
        have hB4 := HB.out.trans (hb4.mono HBS.out)
        have ho4 := (owns_kept HO.out fun j hj => hb4.block j (HO.out.lt j hj).2)
        have ho5 := ho4.alloc (.cells #[.string sx] 9)
        have hs4 : w.heap.size + 1 ≤ w4.heap.size := by have := hB4.size; simpa using this
        have HB4 := Lib.hid hB4
        have HO4 := Lib.hid ho4
        have HS4 := Lib.hid hs4
        clear hb4 hfl ho4 hs4 hB4
        go_wp2_with (at_builtin; refine wpList_append_s (o := ⟨some 30, _, _, _, _, _⟩) rfl (.tmp 26) (.tmp 29) 24 rfl (w.heap.size + 1) i0 Tryd.underlying24 hi hz0 hz1 hz2 _ k _ rfl ho5 _ rfl rfl (by omega) (by have := HS4.out; simp; omega) ?_)
        intro v5 w5 h1 h2 _
        rw [← HNX.out] at h1
        have hB5 := (HB4.out.alloc HS4.out (.cells #[.string sx] 9)).grown h2 (by have := HS4.out; simp; omega) (fun x e => (HO4.out.lt x e).1)
        have HX := Lib.hid h1
        have HB5 := Lib.hid hB5
        clear h1 h2 hB5 ho5
        go_wp2
        go_roundw
        case rel => exact ⟨k + 1, by omega, by go_num, HX.out, HB5.out⟩
        case measure => simp [intOf]; omega
    · obtain rfl : k = n := by omega
      have j1 : ¬ ((k : Nat) : Int) < ((k : Nat) : Int) := by omega
      have HO := Lib.hid (towns_low ho (show w.heap.size ≤ w.heap.size + 1 by omega))
      have HB := Lib.hid (HB0.out.trans (hB.mono (show w.heap.size ≤ w.heap.size + 1 by omega)))
      clear ho hB
      go_wp2
      go_ret
      exact ⟨_, rfl, HO.out, HB.out⟩
end Go.Proofs.YtojanhpilhledaaDoor

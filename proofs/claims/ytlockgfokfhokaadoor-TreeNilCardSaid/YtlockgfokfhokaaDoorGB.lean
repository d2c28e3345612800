/-
  Contract of the reference's Parent.
-/
import Derived.Test.YtlockgfokfhokaaDoorGA
namespace Go.Proofs.YtlockgfokfhokaaDoor
open Go.RowKit
set_option linter.unusedVariables false
set_option linter.unusedSimpArgs false

theorem ch_mem {n f k : Nat} (i : Nat) : i < (ch n f k).length → (ch n f k)[i]?.getD 0 = ((chA n f k + i : Nat) : Int) ∧ i < chNG n f k := by
  intro h
  have h' : i < chNG n f k := by simpa [ch] using h
  exact ⟨by simp [ch, List.getElem?_map, List.getElem?_range h'], h'⟩

theorem chA_top {n f k : Nat} (h : Ok n f) (hk : k < S n f (H n f + 1)) (j : Nat) (hj : j < chNG n f k) : chA n f k + j < S n f (H n f + 1) := by
  obtain ⟨a1, a2, a3⟩ := lvl_spec hk
  have hm := @S_mono n f (lvl n f k) (H n f + 1) (by omega)
  unfold chNG at hj
  split at hj <;> omega

theorem parent_child {N F C U : Int} {node : Int} {k i : Nat} (hk : k < nodes N F C U) (hi : i < (children N F C U k).length) (he : (children N F C U k)[i]?.getD 0 = node) : parent N F C U node = (k : Int) := by
  by_cases hok : okG N F C U
  · obtain ⟨n, f, rfl, rfl, ho⟩ := ok_of hok
    have e2 : nodes n f C U = S n f (H n f + 1) := if_pos hok
    rw [e2] at hk
    have hin : okG (n : Int) (f : Int) C U ∧ 0 ≤ (k : Int) ∧ (k : Int) < (S n f (H n f + 1) : Nat) := ⟨hok, by omega, by omega⟩
    have e : children n f C U k = ch n f k := if_pos hin
    rw [e] at hi he
    obtain ⟨h1, h2⟩ := ch_mem i hi
    rw [h1] at he
    subst he
    have h3 := chA_top ho hk i h2
    have hin2 : okG (n : Int) (f : Int) C U ∧ 0 ≤ ((chA n f k + i : Nat) : Int) ∧ ((chA n f k + i : Nat) : Int) < (S n f (H n f + 1) : Nat) := ⟨hok, by omega, by omega⟩
    have e3 : parent n f C U ((chA n f k + i : Nat) : Int) = par n f (chA n f k + i) := if_pos hin2
    rw [e3]
    exact (family ho hk h3).1 ⟨by omega, by omega⟩
  · have e2 : nodes N F C U = 0 := if_neg hok
    omega

theorem parent_none {N F C U : Int} {node : Int} (hno : ∀ k, k < nodes N F C U → ∀ i, i < (children N F C U k).length → (children N F C U k)[i]?.getD 0 ≠ node) : parent N F C U node = -1 := by
  rcases level_cases N F C U node with ⟨-, h2, -⟩ | ⟨n, f, j, x, rfl, rfl, rfl, ho, hok, hj, hx1, hx2, -, -, h2, -, -, h4⟩
  · exact h2
  · rw [h2]
    by_cases hjH : j = H n f
    · subst hjH; exact par_top hx1 hx2
    · exfalso
      have hp := par_at (by omega) hx1 hx2
      have hlt := par_lt ho hx1 hx2
      generalize S n f (j + 1) + (x - S n f j) / f = p at *
      have hm := @S_mono n f (j + 2) (H n f + 1) (by omega)
      have hm2 := @S_mono n f (j + 1) (H n f + 1) (by omega)
      have hpl : p < S n f (H n f + 1) := by omega
      obtain ⟨c1, c2⟩ := (family ho hpl (by omega)).2 hp
      have hin : okG (n : Int) (f : Int) C U ∧ 0 ≤ (p : Int) ∧ (p : Int) < (S n f (H n f + 1) : Nat) := ⟨hok, by omega, by omega⟩
      have e : children n f C U p = ch n f p := if_pos hin
      have hl : (ch n f p).length = chNG n f p := by simp [ch]
      have := hno p (by omega) (x - chA n f p) (by rw [e, hl]; omega)
      rw [e] at this
      have h1 := (ch_mem (n := n) (f := f) (k := p) (x - chA n f p) (by omega)).1
      rw [h1] at this
      exact this (by omega)

theorem children_len (N F C U node : Int) : (children N F C U node).length ≤ 4 := by
  unfold children
  split
  · rename_i h
    obtain ⟨n, f, rfl, rfl, ho⟩ := ok_of h.1
    have := ho.f2
    simp only [Int.toNat_natCast, ch, List.length_map, List.length_range]
    unfold chNG
    split <;> omega
  · simp

theorem nodes_le (N F C U : Int) : nodes N F C U ≤ 255 := by have := levels_pre N F C U; have := this.2.1 _ (Nat.le_refl _); omega

set_option maxRecDepth 20000 in
set_option maxHeartbeats 1000000 in
theorem rparent_any (N F C U node : Int) (w : World) :
    Calls Tryd.prog 66 #[geo N F C U, .int .i64 node] w fun e w' => e = .returned (.int .i64 (parent N F C U node)) ∧ Below w.heap.size w w' := by
  have hr := rnodes_any N F C U
  have hch := fun k => rchildren_any N F C U k
  have hb0 := (Below.refl w.heap.size w).alloc (Nat.le_refl _) (gbox N F C U)
  have hfound := fun k i => parent_child (N := N) (F := F) (C := C) (U := U) (node := node) (k := k) (i := i)
  have hnone := parent_none (N := N) (F := F) (C := C) (U := U) (node := node)
  have hcl := children_len N F C U
  have hnl := nodes_le N F C U
  generalize nodes N F C U = M at *
  generalize parent N F C U node = R at *
  generalize children N F C U = CH at *
  unfold geo at *
  go_enter Tryd.func66, Tryd.ntmps66
  go_wp2_with fail
  refine (hr _).mono ?_
  rintro e w1 ⟨rfl, hb⟩
  have hb1 : Below (w.heap.size + 1) (w.alloc (gbox N F C U)) w1 := hb.mono (by simp)
  clear hb hr
  go_wp2
  go_loopw [6] (fun y wr => ∃ k : Nat, k ≤ M ∧ y = .int .i64 (k : Int) ∧ (∀ j, j < k → ∀ i, i < (CH j).length → (CH j)[i]?.getD 0 ≠ node) ∧ Below (w.heap.size + 1) (w.alloc (gbox N F C U)) wr) (fun y _ => M - (intOf y).toNat)
  case atStart => exact ⟨0, by omega, rfl, fun j hj => by omega, hb1⟩
  case round =>
    obtain ⟨k, hk9, rfl, hno, hB⟩ := hrel
    by_cases hlt : k < M
    · obtain ⟨c1, c2, c3, c4⟩ := gbox_cells hB
      have hck := hch (k : Int)
      have hsz : w.heap.size + 1 ≤ wr.heap.size := by have := hB.size; simpa using this
      have HNO := Lib.hid hno
      have HF := Lib.hid (hfound k)
      have hcl4 := hcl (k : Int)
      have HB := Lib.hid hB
      clear hno hch hnone hfound hB
      go_wp2_with fail
      refine (hck _).mono ?_
      rintro e w2 ⟨⟨v, rfl, a, m, c, rfl, hri, -⟩, hb2⟩
      have hB2 := HB.out.trans (hb2.mono hsz)
      have hm := hri.len
      have HB2 := Lib.hid hB2
      clear hb2 HB c1 c2 c3 c4 hck hB2
      go_wp2
      go_loopw [8] (fun y w' => ∃ i : Nat, i ≤ m ∧ y = .int .i64 (i : Int) ∧ (∀ j, j < i → (CH k)[j]?.getD 0 ≠ node) ∧ w' = w2) (fun y _ => m - (intOf y).toNat)
      case atStart => exact ⟨0, by omega, rfl, fun j hj => by omega, rfl⟩
      case round =>
        obtain ⟨i, hi9, rfl, hno, hw⟩ := hrel
        obtain rfl := hw.symm
        by_cases hlt2 : i < m
        · obtain ⟨b, off, rfl, hbl, hc⟩ := hri.at0 (by omega)
          have hci := hc i hlt2
          have hno2 : (CH k)[i]?.getD 0 ≠ node → ∀ j, j < i + 1 → (CH k)[j]?.getD 0 ≠ node := fun h j hj => by
            by_cases e : j = i
            · subst e; exact h
            · exact hno j (by omega)
          have hfi := HF.out i hlt (by omega)
          have i1 : (0 : Int) ≤ (i : Int) := by omega
          have i2 : (i : Int) < (m : Int) := by omega
          have hm4 : m ≤ 4 := by omega
          have HM := Lib.hid hm
          clear hno hc hw hm
          generalize (CH k)[i]?.getD 0 = z at *
          by_cases hz : z = node
          · have hR := hfi hz
            have HR := Lib.hid hR
            subst hz
            clear hfi hno2 hR
            go_wp2
            go_ret
            exact ⟨by rw [HR.out]; rfl, HB2.out.mono (by omega) |> fun h => (hb0.trans h)⟩
          · have HN2 := Lib.hid (hno2 hz)
            have hz2 : (z == node) = false := by simpa using hz
            clear hno2 hfi hz
            go_wp2
            go_roundw
            case rel => exact ⟨i + 1, by omega, by go_num, HN2.out, by first | rfl | trivial⟩
            case measure => simp [intOf]; omega
        · obtain rfl : i = m := by omega
          have hno2 : ∀ j, j < k + 1 → ∀ i, i < (CH j).length → (CH j)[i]?.getD 0 ≠ node := fun j hj i' hi' => by
            by_cases e : j = k
            · subst e; exact hno i' (by omega)
            · exact HNO.out j (by omega) i' hi'
          have HN2 := Lib.hid hno2
          clear hno2 hno hw HNO
          go_wp2
          go_roundw
          case rel => exact ⟨k + 1, by omega, by go_num, HN2.out, HB2.out⟩
          case measure => simp [intOf]; omega
    · obtain rfl : k = M := by omega
      have HR := Lib.hid (hnone hno)
      clear hno hnone hfound hch
      go_wp2
      go_ret
      exact ⟨by rw [HR.out]; rfl, hb0.trans (hB.mono (by omega))⟩

end Go.Proofs.YtlockgfokfhokaaDoor


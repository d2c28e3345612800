/-
  Contracts of starts and levelOf.
-/
import Derived.Test.YtlockgfokfhokaaDoorG4
namespace Go.Proofs.YtlockgfokfhokaaDoor
open Go.RowKit
set_option linter.unusedVariables false
set_option linter.unusedSimpArgs false

/-- The sums of the first numbers, up to the i-th. -/
def stt (xs : List Int) (i : Nat) : List Int := (List.range (i + 1)).map (pre xs)
theorem stt_next (xs : List Int) (i : Nat) : stt xs (i + 1) = stt xs i ++ [pre xs (i + 1)] := by simp [stt, List.range_succ]
theorem stt_length (xs : List Int) (i : Nat) : (stt xs i).length = i + 1 := by simp [stt]
theorem stt_at (xs : List Int) (m i : Nat) (hi : i ≤ m) : (stt xs m)[i]?.getD 0 = pre xs i := by
  simp [stt, List.getElem?_map, List.getElem?_range (show i < m + 1 by omega)]

set_option maxRecDepth 20000 in
set_option maxHeartbeats 400000 in
theorem starts_any (N F C U : Int) (w : World) :
    Calls Tryd.prog 73 #[geo N F C U] w fun e w' => (∃ v, e = .returned v ∧ Lf w' w.heap.size v (stt (levels N F C U) (levels N F C U).length)) ∧ Below w.heap.size w w' := by
  have hr := levels_any N F C U
  obtain ⟨p1, p2, p3⟩ := levels_pre N F C U
  clear p3
  generalize levels N F C U = xs at *
  obtain ⟨i0, hi, hz0, hz1, hz2⟩ := info_parts Tryd.info3
  have hb0 := (Below.refl w.heap.size w).alloc (Nat.le_refl _) (gbox N F C U)
  have hown0 := one_owns (w.alloc (gbox N F C U)) w.heap.size 0 (by simp)
  have hb00 := hb0.alloc (by simp) (.cells #[.int .i64 0] 3)
  have hc0 : ((w.alloc (gbox N F C U)).alloc (.cells #[.int .i64 0] 3)).heap.size = w.heap.size + 2 := by simp
  unfold geo at hr ⊢
  go_enter Tryd.func73, Tryd.ntmps73
  go_wp2_with fail
  refine (hr _).mono ?_
  rintro e w1 ⟨⟨v, rfl, a, n, c, rfl, hri, hfr⟩, hb⟩
  have hown1 : w1.ownsRow w.heap.size 3 1 (.slice (some ⟨w.heap.size + 1, 0, none⟩) 1 1) 1 (ivs [0]) := by
    have := hown0.kept (w' := w1) (row := none) ⟨hb.os, hb.tape, hb.output, hb.size, fun k hk _ => hb.block k hk⟩ (.inr (by simp [Value.ownBlock]))
    simpa using this
  have hb1 : Below w.heap.size w w1 := hb00.trans (hb.mono (by simp; omega))
  have hfr1 : ∀ b off, a = some ⟨b, off, none⟩ → w.heap.size + 2 ≤ b := fun b off e => by have := hfr b off e; simp at this; omega
  have hs1 : w.heap.size ≤ w1.heap.size := hb1.size
  clear hb hfr hb0 hb00 hc0 hown0 hr
  have hl := hri.len
  have hle := hri.le
  go_wp2
  go_loopw [10, 3] (fun x l wr => ∃ i : Nat, i ≤ n ∧ x = .int .i64 (i : Int) ∧ wr.ownsRow w.heap.size 3 1 l (i + 1) (ivs (stt xs i)) ∧ Ri wr a n c xs ∧ (∀ b off, a = some ⟨b, off, none⟩ → l.ownBlock ≠ some b) ∧ Below w.heap.size w wr) (fun x _ _ => n - (intOf x).toNat)
  case atStart => exact ⟨0, by omega, rfl, hown1, hri, fun b off e => by simp [Value.ownBlock]; have := hfr1 b off e; omega, hb1⟩
  case round =>
    obtain ⟨i, hi9, rfl, hown, hri, hsep, hB⟩ := hrel
    have hp := p2 i (by omega)
    by_cases hlt : i < n
    · have i00 : (i : Int) < (n : Int) := by omega
      have i1 : (0 : Int) ≤ (i : Int) := by omega
      have hp1 := p2 (i + 1) (by omega)
      have he : pre xs (i + 1) = pre xs i + xs[i]?.getD 0 := rfl
      have hnx := stt_next xs i
      have hls := stt_at xs i i (Nat.le_refl _)
      rw [he] at hp1 hnx
      obtain ⟨b, off, rfl, hbl, hc⟩ := hri.at0 (by omega)
      have hci := hc i hlt
      have hne := hsep b off rfl
      obtain ⟨al, cl, rfl, hrl, -⟩ := iowns_shape hown (by omega)
      obtain ⟨bl, offl, rfl, hbll, hcl⟩ := hrl.at0 (by omega)
      have hcli := hcl i (by omega)
      rw [hls] at hcli
      generalize xs[i]?.getD 0 = y at *
      generalize pre xs i = z at *
      have HB := Lib.hid hB
      have HS := Lib.hid hB.size
      have y1 : -9223372036854775808 ≤ z + y := by omega
      have y2 : z + y ≤ 9223372036854775807 := by omega
      clear he hc hcl hls hp hp1
      have ho := hown.alloc (.cells #[.int .i64 (z + y)] 3)
      have HB1 := Lib.hid (hB.alloc hB.size (.cells #[.int .i64 (z + y)] 3))
      have HBS := Lib.hid (show w.heap.size ≤ (wr.alloc (.cells #[.int .i64 (z + y)] 3)).heap.size by simp; have := hB.size; omega)
      have HR := Lib.hid (hri.later ((Below.refl _ _).alloc (Nat.le_refl _) (.cells #[.int .i64 (z + y)] 3)))
      clear hri hB
      go_wp2_with (at_builtin; refine wpList_append_ia (o := ⟨some 24, _, _, _, _, _⟩) rfl (.tmp 14) (.tmp 23) 46 rfl w.heap.size i0 Tryd.underlying46 hi hz0 hz1 hz2 _ (i + 1) _ rfl ho _ rfl rfl (by omega) HBS.out ?_)
      intro v' w5 hown5 hgrow hat
      rw [← hnx] at hown5
      have hB5 := HB1.out.grown hgrow HBS.out (fun j hj => (hown.lt j hj).1)
      have hr5 := HR.out.gb hgrow (fun b' off' e => by
        simp only [Option.some.injEq, Addr.mk.injEq] at e
        rw [← e.1]; exact hne)
      have hsep5 : ∀ b' off', some (⟨b, off, none⟩ : Addr) = some ⟨b', off', none⟩ → v'.ownBlock ≠ some b' := fun b' off' e h => by
        simp only [Option.some.injEq, Addr.mk.injEq] at e
        rcases hat with h2 | h2
        · rw [h2, ← e.1] at h; exact hne h
        · rw [h2] at h
          simp at h
          omega
      clear hown ho hgrow hat
      obtain ⟨al', cl', rfl, -, -⟩ := iowns_shape hown5 (by omega)
      go_wp2
      go_roundw
      case rel => exact ⟨i + 1, by omega, by go_num, hown5, hr5, hsep5, hB5⟩
      case measure => simp [intOf]; omega
    · obtain rfl : i = n := by omega
      obtain ⟨al, cl, rfl, hrl, hge⟩ := iowns_shape hown (by omega)
      go_wp2
      go_ret
      exact ⟨⟨_, rfl, _, _, _, rfl, by rw [hl]; exact hrl, fun b off e => hge b off _ e⟩, hB⟩

end Go.Proofs.YtlockgfokfhokaaDoor


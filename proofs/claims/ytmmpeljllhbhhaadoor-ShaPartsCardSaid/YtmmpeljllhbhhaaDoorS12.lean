/-
  The walk of ShaParts.
-/
import Derived.Test.YtmmpeljllhbhhaaDoorS10
import Derived.Test.YtmmpeljllhbhhaaDoorS11
namespace Go.Proofs.YtmmpeljllhbhhaaDoor
open Go.RowKit
set_option linter.unusedVariables false
set_option linter.unusedSimpArgs false

/-- The slice value reads as a list of slices of bytes; the short ones are read. -/
structure Parts (w : World) (a : Option Addr) (l : Nat) : Prop where
  at0 : 0 < l → ∃ b off, a = some ⟨b, off, none⟩ ∧ b < w.heap.size ∧ ∀ i, i < l → ∃ ai ni ci xs, w.cell? ⟨b, off + i, none⟩ = some (.slice ai ni ci) ∧ (ni ≤ 1000 → Rd w ai ni ci xs)

theorem neq_V {V : Value} {s : ByteArray} (hs : Hid (V = .string s)) (w : World) : (binOp .neq 9 V V).run Tryd.prog w = .ok (.bool false) w := by rw [hs.out]; go_simp
theorem neqg_V {V : Value} {s : ByteArray} (hs : Hid (V = .string s)) (x y : Operand) (w : World) : (eqGuard .neq 9 x y V V).run Tryd.prog w = .ok () w := by rw [hs.out]; go_simp

set_option maxRecDepth 20000 in
set_option maxHeartbeats 2000000 in
theorem parts_walk (a : Option Addr) (l cap : Nat) (w : World) (hK : Kon w) (hP : Parts w a l) (hl : l ≤ 9223372036854775807) :
    Calls Tryd.prog 4 #[.slice a l cap] w fun e w' => e = .returned (.bool true) ∧ Below w.heap.size w w' := by
  have HK := Lib.hid hK
  have HP := Lib.hid hP
  obtain ⟨i5, hi, hz0, hz1, hz2⟩ := info_parts Tryd.info5
  clear hK hP
  go_enter Tryd.func4, Tryd.ntmps4
  go_wp2_with fail
  refine (new_hash _).mono ?_
  rintro e w1 ⟨p, rfl, hp, hh, hb1⟩
  have hp0 : p ≠ 0 := by have := HK.out.lt; omega
  obtain ⟨Bs, hBs⟩ : ∃ Bs, Bs = w1.heap.size := ⟨_, rfl⟩
  have hpB : p < Bs := by rw [hBs]; exact hh.lt
  have hwB : w.heap.size ≤ Bs := by omega
  go_wp2
  go_loopw [4, 5] (fun v i wr => ∃ (k : Nat) (zs : List UInt8), k ≤ 30 ∧ i = .int .i64 k ∧ wr.ownsRow Bs 5 1 v zs.length (bvs zs) ∧ zs.length ≤ 1000 * k ∧ Hsh wr p zs ∧ Bs ≤ wr.heap.size ∧ Below w.heap.size w wr) (fun _ i _ => 30 - (intOf i).toNat)
  case atStart => exact ⟨0, [], by omega, rfl, World.ownsRow_nil _ _ _ _, by simp, hh, by omega, hb1⟩
  case round =>
    clear hh hb1 hBs
    obtain ⟨k, zs, hk, rfl, hown, hzl, hh, hbs, hB⟩ := hrel
    obtain ⟨av, cv, rfl, hrd, hab⟩ := owns_shape hown (by omega)
    have hKr := HK.out.below hB
    by_cases hlt : k < l ∧ k < 30
    · obtain ⟨hlt1, hlt2⟩ := hlt
      obtain ⟨b, off, rfl, hbl, hel⟩ := HP.out.at0 (by omega)
      obtain ⟨ai, ni, ci, xs, hcell, hri⟩ := hel k hlt1
      have hc : wr.cell? ⟨b, off + k, none⟩ = some (.slice ai ni ci) := by rw [hB.cell (by exact hbl)]; exact hcell
      have i1 : (k : Int) < (l : Int) := by omega
      have i2 : (k : Int) < 30 := by omega
      clear hel hcell
      by_cases hbig : (1000 : Int) < ni
      · have HKr := Lib.hid hKr
        have HB := Lib.hid hB
        clear hKr hB hh hown hrd hri
        go_wp2_with fail
        refine (known_true _ HKr.out).mono ?_
        rintro e w2 ⟨rfl, hb2⟩
        go_wp2
        go_ret
        exact ⟨rfl, HB.out.trans (hb2.mono HB.out.size)⟩
      · have hRi := hri (by omega)
        have hRw := hRi.kept0 (w' := wr) hB.size (fun b' o' e h0 => hB.block b' (by obtain ⟨b2, o2, e2, hb2, _⟩ := hRi.at0 h0; rw [e] at e2; cases e2; exact hb2))
        have hne : ∀ x, ai = some x → 0 < ni → x.block ≠ p := fun x e h0 => by
          obtain ⟨b2, o2, e2, hb2, _⟩ := hRi.at0 h0
          rw [e] at e2; cases e2
          show b2 ≠ p; omega
        have hw := write_any p zs ai ni ci xs wr hh hRw hne hKr hp0 (by omega)
        have HW := Lib.hid hw
        have HKr := Lib.hid hKr
        have HB := Lib.hid hB
        have HRi := Lib.hid hRi
        have HO := Lib.hid hown
        have HL := Lib.hid hRi.len
        clear hw hKr hB hRi hRw hne hri hown hh hrd
        go_wp2_with fail
        refine HW.out.mono ?_
        rintro e w2 ⟨rfl, hst, hgr⟩
        have hB2 : Below w.heap.size w w2 := HB.out.grown hgr HB.out.size (fun j hj => by cases hj; exact hp)
        have hc2 : w2.cell? ⟨b, off + k, none⟩ = some (.slice ai ni ci) := by
          rw [World.cell?_of_block (w := wr) (hgr.block b (by have := HB.out.size; omega) (by show some b ≠ some p; intro e; cases e; omega))]; exact hc
        have hown2 : w2.ownsRow Bs 5 1 (.slice av zs.length cv) zs.length (bvs zs) := World.ownsRow.kept HO.out hgr (by
          by_cases e : (Value.slice av zs.length cv).ownBlock = some p
          · have := (World.ownsRow.lt HO.out p e).1; omega
          · exact .inr e)
        have hlen2 := HL.out
        have HST := Lib.hid hst
        have hR2 := HRi.out.kept0 (w' := w2) hB2.size (fun b' o' e h0 => hB2.block b' (by obtain ⟨b2, o2, e2, hb2, _⟩ := HRi.out.at0 h0; rw [e] at e2; cases e2; exact hb2))
        have hbs2 := Nat.le_trans hbs hgr.size
        have HB2 := Lib.hid hB2
        have HO2 := Lib.hid hown2
        have HR2 := Lib.hid hR2
        clear hst hgr hB2 hown2 hR2 hc
        go_wp2_with (at_builtin; refine wpList_append_rd (o := ⟨some 35, _, _, _, _, _⟩) rfl (.tmp 30) (.tmp 34) 22 rfl Bs 5 i5 Tryd.underlying22 hi hz0 hz1 hz2 (.slice av zs.length cv) zs.length zs rfl HO2.out ai ni ci xs rfl HR2.out (by omega) hbs2 ?_)
        intro v3 w3 hown3 hgr3
        have hBp : ∀ j, (Value.slice av zs.length cv).ownBlock = some j → Bs ≤ j := fun j e => (World.ownsRow.lt HO2.out j e).1
        have hB3 : Below w.heap.size w w3 := HB2.out.grown hgr3 HB2.out.size (fun j hj => Nat.le_trans hwB (hBp j hj))
        have hH3 : Hsh w3 p (zs ++ xs) := (HST.out.kept (hgr3.block p (by omega) (fun e => by have := hBp p e.symm; omega))).hsh (by rw [List.length_append]; omega)
        have hbs3 := Nat.le_trans hbs2 hgr3.size
        have hl3 : (zs ++ xs).length = zs.length + ni := by rw [List.length_append, hlen2]
        obtain ⟨all, hall⟩ : ∃ all, all = zs ++ xs := ⟨_, rfl⟩
        rw [← hall] at hown3 hH3 hl3
        rw [← hl3] at hown3
        obtain ⟨a3, c3, rfl, hrd3, _⟩ := owns_shape hown3 (by omega)
        have hall2 : all.length ≤ 1000 * (k + 1) := by omega
        obtain ⟨V, hVe⟩ : ∃ V, V = strV (dig all) := ⟨_, rfl⟩
        have HV : Hid (V = .string _) := Lib.hid (hVe.trans rfl)
        have e1 := neq_V HV
        have e2 := neqg_V HV
        have hs1 := hsum_any p all w3 hH3 (HK.out.below hB3) (by omega)
        have hs2 := fun w4 (h : Rd w4 a3 all.length c3 all) => rsum_any a3 all.length c3 all w4 h (by omega)
        rw [← hVe] at hs1 hs2
        have hnn : (((all.length : Nat) : Int) != ((all.length : Nat) : Int)) = false := by simp
        have HS1 := Lib.hid hs1
        have HS2 := Lib.hid hs2
        have HB3 := Lib.hid hB3
        have HH3 := Lib.hid hH3
        have HO3 := Lib.hid hown3
        have HR3 := Lib.hid hrd3
        have hal : all.length ≤ 30000 := by omega
        clear hs1 hs2 hB3 hH3 hown3 hrd3 hgr3 hBp hVe hall hl3 hab
        go_wp2_with fail
        refine HS1.out.mono ?_
        rintro e w4 ⟨rfl, hb4⟩
        have HR4 := Lib.hid (HR3.out.later hb4)
        have HH4 := Lib.hid (HH3.out.below hb4)
        have HB4 := Lib.hid (HB3.out.trans (hb4.mono HB3.out.size))
        have HO4 := Lib.hid (World.ownsRow.kept HO3.out (row := none) ⟨hb4.os, hb4.tape, hb4.output, hb4.size, fun j hj _ => hb4.block j hj⟩ (by cases hv : (Value.slice a3 all.length c3).ownBlock <;> simp))
        have hbs4 := Nat.le_trans hbs3 hb4.size
        clear hb4
        go_wp2_with fail
        refine (HS2.out _ HR4.out).mono ?_
        rintro e w5 ⟨rfl, hb5⟩
        have HH5 := Lib.hid (HH4.out.below hb5)
        have HB5 := Lib.hid (HB4.out.trans (hb5.mono HB4.out.size))
        have HO5 := Lib.hid (World.ownsRow.kept HO4.out (row := none) ⟨hb5.os, hb5.tape, hb5.output, hb5.size, fun j hj _ => hb5.block j hj⟩ (by cases hv : (Value.slice a3 all.length c3).ownBlock <;> simp))
        have hbs5 := Nat.le_trans hbs4 hb5.size
        clear hb5
        go_wp2_with fail
        refine (len_any p _ w5 HH5.out).mono ?_
        rintro e w6 ⟨rfl, rfl⟩
        go_wp2
        go_roundw
        case rel => exact ⟨k + 1, all, by omega, by go_num, HO5.out, hall2, HH5.out, hbs5, HB5.out⟩
        case measure => simp [intOf]; omega
    · obtain ⟨V, hVe⟩ : ∃ V, V = strV (dig zs) := ⟨_, rfl⟩
      have HV : Hid (V = .string _) := Lib.hid (hVe.trans rfl)
      have e1 := eql_V HV
      have e2 := guard_V HV
      have hs1 := hsum_any p zs wr hh hKr (by omega)
      have hs2 := fun w4 (h : Rd w4 av zs.length cv zs) (k4 : Kon w4) => sum_any av zs.length cv zs w4 h k4 (by omega)
      rw [← hVe] at hs1 hs2
      have HS1 := Lib.hid hs1
      have HS2 := Lib.hid hs2
      have HB := Lib.hid hB
      have HKr := Lib.hid hKr
      have HRd := Lib.hid hrd
      clear hs1 hs2 hB hKr hrd hown hh hVe hab
      by_cases hkl : (k : Int) < (l : Int)
      · have hk30 : ¬ (k : Int) < 30 := by omega
        go_wp2_with fail
        refine HS1.out.mono ?_
        rintro e w4 ⟨rfl, hb4⟩
        have HK4 := Lib.hid (HKr.out.below hb4)
        have HR4 := Lib.hid (HRd.out.later hb4)
        have HB4 := Lib.hid (HB.out.trans (hb4.mono HB.out.size))
        clear hb4
        go_wp2_with fail
        refine (HS2.out _ HR4.out HK4.out).mono ?_
        rintro e w5 ⟨rfl, hb5⟩
        have HK5 := Lib.hid (HK4.out.below hb5)
        have HB5 := Lib.hid (HB4.out.trans (hb5.mono HB4.out.size))
        clear hb5
        go_wp2_with fail
        refine (known_true _ HK5.out).mono ?_
        rintro e w6 ⟨rfl, hb6⟩
        go_wp2
        go_ret
        exact ⟨rfl, HB5.out.trans (hb6.mono HB5.out.size)⟩
      · go_wp2_with fail
        refine HS1.out.mono ?_
        rintro e w4 ⟨rfl, hb4⟩
        have HK4 := Lib.hid (HKr.out.below hb4)
        have HR4 := Lib.hid (HRd.out.later hb4)
        have HB4 := Lib.hid (HB.out.trans (hb4.mono HB.out.size))
        clear hb4
        go_wp2_with fail
        refine (HS2.out _ HR4.out HK4.out).mono ?_
        rintro e w5 ⟨rfl, hb5⟩
        have HK5 := Lib.hid (HK4.out.below hb5)
        have HB5 := Lib.hid (HB4.out.trans (hb5.mono HB4.out.size))
        clear hb5
        go_wp2_with fail
        refine (known_true _ HK5.out).mono ?_
        rintro e w6 ⟨rfl, hb6⟩
        go_wp2
        go_ret
        exact ⟨rfl, HB5.out.trans (hb6.mono HB5.out.size)⟩
end Go.Proofs.YtmmpeljllhbhhaaDoor

/-
  The law of a reader that is asked again and again: the walk.
-/
import Derived.Test.YtdedkaolghodoaaA8
import Derived.Deep.RegionWith
import Derived.Deep.DrawnRows
import Derived.Deep.DeepCutAuto
namespace Go.Proofs.Ytdedkaolghodoaa
open Go.RowKit
set_option linter.unusedVariables false
attribute [local go_sem ↓] Go.wp_at_zero Go.wp_at_succ

/-- What is asked, one after another: a slice of pairs. -/
structure Asks (w : World) (a : Option Addr) (n : Nat) (B : Nat) (L : List (Bool × Int)) : Prop where
  len : L.length = n
  big : n ≤ 140737488355328
  at0 : 0 < n → ∃ b off, a = some ⟨b, off, none⟩ ∧ b < B ∧ ∀ i, i < n → w.cell? ⟨b, off + i * 2, none⟩ = some (.bool (L[i]?.getD (false, 0)).1) ∧ w.cell? ⟨b, off + i * 2 + 1, none⟩ = some (.int .i64 (L[i]?.getD (false, 0)).2)

theorem Asks.below {w w' : World} {a : Option Addr} {n B : Nat} {L : List (Bool × Int)} (h : Asks w a n B L) (hb : Below B w w') : Asks w' a n B L :=
  ⟨h.len, h.big, fun h0 => by
    obtain ⟨b, off, ha, hlt, hc⟩ := h.at0 h0
    exact ⟨b, off, ha, hlt, fun i hi => by rw [hb.cell (by exact hlt), hb.cell (by exact hlt)]; exact hc i hi⟩⟩

theorem RW.other {w w' : World} {p q : Nat} {ys : List UInt8} {e : Int} (h : RW w p ys e) (hg : w.grownBy w' (some q)) (hpq : p < q) : RW w' p ys e := by
  have hlt := h.lt
  obtain ⟨a, n, cap, hbk, hr, hl⟩ := h.blk
  exact ⟨a, n, cap, (hg.block p hlt (by simp; omega)).trans hbk, hr.kept hg.size (fun b off e => hg.block b (Nat.lt_trans (hl _ e) hlt) (by have := hl _ e; simp at this ⊢; omega)), hl⟩

theorem RS.other {w w' : World} {p q B : Nat} {xs : List UInt8} {i : Nat} {e : Int} (h : RS w q B xs i e) (hg : w.grownBy w' (some p)) (hpq : p ≠ q) (hB : B ≤ p) : RS w' q B xs i e := by
  have hlt := h.lt
  obtain ⟨a, n, cap, hb, hr, hi, hlB, hBq⟩ := h.blk
  exact ⟨a, n, cap, (hg.block q hlt (by simp; omega)).trans hb, hr.kept0 hg.size (fun b off e h0 => hg.block b (by have := hlB _ e h0; simp at this; omega) (by have := hlB _ e h0; simp at this ⊢; omega)), hi, hlB, hBq⟩

theorem RS.below {w w' : World} {q B : Nat} {xs : List UInt8} {i : Nat} {e : Int} (h : RS w q B xs i e) (hb : Below w.heap.size w w') : RS w' q B xs i e := by
  have hlt := h.lt
  obtain ⟨a, n, cap, hbk, hr, hi, hlB, hBq⟩ := h.blk
  exact ⟨a, n, cap, (hb.block q hlt).trans hbk, hr.later hb, hi, hlB, hBq⟩

theorem RW.same {w w' : World} {p : Nat} {ys : List UInt8} {e : Int} (h : RW w p ys e) (hs : w'.heap = w.heap) : RW w' p ys e := by
  obtain ⟨a, n, cap, hbk, hr, hl⟩ := h.blk
  exact ⟨a, n, cap, by rw [hs]; exact hbk, hr.same hs, hl⟩

/-- What the loop keeps. -/
structure Inv (w wr : World) (p q : Nat) (a : Option Addr) (n : Nat) (L : List (Bool × Int)) (xs : List UInt8) : Prop where
  both : ∃ (i : Nat) (e : Int), RW wr p (restOf xs i e) e ∧ RS wr q w.heap.size xs i e
  asks : Asks wr a n w.heap.size L
  old : Below w.heap.size w wr

theorem Inv.drewN {w wr : World} {p q : Nat} {a : Option Addr} {n : Nat} {L : List (Bool × Int)} {xs : List UInt8} (h : Inv w wr p q a n L xs) (k : Nat) : Inv w (wr.drewN k) p q a n L xs := by
  obtain ⟨⟨i, e, h1, h2⟩, h3, h4⟩ := h
  exact ⟨⟨i, e, h1.same rfl, h2.same rfl⟩, ⟨h3.len, h3.big, h3.at0⟩, ⟨h4.os, h4.tape, h4.output, h4.size, h4.block⟩⟩

theorem later_row {w0 w w' : World} {q : Nat} {a : Option Addr} {n cap : Nat} {xs : List UInt8} (h : Rd w a n cap xs) (hlow : ∀ x, a = some x → w0.heap.size ≤ x.block) (hg : w.grownBy w' (some q)) (hq : q < w0.heap.size) : Rd w' a n cap xs where
  len := h.len
  le := h.le
  big := h.big
  cm := h.cm
  at0 := fun h0 => by
    obtain ⟨b, off, ha, hlt, hc⟩ := h.at0 h0
    exact ⟨b, off, ha, Nat.lt_of_lt_of_le hlt hg.size, fun i hi => by
      rw [World.cell?_of_block (w := w) (hg.block b hlt (by have := hlow _ ha; simp at this ⊢; omega))]; exact hc i hi⟩
  nil := h.nil

theorem conv_V {w : World} {a : Option Addr} {n cap : Nat} {xs : List UInt8} {V : Value} (hs : Hid (V = .string ⟨xs.toArray⟩)) (h : Rd w a n cap xs) :
    (convert 22 9 (.slice a n cap)).run Try.prog w = .ok V w := by rw [hs.out]; exact run_string_rd h
theorem neq_string (s : ByteArray) (w : World) : (binOp .neq 9 (.string s) (.string s)).run Try.prog w = .ok (.bool false) w := by
  go_simp
theorem neq_V {V : Value} {s : ByteArray} (hs : Hid (V = .string s)) (w : World) : (binOp .neq 9 V V).run Try.prog w = .ok (.bool false) w := by rw [hs.out]; exact neq_string _ _
theorem neqg_V {V : Value} {s : ByteArray} (hs : Hid (V = .string s)) (x y : Operand) (w : World) : (eqGuard .neq 9 x y V V).run Try.prog w = .ok () w := by rw [hs.out]; go_simp

set_option maxHeartbeats 2000000 in
theorem reads_walk (a0 : Option Addr) (len0 cap0 : Nat) (x0 : List UInt8) (a1 : Option Addr) (len1 cap1 : Nat) (L : List (Bool × Int)) (w : World) (w0 : Rd w a0 len0 cap0 x0)
    (w1 : Asks w a1 len1 w.heap.size L) :
    Calls Try.prog 5 #[.slice a0 len0 cap0, .slice a1 len1 cap1] w fun e w' => e = .returned (.bool true) ∧ Below w.heap.size w w' := by
  go_enter Try.func5, Try.ntmps5
  go_wp2_with fail
  refine (new_any _ _ _ _ _ w0).mono ?_
  rintro e wa ⟨p, rfl, hp, hrw, hba⟩
  have r0 := w0.later hba
  have hlow : ∀ x, a0 = some x → 0 < len0 → x.block < w.heap.size := fun x e h0 => by
    obtain ⟨b, off, e2, hlt, _⟩ := w0.at0 h0
    rw [e] at e2
    cases e2
    exact hlt
  have hpl := hrw.lt
  have l0 := w1.below hba
  have h1big := w1.big
  go_wp2
  have hb2 : Below w.heap.size w (wa.alloc (.cells #[.slice a0 len0 cap0, .int .i64 0, .int .i64 0] 37)) := hba.alloc hba.size _
  have hinv : Inv w (wa.alloc (.cells #[.slice a0 len0 cap0, .int .i64 0, .int .i64 0] 37)) p wa.heap.size a1 len1 L x0 :=
    ⟨⟨0, 0, by rw [show restOf x0 0 0 = x0 from rfl]; exact hrw.below ((Below.refl _ _).alloc (Nat.le_refl _) _),
      ⟨a0, len0, cap0, heap_alloc_new wa _, r0.later ((Below.refl _ _).alloc (Nat.le_refl _) _), Nat.zero_le _, hlow, hba.size⟩⟩, w1.below hb2, hb2⟩
  obtain ⟨q, hq⟩ : ∃ q, q = wa.heap.size := ⟨_, rfl⟩
  have hpq : p < q := by omega
  rw [← hq] at hinv ⊢
  have hpq2 : w.heap.size ≤ q := by have := hba.size; omega
  have HW1 := Lib.hid w1
  clear hb2 hrw hba r0 hlow hpl l0 hq w1 w0
  go_loopw [7] (fun i wr => ∃ k : Nat, k ≤ len1 ∧ k ≤ 100 ∧ i = .int .i64 k ∧ Inv w wr p q a1 len1 L x0) (fun i _ => 100 - (intOf i).toNat)
  case atStart => exact ⟨0, by omega, by omega, rfl, hinv⟩
  case round =>
    clear hinv
    obtain ⟨k, hk, hk2, rfl, hinv⟩ := hrel
    have HI := Lib.hid hinv
    clear hinv
    by_cases hlt : k < len1
    · by_cases hlt2 : k < 100
      · obtain ⟨b1, off1, rfl, hbl, hc⟩ := HI.out.asks.at0 (by omega)
        have hcb := (hc k hlt).1
        have hcn := (hc k hlt).2
        have hcw : w.cell? ⟨b1, off1 + k * 2 + 1, none⟩ = some (.int .i64 (L[k]?.getD (false, 0)).2) := (HI.out.old.cell (by exact hbl)).symm.trans (hc k hlt).2
        clear hc
        generalize (L[k]?.getD (false, 0)).1 = isB at hcb
        generalize (L[k]?.getD (false, 0)).2 = m at hcn hcw
        have HCW := Lib.hid hcw
        clear hcw
        cases isB with
        | true =>
          obtain ⟨i, e, hrw, hrs⟩ := HI.out.both
          have hold := HI.out.old
          have N := fun (w : World) (h : RW w p (restOf x0 i e) e) => bytes_any p (restOf x0 i e) e m w h
          have R := fun (wz : World) (h : RS wz q w.heap.size x0 i e) => rbytes_any q w.heap.size x0 i e m wz h
          unfold RbPost at R
          generalize rbytes (restOf x0 i e) e m = rr at N R
          obtain ⟨zs, ys', e'⟩ := rr
          simp only at N R
          obtain ⟨V, hV⟩ : ∃ V : Value, V = .string ⟨zs.toArray⟩ := ⟨_, rfl⟩
          have HV := Lib.hid hV
          have HN := Lib.hid N
          have HR := Lib.hid R
          clear N R hV
          have hrwd : RW wr.drew p (restOf x0 i e) e := hrw.same rfl
          have hrsd : RS wr.drew q w.heap.size x0 i e := hrs.same rfl
          have hq1 := neq_V HV
          have hq2 := neqg_V HV
          go_wp2
          go_cut [44] (fun s wx => s = .bool false ∧ Inv w wx p q (some ⟨b1, off1, none⟩) len1 L x0)
          case first =>
            go_region_with (first
              | (go_at_call 13; refine (HN.out _ hrwd).mono ?_; rintro r wb ⟨ab, nb, cb, rfl, hrb, hlow, hrw1, hg1⟩; have hB1 := Below.trans (hold.drew) (gb_low hg1 hp hold.size); have hrs1 := hrsd.other hg1 (by omega) hp; have hcn1 : wb.cell? ⟨b1, off1 + k * 2 + 1, none⟩ = some (.int .i64 m) := (hB1.cell (by exact hbl)).trans HCW.out; have hsb := conv_V HV hrb)
              | (go_at_call 14; refine (HR.out _ hrs1).mono ?_; rintro r wd ⟨ac, nc, cc, rfl, hrc, hg2, i', hrs2, hrest⟩; have hsc := conv_V HV hrc; have hrb2 := later_row hrb hlow hg2 hrsd.lt; have hsb2 := conv_V HV hrb2))
            all_goals (go_wp2_with fail; go_meet; exact ⟨rfl, ⟨i', e', by rw [hrest]; exact hrw1.other hg2 hpq, hrs2⟩, HW1.out.below (hB1.trans (gb_low hg2 (by omega) hB1.size)), hB1.trans (gb_low hg2 (by omega) hB1.size)⟩)
          case rest =>
            obtain ⟨rfl, hinv2⟩ := hcut
            obtain ⟨i', e', hrw2, hrs2⟩ := hinv2.both
            have hl1 := fun (wz : World) (h : RW wz p (restOf x0 i' e') e') => left_any p (restOf x0 i' e') e' wz h
            have hl2 := fun (wz : World) (h : RS wz q w.heap.size x0 i' e') => rleft_any q w.heap.size x0 i' e' wz h
            generalize (((restOf x0 i' e').length : Nat) : Int) = lv at hl1 hl2
            have hy := fun (wz : World) (h : RW wz p (restOf x0 i' e') e') => why_any p (restOf x0 i' e') e' wz h
            have HL1 := Lib.hid hl1
            have HL2 := Lib.hid hl2
            have HY := Lib.hid hy
            have hce : wc.cell? ⟨q, 2, none⟩ = some (.int .i64 e') := by
              obtain ⟨_, _, _, hb, _⟩ := hrs2.blk
              exact cell_of_blk hb 2
            have HI2 := Lib.hid hinv2
            clear hl1 hl2 hy hinv2
            go_wp2
            go_quiet ((first | (go_at_call 17; exact Calls.quiet_of_same ((HL1.out _ (by exact hrw2.same rfl)).mono fun e w' ⟨h1, h2⟩ => ⟨h1, h2.symm⟩)) | (go_at_call 18; exact Calls.quiet_of (HL2.out _ (by exact hrs2.same rfl))) | (go_at_call 19; exact Calls.quiet_of_same ((HY.out _ (by exact hrw2.same rfl)).mono fun e w' ⟨h1, h2⟩ => ⟨h1, h2.symm⟩))))
            go_wp2
            go_roundw
            case rel => exact ⟨k + 1, by omega, by omega, by go_num, HI2.out.drewN _⟩
            case measure => simp [intOf]; omega
        | false =>
          obtain ⟨i, e, hrw, hrs⟩ := HI.out.both
          have hold := HI.out.old
          have N := fun (w : World) (h : RW w p (restOf x0 i e) e) => num_any p (restOf x0 i e) e m w h
          have R := fun (wz : World) (h : RS wz q w.heap.size x0 i e) => rnum_any q w.heap.size x0 i e m wz h
          generalize rnum (restOf x0 i e) e m = rr at N R
          obtain ⟨x, ys', e'⟩ := rr
          simp only at N R
          have HN := Lib.hid N
          have HR := Lib.hid R
          clear N R
          have hrwd : RW wr.drew p (restOf x0 i e) e := hrw.same rfl
          have hrsd : RS wr.drew q w.heap.size x0 i e := hrs.same rfl
          go_wp2
          go_cut [59] (fun s wx => s = .bool false ∧ Inv w wx p q (some ⟨b1, off1, none⟩) len1 L x0)
          case first =>
            go_region_with (first
              | (go_at_call 15; refine (HN.out _ hrwd).mono ?_; rintro r wb ⟨rfl, hrw1, hg1⟩; have hB1 := Below.trans (hold.drew) (gb_low hg1 hp hold.size); have hrs1 := hrsd.other hg1 (by omega) hp; have hcn1 : wb.cell? ⟨b1, off1 + k * 2 + 1, none⟩ = some (.int .i64 m) := (hB1.cell (by exact hbl)).trans HCW.out)
              | (go_at_call 16; refine (HR.out _ hrs1).mono ?_; rintro r wd ⟨rfl, hg2, i', hrs2, hrest⟩))
            all_goals (go_wp2_with fail; go_meet; exact ⟨rfl, ⟨i', e', by rw [hrest]; exact hrw1.other hg2 hpq, hrs2⟩, HW1.out.below (hB1.trans (gb_low hg2 (by omega) hB1.size)), hB1.trans (gb_low hg2 (by omega) hB1.size)⟩)
          case rest =>
            obtain ⟨rfl, hinv2⟩ := hcut
            obtain ⟨i', e', hrw2, hrs2⟩ := hinv2.both
            have hl1 := fun (wz : World) (h : RW wz p (restOf x0 i' e') e') => left_any p (restOf x0 i' e') e' wz h
            have hl2 := fun (wz : World) (h : RS wz q w.heap.size x0 i' e') => rleft_any q w.heap.size x0 i' e' wz h
            generalize (((restOf x0 i' e').length : Nat) : Int) = lv at hl1 hl2
            have hy := fun (wz : World) (h : RW wz p (restOf x0 i' e') e') => why_any p (restOf x0 i' e') e' wz h
            have HL1 := Lib.hid hl1
            have HL2 := Lib.hid hl2
            have HY := Lib.hid hy
            have hce : wc.cell? ⟨q, 2, none⟩ = some (.int .i64 e') := by
              obtain ⟨_, _, _, hb, _⟩ := hrs2.blk
              exact cell_of_blk hb 2
            have HI2 := Lib.hid hinv2
            clear hl1 hl2 hy hinv2
            go_wp2
            go_quiet ((first | (go_at_call 17; exact Calls.quiet_of_same ((HL1.out _ (by exact hrw2.same rfl)).mono fun e w' ⟨h1, h2⟩ => ⟨h1, h2.symm⟩)) | (go_at_call 18; exact Calls.quiet_of (HL2.out _ (by exact hrs2.same rfl))) | (go_at_call 19; exact Calls.quiet_of_same ((HY.out _ (by exact hrw2.same rfl)).mono fun e w' ⟨h1, h2⟩ => ⟨h1, h2.symm⟩))))
            go_wp2
            go_roundw
            case rel => exact ⟨k + 1, by omega, by omega, by go_num, HI2.out.drewN _⟩
            case measure => simp [intOf]; omega
      · have hge : ¬ (k : Int) < 100 := by omega
        have hlt' : (k : Int) < len1 := by omega
        go_wp2_with fail
        refine (known_true _).mono ?_
        rintro e wk ⟨rfl, hbk⟩
        go_wp2
        go_ret
        exact ⟨rfl, HI.out.old.trans (hbk.mono HI.out.old.size)⟩
    · have hge : ¬ (k : Int) < len1 := by omega
      go_wp2_with fail
      refine (known_true _).mono ?_
      rintro e wk ⟨rfl, hbk⟩
      go_wp2
      go_ret
      exact ⟨rfl, HI.out.old.trans (hbk.mono HI.out.old.size)⟩
end Go.Proofs.Ytdedkaolghodoaa

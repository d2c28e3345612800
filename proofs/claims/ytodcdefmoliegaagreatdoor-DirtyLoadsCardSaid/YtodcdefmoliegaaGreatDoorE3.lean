/-
  Contracts of the program's disk: Write, Flush, Crash.
-/
import Derived.Test.YtodcdefmoliegaaGreatDoorE2
import Derived.RegionTactic
import Derived.BigRegion
import Derived.ChangeAlike
import Derived.Deep.RegionHeld3
import Derived.Maps.AppendAt
namespace Go.Proofs.YtodcdefmoliegaaGreatDoor
open Go.RowKit
set_option linter.unusedVariables false
set_option linter.unusedSimpArgs false

theorem PD.own1 {w B p v1 v2 S} (h : PD w B p v1 v2 S) : w.ownsRow B 9 1 v1 S.L.length (strs S.L) := by obtain ⟨_, d⟩ := h.dk; exact d.own1
theorem PD.own2 {w B p v1 v2 S} (h : PD w B p v1 v2 S) : w.ownsRow B 68 2 v2 S.W.length (puts S.W) := by obtain ⟨_, d⟩ := h.dk; exact d.own2
theorem PD.ne1 {w B p v1 v2 S} (h : PD w B p v1 v2 S) : v1.ownBlock ≠ some p := by obtain ⟨_, d⟩ := h.dk; exact d.ne1 (by decide)
theorem PD.ne2 {w B p v1 v2 S} (h : PD w B p v1 v2 S) : v2.ownBlock ≠ some p := by obtain ⟨_, d⟩ := h.dk; exact d.ne2 (by decide)

theorem put_cells (w : World) (x : Int) (s : ByteArray) : ∀ (j : Nat) (u : Value), (puts [(x, s)])[j]? = some u →
    (w.alloc (.cells #[.int .i64 x, .string s] 68)).cell? ((⟨w.heap.size, 0, none⟩ : Addr).add j) = some u := by
  intro j u hj
  rw [Addr.add_none, cell_of_blk (heap_alloc_new w _), Nat.zero_add]
  simpa [puts] using hj

theorem burnt_L (S : DS) : S.burnt.L = S.L := by unfold DS.burnt; split <;> rfl
theorem burnt_W (S : DS) : S.burnt.W = S.W := by unfold DS.burnt; split <;> rfl

/-- The end of a write: behind the append. -/
theorem write_end {w w1 w5 : World} {B p : Nat} {v1 v2 v1' v2' v5 : Value} {S : DS} {o : Obj} (h : PD w1 B p v1' v2' S.burnt) (ht : ∀ k, foot p v1' v2' k → foot p v1 v2 k ∨ w.heap.size ≤ k) (hfr : Fr (foot p v1 v2) w w1) (at' : Int) (data : ByteArray)
    (how5 : w5.ownsRow B 68 2 v5 (S.W.length + 1) (puts (S.W ++ [(at', data)]))) (hg5 : (w1.alloc o).grownBy w5 v2'.ownBlock) (hat : v5.ownBlock = v2'.ownBlock ∨ v5.ownBlock = some (w1.heap.size + 1)) :
    w5.cell? ⟨p, 1, none⟩ = some v2' ∧ (∀ i, w5.frozen? ⟨p, i, none⟩ = false) ∧ PP w B p v1 v2 ⟨S.burnt.L, S.W ++ [(at', data)], S.burnt.left, S.burnt.off, S.burnt.did⟩ (w5.setCell ⟨p, 1, none⟩ v5) := by
  have hpl := h.lt
  have hb5 : w5.heap[p]? = w1.heap[p]? := (hg5.block p (by simp; omega) (fun e => h.ne2 e.symm)).trans (Below.heap_alloc _ _ _ hpl)
  obtain ⟨fu, d, e⟩ := h
  have hblk := hb5.trans d.blk
  have hne5 : v5.ownBlock ≠ some p := fun e5 => by
    obtain ⟨cur, hc⟩ := owns_type how5 e5
    rw [hblk] at hc
    simp at hc
  refine ⟨by rw [cell_of_blk hblk]; rfl, fun i => free_of_blk hblk i, v1', v5, ⟨fu, ⟨?_, d.low, ?_, ?_⟩, e⟩, ?_, ?_⟩
  · exact (blk_setCell hblk).trans (by simp)
  · show World.ownsRow _ _ _ _ _ S.burnt.L.length (strs S.burnt.L)
    refine owns_set_other ?_ (d.ne1 (by decide)) _
    refine (d.own1.alloc o).kept hg5 ?_
    cases h1 : v1'.ownBlock with
    | none => exact .inl rfl
    | some k => exact .inr fun e2 => d.ne12 h1 e2.symm
  · refine owns_set_other ?_ hne5 _
    simpa using how5
  · refine Fr.set (Fr.grown (hfr.alloc o) hg5 fun k e2 => ?_) (ht p (.inl rfl))
    exact ht k (.inr (.inr e2))
  · rintro k (rfl | e2 | e2)
    · exact ht k (.inl rfl)
    · exact ht k (.inr (.inl e2))
    · rcases hat with h5 | h5
      · rw [h5] at e2; exact ht k (.inr (.inr e2))
      · rw [h5] at e2
        have := hfr.size
        simp at e2
        exact .inr (by omega)

set_option maxRecDepth 20000 in
set_option maxHeartbeats 1000000 in
theorem write_any (B p : Nat) (v1 v2 : Value) (S : DS) (at' : Int) (data : ByteArray) (w : World) (h : PD w B p v1 v2 S) (hB : B ≤ w.heap.size) (N : Nat) (hok : S.ok N) (hN : N ≤ 1000000) :
    Calls Tryz.prog 7 #[.pointer (some ⟨p, 0, none⟩), .int .i64 at', .string data] w fun e w' => e = .returned (.int .i64 (S.write at' data).1) ∧ PP w B p v1 v2 (S.write at' data).2 w' := by
  obtain ⟨fu, e, c0, c1, c2, c3, c4, c5, hf⟩ := h.cells
  obtain ⟨a, c, rfl, hle, hcm, hg⟩ := owns_shape1 h.own1
  have hs1 := state_any p S.off w c2
  have hh := has_any p at' a S.L.length c w c0
  have hr := right_any data w
  have hd := hok.did; have hhi := hok.high; have hfew := hok.few
  have H := Lib.hid h
  have HS := Lib.hid hs1
  have HH := Lib.hid hh
  have HR := Lib.hid hr
  clear hs1 hh hr h c0 c1 c2 c3 c4 c5 hf hg e
  cases ho : S.off with
  | true =>
    have hu : S.write at' data = (5, S) := by unfold DS.write; rw [if_pos ho]
    rw [hu]
    simp only [ho] at HS
    clear hu
    go_enter Tryz.func7, Tryz.ntmps7
    go_wp2_with fail
    refine HS.out.mono ?_
    rintro e w1 ⟨rfl, hw1⟩; obtain rfl := hw1.symm; clear hw1
    go_wp2
    go_ret
    exact ⟨rfl, PP.same H.out⟩
  | false =>
    simp only [ho] at HS
    by_cases hs : S.has at'
    · have hd2 : decide (0 ≤ at' ∧ at' < (S.L.length : Int)) = true := by simpa [DS.has] using hs
      rw [hd2] at HH
      by_cases hz : data.size = 64
      · rw [decide_eq_true hz] at HR
        by_cases hl : S.left = 0
        · have hu : S.write at' data = (5, S.burnt) := by unfold DS.write; rw [if_neg (by simp [ho]), if_pos hs, if_pos hz, if_pos hl]
          rw [hu]
          clear hu hd2 hz hs
          have hb := burn_out B p _ v2 S w H.out hl
          have HB := Lib.hid hb
          clear hb hl
          go_enter Tryz.func7, Tryz.ntmps7
          go_wp2_with fail
          refine HS.out.mono ?_
          rintro e w1 ⟨rfl, hw1⟩; obtain rfl := hw1.symm; clear hw1
          go_wp2_with fail
          refine HH.out.mono ?_
          rintro e w1 ⟨rfl, hw1⟩; obtain rfl := hw1.symm; clear hw1
          go_wp2_with fail
          refine HR.out.mono ?_
          rintro e w1 ⟨rfl, hw1⟩; obtain rfl := hw1.symm; clear hw1
          go_wp2_with fail
          refine HB.out.mono ?_
          rintro e w1 ⟨rfl, hpp, hgp⟩
          go_wp2
          go_ret
          exact ⟨rfl, PP.head hpp hgp (.inl rfl)⟩
        · have hu : S.write at' data = (0, ⟨S.burnt.L, S.W ++ [(at', data)], S.burnt.left, S.burnt.off, S.burnt.did⟩) := by unfold DS.write; rw [if_neg (by simp [ho]), if_pos hs, if_pos hz, if_neg hl]
          rw [hu]
          clear hu hd2 hz hs
          have hb := burn_go B p _ v2 S w H.out hl hhi (by omega)
          have HB := Lib.hid hb
          clear hb hl
          go_enter Tryz.func7, Tryz.ntmps7
          go_wp2_with fail
          refine HS.out.mono ?_
          rintro e w1 ⟨rfl, hw1⟩; obtain rfl := hw1.symm; clear hw1
          go_wp2_with fail
          refine HH.out.mono ?_
          rintro e w1 ⟨rfl, hw1⟩; obtain rfl := hw1.symm; clear hw1
          go_wp2_with fail
          refine HR.out.mono ?_
          rintro e w1 ⟨rfl, hw1⟩; obtain rfl := hw1.symm; clear hw1
          go_wp2_with fail
          refine HB.out.mono ?_
          rintro e w1 ⟨rfl, hpd, hgp⟩
          have hfr : Fr (foot p (.slice a S.L.length c) v2) w w1 := fr_head hgp
          have hft : ∀ k, foot p (.slice a S.L.length c) v2 k → foot p (.slice a S.L.length c) v2 k ∨ w.heap.size ≤ k := fun k h => .inl h
          obtain ⟨fu, e, c0, c1, c2, c3, c4, c5, hf⟩ := hpd.cells
          obtain ⟨i0, hi, hz0, hz1, hz2⟩ := info_parts Tryz.infoPut
          have how := hpd.own2
          rw [burnt_W] at how
          have hbs : B ≤ w1.heap.size := Nat.le_trans hB hfr.size
          have HP := Lib.hid hpd
          have HF := Lib.hid hfr
          have HT := Lib.hid hft
          clear hpd hfr hft hgp c0 c2 c3 c4 c5 e
          go_wp2_with (at_builtin; refine wpList_append_own_at _ (o := ⟨some 35, _, _, _, _, _⟩) rfl (.tmp 30) (.tmp 34) 59 rfl B 68 i0 _ 2 24 Tryz.underlying59 hi hz0 hz1 hz2 rfl (by omega) v2 S.W.length _ rfl (how.alloc _) ⟨w1.heap.size, 0, none⟩ 1 1 (puts [(at', data)]) rfl rfl (put_cells w1 at' data) (puts_one _) (by unfold maxLen; omega) (by omega) (by simp; omega) ?_)
          intro v5 w5 how5 hg5 _ hat5
          rw [← puts_append] at how5
          have hE := write_end HP.out (HT.out) HF.out at' data how5 hg5 (by rcases hat5 with h5 | h5; exact .inl h5; exact .inr (by rw [h5]))
          obtain ⟨hc1, hf5, hend⟩ := hE
          obtain ⟨a5, n5, rfl, _, _, _⟩ := owns_shape1 how5
          have HE := Lib.hid hend
          clear hend how5 hg5 hat5 how c1 hf
          go_wp2
          go_ret
          exact ⟨rfl, HE.out⟩
      · have hu : S.write at' data = (4, S) := by unfold DS.write; rw [if_neg (by simp [ho]), if_pos hs, if_neg hz]
        rw [hu]
        rw [decide_eq_false hz] at HR
        clear hu hd2 hz hs
        go_enter Tryz.func7, Tryz.ntmps7
        go_wp2_with fail
        refine HS.out.mono ?_
        rintro e w1 ⟨rfl, hw1⟩; obtain rfl := hw1.symm; clear hw1
        go_wp2_with fail
        refine HH.out.mono ?_
        rintro e w1 ⟨rfl, hw1⟩; obtain rfl := hw1.symm; clear hw1
        go_wp2_with fail
        refine HR.out.mono ?_
        rintro e w1 ⟨rfl, hw1⟩; obtain rfl := hw1.symm; clear hw1
        go_wp2
        go_ret
        exact ⟨rfl, PP.same H.out⟩
    · have hu : S.write at' data = (3, S) := by unfold DS.write; rw [if_neg (by simp [ho]), if_neg hs]
      have hd2 : decide (0 ≤ at' ∧ at' < (S.L.length : Int)) = false := by simpa [DS.has] using hs
      rw [hd2] at HH
      rw [hu]
      clear hu hd2 hs
      go_enter Tryz.func7, Tryz.ntmps7
      go_wp2_with fail
      refine HS.out.mono ?_
      rintro e w1 ⟨rfl, hw1⟩; obtain rfl := hw1.symm; clear hw1
      go_wp2_with fail
      refine HH.out.mono ?_
      rintro e w1 ⟨rfl, hw1⟩; obtain rfl := hw1.symm; clear hw1
      go_wp2
      go_ret
      exact ⟨rfl, PP.same H.out⟩


theorem flush_round {wr wa : World} {B p q g1 m : Nat} {v1 v2 : Value} {S' : DS} {x : Int} {sd : ByteArray} (h : PD wr B p v1 v2 S') (hwa : wa = wr.alloc (.cells #[.int .i64 x, .string sd] 68)) (hq : q = wr.heap.size)
    (hgo1 : v1.ownBlock = some g1) (hm : m < S'.L.length) {u : Value} (c0 : wr.cell? ⟨p, 0, none⟩ = some u) :
    wa.cell? ⟨q, 0, none⟩ = some (.int .i64 x) ∧ wa.cell? ⟨q, 1, none⟩ = some (.string sd) ∧ wa.cell? ⟨p, 0, none⟩ = some u ∧ wa.cell? ⟨g1, m, none⟩ = some (.string (lAt S'.L m)) ∧ wa.frozen? ⟨g1, m, none⟩ = false ∧
      (∀ w2 : World, w2.heap = wa.heap → w2.os = wa.os → w2.tape = wa.tape → w2.output = wa.output → PD (w2.setCell ⟨g1, m, none⟩ (.string sd)) B p v1 v2 ⟨S'.L.set m sd, S'.W, S'.left, S'.off, S'.did⟩ ∧ ∀ (A : Nat → Prop) (w : World), Fr A w wr → A g1 → Fr A w (w2.setCell ⟨g1, m, none⟩ (.string sd))) := by
  subst hwa hq
  have hk : PD (wr.alloc (.cells #[.int .i64 x, .string sd] 68)) B p v1 v2 S' := h.below ((Below.refl _ _).alloc (Nat.le_refl _) _)
  have hn := heap_alloc_new wr (.cells #[.int .i64 x, .string sd] 68)
  refine ⟨by rw [cell_of_blk hn]; rfl, by rw [cell_of_blk hn]; rfl, ?_, owns_cell hk.own1 hgo1 m _ (strs_at hm), owns_free hk.own1 hgo1 m, ?_⟩
  · rw [World.cell?_of_block (w := wr) (Below.heap_alloc _ _ _ h.lt)]; exact c0
  · intro w2 e1 e2 e3 e4
    have hk2 : PD w2 B p v1 v2 S' := hk.kept fun k _ => by rw [e1]
    refine ⟨?_, fun A w hfr hA => ?_⟩
    · obtain ⟨fu, d, e⟩ := hk2
      refine ⟨fu, ⟨?_, d.low, ?_, ?_⟩, e⟩
      · rw [Below.heap_setCell _ _ _ _ (fun e => d.ne1 (by decide) (by rw [hgo1, e]))]; exact d.blk
      · have := owns_set d.own1 hgo1 (j := m) (.string sd) (by rw [strs_length]; exact hm)
        rw [strs_set] at this
        simpa using this
      · exact owns_set_other d.own2 (d.ne12 hgo1) _
    · refine Fr.set ⟨e2.trans hfr.os, e3.trans hfr.tape, e4.trans hfr.output, ?_, fun k hk hn => ?_⟩ (.inl hA)
      · rw [e1]; have := hfr.size; simp; omega
      · rw [e1, Below.heap_alloc _ _ _ (Nat.lt_of_lt_of_le hk hfr.size)]; exact hfr.block k hk hn

set_option maxRecDepth 20000 in
set_option maxHeartbeats 1000000 in
theorem flush_any (B p : Nat) (v1 v2 : Value) (S : DS) (w : World) (h : PD w B p v1 v2 S) (hB : B ≤ w.heap.size) (N : Nat) (hok : S.ok N) (hN : N ≤ 1000000) :
    Calls Tryz.prog 41 #[.pointer (some ⟨p, 0, none⟩)] w fun e w' => e = .returned (.int .i64 S.flush.1) ∧ PP w B p v1 v2 S.flush.2 w' := by
  obtain ⟨fu, e, c0, c1, c2, c3, c4, c5, hf⟩ := h.cells
  obtain ⟨a, c, rfl, hle, hcm, hg⟩ := owns_shape1 h.own1
  obtain ⟨a2, cc2, rfl, hle2, hcm2, hg2⟩ := owns_shape1 h.own2
  have hs1 := state_any p S.off w c2
  have hd := hok.did; have hhi := hok.high; have hfew := hok.few
  have H := Lib.hid h
  have HS := Lib.hid hs1
  clear hs1 h c0 c1 c2 c3 c4 c5 hf e
  cases ho : S.off with
  | true =>
    have hu : S.flush = (5, S) := by unfold DS.flush; rw [if_pos ho]
    rw [hu]
    simp only [ho] at HS
    clear hu
    go_enter Tryz.func41, Tryz.ntmps41
    go_wp2_with fail
    refine HS.out.mono ?_
    rintro e w1 ⟨rfl, hw1⟩; obtain rfl := hw1.symm; clear hw1
    go_wp2
    go_ret
    exact ⟨rfl, PP.same H.out⟩
  | false =>
    simp only [ho] at HS
    by_cases hl : S.left = 0
    · have hu : S.flush = (5, S.burnt) := by unfold DS.flush; rw [if_neg (by simp [ho]), if_pos hl]
      rw [hu]
      clear hu
      have hb := burn_out B p _ _ S w H.out hl
      have HB := Lib.hid hb
      clear hb hl
      go_enter Tryz.func41, Tryz.ntmps41
      go_wp2_with fail
      refine HS.out.mono ?_
      rintro e w1 ⟨rfl, hw1⟩; obtain rfl := hw1.symm; clear hw1
      go_wp2_with fail
      refine HB.out.mono ?_
      rintro e w1 ⟨rfl, hpp, hgp⟩
      go_wp2
      go_ret
      exact ⟨rfl, PP.head hpp hgp (.inl rfl)⟩
    · have hu : S.flush = (0, ⟨appW S.L S.W S.W.length, [], S.burnt.left, S.burnt.off, S.burnt.did⟩) := by unfold DS.flush; rw [if_neg (by simp [ho]), if_neg hl]
      rw [hu]
      clear hu
      have hb := burn_go B p _ _ S w H.out hl hhi (by omega)
      have HB := Lib.hid hb
      clear hb hl
      go_enter Tryz.func41, Tryz.ntmps41
      go_wp2_with fail
      refine HS.out.mono ?_
      rintro e w1 ⟨rfl, hw1⟩; obtain rfl := hw1.symm; clear hw1
      go_wp2_with fail
      refine HB.out.mono ?_
      rintro e w1 ⟨rfl, hpd, hgp⟩
      obtain ⟨fu, e, c0, c1, c2, c3, c4, c5, hf⟩ := hpd.cells
      have HP := Lib.hid hpd
      have HF := Lib.hid (fr_head (v1 := .slice a S.L.length c) (v2 := .slice a2 S.W.length cc2) hgp)
      clear hpd hgp c0 c2 c3 c4 c5 e hf
      go_wp2
      clear c1
      go_loopw [22] (fun i wr => ∃ k : Nat, k ≤ S.W.length ∧ i = .int .i64 k ∧ PD wr B p (.slice a S.L.length c) (.slice a2 S.W.length cc2) ⟨appW S.L S.W k, S.W, S.burnt.left, S.burnt.off, S.burnt.did⟩ ∧ Fr (foot p (.slice a S.L.length c) (.slice a2 S.W.length cc2)) w wr) (fun i _ => S.W.length - (intOf i).toNat)
      case atStart => exact ⟨0, by omega, rfl, by rw [show (⟨appW S.L S.W 0, S.W, S.burnt.left, S.burnt.off, S.burnt.did⟩ : DS) = S.burnt from by rw [show appW S.L S.W 0 = S.burnt.L from (burnt_L S).symm, ← burnt_W S]]; exact HP.out, HF.out⟩
      case round =>
        obtain ⟨k, hk, rfl, hpd, hfr⟩ := hrel
        by_cases hlt : k < S.W.length
        · have i1 : (k : Int) < (S.W.length : Int) := by omega
          obtain ⟨g2, rfl, hgo2, hB2, _⟩ := hg2 (by omega)
          obtain ⟨m, hm, hml⟩ := has_nat (hok.ats k hlt)
          obtain ⟨g1, rfl, hgo1, hB1, _⟩ := hg (by omega)
          have ho2 : wr.ownsRow B 68 2 (.slice (some ⟨g2, 0, none⟩) S.W.length cc2) S.W.length (puts S.W) := hpd.own2
          have ho1 := hpd.own1
          have e0 := owns_cell ho2 hgo2 _ _ (puts_at S.W k hlt).1
          have e1 := owns_cell ho2 hgo2 _ _ (puts_at S.W k hlt).2
          rw [hm] at e0
          obtain ⟨sd, hsd⟩ : ∃ sd, sd = (wAt S.W k).2 := ⟨_, rfl⟩
          rw [← hsd] at e1
          have hnx : appW S.L S.W (k + 1) = (appW S.L S.W k).set m sd := by show (appW S.L S.W k).set _ _ = _; rw [hm, hsd]; rfl
          have HNX := Lib.hid hnx
          clear hnx hsd
          obtain ⟨fu, e, c0, c1, c2, c3, c4, c5, hf⟩ := hpd.cells
          have HPD := Lib.hid hpd
          have HFR := Lib.hid hfr
          clear hpd hfr c1 c2 c3 c4 c5 e ho2 ho1 hg hg2 H HP HF HB
          go_wp2
          obtain ⟨wa, hwa⟩ : ∃ wa, wa = wr.alloc (.cells #[.int .i64 (m : Int), .string sd] 68) := ⟨_, rfl⟩
          obtain ⟨q, hq⟩ : ∃ q, q = wr.heap.size := ⟨_, rfl⟩
          rw [← hwa, ← hq]
          obtain ⟨cb0, cb1, ca0, ctg, hft, hrest⟩ := flush_round HPD.out hwa hq hgo1 (by rw [appW_length]; exact hml) c0
          generalize lAt (appW S.L S.W k) m = old at ctg
          have HR := Lib.hid hrest
          have HQ := Lib.hid hq
          have HWA := Lib.hid hwa
          have i2 : (0 : Int) ≤ (m : Int) := by omega
          have i3 : (m : Int) < (S.L.length : Int) := by omega
          clear hrest hwa hq e0 e1 c0 hf
          go_region
          go_wp2
          go_roundw
          case rel =>
            obtain ⟨hp5, hf5⟩ := HR.out wa rfl rfl rfl rfl
            exact ⟨k + 1, by omega, by go_num, by rw [HNX.out]; exact hp5.kept fun _ _ => rfl, (hf5 _ _ HFR.out (.inr (.inl hgo1))).drew⟩
          case measure => simp [intOf]; omega
        · obtain rfl : k = S.W.length := by omega
          obtain ⟨fu, e, c0, c1, c2, c3, c4, c5, hf⟩ := hpd.cells
          obtain ⟨fu2, e2, hblk⟩ := hpd.blk
          have HPD := Lib.hid hpd
          have HFR := Lib.hid hfr
          have HBK := Lib.hid hblk
          clear hpd hfr c0 c2 c3 c4 c5 e hg hg2 H HP HF HB hblk
          go_wp2
          go_ret
          refine ⟨rfl, _, _, HPD.out.head (gb_setCell (World.grownBy.refl _ _)) fu2 (blk_setCell HBK.out) (by simp) e2 rfl (.inr ⟨rfl, rfl⟩), HFR.out.set (.inl (.inl rfl)), ?_⟩
          rintro j (rfl | e | e)
          · exact .inl (.inl rfl)
          · exact .inl (.inr (.inl e))
          · simp [Value.ownBlock] at e

/-- The slice value reads as truths. -/
structure Bl (w : World) (a : Option Addr) (n : Nat) (K : List Bool) : Prop where
  len : K.length = n
  big : n ≤ 9223372036854775807
  at0 : 0 < n → ∃ b off, a = some ⟨b, off, none⟩ ∧ b < w.heap.size ∧ ∀ i, i < n → w.cell? ⟨b, off + i, none⟩ = some (.bool (K[i]?.getD false))

theorem Bl.kept {w w' : World} {a n K} (h : Bl w a n K) (hs : w.heap.size ≤ w'.heap.size) (hk : ∀ b off, a = some ⟨b, off, none⟩ → 0 < n → w'.heap[b]? = w.heap[b]?) : Bl w' a n K where
  len := h.len
  big := h.big
  at0 := fun h0 => by
    obtain ⟨b, off, e, hl, hc⟩ := h.at0 h0
    exact ⟨b, off, e, by omega, fun i hi => by rw [World.cell?_of_block (w := w) (hk b off e h0)]; exact hc i hi⟩
theorem Bl.lt {w : World} {a n K} (h : Bl w a n K) {b off : Nat} (e : a = some ⟨b, off, none⟩) (h0 : 0 < n) : b < w.heap.size := by
  obtain ⟨b', off', e', hl, _⟩ := h.at0 h0
  rw [e] at e'; cases e'; exact hl
theorem Bl.fr {w w' : World} {A : Nat → Prop} {a n K} (h : Bl w a n K) (hf : Fr A w w') (hd : ∀ b off, a = some ⟨b, off, none⟩ → 0 < n → ¬ A b) : Bl w' a n K :=
  h.kept hf.size fun b off e h0 => hf.block b (h.lt e h0) (hd b off e h0)
theorem Bl.below {w w' : World} {a n K} (h : Bl w a n K) (hb : Below w.heap.size w w') : Bl w' a n K := h.kept hb.size fun b off e h0 => hb.block b (h.lt e h0)

set_option maxRecDepth 20000 in
set_option maxHeartbeats 1000000 in
theorem crash_any (B p : Nat) (v1 v2 : Value) (S : DS) (ak : Option Addr) (nk ck : Nat) (K : List Bool) (w : World) (h : PD w B p v1 v2 S) (hB : B ≤ w.heap.size) (N : Nat) (hok : S.ok N) (hN : N ≤ 1000000)
    (hK : Bl w ak nk K) (hd : ∀ b off, ak = some ⟨b, off, none⟩ → 0 < nk → ¬ foot p v1 v2 b) :
    Calls Tryz.prog 9 #[.pointer (some ⟨p, 0, none⟩), .slice ak nk ck] w fun e w' => e = .returned (.tuple #[]) ∧ PP w B p v1 v2 (S.crash K) w' := by
  obtain ⟨fu, e, c0, c1, c2, c3, c4, c5, hf⟩ := h.cells
  obtain ⟨a, c, rfl, hle, hcm, hg⟩ := owns_shape1 h.own1
  obtain ⟨a2, cc2, rfl, hle2, hcm2, hg2⟩ := owns_shape1 h.own2
  have hdid := hok.did; have hhi := hok.high; have hfew := hok.few
  have H := Lib.hid h
  have HK := Lib.hid hK
  have HD := Lib.hid hd
  have hbig := hK.big
  clear h c0 c2 c3 c4 c5 hf e hK hd
  unfold DS.crash
  go_enter Tryz.func9, Tryz.ntmps9
  go_wp2
  clear c1
  go_loopw [13] (fun i wr => ∃ k : Nat, k ≤ S.W.length ∧ i = .int .i64 k ∧ PD wr B p (.slice a S.L.length c) (.slice a2 S.W.length cc2) ⟨appK S.L S.W K k, S.W, S.left, S.off, S.did⟩ ∧ Fr (foot p (.slice a S.L.length c) (.slice a2 S.W.length cc2)) w wr) (fun i _ => S.W.length - (intOf i).toNat)
  case atStart => exact ⟨0, by omega, rfl, H.out, Fr.refl _ _⟩
  case round =>
    obtain ⟨k, hk, rfl, hpd, hfr⟩ := hrel
    by_cases hlt : k < S.W.length
    · have i1 : (k : Int) < (S.W.length : Int) := by omega
      obtain ⟨g2, rfl, hgo2, hB2, _⟩ := hg2 (by omega)
      obtain ⟨m, hm, hml⟩ := has_nat (hok.ats k hlt)
      obtain ⟨g1, rfl, hgo1, hB1, _⟩ := hg (by omega)
      have ho2 : wr.ownsRow B 68 2 (.slice (some ⟨g2, 0, none⟩) S.W.length cc2) S.W.length (puts S.W) := hpd.own2
      have e0 := owns_cell ho2 hgo2 _ _ (puts_at S.W k hlt).1
      have e1 := owns_cell ho2 hgo2 _ _ (puts_at S.W k hlt).2
      rw [hm] at e0
      obtain ⟨sd, hsd⟩ : ∃ sd, sd = (wAt S.W k).2 := ⟨_, rfl⟩
      rw [← hsd] at e1
      have hnx : appK S.L S.W K (k + 1) = if K[k]?.getD false = true then (appK S.L S.W K k).set m sd else appK S.L S.W K k := by
        show (if _ then List.set _ _ _ else _) = _
        rw [hm, hsd]; rfl
      have HNX := Lib.hid hnx
      have hbl := HK.out.fr hfr HD.out
      obtain ⟨fu, e, c0, c1, c2, c3, c4, c5, hf⟩ := hpd.cells
      have HPD := Lib.hid hpd
      have HFR := Lib.hid hfr
      obtain ⟨kb, hkb⟩ : ∃ kb, kb = K[k]?.getD false := ⟨_, rfl⟩
      have HKB := Lib.hid hkb
      clear hpd hfr c1 c2 c3 c4 c5 e ho2 hg hg2 H hnx hsd
      by_cases hkk : k < nk
      · have i2 : (k : Int) < (nk : Int) := by omega
        obtain ⟨bk, ok, rfl, hbkl, hbc⟩ := hbl.at0 (by omega)
        have hcb := hbc k hkk
        rw [← hkb] at hcb
        have hcb2 : ∀ o, (wr.alloc o).cell? ⟨bk, ok + k, none⟩ = some (.bool kb) := fun o => by rw [World.cell?_of_block (w := wr) (Below.heap_alloc _ _ _ hbkl)]; exact hcb
        clear hbc hbl hkb
        cases kb with
        | true =>
          go_wp2
          obtain ⟨wa, hwa⟩ : ∃ wa, wa = wr.alloc (.cells #[.int .i64 (m : Int), .string sd] 68) := ⟨_, rfl⟩
          obtain ⟨q, hq⟩ : ∃ q, q = wr.heap.size := ⟨_, rfl⟩
          rw [← hwa, ← hq]
          obtain ⟨cb0, cb1, ca0, ctg, hft, hrest⟩ := flush_round HPD.out hwa hq hgo1 (by rw [appK_length]; exact hml) c0
          generalize lAt (appK S.L S.W K k) m = old at ctg
          have HR := Lib.hid hrest
          have HQ := Lib.hid hq
          have HWA := Lib.hid hwa
          have i3 : (0 : Int) ≤ (m : Int) := by omega
          have i4 : (m : Int) < (S.L.length : Int) := by omega
          clear hrest hwa hq e0 e1 c0 hf hcb hcb2
          go_region
          go_wp2
          go_roundw
          case rel =>
            obtain ⟨hp5, hf5⟩ := HR.out wa rfl rfl rfl rfl
            exact ⟨k + 1, by omega, by go_num, by rw [HNX.out, if_pos HKB.out.symm]; exact hp5.kept fun _ _ => rfl, (hf5 _ _ HFR.out (.inr (.inl hgo1))).drew⟩
          case measure => simp [intOf]; omega
        | false =>
          go_wp2
          go_roundw
          case rel => exact ⟨k + 1, by omega, by go_num, by rw [HNX.out, if_neg (by rw [← HKB.out]; simp)]; exact HPD.out.below ((Below.refl _ _).alloc (Nat.le_refl _) _), HFR.out.alloc _⟩
          case measure => simp [intOf]; omega
      · have i2 : ¬ (k : Int) < (nk : Int) := by omega
        have hkf : K[k]?.getD false = false := by rw [List.getElem?_eq_none (by rw [HK.out.len]; omega)]; rfl
        have HKF := Lib.hid hkf
        clear hkf hkb hbl
        go_wp2
        go_roundw
        case rel => exact ⟨k + 1, by omega, by go_num, by rw [HNX.out, if_neg (by rw [HKF.out]; simp)]; exact HPD.out.below ((Below.refl _ _).alloc (Nat.le_refl _) _), HFR.out.alloc _⟩
        case measure => simp [intOf]; omega
    · obtain rfl : k = S.W.length := by omega
      obtain ⟨fu, e, c0, c1, c2, c3, c4, c5, hf⟩ := hpd.cells
      obtain ⟨fu2, e2, hblk⟩ := hpd.blk
      have HPD := Lib.hid hpd
      have HFR := Lib.hid hfr
      have HBK := Lib.hid hblk
      clear hpd hfr c0 c1 c3 c4 c5 e hg hg2 H hblk
      go_wp2_with fail
      refine (forget_any p (.slice a S.L.length c) (.slice a2 S.W.length cc2) true (decide (0 ≤ S.left)) fu2 S.did _ ((blk_setCell HBK.out).trans (by simp))).mono ?_
      rintro e w1 ⟨rfl, hb1, hg1⟩
      have hgg := gb_trans (gb_setCell (i := 2) (u := .bool true) (World.grownBy.refl wr (some p))) hg1
      go_wp2
      refine bodyPost_end (results_none rfl _ _ _) rfl ?_
      refine ⟨rfl, _, _, HPD.out.head hgg 0 hb1 (by simp) (by simp) rfl (.inr ⟨rfl, rfl⟩), HFR.out.grown hgg (fun k e => by cases e; exact .inl (.inl rfl)), ?_⟩
      rintro j (rfl | e | e)
      · exact .inl (.inl rfl)
      · exact .inl (.inr (.inl e))
      · simp [Value.ownBlock] at e

set_option maxRecDepth 20000 in
set_option maxHeartbeats 400000 in
theorem crash_nil (v : Value) (w : World) : Calls Tryz.prog 9 #[.pointer none, v] w fun e w' => e = .returned (.tuple #[]) ∧ w' = w := by
  go_enter Tryz.func9, Tryz.ntmps9
  go_wp2
  refine bodyPost_ret (results_none rfl _ _ _) rfl ?_
  exact ⟨rfl, rfl⟩
set_option maxRecDepth 20000 in
set_option maxHeartbeats 400000 in
theorem flush_nil (w : World) : Calls Tryz.prog 41 #[.pointer none] w fun e w' => e = .returned (.int .i64 1) ∧ w' = w := by
  go_enter Tryz.func41, Tryz.ntmps41
  go_wp2_with fail
  refine (state_nil w).mono ?_
  rintro e w1 ⟨rfl, rfl⟩
  go_wp2
  go_ret
  exact ⟨rfl, rfl⟩
set_option maxRecDepth 20000 in
set_option maxHeartbeats 400000 in
theorem write_nil (at' : Int) (data : ByteArray) (w : World) : Calls Tryz.prog 7 #[.pointer none, .int .i64 at', .string data] w fun e w' => e = .returned (.int .i64 1) ∧ w' = w := by
  go_enter Tryz.func7, Tryz.ntmps7
  go_wp2_with fail
  refine (state_nil w).mono ?_
  rintro e w1 ⟨rfl, rfl⟩
  go_wp2
  go_ret
  exact ⟨rfl, rfl⟩

end Go.Proofs.YtodcdefmoliegaaGreatDoor


/-
  Texts put together: Z2, Z3.
-/
import Derived.Test.YtpdlpoomgkpogaaDoorMZ0
/-
  A node is found: the program's compare.
-/
namespace Go.Proofs.YtpdlpoomgkpogaaDoor
open Go.RowKit
set_option linter.unusedVariables false
set_option linter.unusedSimpArgs false

theorem Tryd.infoF : (Tryd.prog.info? 71).map (fun i => (i.zero, i.size, i.bytes)) = some (some (.agg #[.int .i64 0, .string noBytes]), 2, 24) := by kernel_rfl
/-- What a call leaves of a walk. -/
def WNx (T : TypeId × TypeId × TypeId) (w : World) (B pw : Nat) (va vw : Value) (p : Nat) (v : Value) (N F C U : Int) (L : List ByteArray) (s : WS) (w' : World) : Prop :=
  ∃ va' vw', WK T.1 T.2.1 T.2.2 w' B pw va' vw' p v N F C U L s ∧ Fr (wfoot pw va vw) w w' ∧ ∀ k, wfoot pw va' vw' k → wfoot pw va vw k ∨ w.heap.size ≤ k
theorem WNx.refl {T : TypeId × TypeId × TypeId} {w : World} {B pw : Nat} {va vw : Value} {p : Nat} {v : Value} {N F C U : Int} {L : List ByteArray} {s : WS} (h : WK T.1 T.2.1 T.2.2 w B pw va vw p v N F C U L s) {w' : World} (hb : Below w.heap.size w w') : WNx T w B pw va vw p v N F C U L s w' :=
  ⟨va, vw, h.below hb, Fr.of_below hb, fun k hk => .inl hk⟩
theorem fcell (w : World) (k : Int) (d : ByteArray) (ty : TypeId) : ∀ (j : Nat) (u : Value), (fvs [(k, d)])[j]? = some u → (w.alloc (.cells #[.int .i64 k, .string d] ty)).cell? ((⟨w.heap.size, 0, none⟩ : Addr).add j) = some u := by
  intro j u hj
  rw [Addr.add_none, cell_of_blk (heap_alloc_new w _), Nat.zero_add]
  match j, hj with
  | 0, hj => simpa [fvs] using hj
  | 1, hj => simpa [fvs] using hj
  | j + 2, hj => simp [fvs] at hj
theorem fone (q : FL) : ∀ u ∈ fvs q, u.oneCell' = true := by
  induction q with
  | nil => intro u hu; simp [fvs] at hu
  | cons x q ih =>
    intro u hu
    simp only [fvs, List.mem_cons] at hu
    rcases hu with rfl | rfl | hu
    · rfl
    · rfl
    · exact ih u hu
theorem digP_in {L : List ByteArray} {k : Nat} (h : k < L.length) : pairV (digP L k) = .tuple #[.string (lAt L k), .int .i64 0] := by
  unfold digP
  rw [if_neg (by omega)]
  rfl

set_option maxRecDepth 20000 in
set_option maxHeartbeats 2000000 in
theorem compare_any (B pw : Nat) (va vw : Value) (p : Nat) (v : Value) (N F C U : Int) (L : List ByteArray) (s : WS) (k : Nat) (d : ByteArray) (w : World) (h : PW w B pw va vw p v N F C U L s) (hk : k < L.length) (hL : L.length ≤ 1000) (ha : s.asks.length ≤ 100000) (hw : s.wants.length ≤ 100000) :
    Calls Tryd.prog 32 #[.pointer (some ⟨pw, 0, none⟩), .int .i64 k, .string d] w fun e w' => e = .returned (.tuple #[]) ∧ WNx (67, 71, 60) w B pw va vw p v N F C U L (findS N L s k d) w' := by
  obtain ⟨i0, hi, hz0, hz1, hz2⟩ := info_parts Tryd.infoF
  have hdg := tdigest_any 0 p v N F C U L k w h.tree hL
  rw [digP_in hk] at hdg
  have hge := fun w' (hb : Below w.heap.size w w') => tgeom_any 0 p v N F C U L w' (h.tree.below hb)
  obtain ⟨⟨aa, ca, rfl⟩, ⟨aw, cw, rfl⟩⟩ := h.shapes
  obtain ⟨c0, c1, c2, -, -, -, -⟩ := h.cells
  have hfs : findS N L s (k : Int) d = if lAt L k = d then s else if (k : Int) < N then { s with wants := s.wants ++ [((k : Int), d)] } else { s with asks := s.asks ++ [((k : Int), d)] } := rfl
  obtain ⟨sf, hsf⟩ : ∃ sf, sf = findS N L s (k : Int) d := ⟨_, rfl⟩
  rw [← hsf]
  rw [hfs] at hsf
  obtain ⟨own, hown⟩ : ∃ x, x = lAt L k := ⟨_, rfl⟩
  rw [← hown] at hdg hsf
  have hgd := fun op x y w => guard_txt op x y own d w
  obtain ⟨V1, hV1⟩ : ∃ V, V = Value.string own := ⟨_, rfl⟩
  obtain ⟨V2, hV2⟩ : ∃ V, V = Value.string d := ⟨_, rfl⟩
  obtain ⟨r, hr⟩ : ∃ r, r = decide (own = d) := ⟨_, rfl⟩
  have hq : ∀ w, (binOp .eql 9 V1 V2).run Tryd.prog w = .ok (.bool r) w := fun w => by rw [hV1, hV2, eql_txt, hr]
  rw [← hV1] at hdg
  simp only [← hV1, ← hV2] at hgd
  rw [← hV2]
  have HV2 := Lib.hid hV2
  have HR := Lib.hid hr
  have HDG := Lib.hid hdg
  have HGE := Lib.hid hge
  have HH := Lib.hid h
  have hfd : ∀ w : World, (Instr.field 23 (.agg #[.int .i64 N, .int .i64 F, .int .i64 C, .int .i64 U]) 0).run Tryd.prog w = .ok (.int .i64 N) w := fun _ => by kernel_rfl
  clear hdg hge h hfs hown hV1 hV2 hr hk
  unfold geo at HGE
  go_enter Tryd.func32, Tryd.ntmps32
  go_wp2_with fail
  refine HDG.out.mono ?_
  rintro e w1 ⟨rfl, hb⟩
  have HB1 := Lib.hid hb
  have hd := (HH.out.below hb).cells
  obtain ⟨d0, d1, d2, -, -, -, df⟩ := hd
  clear hb c0 c1 c2
  cases r
  · have hne : ¬ own = d := of_decide_eq_false HR.out.symm
    rw [if_neg hne] at hsf
    have HSF := Lib.hid hsf
    clear hsf
    go_wp2_with fail
    refine (HGE.out _ HB1.out).mono ?_
    rintro e w2 ⟨rfl, hb⟩
    have HB2 := Lib.hid (HB1.out.trans (hb.mono HB1.out.size))
    have hd := (HH.out.below HB2.out).cells
    clear d0 d1 d2 df hb hq hgd
    obtain ⟨d0, d1, d2, -, -, -, df⟩ := hd
    have hV := HV2.out
    subst hV
    by_cases hkN : (k : Int) < N
    · have hsf := HSF.out
      rw [if_pos hkN] at hsf
      subst hsf
      have HA := Lib.hid ((HH.out.below HB2.out).below ((Below.refl _ _).alloc (Nat.le_refl _) (.cells #[.int .i64 (k : Int), .string d] 71)))
      have HSZ := Lib.hid (show B ≤ (w2.alloc (.cells #[.int .i64 (k : Int), .string d] 71)).heap.size from Nat.le_trans (HA.out.low) (Nat.le_of_lt (lt_of_block HA.out.blk)))
      go_wp2_with (at_builtin; refine wpList_append_oq (o := ⟨some 41, _, _, _, _, _⟩) rfl (.tmp 36) (.tmp 40) 65 rfl B 71 i0 _ 2 24 Tryd.underlying65 hi hz0 hz1 hz2 rfl (by omega) _ _ _ rfl HA.out.qw ⟨w2.heap.size, 0, none⟩ 1 1 (fvs [((k : Int), d)]) rfl rfl (fcell w2 _ _ _) (fone _) (by omega) (by unfold maxLen; omega) (by omega) HSZ.out ?_)
      intro v5 w5 h1 h2 h3
      have hend := HA.out.putW (by decide) ((k : Int), d) h1 h2 (by rw [World.size_alloc]; exact h3)
      obtain ⟨b5, c5, e5⟩ : ∃ b5 c5, v5 = .slice b5 (s.wants.length + 1) c5 := by
        rcases h1.2 with ⟨e, _⟩ | ⟨g, o, cap, cur, e, _⟩
        · exact ⟨none, 0, by rw [e]; rcases h1.2 with ⟨_, e2⟩ | ⟨_, _, _, _, e2, _⟩ <;> simp_all⟩
        · exact ⟨_, _, e⟩
      have hblk := (h2.block pw (by simp; exact Nat.lt_succ_of_lt (lt_of_block (HH.out.below HB2.out).blk)) (fun e => HA.out.pq e.symm)).trans HA.out.blk
      have t0 : w5.cell? ⟨pw, 2, none⟩ = some (.slice aw s.wants.length cw) := by rw [cell_of_blk hblk]; rfl
      have tf : w5.frozen? ⟨pw, 2, none⟩ = false := free_of_blk hblk 2
      have hfr := ((Fr.of_below (A := wfoot pw (.slice aa s.asks.length ca) (.slice aw s.wants.length cw)) HB2.out).alloc (.cells #[.int .i64 (k : Int), .string d] 71)).trans hend.2 fun i hi => .inl hi
      have hnew : ∀ x, wfoot pw (.slice aa s.asks.length ca) v5 x → wfoot pw (.slice aa s.asks.length ca) (.slice aw s.wants.length cw) x ∨ w.heap.size ≤ x := fun x hx => by
        rcases hx with hx | hx | hx
        · exact .inl (.inl hx)
        · exact .inl (.inr (.inl hx))
        · rcases h3 with h3 | h3
          · exact .inl (.inr (.inr (h3 ▸ hx)))
          · rw [h3] at hx
            cases hx
            have := HB2.out.size
            exact .inr (by omega)
      have HE := Lib.hid (show WNx (67, 71, 60) w B pw _ _ p v N F C U L _ _ from ⟨_, _, hend.1, hfr, hnew⟩)
      clear hend hfr hnew h1 h2 h3 hblk d0 d1 d2
      subst e5
      go_wp2
      refine bodyPost_end (results_none rfl _ _ _) rfl ?_
      exact ⟨rfl, HE.out⟩
    · have hsf := HSF.out
      rw [if_neg hkN] at hsf
      subst hsf
      have HA := Lib.hid ((HH.out.below HB2.out).below ((Below.refl _ _).alloc (Nat.le_refl _) (.cells #[.int .i64 (k : Int), .string d] 71)))
      have HSZ := Lib.hid (show B ≤ (w2.alloc (.cells #[.int .i64 (k : Int), .string d] 71)).heap.size from Nat.le_trans (HA.out.low) (Nat.le_of_lt (lt_of_block HA.out.blk)))
      go_wp2_with (at_builtin; refine wpList_append_oq (o := ⟨some 53, _, _, _, _, _⟩) rfl (.tmp 48) (.tmp 52) 65 rfl B 71 i0 _ 2 24 Tryd.underlying65 hi hz0 hz1 hz2 rfl (by omega) _ _ _ rfl HA.out.qa ⟨w2.heap.size, 0, none⟩ 1 1 (fvs [((k : Int), d)]) rfl rfl (fcell w2 _ _ _) (fone _) (by omega) (by unfold maxLen; omega) (by omega) HSZ.out ?_)
      intro v5 w5 h1 h2 h3
      have hend := HA.out.putA (by decide) ((k : Int), d) h1 h2 (by rw [World.size_alloc]; exact h3)
      obtain ⟨b5, c5, e5⟩ : ∃ b5 c5, v5 = .slice b5 (s.asks.length + 1) c5 := by
        rcases h1.2 with ⟨e, _⟩ | ⟨g, o, cap, cur, e, _⟩
        · exact ⟨none, 0, by rw [e]; rcases h1.2 with ⟨_, e2⟩ | ⟨_, _, _, _, e2, _⟩ <;> simp_all⟩
        · exact ⟨_, _, e⟩
      have hblk := (h2.block pw (by simp; exact Nat.lt_succ_of_lt (lt_of_block (HH.out.below HB2.out).blk)) (fun e => HA.out.pa e.symm)).trans HA.out.blk
      have t0 : w5.cell? ⟨pw, 1, none⟩ = some (.slice aa s.asks.length ca) := by rw [cell_of_blk hblk]; rfl
      have tf : w5.frozen? ⟨pw, 1, none⟩ = false := free_of_blk hblk 1
      have hfr := ((Fr.of_below (A := wfoot pw (.slice aa s.asks.length ca) (.slice aw s.wants.length cw)) HB2.out).alloc (.cells #[.int .i64 (k : Int), .string d] 71)).trans hend.2 fun i hi => .inl hi
      have hnew : ∀ x, wfoot pw v5 (.slice aw s.wants.length cw) x → wfoot pw (.slice aa s.asks.length ca) (.slice aw s.wants.length cw) x ∨ w.heap.size ≤ x := fun x hx => by
        rcases hx with hx | hx | hx
        · exact .inl (.inl hx)
        · rcases h3 with h3 | h3
          · exact .inl (.inr (.inl (h3 ▸ hx)))
          · rw [h3] at hx
            cases hx
            have := HB2.out.size
            exact .inr (by omega)
        · exact .inl (.inr (.inr hx))
      have HE := Lib.hid (show WNx (67, 71, 60) w B pw _ _ p v N F C U L _ _ from ⟨_, _, hend.1, hfr, hnew⟩)
      clear hend hfr hnew h1 h2 h3 hblk d0 d1 d2
      subst e5
      go_wp2
      refine bodyPost_end (results_none rfl _ _ _) rfl ?_
      exact ⟨rfl, HE.out⟩
  · have he : own = d := of_decide_eq_true HR.out.symm
    rw [if_pos he] at hsf
    subst hsf
    go_wp2
    refine bodyPost_ret (results_none rfl _ _ _) rfl ?_
    exact ⟨rfl, WNx.refl HH.out HB1.out⟩
end Go.Proofs.YtpdlpoomgkpogaaDoor
/-
  A node is found: the document's find.
-/
namespace Go.Proofs.YtpdlpoomgkpogaaDoor
open Go.RowKit
set_option linter.unusedVariables false
set_option linter.unusedSimpArgs false

theorem Tryd.infoG : (Tryd.prog.info? 77).map (fun i => (i.zero, i.size, i.bytes)) = some (some (.agg #[.int .i64 0, .string noBytes]), 2, 24) := by kernel_rfl

set_option maxRecDepth 20000 in
set_option maxHeartbeats 2000000 in
theorem find_any (B pw : Nat) (va vw : Value) (p : Nat) (v : Value) (N F C U : Int) (L : List ByteArray) (s : WS) (k : Nat) (d : ByteArray) (w : World) (h : RW w B pw va vw p v N F C U L s) (hk : k < L.length) (hL : L.length ≤ 1000) (ha : s.asks.length ≤ 100000) (hw : s.wants.length ≤ 100000) :
    Calls Tryd.prog 35 #[.pointer (some ⟨pw, 0, none⟩), .int .i64 k, .string d] w fun e w' => e = .returned (.tuple #[]) ∧ WNx (51, 77, 63) w B pw va vw p v N F C U L (findS N L s k d) w' := by
  obtain ⟨i0, hi, hz0, hz1, hz2⟩ := info_parts Tryd.infoG
  have hdg := trdigest_any 0 p v N F C U L k w h.tree hL
  rw [digP_in hk] at hdg
  obtain ⟨⟨aa, ca, rfl⟩, ⟨aw, cw, rfl⟩⟩ := h.shapes
  obtain ⟨c0, c1, c2, -, -, -, -⟩ := h.cells
  have hfs : findS N L s (k : Int) d = if lAt L k = d then s else if (k : Int) < N then { s with wants := s.wants ++ [((k : Int), d)] } else { s with asks := s.asks ++ [((k : Int), d)] } := rfl
  obtain ⟨sf, hsf⟩ : ∃ sf, sf = findS N L s (k : Int) d := ⟨_, rfl⟩
  rw [← hsf]
  rw [hfs] at hsf
  obtain ⟨own, hown⟩ : ∃ x, x = lAt L k := ⟨_, rfl⟩
  rw [← hown] at hdg hsf
  have hgd := fun op x y w => guard_txt op x y own d w
  obtain ⟨V1, hV1⟩ : ∃ V, V = Value.string own := ⟨_, rfl⟩
  obtain ⟨V2, hV2⟩ : ∃ V, V = Value.string d := ⟨_, rfl⟩
  obtain ⟨r, hr⟩ : ∃ r, r = decide (own = d) := ⟨_, rfl⟩
  have hq : ∀ w, (binOp .eql 9 V1 V2).run Tryd.prog w = .ok (.bool r) w := fun w => by rw [hV1, hV2, eql_txt, hr]
  rw [← hV1] at hdg
  simp only [← hV1, ← hV2] at hgd
  rw [← hV2]
  have HV2 := Lib.hid hV2
  have HR := Lib.hid hr
  have HDG := Lib.hid hdg
  have HH := Lib.hid h
  clear hdg h hfs hown hV1 hV2 hr hk
  go_enter Tryd.func35, Tryd.ntmps35
  go_wp2_with fail
  refine HDG.out.mono ?_
  rintro e w1 ⟨rfl, hb⟩
  have HB1 := Lib.hid hb
  have hd := (HH.out.below hb).cells
  obtain ⟨d0, d1, d2, -, -, -, df⟩ := hd
  clear hb c0 c1 c2
  cases r
  · have hne : ¬ own = d := of_decide_eq_false HR.out.symm
    rw [if_neg hne] at hsf
    have HSF := Lib.hid hsf
    clear hsf
    obtain ⟨w2, hw2⟩ : ∃ w2, w2 = w1 := ⟨_, rfl⟩
    have HB2 := Lib.hid (show Below w.heap.size w w2 by rw [hw2]; exact HB1.out)
    rw [← hw2] at d0 d1 d2 df
    have ht0 := ((HH.out.below HB2.out).tree.cells).1
    obtain rfl := hw2
    go_upto_region 2 with fail
    clear hq hgd
    have hV := HV2.out
    subst hV
    by_cases hkN : (k : Int) < N
    · have hsf := HSF.out
      rw [if_pos hkN] at hsf
      subst hsf
      have HA := Lib.hid ((HH.out.below HB2.out).below ((Below.refl _ _).alloc (Nat.le_refl _) (.cells #[.int .i64 (k : Int), .string d] 77)))
      have HSZ := Lib.hid (show B ≤ (w2.alloc (.cells #[.int .i64 (k : Int), .string d] 77)).heap.size from Nat.le_trans (HA.out.low) (Nat.le_of_lt (lt_of_block HA.out.blk)))
      go_wp2_with (at_builtin; refine wpList_append_oq (o := ⟨some 39, _, _, _, _, _⟩) rfl (.tmp 34) (.tmp 38) 49 rfl B 77 i0 _ 2 24 Tryd.underlying49 hi hz0 hz1 hz2 rfl (by omega) _ _ _ rfl HA.out.qw ⟨w2.heap.size, 0, none⟩ 1 1 (fvs [((k : Int), d)]) rfl rfl (fcell w2 _ _ _) (fone _) (by omega) (by unfold maxLen; omega) (by omega) HSZ.out ?_)
      intro v5 w5 h1 h2 h3
      have hend := HA.out.putW (by decide) ((k : Int), d) h1 h2 (by rw [World.size_alloc]; exact h3)
      obtain ⟨b5, c5, e5⟩ : ∃ b5 c5, v5 = .slice b5 (s.wants.length + 1) c5 := by
        rcases h1.2 with ⟨e, _⟩ | ⟨g, o, cap, cur, e, _⟩
        · exact ⟨none, 0, by rw [e]; rcases h1.2 with ⟨_, e2⟩ | ⟨_, _, _, _, e2, _⟩ <;> simp_all⟩
        · exact ⟨_, _, e⟩
      have hblk := (h2.block pw (by simp; exact Nat.lt_succ_of_lt (lt_of_block (HH.out.below HB2.out).blk)) (fun e => HA.out.pq e.symm)).trans HA.out.blk
      have t0 : w5.cell? ⟨pw, 2, none⟩ = some (.slice aw s.wants.length cw) := by rw [cell_of_blk hblk]; rfl
      have tf : w5.frozen? ⟨pw, 2, none⟩ = false := free_of_blk hblk 2
      have hfr := ((Fr.of_below (A := wfoot pw (.slice aa s.asks.length ca) (.slice aw s.wants.length cw)) HB2.out).alloc (.cells #[.int .i64 (k : Int), .string d] 77)).trans hend.2 fun i hi => .inl hi
      have hnew : ∀ x, wfoot pw (.slice aa s.asks.length ca) v5 x → wfoot pw (.slice aa s.asks.length ca) (.slice aw s.wants.length cw) x ∨ w.heap.size ≤ x := fun x hx => by
        rcases hx with hx | hx | hx
        · exact .inl (.inl hx)
        · exact .inl (.inr (.inl hx))
        · rcases h3 with h3 | h3
          · exact .inl (.inr (.inr (h3 ▸ hx)))
          · rw [h3] at hx
            cases hx
            have := HB2.out.size
            exact .inr (by omega)
      have HE := Lib.hid (show WNx (51, 77, 63) w B pw _ _ p v N F C U L _ _ from ⟨_, _, hend.1, hfr, hnew⟩)
      clear hend hfr hnew h1 h2 h3 hblk d0 d1 d2
      subst e5
      go_wp2
      refine bodyPost_end (results_none rfl _ _ _) rfl ?_
      exact ⟨rfl, HE.out⟩
    · have hsf := HSF.out
      rw [if_neg hkN] at hsf
      subst hsf
      have HA := Lib.hid ((HH.out.below HB2.out).below ((Below.refl _ _).alloc (Nat.le_refl _) (.cells #[.int .i64 (k : Int), .string d] 77)))
      have HSZ := Lib.hid (show B ≤ (w2.alloc (.cells #[.int .i64 (k : Int), .string d] 77)).heap.size from Nat.le_trans (HA.out.low) (Nat.le_of_lt (lt_of_block HA.out.blk)))
      go_wp2_with (at_builtin; refine wpList_append_oq (o := ⟨some 51, _, _, _, _, _⟩) rfl (.tmp 46) (.tmp 50) 49 rfl B 77 i0 _ 2 24 Tryd.underlying49 hi hz0 hz1 hz2 rfl (by omega) _ _ _ rfl HA.out.qa ⟨w2.heap.size, 0, none⟩ 1 1 (fvs [((k : Int), d)]) rfl rfl (fcell w2 _ _ _) (fone _) (by omega) (by unfold maxLen; omega) (by omega) HSZ.out ?_)
      intro v5 w5 h1 h2 h3
      have hend := HA.out.putA (by decide) ((k : Int), d) h1 h2 (by rw [World.size_alloc]; exact h3)
      obtain ⟨b5, c5, e5⟩ : ∃ b5 c5, v5 = .slice b5 (s.asks.length + 1) c5 := by
        rcases h1.2 with ⟨e, _⟩ | ⟨g, o, cap, cur, e, _⟩
        · exact ⟨none, 0, by rw [e]; rcases h1.2 with ⟨_, e2⟩ | ⟨_, _, _, _, e2, _⟩ <;> simp_all⟩
        · exact ⟨_, _, e⟩
      have hblk := (h2.block pw (by simp; exact Nat.lt_succ_of_lt (lt_of_block (HH.out.below HB2.out).blk)) (fun e => HA.out.pa e.symm)).trans HA.out.blk
      have t0 : w5.cell? ⟨pw, 1, none⟩ = some (.slice aa s.asks.length ca) := by rw [cell_of_blk hblk]; rfl
      have tf : w5.frozen? ⟨pw, 1, none⟩ = false := free_of_blk hblk 1
      have hfr := ((Fr.of_below (A := wfoot pw (.slice aa s.asks.length ca) (.slice aw s.wants.length cw)) HB2.out).alloc (.cells #[.int .i64 (k : Int), .string d] 77)).trans hend.2 fun i hi => .inl hi
      have hnew : ∀ x, wfoot pw v5 (.slice aw s.wants.length cw) x → wfoot pw (.slice aa s.asks.length ca) (.slice aw s.wants.length cw) x ∨ w.heap.size ≤ x := fun x hx => by
        rcases hx with hx | hx | hx
        · exact .inl (.inl hx)
        · rcases h3 with h3 | h3
          · exact .inl (.inr (.inl (h3 ▸ hx)))
          · rw [h3] at hx
            cases hx
            have := HB2.out.size
            exact .inr (by omega)
        · exact .inl (.inr (.inr hx))
      have HE := Lib.hid (show WNx (51, 77, 63) w B pw _ _ p v N F C U L _ _ from ⟨_, _, hend.1, hfr, hnew⟩)
      clear hend hfr hnew h1 h2 h3 hblk d0 d1 d2
      subst e5
      go_wp2
      refine bodyPost_end (results_none rfl _ _ _) rfl ?_
      exact ⟨rfl, HE.out⟩
  · have he : own = d := of_decide_eq_true HR.out.symm
    rw [if_pos he] at hsf
    subst hsf
    go_wp2
    refine bodyPost_ret (results_none rfl _ _ _) rfl ?_
    exact ⟨rfl, WNx.refl HH.out HB1.out⟩
end Go.Proofs.YtpdlpoomgkpogaaDoor

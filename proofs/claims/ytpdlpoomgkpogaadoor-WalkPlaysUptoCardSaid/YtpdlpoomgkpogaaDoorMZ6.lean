/-
  Texts put together: Z6, Z7.
-/
import Derived.Test.YtpdlpoomgkpogaaDoorMZ4
import Derived.Test.YtpdlpoomgkpogaaDoorMY0
/-
  A sector comes: the program's Data.
-/
namespace Go.Proofs.YtpdlpoomgkpogaaDoor
open Go.RowKit
set_option linter.unusedVariables false
set_option linter.unusedSimpArgs false

theorem OQ.tail {w : World} {B : Nat} {e : TypeId} {g o n cap cap' o' : Nat} {x : Int × ByteArray} {q : FL} (h : OQ w B e 2 (.slice (some ⟨g, o, none⟩) n cap) n (fvs (x :: q))) (hc : q.length ≤ cap') (ho : (o' = o + 2 ∧ cap' + 1 ≤ cap) ∨ (o' = o ∧ cap' = 0)) :
    OQ w B e 2 (.slice (some ⟨g, o', none⟩) q.length cap') q.length (fvs q) := by
  refine ⟨fvs_length q, .inr ?_⟩
  rcases h.2 with ⟨h1, _⟩ | ⟨g2, o2, cap2, cur, h1, h2, h3, h4, h5, h6, h7⟩
  · cases h1
  · cases h1
    have hn : n = q.length + 1 := by have := h.1; rw [fvs_length] at this; simp at this; omega
    rcases ho with ⟨rfl, hle⟩ | ⟨rfl, rfl⟩
    · refine ⟨_, _, _, cur, rfl, h2, h3, hc, by omega, by omega, ?_⟩
      have e1 := congrArg (List.drop 2) h7
      rw [List.drop_take, List.drop_drop, hn] at e1
      rw [show (q.length + 1) * 2 - 2 = q.length * 2 from by omega] at e1
      exact e1
    · have hq : q = [] := List.eq_nil_of_length_eq_zero (by omega)
      subst hq
      exact ⟨_, _, _, cur, rfl, h2, h3, Nat.le_refl _, by omega, by omega, by simp [fvs]⟩

section
variable {ty fty tty : TypeId} {w : World} {B pw : Nat} {va vw : Value} {p : Nat} {v : Value} {N F C U : Int} {L : List ByteArray} {s : WS}
/-- A field of the walk that is a number is another one. -/
theorem WK.num (h : WK ty fty tty w B pw va vw p v N F C U L s) (j m : Nat) (hj : j = 3 ∨ j = 4 ∨ j = 5) :
    WK ty fty tty (w.setCell ⟨pw, j, none⟩ (.int .i64 m)) B pw va vw p v N F C U L { s with asked := if j = 3 then m else s.asked, told := if j = 4 then m else s.told, came := if j = 5 then m else s.came } ∧ Fr (wfoot pw va vw) w (w.setCell ⟨pw, j, none⟩ (.int .i64 m)) := by
  have hset : ∀ k, k ≠ pw → (w.setCell ⟨pw, j, none⟩ (.int .i64 m)).heap[k]? = w.heap[k]? := fun k hk => Below.heap_setCell _ _ _ _ (fun e => hk (by simpa using e))
  refine ⟨⟨?_, h.low, h.qa.kept fun k hk => hset k (fun e => h.pa (e ▸ hk)), h.qw.kept fun k hk => hset k (fun e => h.pq (e ▸ hk)), h.tree.kept fun k hk => hset k (h.tp k hk).1, h.aw, h.pa, h.pq, h.tp⟩, (Fr.refl _ w).set (.inl (.inl rfl))⟩
  rcases hj with rfl | rfl | rfl <;> exact (blk_setCell h.blk).trans (by simp)
theorem WK.cutW (h : WK ty fty tty w B pw va vw p v N F C U L s) {x : Int × ByteArray} {q : FL} (hs : s.wants = x :: q) {g o cap cap' o' : Nat} (hv : vw = .slice (some ⟨g, o, none⟩) s.wants.length cap) (hc : q.length ≤ cap') (ho : (o' = o + 2 ∧ cap' + 1 ≤ cap) ∨ (o' = o ∧ cap' = 0)) :
    WK ty fty tty (w.setCell ⟨pw, 2, none⟩ (.slice (some ⟨g, o', none⟩) q.length cap')) B pw va (.slice (some ⟨g, o', none⟩) q.length cap') p v N F C U L { s with wants := q } ∧ Fr (wfoot pw va vw) w (w.setCell ⟨pw, 2, none⟩ (.slice (some ⟨g, o', none⟩) q.length cap')) := by
  have hset : ∀ k u, k ≠ pw → (w.setCell ⟨pw, 2, none⟩ u).heap[k]? = w.heap[k]? := fun k u hk => Below.heap_setCell _ _ _ _ (fun e => hk (by simpa using e))
  have hb : (Value.slice (some ⟨g, o', none⟩) q.length cap').ownBlock = vw.ownBlock := by rw [hv]; rfl
  have hq := h.qw
  rw [hs] at hq
  rw [hv, hs] at hq
  have hq2 := hq.tail hc ho
  refine ⟨⟨(blk_setCell h.blk).trans (by simp), h.low, h.qa.kept fun k hk => hset k _ (fun e => h.pa (e ▸ hk)), hq2.kept fun k hk => hset k _ (fun e => h.pq (by rw [← hb]; exact e ▸ hk)), h.tree.kept fun k hk => hset k _ (h.tp k hk).1, fun k hk e => h.aw k hk (hb ▸ e), h.pa, fun e => h.pq (hb ▸ e), fun k hk => ⟨(h.tp k hk).1, (h.tp k hk).2.1, fun e => (h.tp k hk).2.2 (hb ▸ e)⟩⟩, (Fr.refl _ w).set (.inl (.inl rfl))⟩
theorem WK.cutA (h : WK ty fty tty w B pw va vw p v N F C U L s) {x : Int × ByteArray} {q : FL} (hs : s.asks = x :: q) {g o cap cap' o' : Nat} (hv : va = .slice (some ⟨g, o, none⟩) s.asks.length cap) (hc : q.length ≤ cap') (ho : (o' = o + 2 ∧ cap' + 1 ≤ cap) ∨ (o' = o ∧ cap' = 0)) :
    WK ty fty tty (w.setCell ⟨pw, 1, none⟩ (.slice (some ⟨g, o', none⟩) q.length cap')) B pw (.slice (some ⟨g, o', none⟩) q.length cap') vw p v N F C U L { s with asks := q } ∧ Fr (wfoot pw va vw) w (w.setCell ⟨pw, 1, none⟩ (.slice (some ⟨g, o', none⟩) q.length cap')) := by
  have hset : ∀ k u, k ≠ pw → (w.setCell ⟨pw, 1, none⟩ u).heap[k]? = w.heap[k]? := fun k u hk => Below.heap_setCell _ _ _ _ (fun e => hk (by simpa using e))
  have hb : (Value.slice (some ⟨g, o', none⟩) q.length cap').ownBlock = va.ownBlock := by rw [hv]; rfl
  have hq := h.qa
  rw [hs] at hq
  rw [hv, hs] at hq
  have hq2 := hq.tail hc ho
  refine ⟨⟨(blk_setCell h.blk).trans (by simp), h.low, hq2.kept fun k hk => hset k _ (fun e => h.pa (by rw [← hb]; exact e ▸ hk)), h.qw.kept fun k hk => hset k _ (fun e => h.pq (e ▸ hk)), h.tree.kept fun k hk => hset k _ (h.tp k hk).1, fun k hk e => h.aw k (hb ▸ hk) e, fun e => h.pa (hb ▸ e), h.pq, fun k hk => ⟨(h.tp k hk).1, fun e => (h.tp k hk).2.1 (hb ▸ e), (h.tp k hk).2.2⟩⟩, (Fr.refl _ w).set (.inl (.inl rfl))⟩
end

def dataErr (s : WS) (i : Int) (sx : ByteArray) : Int :=
  if (firstP s).1 ≠ 2 ∨ i ≠ (firstP s).2.1 then 17 else if sx.size ≠ 64 then 4 else if leafB sx ≠ (firstP s).2.2 then 18 else 0
def dataS (s : WS) (i : Int) (sx : ByteArray) : WS := if dataErr s i sx = 0 then { s with wants := s.wants.drop 1, came := s.came + 1 } else s
theorem data_nil (i : Int) (sx : ByteArray) (w : World) : Calls Tryd.prog 9 #[.pointer none, .int .i64 i, .string sx] w fun e w' => e = .returned (.int .i64 1) ∧ Below w.heap.size w w' := by
  go_enter Tryd.func9, Tryd.ntmps9
  go_wp2
  go_ret
  exact ⟨rfl, Below.refl _ _⟩
theorem firstP_want {s : WS} {n : Int} {d : ByteArray} (h : firstP s = (2, (n, d))) : s.asks = [] ∧ ∃ q, s.wants = (n, d) :: q := by
  obtain ⟨asks, wants, asked, told, came⟩ := s
  cases asks with
  | cons x q => cases h
  | nil => cases wants with
    | cons x q => cases h; exact ⟨rfl, q, rfl⟩
    | nil => cases h
set_option maxRecDepth 20000 in
set_option maxHeartbeats 1000000 in
theorem rest_any (g o n cap : Nat) (w : World) (h0 : 0 < n) (hc : n ≤ cap) (hm : cap ≤ maxLen) :
    Calls Tryd.prog 40 #[.slice (some ⟨g, o, none⟩) n cap] w fun e w' => e = .returned (.slice (some ⟨g, if n = 1 then o else o + 2, none⟩) (n - 1) (n - 1)) ∧ w' = w := by
  have j1 : (cap : Int) ≤ 9223372036854775807 := by unfold maxLen at hm; omega
  have j2 : (1 : Int) ≤ (n : Int) := by omega
  have j3 : (n : Int) ≤ (cap : Int) := by omega
  by_cases h1 : n = 1
  · subst h1
    go_enter Tryd.func40, Tryd.ntmps40
    go_wp2
    go_ret
    exact ⟨rfl, by first | rfl | trivial⟩
  · rw [if_neg h1]
    go_enter Tryd.func40, Tryd.ntmps40
    go_wp2
    go_ret
    exact ⟨rfl, by first | rfl | trivial⟩
end Go.Proofs.YtpdlpoomgkpogaaDoor
/-
  A sector comes: the program's Data, whole.
-/
namespace Go.Proofs.YtpdlpoomgkpogaaDoor
open Go.RowKit
set_option linter.unusedVariables false
set_option linter.unusedSimpArgs false

theorem fcells (w : World) (n : Int) (d : ByteArray) (w' : World) (h : Below (w.heap.size + 1) (w.alloc (.cells #[.int .i64 n, .string d] 71)) w') : w'.cell? ⟨w.heap.size, 0, none⟩ = some (.int .i64 n) ∧ w'.cell? ⟨w.heap.size, 1, none⟩ = some (.string d) := by
  constructor <;> (rw [h.cell (by simp), cell_of_blk (heap_alloc_new w _)]; rfl)

set_option maxRecDepth 20000 in
set_option maxHeartbeats 4000000 in
theorem data_any (B pw : Nat) (va vw : Value) (p : Nat) (v : Value) (N F C U : Int) (L : List ByteArray) (s : WS) (i : Int) (sx : ByteArray) (w : World) (h : PW w B pw va vw p v N F C U L s) (hK : Kon w) (hcm : s.came ≤ 100000) (hwl : s.wants.length ≤ 100000) :
    Calls Tryd.prog 9 #[.pointer (some ⟨pw, 0, none⟩), .int .i64 i, .string sx] w fun e w' => e = .returned (.int .i64 (dataErr s i sx)) ∧ WNx (67, 71, 60) w B pw va vw p v N F C U L (dataS s i sx) w' := by
  have hf := wfirst_any B pw va vw p v N F C U L s w h
  have hsr := right_any sx
  obtain ⟨er, her⟩ : ∃ er, er = dataErr s i sx := ⟨_, rfl⟩
  obtain ⟨sn, hsn⟩ : ∃ sn, sn = dataS s i sx := ⟨_, rfl⟩
  rw [← her, ← hsn]
  unfold dataS at hsn
  rw [← her] at hsn
  unfold dataErr at her
  obtain ⟨k, n, d, hF⟩ : ∃ k n d, firstP s = (k, (n, d)) := ⟨_, _, _, rfl⟩
  rw [hF] at hf her
  simp only at hf her
  have HF := Lib.hid hf
  have HH := Lib.hid h
  have HFP := Lib.hid hF
  clear hf h hF
  by_cases hk : k = 2
  · subst hk
    by_cases hin : i = n
    · subst hin
      have q1 : (i != i) = false := by simp
      by_cases h64 : sx.size = 64
      · have hlf := leaf_any sx
        obtain ⟨z, hz⟩ : ∃ z, z = leafB sx := ⟨_, rfl⟩
        rw [← hz] at her
        have hlf2 : ∀ w', Below w.heap.size w w' → Calls Tryd.prog 39 #[.string sx] w' fun e w'' => e = .returned (.string z) ∧ Below w'.heap.size w' w'' := fun w' hb => by rw [hz]; exact leaf_any sx w' (hK.below hb) (by omega)
        have hgd := fun op x y w => guard_txt op x y z d w
        obtain ⟨V1, hV1⟩ : ∃ V, V = Value.string z := ⟨_, rfl⟩
        obtain ⟨V2, hV2⟩ : ∃ V, V = Value.string d := ⟨_, rfl⟩
        obtain ⟨r, hr⟩ : ∃ r, r = decide (z = d) := ⟨_, rfl⟩
        have hq : ∀ w, (binOp .neq 9 V1 V2).run Tryd.prog w = .ok (.bool (!r)) w := fun w => by rw [hV1, hV2, neq_txt, hr]
        simp only [← hV1] at hlf2
        simp only [← hV1, ← hV2] at hgd
        have HLF := Lib.hid hlf2
        have HR := Lib.hid (And.intro hr (And.intro her hsn))
        clear hlf hlf2 hz hr her hsn hV1
        go_enter Tryd.func9, Tryd.ntmps9
        go_wp2_with fail
        refine HF.out.mono ?_
        rintro e w1 ⟨rfl, hb⟩
        have HB1 := Lib.hid hb
        have hal : Below w.heap.size w (w1.alloc (.cells #[.int .i64 i, .string d] 71)) := hb.alloc hb.size _
        have hfc := fcells w1 i d
        have HAL := Lib.hid hal
        have HFC := Lib.hid hfc
        clear hb hal hfc HF
        go_wp2_with fail
        refine (hsr _).mono ?_
        rintro e w2 ⟨rfl, hw2⟩
        obtain rfl := hw2.symm
        clear hw2 hsr
        rw [decide_eq_true h64]
        go_upto_region 8 with fail
        have hG : Below (w1.heap.size + 1) (w1.alloc (.cells #[.int .i64 i, .string d] 71)) ((w1.alloc (.cells #[.int .i64 i, .string d] 71)).drew) := (Below.refl _ _).drew
        have hS : ∀ w', Below (w1.heap.size + 1) (w1.alloc (.cells #[.int .i64 i, .string d] 71)) w' → w'.cell? ⟨w1.heap.size, 1, none⟩ = some V2 := fun w' hb => by rw [hV2]; exact (HFC.out w' hb).2
        have hBW : ∀ w', Below (w1.heap.size + 1) (w1.alloc (.cells #[.int .i64 i, .string d] 71)) w' → Below w.heap.size w w' := fun w' hb => HAL.out.trans (hb.mono (by have := HB1.out.size; omega))
        have hal1 : (w1.alloc (.cells #[.int .i64 i, .string d] 71)).heap.size = w1.heap.size + 1 := World.size_alloc _ _
        have HSZ := Lib.hid hal1
        have HS := Lib.hid hS
        have HBW := Lib.hid hBW
        clear hV2 hS hBW hal1
        go_region_held3 (fun w' => w'.cell? ⟨w1.heap.size, 1, none⟩ = some V2)
          (exact HS.out _ hG)
          (first
          | (go_at_call 39; with_reducible refine (HLF.out _ (HBW.out _ hG)).mono ?_; rintro r wk ⟨rfl, hb⟩; replace hG := hG.trans (hb.mono (by have := hG.size; have := HSZ.out; omega)); clear hb))
        rename_i hHeld
        clear hHeld hq hgd
        have HBK := Lib.hid (HBW.out _ hG)
        clear hG HBW HS HSZ HFC HAL
        cases r
        · have hr := HR.out.1
          have hne : ¬ z = d := of_decide_eq_false hr.symm
          have her := HR.out.2.1
          rw [if_neg (by simp), if_neg (fun h => h h64), if_pos hne] at her
          subst her
          have hsn := HR.out.2.2
          rw [if_neg (by omega)] at hsn
          subst hsn
          have HX := Lib.hid (WNx.refl (T := (67, 71, 60)) HH.out HBK.out)
          clear hr hne
          go_wp2
          go_ret
          exact ⟨rfl, HX.out⟩
        · have hr := HR.out.1
          have he : z = d := of_decide_eq_true hr.symm
          have her := HR.out.2.1
          rw [if_neg (by simp), if_neg (fun h => h h64), if_neg (fun h => h he)] at her
          subst her
          have hsn := HR.out.2.2
          rw [if_pos rfl] at hsn
          obtain ⟨ha, q, hwq⟩ := firstP_want HFP.out
          have hW := HH.out.below HBK.out
          obtain ⟨g, o, cap, hv, hgb, hle, hm⟩ : ∃ g o cap, vw = .slice (some ⟨g, o, none⟩) s.wants.length cap ∧ vw.ownBlock = some g ∧ s.wants.length ≤ cap ∧ cap ≤ maxLen := by
            have hqw := HH.out.qw
            rw [hwq] at hqw ⊢
            obtain ⟨g, o, cap, h1, h2, h3, h4, _⟩ := hqw.head
            exact ⟨g, o, cap, h1, h2, h3, h4⟩
          have hlen : s.wants.length = q.length + 1 := by rw [hwq]; rfl
          obtain ⟨o2, ho2⟩ : ∃ o2, o2 = if s.wants.length = 1 then o else o + 2 := ⟨_, rfl⟩
          obtain ⟨cm, hcm2⟩ : ∃ cm, cm = s.came + 1 := ⟨_, rfl⟩
          have hcut := hW.cutW hwq hv (o' := o2) (cap' := s.wants.length - 1) (by omega) (by
            rw [ho2]
            split
            · exact .inr ⟨rfl, by omega⟩
            · exact .inl ⟨rfl, by omega⟩)
          have hnum := hcut.1.num 5 cm (.inr (.inr rfl))
          have hrs := rest_any g o s.wants.length cap wk (by omega) hle hm
          rw [← ho2] at hrs
          obtain ⟨-, -, d2, -, -, -, df⟩ := hW.cells
          obtain ⟨-, -, -, -, -, f5, ff⟩ := hcut.1.cells
          have hfr := ((Fr.of_below (A := wfoot pw va vw) HBK.out).trans hcut.2 fun i hi => .inl hi).trans hnum.2 (fun i hi => by
            rcases hi with hi | hi | hi
            · exact .inl (.inl hi)
            · exact .inl (.inr (.inl hi))
            · exact .inl (.inr (.inr (by rw [hv]; exact hi))))
          rw [show s.wants.length - 1 = q.length from by omega] at hcut hnum hrs f5 ff hfr
          have hs2 : sn = { s with wants := q, came := cm } := by rw [hsn, hwq, hcm2]; rfl
          have HX := Lib.hid (show WNx (67, 71, 60) w B pw va vw p v N F C U L sn _ from by
            rw [hs2]
            exact ⟨_, _, hnum.1, hfr, fun k hk => by
              rcases hk with hk | hk | hk
              · exact .inl (.inl hk)
              · exact .inl (.inr (.inl hk))
              · exact .inl (.inr (.inr (by rw [hv]; exact hk)))⟩)
          have hwr : IntKind.i64.wrap ((s.came : Int) + 1) = (cm : Int) := (IntWalk.i64_in _ (by omega)).trans (by rw [hcm2]; push_cast; rfl)
          have HRS := Lib.hid hrs
          clear hrs hcut hnum hfr hs2 hsn hW ha hle hm hgb hr he hwq hlen ho2 hcm2
          subst hv
          go_wp2_with fail
          refine HRS.out.mono ?_
          rintro e w9 ⟨rfl, hw9⟩
          obtain rfl := hw9.symm
          clear hw9
          go_wp2
          go_ret
          exact ⟨rfl, HX.out⟩
      · rw [if_neg (by simp), if_pos h64] at her
        have hsr0 := True.intro
        subst her
        rw [if_neg (by omega)] at hsn
        subst hsn
        clear hsr0
        go_enter Tryd.func9, Tryd.ntmps9
        go_wp2_with fail
        refine HF.out.mono ?_
        rintro e w1 ⟨rfl, hb⟩
        have hal : Below w.heap.size w (w1.alloc (.cells #[.int .i64 i, .string d] 71)) := hb.alloc hb.size _
        have hfc := fcells w1 i d
        obtain ⟨c0, c1⟩ := hfc _ (Below.refl _ _)
        have HX := Lib.hid (WNx.refl (T := (67, 71, 60)) HH.out hal)
        clear hb hal hfc HF
        go_wp2_with fail
        refine (hsr _).mono ?_
        rintro e w2 ⟨rfl, hw2⟩
        obtain rfl := hw2.symm
        clear hw2 hsr
        rw [decide_eq_false h64]
        go_wp2
        go_ret
        exact ⟨rfl, HX.out⟩
    · rw [if_pos (.inr hin)] at her
      have hsr0 := True.intro
      have q1 : (i == n) = false := by simpa using hin
      have q2 : (i != n) = true := by simpa using hin
      subst her
      rw [if_neg (by omega)] at hsn
      subst hsn
      clear hsr0
      go_enter Tryd.func9, Tryd.ntmps9
      go_wp2_with fail
      refine HF.out.mono ?_
      rintro e w1 ⟨rfl, hb⟩
      have hal : Below w.heap.size w (w1.alloc (.cells #[.int .i64 n, .string d] 71)) := hb.alloc hb.size _
      have hfc := fcells w1 n d
      obtain ⟨c0, c1⟩ := hfc _ (Below.refl _ _)
      have HX := Lib.hid (WNx.refl (T := (67, 71, 60)) HH.out hal)
      clear hb hal hfc HF
      go_wp2
      go_ret
      exact ⟨rfl, HX.out⟩
  · rw [if_pos (.inl hk)] at her
    have hsr0 := True.intro
    have q1 : (k == 2) = false := by simpa using hk
    have q2 : (k != 2) = true := by simpa using hk
    subst her
    rw [if_neg (by omega)] at hsn
    subst hsn
    clear hsr0
    go_enter Tryd.func9, Tryd.ntmps9
    go_wp2_with fail
    refine HF.out.mono ?_
    rintro e w1 ⟨rfl, hb⟩
    have hal : Below w.heap.size w (w1.alloc (.cells #[.int .i64 n, .string d] 71)) := hb.alloc hb.size _
    have hfc := fcells w1 n d
    obtain ⟨c0, c1⟩ := hfc _ (Below.refl _ _)
    have HX := Lib.hid (WNx.refl (T := (67, 71, 60)) HH.out hal)
    clear hb hal hfc HF
    go_wp2
    go_ret
    exact ⟨rfl, HX.out⟩
end Go.Proofs.YtpdlpoomgkpogaaDoor

/-
  Texts put together: P4.
-/
import Derived.Test.YtehjdaafadbbdaaMP3
import Derived.Deep.RegionHeld3
/-
  View, the program's and the document's; the document's Back.
-/
namespace Go.Proofs.Ytehjdaafadbbdaa
open Go.RowKit
set_option linter.unusedVariables false
set_option linter.unusedSimpArgs false

def viewP (S : DS) (X : List En) (place : Int) : ByteArray × Int :=
  if (S.read place).2 ≠ 0 then (noBytes, (S.read place).2) else match findE X place with
    | some s => (s, 0)
    | none => ((S.read place).1, 0)

set_option maxRecDepth 20000 in
set_option maxHeartbeats 2000000 in
theorem view_any (B p : Nat) (v1 v2 : Value) (S : DS) (a : Option Addr) (n cap : Nat) (X : List En) (place : Int) (w : World) (h : PD w B p v1 v2 S) (hf : S.W.length ≤ 1000000) (hl : S.L.length ≤ 1000000) (hX : Es w a n cap X) :
    Calls Try.prog 11 #[.pointer (some ⟨p, 0, none⟩), .slice a n cap, .int .i64 place] w fun e w' => e = .returned (two (viewP S X place)) ∧ Below w.heap.size w w' := by
  have hr := read_any B p v1 v2 S place w h hf hl
  have hfd := fun w' (hb : Below w.heap.size w w') => find_prog a n cap X place w' (hX.later hb)
  unfold viewP
  obtain ⟨x, k, hxk⟩ : ∃ x k, S.read place = (x, k) := ⟨_, _, rfl⟩
  rw [hxk] at hr ⊢
  unfold two at hr ⊢
  dsimp only at hr ⊢
  have HR := Lib.hid hr
  have HFD := Lib.hid hfd
  clear hr hfd hxk h hX
  by_cases hk : k = 0
  · subst hk
    rw [if_neg (by simp)]
    cases hfx : findE X place with
    | some s =>
      simp only [hfx] at HFD
      unfold findV at HFD
      dsimp only at HFD ⊢
      clear hfx
      go_enter Try.func11, Try.ntmps11
      go_wp2_with fail
      refine HR.out.mono ?_
      rintro e w1 ⟨rfl, hb⟩
      have HB1 := Lib.hid hb
      clear hb
      go_wp2_with fail
      refine (HFD.out _ HB1.out).mono ?_
      rintro e w2 ⟨rfl, hb⟩
      have HB2 := Lib.hid (HB1.out.trans (hb.mono HB1.out.size))
      clear hb HB1
      go_wp2
      refine bodyPost_ret (results_tmp2 rfl _ _ _) rfl ?_
      exact ⟨rfl, HB2.out⟩
    | none =>
      simp only [hfx] at HFD
      unfold findV at HFD
      dsimp only at HFD ⊢
      clear hfx
      go_enter Try.func11, Try.ntmps11
      go_wp2_with fail
      refine HR.out.mono ?_
      rintro e w1 ⟨rfl, hb⟩
      have HB1 := Lib.hid hb
      clear hb
      go_wp2_with fail
      refine (HFD.out _ HB1.out).mono ?_
      rintro e w2 ⟨rfl, hb⟩
      have HB2 := Lib.hid (HB1.out.trans (hb.mono HB1.out.size))
      clear hb HB1
      go_wp2
      refine bodyPost_ret (results_tmp2 rfl _ _ _) rfl ?_
      exact ⟨rfl, HB2.out⟩
  · have hr2 : (k == 0) = false := by simpa using hk
    have hr3 : (k != 0) = true := by simp [hk]
    rw [if_pos hk]
    clear hk
    go_enter Try.func11, Try.ntmps11
    go_wp2_with fail
    refine HR.out.mono ?_
    rintro e w1 ⟨rfl, hb⟩
    have HB1 := Lib.hid hb
    clear hb
    go_wp2
    refine bodyPost_ret (results_tmp2 rfl _ _ _) rfl ?_
    exact ⟨rfl, HB1.out⟩

set_option maxRecDepth 20000 in
set_option maxHeartbeats 2000000 in
theorem rview_any (B p : Nat) (v1 v2 : Value) (S : DS) (a : Option Addr) (n cap : Nat) (X : List En) (place : Int) (w : World) (h : RD w B p v1 v2 S) (hf : S.W.length ≤ 1000000) (hl : (S.L.length : Int) ≤ 1200) (hX : Es w a n cap X) :
    Calls Try.prog 12 #[.pointer (some ⟨p, 0, none⟩), .slice a n cap, .int .i64 place] w fun e w' => e = .returned (two (viewP S X place)) ∧ Below w.heap.size w w' := by
  have hr := rread_any B p v1 v2 S place w h hf hl
  have hfd := rfind_prog a n cap X place w hX
  unfold viewP
  obtain ⟨x, k, hxk⟩ : ∃ x k, S.read place = (x, k) := ⟨_, _, rfl⟩
  rw [hxk] at hr ⊢
  unfold two at hr ⊢
  dsimp only at hr ⊢
  have HR := Lib.hid hr
  have HFD := Lib.hid hfd
  clear hr hfd hxk h hX
  by_cases hk : k = 0
  · subst hk
    rw [if_neg (by simp)]
    cases hfx : findE X place with
    | some s =>
      rw [hfx] at HFD
      unfold findV at HFD
      dsimp only at HFD ⊢
      clear hfx
      go_enter Try.func12, Try.ntmps12
      go_wp2_with fail
      refine HR.out.mono ?_
      rintro e w1 ⟨rfl, hw⟩; obtain rfl := hw.symm; clear hw
      go_wp2_with fail
      refine HFD.out.mono ?_
      rintro e w2 ⟨rfl, hb⟩
      have HB2 := Lib.hid hb
      clear hb
      go_wp2
      refine bodyPost_ret (results_tmp2 rfl _ _ _) rfl ?_
      exact ⟨rfl, HB2.out⟩
    | none =>
      rw [hfx] at HFD
      unfold findV at HFD
      dsimp only at HFD ⊢
      clear hfx
      go_enter Try.func12, Try.ntmps12
      go_wp2_with fail
      refine HR.out.mono ?_
      rintro e w1 ⟨rfl, hw⟩; obtain rfl := hw.symm; clear hw
      go_wp2_with fail
      refine HFD.out.mono ?_
      rintro e w2 ⟨rfl, hb⟩
      have HB2 := Lib.hid hb
      clear hb
      go_wp2
      refine bodyPost_ret (results_tmp2 rfl _ _ _) rfl ?_
      exact ⟨rfl, HB2.out⟩
  · have hr2 : (k == 0) = false := by simpa using hk
    have hr3 : (k != 0) = true := by simp [hk]
    rw [if_pos hk]
    clear hk
    go_enter Try.func12, Try.ntmps12
    go_wp2_with fail
    refine HR.out.mono ?_
    rintro e w1 ⟨rfl, hw⟩; obtain rfl := hw.symm; clear hw
    go_wp2
    refine bodyPost_ret (results_tmp2 rfl _ _ _) rfl ?_
    exact ⟨rfl, Below.refl _ _⟩

/-- The document's disk under way, made since w: what it has got since lies behind w. -/
theorem rp_es {w w1 : World} {B p : Nat} {v1 v2 : Value} {S : DS} (h : RP w B p v1 v2 S w1) {a : Option Addr} {n cap : Nat} {X : List En} (hX : Es w a n cap X) (ha : ∀ b off, a = some ⟨b, off, none⟩ → 0 < n → ¬ foot p v1 v2 b) : Es w1 a n cap X := by
  obtain ⟨_, _, _, hF, _⟩ := h
  exact hX.fr hF fun b off e h0 => ha b off e h0
theorem rp_box {w w1 : World} {B p : Nat} {v1 v2 : Value} {S : DS} (h : RP w B p v1 v2 S w1) {b : Nat} {o : Obj} (hb : w.heap[b]? = some o) (hn : ¬ foot p v1 v2 b) : w1.heap[b]? = some o := (h.old b (lt_of_block hb) hn).trans hb

set_option maxRecDepth 20000 in
set_option maxHeartbeats 4000000 in
theorem rback_any (B p : Nat) (v1 v2 : Value) (S : DS) (N F C U : Int) (a : Option Addr) (n cap : Nat) (X : List En) (w : World) (h : RD w B p v1 v2 S) (hB : B ≤ w.heap.size) (M : Nat) (hok : S.ok M) (hM : M + n + 3 ≤ 1000000) (hX : Es w a n cap X)
    (ha : ∀ b off, a = some ⟨b, off, none⟩ → 0 < n → ¬ foot p v1 v2 b) :
    Calls Try.prog 16 #[.pointer (some ⟨p, 0, none⟩), geo N F C U, .slice a n cap] w fun e w' => e = .returned (.int .i64 (backP N F C U S X).1) ∧ RP w B p v1 v2 (backP N F C U S X).2 w' := by
  have hln := hX.len
  subst hln
  have hv := fun k hk => (h.foot_low k hk).2
  have hr := fun w => grright_any N F C U w
  have hcx : (cap : Int) ≤ 9223372036854775807 ∧ X.length ≤ cap := ⟨by have := hX.cm; unfold maxLen at this; omega, hX.le⟩
  obtain ⟨hcx1, hcx2⟩ := hcx
  have hB0 : Below w.heap.size w (w.alloc (.cells #[.int .i64 N, .int .i64 F, .int .i64 C, .int .i64 U] 23)) := (Below.refl _ w).alloc (Nat.le_refl _) _
  have hg0 : (w.alloc (.cells #[.int .i64 N, .int .i64 F, .int .i64 C, .int .i64 U] 23)).heap[w.heap.size]? = some (.cells #[.int .i64 N, .int .i64 F, .int .i64 C, .int .i64 U] 23 (0, 0)) := heap_alloc_new _ _
  unfold geo at hr ⊢
  have HH := Lib.hid h
  have HB0 := Lib.hid hB0
  have HG0 := Lib.hid hg0
  have HX := Lib.hid hX
  clear h hB0 hX hg0
  by_cases ho : okG N F C U
  · rw [decide_eq_true ho] at hr
    have HR := Lib.hid hr
    clear hr
    obtain ⟨BP, hBP⟩ : ∃ BP, BP = backP N F C U S X := ⟨_, rfl⟩
    rw [← hBP]
    have HBP := Lib.hid hBP
    clear hBP
    go_enter Try.func16, Try.ntmps16
    go_wp2_with fail
    refine (HR.out _).mono ?_
    rintro e w1 ⟨rfl, hb⟩
    have hg1 := (hb.block _ (lt_of_block HG0.out)).trans HG0.out
    have HG1 := Lib.hid hg1
    have HB1 := Lib.hid (HB0.out.trans (hb.mono HB0.out.size))
    have HSZ := Lib.hid (show w.heap.size < w1.heap.size from by have := hb.size; simp at this; omega)
    clear hb hg1 HR HB0 HG0
    go_wp2
    go_loopw [7] (fun i wr => ∃ k : Nat, k ≤ X.length ∧ i = .int .i64 ((X.length : Int) - 1 - (k : Int)) ∧ (wrL S (upE X k)).1 = 0 ∧ RP w1 B p v1 v2 (wrL S (upE X k)).2 wr) (fun i _ => (intOf i + 1).toNat)
    case atStart => exact ⟨0, by omega, by simp, rfl, RP.same (HH.out.below HB1.out)⟩
    case round =>
      obtain ⟨k, hk, rfl, h0, hP⟩ := hrel
      have hgw := rp_box hP HG1.out (fun hf => by have := hv _ hf; omega)
      have HGW := Lib.hid hgw
      have hew := rp_es hP (HX.out.later HB1.out) ha
      have hok1 := wrL_ok hok (upE X k)
      rw [upE_length] at hok1
      by_cases hlt : k < X.length
      · obtain ⟨m, hm⟩ : ∃ m : Nat, m = X.length - 1 - k := ⟨_, rfl⟩
        have hml : m < X.length := by omega
        have e0 : (X.length : Int) - 1 - (k : Int) = (m : Int) := by omega
        rw [e0]
        have hsn := wrL_snoc S (upE X k) (X.length - 1 - k, eAt X (X.length - 1 - k))
        rw [← upE_succ, if_neg (by rw [h0]; simp)] at hsn
        dsimp only at hsn
        rw [← hm] at hsn
        obtain ⟨b, off, rfl, hbl, hcl⟩ := hew.at0 (by omega)
        obtain ⟨b', off', eb, hb0, -⟩ := HX.out.at0 (by omega)
        cases eb
        obtain ⟨c0, c1, c2, c3⟩ := hcl m hml
        have i1 : (0 : Int) ≤ (m : Int) := by omega
        have i2 : (m : Int) < (X.length : Int) := by omega
        obtain ⟨a1, a2, hp, hF, hN⟩ := hP
        have hrd : RD wr.drew B p a1 a2 (wrL S (upE X k)).2 := hp.below (Below.refl _ _).drew
        have hwt := rwrite_any B p a1 a2 (wrL S (upE X k)).2 (eAt X m).place (eAt X m).old wr.drew hrd (Nat.le_trans hB (Nat.le_trans HB1.out.size hF.size)) (M + k) hok1 (by omega)
        obtain ⟨R, T2, hRT⟩ : ∃ R T2, wrL S (upE X (k + 1)) = (R, T2) := ⟨_, _, rfl⟩
        rw [← hsn, hRT] at hwt
        dsimp only at hwt
        have hnb : ¬ foot p a1 a2 b := fun hf => by
          rcases hN b hf with h1 | h1
          · exact ha b off rfl (by omega) h1
          · have := HB1.out.size; omega
        have hce := fun w5 (hx : RP wr.drew B p a1 a2 T2 w5) => (show w5.heap[b]? = wr.heap[b]? from hx.old b hbl hnb)
        have hfin := fun w5 (hx : RP wr.drew B p a1 a2 T2 w5) => (show RP w1 B p v1 v2 T2 w5 from by
          obtain ⟨b1, b2, hp', hF', hN'⟩ := hx
          exact ⟨b1, b2, hp', hF.drew.trans hF' (fun i hi => hN i hi), fun i hi => (hN' i hi).elim (hN i) (fun h => .inr (Nat.le_trans hF.size h))⟩)
        have HFN := Lib.hid hfin
        have HWT := Lib.hid hwt
        have HRT := Lib.hid hRT
        have HM := Lib.hid hm
        generalize (eAt X m).place = x2 at *
        generalize (eAt X m).old = x3 at *
        have hce2 := fun w5 (hx : RP wr.drew B p a1 a2 T2 w5) => (show w5.cell? ⟨b, off + m * 4 + 2, none⟩ = some (.int .i64 x2) ∧ w5.cell? ⟨b, off + m * 4 + 3, none⟩ = some (.string x3) from ⟨by rw [World.cell?_of_block (w := wr) (hce w5 hx)]; exact c2, by rw [World.cell?_of_block (w := wr) (hce w5 hx)]; exact c3⟩)
        have HCE := Lib.hid hce2
        have hst : wr.drew.cell? ⟨b, off + m * 4 + 2, none⟩ = some (.int .i64 x2) ∧ wr.drew.cell? ⟨b, off + m * 4 + 3, none⟩ = some (.string x3) := ⟨c2, c3⟩
        have HST := Lib.hid hst
        clear hwt hfin hp hF hN hrd hsn hRT hm hcl c0 c1 c2 c3 hok1 h0 e0 hgw hew hst hce hce2 hnb hb0 hbl
        go_upto_region 6 with fail
        go_region_held3 (fun w' => w'.cell? ⟨b, off + m * 4 + 2, none⟩ = some (.int .i64 x2) ∧ w'.cell? ⟨b, off + m * 4 + 3, none⟩ = some (.string x3))
          (first | exact HST.out | exact HCE.out _ hx)
          (first
          | (go_at_call 8; with_reducible refine HWT.out.mono ?_; rintro r w5 ⟨rfl, hx⟩))
        rename_i hHeld
        clear hHeld HWT HCE HST
        have HX5 := Lib.hid (HFN.out _ hx)
        clear hx HFN
        by_cases hR : R = 0
        · subst hR
          go_wp2
          go_roundw
          case rel => exact ⟨k + 1, by omega, by have := HM.out; go_num, by rw [HRT.out], by rw [HRT.out]; exact HX5.out⟩
          case measure => simp [intOf]
        · have hr2 : (R == 0) = false := by simpa using hR
          have hr3 : (R != 0) = true := by simp [hR]
          obtain ⟨r, hr⟩ := upE_pre X (k + 1) (by omega)
          have hbp : BP = (R, T2) := by
            rw [HBP.out]
            unfold backP
            rw [if_pos ho, hr, wrL_bad S _ r (by rw [HRT.out]; exact hR), if_pos (by rw [HRT.out]; exact hR), HRT.out]
          have HRR := Lib.hid hbp
          clear hr hbp hR
          go_wp2
          go_ret
          exact ⟨by rw [HRR.out]; rfl, by rw [HRR.out]; exact rp_below HB1.out HX5.out⟩
      · obtain rfl : k = X.length := by omega
        have e0 : (X.length : Int) - 1 - (X.length : Int) = -1 := by omega
        rw [e0]
        have hbp : BP = if (wrL S (upE X X.length)).2.flush.1 ≠ 0 then (wrL S (upE X X.length)).2.flush else clearP N F C U (wrL S (upE X X.length)).2.flush.2 := by
          rw [HBP.out]; unfold backP; rw [if_pos ho, if_neg (by rw [h0]; simp)]
        obtain ⟨T, hT⟩ : ∃ T, T = (wrL S (upE X X.length)).2 := ⟨_, rfl⟩
        rw [← hT] at hP hok1 hbp
        obtain ⟨a1, a2, hp, hF, hN⟩ := hP
        have hPw := Lib.hid (show RP w1 B p v1 v2 T wr from ⟨a1, a2, hp, hF, hN⟩)
        have hfl := rflush_any B p a1 a2 T wr hp (Nat.le_trans hB (Nat.le_trans HB1.out.size hF.size)) (M + X.length) hok1 (by omega)
        have hok2 := hok1.flush
        obtain ⟨R, T2, hRT⟩ : ∃ R T2, T.flush = (R, T2) := ⟨_, _, rfl⟩
        rw [hRT] at hfl hbp hok2
        dsimp only at hfl hbp hok2
        have HFL := Lib.hid hfl
        have HBP2 := Lib.hid hbp
        have HFN := Lib.hid (show ∀ w5, RP wr B p a1 a2 T2 w5 → RP w1 B p v1 v2 T2 w5 from fun w5 hx => by
          obtain ⟨b1, b2, hp', hF', hN'⟩ := hx
          exact ⟨b1, b2, hp', hF.trans hF' (fun i hi => hN i hi), fun i hi => (hN' i hi).elim (hN i) (fun h => .inr (Nat.le_trans hF.size h))⟩)
        clear hfl hbp hp hF hN hRT hT h0 hgw hew hok1 hPw
        go_wp2_with fail
        refine HFL.out.mono ?_
        rintro e w5 ⟨rfl, hx⟩
        have HX5 := Lib.hid (HFN.out _ hx)
        clear hx HFN HFL
        by_cases hR : R = 0
        · subst hR
          have hbp : BP = clearP N F C U T2 := HBP2.out
          have hg5 := rp_box HX5.out HG1.out (fun hf => by have := hv _ hf; omega)
          have c0 : w5.cell? ⟨w.heap.size, 0, none⟩ = some (.int .i64 N) := by rw [cell_of_blk hg5]; rfl
          have c1 : w5.cell? ⟨w.heap.size, 1, none⟩ = some (.int .i64 F) := by rw [cell_of_blk hg5]; rfl
          have c2 : w5.cell? ⟨w.heap.size, 2, none⟩ = some (.int .i64 C) := by rw [cell_of_blk hg5]; rfl
          have c3 : w5.cell? ⟨w.heap.size, 3, none⟩ = some (.int .i64 U) := by rw [cell_of_blk hg5]; rfl
          obtain ⟨a1, a2, hp, hF, hN⟩ := HX5.out
          have hcl := rclear_any B p a1 a2 T2 N F C U w5 hp (Nat.le_trans hB (Nat.le_trans HB1.out.size hF.size)) (M + X.length + 1) hok2 (by omega)
          rw [← hbp] at hcl
          unfold geo at hcl
          have HCL := Lib.hid hcl
          have HFN := Lib.hid (show ∀ w6, RP w5 B p a1 a2 BP.2 w6 → RP w1 B p v1 v2 BP.2 w6 from fun w6 hx => by
            obtain ⟨b1, b2, hp', hF', hN'⟩ := hx
            exact ⟨b1, b2, hp', hF.trans hF' (fun i hi => hN i hi), fun i hi => (hN' i hi).elim (hN i) (fun h => .inr (Nat.le_trans hF.size h))⟩)
          clear hcl hp hF hN hbp hg5 hok2
          go_wp2_with fail
          refine HCL.out.mono ?_
          rintro e w6 ⟨rfl, hx⟩
          have HX6 := Lib.hid (HFN.out _ hx)
          clear hx HFN HCL c0 c1 c2 c3
          go_wp2
          go_ret
          exact ⟨rfl, rp_below HB1.out HX6.out⟩
        · have hr2 : (R == 0) = false := by simpa using hR
          have hr3 : (R != 0) = true := by simp [hR]
          have hbp : BP = (R, T2) := HBP2.out.trans (if_pos hR)
          have HRR := Lib.hid hbp
          clear hbp hR hok2
          go_wp2
          go_ret
          exact ⟨by rw [HRR.out]; rfl, by rw [HRR.out]; exact rp_below HB1.out HX5.out⟩
  · rw [show backP N F C U S X = (12, S) from if_neg ho]
    rw [decide_eq_false ho] at hr
    have HR := Lib.hid hr
    clear hr ho
    go_enter Try.func16, Try.ntmps16
    go_wp2_with fail
    refine (HR.out _).mono ?_
    rintro e w1 ⟨rfl, hb⟩
    have HB := Lib.hid (HB0.out.trans (hb.mono HB0.out.size))
    clear hb HR
    go_wp2
    go_ret
    exact ⟨rfl, rp_after HH.out HB.out⟩
end Go.Proofs.Ytehjdaafadbbdaa

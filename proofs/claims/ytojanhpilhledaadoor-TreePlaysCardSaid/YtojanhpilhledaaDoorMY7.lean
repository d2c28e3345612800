/-
  Texts put together: Y7.
-/
import Derived.Test.YtojanhpilhledaaDoorMY6
import Derived.Test.YtojanhpilhledaaDoorMY2
import Derived.Test.YtojanhpilhledaaDoorMY1
/-
  The walk of TreePlays.
-/
namespace Go.Proofs.YtojanhpilhledaaDoor
open Go.RowKit
set_option linter.unusedVariables false
set_option linter.unusedSimpArgs false

/-- The digests behind the first k of some sectors that are set. -/
def playL (N F C U : Int) (L : List ByteArray) (X : Nat → Int × ByteArray) : Nat → List ByteArray
  | 0 => L
  | k + 1 => setL N F C U (playL N F C U L X k) (X k).1 (X k).2
theorem playL_length (N F C U : Int) (L X) : ∀ k, (playL N F C U L X k).length = L.length
  | 0 => rfl
  | k + 1 => by rw [playL, setL_length, playL_length]
theorem playL_size {N F C U : Int} {L : List ByteArray} (X : Nat → Int × ByteArray) (hl : L.length = nodes N F C U) (h : ∀ i, i < L.length → (lAt L i).size ≤ 1000) : ∀ k, ∀ i, i < (playL N F C U L X k).length → (lAt (playL N F C U L X k) i).size ≤ 1000
  | 0 => h
  | k + 1 => setL_size (by omega) (by rw [playL_length]; exact hl) _ _ (playL_size X hl h k)

/-- Three trees: the program's at p, the document's at q, and the copy of the program's at c. -/
structure T3 (w w2 w3 w4 : World) (p : Nat) (v : Value) (q : Nat) (v' : Value) (c : Nat) (vc : Value) (N F C U : Int) (L M L0 : List ByteArray) (wr : World) : Prop where
  t : PT wr w2.heap.size p v N F C U L
  r : RT wr w3.heap.size q v' N F C U M
  c : PT wr w4.heap.size c vc N F C U L0
  b : Below w.heap.size w wr
  b2 : Below w2.heap.size w2 wr
  s4 : w4.heap.size ≤ wr.heap.size
structure Ft (w2 w3 w4 : World) (p : Nat) (v : Value) (q : Nat) (v' : Value) : Prop where
  p3 : ∀ k, tfoot p v k → k < w3.heap.size
  q4 : ∀ k, tfoot q v' k → k < w4.heap.size
  s : w2.heap.size ≤ w3.heap.size ∧ w3.heap.size ≤ w4.heap.size
theorem T3.setT {w w2 w3 w4 : World} {p : Nat} {v : Value} {q : Nat} {v' : Value} {c : Nat} {vc : Value} {N F C U : Int} {L M L0 L' : List ByteArray} {wr w' : World} (h : T3 w w2 w3 w4 p v q v' c vc N F C U L M L0 wr) (hft : Ft w2 w3 w4 p v q v') (hw : w.heap.size ≤ w2.heap.size)
    (hT : PT w' w2.heap.size p v N F C U L') (hF : Fr (tfoot p v) wr w') : T3 w w2 w3 w4 p v q v' c vc N F C U L' M L0 w' where
  t := hT
  r := h.r.frl hF fun k hk hk2 => by have := (h.r.foot_low k hk).1; have := hft.p3 k hk2; omega
  c := h.c.frl hF fun k hk hk2 => by have := (h.c.foot_low k hk).1; have := hft.p3 k hk2; have := hft.s; omega
  b := h.b.trans (hF.below (fun k hk => Nat.le_trans hw (h.t.foot_low k hk).1) h.b.size)
  b2 := h.b2.trans (hF.below (fun k hk => (h.t.foot_low k hk).1) h.b2.size)
  s4 := Nat.le_trans h.s4 hF.size
theorem T3.setR {w w2 w3 w4 : World} {p : Nat} {v : Value} {q : Nat} {v' : Value} {c : Nat} {vc : Value} {N F C U : Int} {L M L0 M' : List ByteArray} {wr w' : World} (h : T3 w w2 w3 w4 p v q v' c vc N F C U L M L0 wr) (hft : Ft w2 w3 w4 p v q v') (hw : w.heap.size ≤ w2.heap.size)
    (hR : RT w' w3.heap.size q v' N F C U M') (hF : Fr (tfoot q v') wr w') : T3 w w2 w3 w4 p v q v' c vc N F C U L M' L0 w' where
  t := h.t.frl hF fun k hk hk2 => by have := (h.r.foot_low k hk2).1; have := hft.p3 k hk; omega
  r := hR
  c := h.c.frl hF fun k hk hk2 => by have := (h.c.foot_low k hk).1; have := hft.q4 k hk2; omega
  b := h.b.trans (hF.below (fun k hk => by have := (h.r.foot_low k hk).1; have := hft.s; omega) h.b.size)
  b2 := h.b2.trans (hF.below (fun k hk => by have := (h.r.foot_low k hk).1; have := hft.s; omega) h.b2.size)
  s4 := Nat.le_trans h.s4 hF.size
theorem T3.below {w w2 w3 w4 : World} {p : Nat} {v : Value} {q : Nat} {v' : Value} {c : Nat} {vc : Value} {N F C U : Int} {L M L0 : List ByteArray} {wr w' : World} (h : T3 w w2 w3 w4 p v q v' c vc N F C U L M L0 wr) (hb : Below wr.heap.size wr w') : T3 w w2 w3 w4 p v q v' c vc N F C U L M L0 w' where
  t := h.t.below hb
  r := h.r.below hb
  c := h.c.below hb
  b := h.b.trans (hb.mono h.b.size)
  b2 := h.b2.trans (hb.mono h.b2.size)
  s4 := Nat.le_trans h.s4 hb.size

set_option maxRecDepth 20000 in
set_option maxHeartbeats 2000000 in
theorem tplays_ok (N F C U : Int) (a : Option Addr) (l cap : Nat) (Ss : List ByteArray) (a2 : Option Addr) (l2 cap2 : Nat) (X : Nat → Int × ByteArray) (w : World) (hP : Rs w a l cap Ss) (hQ : Ps w a2 l2 cap2 X) (hK : Kon w) (hN : N ≤ 30) (hl : l ≤ 80) (hl2 : l2 ≤ 30) (he : fromErr N F C U Ss = 0) :
    Calls Tryd.prog 4 #[geo N F C U, .slice a l cap, .slice a2 l2 cap2] w fun e w' => e = .returned (.bool true) ∧ Below w.heap.size w w' := by
  obtain ⟨hok, hLn, h32e⟩ := fromErr_ok he
  have hnle := nodes_le N F C U
  have hnge := nodes_ge hok
  have h32 : ∀ i, i < Ss.length → (lAt Ss i).size ≤ 1000 := fun i hi => by rw [h32e i hi]; omega
  have hb0 := (Below.refl w.heap.size w).alloc (Nat.le_refl _) (gbox N F C U)
  have hsm := fun w => small_any N F C U w
  have hkn := fun w' (hb : Below w.heap.size w w') => tknown_any w' (hK.below hb)
  have hf1 := fun w' (hb : Below w.heap.size w w') => pend_ok (tfrom_any N F C U a l cap Ss w' (hP.later hb)) he
  have hf2 := fun w' (hb : Below w.heap.size w w') => tend_ok (rfrom_any N F C U a l cap Ss w' (hP.later hb)) he
  have hgc : ∀ wr, Below (w.alloc (gbox N F C U)).heap.size (w.alloc (gbox N F C U)) wr → wr.cell? ⟨w.heap.size, 0, none⟩ = some (.int .i64 N) ∧ wr.cell? ⟨w.heap.size, 1, none⟩ = some (.int .i64 F) ∧ wr.cell? ⟨w.heap.size, 2, none⟩ = some (.int .i64 C) ∧ wr.cell? ⟨w.heap.size, 3, none⟩ = some (.int .i64 U) := fun wr h => gbox_cells (by simpa using h)
  have hcx : (cap : Int) ≤ 9223372036854775807 := by have := hP.cm; unfold maxLen at this; omega
  have hcx2 : (cap2 : Int) ≤ 9223372036854775807 := by have := hQ.cm; unfold maxLen at this; omega
  have hd : decide (N ≤ 30) = true := decide_eq_true hN
  simp only [hd] at hsm
  have j1 : ¬ ((80 : Int) < (l : Int)) := by omega
  have j2 : ¬ ((30 : Int) < (l2 : Int)) := by omega
  unfold geo at *
  obtain ⟨w1, hw1⟩ : ∃ w1, w1 = w.alloc (gbox N F C U) := ⟨_, rfl⟩
  rw [← hw1] at hb0
  simp only [← hw1] at hgc
  have HSM := Lib.hid hsm
  have HKN := Lib.hid hkn
  have HF1 := Lib.hid hf1
  have HF2 := Lib.hid hf2
  have HGC := Lib.hid hgc
  have HB0 := Lib.hid hb0
  have HW0 := Lib.hid hw1
  have HOK := Lib.hid hok
  have HLN := Lib.hid hLn
  have H32 := Lib.hid h32
  have HP := Lib.hid hP
  have HQ := Lib.hid hQ
  have HK := Lib.hid hK
  have HNN := Lib.hid (And.intro hnle hnge)
  clear hsm hkn hf1 hf2 hgc hb0 hP hK hd hw1 he hQ hok h32 h32e hLn hnle hnge
  unfold gbox at HW0
  go_enter Tryd.func4, Tryd.ntmps4
  go_wp2_with fail
  rw [← HW0.out]
  obtain ⟨g0, g1, g2, g3⟩ := HGC.out _ (Below.refl _ _)
  go_wp2_with fail
  refine (HSM.out _).mono ?_
  rintro e w2 ⟨rfl, hb⟩
  have HB2 := Lib.hid (HB0.out.trans (hb.mono HB0.out.size))
  have HC2 := Lib.hid hb
  clear hb HSM HB0 g0 g1 g2 g3
  obtain ⟨g0, g1, g2, g3⟩ := HGC.out _ HC2.out
  go_wp2_with fail
  refine (HF1.out _ HB2.out).mono ?_
  rintro e w3 ⟨p, v, rfl, hT, hb⟩
  have HB3 := Lib.hid (HB2.out.trans (hb.mono HB2.out.size))
  have HC3 := Lib.hid (HC2.out.trans (hb.mono HC2.out.size))
  have HX3 := Lib.hid hb
  have HT := Lib.hid hT
  clear hb hT g0 g1 g2 g3 HF1
  obtain ⟨g0, g1, g2, g3⟩ := HGC.out _ HC3.out
  go_wp2_with fail
  refine (HF2.out _ HB3.out).mono ?_
  rintro e w4 ⟨q, v', rfl, hR, hb⟩
  have HB4 := Lib.hid (HB3.out.trans (hb.mono HB3.out.size))
  have HX4 := Lib.hid hb
  have HR := Lib.hid hR
  have HT4 := Lib.hid (HT.out.below hb)
  clear hb hR g0 g1 g2 g3 HF2 HGC HC2 HC3
  go_wp2_with fail
  have hcp := tcopy_any w2.heap.size p v N F C U Ss w4 HT4.out (by have := HNN.out; have := HLN.out; omega) (by have := HNN.out; have := HLN.out; omega)
  refine hcp.mono ?_
  rintro e w5 ⟨c, vc, rfl, hC, hb⟩
  clear hcp
  have hft : Ft w2 w3 w4 p v q v' := ⟨fun k hk => (HT.out.foot_low k hk).2, fun k hk => (HR.out.foot_low k hk).2, HX3.out.size, HX4.out.size⟩
  have hI : T3 w w2 w3 w4 p v q v' c vc N F C U Ss Ss Ss w5 := ⟨HT4.out.below hb, HR.out.below hb, hC, HB4.out.trans (hb.mono HB4.out.size), (HX3.out.trans ((HX4.out.trans (hb.mono HX4.out.size)).mono HX3.out.size)), hb.size⟩
  have HFT := Lib.hid hft
  have HI := Lib.hid hI
  have HK2 := Lib.hid (HK.out.below HB2.out)
  clear hb hft hI hC HT HT4 HR HX3 HX4 HB3 HB4
  go_wp2_with fail
  go_loopw [12] (fun i wr => ∃ k : Nat, k ≤ l2 ∧ i = .int .i64 k ∧ T3 w w2 w3 w4 p v q v' c vc N F C U (playL N F C U Ss X k) (playL N F C U Ss X k) Ss wr) (fun i _ => l2 - (intOf i).toNat)
  case atStart => exact ⟨0, by omega, rfl, HI.out⟩
  case round =>
    clear HI
    obtain ⟨k, hk, rfl, hI⟩ := hrel
    by_cases hlt : k < l2
    · have k0 : (0 : Int) ≤ (k : Int) := by omega
      have k1 : (k : Int) < (l2 : Int) := by omega
      obtain ⟨b, off, rfl, hbl, hcc⟩ := HQ.out.at0 (by omega)
      obtain ⟨hc1, hc2⟩ := hcc k hlt
      have hps : ∀ w', Below w.heap.size w w' → w'.cell? ⟨b, off + k * 2, none⟩ = some (.int .i64 (X k).1) ∧ w'.cell? ⟨b, off + k * 2 + 1, none⟩ = some (.string (X k).2) := fun w' hb => ⟨by rw [hb.cell (by exact hbl)]; exact hc1, by rw [hb.cell (by exact hbl)]; exact hc2⟩
      have hst := fun (M L0 : List ByteArray) (wr : World) (h : T3 w w2 w3 w4 p v q v' c vc N F C U (playL N F C U Ss X k) M L0 wr) => tset_any w2 p v N F C U (playL N F C U Ss X k) (X k).1 (X k).2 wr h.t h.b2 HK2.out ((playL_length N F C U Ss X k).trans HLN.out) (playL_size X HLN.out H32.out k)
      have hsr := fun (L L0 : List ByteArray) (wr : World) (h : T3 w w2 w3 w4 p v q v' c vc N F C U L (playL N F C U Ss X k) L0 wr) => rset_any w3.heap.size q v' N F C U (playL N F C U Ss X k) (X k).1 (X k).2 wr h.r HOK.out ((playL_length N F C U Ss X k).trans HLN.out) (playL_size X HLN.out H32.out k)
      have hnx : setL N F C U (playL N F C U Ss X k) (X k).1 (X k).2 = playL N F C U Ss X (k + 1) := rfl
      simp only [hnx] at hst hsr
      have hId : T3 w w2 w3 w4 p v q v' c vc N F C U (playL N F C U Ss X k) (playL N F C U Ss X k) Ss wr.drew := hI.below (Below.refl _ _).drew
      obtain ⟨Ln, hLn⟩ : ∃ Ln, Ln = playL N F C U Ss X (k + 1) := ⟨_, rfl⟩
      simp only [← hLn] at hst hsr
      have HLX := Lib.hid hLn
      clear hLn hnx
      generalize playL N F C U Ss X k = Lk at *
      generalize (X k).1 = leaf at *
      generalize (X k).2 = sx at *
      obtain ⟨er, her⟩ : ∃ er, er = setErr N F C U leaf sx := ⟨_, rfl⟩
      simp only [← her] at hst hsr
      have hne : (er != er) = false := by simp
      have HST := Lib.hid hst
      have HSR := Lib.hid hsr
      have HPS := Lib.hid hps
      have HWS := Lib.hid HB2.out.size
      clear hst hsr hps hc1 hc2 hcc hbl hI her
      go_wp2_with fail
      go_region_held3 (fun w' => w'.cell? ⟨b, off + k * 2, none⟩ = some (.int .i64 leaf) ∧ w'.cell? ⟨b, off + k * 2 + 1, none⟩ = some (.string sx))
        (exact HPS.out _ hId.b)
        (first
        | (go_at_call 19; with_reducible refine (HST.out _ _ _ hId).mono ?_; rintro r wk ⟨rfl, hT, hF⟩; replace hId := hId.setT HFT.out HWS.out hT hF; clear hT hF)
        | (go_at_call 20; with_reducible refine (HSR.out _ _ _ hId).mono ?_; rintro r wk ⟨rfl, hR, hF⟩; replace hId := hId.setR HFT.out HWS.out hR hF; clear hR hF))
      all_goals (
        rename_i hHeld
        clear hHeld
        have HX := Lib.hid hId
        clear hId
        go_wp2
        go_roundw
        case rel => exact ⟨k + 1, by omega, by go_num, by rw [← HLX.out]; exact HX.out⟩
        case measure => simp [intOf]; omega)
    · obtain rfl : k = l2 := by omega
      have i1 : ¬ ((k : Int) < (k : Int)) := by omega
      have hpl := (playL_length N F C U Ss X k).trans HLN.out
      have hsa := same_all 0 HOK.out hI.t hI.r (HK.out.below hI.b) hpl (playL_size X HLN.out H32.out k)
      have hal := fun w' (hb : Below wr.heap.size wr w') => tall_any w4.heap.size c vc N F C U Ss w' (hI.c.below hb) (by have := HNN.out; have := HLN.out; omega) (by have := HNN.out; have := HLN.out; omega)
      have htx := fun w' a' c' (hb : Below wr.heap.size wr w') (hrs : Rs w' a' Ss.length c' Ss) => rtexts_any a' a Ss.length l c' cap Ss Ss w' hrs ((HP.out.later (hI.b.trans (hb.mono hI.b.size))))
      simp only [decide_true] at htx
      have HBW := Lib.hid hI.b
      have HSA := Lib.hid hsa
      have HAL := Lib.hid hal
      have HTX := Lib.hid htx
      clear hsa hal htx hI hpl
      go_wp2_with fail
      refine HSA.out.mono ?_
      rintro e x1 ⟨rfl, hb⟩
      have HX1 := Lib.hid hb
      clear hb HSA
      go_wp2_with fail
      refine (HAL.out _ HX1.out).mono ?_
      rintro e x2 ⟨va, rfl, how, hb⟩
      obtain ⟨aa, ca, rfl, hrs, -⟩ := towns_shape how
      have HX2 := Lib.hid (HX1.out.trans (hb.mono HX1.out.size))
      have HRS := Lib.hid hrs
      clear hb how hrs HAL HX1
      go_wp2_with fail
      refine (HTX.out _ _ _ HX2.out HRS.out).mono ?_
      rintro e x3 ⟨rfl, hb⟩
      have HX3 := Lib.hid (HBW.out.trans ((HX2.out.trans (hb.mono HX2.out.size)).mono HBW.out.size))
      clear hb HTX HX2
      go_wp2_with fail
      refine (HKN.out _ HX3.out).mono ?_
      rintro e x4 ⟨rfl, hb⟩
      have HBB := Lib.hid (HX3.out.trans (hb.mono HX3.out.size))
      clear hb
      go_wp2
      go_ret
      exact ⟨rfl, HBB.out⟩
set_option maxRecDepth 20000 in
set_option maxHeartbeats 2000000 in
theorem tplays_far (N F C U : Int) (a : Option Addr) (l cap : Nat) (Ss : List ByteArray) (a2 : Option Addr) (l2 cap2 : Nat) (w : World) (hP : Rs w a l cap Ss) (hK : Kon w) (hx : 30 < N) :
    Calls Tryd.prog 4 #[geo N F C U, .slice a l cap, .slice a2 l2 cap2] w fun e w' => e = .returned (.bool true) ∧ Below w.heap.size w w' := by
  have hb0 := (Below.refl w.heap.size w).alloc (Nat.le_refl _) (gbox N F C U)
  have hsm := fun w => small_any N F C U w
  have hkn := fun w' (hb : Below w.heap.size w w') => tknown_any w' (hK.below hb)
  have hgc : ∀ wr, Below (w.alloc (gbox N F C U)).heap.size (w.alloc (gbox N F C U)) wr → wr.cell? ⟨w.heap.size, 0, none⟩ = some (.int .i64 N) ∧ wr.cell? ⟨w.heap.size, 1, none⟩ = some (.int .i64 F) ∧ wr.cell? ⟨w.heap.size, 2, none⟩ = some (.int .i64 C) ∧ wr.cell? ⟨w.heap.size, 3, none⟩ = some (.int .i64 U) := fun wr h => gbox_cells (by simpa using h)
  have hd : decide (N ≤ 30) = false := decide_eq_false (by omega)
  simp only [hd] at hsm
  unfold geo at *
  obtain ⟨w1, hw1⟩ : ∃ w1, w1 = w.alloc (gbox N F C U) := ⟨_, rfl⟩
  rw [← hw1] at hb0
  simp only [← hw1] at hgc
  have HSM := Lib.hid hsm
  have HKN := Lib.hid hkn
  have HGC := Lib.hid hgc
  have HB0 := Lib.hid hb0
  have HW0 := Lib.hid hw1
  clear hsm hkn hgc hb0 hK hd hw1 hP
  unfold gbox at HW0
  go_enter Tryd.func4, Tryd.ntmps4
  go_wp2_with fail
  rw [← HW0.out]
  obtain ⟨g0, g1, g2, g3⟩ := HGC.out _ (Below.refl _ _)
  go_wp2_with fail
  refine (HSM.out _).mono ?_
  rintro e w2 ⟨rfl, hb⟩
  have HB2 := Lib.hid (HB0.out.trans (hb.mono HB0.out.size))
  have HC2 := Lib.hid hb
  clear hb HSM HB0 g0 g1 g2 g3
  have HBE := Lib.hid HB2.out
  go_wp2_with fail
  refine (HKN.out _ HBE.out).mono ?_
  rintro e w9 ⟨rfl, hb⟩
  have HBB := Lib.hid (HBE.out.trans (hb.mono HBE.out.size))
  clear hb
  go_wp2
  go_ret
  exact ⟨rfl, HBB.out⟩

set_option maxRecDepth 20000 in
set_option maxHeartbeats 2000000 in
theorem tplays_long (N F C U : Int) (a : Option Addr) (l cap : Nat) (Ss : List ByteArray) (a2 : Option Addr) (l2 cap2 : Nat) (w : World) (hP : Rs w a l cap Ss) (hK : Kon w) (hN : N ≤ 30) (hx : 80 < l) :
    Calls Tryd.prog 4 #[geo N F C U, .slice a l cap, .slice a2 l2 cap2] w fun e w' => e = .returned (.bool true) ∧ Below w.heap.size w w' := by
  have hb0 := (Below.refl w.heap.size w).alloc (Nat.le_refl _) (gbox N F C U)
  have hsm := fun w => small_any N F C U w
  have hkn := fun w' (hb : Below w.heap.size w w') => tknown_any w' (hK.below hb)
  have hgc : ∀ wr, Below (w.alloc (gbox N F C U)).heap.size (w.alloc (gbox N F C U)) wr → wr.cell? ⟨w.heap.size, 0, none⟩ = some (.int .i64 N) ∧ wr.cell? ⟨w.heap.size, 1, none⟩ = some (.int .i64 F) ∧ wr.cell? ⟨w.heap.size, 2, none⟩ = some (.int .i64 C) ∧ wr.cell? ⟨w.heap.size, 3, none⟩ = some (.int .i64 U) := fun wr h => gbox_cells (by simpa using h)
  have hd : decide (N ≤ 30) = true := decide_eq_true hN
  have j1 : (80 : Int) < (l : Int) := by omega
  simp only [hd] at hsm
  unfold geo at *
  obtain ⟨w1, hw1⟩ : ∃ w1, w1 = w.alloc (gbox N F C U) := ⟨_, rfl⟩
  rw [← hw1] at hb0
  simp only [← hw1] at hgc
  have HSM := Lib.hid hsm
  have HKN := Lib.hid hkn
  have HGC := Lib.hid hgc
  have HB0 := Lib.hid hb0
  have HW0 := Lib.hid hw1
  clear hsm hkn hgc hb0 hK hd hw1 hP
  unfold gbox at HW0
  go_enter Tryd.func4, Tryd.ntmps4
  go_wp2_with fail
  rw [← HW0.out]
  obtain ⟨g0, g1, g2, g3⟩ := HGC.out _ (Below.refl _ _)
  go_wp2_with fail
  refine (HSM.out _).mono ?_
  rintro e w2 ⟨rfl, hb⟩
  have HB2 := Lib.hid (HB0.out.trans (hb.mono HB0.out.size))
  have HC2 := Lib.hid hb
  clear hb HSM HB0 g0 g1 g2 g3
  have HBE := Lib.hid HB2.out
  go_wp2_with fail
  refine (HKN.out _ HBE.out).mono ?_
  rintro e w9 ⟨rfl, hb⟩
  have HBB := Lib.hid (HBE.out.trans (hb.mono HBE.out.size))
  clear hb
  go_wp2
  go_ret
  exact ⟨rfl, HBB.out⟩

set_option maxRecDepth 20000 in
set_option maxHeartbeats 2000000 in
theorem tplays_many (N F C U : Int) (a : Option Addr) (l cap : Nat) (Ss : List ByteArray) (a2 : Option Addr) (l2 cap2 : Nat) (w : World) (hP : Rs w a l cap Ss) (hK : Kon w) (hN : N ≤ 30) (hl : l ≤ 80) (hx : 30 < l2) :
    Calls Tryd.prog 4 #[geo N F C U, .slice a l cap, .slice a2 l2 cap2] w fun e w' => e = .returned (.bool true) ∧ Below w.heap.size w w' := by
  have hb0 := (Below.refl w.heap.size w).alloc (Nat.le_refl _) (gbox N F C U)
  have hsm := fun w => small_any N F C U w
  have hkn := fun w' (hb : Below w.heap.size w w') => tknown_any w' (hK.below hb)
  have hgc : ∀ wr, Below (w.alloc (gbox N F C U)).heap.size (w.alloc (gbox N F C U)) wr → wr.cell? ⟨w.heap.size, 0, none⟩ = some (.int .i64 N) ∧ wr.cell? ⟨w.heap.size, 1, none⟩ = some (.int .i64 F) ∧ wr.cell? ⟨w.heap.size, 2, none⟩ = some (.int .i64 C) ∧ wr.cell? ⟨w.heap.size, 3, none⟩ = some (.int .i64 U) := fun wr h => gbox_cells (by simpa using h)
  have hd : decide (N ≤ 30) = true := decide_eq_true hN
  have j1 : ¬ ((80 : Int) < (l : Int)) := by omega
  have j2 : (30 : Int) < (l2 : Int) := by omega
  simp only [hd] at hsm
  unfold geo at *
  obtain ⟨w1, hw1⟩ : ∃ w1, w1 = w.alloc (gbox N F C U) := ⟨_, rfl⟩
  rw [← hw1] at hb0
  simp only [← hw1] at hgc
  have HSM := Lib.hid hsm
  have HKN := Lib.hid hkn
  have HGC := Lib.hid hgc
  have HB0 := Lib.hid hb0
  have HW0 := Lib.hid hw1
  clear hsm hkn hgc hb0 hK hd hw1 hP
  unfold gbox at HW0
  go_enter Tryd.func4, Tryd.ntmps4
  go_wp2_with fail
  rw [← HW0.out]
  obtain ⟨g0, g1, g2, g3⟩ := HGC.out _ (Below.refl _ _)
  go_wp2_with fail
  refine (HSM.out _).mono ?_
  rintro e w2 ⟨rfl, hb⟩
  have HB2 := Lib.hid (HB0.out.trans (hb.mono HB0.out.size))
  have HC2 := Lib.hid hb
  clear hb HSM HB0 g0 g1 g2 g3
  have HBE := Lib.hid HB2.out
  go_wp2_with fail
  refine (HKN.out _ HBE.out).mono ?_
  rintro e w9 ⟨rfl, hb⟩
  have HBB := Lib.hid (HBE.out.trans (hb.mono HBE.out.size))
  clear hb
  go_wp2
  go_ret
  exact ⟨rfl, HBB.out⟩

set_option maxRecDepth 20000 in
set_option maxHeartbeats 2000000 in
theorem tplays_no (N F C U : Int) (a : Option Addr) (l cap : Nat) (Ss : List ByteArray) (a2 : Option Addr) (l2 cap2 : Nat) (w : World) (hP : Rs w a l cap Ss) (hK : Kon w) (hN : N ≤ 30) (hl : l ≤ 80) (hx : l2 ≤ 30) (er : Int) (her : er = fromErr N F C U Ss) (he : er ≠ 0) :
    Calls Tryd.prog 4 #[geo N F C U, .slice a l cap, .slice a2 l2 cap2] w fun e w' => e = .returned (.bool true) ∧ Below w.heap.size w w' := by
  have hb0 := (Below.refl w.heap.size w).alloc (Nat.le_refl _) (gbox N F C U)
  have hsm := fun w => small_any N F C U w
  have hkn := fun w' (hb : Below w.heap.size w w') => tknown_any w' (hK.below hb)
  have hgc : ∀ wr, Below (w.alloc (gbox N F C U)).heap.size (w.alloc (gbox N F C U)) wr → wr.cell? ⟨w.heap.size, 0, none⟩ = some (.int .i64 N) ∧ wr.cell? ⟨w.heap.size, 1, none⟩ = some (.int .i64 F) ∧ wr.cell? ⟨w.heap.size, 2, none⟩ = some (.int .i64 C) ∧ wr.cell? ⟨w.heap.size, 3, none⟩ = some (.int .i64 U) := fun wr h => gbox_cells (by simpa using h)
  have hd : decide (N ≤ 30) = true := decide_eq_true hN
  have j1 : ¬ ((80 : Int) < (l : Int)) := by omega
  have j2 : ¬ ((30 : Int) < (l2 : Int)) := by omega
  have hcx : (cap : Int) ≤ 9223372036854775807 := by have := hP.cm; unfold maxLen at this; omega
  have hf1 := fun w' (hb : Below w.heap.size w w') => tfrom_any N F C U a l cap Ss w' (hP.later hb)
  have hf2 := fun w' (hb : Below w.heap.size w w') => rfrom_any N F C U a l cap Ss w' (hP.later hb)
  simp only [← her] at hf1 hf2
  replace hf1 := fun w' hb => pend_no (hf1 w' hb) he
  replace hf2 := fun w' hb => tend_no (hf2 w' hb) he
  have he1 : (er != er) = false := by simp
  have he2 : (er == er) = true := by simp
  have HX := Lib.hid he
  clear her he
  simp only [hd] at hsm
  unfold geo at *
  obtain ⟨w1, hw1⟩ : ∃ w1, w1 = w.alloc (gbox N F C U) := ⟨_, rfl⟩
  rw [← hw1] at hb0
  simp only [← hw1] at hgc
  have HF1 := Lib.hid hf1
  have HF2 := Lib.hid hf2
  clear hf1 hf2
  have HSM := Lib.hid hsm
  have HKN := Lib.hid hkn
  have HGC := Lib.hid hgc
  have HB0 := Lib.hid hb0
  have HW0 := Lib.hid hw1
  clear hsm hkn hgc hb0 hK hd hw1 hP
  unfold gbox at HW0
  go_enter Tryd.func4, Tryd.ntmps4
  go_wp2_with fail
  rw [← HW0.out]
  obtain ⟨g0, g1, g2, g3⟩ := HGC.out _ (Below.refl _ _)
  go_wp2_with fail
  refine (HSM.out _).mono ?_
  rintro e w2 ⟨rfl, hb⟩
  have HB2 := Lib.hid (HB0.out.trans (hb.mono HB0.out.size))
  have HC2 := Lib.hid hb
  clear hb HSM HB0 g0 g1 g2 g3
  obtain ⟨g0, g1, g2, g3⟩ := HGC.out _ HC2.out
  go_wp2_with fail
  refine (HF1.out _ HB2.out).mono ?_
  rintro e w3 ⟨rfl, hb⟩
  have HB3 := Lib.hid (HB2.out.trans (hb.mono HB2.out.size))
  have HC3 := Lib.hid (HC2.out.trans (hb.mono HC2.out.size))
  clear hb g0 g1 g2 g3 HF1
  obtain ⟨g0, g1, g2, g3⟩ := HGC.out _ HC3.out
  go_wp2_with fail
  refine (HF2.out _ HB3.out).mono ?_
  rintro e w4 ⟨rfl, hb⟩
  have HBE := Lib.hid (HB3.out.trans (hb.mono HB3.out.size))
  clear hb g0 g1 g2 g3 HF2
  go_wp2_with fail
  refine (HKN.out _ HBE.out).mono ?_
  rintro e w9 ⟨rfl, hb⟩
  have HBB := Lib.hid (HBE.out.trans (hb.mono HBE.out.size))
  clear hb
  go_wp2
  go_ret
  exact ⟨rfl, HBB.out⟩

theorem tplays_any (N F C U : Int) (a : Option Addr) (l cap : Nat) (Ss : List ByteArray) (a2 : Option Addr) (l2 cap2 : Nat) (X : Nat → Int × ByteArray) (w : World) (hP : Rs w a l cap Ss) (hQ : Ps w a2 l2 cap2 X) (hK : Kon w) :
    Calls Tryd.prog 4 #[geo N F C U, .slice a l cap, .slice a2 l2 cap2] w fun e w' => e = .returned (.bool true) ∧ Below w.heap.size w w' := by
  by_cases hN : N ≤ 30
  · by_cases hl : l ≤ 80
    · by_cases hl2 : l2 ≤ 30
      · by_cases h1 : fromErr N F C U Ss = 0
        · exact tplays_ok N F C U a l cap Ss a2 l2 cap2 X w hP hQ hK hN hl hl2 h1
        · exact tplays_no N F C U a l cap Ss a2 l2 cap2 w hP hK hN hl hl2 _ rfl h1
      · exact tplays_many N F C U a l cap Ss a2 l2 cap2 w hP hK hN hl (by omega)
    · exact tplays_long N F C U a l cap Ss a2 l2 cap2 w hP hK hN (by omega)
  · exact tplays_far N F C U a l cap Ss a2 l2 cap2 w hP hK (by omega)
end Go.Proofs.YtojanhpilhledaaDoor

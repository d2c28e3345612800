/-
  Texts put together: ZA, ZD, ZF.
-/
import Derived.Test.YtpdlpoomgkpogaaDoorMZ6
import Derived.Test.YtpdlpoomgkpogaaDoorMZ8
/-
  A node's children come: the program's Nodes, where all is well.
-/
namespace Go.Proofs.YtpdlpoomgkpogaaDoor
open Go.RowKit
set_option linter.unusedVariables false
set_option linter.unusedSimpArgs false

/-- The first j children are gone over. -/
def fndS (N : Int) (L : List ByteArray) (s : WS) (ks : List Int) (l : List ByteArray) : Nat → WS
  | 0 => s
  | j + 1 => findS N L (fndS N L s ks l j) (ks[j]?.getD 0) (lAt l j)
theorem findS_len (N : Int) (L : List ByteArray) (s : WS) (k : Int) (d : ByteArray) : (findS N L s k d).asks.length + (findS N L s k d).wants.length ≤ s.asks.length + s.wants.length + 1 ∧ (findS N L s k d).asked = s.asked ∧ (findS N L s k d).told = s.told ∧ (findS N L s k d).came = s.came := by
  unfold findS
  split
  · exact ⟨by omega, rfl, rfl, rfl⟩
  · split
    · exact ⟨by simp; omega, rfl, rfl, rfl⟩
    · exact ⟨by simp; omega, rfl, rfl, rfl⟩
theorem fndS_len (N : Int) (L : List ByteArray) (s : WS) (ks : List Int) (l : List ByteArray) : ∀ j, (fndS N L s ks l j).asks.length + (fndS N L s ks l j).wants.length ≤ s.asks.length + s.wants.length + j ∧ (fndS N L s ks l j).asked = s.asked ∧ (fndS N L s ks l j).told = s.told ∧ (fndS N L s ks l j).came = s.came
  | 0 => ⟨Nat.le_refl _, rfl, rfl, rfl⟩
  | j + 1 => by
    have ih := fndS_len N L s ks l j
    have h := findS_len N L (fndS N L s ks l j) (ks[j]?.getD 0) (lAt l j)
    exact ⟨Nat.le_trans h.1 (by omega), h.2.1.trans ih.2.1, h.2.2.1.trans ih.2.2.1, h.2.2.2.trans ih.2.2.2⟩
theorem WNx.trans {T : TypeId × TypeId × TypeId} {w w1 w2 : World} {B pw : Nat} {va vw va1 vw1 : Value} {p : Nat} {v : Value} {N F C U : Int} {L : List ByteArray} {s2 : WS} (hF : Fr (wfoot pw va vw) w w1) (hN : ∀ k, wfoot pw va1 vw1 k → wfoot pw va vw k ∨ w.heap.size ≤ k)
    (h : WNx T w1 B pw va1 vw1 p v N F C U L s2 w2) : WNx T w B pw va vw p v N F C U L s2 w2 := by
  obtain ⟨va2, vw2, hW, hF2, hN2⟩ := h
  refine ⟨va2, vw2, hW, hF.trans hF2 hN, fun k hk => ?_⟩
  rcases hN2 k hk with h | h
  · exact hN k h
  · exact .inr (Nat.le_trans hF.size h)
theorem Rs.fr {A : Nat → Prop} {w w' : World} {a : Option Addr} {n cap : Nat} {L : List ByteArray} (h : Rs w a n cap L) (hF : Fr A w w') (hb : ∀ b off, a = some ⟨b, off, none⟩ → 0 < n → ¬ A b) : Rs w' a n cap L where
  len := h.len
  le := h.le
  cm := h.cm
  at0 := fun h0 => by
    obtain ⟨b, off, ha, hlt, hc⟩ := h.at0 h0
    exact ⟨b, off, ha, Nat.lt_of_lt_of_le hlt hF.size, fun i hi => by rw [World.cell?_of_block (w := w) (hF.block b hlt (hb b off ha h0))]; exact hc i hi⟩
theorem Ri.fr {A : Nat → Prop} {w w' : World} {a : Option Addr} {n cap : Nat} {L : List Int} (h : Ri w a n cap L) (hF : Fr A w w') (hb : ∀ b off, a = some ⟨b, off, none⟩ → ¬ A b) : Ri w' a n cap L :=
  h.kept hF.size fun b off e hlt => hF.block b hlt (hb b off e)
theorem firstP_ask {s : WS} {n : Int} {d : ByteArray} (h : firstP s = (1, (n, d))) : ∃ q, s.asks = (n, d) :: q := by
  obtain ⟨asks, wants, asked, told, came⟩ := s
  cases asks with
  | cons x q => cases h; exact ⟨q, rfl⟩
  | nil => cases wants with
    | cons x q => cases h
    | nil => cases h
def cutA (s : WS) : WS := { s with asks := s.asks.drop 1 }
def nodesS (N F C U : Int) (L : List ByteArray) (s : WS) (k : Int) (l : List ByteArray) : WS :=
  { fndS N L (cutA s) (children N F C U k) l (children N F C U k).length with asked := s.asked + 1, told := s.told + l.length }

set_option maxRecDepth 20000 in
set_option maxHeartbeats 4000000 in
theorem nodes_ok (B pw : Nat) (va vw : Value) (p : Nat) (v : Value) (N F C U : Int) (L : List ByteArray) (s : WS) (k : Int) (d : ByteArray) (a : Option Addr) (n cap : Nat) (l : List ByteArray) (w : World) (h : PW w B pw va vw p v N F C U L s) (hK : Kon w)
    (hF : firstP s = (1, (k, d))) (hn : l.length = (children N F C U k).length) (hd : nodeB l = d) (h32 : ∀ i, i < l.length → (lAt l i).size ≤ 2000000) (hL : L.length = nodes N F C U)
    (hP : Rs w a n cap l) (hPa : ∀ b off, a = some ⟨b, off, none⟩ → 0 < n → ¬ wfoot pw va vw b) (hq : s.asks.length + s.wants.length ≤ 50000) (hc : s.asked ≤ 50000 ∧ s.told ≤ 50000) :
    Calls Tryd.prog 11 #[.pointer (some ⟨pw, 0, none⟩), .int .i64 k, .slice a n cap] w fun e w' => e = .returned (.int .i64 0) ∧ WNx (67, 71, 60) w B pw va vw p v N F C U L (nodesS N F C U L s k l) w' := by
  have hf := wfirst_any B pw va vw p v N F C U L s w h
  rw [hF] at hf
  simp only at hf
  have hln := hP.len
  subst hln
  have hcl := children_len N F C U k
  have hnl := nodes_le N F C U
  have hkm : ∀ c ∈ children N F C U k, ∃ j : Nat, c = j ∧ j < nodes N F C U := fun c hc => by
    by_cases hin : okG N F C U ∧ 0 ≤ k ∧ k < (nodes N F C U : Int)
    · obtain ⟨x, rfl⟩ : ∃ x : Nat, k = x := ⟨k.toNat, by omega⟩
      obtain ⟨j, e, hj⟩ := children_mem hc
      exact ⟨j, e, by omega⟩
    · rcases level_cases N F C U k with ⟨-, -, h2, -⟩ | ⟨m, f, j, x, rfl, rfl, rfl, ho, hok, hj, hx1, hx2, -, -, -, -, -, h4⟩
      · rw [h2] at hc; cases hc
      · exact absurd ⟨hok, by omega, by rw [h4]; have := @S_mono m f (j + 1) (H m f + 1) (by omega); omega⟩ hin
  have hge := fun w' (hb : Below w.heap.size w w') => tgeom_any 0 p v N F C U L w' (h.tree.below hb)
  have hch := fun w => children_any N F C U k w
  obtain ⟨ks, hks⟩ : ∃ ks, ks = children N F C U k := ⟨_, rfl⟩
  have hnS : nodesS N F C U L s k l = { fndS N L (cutA s) ks l ks.length with asked := s.asked + 1, told := s.told + l.length } := by rw [hks]; rfl
  rw [hnS]
  simp only [← hks] at hch hkm hn hcl
  have hjs := jn_small l 2000000 h32 l.length (Nat.le_refl _)
  have hnd : ∀ w', Below w.heap.size w w' → Calls Tryd.prog 44 #[.slice a l.length cap] w' fun e w'' => e = .returned (.string d) ∧ Below w'.heap.size w' w'' := fun w' hb => by
    have := node_any a l.length cap (lAt l) w' (hP.later hb).strs (hK.below hb) (by omega) (by omega)
    rw [show strV (dig (1 :: jn (lAt l) l.length)) = .string (nodeB l) from rfl, hd] at this
    exact this
  have hcx : (cap : Int) ≤ 9223372036854775807 ∧ l.length ≤ cap := ⟨by have := hP.cm; unfold maxLen at this; omega, hP.le⟩
  obtain ⟨hcx1, hcx2⟩ := hcx
  have hgd := fun op x y w => guard_txt op x y d d w
  obtain ⟨V2, hV2⟩ : ∃ V, V = Value.string d := ⟨_, rfl⟩
  have hqt : ∀ w, (binOp .neq 9 V2 V2).run Tryd.prog w = .ok (.bool false) w := fun w => by rw [hV2, neq_txt]; simp
  simp only [← hV2] at hnd hgd
  have q1 : (k != k) = false := by simp
  have HF := Lib.hid hf
  have HH := Lib.hid h
  have HFP := Lib.hid hF
  have HND := Lib.hid hnd
  have HGE := Lib.hid hge
  have HCH := Lib.hid hch
  have HKM := Lib.hid hkm
  have HP := Lib.hid hP
  have HPA := Lib.hid hPa
  have HQ := Lib.hid (And.intro hq (And.intro hc (And.intro hL hnl)))
  have HN := Lib.hid hn
  clear hf h hF hnd hge hch hkm hP hPa hK hks hnS hjs h32 hd hq hc hL hnl
  unfold geo at HGE HCH
  have hcxi : (l.length : Int) = (ks.length : Int) := by omega
  rw [hn] at HND HP HPA hcx2 ⊢
  clear hcxi
  go_enter Tryd.func11, Tryd.ntmps11
  go_wp2_with fail
  refine HF.out.mono ?_
  rintro e w1 ⟨rfl, hb⟩
  have hal : Below w.heap.size w (w1.alloc (.cells #[.int .i64 k, .string d] 71)) := hb.alloc hb.size _
  have hfc : ∀ w', Below (w1.heap.size + 1) (w1.alloc (.cells #[.int .i64 k, .string d] 71)) w' → w'.cell? ⟨w1.heap.size, 0, none⟩ = some (.int .i64 k) ∧ w'.cell? ⟨w1.heap.size, 1, none⟩ = some V2 := fun w' hb => by rw [hV2]; constructor <;> (rw [hb.cell (by simp), cell_of_blk (heap_alloc_new w1 _)]; rfl)
  have hal1 : (w1.alloc (.cells #[.int .i64 k, .string d] 71)).heap.size = w1.heap.size + 1 := World.size_alloc _ _
  obtain ⟨c0, -⟩ := hfc _ (Below.refl _ _)
  have HAL := Lib.hid hal
  have HFC := Lib.hid hfc
  have HSZ := Lib.hid hal1
  have HB1 := Lib.hid hb
  obtain ⟨d0, -, -, -, -, -, -⟩ := (HH.out.below hal).cells
  clear hb hal hfc HF hV2 hal1
  go_wp2_with fail
  refine (HGE.out _ HAL.out).mono ?_
  rintro e w2 ⟨rfl, hb⟩
  have HX2 := Lib.hid (show Below (w1.heap.size + 1) (w1.alloc (.cells #[.int .i64 k, .string d] 71)) w2 from hb.mono (by have := HSZ.out; omega))
  clear hb d0 c0 HGE
  go_wp2_with fail
  refine (HCH.out _).mono ?_
  rintro e w3 ⟨⟨vk, rfl, ak, nk, ck, rfl, hri, hlow⟩, hb⟩
  have hnk := hri.len
  subst hnk
  have hck : (ck : Int) ≤ 9223372036854775807 ∧ ks.length ≤ ck := ⟨by have := hri.cm; unfold maxLen at this; omega, hri.le⟩
  obtain ⟨hck1, hck2⟩ := hck
  have hX3 : Below (w1.heap.size + 1) (w1.alloc (.cells #[.int .i64 k, .string d] 71)) w3 := HX2.out.trans (hb.mono (by have := HX2.out.size; have := HSZ.out; omega))
  have HX3 := Lib.hid hX3
  have HRI := Lib.hid hri
  have HLK := Lib.hid (show ∀ b off, ak = some ⟨b, off, none⟩ → w.heap.size ≤ b from fun b off e => by have := hlow b off e; have := HX2.out.size; have := HSZ.out; have := HB1.out.size; omega)
  clear hb hri hlow hX3 HX2 HCH
  go_upto_region 9 with fail
  have hG : Below (w1.heap.size + 1) (w1.alloc (.cells #[.int .i64 k, .string d] 71)) w3.drew := HX3.out.drew
  have hBW : ∀ w', Below (w1.heap.size + 1) (w1.alloc (.cells #[.int .i64 k, .string d] 71)) w' → Below w.heap.size w w' := fun w' hb => HAL.out.trans (hb.mono (by have := HB1.out.size; omega))
  have HBW := Lib.hid hBW
  have hR3 : Below w3.heap.size w3 w3.drew := (Below.refl _ _).drew
  clear hBW
  go_region_held3 (fun w' => w'.cell? ⟨w1.heap.size, 1, none⟩ = some V2)
    (exact (HFC.out _ hG).2)
    (first
    | (go_at_call 44; with_reducible refine (HND.out _ (HBW.out _ hG)).mono ?_; rintro r wk ⟨rfl, hb⟩; replace hG := hG.trans (hb.mono (by have := hG.size; have := HSZ.out; omega)); replace hR3 := hR3.trans (hb.mono hR3.size); clear hb))
  rename_i hHeld
  clear hHeld hqt hgd
  have HBK := Lib.hid (HBW.out _ hG)
  have HRI := Lib.hid (HRI.out.later hR3)
  have HSK := Lib.hid (show w3.heap.size ≤ wk.heap.size from hR3.size)
  clear hG HBW HSZ HFC HAL HND HX3 HB1 hR3
  obtain ⟨q, haq⟩ := firstP_ask HFP.out
  have hW := HH.out.below HBK.out
  obtain ⟨g, o, ca, hv, hgb, hle, hm⟩ : ∃ g o cap, va = .slice (some ⟨g, o, none⟩) s.asks.length cap ∧ va.ownBlock = some g ∧ s.asks.length ≤ cap ∧ cap ≤ maxLen := by
    have hqa := HH.out.qa
    rw [haq] at hqa ⊢
    obtain ⟨g, o, cap, h1, h2, h3, h4, _⟩ := hqa.head
    exact ⟨g, o, cap, h1, h2, h3, h4⟩
  have hlen : s.asks.length = q.length + 1 := by rw [haq]; rfl
  obtain ⟨o2, ho2⟩ : ∃ o2, o2 = if s.asks.length = 1 then o else o + 2 := ⟨_, rfl⟩
  have hcut := hW.cutA haq hv (o' := o2) (cap' := s.asks.length - 1) (by omega) (by
    rw [ho2]
    split
    · exact .inr ⟨rfl, by omega⟩
    · exact .inl ⟨rfl, by omega⟩)
  have hrs := rest_any g o s.asks.length ca wk (by omega) hle hm
  rw [← ho2] at hrs
  obtain ⟨-, d1, -, -, -, -, df⟩ := hW.cells
  rw [show s.asks.length - 1 = q.length from by omega] at hcut hrs
  have hcs : ({ s with asks := q } : WS) = cutA s := by unfold cutA; rw [haq]; rfl
  rw [hcs] at hcut
  have hfr := (Fr.of_below (A := wfoot pw va vw) HBK.out).trans hcut.2 fun i hi => .inl hi
  have hnf : ∀ x, wfoot pw (.slice (some ⟨g, o2, none⟩) q.length q.length) vw x → wfoot pw va vw x ∨ w.heap.size ≤ x := fun x hx => by
    rcases hx with hx | hx | hx
    · exact .inl (.inl hx)
    · exact .inl (.inr (.inl (by rw [hv]; exact hx)))
    · exact .inl (.inr (.inr hx))
  have hric := HRI.out.kept (w' := wk.setCell ⟨pw, 1, none⟩ (.slice (some ⟨g, o2, none⟩) q.length q.length)) hcut.2.size (fun b off e hb => hcut.2.block b hb (fun hx => by
    have h1 := (HH.out.foot b hx).2
    have h2 := HLK.out b off e
    omega))
  have hls : (cutA s).asks.length + (cutA s).wants.length ≤ 50000 := by
    have := HQ.out.1
    unfold cutA
    rw [List.length_drop]
    simp only
    omega
  have HRS := Lib.hid hrs
  have HC := Lib.hid hcut.1
  have HFR := Lib.hid hfr
  have HNF := Lib.hid hnf
  have HLS := Lib.hid hls
  have HRIC := Lib.hid hric
  have HLKW := Lib.hid (show ∀ b off, ak = some ⟨b, off, none⟩ → ∀ x, wfoot pw (.slice (some ⟨g, o2, none⟩) q.length q.length) vw x → x ≠ b from fun b off e x hx hxb => by
    have h2 := HLK.out b off e
    have h3 : wfoot pw va vw x := by
      rcases hx with hx | hx | hx
      · exact .inl hx
      · exact .inr (.inl (by rw [hv]; exact hx))
      · exact .inr (.inr hx)
    have h1 := (HH.out.foot x h3).2
    omega)
  clear hrs hcut hfr hnf hls hric hW hcs hle hm hgb ho2 haq hlen HRI
  obtain ⟨n0, hn0⟩ : ∃ n0, n0 = s.asks.length := ⟨_, rfl⟩
  have HHv := Lib.hid (show WNx (67, 71, 60) w B pw va vw p v N F C U L s wk from WNx.refl HH.out HBK.out)
  have HV := Lib.hid hv
  subst hv
  rw [← hn0] at d1
  rw [← hn0] at HRS
  have HN0 := Lib.hid hn0
  clear hn0
  go_wp2_with fail
  refine HRS.out.mono ?_
  rintro e w9 ⟨rfl, hw9⟩
  obtain rfl := hw9.symm
  clear hw9
  have HRL := Lib.hid (HP.out.fr HFR.out HPA.out)
  have HAV := Lib.hid (show ∀ b off, a = some ⟨b, off, none⟩ → 0 < ks.length → ¬ wfoot pw (.slice (some ⟨g, o2, none⟩) q.length q.length) vw b from fun b off e h0 hx => HPA.out b off e h0 (by
    rcases hx with hx | hx | hx
    · exact .inl hx
    · exact .inr (.inl hx)
    · exact .inr (.inr hx)))
  clear HHv HV HN0 HRS HBK HSK HFP HLK HPA HP HN
  go_wp2_with fail
  clear d1 df
  go_loopw [54] (fun i wr => ∃ j : Nat, j ≤ ks.length ∧ i = .int .i64 j ∧ WNx (67, 71, 60) (wk.setCell ⟨pw, 1, none⟩ (.slice (some ⟨g, o2, none⟩) q.length q.length)) B pw (.slice (some ⟨g, o2, none⟩) q.length q.length) vw p v N F C U L (fndS N L (cutA s) ks l j) wr) (fun i _ => ks.length - (intOf i).toNat)
  case atStart => exact ⟨0, by omega, rfl, WNx.refl HC.out (Below.refl _ _)⟩
  case round =>
    obtain ⟨j, hj, rfl, hX⟩ := hrel
    by_cases hlt : j < ks.length
    · obtain ⟨va2, vw2, hW2, hF2, hN2⟩ := hX
      have hRi := HRIC.out.fr hF2 (fun b off e hb => HLKW.out b off e b hb rfl)
      have hRl := HRL.out.fr hF2 HAV.out
      obtain ⟨b1, o1, e1, -, hc1⟩ := hRi.at0 (by omega)
      obtain ⟨b2, o2', e2, -, hc2⟩ := hRl.at0 (by omega)
      subst e1
      subst e2
      have hcc1 := hc1 j hlt
      have hcc2 := hc2 j hlt
      obtain ⟨y, hy, hyl⟩ := HKM.out _ (List.getElem_mem hlt)
      have hyk : ks[j]?.getD 0 = (y : Int) := by rw [List.getElem?_eq_getElem hlt]; exact hy
      rw [hyk] at hcc1
      have hfl := fndS_len N L (cutA s) ks l j
      have hcm := compare_any B pw va2 vw2 p v N F C U L (fndS N L (cutA s) ks l j) y (lAt l j) wr hW2 (by have := HQ.out.2.2.1; omega) (by have := HQ.out.2.2; omega) (by have := HLS.out; have := hfl.1; omega) (by have := HLS.out; have := hfl.1; omega)
      rw [show findS N L (fndS N L (cutA s) ks l j) y (lAt l j) = fndS N L (cutA s) ks l (j + 1) from by rw [← hyk]; rfl] at hcm
      have k0 : (0 : Int) ≤ (j : Int) := by omega
      have k1 : (j : Int) < (ks.length : Int) := by omega
      have HCM := Lib.hid hcm
      have HT := Lib.hid (show ∀ w', WNx (67, 71, 60) wr B pw va2 vw2 p v N F C U L (fndS N L (cutA s) ks l (j + 1)) w' → WNx (67, 71, 60) (wk.setCell ⟨pw, 1, none⟩ (.slice (some ⟨g, o2, none⟩) q.length q.length)) B pw (.slice (some ⟨g, o2, none⟩) q.length q.length) vw p v N F C U L (fndS N L (cutA s) ks l (j + 1)) w' from fun w' h => h.trans hF2 hN2)
      generalize lAt l j = yy at *
      clear hcm hfl hyk hy hyl hc1 hc2 hRi hRl hW2 hF2 hN2
      go_wp2_with fail
      refine HCM.out.mono ?_
      rintro e w5 ⟨rfl, hx⟩
      have HX := Lib.hid (HT.out _ hx)
      clear hx HCM HT
      go_wp2_with fail
      go_roundw
      case rel => exact ⟨j + 1, by omega, by go_num, HX.out⟩
      case measure => simp [intOf]; omega
    · have hje : j = ks.length := by omega
      subst hje
      have k1 : ¬ ((ks.length : Int) < (ks.length : Int)) := by omega
      obtain ⟨va2, vw2, hW2, hF2, hN2⟩ := hX
      have hfl := fndS_len N L (cutA s) ks l ks.length
      obtain ⟨sx, hsx⟩ : ∃ sx, sx = fndS N L (cutA s) ks l ks.length := ⟨_, rfl⟩
      have HGO : bodyPost Tryd.prog = bodyPost Tryd.prog := rfl
      rw [← hsx] at hW2 hfl
      have ha3 : sx.asked = s.asked := hfl.2.1
      have ht3 : sx.told = s.told := hfl.2.2.1
      obtain ⟨c3, hc3⟩ : ∃ c3, c3 = s.asked + 1 := ⟨_, rfl⟩
      obtain ⟨c4, hc4⟩ : ∃ c4, c4 = s.told + ks.length := ⟨_, rfl⟩
      have hn3 := hW2.num 3 c3 (.inl rfl)
      have hn4 := hn3.1.num 4 c4 (.inr (.inl rfl))
      obtain ⟨-, -, -, f3, -, -, ff⟩ := hW2.cells
      obtain ⟨-, -, -, -, g4, -, gf⟩ := hn3.1.cells
      rw [ha3] at f3
      rw [show (if (3 : Nat) = 4 then c3 else sx.told) = s.told from ht3] at g4
      have hw3 : IntKind.i64.wrap ((s.asked : Int) + 1) = (c3 : Int) := (IntWalk.i64_in _ (by have := HQ.out.2.1; omega)).trans (by rw [hc3]; push_cast; rfl)
      have hw4 : IntKind.i64.wrap ((s.told : Int) + (ks.length : Int)) = (c4 : Int) := (IntWalk.i64_in _ (by have := HQ.out.2.1; omega)).trans (by rw [hc4]; push_cast; rfl)
      have hX : WNx (67, 71, 60) wr B pw va2 vw2 p v N F C U L { sx with asked := s.asked + 1, told := s.told + ks.length } ((wr.setCell ⟨pw, 3, none⟩ (.int .i64 c3)).setCell ⟨pw, 4, none⟩ (.int .i64 c4)) := by
        rw [← hc3, ← hc4]
        exact ⟨va2, vw2, hn4.1, hn3.2.trans hn4.2 (fun _ h => .inl h), fun _ h => .inl h⟩
      have HX := Lib.hid ((hX.trans hF2 hN2).trans HFR.out HNF.out)
      rw [hsx] at HX
      clear hX hn3 hn4 hW2 hF2 hN2 hfl hsx ha3 ht3 hc3 hc4 HGO
      go_wp2
      go_ret
      exact ⟨rfl, HX.out⟩
end Go.Proofs.YtpdlpoomgkpogaaDoor
/-
  A node's children come: the program's Nodes, where they are not awaited, or are not as many.
-/
namespace Go.Proofs.YtpdlpoomgkpogaaDoor
open Go.RowKit
set_option linter.unusedVariables false
set_option linter.unusedSimpArgs false

set_option maxRecDepth 20000 in
set_option maxHeartbeats 4000000 in
theorem nodes_state (B pw : Nat) (va vw : Value) (p : Nat) (v : Value) (N F C U : Int) (L : List ByteArray) (s : WS) (k : Int) (a : Option Addr) (n cap : Nat) (w : World) (h : PW w B pw va vw p v N F C U L s)
    (hF : (firstP s).1 ≠ 1 ∨ k ≠ (firstP s).2.1) :
    Calls Tryd.prog 11 #[.pointer (some ⟨pw, 0, none⟩), .int .i64 k, .slice a n cap] w fun e w' => e = .returned (.int .i64 17) ∧ WNx (67, 71, 60) w B pw va vw p v N F C U L s w' := by
  have hf := wfirst_any B pw va vw p v N F C U L s w h
  obtain ⟨kk, m, d, hF2⟩ : ∃ k n d, firstP s = (k, (n, d)) := ⟨_, _, _, rfl⟩
  rw [hF2] at hf hF
  simp only at hf hF
  have HF := Lib.hid hf
  have HH := Lib.hid h
  clear hf h hF2
  by_cases hk : kk = 1
  · have hin : k ≠ m := by rcases hF with h | h; exact absurd hk h; exact h
    subst hk
    have q1 : (k == m) = false := by simpa using hin
    have q2 : (k != m) = true := by simpa using hin
    clear hF
    go_enter Tryd.func11, Tryd.ntmps11
    go_wp2_with fail
    refine HF.out.mono ?_
    rintro e w1 ⟨rfl, hb⟩
    have hal : Below w.heap.size w (w1.alloc (.cells #[.int .i64 m, .string d] 71)) := hb.alloc hb.size _
    have hfc := fcells w1 m d
    obtain ⟨c0, c1⟩ := hfc _ (Below.refl _ _)
    have HX := Lib.hid (WNx.refl (T := (67, 71, 60)) HH.out hal)
    clear hb hal hfc HF
    go_wp2
    go_ret
    exact ⟨rfl, HX.out⟩
  · have q1 : (kk == 1) = false := by simpa using hk
    have q2 : (kk != 1) = true := by simpa using hk
    clear hF
    go_enter Tryd.func11, Tryd.ntmps11
    go_wp2_with fail
    refine HF.out.mono ?_
    rintro e w1 ⟨rfl, hb⟩
    have hal : Below w.heap.size w (w1.alloc (.cells #[.int .i64 m, .string d] 71)) := hb.alloc hb.size _
    have hfc := fcells w1 m d
    obtain ⟨c0, c1⟩ := hfc _ (Below.refl _ _)
    have HX := Lib.hid (WNx.refl (T := (67, 71, 60)) HH.out hal)
    clear hb hal hfc HF
    go_wp2
    go_ret
    exact ⟨rfl, HX.out⟩

set_option maxRecDepth 20000 in
set_option maxHeartbeats 4000000 in
theorem nodes_long (B pw : Nat) (va vw : Value) (p : Nat) (v : Value) (N F C U : Int) (L : List ByteArray) (s : WS) (k : Int) (d : ByteArray) (a : Option Addr) (n cap : Nat) (w : World) (h : PW w B pw va vw p v N F C U L s)
    (hF : firstP s = (1, (k, d))) (hn : n ≠ (children N F C U k).length) (hcap : n ≤ cap ∧ (cap : Int) ≤ 9223372036854775807) :
    Calls Tryd.prog 11 #[.pointer (some ⟨pw, 0, none⟩), .int .i64 k, .slice a n cap] w fun e w' => e = .returned (.int .i64 8) ∧ WNx (67, 71, 60) w B pw va vw p v N F C U L s w' := by
  have hf := wfirst_any B pw va vw p v N F C U L s w h
  rw [hF] at hf
  simp only at hf
  obtain ⟨hcx2, hcx1⟩ := hcap
  have hge := fun w' (hb : Below w.heap.size w w') => tgeom_any 0 p v N F C U L w' (h.tree.below hb)
  have hch := fun w => children_any N F C U k w
  have hcl := children_len N F C U k
  obtain ⟨ks, hks⟩ : ∃ ks, ks = children N F C U k := ⟨_, rfl⟩
  simp only [← hks] at hch hn hcl
  have q1 : (k != k) = false := by simp
  have q2 : ((n : Int) == (ks.length : Int)) = false := by simp; omega
  have q3 : ((n : Int) != (ks.length : Int)) = true := by simp; omega
  have HF := Lib.hid hf
  have HH := Lib.hid h
  have HGE := Lib.hid hge
  have HCH := Lib.hid hch
  clear hf h hF hge hch hks hn
  unfold geo at HGE HCH
  go_enter Tryd.func11, Tryd.ntmps11
  go_wp2_with fail
  refine HF.out.mono ?_
  rintro e w1 ⟨rfl, hb⟩
  have hal : Below w.heap.size w (w1.alloc (.cells #[.int .i64 k, .string d] 71)) := hb.alloc hb.size _
  obtain ⟨c0, c1⟩ := fcells w1 k d _ (Below.refl _ _)
  have HAL := Lib.hid hal
  obtain ⟨d0, -, -, -, -, -, -⟩ := (HH.out.below hal).cells
  clear hb hal HF
  go_wp2_with fail
  refine (HGE.out _ HAL.out).mono ?_
  rintro e w2 ⟨rfl, hb⟩
  have HB2 := Lib.hid (HAL.out.trans (hb.mono HAL.out.size))
  clear hb d0 c0 c1 HGE
  go_wp2_with fail
  refine (HCH.out _).mono ?_
  rintro e w3 ⟨⟨vk, rfl, ak, nk, ck, rfl, hri, hlow⟩, hb⟩
  have hnk := hri.len
  subst hnk
  have hck : (ck : Int) ≤ 9223372036854775807 ∧ ks.length ≤ ck := ⟨by have := hri.cm; unfold maxLen at this; omega, hri.le⟩
  obtain ⟨hck1, hck2⟩ := hck
  have HX := Lib.hid (WNx.refl (T := (67, 71, 60)) HH.out (HB2.out.trans (hb.mono HB2.out.size)))
  clear hb hri hlow HCH HB2
  go_wp2
  go_ret
  exact ⟨rfl, HX.out⟩
end Go.Proofs.YtpdlpoomgkpogaaDoor
/-
  A sector comes: the document's Data.
-/
namespace Go.Proofs.YtpdlpoomgkpogaaDoor
open Go.RowKit
set_option linter.unusedVariables false
set_option linter.unusedSimpArgs false

set_option maxRecDepth 20000 in
set_option maxHeartbeats 4000000 in
theorem rdata_any (B pw : Nat) (va vw : Value) (p : Nat) (v : Value) (N F C U : Int) (L : List ByteArray) (s : WS) (i : Int) (sx : ByteArray) (w : World) (h : RW w B pw va vw p v N F C U L s) (hK : Kon w) (hcm : s.came ≤ 100000) (hwl : s.wants.length ≤ 100000) :
    Calls Tryd.prog 10 #[.pointer (some ⟨pw, 0, none⟩), .int .i64 i, .string sx] w fun e w' => e = .returned (.int .i64 (dataErr s i sx)) ∧ WNx (51, 77, 63) w B pw va vw p v N F C U L (dataS s i sx) w' := by
  have hf := rnext_any B pw va vw p v N F C U L s w h
  have hsr := rright_any sx
  obtain ⟨er, her⟩ : ∃ er, er = dataErr s i sx := ⟨_, rfl⟩
  obtain ⟨sn, hsn⟩ : ∃ sn, sn = dataS s i sx := ⟨_, rfl⟩
  rw [← her, ← hsn]
  unfold dataS at hsn
  rw [← her] at hsn
  unfold dataErr at her
  obtain ⟨k, n, d, hF⟩ : ∃ k n d, firstP s = (k, (n, d)) := ⟨_, _, _, rfl⟩
  have hN : nextP s = (k, n) := by unfold nextP; rw [hF]
  rw [hN] at hf
  rw [hF] at her
  simp only at hf her
  have HF := Lib.hid hf
  have HH := Lib.hid h
  have HFP := Lib.hid hF
  clear hf h hF hN
  by_cases hk : k = 2
  · subst hk
    obtain ⟨ha0, q0, hwq0⟩ := firstP_want HFP.out
    by_cases hin : n = i
    · subst hin
      have q1 : (n != n) = false := by simp
      have q0' : (n == n) = true := by simp
      by_cases h64 : sx.size = 64
      · have hlf : ∀ w', Calls Tryd.prog 42 #[.string sx] w' fun e w'' => e = .returned (.string (leafB sx)) ∧ Below w'.heap.size w' w'' := fun w' => rleaf_any sx w' (by omega)
        obtain ⟨z, hz⟩ : ∃ z, z = leafB sx := ⟨_, rfl⟩
        rw [← hz] at her hlf
        have hgd := fun op x y w => guard_txt op x y z d w
        obtain ⟨V1, hV1⟩ : ∃ V, V = Value.string z := ⟨_, rfl⟩
        obtain ⟨V2, hV2⟩ : ∃ V, V = Value.string d := ⟨_, rfl⟩
        obtain ⟨r, hr⟩ : ∃ r, r = decide (z = d) := ⟨_, rfl⟩
        have hq : ∀ w, (binOp .neq 9 V1 V2).run Tryd.prog w = .ok (.bool (!r)) w := fun w => by rw [hV1, hV2, neq_txt, hr]
        simp only [← hV1] at hlf
        simp only [← hV1, ← hV2] at hgd
        have HLF := Lib.hid hlf
        have HR := Lib.hid (And.intro hr (And.intro her hsn))
        obtain ⟨g, o, cap, hv, hgb, hle, hm, -, -⟩ : ∃ g o cap, vw = .slice (some ⟨g, o, none⟩) s.wants.length cap ∧ vw.ownBlock = some g ∧ s.wants.length ≤ cap ∧ cap ≤ maxLen ∧ w.cell? ⟨g, o, none⟩ = some (.int .i64 n) ∧ w.cell? ⟨g, o + 1, none⟩ = some (.string d) := by
          have hqw := HH.out.qw
          rw [hwq0] at hqw ⊢
          have hnd : (n, d) = (n, d) := rfl
          have hx := HFP.out
          unfold firstP at hx
          rw [ha0, hwq0] at hx
          cases hx
          exact hqw.head
        have hcells : ∀ w', Below w.heap.size w w' → w'.cell? ⟨pw, 2, none⟩ = some vw ∧ w'.cell? ⟨g, o, none⟩ = some (.int .i64 n) ∧ w'.cell? ⟨g, o + 1, none⟩ = some V2 := fun w' hb => by
          have hW := HH.out.below hb
          have hqw := hW.qw
          rw [hwq0] at hqw
          have hx := HFP.out
          unfold firstP at hx
          rw [ha0, hwq0] at hx
          cases hx
          obtain ⟨g', o', cap', h1, h2, h3, h4, h5, h6⟩ := hqw.head
          rw [hv] at h1
          simp only [Value.slice.injEq, Option.some.injEq, Addr.mk.injEq] at h1
          obtain ⟨⟨rfl, rfl, -⟩, -, -⟩ := h1
          exact ⟨hW.cells.2.2.1, h5, by rw [hV2]; exact h6⟩
        have hwp : 0 < s.wants.length := by rw [hwq0]; simp
        have hcx : (cap : Int) ≤ 9223372036854775807 := by unfold maxLen at hm; omega
        have HCL := Lib.hid hcells
        have HWQ := Lib.hid hwq0
        clear hlf hz hr her hsn hV1 hV2 hcells ha0 hwq0 hgb
        have HV := Lib.hid hv
        subst hv
        obtain ⟨m, hmm⟩ : ∃ m, m = s.wants.length := ⟨_, rfl⟩
        rw [← hmm] at HCL hwp hle hwl
        have HM := Lib.hid hmm
        clear hmm
        have j0 : (0 : Int) < (m : Int) := by omega
        have j1 : (1 : Int) ≤ (m : Int) := by omega
        have j2 : (m : Int) ≤ (cap : Int) := by omega
        go_enter Tryd.func10, Tryd.ntmps10
        go_wp2_with fail
        refine HF.out.mono ?_
        rintro e w1 ⟨rfl, hb⟩
        have HB1 := Lib.hid hb
        clear hb HF
        go_wp2_with fail
        refine (hsr _).mono ?_
        rintro e w2 ⟨rfl, hw2⟩
        obtain rfl := hw2.symm
        clear hw2 hsr
        rw [decide_eq_true h64]
        go_upto_region 6 with fail
        have hG : Below w.heap.size w w1.drew := HB1.out.drew
        go_region_held3 (fun w' => w'.cell? ⟨pw, 2, none⟩ = some (.slice (some ⟨g, o, none⟩) m cap) ∧ w'.cell? ⟨g, o, none⟩ = some (.int .i64 n) ∧ w'.cell? ⟨g, o + 1, none⟩ = some V2)
          (exact HCL.out _ hG)
          (first
          | (go_at_call 42; with_reducible refine (HLF.out _).mono ?_; rintro r wk ⟨rfl, hb⟩; replace hG := hG.trans (hb.mono hG.size); clear hb))
        rename_i hHeld
        clear hHeld hq hgd
        have HBK := Lib.hid hG
        clear hG
        cases r
        · have hr := HR.out.1
          have hne : ¬ z = d := of_decide_eq_false hr.symm
          have her := HR.out.2.1
          rw [if_neg (by simp), if_neg (fun h => h h64), if_pos hne] at her
          subst her
          have hsn := HR.out.2.2
          rw [if_neg (by omega)] at hsn
          subst hsn
          have HX := Lib.hid (WNx.refl (T := (51, 77, 63)) HH.out HBK.out)
          clear hr hne
          go_wp2
          go_ret
          exact ⟨rfl, HX.out⟩
        · have hr := HR.out.1
          have he : z = d := of_decide_eq_true hr.symm
          have her := HR.out.2.1
          rw [if_neg (by simp), if_neg (fun h => h h64), if_neg (fun h => h he)] at her
          subst her
          have hsn := HR.out.2.2
          rw [if_pos rfl] at hsn
          have hwq := HWQ.out
          have hW := HH.out.below HBK.out
          have hlen : s.wants.length = q0.length + 1 := by rw [hwq]; rfl
          obtain ⟨o2, ho2⟩ : ∃ o2, o2 = if cap = 1 then o else o + 2 := ⟨_, rfl⟩
          obtain ⟨cm, hcm2⟩ : ∃ cm, cm = s.came + 1 := ⟨_, rfl⟩
          have hm2 := HM.out
          have hcut := hW.cutW hwq rfl (o' := o2) (cap' := cap - 1) (by omega) (by
            rw [ho2]
            split
            · exact .inr ⟨rfl, by omega⟩
            · exact .inl ⟨rfl, by omega⟩)
          have hnum := hcut.1.num 5 cm (.inr (.inr rfl))
          obtain ⟨-, -, d2, -, -, -, df⟩ := hW.cells
          obtain ⟨-, -, -, -, -, f5, ff⟩ := hcut.1.cells
          have hfr := ((Fr.of_below (A := wfoot pw va (.slice (some ⟨g, o, none⟩) s.wants.length cap)) HBK.out).trans hcut.2 fun i hi => .inl hi).trans hnum.2 (fun i hi => by
            rcases hi with hi | hi | hi
            · exact .inl (.inl hi)
            · exact .inl (.inr (.inl hi))
            · exact .inl (.inr (.inr hi)))
          have hX : WNx (51, 77, 63) w B pw va (.slice (some ⟨g, o, none⟩) s.wants.length cap) p v N F C U L sn ((wk.setCell ⟨pw, 2, none⟩ (.slice (some ⟨g, o2, none⟩) q0.length (cap - 1))).setCell ⟨pw, 5, none⟩ (.int .i64 cm)) := by
            have hs2 : sn = { s with wants := q0, came := cm } := by rw [hsn, hcm2, hwq]; rfl
            rw [hs2]
            exact ⟨_, _, hnum.1, hfr, fun k hk => by
              rcases hk with hk | hk | hk
              · exact .inl (.inl hk)
              · exact .inl (.inr (.inl hk))
              · exact .inl (.inr (.inr hk))⟩
          have HX := Lib.hid hX
          clear hX
          have hwr : IntKind.i64.wrap ((s.came : Int) + 1) = (cm : Int) := (IntWalk.i64_in _ (by omega)).trans (by rw [hcm2]; push_cast; rfl)
          rw [← hm2] at d2
          rw [show q0.length = m - 1 from by omega] at f5 ff HX
          clear hcut hnum hfr hsn hW hr he hwq hlen hcm2 hm2
          by_cases hc1 : cap = 1
          · obtain rfl : m = 1 := by omega
            subst hc1
            rw [if_pos rfl] at ho2
            subst ho2
            go_wp2
            go_ret
            exact ⟨rfl, HX.out⟩
          · rw [if_neg hc1] at ho2
            subst ho2
            go_wp2
            go_ret
            exact ⟨rfl, HX.out⟩
      · rw [if_neg (by simp), if_pos h64] at her
        subst her
        rw [if_neg (by omega)] at hsn
        subst hsn
        go_enter Tryd.func10, Tryd.ntmps10
        go_wp2_with fail
        refine HF.out.mono ?_
        rintro e w1 ⟨rfl, hb⟩
        have HX := Lib.hid (WNx.refl (T := (51, 77, 63)) HH.out hb)
        clear hb HF
        go_wp2_with fail
        refine (hsr _).mono ?_
        rintro e w2 ⟨rfl, hw2⟩
        obtain rfl := hw2.symm
        clear hw2 hsr
        rw [decide_eq_false h64]
        go_wp2
        go_ret
        exact ⟨rfl, HX.out⟩
    · rw [if_pos (.inr (fun h => hin h.symm))] at her
      have hsr0 := True.intro
      have q1 : (n == i) = false := by simpa using hin
      have q2 : (n != i) = true := by simpa using hin
      subst her
      rw [if_neg (by omega)] at hsn
      subst hsn
      clear hsr0 hsr
      go_enter Tryd.func10, Tryd.ntmps10
      go_wp2_with fail
      refine HF.out.mono ?_
      rintro e w1 ⟨rfl, hb⟩
      have HX := Lib.hid (WNx.refl (T := (51, 77, 63)) HH.out hb)
      clear hb HF
      go_wp2
      go_ret
      exact ⟨rfl, HX.out⟩
  · rw [if_pos (.inl hk)] at her
    have q1 : (k == 2) = false := by simpa using hk
    have q2 : (k != 2) = true := by simpa using hk
    subst her
    rw [if_neg (by omega)] at hsn
    subst hsn
    clear hsr
    go_enter Tryd.func10, Tryd.ntmps10
    go_wp2_with fail
    refine HF.out.mono ?_
    rintro e w1 ⟨rfl, hb⟩
    have HX := Lib.hid (WNx.refl (T := (51, 77, 63)) HH.out hb)
    clear hb HF
    go_wp2
    go_ret
    exact ⟨rfl, HX.out⟩
end Go.Proofs.YtpdlpoomgkpogaaDoor

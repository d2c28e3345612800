/-
  Texts put together: ZG.
-/
import Derived.Test.YtpdlpoomgkpogaaDoorMZA
import Derived.Test.YtpdlpoomgkpogaaDoorMZ2
/-
  A node's children come: the document's Nodes.
-/
namespace Go.Proofs.YtpdlpoomgkpogaaDoor
open Go.RowKit
set_option linter.unusedVariables false
set_option linter.unusedSimpArgs false

theorem findS_with (N : Int) (L : List ByteArray) (s : WS) (a t : Nat) (k : Int) (d : ByteArray) : findS N L { s with asked := a, told := t } k d = { findS N L s k d with asked := a, told := t } := by
  unfold findS
  split
  · rfl
  · split <;> rfl
theorem fndS_with (N : Int) (L : List ByteArray) (s : WS) (a t : Nat) (ks : List Int) (l : List ByteArray) : ∀ j, fndS N L { s with asked := a, told := t } ks l j = { fndS N L s ks l j with asked := a, told := t }
  | 0 => rfl
  | j + 1 => by
    show findS N L (fndS N L _ ks l j) _ _ = _
    rw [fndS_with N L s a t ks l j, findS_with]
    rfl

/-- The document's walk in the middle of a node's children: the two rows that are read lie apart. -/
structure NI (w : World) (B pw : Nat) (va vw : Value) (p : Nat) (v : Value) (N F C U : Int) (L : List ByteArray) (ak : Option Addr) (ck : Nat) (ks : List Int) (a : Option Addr) (cap : Nat) (l : List ByteArray) (s : WS) (va2 vw2 : Value) (wr : World) : Prop where
  wk : RW wr B pw va2 vw2 p v N F C U L s
  fr : Fr (wfoot pw va vw) w wr
  ft : ∀ k, wfoot pw va2 vw2 k → wfoot pw va vw k ∨ w.heap.size ≤ k
  k1 : ∀ b off, ak = some ⟨b, off, none⟩ → ¬ wfoot pw va2 vw2 b
  k2 : ∀ b off, a = some ⟨b, off, none⟩ → 0 < ks.length → ¬ wfoot pw va2 vw2 b
  r1 : Ri wr ak ks.length ck ks
  r2 : Rs wr a ks.length cap l
theorem NI.next {w wr w' : World} {B pw : Nat} {va vw : Value} {p : Nat} {v : Value} {N F C U : Int} {L : List ByteArray} {ak : Option Addr} {ck : Nat} {ks : List Int} {a : Option Addr} {cap : Nat} {l : List ByteArray} {s s' : WS} {va2 vw2 : Value} (h : NI w B pw va vw p v N F C U L ak ck ks a cap l s va2 vw2 wr) (hp : 0 < ks.length) (hx : WNx (51, 77, 63) wr B pw va2 vw2 p v N F C U L s' w') : ∃ va3 vw3, NI w B pw va vw p v N F C U L ak ck ks a cap l s' va3 vw3 w' := by
  obtain ⟨va3, vw3, hW, hF, hN⟩ := hx
  obtain ⟨b1, o1, e1, hb1, -⟩ := h.r1.at0 hp
  obtain ⟨b2, o2, e2, hb2, -⟩ := h.r2.at0 hp
  refine ⟨va3, vw3, hW, h.fr.trans hF h.ft, fun k hk => ?_, fun b off e hk => ?_, fun b off e h0 hk => ?_, h.r1.fr hF h.k1, h.r2.fr hF h.k2⟩
  · rcases hN k hk with hk | hk
    · exact h.ft k hk
    · exact .inr (Nat.le_trans h.fr.size hk)
  · rcases hN b hk with hk | hk
    · exact h.k1 b off e hk
    · rw [e] at e1; cases e1; omega
  · rcases hN b hk with hk | hk
    · exact h.k2 b off e h0 hk
    · rw [e] at e2; cases e2; omega

theorem NI.drew {w wr : World} {B pw : Nat} {va vw : Value} {p : Nat} {v : Value} {N F C U : Int} {L : List ByteArray} {ak : Option Addr} {ck : Nat} {ks : List Int} {a : Option Addr} {cap : Nat} {l : List ByteArray} {s : WS} {va2 vw2 : Value} (h : NI w B pw va vw p v N F C U L ak ck ks a cap l s va2 vw2 wr) : NI w B pw va vw p v N F C U L ak ck ks a cap l s va2 vw2 wr.drew :=
  ⟨h.wk.below (Below.refl _ _).drew, h.fr.drew, h.ft, h.k1, h.k2, h.r1.later (Below.refl _ _).drew, h.r2.later (Below.refl _ _).drew⟩
theorem NI.cells {w wr : World} {B pw : Nat} {va vw : Value} {p : Nat} {v : Value} {N F C U : Int} {L : List ByteArray} {b1 o1 b2 o2 : Nat} {ck : Nat} {ks : List Int} {cap : Nat} {l : List ByteArray} {s : WS} {va2 vw2 : Value} (h : NI w B pw va vw p v N F C U L (some ⟨b1, o1, none⟩) ck ks (some ⟨b2, o2, none⟩) cap l s va2 vw2 wr) (j : Nat) (hj : j < ks.length) :
    wr.cell? ⟨b1, o1 + j, none⟩ = some (.int .i64 (ks[j]?.getD 0)) ∧ wr.cell? ⟨b2, o2 + j, none⟩ = some (.string (lAt l j)) := by
  obtain ⟨_, _, e1, -, h1⟩ := h.r1.at0 (by omega)
  obtain ⟨_, _, e2, -, h2⟩ := h.r2.at0 (by omega)
  cases e1
  cases e2
  exact ⟨h1 j hj, h2 j hj⟩

set_option maxRecDepth 20000 in
set_option maxHeartbeats 4000000 in
theorem rnodes_state (B pw : Nat) (va vw : Value) (p : Nat) (v : Value) (N F C U : Int) (L : List ByteArray) (s : WS) (k : Int) (a : Option Addr) (n cap : Nat) (w : World) (h : RW w B pw va vw p v N F C U L s)
    (hF : (firstP s).1 ≠ 1 ∨ k ≠ (firstP s).2.1) :
    Calls Tryd.prog 12 #[.pointer (some ⟨pw, 0, none⟩), .int .i64 k, .slice a n cap] w fun e w' => e = .returned (.int .i64 17) ∧ WNx (51, 77, 63) w B pw va vw p v N F C U L s w' := by
  have hf := rnext_any B pw va vw p v N F C U L s w h
  obtain ⟨kk, m, d, hF2⟩ : ∃ k n d, firstP s = (k, (n, d)) := ⟨_, _, _, rfl⟩
  rw [show nextP s = (kk, m) from by unfold nextP; rw [hF2]] at hf
  rw [hF2] at hF
  simp only at hf hF
  have HF := Lib.hid hf
  have HH := Lib.hid h
  clear hf h hF2
  by_cases hk : kk = 1
  · have hin : k ≠ m := by rcases hF with h | h; exact absurd hk h; exact h
    subst hk
    have q1 : (m == k) = false := by simpa using fun h => hin h.symm
    have q2 : (m != k) = true := by simpa using fun h => hin h.symm
    clear hF
    go_enter Tryd.func12, Tryd.ntmps12
    go_wp2_with fail
    refine HF.out.mono ?_
    rintro e w1 ⟨rfl, hb⟩
    have HX := Lib.hid (WNx.refl (T := (51, 77, 63)) HH.out hb)
    clear hb HF
    go_wp2
    go_ret
    exact ⟨rfl, HX.out⟩
  · have q1 : (kk == 1) = false := by simpa using hk
    have q2 : (kk != 1) = true := by simpa using hk
    clear hF
    go_enter Tryd.func12, Tryd.ntmps12
    go_wp2_with fail
    refine HF.out.mono ?_
    rintro e w1 ⟨rfl, hb⟩
    have HX := Lib.hid (WNx.refl (T := (51, 77, 63)) HH.out hb)
    clear hb HF
    go_wp2
    go_ret
    exact ⟨rfl, HX.out⟩

set_option maxRecDepth 20000 in
set_option maxHeartbeats 4000000 in
theorem rnodes_ok (B pw : Nat) (va vw : Value) (p : Nat) (v : Value) (N F C U : Int) (L : List ByteArray) (s : WS) (k : Int) (d : ByteArray) (a : Option Addr) (n cap : Nat) (l : List ByteArray) (w : World) (h : RW w B pw va vw p v N F C U L s)
    (hF : firstP s = (1, (k, d))) (hn : l.length = (children N F C U k).length) (hd : nodeB l = d) (h32 : ∀ i, i < l.length → (lAt l i).size ≤ 2000000) (hL : L.length = nodes N F C U)
    (hP : Rs w a n cap l) (hPa : ∀ b off, a = some ⟨b, off, none⟩ → 0 < n → ¬ wfoot pw va vw b) (hq : s.asks.length + s.wants.length ≤ 50000) (hc : s.asked ≤ 50000 ∧ s.told ≤ 50000) :
    Calls Tryd.prog 12 #[.pointer (some ⟨pw, 0, none⟩), .int .i64 k, .slice a n cap] w fun e w' => e = .returned (.int .i64 0) ∧ WNx (51, 77, 63) w B pw va vw p v N F C U L (nodesS N F C U L s k l) w' := by
  have hf := rnext_any B pw va vw p v N F C U L s w h
  rw [show nextP s = (1, k) from by unfold nextP; rw [hF]] at hf
  simp only at hf
  have hln := hP.len
  subst hln
  have hcl := children_len N F C U k
  have hnl := nodes_le N F C U
  have hkm : ∀ c ∈ children N F C U k, ∃ j : Nat, c = j ∧ j < nodes N F C U := fun c hc => by
    by_cases hin : okG N F C U ∧ 0 ≤ k ∧ k < (nodes N F C U : Int)
    · obtain ⟨x, rfl⟩ : ∃ x : Nat, k = x := ⟨k.toNat, by omega⟩
      obtain ⟨j, e, hj⟩ := children_mem hc
      exact ⟨j, e, by omega⟩
    · rcases level_cases N F C U k with ⟨-, -, h2, -⟩ | ⟨m, f, j, x, rfl, rfl, rfl, ho, hok, hj, hx1, hx2, -, -, -, -, -, h4⟩
      · rw [h2] at hc; cases hc
      · exact absurd ⟨hok, by omega, by rw [h4]; have := @S_mono m f (j + 1) (H m f + 1) (by omega); omega⟩ hin
  have hch := fun w => rchildren_any N F C U k w
  obtain ⟨ks, hks⟩ : ∃ ks, ks = children N F C U k := ⟨_, rfl⟩
  have hnS : nodesS N F C U L s k l = fndS N L { cutA s with asked := s.asked + 1, told := s.told + l.length } ks l ks.length := by rw [hks, fndS_with]; rfl
  obtain ⟨s1, hs1⟩ : ∃ s1, s1 = ({ cutA s with asked := s.asked + 1, told := s.told + l.length } : WS) := ⟨_, rfl⟩
  rw [hnS, ← hs1]
  have HS1 := Lib.hid hs1
  clear hs1 hnS
  simp only [← hks] at hch hkm hn hcl
  have hjs := jn_small l 2000000 h32 l.length (Nat.le_refl _)
  have hnd : ∀ w', Below w.heap.size w w' → Calls Tryd.prog 46 #[.slice a l.length cap] w' fun e w'' => e = .returned (.string d) ∧ Below w'.heap.size w' w'' := fun w' hb => by
    have := rnode_any a l.length cap (lAt l) w' (hP.later hb).strs (by omega) (by omega)
    rw [show strV (dig (1 :: jn (lAt l) l.length)) = .string (nodeB l) from rfl, hd] at this
    exact this
  have hcx : (cap : Int) ≤ 9223372036854775807 ∧ l.length ≤ cap := ⟨by have := hP.cm; unfold maxLen at this; omega, hP.le⟩
  obtain ⟨hcx1, hcx2⟩ := hcx
  have hgd := fun op x y w => guard_txt op x y d d w
  obtain ⟨V2, hV2⟩ : ∃ V, V = Value.string d := ⟨_, rfl⟩
  have hqt : ∀ w, (binOp .neq 9 V2 V2).run Tryd.prog w = .ok (.bool false) w := fun w => by rw [hV2, neq_txt]; simp
  simp only [← hV2] at hnd hgd
  have q1 : (k != k) = false := by simp
  have q1' : (k == k) = true := by simp
  obtain ⟨q, haq⟩ := firstP_ask hF
  have hlen : s.asks.length = q.length + 1 := by rw [haq]; rfl
  obtain ⟨g, o, ca, hv, hle, hm⟩ : ∃ g o cap, va = .slice (some ⟨g, o, none⟩) s.asks.length cap ∧ s.asks.length ≤ cap ∧ cap ≤ maxLen := by
    have hqa := h.qa
    rw [haq] at hqa ⊢
    obtain ⟨g, o, cap, h1, h2, h3, h4, _⟩ := hqa.head
    exact ⟨g, o, cap, h1, h3, h4⟩
  have hcells : ∀ w', Below w.heap.size w w' → w'.cell? ⟨pw, 1, none⟩ = some va ∧ w'.cell? ⟨g, o, none⟩ = some (.int .i64 k) ∧ w'.cell? ⟨g, o + 1, none⟩ = some V2 := fun w' hb => by
    have hW := h.below hb
    have hqa := hW.qa
    rw [haq] at hqa
    obtain ⟨g', o', cap', h1, h2, h3, h4, h5, h6⟩ := hqa.head
    rw [hv] at h1
    simp only [Value.slice.injEq, Option.some.injEq, Addr.mk.injEq] at h1
    obtain ⟨⟨rfl, rfl, -⟩, -, -⟩ := h1
    exact ⟨hW.cells.2.1, h5, by rw [hV2]; exact h6⟩
  have hca : (ca : Int) ≤ 9223372036854775807 := by unfold maxLen at hm; omega
  have HF := Lib.hid hf
  have HH := Lib.hid h
  have HND := Lib.hid hnd
  have HCH := Lib.hid hch
  have HKM := Lib.hid hkm
  have HP := Lib.hid hP
  have HPA := Lib.hid hPa
  have HQ := Lib.hid (And.intro hq (And.intro hc (And.intro hL hnl)))
  have HCL := Lib.hid hcells
  have HAQ := Lib.hid haq
  have HLN := Lib.hid hlen
  obtain ⟨d0, -, -, -, -, -, -⟩ := h.cells
  obtain ⟨t0, t1, t2, t3, -, -⟩ := h.tree.cells
  have HN := Lib.hid hn
  have hcxi : (l.length : Int) = (ks.length : Int) := by omega
  rw [hn] at HND HP HPA hcx2 ⊢
  clear hcxi
  clear hf h hF hnd hch hkm hP hPa hks hjs h32 hd hq hc hL hnl hcells haq hlen hV2
  have HV := Lib.hid hv
  subst hv
  obtain ⟨m, hmm⟩ : ∃ m, m = s.asks.length := ⟨_, rfl⟩
  rw [← hmm] at HCL HLN hle
  have HM := Lib.hid hmm
  clear hmm
  have hwp : 0 < m := by have := HLN.out; omega
  have j0 : (0 : Int) < (m : Int) := by omega
  have j1 : (1 : Int) ≤ (m : Int) := by omega
  have j2 : (m : Int) ≤ (ca : Int) := by omega
  unfold geo at HCH
  go_enter Tryd.func12, Tryd.ntmps12
  go_wp2_with fail
  refine HF.out.mono ?_
  rintro e w1 ⟨rfl, hb⟩
  have HB1 := Lib.hid hb
  obtain ⟨d0, -, -, -, -, -, -⟩ := (HH.out.below hb).cells
  obtain ⟨t0, t1, t2, t3, -, -⟩ := (HH.out.below hb).tree.cells
  clear hb HF
  go_wp2_with fail
  refine (HCH.out _).mono ?_
  rintro e w3 ⟨⟨vk, rfl, ak, nk, ck, rfl, hri, hlow⟩, hb⟩
  have hnk := hri.len
  subst hnk
  have hck : (ck : Int) ≤ 9223372036854775807 ∧ ks.length ≤ ck := ⟨by have := hri.cm; unfold maxLen at this; omega, hri.le⟩
  obtain ⟨hck1, hck2⟩ := hck
  have HB3 := Lib.hid (HB1.out.trans (hb.mono HB1.out.size))
  have HRI := Lib.hid hri
  have HLK := Lib.hid (show ∀ b off, ak = some ⟨b, off, none⟩ → w.heap.size ≤ b from fun b off e => by have := hlow b off e; have := HB1.out.size; omega)
  clear hb hri hlow HCH d0 t0 t1 t2 t3
  go_upto_region 7 with fail
  have hG : Below w.heap.size w w3.drew := HB3.out.drew
  have hR3 : Below w3.heap.size w3 w3.drew := (Below.refl _ _).drew
  go_region_held3 (fun w' => w'.cell? ⟨pw, 1, none⟩ = some (.slice (some ⟨g, o, none⟩) m ca) ∧ w'.cell? ⟨g, o, none⟩ = some (.int .i64 k) ∧ w'.cell? ⟨g, o + 1, none⟩ = some V2)
    (exact HCL.out _ hG)
    (first
    | (go_at_call 46; with_reducible refine (HND.out _ hG).mono ?_; rintro r wk ⟨rfl, hb⟩; replace hG := hG.trans (hb.mono hG.size); replace hR3 := hR3.trans (hb.mono hR3.size); clear hb))
  rename_i hHeld
  clear hHeld hqt hgd
  have HBK := Lib.hid hG
  have HRK := Lib.hid (HRI.out.later hR3)
  clear hG hR3 HRI HND
  have hW := HH.out.below HBK.out
  have hlen := HLN.out
  have hm2 := HM.out
  obtain ⟨o2, ho2⟩ : ∃ o2, o2 = if ca = 1 then o else o + 2 := ⟨_, rfl⟩
  have hcut := hW.cutA HAQ.out rfl (o' := o2) (cap' := ca - 1) (by omega) (by
    rw [ho2]
    split
    · exact .inr ⟨rfl, by omega⟩
    · exact .inl ⟨rfl, by omega⟩)
  obtain ⟨c3, hc3⟩ : ∃ c3, c3 = s.asked + 1 := ⟨_, rfl⟩
  obtain ⟨c4, hc4⟩ : ∃ c4, c4 = s.told + l.length := ⟨_, rfl⟩
  have hn3 := hcut.1.num 3 c3 (.inl rfl)
  have hn4 := hn3.1.num 4 c4 (.inr (.inl rfl))
  obtain ⟨-, d1, -, -, -, -, df⟩ := hW.cells
  obtain ⟨-, -, -, f3, -, -, ff⟩ := hcut.1.cells
  obtain ⟨-, -, -, -, g4, -, gf⟩ := hn3.1.cells
  rw [show (if (3 : Nat) = 4 then c3 else s.told) = s.told from rfl] at g4
  have hw3 : IntKind.i64.wrap ((s.asked : Int) + 1) = (c3 : Int) := (IntWalk.i64_in _ (by have := HQ.out.2.1; omega)).trans (by rw [hc3]; push_cast; rfl)
  have hw4 : IntKind.i64.wrap ((s.told : Int) + (ks.length : Int)) = (c4 : Int) := (IntWalk.i64_in _ (by have := HQ.out.2.1; omega)).trans (by rw [hc4, hn]; push_cast; rfl)
  have hst : ({ s with asks := q, asked := c3, told := c4 } : WS) = { cutA s with asked := s.asked + 1, told := s.told + l.length } := by rw [hc3, hc4]; unfold cutA; rw [HAQ.out]; rfl
  have hfk : ∀ x, wfoot pw (.slice (some ⟨g, o2, none⟩) q.length (ca - 1)) vw x → wfoot pw (.slice (some ⟨g, o, none⟩) s.asks.length ca) vw x := fun _ h => h
  have hf4 : Fr (wfoot pw (.slice (some ⟨g, o, none⟩) s.asks.length ca) vw) wk (((wk.setCell ⟨pw, 1, none⟩ (.slice (some ⟨g, o2, none⟩) q.length (ca - 1))).setCell ⟨pw, 3, none⟩ (.int .i64 c3)).setCell ⟨pw, 4, none⟩ (.int .i64 c4)) := (hcut.2.trans hn3.2 (fun _ h => .inl h)).trans hn4.2 (fun _ h => .inl h)
  have hks1 : ∀ b off, ak = some ⟨b, off, none⟩ → ¬ wfoot pw (.slice (some ⟨g, o, none⟩) s.asks.length ca) vw b := fun b off e hx => by
    have h1 := (HH.out.foot b hx).2
    have h2 := HLK.out b off e
    omega
  have hfin : NI w B pw (.slice (some ⟨g, o, none⟩) s.asks.length ca) vw p v N F C U L ak ck ks a cap l { cutA s with asked := s.asked + 1, told := s.told + l.length } (.slice (some ⟨g, o2, none⟩) q.length (ca - 1)) vw (((wk.setCell ⟨pw, 1, none⟩ (.slice (some ⟨g, o2, none⟩) q.length (ca - 1))).setCell ⟨pw, 3, none⟩ (.int .i64 c3)).setCell ⟨pw, 4, none⟩ (.int .i64 c4)) := by
    rw [← hst]
    exact ⟨hn4.1, (Fr.of_below HBK.out).trans hf4 fun _ h => .inl h, fun _ h => .inl h, fun b off e hx => hks1 b off e (hfk b hx), fun b off e h0 hx => HPA.out b off e h0 (hfk b hx), HRK.out.fr hf4 hks1, (HP.out.later HBK.out).fr hf4 HPA.out⟩
  have HFIN := Lib.hid hfin
  have hs1 := HS1.out
  have hls : s1.asks.length + s1.wants.length ≤ 50000 := by
    have := HQ.out.1
    rw [hs1]
    unfold cutA
    simp only [List.length_drop]
    omega
  have HLS := Lib.hid hls
  rw [← hs1] at HFIN
  rw [← hm2] at d1
  have hqm : q.length = m - 1 := by omega
  rw [hqm] at HFIN f3 g4 ff gf
  clear hfin hn3 hn4 hcut hst hc3 hc4 hm2 hlen hW hqm HRK HP HPA HLK hfk hf4 hks1 hs1 hls HBK HB1 HB3 HCL
  by_cases hc1 : ca = 1
  · obtain rfl : m = 1 := by omega
    subst hc1
    rw [if_pos rfl] at ho2
    subst ho2
    go_wp2_with fail
    go_loopw [10] (fun i wr => ∃ (j : Nat) (va2 vw2 : Value), j ≤ ks.length ∧ i = .int .i64 j ∧ NI w B pw (.slice (some ⟨g, o2, none⟩) s.asks.length 1) vw p v N F C U L ak ck ks a cap l (fndS N L s1 ks l j) va2 vw2 wr) (fun i _ => ks.length - (intOf i).toNat)
    case atStart => exact ⟨0, _, _, by omega, rfl, HFIN.out⟩
    case round =>
      clear HFIN f3 g4 ff gf d1 df
      obtain ⟨j, va2, vw2, hj, rfl, hX⟩ := hrel
      by_cases hlt : j < ks.length
      · obtain ⟨b1, o1, e1, -, -⟩ := hX.r1.at0 (by omega)
        obtain ⟨b2, o2', e2, -, -⟩ := hX.r2.at0 (by omega)
        subst e1
        subst e2
        replace hX := hX.drew
        have hcc := hX.cells j hlt
        have hce := fun s' w' hx => (let ⟨_, _, h⟩ := hX.next (s' := s') (w' := w') (by omega) hx; h.cells j hlt)
        have HNX := Lib.hid (fun s' w' hx => hX.next (s' := s') (w' := w') (by omega) hx)
        obtain ⟨y, hy, hyl⟩ := HKM.out _ (List.getElem_mem hlt)
        have hyk : ks[j]?.getD 0 = (y : Int) := by rw [List.getElem?_eq_getElem hlt]; exact hy
        have hfl := fndS_len N L s1 ks l j
        have hcm := find_any B pw va2 vw2 p v N F C U L (fndS N L s1 ks l j) y (lAt l j) wr.drew hX.wk (by have := HQ.out.2.2.1; omega) (by have := HQ.out.2.2; omega) (by have := HLS.out; have := hfl.1; omega) (by have := HLS.out; have := hfl.1; omega)
        rw [show findS N L (fndS N L s1 ks l j) y (lAt l j) = fndS N L s1 ks l (j + 1) from by rw [← hyk]; rfl] at hcm
        rw [hyk] at hcc
        simp only [hyk] at hce
        have k0 : (0 : Int) ≤ (j : Int) := by omega
        have k1 : (j : Int) < (ks.length : Int) := by omega
        generalize lAt l j = yy at *
        have HCM := Lib.hid hcm
        have HCC := Lib.hid hcc
        have HCE := Lib.hid hce
        clear hcm hfl hyk hy hyl hX hcc hce
        go_upto_region 15 with fail
        go_region_held3 (fun w' => w'.cell? ⟨b1, o1 + j, none⟩ = some (.int .i64 (y : Int)) ∧ w'.cell? ⟨b2, o2' + j, none⟩ = some (.string yy))
          (first | exact HCC.out | exact HCE.out _ _ hx)
          (first
          | (go_at_call 35; with_reducible refine HCM.out.mono ?_; rintro r w5 ⟨rfl, hx⟩))
        rename_i hHeld
        clear hHeld
        obtain ⟨va3, vw3, hni⟩ := HNX.out _ _ hx
        have HX := Lib.hid hni
        clear hx HCM HNX hni HCC HCE
        go_wp2_with fail
        go_roundw
        case rel => exact ⟨j + 1, va3, vw3, by omega, by go_num, HX.out⟩
        case measure => simp [intOf]; omega
      · obtain rfl : j = ks.length := by omega
        have k1 : ¬ ((ks.length : Int) < (ks.length : Int)) := by omega
        have HX := Lib.hid (show WNx (51, 77, 63) w B pw (.slice (some ⟨g, o2, none⟩) s.asks.length 1) vw p v N F C U L (fndS N L s1 ks l ks.length) wr from ⟨va2, vw2, hX.wk, hX.fr, hX.ft⟩)
        clear hX
        go_wp2
        go_ret
        exact ⟨rfl, HX.out⟩
  · rw [if_neg hc1] at ho2
    subst ho2
    go_wp2_with fail
    go_loopw [10] (fun i wr => ∃ (j : Nat) (va2 vw2 : Value), j ≤ ks.length ∧ i = .int .i64 j ∧ NI w B pw (.slice (some ⟨g, o, none⟩) s.asks.length ca) vw p v N F C U L ak ck ks a cap l (fndS N L s1 ks l j) va2 vw2 wr) (fun i _ => ks.length - (intOf i).toNat)
    case atStart => exact ⟨0, _, _, by omega, rfl, HFIN.out⟩
    case round =>
      clear HFIN f3 g4 ff gf d1 df
      obtain ⟨j, va2, vw2, hj, rfl, hX⟩ := hrel
      by_cases hlt : j < ks.length
      · obtain ⟨b1, o1, e1, -, -⟩ := hX.r1.at0 (by omega)
        obtain ⟨b2, o2', e2, -, -⟩ := hX.r2.at0 (by omega)
        subst e1
        subst e2
        replace hX := hX.drew
        have hcc := hX.cells j hlt
        have hce := fun s' w' hx => (let ⟨_, _, h⟩ := hX.next (s' := s') (w' := w') (by omega) hx; h.cells j hlt)
        have HNX := Lib.hid (fun s' w' hx => hX.next (s' := s') (w' := w') (by omega) hx)
        obtain ⟨y, hy, hyl⟩ := HKM.out _ (List.getElem_mem hlt)
        have hyk : ks[j]?.getD 0 = (y : Int) := by rw [List.getElem?_eq_getElem hlt]; exact hy
        have hfl := fndS_len N L s1 ks l j
        have hcm := find_any B pw va2 vw2 p v N F C U L (fndS N L s1 ks l j) y (lAt l j) wr.drew hX.wk (by have := HQ.out.2.2.1; omega) (by have := HQ.out.2.2; omega) (by have := HLS.out; have := hfl.1; omega) (by have := HLS.out; have := hfl.1; omega)
        rw [show findS N L (fndS N L s1 ks l j) y (lAt l j) = fndS N L s1 ks l (j + 1) from by rw [← hyk]; rfl] at hcm
        rw [hyk] at hcc
        simp only [hyk] at hce
        have k0 : (0 : Int) ≤ (j : Int) := by omega
        have k1 : (j : Int) < (ks.length : Int) := by omega
        generalize lAt l j = yy at *
        have HCM := Lib.hid hcm
        have HCC := Lib.hid hcc
        have HCE := Lib.hid hce
        clear hcm hfl hyk hy hyl hX hcc hce
        go_upto_region 15 with fail
        go_region_held3 (fun w' => w'.cell? ⟨b1, o1 + j, none⟩ = some (.int .i64 (y : Int)) ∧ w'.cell? ⟨b2, o2' + j, none⟩ = some (.string yy))
          (first | exact HCC.out | exact HCE.out _ _ hx)
          (first
          | (go_at_call 35; with_reducible refine HCM.out.mono ?_; rintro r w5 ⟨rfl, hx⟩))
        rename_i hHeld
        clear hHeld
        obtain ⟨va3, vw3, hni⟩ := HNX.out _ _ hx
        have HX := Lib.hid hni
        clear hx HCM HNX hni HCC HCE
        go_wp2_with fail
        go_roundw
        case rel => exact ⟨j + 1, va3, vw3, by omega, by go_num, HX.out⟩
        case measure => simp [intOf]; omega
      · obtain rfl : j = ks.length := by omega
        have k1 : ¬ ((ks.length : Int) < (ks.length : Int)) := by omega
        have HX := Lib.hid (show WNx (51, 77, 63) w B pw (.slice (some ⟨g, o, none⟩) s.asks.length ca) vw p v N F C U L (fndS N L s1 ks l ks.length) wr from ⟨va2, vw2, hX.wk, hX.fr, hX.ft⟩)
        clear hX
        go_wp2
        go_ret
        exact ⟨rfl, HX.out⟩
end Go.Proofs.YtpdlpoomgkpogaaDoor

/-
  Texts put together: ZH, ZI.
-/
import Derived.Test.YtpdlpoomgkpogaaDoorMZA
import Derived.Test.YtpdlpoomgkpogaaDoorMZG
import Derived.Test.YtpdlpoomgkpogaaDoorMY4
/-
  A node's children come: both Nodes, whole.
-/
namespace Go.Proofs.YtpdlpoomgkpogaaDoor
open Go.RowKit
set_option linter.unusedVariables false
set_option linter.unusedSimpArgs false

set_option maxRecDepth 20000 in
set_option maxHeartbeats 4000000 in
theorem nodes_other (B pw : Nat) (va vw : Value) (p : Nat) (v : Value) (N F C U : Int) (L : List ByteArray) (s : WS) (k : Int) (d : ByteArray) (a : Option Addr) (n cap : Nat) (l : List ByteArray) (w : World) (h : PW w B pw va vw p v N F C U L s) (hK : Kon w)
    (hF : firstP s = (1, (k, d))) (hn : l.length = (children N F C U k).length) (hd : nodeB l ≠ d) (h32 : ∀ i, i < l.length → (lAt l i).size ≤ 2000000) (hL : L.length = nodes N F C U)
    (hP : Rs w a n cap l) (hPa : ∀ b off, a = some ⟨b, off, none⟩ → 0 < n → ¬ wfoot pw va vw b) :
    Calls Tryd.prog 11 #[.pointer (some ⟨pw, 0, none⟩), .int .i64 k, .slice a n cap] w fun e w' => e = .returned (.int .i64 18) ∧ WNx (67, 71, 60) w B pw va vw p v N F C U L s w' := by
  have hf := wfirst_any B pw va vw p v N F C U L s w h
  rw [hF] at hf
  simp only at hf
  have hln := hP.len
  subst hln
  have hcl := children_len N F C U k
  have hnl := nodes_le N F C U
  have hge := fun w' (hb : Below w.heap.size w w') => tgeom_any 0 p v N F C U L w' (h.tree.below hb)
  have hch := fun w => children_any N F C U k w
  obtain ⟨ks, hks⟩ : ∃ ks, ks = children N F C U k := ⟨_, rfl⟩
  simp only [← hks] at hch hn hcl
  have hjs := jn_small l 2000000 h32 l.length (Nat.le_refl _)
  obtain ⟨z, hz⟩ : ∃ z, z = nodeB l := ⟨_, rfl⟩
  have hnd : ∀ w', Below w.heap.size w w' → Calls Tryd.prog 44 #[.slice a l.length cap] w' fun e w'' => e = .returned (.string z) ∧ Below w'.heap.size w' w'' := fun w' hb => by
    have := node_any a l.length cap (lAt l) w' (hP.later hb).strs (hK.below hb) (by omega) (by omega)
    rw [show strV (dig (1 :: jn (lAt l) l.length)) = .string (nodeB l) from rfl, ← hz] at this
    exact this
  rw [← hz] at hd
  have hcx : (cap : Int) ≤ 9223372036854775807 ∧ l.length ≤ cap := ⟨by have := hP.cm; unfold maxLen at this; omega, hP.le⟩
  obtain ⟨hcx1, hcx2⟩ := hcx
  have hgd := fun op x y w => guard_txt op x y z d w
  obtain ⟨V1, hV1⟩ : ∃ V, V = Value.string z := ⟨_, rfl⟩
  obtain ⟨V2, hV2⟩ : ∃ V, V = Value.string d := ⟨_, rfl⟩
  have hqt : ∀ w, (binOp .neq 9 V1 V2).run Tryd.prog w = .ok (.bool true) w := fun w => by rw [hV1, hV2, neq_txt]; simp [hd]
  simp only [← hV1] at hnd hgd
  simp only [← hV2] at hgd
  have q1 : (k != k) = false := by simp
  have HF := Lib.hid hf
  have HH := Lib.hid h
  have HFP := Lib.hid hF
  have HND := Lib.hid hnd
  have HGE := Lib.hid hge
  have HCH := Lib.hid hch
  have HP := Lib.hid hP
  have HPA := Lib.hid hPa
  have HN := Lib.hid hn
  clear hf h hF hnd hge hch hP hPa hK hks hjs h32 hd hL hnl hz hV1
  unfold geo at HGE HCH
  have hcxi : (l.length : Int) = (ks.length : Int) := by omega
  rw [hn] at HND HP hcx2 ⊢
  clear hcxi
  go_enter Tryd.func11, Tryd.ntmps11
  go_wp2_with fail
  refine HF.out.mono ?_
  rintro e w1 ⟨rfl, hb⟩
  have hal : Below w.heap.size w (w1.alloc (.cells #[.int .i64 k, .string d] 71)) := hb.alloc hb.size _
  have hfc : ∀ w', Below (w1.heap.size + 1) (w1.alloc (.cells #[.int .i64 k, .string d] 71)) w' → w'.cell? ⟨w1.heap.size, 0, none⟩ = some (.int .i64 k) ∧ w'.cell? ⟨w1.heap.size, 1, none⟩ = some V2 := fun w' hb => by rw [hV2]; constructor <;> (rw [hb.cell (by simp), cell_of_blk (heap_alloc_new w1 _)]; rfl)
  have hal1 : (w1.alloc (.cells #[.int .i64 k, .string d] 71)).heap.size = w1.heap.size + 1 := World.size_alloc _ _
  obtain ⟨c0, -⟩ := hfc _ (Below.refl _ _)
  have HAL := Lib.hid hal
  have HFC := Lib.hid hfc
  have HSZ := Lib.hid hal1
  have HB1 := Lib.hid hb
  obtain ⟨d0, -, -, -, -, -, -⟩ := (HH.out.below hal).cells
  clear hb hal hfc HF hV2 hal1
  go_wp2_with fail
  refine (HGE.out _ HAL.out).mono ?_
  rintro e w2 ⟨rfl, hb⟩
  have HX2 := Lib.hid (show Below (w1.heap.size + 1) (w1.alloc (.cells #[.int .i64 k, .string d] 71)) w2 from hb.mono (by have := HSZ.out; omega))
  clear hb d0 c0 HGE
  go_wp2_with fail
  refine (HCH.out _).mono ?_
  rintro e w3 ⟨⟨vk, rfl, ak, nk, ck, rfl, hri, hlow⟩, hb⟩
  have hnk := hri.len
  subst hnk
  have hck : (ck : Int) ≤ 9223372036854775807 ∧ ks.length ≤ ck := ⟨by have := hri.cm; unfold maxLen at this; omega, hri.le⟩
  obtain ⟨hck1, hck2⟩ := hck
  have hX3 : Below (w1.heap.size + 1) (w1.alloc (.cells #[.int .i64 k, .string d] 71)) w3 := HX2.out.trans (hb.mono (by have := HX2.out.size; have := HSZ.out; omega))
  have HX3 := Lib.hid hX3
  have HRI := Lib.hid hri
  have HLK := Lib.hid (show ∀ b off, ak = some ⟨b, off, none⟩ → w.heap.size ≤ b from fun b off e => by have := hlow b off e; have := HX2.out.size; have := HSZ.out; have := HB1.out.size; omega)
  clear hb hri hlow hX3 HX2 HCH
  go_upto_region 9 with fail
  have hG : Below (w1.heap.size + 1) (w1.alloc (.cells #[.int .i64 k, .string d] 71)) w3.drew := HX3.out.drew
  have hBW : ∀ w', Below (w1.heap.size + 1) (w1.alloc (.cells #[.int .i64 k, .string d] 71)) w' → Below w.heap.size w w' := fun w' hb => HAL.out.trans (hb.mono (by have := HB1.out.size; omega))
  have HBW := Lib.hid hBW
  have hR3 : Below w3.heap.size w3 w3.drew := (Below.refl _ _).drew
  clear hBW
  go_region_held3 (fun w' => w'.cell? ⟨w1.heap.size, 1, none⟩ = some V2)
    (exact (HFC.out _ hG).2)
    (first
    | (go_at_call 44; with_reducible refine (HND.out _ (HBW.out _ hG)).mono ?_; rintro r wk ⟨rfl, hb⟩; replace hG := hG.trans (hb.mono (by have := hG.size; have := HSZ.out; omega)); replace hR3 := hR3.trans (hb.mono hR3.size); clear hb))
  rename_i hHeld
  clear hHeld hqt hgd
  have HX := Lib.hid (WNx.refl (T := (67, 71, 60)) HH.out (HBW.out _ hG))
  clear hG hR3 HBW HSZ HFC HAL HND HX3 HB1 HP HPA HN
  go_wp2
  go_ret
  exact ⟨rfl, HX.out⟩

set_option maxRecDepth 20000 in
set_option maxHeartbeats 4000000 in
theorem rnodes_long (B pw : Nat) (va vw : Value) (p : Nat) (v : Value) (N F C U : Int) (L : List ByteArray) (s : WS) (k : Int) (d : ByteArray) (a : Option Addr) (n cap : Nat) (w : World) (h : RW w B pw va vw p v N F C U L s)
    (hF : firstP s = (1, (k, d))) (hn : n ≠ (children N F C U k).length) (hcap : n ≤ cap ∧ (cap : Int) ≤ 9223372036854775807) :
    Calls Tryd.prog 12 #[.pointer (some ⟨pw, 0, none⟩), .int .i64 k, .slice a n cap] w fun e w' => e = .returned (.int .i64 8) ∧ WNx (51, 77, 63) w B pw va vw p v N F C U L s w' := by
  have hf := rnext_any B pw va vw p v N F C U L s w h
  rw [show nextP s = (1, k) from by unfold nextP; rw [hF]] at hf
  simp only at hf
  obtain ⟨hcx2, hcx1⟩ := hcap
  have hch := fun w => rchildren_any N F C U k w
  have hcl := children_len N F C U k
  obtain ⟨ks, hks⟩ : ∃ ks, ks = children N F C U k := ⟨_, rfl⟩
  simp only [← hks] at hch hn hcl
  have q1 : (k != k) = false := by simp
  have q1' : (k == k) = true := by simp
  have q2 : ((n : Int) == (ks.length : Int)) = false := by simp; omega
  have q3 : ((n : Int) != (ks.length : Int)) = true := by simp; omega
  have HF := Lib.hid hf
  have HH := Lib.hid h
  have HCH := Lib.hid hch
  obtain ⟨d0, -, -, -, -, -, -⟩ := h.cells
  obtain ⟨t0, t1, t2, t3, -, -⟩ := h.tree.cells
  clear hf h hF hch hks hn
  unfold geo at HCH
  go_enter Tryd.func12, Tryd.ntmps12
  go_wp2_with fail
  refine HF.out.mono ?_
  rintro e w1 ⟨rfl, hb⟩
  have HB1 := Lib.hid hb
  obtain ⟨d0, -, -, -, -, -, -⟩ := (HH.out.below hb).cells
  obtain ⟨t0, t1, t2, t3, -, -⟩ := (HH.out.below hb).tree.cells
  clear hb HF
  go_wp2_with fail
  refine (HCH.out _).mono ?_
  rintro e w3 ⟨⟨vk, rfl, ak, nk, ck, rfl, hri, hlow⟩, hb⟩
  have hnk := hri.len
  subst hnk
  have hck : (ck : Int) ≤ 9223372036854775807 ∧ ks.length ≤ ck := ⟨by have := hri.cm; unfold maxLen at this; omega, hri.le⟩
  obtain ⟨hck1, hck2⟩ := hck
  have HX := Lib.hid (WNx.refl (T := (51, 77, 63)) HH.out (HB1.out.trans (hb.mono HB1.out.size)))
  clear hb hri hlow HCH HB1 d0 t0 t1 t2 t3
  go_wp2
  go_ret
  exact ⟨rfl, HX.out⟩

set_option maxRecDepth 20000 in
set_option maxHeartbeats 4000000 in
theorem rnodes_other (B pw : Nat) (va vw : Value) (p : Nat) (v : Value) (N F C U : Int) (L : List ByteArray) (s : WS) (k : Int) (d : ByteArray) (a : Option Addr) (n cap : Nat) (l : List ByteArray) (w : World) (h : RW w B pw va vw p v N F C U L s)
    (hF : firstP s = (1, (k, d))) (hn : l.length = (children N F C U k).length) (hd : nodeB l ≠ d) (h32 : ∀ i, i < l.length → (lAt l i).size ≤ 2000000) (hL : L.length = nodes N F C U)
    (hP : Rs w a n cap l) (hPa : ∀ b off, a = some ⟨b, off, none⟩ → 0 < n → ¬ wfoot pw va vw b) :
    Calls Tryd.prog 12 #[.pointer (some ⟨pw, 0, none⟩), .int .i64 k, .slice a n cap] w fun e w' => e = .returned (.int .i64 18) ∧ WNx (51, 77, 63) w B pw va vw p v N F C U L s w' := by
  have hf := rnext_any B pw va vw p v N F C U L s w h
  rw [show nextP s = (1, k) from by unfold nextP; rw [hF]] at hf
  simp only at hf
  have hln := hP.len
  subst hln
  have hcl := children_len N F C U k
  have hnl := nodes_le N F C U
  have hch := fun w => rchildren_any N F C U k w
  obtain ⟨ks, hks⟩ : ∃ ks, ks = children N F C U k := ⟨_, rfl⟩
  simp only [← hks] at hch hn hcl
  have hjs := jn_small l 2000000 h32 l.length (Nat.le_refl _)
  obtain ⟨z, hz⟩ : ∃ z, z = nodeB l := ⟨_, rfl⟩
  have hnd : ∀ w', Below w.heap.size w w' → Calls Tryd.prog 46 #[.slice a l.length cap] w' fun e w'' => e = .returned (.string z) ∧ Below w'.heap.size w' w'' := fun w' hb => by
    have := rnode_any a l.length cap (lAt l) w' (hP.later hb).strs (by omega) (by omega)
    rw [show strV (dig (1 :: jn (lAt l) l.length)) = .string (nodeB l) from rfl, ← hz] at this
    exact this
  rw [← hz] at hd
  have hcx : (cap : Int) ≤ 9223372036854775807 ∧ l.length ≤ cap := ⟨by have := hP.cm; unfold maxLen at this; omega, hP.le⟩
  obtain ⟨hcx1, hcx2⟩ := hcx
  have hgd := fun op x y w => guard_txt op x y z d w
  obtain ⟨V1, hV1⟩ : ∃ V, V = Value.string z := ⟨_, rfl⟩
  obtain ⟨V2, hV2⟩ : ∃ V, V = Value.string d := ⟨_, rfl⟩
  have hqt : ∀ w, (binOp .neq 9 V1 V2).run Tryd.prog w = .ok (.bool true) w := fun w => by rw [hV1, hV2, neq_txt]; simp [hd]
  simp only [← hV1] at hnd hgd
  simp only [← hV2] at hgd
  have q1 : (k != k) = false := by simp
  have q1' : (k == k) = true := by simp
  obtain ⟨q, haq⟩ := firstP_ask hF
  have hlen : s.asks.length = q.length + 1 := by rw [haq]; rfl
  obtain ⟨g, o, ca, hv, hle, hm⟩ : ∃ g o cap, va = .slice (some ⟨g, o, none⟩) s.asks.length cap ∧ s.asks.length ≤ cap ∧ cap ≤ maxLen := by
    have hqa := h.qa
    rw [haq] at hqa ⊢
    obtain ⟨g, o, cap, h1, h2, h3, h4, _⟩ := hqa.head
    exact ⟨g, o, cap, h1, h3, h4⟩
  have hcells : ∀ w', Below w.heap.size w w' → w'.cell? ⟨pw, 1, none⟩ = some va ∧ w'.cell? ⟨g, o, none⟩ = some (.int .i64 k) ∧ w'.cell? ⟨g, o + 1, none⟩ = some V2 := fun w' hb => by
    have hW := h.below hb
    have hqa := hW.qa
    rw [haq] at hqa
    obtain ⟨g', o', cap', h1, h2, h3, h4, h5, h6⟩ := hqa.head
    rw [hv] at h1
    simp only [Value.slice.injEq, Option.some.injEq, Addr.mk.injEq] at h1
    obtain ⟨⟨rfl, rfl, -⟩, -, -⟩ := h1
    exact ⟨hW.cells.2.1, h5, by rw [hV2]; exact h6⟩
  have hca : (ca : Int) ≤ 9223372036854775807 := by unfold maxLen at hm; omega
  have HF := Lib.hid hf
  have HH := Lib.hid h
  have HND := Lib.hid hnd
  have HCH := Lib.hid hch
  have HP := Lib.hid hP
  have HPA := Lib.hid hPa
  have HCL := Lib.hid hcells
  have HAQ := Lib.hid haq
  have HLN := Lib.hid hlen
  obtain ⟨d0, -, -, -, -, -, -⟩ := h.cells
  obtain ⟨t0, t1, t2, t3, -, -⟩ := h.tree.cells
  have HN := Lib.hid hn
  have hcxi : (l.length : Int) = (ks.length : Int) := by omega
  rw [hn] at HND HP hcx2 ⊢
  clear hcxi
  clear hf h hF hnd hch hP hPa hks hjs h32 hd hL hnl hcells haq hlen hV2 hV1 hz
  have HV := Lib.hid hv
  subst hv
  obtain ⟨m, hmm⟩ : ∃ m, m = s.asks.length := ⟨_, rfl⟩
  rw [← hmm] at HCL HLN hle
  have HM := Lib.hid hmm
  clear hmm
  have hwp : 0 < m := by have := HLN.out; omega
  have j0 : (0 : Int) < (m : Int) := by omega
  have j1 : (1 : Int) ≤ (m : Int) := by omega
  have j2 : (m : Int) ≤ (ca : Int) := by omega
  unfold geo at HCH
  go_enter Tryd.func12, Tryd.ntmps12
  go_wp2_with fail
  refine HF.out.mono ?_
  rintro e w1 ⟨rfl, hb⟩
  have HB1 := Lib.hid hb
  obtain ⟨d0, -, -, -, -, -, -⟩ := (HH.out.below hb).cells
  obtain ⟨t0, t1, t2, t3, -, -⟩ := (HH.out.below hb).tree.cells
  clear hb HF
  go_wp2_with fail
  refine (HCH.out _).mono ?_
  rintro e w3 ⟨⟨vk, rfl, ak, nk, ck, rfl, hri, hlow⟩, hb⟩
  have hnk := hri.len
  subst hnk
  have hck : (ck : Int) ≤ 9223372036854775807 ∧ ks.length ≤ ck := ⟨by have := hri.cm; unfold maxLen at this; omega, hri.le⟩
  obtain ⟨hck1, hck2⟩ := hck
  have HB3 := Lib.hid (HB1.out.trans (hb.mono HB1.out.size))
  have HRI := Lib.hid hri
  have HLK := Lib.hid (show ∀ b off, ak = some ⟨b, off, none⟩ → w.heap.size ≤ b from fun b off e => by have := hlow b off e; have := HB1.out.size; omega)
  clear hb hri hlow HCH d0 t0 t1 t2 t3
  go_upto_region 7 with fail
  have hG : Below w.heap.size w w3.drew := HB3.out.drew
  have hR3 : Below w3.heap.size w3 w3.drew := (Below.refl _ _).drew
  go_region_held3 (fun w' => w'.cell? ⟨pw, 1, none⟩ = some (.slice (some ⟨g, o, none⟩) m ca) ∧ w'.cell? ⟨g, o, none⟩ = some (.int .i64 k) ∧ w'.cell? ⟨g, o + 1, none⟩ = some V2)
    (exact HCL.out _ hG)
    (first
    | (go_at_call 46; with_reducible refine (HND.out _ hG).mono ?_; rintro r wk ⟨rfl, hb⟩; replace hG := hG.trans (hb.mono hG.size); replace hR3 := hR3.trans (hb.mono hR3.size); clear hb))
  rename_i hHeld
  clear hHeld hqt hgd
  have HX := Lib.hid (WNx.refl (T := (51, 77, 63)) HH.out hG)
  clear hG hR3 HRI HND
  go_wp2
  go_ret
  exact ⟨rfl, HX.out⟩

def nodesErr (N F C U : Int) (s : WS) (k : Int) (l : List ByteArray) : Int :=
  if (firstP s).1 ≠ 1 ∨ k ≠ (firstP s).2.1 then 17 else if l.length ≠ (children N F C U k).length then 8 else if nodeB l ≠ (firstP s).2.2 then 18 else 0
def nodesN (N F C U : Int) (L : List ByteArray) (s : WS) (k : Int) (l : List ByteArray) : WS := if nodesErr N F C U s k l = 0 then nodesS N F C U L s k l else s
theorem nodes_cases (N F C U : Int) (s : WS) (k : Int) (l : List ByteArray) :
    (nodesErr N F C U s k l = 17 ∧ ((firstP s).1 ≠ 1 ∨ k ≠ (firstP s).2.1)) ∨
    (∃ d, firstP s = (1, (k, d)) ∧ ((nodesErr N F C U s k l = 8 ∧ l.length ≠ (children N F C U k).length) ∨ (nodesErr N F C U s k l = 18 ∧ l.length = (children N F C U k).length ∧ nodeB l ≠ d) ∨ (nodesErr N F C U s k l = 0 ∧ l.length = (children N F C U k).length ∧ nodeB l = d))) := by
  obtain ⟨kk, m, d, hF⟩ : ∃ k n d, firstP s = (k, (n, d)) := ⟨_, _, _, rfl⟩
  unfold nodesErr
  rw [hF]
  simp only
  by_cases h1 : kk ≠ 1 ∨ k ≠ m
  · rw [if_pos h1]; exact .inl ⟨rfl, h1⟩
  · rw [if_neg h1]
    have e1 : kk = 1 := by omega
    have e2 : k = m := by omega
    subst e1
    subst e2
    refine .inr ⟨d, rfl, ?_⟩
    by_cases h2 : l.length ≠ (children N F C U k).length
    · rw [if_pos h2]; exact .inl ⟨rfl, h2⟩
    · rw [if_neg h2]
      have h2 : l.length = (children N F C U k).length := by omega
      by_cases h3 : nodeB l ≠ d
      · rw [if_pos h3]; exact .inr (.inl ⟨rfl, h2, h3⟩)
      · rw [if_neg h3]; exact .inr (.inr ⟨rfl, h2, by simpa using h3⟩)

theorem nodes_all (B pw : Nat) (va vw : Value) (p : Nat) (v : Value) (N F C U : Int) (L : List ByteArray) (s : WS) (k : Int) (a : Option Addr) (n cap : Nat) (l : List ByteArray) (w : World) (h : PW w B pw va vw p v N F C U L s) (hK : Kon w)
    (h32 : ∀ i, i < l.length → (lAt l i).size ≤ 2000000) (hL : L.length = nodes N F C U)
    (hP : Rs w a n cap l) (hPa : ∀ b off, a = some ⟨b, off, none⟩ → 0 < n → ¬ wfoot pw va vw b) (hq : s.asks.length + s.wants.length ≤ 50000) (hc : s.asked ≤ 50000 ∧ s.told ≤ 50000) :
    Calls Tryd.prog 11 #[.pointer (some ⟨pw, 0, none⟩), .int .i64 k, .slice a n cap] w fun e w' => e = .returned (.int .i64 (nodesErr N F C U s k l)) ∧ WNx (67, 71, 60) w B pw va vw p v N F C U L (nodesN N F C U L s k l) w' := by
  unfold nodesN
  rcases nodes_cases N F C U s k l with ⟨e, h1⟩ | ⟨d, hF, ⟨e, h2⟩ | ⟨e, h2, h3⟩ | ⟨e, h2, h3⟩⟩
  · rw [e, if_neg (by omega)]; exact nodes_state B pw va vw p v N F C U L s k a n cap w h h1
  · rw [e, if_neg (by omega)]; exact nodes_long B pw va vw p v N F C U L s k d a n cap w h hF (by rw [← hP.len]; exact h2) ⟨hP.le, by have := hP.cm; unfold maxLen at this; omega⟩
  · rw [e, if_neg (by omega)]; exact nodes_other B pw va vw p v N F C U L s k d a n cap l w h hK hF h2 h3 h32 hL hP hPa
  · rw [e, if_pos rfl]; exact nodes_ok B pw va vw p v N F C U L s k d a n cap l w h hK hF h2 h3 h32 hL hP hPa hq hc
theorem rnodes_all (B pw : Nat) (va vw : Value) (p : Nat) (v : Value) (N F C U : Int) (L : List ByteArray) (s : WS) (k : Int) (a : Option Addr) (n cap : Nat) (l : List ByteArray) (w : World) (h : RW w B pw va vw p v N F C U L s)
    (h32 : ∀ i, i < l.length → (lAt l i).size ≤ 2000000) (hL : L.length = nodes N F C U)
    (hP : Rs w a n cap l) (hPa : ∀ b off, a = some ⟨b, off, none⟩ → 0 < n → ¬ wfoot pw va vw b) (hq : s.asks.length + s.wants.length ≤ 50000) (hc : s.asked ≤ 50000 ∧ s.told ≤ 50000) :
    Calls Tryd.prog 12 #[.pointer (some ⟨pw, 0, none⟩), .int .i64 k, .slice a n cap] w fun e w' => e = .returned (.int .i64 (nodesErr N F C U s k l)) ∧ WNx (51, 77, 63) w B pw va vw p v N F C U L (nodesN N F C U L s k l) w' := by
  unfold nodesN
  rcases nodes_cases N F C U s k l with ⟨e, h1⟩ | ⟨d, hF, ⟨e, h2⟩ | ⟨e, h2, h3⟩ | ⟨e, h2, h3⟩⟩
  · rw [e, if_neg (by omega)]; exact rnodes_state B pw va vw p v N F C U L s k a n cap w h h1
  · rw [e, if_neg (by omega)]; exact rnodes_long B pw va vw p v N F C U L s k d a n cap w h hF (by rw [← hP.len]; exact h2) ⟨hP.le, by have := hP.cm; unfold maxLen at this; omega⟩
  · rw [e, if_neg (by omega)]; exact rnodes_other B pw va vw p v N F C U L s k d a n cap l w h hF h2 h3 h32 hL hP hPa
  · rw [e, if_pos rfl]; exact rnodes_ok B pw va vw p v N F C U L s k d a n cap l w h hF h2 h3 h32 hL hP hPa hq hc

/-- How large a walk is behind i answers. -/
def WSm (s : WS) (i : Nat) : Prop := s.asks.length + s.wants.length ≤ 1 + 4 * i ∧ s.asked ≤ 4 * i ∧ s.told ≤ 4 * i ∧ s.came ≤ 4 * i
theorem WSm.mono {s : WS} {i : Nat} (h : WSm s i) : WSm s (i + 1) := by
  obtain ⟨h1, h2, h3, h4⟩ := h
  exact ⟨by omega, by omega, by omega, by omega⟩
theorem WSm.nodes {s : WS} {i : Nat} (N F C U : Int) (L : List ByteArray) (k : Int) (l : List ByteArray) (h : WSm s i) : WSm (nodesN N F C U L s k l) (i + 1) := by
  unfold nodesN
  split
  · rename_i he
    rcases nodes_cases N F C U s k l with ⟨e, h1⟩ | ⟨d, hF, ⟨e, h2⟩ | ⟨e, h2, h3⟩ | ⟨e, h2, h3⟩⟩
    · omega
    · omega
    · omega
    · obtain ⟨g1, g2, g3, g4⟩ := h
      have hc := children_len N F C U k
      have hf := fndS_len N L (cutA s) (children N F C U k) l (children N F C U k).length
      have e1 : (cutA s).asks.length ≤ s.asks.length := by unfold cutA; simp
      have e2 : (cutA s).wants = s.wants := rfl
      have e3 : (cutA s).came = s.came := rfl
      rw [e2, e3] at hf
      obtain ⟨f1, f2, f3, f4⟩ := hf
      unfold nodesS
      refine ⟨?_, ?_, ?_, ?_⟩
      · show (fndS N L (cutA s) (children N F C U k) l (children N F C U k).length).asks.length + (fndS N L (cutA s) (children N F C U k) l (children N F C U k).length).wants.length ≤ _
        omega
      · show s.asked + 1 ≤ _; omega
      · show s.told + l.length ≤ _; omega
      · show (fndS N L (cutA s) (children N F C U k) l (children N F C U k).length).came ≤ _; omega
  · exact h.mono
theorem WSm.data {s : WS} {i : Nat} (k : Int) (sx : ByteArray) (h : WSm s i) : WSm (dataS s k sx) (i + 1) := by
  unfold dataS
  split
  · obtain ⟨g1, g2, g3, g4⟩ := h
    refine ⟨?_, ?_, ?_, ?_⟩
    · show s.asks.length + (s.wants.drop 1).length ≤ _; simp; omega
    · show s.asked ≤ _; omega
    · show s.told ≤ _; omega
    · show s.came + 1 ≤ _; omega
  · exact h.mono
theorem WSm.start (N : Int) (L : List ByteArray) (k : Int) (d : ByteArray) : WSm (findS N L ws0 k d) 0 := by
  have := findS_len N L ws0 k d
  obtain ⟨f1, f2, f3, f4⟩ := this
  have e : ws0.asks.length + ws0.wants.length = 0 := rfl
  have e2 : ws0.asked = 0 := rfl
  have e3 : ws0.told = 0 := rfl
  have e4 : ws0.came = 0 := rfl
  exact ⟨by omega, by omega, by omega, by omega⟩
end Go.Proofs.YtpdlpoomgkpogaaDoor
/-
  Two walks beside each other, the program's and the document's; a list of answers that came in, opened.
-/
namespace Go.Proofs.YtpdlpoomgkpogaaDoor
open Go.RowKit Go.ChangeShapes Go.WideShapes Go.ChangeAt
set_option linter.unusedVariables false
set_option linter.unusedSimpArgs false

/-- Two walks that lie apart: the program's in the state s, the document's in the state t. -/
structure WW (B : Nat) (pw : Nat) (p : Nat) (v : Value) (qw : Nat) (q : Nat) (u : Value) (N F C U : Int) (L : List ByteArray) (s t : WS) (va vw ua uw : Value) (w : World) : Prop where
  pk : PW w B pw va vw p v N F C U L s
  rk : RW w B qw ua uw q u N F C U L t
  ap : ∀ k, wfoot pw va vw k → ¬ (wfoot qw ua uw k ∨ tfoot q u k)
  ar : ∀ k, wfoot qw ua uw k → ¬ (wfoot pw va vw k ∨ tfoot p v k)
  bw : B ≤ w.heap.size
section
variable {B pw p : Nat} {v : Value} {qw q : Nat} {u : Value} {N F C U : Int} {L : List ByteArray} {s s' t t' : WS} {va vw ua uw : Value} {w w' : World}
theorem WW.below (h : WW B pw p v qw q u N F C U L s t va vw ua uw w) (hb : Below w.heap.size w w') : WW B pw p v qw q u N F C U L s t va vw ua uw w' :=
  ⟨h.pk.below hb, h.rk.below hb, h.ap, h.ar, Nat.le_trans h.bw hb.size⟩
theorem WW.stepP (h : WW B pw p v qw q u N F C U L s t va vw ua uw w) (hx : WNx (67, 71, 60) w B pw va vw p v N F C U L s' w') : (∃ va' vw', WW B pw p v qw q u N F C U L s' t va' vw' ua uw w') ∧ Below B w w' := by
  obtain ⟨va', vw', hW, hF, hN⟩ := hx
  refine ⟨⟨va', vw', hW, h.rk.fr hF (fun k hk hx => h.ap k hx hk), fun k hk hx => ?_, fun k hk hx => ?_, Nat.le_trans h.bw hF.size⟩, hF.below (fun k hk => (h.pk.foot k hk).1) h.bw⟩
  · rcases hN k hk with h1 | h1
    · exact h.ap k h1 hx
    · rcases hx with hx | hx
      · have := (h.rk.foot k hx).2; omega
      · have := (h.rk.tree.foot_low k hx).2; omega
  · rcases hx with hx | hx
    · rcases hN k hx with h1 | h1
      · exact h.ar k hk (.inl h1)
      · have := (h.rk.foot k hk).2; omega
    · exact h.ar k hk (.inr hx)
theorem WW.stepR (h : WW B pw p v qw q u N F C U L s t va vw ua uw w) (hx : WNx (51, 77, 63) w B qw ua uw q u N F C U L t' w') : (∃ ua' uw', WW B pw p v qw q u N F C U L s t' va vw ua' uw' w') ∧ Below B w w' := by
  obtain ⟨va', vw', hW, hF, hN⟩ := hx
  refine ⟨⟨va', vw', h.pk.fr hF (fun k hk hx => h.ar k hx hk), hW, fun k hk hx => ?_, fun k hk hx => ?_, Nat.le_trans h.bw hF.size⟩, hF.below (fun k hk => (h.rk.foot k hk).1) h.bw⟩
  · rcases hx with hx | hx
    · rcases hN k hx with h1 | h1
      · exact h.ap k hk (.inl h1)
      · have := (h.pk.foot k hk).2; omega
    · exact h.ap k hk (.inr hx)
  · rcases hN k hk with h1 | h1
    · exact h.ar k h1 hx
    · rcases hx with hx | hx
      · have := (h.pk.foot k hx).2; omega
      · have := (h.pk.tree.foot_low k hx).2; omega
end

theorem OQ.lowB {w : World} {B B' : Nat} {e : TypeId} {size n : Nat} {v : Value} {xs : List Value} (h : OQ w B e size v n xs) (hl : B' ≤ B) : OQ w B' e size v n xs := by
  refine ⟨h.1, ?_⟩
  rcases h.2 with h2 | ⟨g, o, cap, cur, h1, h2, h3⟩
  · exact .inl h2
  · exact .inr ⟨g, o, cap, cur, h1, Nat.le_trans hl h2, h3⟩
theorem WK.lowB {ty fty tty : TypeId} {w : World} {B B' pw : Nat} {va vw : Value} {p : Nat} {v : Value} {N F C U : Int} {L : List ByteArray} {s : WS} (h : WK ty fty tty w B pw va vw p v N F C U L s) (hl : B' ≤ B) : WK ty fty tty w B' pw va vw p v N F C U L s :=
  ⟨h.blk, Nat.le_trans hl h.low, h.qa.lowB hl, h.qw.lowB hl, h.tree, h.aw, h.pa, h.pq, h.tp⟩
set_option maxRecDepth 20000 in
set_option maxHeartbeats 2000000 in
/-- The document's walk has the very tree that it was given. -/
theorem rwnew_at (B p : Nat) (v : Value) (N F C U : Int) (L : List ByteArray) (d : ByteArray) (w : World) (h : RT w B p v N F C U L) (hok : okG N F C U) (hL : L.length = nodes N F C U) (hd : d.size = 32) :
    Calls Tryd.prog 8 #[.pointer (some ⟨p, 0, none⟩), .string d] w fun e w' => ∃ pw va vw, e = .returned (.tuple #[.pointer (some ⟨pw, 0, none⟩), .int .i64 0]) ∧ RW w' w.heap.size pw va vw p v N F C U L (findS N L ws0 ((nodes N F C U - 1 : Nat) : Int) d) ∧ Below w.heap.size w w' := by
  have hng := nodes_ge hok
  have hnl := nodes_le N F C U
  have hdr := drright_all d
  have HDR := Lib.hid hdr
  clear hdr
  have hrt := fun w => rroot_any N F C U w
  have HRT := Lib.hid hrt
  have HN := Lib.hid (And.intro hL (And.intro hng hnl))
  clear hrt hng hnl hL
  unfold geo at HRT
  have HW := Lib.hid (wk_new (ty := 51) (fty := 77) (B := w.heap.size) h.low0 (Nat.le_refl _))
  have HB1 := Lib.hid ((Below.refl w.heap.size w).alloc (Nat.le_refl _) (.cells #[.pointer (some ⟨p, 0, none⟩), .slice none 0 0, .slice none 0 0, .int .i64 0, .int .i64 0, .int .i64 0] 51))
  obtain ⟨c0, c1, c2, c3, -, -⟩ := (h.below HB1.out).cells
  clear h
  go_enter Tryd.func8, Tryd.ntmps8
  go_wp2_with fail
  refine (HDR.out _).mono ?_
  rintro e w0 ⟨rfl, hw0⟩
  obtain rfl := hw0.symm
  clear hw0 HDR
  rw [decide_eq_true hd]
  go_wp2_with fail
  refine (HRT.out _).mono ?_
  rintro e w3 ⟨rfl, hb⟩
  have HW3 := Lib.hid (HW.out.below hb)
  have HB3 := Lib.hid (HB1.out.trans (hb.mono HB1.out.size))
  clear hb HW HB1 c0 c1 c2 c3
  have hcm := find_any _ _ _ _ _ _ N F C U L ws0 (nodes N F C U - 1) d w3 HW3.out (by have := HN.out; omega) (by have := HN.out; omega) (Nat.zero_le _) (Nat.zero_le _)
  have HCM := Lib.hid hcm
  clear hcm
  go_wp2_with fail
  refine HCM.out.mono ?_
  rintro e w4 ⟨rfl, va, vw, hW, hF, hN⟩
  have HE := Lib.hid (And.intro hW (HB3.out.trans (hF.below (fun k hk => (HW3.out.foot k hk).1) HB3.out.size)))
  clear hW hF hN HCM HB3
  go_wp2
  refine bodyPost_ret (results_tmp2 rfl _ _ _) rfl ?_
  exact ⟨_, va, vw, rfl, HE.out.1, HE.out.2⟩

/-- Two walks, and the box of an answer beside them. -/
def WX (w : World) (pw p : Nat) (v : Value) (qw q : Nat) (u : Value) (N F C U : Int) (L : List ByteArray) (ba : Nat) (cs : Array Value) (s t : WS) (w1 : World) : Prop :=
  ∃ va vw ua uw, WW w.heap.size pw p v qw q u N F C U L s t va vw ua uw w1 ∧ w1.heap[ba]? = some (.cells cs 41 (0, 0)) ∧ ¬ wfoot pw va vw ba ∧ ¬ wfoot qw ua uw ba ∧ Below w.heap.size w w1
section
variable {w : World} {pw p : Nat} {v : Value} {qw q : Nat} {u : Value} {N F C U : Int} {L : List ByteArray} {ba : Nat} {cs : Array Value} {s t s' : WS} {w1 w2 : World}
theorem WX.below (h : WX w pw p v qw q u N F C U L ba cs s t w1) (hb : Below w1.heap.size w1 w2) : WX w pw p v qw q u N F C U L ba cs s t w2 := by
  obtain ⟨va, vw, ua, uw, hW, hb1, hn1, hn2, hb0⟩ := h
  exact ⟨va, vw, ua, uw, hW.below hb, (hb.block _ (lt_of_block hb1)).trans hb1, hn1, hn2, hb0.trans (hb.mono hb0.size)⟩
theorem WX.progs (h : WX w pw p v qw q u N F C U L ba cs s t w1) {f : FuncId} {args : Array Value} {R : Ending} (hc : ∀ va vw, PW w1 w.heap.size pw va vw p v N F C U L s → (∀ k, wfoot pw va vw k → w.heap.size ≤ k) → Below w.heap.size w w1 → Calls Tryd.prog f args w1 fun e w' => e = R ∧ WNx (67, 71, 60) w1 w.heap.size pw va vw p v N F C U L s' w') :
    Calls Tryd.prog f args w1 fun e w' => e = R ∧ WX w pw p v qw q u N F C U L ba cs s' t w' := by
  obtain ⟨va, vw, ua, uw, hW, hb1, hn1, hn2, hb0⟩ := h
  refine (hc va vw hW.pk (fun k hk => (hW.pk.foot k hk).1) hb0).mono ?_
  rintro e w' ⟨he, hx⟩
  obtain ⟨⟨va', vw', hW'⟩, hb'⟩ := hW.stepP hx
  obtain ⟨va2, vw2, hP2, hF2, hN2⟩ := hx
  have hlt := lt_of_block hb1
  obtain ⟨va'', vw'', hW2, hF3, hN3⟩ : ∃ va' vw', WW w.heap.size pw p v qw q u N F C U L s' t va' vw' ua uw w' ∧ True ∧ ¬ wfoot pw va' vw' ba := by
    refine ⟨va2, vw2, ⟨hP2, hW.rk.fr hF2 (fun k hk hx => hW.ap k hx hk), fun k hk hx => ?_, fun k hk hx => ?_, Nat.le_trans hW.bw hF2.size⟩, trivial, fun hx => ?_⟩
    · rcases hN2 k hk with h1 | h1
      · exact hW.ap k h1 hx
      · rcases hx with hx | hx
        · have := (hW.rk.foot k hx).2; omega
        · have := (hW.rk.tree.foot_low k hx).2; omega
    · rcases hx with hx | hx
      · rcases hN2 k hx with h1 | h1
        · exact hW.ar k hk (.inl h1)
        · have := (hW.rk.foot k hk).2; omega
      · exact hW.ar k hk (.inr hx)
    · rcases hN2 _ hx with h1 | h1
      · exact hn1 h1
      · omega
  exact ⟨he, va'', vw'', ua, uw, hW2, (hF2.block ba hlt hn1).trans hb1, hN3, hn2, hb0.trans hb'⟩
theorem WX.docs (h : WX w pw p v qw q u N F C U L ba cs s t w1) {f : FuncId} {args : Array Value} {R : Ending} (hc : ∀ ua uw, RW w1 w.heap.size qw ua uw q u N F C U L t → (∀ k, wfoot qw ua uw k → w.heap.size ≤ k) → Below w.heap.size w w1 → Calls Tryd.prog f args w1 fun e w' => e = R ∧ WNx (51, 77, 63) w1 w.heap.size qw ua uw q u N F C U L s' w') :
    Calls Tryd.prog f args w1 fun e w' => e = R ∧ WX w pw p v qw q u N F C U L ba cs s s' w' := by
  obtain ⟨va, vw, ua, uw, hW, hb1, hn1, hn2, hb0⟩ := h
  refine (hc ua uw hW.rk (fun k hk => (hW.rk.foot k hk).1) hb0).mono ?_
  rintro e w' ⟨he, hx⟩
  obtain ⟨_, hb'⟩ := hW.stepR hx
  obtain ⟨va2, vw2, hP2, hF2, hN2⟩ := hx
  have hlt := lt_of_block hb1
  obtain ⟨va'', vw'', hW2, hF3, hN3⟩ : ∃ va' vw', WW w.heap.size pw p v qw q u N F C U L s s' va vw va' vw' w' ∧ True ∧ ¬ wfoot qw va' vw' ba := by
    refine ⟨va2, vw2, ⟨hW.pk.fr hF2 (fun k hk hx => hW.ar k hx hk), hP2, fun k hk hx => ?_, fun k hk hx => ?_, Nat.le_trans hW.bw hF2.size⟩, trivial, fun hx => ?_⟩
    · rcases hx with hx | hx
      · rcases hN2 k hx with h1 | h1
        · exact hW.ap k hk (.inl h1)
        · have := (hW.pk.foot k hk).2; omega
      · exact hW.ap k hk (.inr hx)
    · rcases hN2 k hk with h1 | h1
      · exact hW.ar k h1 hx
      · rcases hx with hx | hx
        · have := (hW.pk.foot k hx).2; omega
        · have := (hW.pk.tree.foot_low k hx).2; omega
    · rcases hN2 _ hx with h1 | h1
      · exact hn2 h1
      · omega
  exact ⟨he, va, vw, va'', vw'', hW2, (hF2.block ba hlt hn2).trans hb1, hn1, hN3, hb0.trans hb'⟩
theorem WX.cells {x0 x1 x2 x3 : Value} (h : WX w pw p v qw q u N F C U L ba #[x0, x1, x2, x3] s t w1) : w1.cell? ⟨ba, 0, none⟩ = some x0 ∧ w1.cell? ⟨ba, 1, none⟩ = some x1 ∧ w1.cell? ⟨ba, 2, none⟩ = some x2 ∧ w1.cell? ⟨ba, 3, none⟩ = some x3 := by
  obtain ⟨va, vw, ua, uw, hW, hb1, hn1, hn2, hb0⟩ := h
  refine ⟨?_, ?_, ?_, ?_⟩ <;> (rw [cell_of_blk hb1]; rfl)
end
structure WAct where
  data : Bool
  k : Int
  sx : ByteArray
  la : Option Addr
  ln : Nat
  lc : Nat
  l : List ByteArray
instance : Inhabited WAct := ⟨⟨false, 0, noBytes, none, 0, 0, []⟩⟩
/-- The slice value reads as answers; no text of theirs is longer than M. -/
structure WActs (w : World) (a : Option Addr) (n cap : Nat) (M : Nat) (X : Nat → WAct) : Prop where
  le : n ≤ cap
  cm : cap ≤ maxLen
  at0 : 0 < n → ∃ b off, a = some ⟨b, off, none⟩ ∧ b < w.heap.size ∧ ∀ i, i < n → w.cell? ⟨b, off + i * 4, none⟩ = some (.bool (X i).data) ∧ w.cell? ⟨b, off + i * 4 + 1, none⟩ = some (.int .i64 (X i).k) ∧ w.cell? ⟨b, off + i * 4 + 2, none⟩ = some (.string (X i).sx) ∧ w.cell? ⟨b, off + i * 4 + 3, none⟩ = some (.slice (X i).la (X i).ln (X i).lc)
  rows : ∀ i, i < n → Rs w (X i).la (X i).ln (X i).lc (X i).l
  low : ∀ i, i < n → ∀ b off, (X i).la = some ⟨b, off, none⟩ → 0 < (X i).ln → b < w.heap.size
  small : ∀ i, i < n → ∀ j, j < (X i).l.length → (lAt (X i).l j).size ≤ M
theorem WActs.later {w w' : World} {a : Option Addr} {n cap M : Nat} {X} (h : WActs w a n cap M X) (hb : Below w.heap.size w w') : WActs w' a n cap M X where
  le := h.le
  cm := h.cm
  at0 := fun h0 => by
    obtain ⟨b, off, ha, hlt, hc⟩ := h.at0 h0
    exact ⟨b, off, ha, Nat.lt_of_lt_of_le hlt hb.size, fun i hi => ⟨by rw [hb.cell (by exact hlt)]; exact (hc i hi).1, by rw [hb.cell (by exact hlt)]; exact (hc i hi).2.1, by rw [hb.cell (by exact hlt)]; exact (hc i hi).2.2.1, by rw [hb.cell (by exact hlt)]; exact (hc i hi).2.2.2⟩⟩
  rows := fun i hi => (h.rows i hi).later hb
  low := fun i hi b off e h0 => Nat.lt_of_lt_of_le (h.low i hi b off e h0) hb.size
  small := h.small

theorem bulk_mem {H : Type} (f : Nat → DataW H) : ∀ n i, i < n → Rows.uptoBulk (f i) ≤ Rows.uptoBulkAll ((List.range n).map f)
  | 0, i, h => by omega
  | n + 1, i, h => by
    have happ : ∀ l r : List (DataW H), Rows.uptoBulkAll (l ++ r) = Rows.uptoBulkAll l + Rows.uptoBulkAll r := fun l r => by
      induction l with
      | nil => simp [Rows.uptoBulkAll]
      | cons x l ih => simp only [List.cons_append, Rows.uptoBulkAll, ih]; omega
    rw [List.range_succ, List.map_append, happ]
    simp only [List.map_cons, List.map_nil, Rows.uptoBulkAll]
    by_cases hi : i = n
    · subst hi; omega
    · have := bulk_mem f n i (by omega); omega

set_option maxHeartbeats 1000000 in
set_option maxRecDepth 100000 in
theorem rs_open_bulk {H : Type} {enc : TypeId × Value → H} {W : World} {fuel : Nat} {cs : List Value} {x : DataW H × List MemPlace} (hf : DataW.trod enc Tryd.prog W 0 (fun _ => true) true fuel 24 cs = some x) :
    ∃ a len cap L, cs = [.slice a len cap] ∧ Rs W a len cap L ∧ (∀ b off, a = some ⟨b, off, none⟩ → 0 < len → b < W.heap.size) ∧ ∀ j, j < L.length → (lAt L j).size ≤ Rows.uptoBulk x.1 := by
  rcases Deep.open_strs Tryd.underlying24 Tryd.underlying9 (by kernel_rfl) hf with ⟨hn, _⟩ | ⟨ad, len, cap, m, Sx, hn, _, hl, hm, hmm, hx, hcell⟩
  · exact ⟨none, 0, 0, [], hn, rs_nil W, fun b off e => by simp at e, fun j hj => by simp at hj⟩
  · simp only [if_true] at hmm
    have hrow : Rs W (some ad) len cap ((List.range len).map Sx) := by
      refine ⟨by simp, by omega, by omega, fun h => ?_⟩
      have hc0 := (hcell 0 (by omega)).1
      obtain ⟨b, off, spot⟩ := ad
      have hspot : spot = none := by simpa [Addr.add] using World.cell?_spot hc0
      subst hspot
      have hbl := World.block_lt_of_cell? W _ hc0
      rw [Addr.add_none] at hbl
      refine ⟨b, off, rfl, hbl, fun i hi' => ?_⟩
      have h3 := (hcell i (by omega)).1
      rw [Addr.add_none] at h3
      rw [h3]
      unfold lAt
      rw [List.getElem?_map, List.getElem?_range hi']
      rfl
    refine ⟨some ad, len, cap, _, hn, hrow, fun b off e h0 => ?_, fun j hj => ?_⟩
    · obtain ⟨b', off', e', hb', -⟩ := hrow.at0 h0
      rw [e] at e'
      cases e'
      exact hb'
    · simp at hj
      have e1 : lAt ((List.range len).map Sx) j = Sx j := by unfold lAt; rw [List.getElem?_map, List.getElem?_range hj]; rfl
      rw [e1, hx]
      simp only [Rows.uptoBulk]
      have := bulk_mem (fun i => (DataW.lit (H := H) (.string (Sx i).data.toList))) len j hj
      simp only [Rows.uptoBulk] at this
      have e2 : (Sx j).data.toList.length = (Sx j).size := rfl
      omega

set_option maxHeartbeats 1000000 in
set_option maxRecDepth 100000 in
theorem wacts_open {H : Type} {enc : TypeId × Value → H} {W : World} {fuel : Nat} {cs : List Value} {x : DataW H × List MemPlace} (hf : DataW.trod enc Tryd.prog W 0 (fun _ => true) true fuel 25 cs = some x) {a : Option Addr} {len cap : Nat} (hcs : cs = [.slice a len cap]) :
    ∃ X, WActs W a len cap (Rows.uptoBulk x.1) X := by
  have he := Tryd.underlying41
  have ce : Tryd.prog.cellsOf 41 = 4 := by kernel_rfl
  have c3 : Tryd.prog.cellsOf 3 = 1 := by kernel_rfl
  have c4 : Tryd.prog.cellsOf 4 = 1 := by kernel_rfl
  have c9 : Tryd.prog.cellsOf 9 = 1 := by kernel_rfl
  have cb : Tryd.prog.cellsOf 24 = 1 := by kernel_rfl
  rcases Go.Deep.open_slice Tryd.underlying25 hf with ⟨hn, _⟩ | ⟨ad, l, c, m, n, D, Pl, hn, _, hl, hm, hmm, hD, hx⟩
  · rw [hcs] at hn
    simp at hn
    obtain ⟨rfl, rfl, rfl⟩ := hn
    exact ⟨fun _ => ⟨false, 0, noBytes, none, 0, 0, []⟩, ⟨by omega, by unfold maxLen; omega, fun h => by omega, fun i h => by omega, fun i h => by omega, fun i h => by omega⟩⟩
  · rw [hcs] at hn
    simp at hn
    obtain ⟨rfl, rfl, rfl⟩ := hn
    simp only [if_true] at hmm
    have hmm' := hmm.symm
    subst hmm'
    rw [ce] at hx
    have each : ∀ i, i < cap → ∃ y : WAct, W.cell? (ad.add (i * 4)) = some (.bool y.data) ∧ W.cell? (ad.add (i * 4 + 1)) = some (.int .i64 y.k) ∧ W.cell? (ad.add (i * 4 + 2)) = some (.string y.sx) ∧ W.cell? (ad.add (i * 4 + 3)) = some (.slice y.la y.ln y.lc) ∧
        Rs W y.la y.ln y.lc y.l ∧ (∀ b off, y.la = some ⟨b, off, none⟩ → 0 < y.ln → b < W.heap.size) ∧ ∀ j, j < y.l.length → (lAt y.l j).size ≤ Rows.uptoBulk (D i) := by
      intro i hi
      obtain ⟨cs', h1, h2⟩ := hx i hi
      obtain ⟨_, hlen, hcell⟩ := World.cells?_some h1
      obtain ⟨xs, k, _, hxe, _, hxl, hf⟩ := DataW.trod_struct he h2
      match xs, hxl, cs', hlen with
      | [y0, y1, y2, y3], _, [u0, u1, u2, u3], _ =>
        have g0 := hf 0 _ rfl
        have g1 := hf 1 _ rfl
        have g2 := hf 2 _ rfl
        have g3 := hf 3 _ rfl
        simp [c3, c4, c9, cb] at g0 g1 g2 g3
        have e0 := hcell 0 (by omega)
        have e1 := hcell 1 (by omega)
        have e2 := hcell 2 (by omega)
        have e3 := hcell 3 (by omega)
        rw [Go.Deep.add_add] at e0 e1 e2 e3
        obtain ⟨n0, q0, _⟩ := DataW.trod_bool Tryd.underlying4 g0
        obtain ⟨n1, q1, _, w1⟩ := DataW.trod_int Tryd.underlying3 g1
        obtain ⟨s2, q2, _⟩ := DataW.trod_string Tryd.underlying9 g2
        simp at q0 q1 q2
        obtain ⟨la, ln, lc, Lr, q3, hrs, hlo, hsm⟩ := rs_open_bulk g3
        simp at q3
        have hDi : D i = .agg [y0.1, y1.1, y2.1, y3.1] := by simpa using congrArg Prod.fst hxe
        refine ⟨⟨n0, n1, s2, la, ln, lc, Lr⟩, by simpa [q0] using e0, by simpa [q1] using e1, by simpa [q2] using e2, by simpa [q3] using e3, hrs, hlo, fun j hj => ?_⟩
        have := hsm j hj
        rw [hDi]
        simp only [Rows.uptoBulk, Rows.uptoBulkAll]
        omega
    obtain ⟨X, hX⟩ := Go.Deep.choose_lt each
    refine ⟨X, ⟨hl, hm, fun h0 => ?_, fun i hi => (hX i (by omega)).2.2.2.2.1, fun i hi => (hX i (by omega)).2.2.2.2.2.1, fun i hi j hj => ?_⟩⟩
    · obtain ⟨b, off, sp⟩ := ad
      obtain rfl : sp = none := by
        have := (hX 0 (by omega)).1
        simpa [Addr.add] using World.cell?_spot this
      have hb := World.block_lt_of_cell? W _ (hX 0 (by omega)).1
      rw [Addr.add_none] at hb
      refine ⟨b, off, rfl, hb, fun i hi => ?_⟩
      obtain ⟨h0, h1, h2, h3, _⟩ := hX i (by omega)
      simp only [Addr.add_none, ← Nat.add_assoc] at h0 h1 h2 h3
      exact ⟨h0, h1, h2, h3⟩
    · have h1 := (hX i (by omega)).2.2.2.2.2.2 j hj
      have h2 := bulk_mem D len i hi
      rw [hD]
      simp only [Rows.uptoBulk]
      omega
end Go.Proofs.YtpdlpoomgkpogaaDoor

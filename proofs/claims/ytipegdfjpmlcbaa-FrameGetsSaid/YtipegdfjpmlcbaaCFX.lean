/-
  The document's Get of a frame: kind 4, and whole.
-/
import Derived.Test.YtipegdfjpmlcbaaCFW
namespace Go.Proofs.Ytipegdfjpmlcbaa
open Go.RowKit
set_option linter.unusedVariables false
set_option linter.unusedSimpArgs false

/-- A digest more. -/
theorem dp_app {w0 wb w5 : World} {q g : Nat} {f f' : FR} {lv v5 : Value} {ys : List UInt8} {e : Int} {ob : Obj} {b : List UInt8} (h : DP w0 wb q g f lv ys e)
    (how5 : w5.ownsRow (g + 1) 9 1 v5 (f.list.length + 1) (tvs f.list ++ [strV b])) (hg5 : (wb.alloc ob).grownBy w5 lv.ownBlock)
    (hs : (frC f lv).setIfInBounds 10 v5 = frC f' v5) (hl : f'.list = f.list ++ [b]) :
    (w5.cell? ⟨g, 10, none⟩ = some lv ∧ w5.frozen? ⟨g, 10, none⟩ = false) ∧ DP w0 (w5.setCell ⟨g, 10, none⟩ v5) q g f' v5 ys e := by
  have hglt := h.lt
  have hqlt := h.rd.lt
  have hfq := h.fq
  have hfg := h.fg
  have hold : ∀ k, k ≤ g → w5.heap[k]? = wb.heap[k]? := fun k h1 => (hg5.block k (by simp; omega) (fun e2 => by have := h.gt e2.symm; omega)).trans (heap_alloc_old _ _ (by omega))
  have hsz : wb.heap.size ≤ w5.heap.size := by have := hg5.size; simp at this; omega
  have hbox := (hold g (Nat.le_refl _)).trans h.box
  refine ⟨⟨by rw [cell_of_blk hbox]; rfl, free_of_blk hbox 10⟩, ⟨?_, ?_, ?_, hfq, hfg, ?_, ?_⟩⟩
  · exact (Below.heap_setCell _ _ _ _ (by simp; omega)).trans ((hold _ (by omega)).trans h.res)
  · exact h.rd.frame (by simp [World.setCell]; exact hsz) (fun k hk => (Below.heap_setCell _ _ _ _ (by simp; omega)).trans (hold k (by omega)))
  · exact (blk_setCell hbox).trans (by rw [hs])
  · rw [hl]
    have := how5.kept (gb_setCell (World.grownBy.refl _ _) (i := 10) (u := v5) (p := g)) (.inr (fun e2 => by have := (how5.lt g e2).1; omega))
    simpa [tvs] using this
  · exact Below.setCell ((h.bel.alloc h.bel.size _).grown hg5 (by have := h.bel.size; simp; omega) (fun k e2 => by have := (h.own.lt k e2).1; omega)) (show w0.heap.size ≤ (⟨g, 10, none⟩ : Addr).block from by simp; omega) v5
theorem chunk_le (ys : List UInt8) (e : Int) : ∀ k, ∀ d ∈ (chunk ys e k).1, d.length ≤ 32
  | 0, d, h => by simp [chunk] at h
  | k + 1, d, h => by
    rw [chunk_succ] at h
    simp only [List.mem_append, List.mem_singleton] at h
    rcases h with h | h
    · exact chunk_le ys e k d h
    · rw [h]; exact rbytes_le32 _ _
theorem flat_le (L : List (List UInt8)) (h : ∀ d ∈ L, d.length ≤ 32) : L.flatten.length ≤ 32 * L.length := by
  induction L with
  | nil => simp
  | cons d L ih =>
    have h1 := h d (by simp)
    have h2 := ih (fun d hd => h d (by simp [hd]))
    simp only [List.flatten_cons, List.length_append, List.length_cons]
    omega

set_option maxRecDepth 20000 in
set_option maxHeartbeats 1000000 in
theorem rget_k4 (xs : List UInt8) (sz : ByteArray) (hsz : strV xs = .string sz) (hmax : xs.length ≤ 1000) (w : World) (hn : xs.length = 27 + lenOf xs) (hs : numN ((xs.drop (23 + lenOf xs)).take 4) = addN 0 (xs.take (23 + lenOf xs))) (hk : numN (xs.take 1) = 4) :
    Calls Try.prog 13 #[.string sz] w fun e w' => DG xs w e w' := by
  have hzl : sz.size = xs.length := sd_size hsz
  have hi0 : (Try.prog.info? 26).map (·.size) = some frZ.size := by kernel_rfl
  have ho0 : frZ.all (·.oneCell') = true := by simp [frZ, Value.oneCell']
  have HI0 := Lib.hid hi0
  have HO0 := Lib.hid ho0
  have HMX := Lib.hid hmax
  have HSZ := Lib.hid hsz
  have HZL := Lib.hid hzl
  obtain ⟨W0, hW0⟩ : ∃ x, x = w.alloc (.cells frZ 26) := ⟨_, rfl⟩
  clear hi0 ho0
  obtain ⟨cc, w1, hcv, hrd1, hb1⟩ := cv_rd sz (by omega) W0
  rw [str_list hsz] at hrd1
  have hep := ep_new (by rw [← hW0]; exact hb1) hrd1
  obtain ⟨q, hq⟩ : ∃ x, x = w1.heap.size := ⟨_, rfl⟩
  obtain ⟨W2, hW2⟩ : ∃ x, x = w1.alloc (.cells #[.slice (some ⟨W0.heap.size, 0, none⟩) sz.size cc, .int .i64 0, .int .i64 0] 57) := ⟨_, rfl⟩
  rw [← hW2, ← hq] at hep
  have HW2 := Lib.hid hW2
  have HQ := Lib.hid hq
  have HN1 := Lib.hid (hep.num 1 1 rfl (by omega) (by omega) (by omega))
  obtain ⟨v1, hv1⟩ : ∃ v, v = numN (xs.take 1) := ⟨_, rfl⟩
  obtain ⟨v2, hv2⟩ : ∃ v, v = numN ((xs.drop 1).take 8) := ⟨_, rfl⟩
  obtain ⟨v3, hv3⟩ : ∃ v, v = numN ((xs.drop 9).take 8) := ⟨_, rfl⟩
  obtain ⟨v4, hv4⟩ : ∃ v, v = numN ((xs.drop 17).take 4) := ⟨_, rfl⟩
  obtain ⟨ln, hln⟩ : ∃ v, v = lenOf xs := ⟨_, rfl⟩
  have hl1 : v1 < 256 := by rw [hv1]; exact num_take_lt xs 1
  have hl4 : v4 < 4294967296 := by rw [hv4]; exact num_take_lt (xs.drop 17) 4
  have hl5 : ln < 65536 := by rw [hln]; exact lenOf_lt xs
  have z1 : IntKind.i64.wrap (v1 : Int) = (v1 : Int) := wrap_small _ (by omega) (by omega)
  have z4 : IntKind.u32.wrap (v4 : Int) = (v4 : Int) := IntWalk.u32_in _ (by omega)
  have z5 : IntKind.i64.wrap (ln : Int) = (ln : Int) := wrap_small _ (by omega) (by omega)
  have z6 : IntKind.i64.wrap (27 + (ln : Int)) = 27 + (ln : Int) := wrap_small _ (by omega) (by omega)
  have z7 : IntKind.i64.wrap (23 + (ln : Int)) = 23 + (ln : Int) := wrap_small _ (by omega) (by omega)
  rw [← hv1] at HN1
  have HV1 := Lib.hid hv1
  have HV2 := Lib.hid hv2
  have HV3 := Lib.hid hv3
  have HV4 := Lib.hid hv4
  have HLN := Lib.hid hln
  have HL5 := Lib.hid hl5
  have HN27 := Lib.hid (show 27 ≤ xs.length by omega)
  have c27 : ¬ (sz.size : Int) < 27 := by omega
  have HS := Lib.hid hs
  have HK1 := Lib.hid (show (v1 : Int) = 4 by omega)
  have HXL := Lib.hid hn
  have hkv : v1 = numN (xs.take 1) := hv1
  have hv28 : v2 < 18446744073709551616 := by rw [hv2]; exact num_take_lt (xs.drop 1) 8
  have hv38 : v3 < 18446744073709551616 := by rw [hv3]; exact num_take_lt (xs.drop 9) 8
  have HFIT := Lib.hid (And.intro hv28 (And.intro hv38 hl4))
  have qk1 : ((v1 : Int) == 1) = false := by rw [beq_eq_false_iff_ne]; omega
  have qk2 : ((v1 : Int) == 2) = false := by rw [beq_eq_false_iff_ne]; omega
  have qk4 : ((v1 : Int) == 4) = true := by rw [beq_iff_eq]; omega
  have c28 : ¬ (sz.size : Int) < 27 + (ln : Int) := by omega
  have c29 : ¬ (sz.size : Int) > 27 + (ln : Int) := by omega
  have g1 : (0 : Int) ≤ 23 + (ln : Int) := by omega
  have g2 : 23 + (ln : Int) ≤ (sz.size : Int) := by omega
  have HW0 := Lib.hid hW0
  unfold frZ at HW0
  clear hrd1 hb1 hep hW2 hq hv1 hv2 hv3 hv4 hln hl1 hl4 hl5 hsz hmax hzl hW0 hn hs hkv hv28 hv38 hk
  go_enter Try.func13, Try.ntmps13
  go_upto_region 1 with fail
  rw [← HW0.out]
  go_wp2_with fail
  rw [← HW2.out, ← HQ.out]
  refine HN1.out.mono ?_
  rintro e w3 ⟨rfl, hep3⟩
  have HD4 := Lib.hid (hep3.begin ⟨(v1 : Int), 0, 0, 0, 0, 0, 0, 0, 0, [], []⟩ rfl)
  obtain ⟨g, hg⟩ : ∃ x, x = w3.heap.size := ⟨_, rfl⟩
  obtain ⟨W4, hW4⟩ : ∃ x, x = w3.alloc (.cells (frC ⟨(v1 : Int), 0, 0, 0, 0, 0, 0, 0, 0, [], []⟩ (.slice none 0 0)) 26) := ⟨_, rfl⟩
  rw [← hW4, ← hg] at HD4
  have HW4 := Lib.hid hW4
  have HGG := Lib.hid hg
  unfold frC strV at HW4
  simp only [Int.natCast_zero] at HW4
  have HN2 := Lib.hid (HD4.out.num_ok 8 8 rfl (by omega) (by omega) (by rw [List.length_drop]; have := HN27.out; omega))
  rw [← HV2.out] at HN2
  clear hep3 hW4 hg HN1 hcv
  go_wp2_with fail
  rw [← HW4.out, ← HGG.out]
  refine HN2.out.mono ?_
  rintro e wa2 ⟨rfl, hop⟩
  have c2 : wa2.cell? ⟨g, 1, none⟩ = some (.int .u64 0) := by rw [hop.cell 1]; rfl
  have fr2 : wa2.frozen? ⟨g, 1, none⟩ = false := hop.free 1
  have HOP2 := Lib.hid (hop.set 1 (.int .u64 (v2 : Int)) (f' := ⟨(v1 : Int), v2, 0, 0, 0, 0, 0, 0, 0, [], []⟩) rfl rfl)
  rw [List.drop_drop] at HOP2
  clear hop
  obtain ⟨wb2, hwb2⟩ : ∃ x, x = wa2.setCell ⟨g, 1, none⟩ (.int .u64 (v2 : Int)) := ⟨_, rfl⟩
  rw [← hwb2] at HOP2
  have HWB2 := Lib.hid hwb2
  have HN3 := Lib.hid (HOP2.out.num_ok 8 8 rfl (by omega) (by omega) (by rw [List.length_drop]; have := HN27.out; omega))
  rw [← HV3.out] at HN3
  clear hwb2
  go_wp2_with fail
  rw [← HWB2.out]
  refine HN3.out.mono ?_
  rintro e wa3 ⟨rfl, hop⟩
  have c3 : wa3.cell? ⟨g, 2, none⟩ = some (.int .u64 0) := by rw [hop.cell 2]; rfl
  have fr3 : wa3.frozen? ⟨g, 2, none⟩ = false := hop.free 2
  have HOP3 := Lib.hid (hop.set 2 (.int .u64 (v3 : Int)) (f' := ⟨(v1 : Int), v2, v3, 0, 0, 0, 0, 0, 0, [], []⟩) rfl rfl)
  rw [List.drop_drop] at HOP3
  clear hop
  obtain ⟨wb3, hwb3⟩ : ∃ x, x = wa3.setCell ⟨g, 2, none⟩ (.int .u64 (v3 : Int)) := ⟨_, rfl⟩
  rw [← hwb3] at HOP3
  have HWB3 := Lib.hid hwb3
  have HN4 := Lib.hid (HOP3.out.num_ok 4 4 rfl (by omega) (by omega) (by rw [List.length_drop]; have := HN27.out; omega))
  rw [← HV4.out] at HN4
  clear hwb3
  go_wp2_with fail
  rw [← HWB3.out]
  refine HN4.out.mono ?_
  rintro e wa4 ⟨rfl, hop⟩
  have c4 : wa4.cell? ⟨g, 3, none⟩ = some (.int .u32 0) := by rw [hop.cell 3]; rfl
  have fr4 : wa4.frozen? ⟨g, 3, none⟩ = false := hop.free 3
  have HOP4 := Lib.hid (hop.set 3 (.int .u32 (v4 : Int)) (f' := ⟨(v1 : Int), v2, v3, v4, 0, 0, 0, 0, 0, [], []⟩) rfl rfl)
  rw [List.drop_drop] at HOP4
  clear hop
  obtain ⟨wb4, hwb4⟩ : ∃ x, x = wa4.setCell ⟨g, 3, none⟩ (.int .u32 (v4 : Int)) := ⟨_, rfl⟩
  rw [← hwb4] at HOP4
  have HWB4 := Lib.hid hwb4
  have HN5 := Lib.hid (HOP4.out.num_ok 2 2 rfl (by omega) (by omega) (by rw [List.length_drop]; have := HN27.out; omega))
  rw [show numN ((xs.drop 21).take 2) = ln from HLN.out.symm] at HN5
  clear hwb4
  go_wp2_with fail
  rw [← HWB4.out]
  refine HN5.out.mono ?_
  rintro e wH ⟨rfl, hop⟩
  rw [List.drop_drop] at hop
  have HH := Lib.hid hop
  clear hop c2 c3 c4 fr2 fr3 fr4
  obtain ⟨SA, hSA⟩ : ∃ x, x = sz.extract 0 (23 + (ln : Int)).toNat := ⟨_, rfl⟩
  obtain ⟨SB, hSB⟩ : ∃ x, x = sz.extract (23 + (ln : Int)).toNat sz.size := ⟨_, rfl⟩
  have xA : sz.extract 0 (23 + (ln : Int)).toNat = SA := hSA.symm
  have xB : sz.extract (23 + (ln : Int)).toNat sz.size = SB := hSB.symm
  have e23 : (23 + (ln : Int)).toNat = 23 + lenOf xs := by rw [← HLN.out]; omega
  have hA := ext_str HSZ.out 0 (23 + (ln : Int)).toNat
  have hB := ext_str HSZ.out (23 + (ln : Int)).toNat sz.size
  rw [xA, List.drop_zero, e23] at hA
  rw [xB, List.take_of_length_le (by rw [HZL.out]; exact Nat.le_refl _), e23] at hB
  have hzA : SA.size ≤ 1000 := by rw [sd_size hA, List.length_take]; have := HMX.out; omega
  obtain ⟨ca, wK, hcv2, hrdK, hbK⟩ := cv_rd SA (by omega) wH.drew
  rw [str_list hA] at hrdK
  obtain ⟨cs, hcs⟩ : ∃ x, x = addN 0 (xs.take (23 + lenOf xs)) := ⟨_, rfl⟩
  have hcl := addN_lt 0 (xs.take (23 + lenOf xs))
  rw [← hcs] at hcl
  have wcs : IntKind.u64.wrap (cs : Int) = (cs : Int) := IntWalk.u64_in _ (by omega)
  have hsu := rsum_any _ _ _ _ wK hrdK
  rw [← hcs] at hsu
  have HSU := Lib.hid hsu
  obtain ⟨t6, ht6⟩ := str_of (enc cs 4)
  have HX6 := Lib.hid (show ∀ w, Calls Try.prog 21 #[.int .i64 4, .int .u64 (cs : Int)] w fun e w' => e = .returned (.string t6) ∧ Below w.heap.size w w' from fun w => by have h := text_any 4 cs w (by omega) (by omega) (by omega); rw [ht6] at h; exact h)
  have heq := str_eq ht6 hB
  have hd4 : (xs.drop (23 + lenOf xs)).length = 4 := by rw [List.length_drop]; have := HXL.out; omega
  have hnq : ¬ (t6 = SB) ↔ numN ((xs.drop (23 + lenOf xs)).take 4) ≠ addN 0 (xs.take (23 + lenOf xs)) := by
    rw [heq, ← hcs]
    constructor
    · intro h1 h2
      apply h1
      rw [← h2, enc_take _ _ (by omega)]
      exact List.take_of_length_le (by omega)
    · intro h1 h2
      apply h1
      rw [← h2, List.take_of_length_le (by rw [enc_length]; omega), numN_enc (by omega)]
  have HNE := Lib.hid (Classical.byContradiction fun h => (hnq.1 h) HS.out)
  have HBK := Lib.hid (show Below wH.heap.size wH wK from ((Below.refl _ _).drew).trans hbK)
  clear hSA hSB e23 hA hB hrdK hbK hcs hsu ht6 heq hd4 hnq
  go_wp2_with fail
  refine wp_region_held_drew (S := fun _ => True) (by kernel_rfl) trivial (fun hHeld => ?_)
  refine wpAnyH_take (i := 0) (oi := { dst := some 48, op := Op.move (Operand.tmp 0), type := 9, pos := "ref.go:111", after := #[], guard := none }) (v := ?_) rfl (by kernel_rfl) (by kernel_rfl) (by kernel_rfl) (fun _ _ _ h => h) (Or.inl ⟨by rfl, ?_⟩) (by assumption) ?_
  rotate_left
  · (intro w hSw; (try dsimp only at hSw); go_simp <;> with_reducible rfl)
  try simp only [Act.put, List.setIfInBounds_toArray, List.set_cons_zero, List.set_cons_succ]
  refine wpAnyH_take (i := 1) (oi := { dst := some 49, op := Op.move (Operand.tmp 6), type := 3, pos := "ref.go:111", after := #[], guard := none }) (v := ?_) rfl (by kernel_rfl) (by kernel_rfl) (by kernel_rfl) (fun _ _ _ h => h) (Or.inl ⟨by rfl, ?_⟩) (by assumption) ?_
  rotate_left
  · (intro w hSw; (try dsimp only at hSw); go_simp <;> with_reducible rfl)
  try simp only [Act.put, List.setIfInBounds_toArray, List.set_cons_zero, List.set_cons_succ]
  refine wpAnyH_take (i := 2) (oi := { dst := some 50, op := Op.binOp BinOp.add 3 (Operand.const (Value.int IntKind.i64 23)) (Operand.tmp 49) 3, type := 3, pos := "ref.go:111", after := #[{ on := 1, ground := Ground.data }], guard := none }) (v := ?_) rfl (by kernel_rfl) (by kernel_rfl) (by kernel_rfl) (fun _ _ _ h => h) (Or.inl ⟨by rfl, ?_⟩) (by assumption) ?_
  rotate_left
  · (intro w hSw; (try dsimp only at hSw); go_simp <;> with_reducible rfl)
  try simp only [Act.put, List.setIfInBounds_toArray, List.set_cons_zero, List.set_cons_succ]
  refine wpAnyH_take (i := 3) (oi := { dst := some 51, op := Op.slice 9 (Operand.tmp 48) none (some (Operand.tmp 50)) none, type := 9, pos := "ref.go:111", after := #[{ on := 0, ground := Ground.data }, { on := 2, ground := Ground.data }], guard := none }) (v := ?_) rfl (by kernel_rfl) (by kernel_rfl) (by kernel_rfl) (fun _ _ _ h => h) (Or.inl ⟨by rfl, ?_⟩) (by assumption) ?_
  rotate_left
  · (intro w hSw; (try dsimp only at hSw); go_simp <;> with_reducible rfl)
  try simp only [Act.put, List.setIfInBounds_toArray, List.set_cons_zero, List.set_cons_succ]
  refine wpAnyH_take (i := 8) (oi := { dst := some 56, op := Op.move (Operand.tmp 0), type := 9, pos := "ref.go:111", after := #[], guard := none }) (v := ?_) rfl (by kernel_rfl) (by kernel_rfl) (by kernel_rfl) (fun _ _ _ h => h) (Or.inl ⟨by rfl, ?_⟩) (by assumption) ?_
  rotate_left
  · (intro w hSw; (try dsimp only at hSw); go_simp <;> with_reducible rfl)
  try simp only [Act.put, List.setIfInBounds_toArray, List.set_cons_zero, List.set_cons_succ]
  refine wpAnyH_take (i := 9) (oi := { dst := some 57, op := Op.move (Operand.tmp 6), type := 3, pos := "ref.go:111", after := #[], guard := none }) (v := ?_) rfl (by kernel_rfl) (by kernel_rfl) (by kernel_rfl) (fun _ _ _ h => h) (Or.inl ⟨by rfl, ?_⟩) (by assumption) ?_
  rotate_left
  · (intro w hSw; (try dsimp only at hSw); go_simp <;> with_reducible rfl)
  try simp only [Act.put, List.setIfInBounds_toArray, List.set_cons_zero, List.set_cons_succ]
  refine wpAnyH_take (i := 10) (oi := { dst := some 58, op := Op.binOp BinOp.add 3 (Operand.const (Value.int IntKind.i64 23)) (Operand.tmp 57) 3, type := 3, pos := "ref.go:111", after := #[{ on := 9, ground := Ground.data }], guard := none }) (v := ?_) rfl (by kernel_rfl) (by kernel_rfl) (by kernel_rfl) (fun _ _ _ h => h) (Or.inl ⟨by rfl, ?_⟩) (by assumption) ?_
  rotate_left
  · (intro w hSw; (try dsimp only at hSw); go_simp <;> with_reducible rfl)
  try simp only [Act.put, List.setIfInBounds_toArray, List.set_cons_zero, List.set_cons_succ]
  refine wpAnyH_take (i := 11) (oi := { dst := some 59, op := Op.slice 9 (Operand.tmp 56) (some (Operand.tmp 58)) none none, type := 9, pos := "ref.go:111", after := #[{ on := 8, ground := Ground.data }, { on := 10, ground := Ground.data }], guard := none }) (v := ?_) rfl (by kernel_rfl) (by kernel_rfl) (by kernel_rfl) (fun _ _ _ h => h) (Or.inl ⟨by rfl, ?_⟩) (by assumption) ?_
  rotate_left
  · (intro w hSw; (try dsimp only at hSw); go_simp <;> with_reducible rfl)
  try simp only [Act.put, List.setIfInBounds_toArray, List.set_cons_zero, List.set_cons_succ]
  refine wpAnyH_ready (rs := [4]) (by kernel_rfl) (by simp) ?_
  refine AllReadyH.cons (o := { dst := some 52, op := Op.convert 9 29 (Operand.tmp 51), type := 29, pos := "ref.go:111", after := #[{ on := 3, ground := Ground.data }], guard := none }) rfl (fun K hK => ?_) AllReadyH.nil
  go_simp
  refine hK _ _ (trivial) (fun hHeld => ?_)
  clear hK K
  try simp only [Act.put, List.setIfInBounds_toArray, List.set_cons_zero, List.set_cons_succ]
  refine wpAnyH_ready (rs := [5]) (by kernel_rfl) (by simp) ?_
  refine AllReadyH.cons (o := { dst := some 53, op := Op.call { callee := Callee.value (Operand.func 22), args := #[Operand.tmp 52], argTypes := #[29] }, type := 23, pos := "ref.go:111", after := #[{ on := 4, ground := Ground.data }], guard := none }) rfl (fun K hK => ?_) AllReadyH.nil
  go_simp
  go_at_call 22
  refine HSU.out.mono ?_
  rintro r w5 ⟨rfl, h⟩
  obtain rfl := h
  refine hK _ _ (trivial) (fun hHeld => ?_)
  clear hK K
  try simp only [Act.put, List.setIfInBounds_toArray, List.set_cons_zero, List.set_cons_succ]
  refine wpAnyH_take (i := 6) (oi := { dst := some 54, op := Op.convert 23 22 (Operand.tmp 53), type := 22, pos := "ref.go:111", after := #[{ on := 5, ground := Ground.data }], guard := none }) (v := ?_) rfl (by kernel_rfl) (by kernel_rfl) (by kernel_rfl) (fun _ _ _ h => h) (Or.inl ⟨by rfl, ?_⟩) (by assumption) ?_
  rotate_left
  · (intro w hSw; (try dsimp only at hSw); go_simp <;> with_reducible rfl)
  try simp only [Act.put, List.setIfInBounds_toArray, List.set_cons_zero, List.set_cons_succ]
  refine wpAnyH_ready (rs := [7]) (by kernel_rfl) (by simp) ?_
  refine AllReadyH.cons (o := { dst := some 55, op := Op.call { callee := Callee.value (Operand.func 21), args := #[Operand.const (Value.int IntKind.i64 4), Operand.tmp 54], argTypes := #[3, 22] }, type := 9, pos := "ref.go:111", after := #[{ on := 6, ground := Ground.data }, { on := 5, ground := Ground.chain }], guard := none }) rfl (fun K hK => ?_) AllReadyH.nil
  go_simp
  go_at_call 21
  with_reducible refine (HX6.out _).mono ?_
  rintro r wL ⟨rfl, hbL⟩
  have HL := Lib.hid (HH.out.later (HBK.out.trans (hbL.mono HBK.out.size)))
  clear hbL
  refine hK _ _ (trivial) (fun hHeld => ?_)
  clear hK K
  try simp only [Act.put, List.setIfInBounds_toArray, List.set_cons_zero, List.set_cons_succ]
  refine wpAnyH_take (i := 12) (oi := { dst := some 60, op := Op.binOp BinOp.neq 9 (Operand.tmp 55) (Operand.tmp 59) 9, type := 4, pos := "ref.go:111", after := #[{ on := 7, ground := Ground.data }, { on := 11, ground := Ground.data }], guard := none }) (v := .bool false) rfl (by kernel_rfl) (by kernel_rfl) (by kernel_rfl) (fun _ _ _ h => h) (Or.inl ⟨by rfl, ?_⟩) (by assumption) ?_
  · intro w' hSw
    go_simp
    rw [HNE.out]
  try simp only [Act.put, List.setIfInBounds_toArray, List.set_cons_zero, List.set_cons_succ]
  refine wpAnyH_done (by kernel_rfl) ?_ _
  obtain ⟨R0, hR0⟩ : ∃ y, y = xs.drop 23 := ⟨_, rfl⟩
  have HR0 := Lib.hid hR0
  have HOQ0 := Lib.hid (show DP w wL q g (⟨(v1 : Int), v2, v3, v4, 0, 0, 0, 0, 0, [], []⟩ : FR) (.slice none 0 0) R0 0 from by rw [hR0]; exact HL.out)
  have ck0 : wL.cell? ⟨g, 0, none⟩ = some (.int .i64 (v1 : Int)) := by rw [HL.out.cell 0]; rfl
  have hhd : headOf xs = (⟨(v1 : Int), v2, v3, v4, 0, 0, 0, 0, 0, [], []⟩ : FR) := by unfold headOf; rw [← HV1.out, ← HV2.out, ← HV3.out, ← HV4.out]
  have HHD := Lib.hid hhd
  clear hR0 hhd hHeld
  obtain ⟨n1, y1, e1, hr1⟩ : ∃ v y e, rnum R0 0 2 = (v, y, e) := ⟨_, _, _, rfl⟩
  have hn1 : n1 < 65536 := by have := rnum_lt R0 0 2 2 rfl; rw [hr1] at this; exact this
  have hq1 := HOQ0.out.num 2
  rw [hr1] at hq1
  have HQN1 := Lib.hid hq1
  have HRR1 := Lib.hid hr1
  have HYL1 := Lib.hid (show y1.length ≤ R0.length by have := rnum_le R0 0 2; rw [hr1] at this; exact this)
  have wq1 : IntKind.i64.wrap (n1 : Int) = (n1 : Int) := by exact wrap_small _ (by omega) (by omega)
  have HNB1 := Lib.hid hn1
  clear hq1 hr1 hn1
  go_wp2_with fail

  refine HQN1.out.mono ?_
  rintro r wx1 ⟨rfl, hop⟩
  have cq1 : wx1.cell? ⟨g, 7, none⟩ = some (.int .i64 0) := by rw [hop.cell 7]; rfl
  have fq1 : wx1.frozen? ⟨g, 7, none⟩ = false := hop.free 7
  have HOQ1 := Lib.hid (hop.set 7 (.int .i64 (n1 : Int)) (f' := (⟨(v1 : Int), v2, v3, v4, 0, 0, 0, (n1 : Int), 0, [], []⟩ : FR)) rfl rfl)
  obtain ⟨ww1, hww1⟩ : ∃ x, x = wx1.setCell ⟨g, 7, none⟩ (.int .i64 (n1 : Int)) := ⟨_, rfl⟩
  rw [← hww1] at HOQ1
  have HWW1 := Lib.hid hww1
  clear hop hww1
  obtain ⟨n2, y2, e2, hr2⟩ : ∃ v y e, rnum y1 e1 1 = (v, y, e) := ⟨_, _, _, rfl⟩
  have hn2 : n2 < 256 := by have := rnum_lt y1 e1 1 1 rfl; rw [hr2] at this; exact this
  have hq2 := HOQ1.out.num 1
  rw [hr2] at hq2
  have HQN2 := Lib.hid hq2
  have HRR2 := Lib.hid hr2
  have HYL2 := Lib.hid (show y2.length ≤ y1.length by have := rnum_le y1 e1 1; rw [hr2] at this; exact this)
  have wq2 : IntKind.i64.wrap (n2 : Int) = (n2 : Int) := by exact wrap_small _ (by omega) (by omega)
  have HNB2 := Lib.hid hn2
  clear hq2 hr2 hn2
  go_wp2_with fail
  rw [← HWW1.out]
  refine HQN2.out.mono ?_
  rintro r wx2 ⟨rfl, hop⟩
  have HOQ2 := Lib.hid hop
  clear hop
  obtain ⟨i9, hi9, hz9, hs9, hb9⟩ := info_parts infoStr
  go_wp2
  go_loopw [8] (fun i wr => ∃ k : Nat, k ≤ n2 ∧ i = .int .i64 k ∧ ∃ L Y E lv, chunk y2 e2 k = (L, Y, E) ∧ DP w wr q g (⟨(v1 : Int), v2, v3, v4, 0, 0, 0, (n1 : Int), 0, [], L⟩ : FR) lv Y E) (fun i _ => n2 - (intOf i).toNat)
  case atStart => exact ⟨0, by omega, rfl, [], y2, e2, .slice none 0 0, rfl, HOQ2.out⟩
  case round =>
    obtain ⟨k, hk, rfl, L, Y, E, lv, hch, hop⟩ := hrel
    have hLk : L.length = k := by have := chunk_length y2 e2 k; rw [hch] at this; exact this
    by_cases hlt : k < n2
    · have i2 : (k : Int) < (n2 : Int) := by omega
      have n2b : (n2 : Int) < 256 := by have := HNB2.out; omega
      obtain ⟨b, Y', E', hrb⟩ : ∃ b y e, rbytes Y E 32 = (b, y, e) := ⟨_, _, _, rfl⟩
      have HCH2 := Lib.hid (show chunk y2 e2 (k + 1) = (L ++ [b], Y', E') by rw [chunk_succ, hch]; simp only [hrb])
      have hopd : DP w wr.drew q g (⟨(v1 : Int), v2, v3, v4, 0, 0, 0, (n1 : Int), 0, [], L⟩ : FR) lv Y E := hop.later ((Below.refl _ _).drew)
      have HBY := Lib.hid (hopd.bytes 32)
      rw [hrb] at HBY
      have c10 : wr.cell? ⟨g, 10, none⟩ = some lv := by rw [hop.cell 10]; rfl
      have HLK := Lib.hid hLk
      have HV3 := Lib.hid (show n2 < 256 from HNB2.out)
      clear hrb hop hopd hLk hch
      go_wp2_with fail
      go_region_law (first
        | (refine step_append_at (P := Try.prog) (o := ⟨some 112, _, _, _, _, _⟩) rfl (.tmp 107) (.tmp 111) 24 rfl (g + 1) 9 i9 _ 1 16 Try.underlying24 hi9 hz9 hs9 hb9 rfl (by omega) lv L.length (tvs L) (by rfl) (HOP9.out.own.alloc _) ⟨wb.heap.size, 0, none⟩ 1 1 [.string sz9] (by rfl) rfl (str_cell wb sz9) (by simp [Value.oneCell']) (by unfold maxLen; have := HLK.out; have := HV3.out; omega) (by have := HLK.out; have := HV3.out; omega) (by have := HOP9.out.lt; simp; omega) ?_; intro v5 w5 how5 hg5 hat5; obtain ⟨a5, m5, cc5, rfl⟩ := own_slice how5; obtain ⟨⟨k5, f5⟩, hend⟩ := dp_app (f' := (⟨(v1 : Int), v2, v3, v4, 0, 0, 0, (n1 : Int), 0, [], L ++ [b]⟩ : FR)) (b := b) HOP9.out (by rw [HSZ9.out]; exact how5) hg5 rfl rfl; have HEND := Lib.hid hend; clear how5 hg5 hat5 hend)
        | (go_simp; go_at_call 29; refine HBY.out.mono ?_; rintro r wb ⟨a9, n9, c9, rfl, hrd9, hop9⟩; obtain ⟨sz9, hsz9⟩ : ∃ s : ByteArray, s = ⟨b.toArray⟩ := ⟨_, rfl⟩; have hcv : (convert 29 9 (.slice a9 n9 c9)).run Try.prog wb = .ok (.string sz9) wb := (by rw [hsz9]; exact rd_string hrd9); have HOP9 := Lib.hid hop9; have HSZ9 := Lib.hid (show strV b = .string sz9 by rw [hsz9]; rfl); have c10b : wb.cell? ⟨g, 10, none⟩ = some lv := (by rw [hop9.cell 10]; rfl); have c10c : (wb.alloc (.cells #[.string sz9] 9)).cell? ⟨g, 10, none⟩ = some lv := (by rw [cell_of_blk ((heap_alloc_old _ _ hop9.lt).trans hop9.box) 10]; rfl); clear hrd9 hop9 hsz9))
      all_goals (
        go_wp2
        go_roundw
        case rel => exact ⟨k + 1, by omega, by go_num, L ++ [b], Y', E', _, HCH2.out, HEND.out⟩
        case measure => simp [intOf]; omega)
    · obtain rfl : k = n2 := by omega
      have i3 : ¬ (k : Int) < (k : Int) := by omega
      have HOQ3 := Lib.hid hop
      have HCHE := Lib.hid hch
      have HKB := Lib.hid (show k < 256 from HNB2.out)
      have HLK := Lib.hid hLk
      clear hop hch hLk hlt hk
      obtain ⟨FX, hFX⟩ : ∃ x, x = (⟨(v1 : Int), v2, v3, v4, 0, 0, 0, (n1 : Int), 0, [], L⟩ : FR) := ⟨_, rfl⟩
      have hrf : rfr (headOf xs) (xs.drop 23) = FX := by rw [hFX]; rw [← HR0.out, HHD.out]; unfold rfr; simp only [HK1.out, HRR1.out, HRR2.out, HCHE.out]; rfl
      have hoq := HOQ3.out
      rw [← hFX] at hoq
      obtain ⟨la, ll9, lc, hlv, htx, hgb⟩ := hoq.tx
      have hvo : FX.vol < 4294967296 := by rw [hFX]; simp
      have hft : FX.fit := by rw [hFX]; exact ⟨HFIT.out.1, HFIT.out.2.1, HFIT.out.2.2⟩
      have hdl : FX.data.length ≤ 100000 := by rw [hFX]; simp
      have hll : ∀ k, ((FX.list.take k).flatten).length ≤ 100000 := by rw [hFX]; exact fun k2 => by { have h1 := flat_take L k2; have h2 := flat_le L (fun d hd => chunk_le y2 e2 k d (by rw [HCHE.out]; exact hd)); have := HLK.out; have := HKB.out; simp only; omega }
      obtain ⟨Y, hY⟩ : ∃ Y, Y = frC FX (.slice la ll9 lc) := ⟨_, rfl⟩
      have hbx := hoq.box
      rw [hlv, ← hY] at hbx
      have hfv : frV FX (.slice la ll9 lc) = .agg Y := by rw [hY]; rfl
      obtain ⟨q1, q2, q3⟩ := frc_facts FX la ll9 lc
      rw [← hY] at q1 q2 q3
      have hpt := rfput_any FX la ll9 lc wr htx hvo hft hdl hll
      rw [hfv] at hpt
      have HPT := Lib.hid hpt
      have HYY := Lib.hid hY
      have Q1 := Lib.hid q1
      have Q2 := Lib.hid q2
      have Q3 := Lib.hid q3
      have HRF := Lib.hid hrf
      have HOQ := Lib.hid hoq
      have HTX := Lib.hid htx
      have HGB := Lib.hid hgb
      clear hgb hFX hrf hoq htx hvo hft hdl hll hY hfv q1 q2 q3 hpt hlv
      by_cases hgd : good FX ∧ frameB FX = xs
      case neg =>
        have HP := Lib.hid (ref_bad HXL.out HS.out HRF.out hgd)
        have hpp : (∃ (tz : ByteArray), strV (putP FX).1 = .string tz ∧ (putP FX).2 = 6) ∨ (∃ (tz : ByteArray), strV (putP FX).1 = .string tz ∧ (putP FX).2 = 0 ∧ (tz.toList == sz.toList) = false) := by
          unfold putP
          by_cases hg2 : good FX
          · rw [if_pos hg2]
            obtain ⟨tz, htz⟩ := str_of (frameB FX)
            refine .inr ⟨tz, htz, rfl, beq_eq_false_iff_ne.2 fun h => hgd ⟨hg2, ?_⟩⟩
            exact (str_eq htz HSZ.out).1 (tolist_inj h)
          · rw [if_neg hg2]
            exact .inl ⟨_, rfl, rfl⟩
        rcases hpp with ⟨tz, h1, h2⟩ | ⟨tz, h1, h2, h3⟩
        all_goals (
          have hpt := HPT.out
          rw [h1, h2] at hpt
          have HPT2 := Lib.hid hpt
          clear hpt h1 h2 HPT hgd
          go_wp2_with (with_reducible refine wpList_load_row (o := ⟨some 127, _, _, _, _, _⟩) rfl 26 (.tmp 5) rfl g rfl 26 Y (0, 0) _ hbx Try.underlying26 rfl Q1.out ?_)
          refine HPT2.out.mono ?_
          rintro r wz ⟨rfl, hbz⟩
          have hoz := HOQ.out.later hbz
          have hrs := hoz.res
          have hw5 : (wz.setRow w.heap.size frZ).heap[w.heap.size]? = some (.cells frZ 26 (0, 0)) := setRow_heap _ _ _ frZ _ _ hrs
          have HB5 := Lib.hid (below_setRow hoz.bel (Nat.le_refl _) frZ)
          clear hoz hbz hbx
          go_wp2_with (with_reducible refine wpList_store_row (o := ⟨none, _, _, _, _, _⟩) rfl 26 (.tmp 2) (.tmp 138) rfl w.heap.size frZ rfl rfl 26 frZ hrs HI0.out rfl HO0.out ?_)
          refine bodyPost_ret (results_row_tmp (p := 2) (u := 3) (ty := 26) rfl _ _ w.heap.size 26 frZ (0, 0) _ rfl hw5 Try.underlying26 rfl HI0.out) rfl ?_
          exact dg_bad HP.out rfl HB5.out)
      case pos =>
        have HP := Lib.hid (ref_good HXL.out HS.out HRF.out hgd)
        have hpt := HPT.out
        rw [show putP FX = (frameB FX, 0) from by unfold putP; rw [if_pos hgd.1], hgd.2, HSZ.out] at hpt
        have HPT2 := Lib.hid hpt
        clear hpt HPT hgd
        go_wp2_with (with_reducible refine wpList_load_row (o := ⟨some 127, _, _, _, _, _⟩) rfl 26 (.tmp 5) rfl g rfl 26 Y (0, 0) _ hbx Try.underlying26 rfl Q1.out ?_)
        refine HPT2.out.mono ?_
        rintro r wz ⟨rfl, hbz⟩
        have hoz := HOQ.out.later hbz
        have hrs := hoz.res
        have hbz2 := (hbz.block g (lt_of_block hbx)).trans hbx
        have hw5 : (wz.setRow w.heap.size Y).heap[w.heap.size]? = some (.cells Y 26 (0, 0)) := setRow_heap _ _ _ Y _ _ hrs
        have HB5 := Lib.hid (below_setRow hoz.bel (Nat.le_refl _) Y)
        have HT5 := Lib.hid (show Tx (wz.setRow w.heap.size Y) la ll9 lc FX.list from by
          refine (HTX.out.later hbz).kept (by simp [World.setRow]) fun b off e h0 _ => setRow_other wz w.heap.size b Y ?_
          have h1 := HGB.out b off e
          have h2 := HOQ.out.fq
          have h3 := HOQ.out.fg
          omega)
        clear hoz hbz
        go_wp2_with (first
          | (with_reducible refine wpList_load_row (o := ⟨some 139, _, _, _, _, _⟩) rfl 26 (.tmp 5) rfl g rfl 26 Y (0, 0) _ hbz2 Try.underlying26 rfl Q1.out ?_)
          | (with_reducible refine wpList_store_row (o := ⟨none, _, _, _, _, _⟩) rfl 26 (.tmp 2) (.tmp 139) rfl w.heap.size Y rfl rfl 26 frZ hrs Q1.out Q2.out Q3.out ?_))
        refine bodyPost_ret (results_row_tmp (p := 2) (u := 3) (ty := 26) rfl _ _ w.heap.size 26 Y (0, 0) _ rfl hw5 Try.underlying26 rfl Q1.out) rfl ?_
        exact ⟨FX, la, ll9, lc, Y, 0, HYY.out, rfl, HP.out, HT5.out, HB5.out⟩


theorem rfget_any (xs : List UInt8) (sz : ByteArray) (hsz : strV xs = .string sz) (hmax : xs.length ≤ 1000) (w : World) :
    Calls Try.prog 13 #[.string sz] w fun e w' => DG xs w e w' := by
  by_cases h0 : xs.length < 27
  · exact rget_0 xs sz hsz hmax w h0
  by_cases h1 : xs.length < 27 + lenOf xs
  · exact rget_1 xs sz hsz hmax w (by omega) h1
  by_cases h2 : 27 + lenOf xs < xs.length
  · exact rget_2 xs sz hsz hmax w h2
  have hn : xs.length = 27 + lenOf xs := by omega
  by_cases hs : numN ((xs.drop (23 + lenOf xs)).take 4) = addN 0 (xs.take (23 + lenOf xs))
  case neg => exact rget_3 xs sz hsz hmax w hn hs
  by_cases k1 : numN (xs.take 1) = 1
  · exact rget_k1 xs sz hsz hmax w hn hs k1
  by_cases k2 : numN (xs.take 1) = 2
  · exact rget_k2 xs sz hsz hmax w hn hs k2
  by_cases k4 : numN (xs.take 1) = 4
  · exact rget_k4 xs sz hsz hmax w hn hs k4
  by_cases k6 : numN (xs.take 1) = 6
  · exact rget_k6 xs sz hsz hmax w hn hs k6
  by_cases k7 : numN (xs.take 1) = 7
  · exact rget_k7 xs sz hsz hmax w hn hs k7
  exact rget_ke xs sz hsz hmax w hn hs ⟨k1, k2, k4, k6, k7⟩
end Go.Proofs.Ytipegdfjpmlcbaa


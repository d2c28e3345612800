/-
  The document's Get of a frame: where the sum is right.
-/
import Derived.Test.YtipegdfjpmlcbaaCFV
namespace Go.Proofs.Ytipegdfjpmlcbaa
open Go.RowKit
set_option linter.unusedVariables false
set_option linter.unusedSimpArgs false

theorem rnum_le (ys : List UInt8) (e wi : Int) : (rnum ys e wi).2.1.length ≤ ys.length := by
  unfold rnum
  split
  · exact Nat.le_refl _
  split
  · exact Nat.zero_le _
  split
  · exact Nat.zero_le _
  · simp
theorem rbytes_le (ys : List UInt8) (e m : Int) : (rbytes ys e m).1.length ≤ ys.length := by
  unfold rbytes
  split
  · exact Nat.zero_le _
  split
  · exact Nat.zero_le _
  split
  · exact Nat.zero_le _
  · simp; omega
theorem rbytes_le32 (ys : List UInt8) (e : Int) : (rbytes ys e 32).1.length ≤ 32 := by
  unfold rbytes
  split
  · exact Nat.zero_le _
  split
  · exact Nat.zero_le _
  split
  · exact Nat.zero_le _
  · simp; omega
/-- What the row read tells of Get. -/
theorem ref_bad {xs : List UInt8} {x : FR} (hn : xs.length = 27 + lenOf xs) (hs : numN ((xs.drop (23 + lenOf xs)).take 4) = addN 0 (xs.take (23 + lenOf xs))) (hx : rfr (headOf xs) (xs.drop 23) = x) (h : ¬ (good x ∧ frameB x = xs)) : getP xs = (fr0, 6) := by
  rw [getP_ref xs (by omega) (by omega) (by omega) hs, hx, if_neg h]
theorem ref_good {xs : List UInt8} {x : FR} (hn : xs.length = 27 + lenOf xs) (hs : numN ((xs.drop (23 + lenOf xs)).take 4) = addN 0 (xs.take (23 + lenOf xs))) (hx : rfr (headOf xs) (xs.drop 23) = x) (h : good x ∧ frameB x = xs) : getP xs = (x, 0) := by
  rw [getP_ref xs (by omega) (by omega) (by omega) hs, hx, if_pos h]

set_option maxRecDepth 20000 in
set_option maxHeartbeats 1000000 in
theorem rget_k7 (xs : List UInt8) (sz : ByteArray) (hsz : strV xs = .string sz) (hmax : xs.length ≤ 1000) (w : World) (hn : xs.length = 27 + lenOf xs) (hs : numN ((xs.drop (23 + lenOf xs)).take 4) = addN 0 (xs.take (23 + lenOf xs))) (hk : numN (xs.take 1) = 7) :
    Calls Try.prog 13 #[.string sz] w fun e w' => DG xs w e w' := by
  have hzl : sz.size = xs.length := sd_size hsz
  have hi0 : (Try.prog.info? 26).map (·.size) = some frZ.size := by kernel_rfl
  have ho0 : frZ.all (·.oneCell') = true := by simp [frZ, Value.oneCell']
  have HI0 := Lib.hid hi0
  have HO0 := Lib.hid ho0
  have HMX := Lib.hid hmax
  have HSZ := Lib.hid hsz
  have HZL := Lib.hid hzl
  obtain ⟨W0, hW0⟩ : ∃ x, x = w.alloc (.cells frZ 26) := ⟨_, rfl⟩
  clear hi0 ho0
  obtain ⟨cc, w1, hcv, hrd1, hb1⟩ := cv_rd sz (by omega) W0
  rw [str_list hsz] at hrd1
  have hep := ep_new (by rw [← hW0]; exact hb1) hrd1
  obtain ⟨q, hq⟩ : ∃ x, x = w1.heap.size := ⟨_, rfl⟩
  obtain ⟨W2, hW2⟩ : ∃ x, x = w1.alloc (.cells #[.slice (some ⟨W0.heap.size, 0, none⟩) sz.size cc, .int .i64 0, .int .i64 0] 57) := ⟨_, rfl⟩
  rw [← hW2, ← hq] at hep
  have HW2 := Lib.hid hW2
  have HQ := Lib.hid hq
  have HN1 := Lib.hid (hep.num 1 1 rfl (by omega) (by omega) (by omega))
  obtain ⟨v1, hv1⟩ : ∃ v, v = numN (xs.take 1) := ⟨_, rfl⟩
  obtain ⟨v2, hv2⟩ : ∃ v, v = numN ((xs.drop 1).take 8) := ⟨_, rfl⟩
  obtain ⟨v3, hv3⟩ : ∃ v, v = numN ((xs.drop 9).take 8) := ⟨_, rfl⟩
  obtain ⟨v4, hv4⟩ : ∃ v, v = numN ((xs.drop 17).take 4) := ⟨_, rfl⟩
  obtain ⟨ln, hln⟩ : ∃ v, v = lenOf xs := ⟨_, rfl⟩
  have hl1 : v1 < 256 := by rw [hv1]; exact num_take_lt xs 1
  have hl4 : v4 < 4294967296 := by rw [hv4]; exact num_take_lt (xs.drop 17) 4
  have hl5 : ln < 65536 := by rw [hln]; exact lenOf_lt xs
  have z1 : IntKind.i64.wrap (v1 : Int) = (v1 : Int) := wrap_small _ (by omega) (by omega)
  have z4 : IntKind.u32.wrap (v4 : Int) = (v4 : Int) := IntWalk.u32_in _ (by omega)
  have z5 : IntKind.i64.wrap (ln : Int) = (ln : Int) := wrap_small _ (by omega) (by omega)
  have z6 : IntKind.i64.wrap (27 + (ln : Int)) = 27 + (ln : Int) := wrap_small _ (by omega) (by omega)
  have z7 : IntKind.i64.wrap (23 + (ln : Int)) = 23 + (ln : Int) := wrap_small _ (by omega) (by omega)
  rw [← hv1] at HN1
  have HV1 := Lib.hid hv1
  have HV2 := Lib.hid hv2
  have HV3 := Lib.hid hv3
  have HV4 := Lib.hid hv4
  have HLN := Lib.hid hln
  have HL5 := Lib.hid hl5
  have HN27 := Lib.hid (show 27 ≤ xs.length by omega)
  have c27 : ¬ (sz.size : Int) < 27 := by omega
  have HS := Lib.hid hs
  have HK1 := Lib.hid (show (v1 : Int) = 7 by omega)
  have HXL := Lib.hid hn
  have hkv : v1 = numN (xs.take 1) := hv1
  have hv28 : v2 < 18446744073709551616 := by rw [hv2]; exact num_take_lt (xs.drop 1) 8
  have hv38 : v3 < 18446744073709551616 := by rw [hv3]; exact num_take_lt (xs.drop 9) 8
  have HFIT := Lib.hid (And.intro hv28 (And.intro hv38 hl4))
  have qk1 : ((v1 : Int) == 1) = false := by rw [beq_eq_false_iff_ne]; omega
  have qk2 : ((v1 : Int) == 2) = false := by rw [beq_eq_false_iff_ne]; omega
  have qk4 : ((v1 : Int) == 4) = false := by rw [beq_eq_false_iff_ne]; omega
  have qk6 : ((v1 : Int) == 6) = false := by rw [beq_eq_false_iff_ne]; omega
  have qk7 : ((v1 : Int) == 7) = true := by rw [beq_iff_eq]; omega
  have c28 : ¬ (sz.size : Int) < 27 + (ln : Int) := by omega
  have c29 : ¬ (sz.size : Int) > 27 + (ln : Int) := by omega
  have g1 : (0 : Int) ≤ 23 + (ln : Int) := by omega
  have g2 : 23 + (ln : Int) ≤ (sz.size : Int) := by omega
  have HW0 := Lib.hid hW0
  unfold frZ at HW0
  clear hrd1 hb1 hep hW2 hq hv1 hv2 hv3 hv4 hln hl1 hl4 hl5 hsz hmax hzl hW0 hn hs hkv hv28 hv38 hk
  go_enter Try.func13, Try.ntmps13
  go_upto_region 1 with fail
  rw [← HW0.out]
  go_wp2_with fail
  rw [← HW2.out, ← HQ.out]
  refine HN1.out.mono ?_
  rintro e w3 ⟨rfl, hep3⟩
  have HD4 := Lib.hid (hep3.begin ⟨(v1 : Int), 0, 0, 0, 0, 0, 0, 0, 0, [], []⟩ rfl)
  obtain ⟨g, hg⟩ : ∃ x, x = w3.heap.size := ⟨_, rfl⟩
  obtain ⟨W4, hW4⟩ : ∃ x, x = w3.alloc (.cells (frC ⟨(v1 : Int), 0, 0, 0, 0, 0, 0, 0, 0, [], []⟩ (.slice none 0 0)) 26) := ⟨_, rfl⟩
  rw [← hW4, ← hg] at HD4
  have HW4 := Lib.hid hW4
  have HGG := Lib.hid hg
  unfold frC strV at HW4
  simp only [Int.natCast_zero] at HW4
  have HN2 := Lib.hid (HD4.out.num_ok 8 8 rfl (by omega) (by omega) (by rw [List.length_drop]; have := HN27.out; omega))
  rw [← HV2.out] at HN2
  clear hep3 hW4 hg HN1 hcv
  go_wp2_with fail
  rw [← HW4.out, ← HGG.out]
  refine HN2.out.mono ?_
  rintro e wa2 ⟨rfl, hop⟩
  have c2 : wa2.cell? ⟨g, 1, none⟩ = some (.int .u64 0) := by rw [hop.cell 1]; rfl
  have fr2 : wa2.frozen? ⟨g, 1, none⟩ = false := hop.free 1
  have HOP2 := Lib.hid (hop.set 1 (.int .u64 (v2 : Int)) (f' := ⟨(v1 : Int), v2, 0, 0, 0, 0, 0, 0, 0, [], []⟩) rfl rfl)
  rw [List.drop_drop] at HOP2
  clear hop
  obtain ⟨wb2, hwb2⟩ : ∃ x, x = wa2.setCell ⟨g, 1, none⟩ (.int .u64 (v2 : Int)) := ⟨_, rfl⟩
  rw [← hwb2] at HOP2
  have HWB2 := Lib.hid hwb2
  have HN3 := Lib.hid (HOP2.out.num_ok 8 8 rfl (by omega) (by omega) (by rw [List.length_drop]; have := HN27.out; omega))
  rw [← HV3.out] at HN3
  clear hwb2
  go_wp2_with fail
  rw [← HWB2.out]
  refine HN3.out.mono ?_
  rintro e wa3 ⟨rfl, hop⟩
  have c3 : wa3.cell? ⟨g, 2, none⟩ = some (.int .u64 0) := by rw [hop.cell 2]; rfl
  have fr3 : wa3.frozen? ⟨g, 2, none⟩ = false := hop.free 2
  have HOP3 := Lib.hid (hop.set 2 (.int .u64 (v3 : Int)) (f' := ⟨(v1 : Int), v2, v3, 0, 0, 0, 0, 0, 0, [], []⟩) rfl rfl)
  rw [List.drop_drop] at HOP3
  clear hop
  obtain ⟨wb3, hwb3⟩ : ∃ x, x = wa3.setCell ⟨g, 2, none⟩ (.int .u64 (v3 : Int)) := ⟨_, rfl⟩
  rw [← hwb3] at HOP3
  have HWB3 := Lib.hid hwb3
  have HN4 := Lib.hid (HOP3.out.num_ok 4 4 rfl (by omega) (by omega) (by rw [List.length_drop]; have := HN27.out; omega))
  rw [← HV4.out] at HN4
  clear hwb3
  go_wp2_with fail
  rw [← HWB3.out]
  refine HN4.out.mono ?_
  rintro e wa4 ⟨rfl, hop⟩
  have c4 : wa4.cell? ⟨g, 3, none⟩ = some (.int .u32 0) := by rw [hop.cell 3]; rfl
  have fr4 : wa4.frozen? ⟨g, 3, none⟩ = false := hop.free 3
  have HOP4 := Lib.hid (hop.set 3 (.int .u32 (v4 : Int)) (f' := ⟨(v1 : Int), v2, v3, v4, 0, 0, 0, 0, 0, [], []⟩) rfl rfl)
  rw [List.drop_drop] at HOP4
  clear hop
  obtain ⟨wb4, hwb4⟩ : ∃ x, x = wa4.setCell ⟨g, 3, none⟩ (.int .u32 (v4 : Int)) := ⟨_, rfl⟩
  rw [← hwb4] at HOP4
  have HWB4 := Lib.hid hwb4
  have HN5 := Lib.hid (HOP4.out.num_ok 2 2 rfl (by omega) (by omega) (by rw [List.length_drop]; have := HN27.out; omega))
  rw [show numN ((xs.drop 21).take 2) = ln from HLN.out.symm] at HN5
  clear hwb4
  go_wp2_with fail
  rw [← HWB4.out]
  refine HN5.out.mono ?_
  rintro e wH ⟨rfl, hop⟩
  rw [List.drop_drop] at hop
  have HH := Lib.hid hop
  clear hop c2 c3 c4 fr2 fr3 fr4
  obtain ⟨SA, hSA⟩ : ∃ x, x = sz.extract 0 (23 + (ln : Int)).toNat := ⟨_, rfl⟩
  obtain ⟨SB, hSB⟩ : ∃ x, x = sz.extract (23 + (ln : Int)).toNat sz.size := ⟨_, rfl⟩
  have xA : sz.extract 0 (23 + (ln : Int)).toNat = SA := hSA.symm
  have xB : sz.extract (23 + (ln : Int)).toNat sz.size = SB := hSB.symm
  have e23 : (23 + (ln : Int)).toNat = 23 + lenOf xs := by rw [← HLN.out]; omega
  have hA := ext_str HSZ.out 0 (23 + (ln : Int)).toNat
  have hB := ext_str HSZ.out (23 + (ln : Int)).toNat sz.size
  rw [xA, List.drop_zero, e23] at hA
  rw [xB, List.take_of_length_le (by rw [HZL.out]; exact Nat.le_refl _), e23] at hB
  have hzA : SA.size ≤ 1000 := by rw [sd_size hA, List.length_take]; have := HMX.out; omega
  obtain ⟨ca, wK, hcv2, hrdK, hbK⟩ := cv_rd SA (by omega) wH.drew
  rw [str_list hA] at hrdK
  obtain ⟨cs, hcs⟩ : ∃ x, x = addN 0 (xs.take (23 + lenOf xs)) := ⟨_, rfl⟩
  have hcl := addN_lt 0 (xs.take (23 + lenOf xs))
  rw [← hcs] at hcl
  have wcs : IntKind.u64.wrap (cs : Int) = (cs : Int) := IntWalk.u64_in _ (by omega)
  have hsu := rsum_any _ _ _ _ wK hrdK
  rw [← hcs] at hsu
  have HSU := Lib.hid hsu
  obtain ⟨t6, ht6⟩ := str_of (enc cs 4)
  have HX6 := Lib.hid (show ∀ w, Calls Try.prog 21 #[.int .i64 4, .int .u64 (cs : Int)] w fun e w' => e = .returned (.string t6) ∧ Below w.heap.size w w' from fun w => by have h := text_any 4 cs w (by omega) (by omega) (by omega); rw [ht6] at h; exact h)
  have heq := str_eq ht6 hB
  have hd4 : (xs.drop (23 + lenOf xs)).length = 4 := by rw [List.length_drop]; have := HXL.out; omega
  have hnq : ¬ (t6 = SB) ↔ numN ((xs.drop (23 + lenOf xs)).take 4) ≠ addN 0 (xs.take (23 + lenOf xs)) := by
    rw [heq, ← hcs]
    constructor
    · intro h1 h2
      apply h1
      rw [← h2, enc_take _ _ (by omega)]
      exact List.take_of_length_le (by omega)
    · intro h1 h2
      apply h1
      rw [← h2, List.take_of_length_le (by rw [enc_length]; omega), numN_enc (by omega)]
  have HNE := Lib.hid (Classical.byContradiction fun h => (hnq.1 h) HS.out)
  have HBK := Lib.hid (show Below wH.heap.size wH wK from ((Below.refl _ _).drew).trans hbK)
  clear hSA hSB e23 hA hB hrdK hbK hcs hsu ht6 heq hd4 hnq
  go_wp2_with fail
  refine wp_region_held_drew (S := fun _ => True) (by kernel_rfl) trivial (fun hHeld => ?_)
  refine wpAnyH_take (i := 0) (oi := { dst := some 48, op := Op.move (Operand.tmp 0), type := 9, pos := "ref.go:111", after := #[], guard := none }) (v := ?_) rfl (by kernel_rfl) (by kernel_rfl) (by kernel_rfl) (fun _ _ _ h => h) (Or.inl ⟨by rfl, ?_⟩) (by assumption) ?_
  rotate_left
  · (intro w hSw; (try dsimp only at hSw); go_simp <;> with_reducible rfl)
  try simp only [Act.put, List.setIfInBounds_toArray, List.set_cons_zero, List.set_cons_succ]
  refine wpAnyH_take (i := 1) (oi := { dst := some 49, op := Op.move (Operand.tmp 6), type := 3, pos := "ref.go:111", after := #[], guard := none }) (v := ?_) rfl (by kernel_rfl) (by kernel_rfl) (by kernel_rfl) (fun _ _ _ h => h) (Or.inl ⟨by rfl, ?_⟩) (by assumption) ?_
  rotate_left
  · (intro w hSw; (try dsimp only at hSw); go_simp <;> with_reducible rfl)
  try simp only [Act.put, List.setIfInBounds_toArray, List.set_cons_zero, List.set_cons_succ]
  refine wpAnyH_take (i := 2) (oi := { dst := some 50, op := Op.binOp BinOp.add 3 (Operand.const (Value.int IntKind.i64 23)) (Operand.tmp 49) 3, type := 3, pos := "ref.go:111", after := #[{ on := 1, ground := Ground.data }], guard := none }) (v := ?_) rfl (by kernel_rfl) (by kernel_rfl) (by kernel_rfl) (fun _ _ _ h => h) (Or.inl ⟨by rfl, ?_⟩) (by assumption) ?_
  rotate_left
  · (intro w hSw; (try dsimp only at hSw); go_simp <;> with_reducible rfl)
  try simp only [Act.put, List.setIfInBounds_toArray, List.set_cons_zero, List.set_cons_succ]
  refine wpAnyH_take (i := 3) (oi := { dst := some 51, op := Op.slice 9 (Operand.tmp 48) none (some (Operand.tmp 50)) none, type := 9, pos := "ref.go:111", after := #[{ on := 0, ground := Ground.data }, { on := 2, ground := Ground.data }], guard := none }) (v := ?_) rfl (by kernel_rfl) (by kernel_rfl) (by kernel_rfl) (fun _ _ _ h => h) (Or.inl ⟨by rfl, ?_⟩) (by assumption) ?_
  rotate_left
  · (intro w hSw; (try dsimp only at hSw); go_simp <;> with_reducible rfl)
  try simp only [Act.put, List.setIfInBounds_toArray, List.set_cons_zero, List.set_cons_succ]
  refine wpAnyH_take (i := 8) (oi := { dst := some 56, op := Op.move (Operand.tmp 0), type := 9, pos := "ref.go:111", after := #[], guard := none }) (v := ?_) rfl (by kernel_rfl) (by kernel_rfl) (by kernel_rfl) (fun _ _ _ h => h) (Or.inl ⟨by rfl, ?_⟩) (by assumption) ?_
  rotate_left
  · (intro w hSw; (try dsimp only at hSw); go_simp <;> with_reducible rfl)
  try simp only [Act.put, List.setIfInBounds_toArray, List.set_cons_zero, List.set_cons_succ]
  refine wpAnyH_take (i := 9) (oi := { dst := some 57, op := Op.move (Operand.tmp 6), type := 3, pos := "ref.go:111", after := #[], guard := none }) (v := ?_) rfl (by kernel_rfl) (by kernel_rfl) (by kernel_rfl) (fun _ _ _ h => h) (Or.inl ⟨by rfl, ?_⟩) (by assumption) ?_
  rotate_left
  · (intro w hSw; (try dsimp only at hSw); go_simp <;> with_reducible rfl)
  try simp only [Act.put, List.setIfInBounds_toArray, List.set_cons_zero, List.set_cons_succ]
  refine wpAnyH_take (i := 10) (oi := { dst := some 58, op := Op.binOp BinOp.add 3 (Operand.const (Value.int IntKind.i64 23)) (Operand.tmp 57) 3, type := 3, pos := "ref.go:111", after := #[{ on := 9, ground := Ground.data }], guard := none }) (v := ?_) rfl (by kernel_rfl) (by kernel_rfl) (by kernel_rfl) (fun _ _ _ h => h) (Or.inl ⟨by rfl, ?_⟩) (by assumption) ?_
  rotate_left
  · (intro w hSw; (try dsimp only at hSw); go_simp <;> with_reducible rfl)
  try simp only [Act.put, List.setIfInBounds_toArray, List.set_cons_zero, List.set_cons_succ]
  refine wpAnyH_take (i := 11) (oi := { dst := some 59, op := Op.slice 9 (Operand.tmp 56) (some (Operand.tmp 58)) none none, type := 9, pos := "ref.go:111", after := #[{ on := 8, ground := Ground.data }, { on := 10, ground := Ground.data }], guard := none }) (v := ?_) rfl (by kernel_rfl) (by kernel_rfl) (by kernel_rfl) (fun _ _ _ h => h) (Or.inl ⟨by rfl, ?_⟩) (by assumption) ?_
  rotate_left
  · (intro w hSw; (try dsimp only at hSw); go_simp <;> with_reducible rfl)
  try simp only [Act.put, List.setIfInBounds_toArray, List.set_cons_zero, List.set_cons_succ]
  refine wpAnyH_ready (rs := [4]) (by kernel_rfl) (by simp) ?_
  refine AllReadyH.cons (o := { dst := some 52, op := Op.convert 9 29 (Operand.tmp 51), type := 29, pos := "ref.go:111", after := #[{ on := 3, ground := Ground.data }], guard := none }) rfl (fun K hK => ?_) AllReadyH.nil
  go_simp
  refine hK _ _ (trivial) (fun hHeld => ?_)
  clear hK K
  try simp only [Act.put, List.setIfInBounds_toArray, List.set_cons_zero, List.set_cons_succ]
  refine wpAnyH_ready (rs := [5]) (by kernel_rfl) (by simp) ?_
  refine AllReadyH.cons (o := { dst := some 53, op := Op.call { callee := Callee.value (Operand.func 22), args := #[Operand.tmp 52], argTypes := #[29] }, type := 23, pos := "ref.go:111", after := #[{ on := 4, ground := Ground.data }], guard := none }) rfl (fun K hK => ?_) AllReadyH.nil
  go_simp
  go_at_call 22
  refine HSU.out.mono ?_
  rintro r w5 ⟨rfl, h⟩
  obtain rfl := h
  refine hK _ _ (trivial) (fun hHeld => ?_)
  clear hK K
  try simp only [Act.put, List.setIfInBounds_toArray, List.set_cons_zero, List.set_cons_succ]
  refine wpAnyH_take (i := 6) (oi := { dst := some 54, op := Op.convert 23 22 (Operand.tmp 53), type := 22, pos := "ref.go:111", after := #[{ on := 5, ground := Ground.data }], guard := none }) (v := ?_) rfl (by kernel_rfl) (by kernel_rfl) (by kernel_rfl) (fun _ _ _ h => h) (Or.inl ⟨by rfl, ?_⟩) (by assumption) ?_
  rotate_left
  · (intro w hSw; (try dsimp only at hSw); go_simp <;> with_reducible rfl)
  try simp only [Act.put, List.setIfInBounds_toArray, List.set_cons_zero, List.set_cons_succ]
  refine wpAnyH_ready (rs := [7]) (by kernel_rfl) (by simp) ?_
  refine AllReadyH.cons (o := { dst := some 55, op := Op.call { callee := Callee.value (Operand.func 21), args := #[Operand.const (Value.int IntKind.i64 4), Operand.tmp 54], argTypes := #[3, 22] }, type := 9, pos := "ref.go:111", after := #[{ on := 6, ground := Ground.data }, { on := 5, ground := Ground.chain }], guard := none }) rfl (fun K hK => ?_) AllReadyH.nil
  go_simp
  go_at_call 21
  with_reducible refine (HX6.out _).mono ?_
  rintro r wL ⟨rfl, hbL⟩
  have HL := Lib.hid (HH.out.later (HBK.out.trans (hbL.mono HBK.out.size)))
  clear hbL
  refine hK _ _ (trivial) (fun hHeld => ?_)
  clear hK K
  try simp only [Act.put, List.setIfInBounds_toArray, List.set_cons_zero, List.set_cons_succ]
  refine wpAnyH_take (i := 12) (oi := { dst := some 60, op := Op.binOp BinOp.neq 9 (Operand.tmp 55) (Operand.tmp 59) 9, type := 4, pos := "ref.go:111", after := #[{ on := 7, ground := Ground.data }, { on := 11, ground := Ground.data }], guard := none }) (v := .bool false) rfl (by kernel_rfl) (by kernel_rfl) (by kernel_rfl) (fun _ _ _ h => h) (Or.inl ⟨by rfl, ?_⟩) (by assumption) ?_
  · intro w' hSw
    go_simp
    rw [HNE.out]
  try simp only [Act.put, List.setIfInBounds_toArray, List.set_cons_zero, List.set_cons_succ]
  refine wpAnyH_done (by kernel_rfl) ?_ _
  obtain ⟨R0, hR0⟩ : ∃ y, y = xs.drop 23 := ⟨_, rfl⟩
  have HR0 := Lib.hid hR0
  have HOQ0 := Lib.hid (show DP w wL q g (⟨(v1 : Int), v2, v3, v4, 0, 0, 0, 0, 0, [], []⟩ : FR) (.slice none 0 0) R0 0 from by rw [hR0]; exact HL.out)
  have ck0 : wL.cell? ⟨g, 0, none⟩ = some (.int .i64 (v1 : Int)) := by rw [HL.out.cell 0]; rfl
  have hhd : headOf xs = (⟨(v1 : Int), v2, v3, v4, 0, 0, 0, 0, 0, [], []⟩ : FR) := by unfold headOf; rw [← HV1.out, ← HV2.out, ← HV3.out, ← HV4.out]
  have HHD := Lib.hid hhd
  clear hR0 hhd hHeld
  obtain ⟨FX, hFX⟩ : ∃ x, x = (⟨(v1 : Int), v2, v3, v4, 0, 0, 0, 0, 0, [], []⟩ : FR) := ⟨_, rfl⟩
  have hrf : rfr (headOf xs) (xs.drop 23) = FX := by rw [hFX]; rw [HHD.out]; unfold rfr; simp only [HK1.out]; rfl
  have hoq := HOQ0.out
  rw [← hFX] at hoq
  obtain ⟨la, ll9, lc, hlv, htx, hgb⟩ := hoq.tx
  have hvo : FX.vol < 4294967296 := by rw [hFX]; simp
  have hft : FX.fit := by rw [hFX]; exact ⟨HFIT.out.1, HFIT.out.2.1, HFIT.out.2.2⟩
  have hdl : FX.data.length ≤ 100000 := by rw [hFX]; simp
  have hll : ∀ k, ((FX.list.take k).flatten).length ≤ 100000 := by rw [hFX]; exact fun k => by simp
  obtain ⟨Y, hY⟩ : ∃ Y, Y = frC FX (.slice la ll9 lc) := ⟨_, rfl⟩
  have hbx := hoq.box
  rw [hlv, ← hY] at hbx
  have hfv : frV FX (.slice la ll9 lc) = .agg Y := by rw [hY]; rfl
  obtain ⟨q1, q2, q3⟩ := frc_facts FX la ll9 lc
  rw [← hY] at q1 q2 q3
  have hpt := rfput_any FX la ll9 lc wL htx hvo hft hdl hll
  rw [hfv] at hpt
  have HPT := Lib.hid hpt
  have HYY := Lib.hid hY
  have Q1 := Lib.hid q1
  have Q2 := Lib.hid q2
  have Q3 := Lib.hid q3
  have HRF := Lib.hid hrf
  have HOQ := Lib.hid hoq
  have HTX := Lib.hid htx
  have HGB := Lib.hid hgb
  clear hgb hFX hrf hoq htx hvo hft hdl hll hY hfv q1 q2 q3 hpt hlv
  by_cases hgd : good FX ∧ frameB FX = xs
  case neg =>
    have HP := Lib.hid (ref_bad HXL.out HS.out HRF.out hgd)
    have hpp : (∃ (tz : ByteArray), strV (putP FX).1 = .string tz ∧ (putP FX).2 = 6) ∨ (∃ (tz : ByteArray), strV (putP FX).1 = .string tz ∧ (putP FX).2 = 0 ∧ (tz.toList == sz.toList) = false) := by
      unfold putP
      by_cases hg2 : good FX
      · rw [if_pos hg2]
        obtain ⟨tz, htz⟩ := str_of (frameB FX)
        refine .inr ⟨tz, htz, rfl, beq_eq_false_iff_ne.2 fun h => hgd ⟨hg2, ?_⟩⟩
        exact (str_eq htz HSZ.out).1 (tolist_inj h)
      · rw [if_neg hg2]
        exact .inl ⟨_, rfl, rfl⟩
    rcases hpp with ⟨tz, h1, h2⟩ | ⟨tz, h1, h2, h3⟩
    all_goals (
      have hpt := HPT.out
      rw [h1, h2] at hpt
      have HPT2 := Lib.hid hpt
      clear hpt h1 h2 HPT hgd
      go_wp2_with (with_reducible refine wpList_load_row (o := ⟨some 127, _, _, _, _, _⟩) rfl 26 (.tmp 5) rfl g rfl 26 Y (0, 0) _ hbx Try.underlying26 rfl Q1.out ?_)
      refine HPT2.out.mono ?_
      rintro r wz ⟨rfl, hbz⟩
      have hoz := HOQ.out.later hbz
      have hrs := hoz.res
      have hw5 : (wz.setRow w.heap.size frZ).heap[w.heap.size]? = some (.cells frZ 26 (0, 0)) := setRow_heap _ _ _ frZ _ _ hrs
      have HB5 := Lib.hid (below_setRow hoz.bel (Nat.le_refl _) frZ)
      clear hoz hbz hbx
      go_wp2_with (with_reducible refine wpList_store_row (o := ⟨none, _, _, _, _, _⟩) rfl 26 (.tmp 2) (.tmp 138) rfl w.heap.size frZ rfl rfl 26 frZ hrs HI0.out rfl HO0.out ?_)
      refine bodyPost_ret (results_row_tmp (p := 2) (u := 3) (ty := 26) rfl _ _ w.heap.size 26 frZ (0, 0) _ rfl hw5 Try.underlying26 rfl HI0.out) rfl ?_
      exact dg_bad HP.out rfl HB5.out)
  case pos =>
    have HP := Lib.hid (ref_good HXL.out HS.out HRF.out hgd)
    have hpt := HPT.out
    rw [show putP FX = (frameB FX, 0) from by unfold putP; rw [if_pos hgd.1], hgd.2, HSZ.out] at hpt
    have HPT2 := Lib.hid hpt
    clear hpt HPT hgd
    go_wp2_with (with_reducible refine wpList_load_row (o := ⟨some 127, _, _, _, _, _⟩) rfl 26 (.tmp 5) rfl g rfl 26 Y (0, 0) _ hbx Try.underlying26 rfl Q1.out ?_)
    refine HPT2.out.mono ?_
    rintro r wz ⟨rfl, hbz⟩
    have hoz := HOQ.out.later hbz
    have hrs := hoz.res
    have hbz2 := (hbz.block g (lt_of_block hbx)).trans hbx
    have hw5 : (wz.setRow w.heap.size Y).heap[w.heap.size]? = some (.cells Y 26 (0, 0)) := setRow_heap _ _ _ Y _ _ hrs
    have HB5 := Lib.hid (below_setRow hoz.bel (Nat.le_refl _) Y)
    have HT5 := Lib.hid (show Tx (wz.setRow w.heap.size Y) la ll9 lc FX.list from by
      refine (HTX.out.later hbz).kept (by simp [World.setRow]) fun b off e h0 _ => setRow_other wz w.heap.size b Y ?_
      have h1 := HGB.out b off e
      have h2 := HOQ.out.fq
      have h3 := HOQ.out.fg
      omega)
    clear hoz hbz
    go_wp2_with (first
      | (with_reducible refine wpList_load_row (o := ⟨some 139, _, _, _, _, _⟩) rfl 26 (.tmp 5) rfl g rfl 26 Y (0, 0) _ hbz2 Try.underlying26 rfl Q1.out ?_)
      | (with_reducible refine wpList_store_row (o := ⟨none, _, _, _, _, _⟩) rfl 26 (.tmp 2) (.tmp 139) rfl w.heap.size Y rfl rfl 26 frZ hrs Q1.out Q2.out Q3.out ?_))
    refine bodyPost_ret (results_row_tmp (p := 2) (u := 3) (ty := 26) rfl _ _ w.heap.size 26 Y (0, 0) _ rfl hw5 Try.underlying26 rfl Q1.out) rfl ?_
    exact ⟨FX, la, ll9, lc, Y, 0, HYY.out, rfl, HP.out, HT5.out, HB5.out⟩

set_option maxRecDepth 20000 in
set_option maxHeartbeats 1000000 in
theorem rget_k2 (xs : List UInt8) (sz : ByteArray) (hsz : strV xs = .string sz) (hmax : xs.length ≤ 1000) (w : World) (hn : xs.length = 27 + lenOf xs) (hs : numN ((xs.drop (23 + lenOf xs)).take 4) = addN 0 (xs.take (23 + lenOf xs))) (hk : numN (xs.take 1) = 2) :
    Calls Try.prog 13 #[.string sz] w fun e w' => DG xs w e w' := by
  have hzl : sz.size = xs.length := sd_size hsz
  have hi0 : (Try.prog.info? 26).map (·.size) = some frZ.size := by kernel_rfl
  have ho0 : frZ.all (·.oneCell') = true := by simp [frZ, Value.oneCell']
  have HI0 := Lib.hid hi0
  have HO0 := Lib.hid ho0
  have HMX := Lib.hid hmax
  have HSZ := Lib.hid hsz
  have HZL := Lib.hid hzl
  obtain ⟨W0, hW0⟩ : ∃ x, x = w.alloc (.cells frZ 26) := ⟨_, rfl⟩
  clear hi0 ho0
  obtain ⟨cc, w1, hcv, hrd1, hb1⟩ := cv_rd sz (by omega) W0
  rw [str_list hsz] at hrd1
  have hep := ep_new (by rw [← hW0]; exact hb1) hrd1
  obtain ⟨q, hq⟩ : ∃ x, x = w1.heap.size := ⟨_, rfl⟩
  obtain ⟨W2, hW2⟩ : ∃ x, x = w1.alloc (.cells #[.slice (some ⟨W0.heap.size, 0, none⟩) sz.size cc, .int .i64 0, .int .i64 0] 57) := ⟨_, rfl⟩
  rw [← hW2, ← hq] at hep
  have HW2 := Lib.hid hW2
  have HQ := Lib.hid hq
  have HN1 := Lib.hid (hep.num 1 1 rfl (by omega) (by omega) (by omega))
  obtain ⟨v1, hv1⟩ : ∃ v, v = numN (xs.take 1) := ⟨_, rfl⟩
  obtain ⟨v2, hv2⟩ : ∃ v, v = numN ((xs.drop 1).take 8) := ⟨_, rfl⟩
  obtain ⟨v3, hv3⟩ : ∃ v, v = numN ((xs.drop 9).take 8) := ⟨_, rfl⟩
  obtain ⟨v4, hv4⟩ : ∃ v, v = numN ((xs.drop 17).take 4) := ⟨_, rfl⟩
  obtain ⟨ln, hln⟩ : ∃ v, v = lenOf xs := ⟨_, rfl⟩
  have hl1 : v1 < 256 := by rw [hv1]; exact num_take_lt xs 1
  have hl4 : v4 < 4294967296 := by rw [hv4]; exact num_take_lt (xs.drop 17) 4
  have hl5 : ln < 65536 := by rw [hln]; exact lenOf_lt xs
  have z1 : IntKind.i64.wrap (v1 : Int) = (v1 : Int) := wrap_small _ (by omega) (by omega)
  have z4 : IntKind.u32.wrap (v4 : Int) = (v4 : Int) := IntWalk.u32_in _ (by omega)
  have z5 : IntKind.i64.wrap (ln : Int) = (ln : Int) := wrap_small _ (by omega) (by omega)
  have z6 : IntKind.i64.wrap (27 + (ln : Int)) = 27 + (ln : Int) := wrap_small _ (by omega) (by omega)
  have z7 : IntKind.i64.wrap (23 + (ln : Int)) = 23 + (ln : Int) := wrap_small _ (by omega) (by omega)
  rw [← hv1] at HN1
  have HV1 := Lib.hid hv1
  have HV2 := Lib.hid hv2
  have HV3 := Lib.hid hv3
  have HV4 := Lib.hid hv4
  have HLN := Lib.hid hln
  have HL5 := Lib.hid hl5
  have HN27 := Lib.hid (show 27 ≤ xs.length by omega)
  have c27 : ¬ (sz.size : Int) < 27 := by omega
  have HS := Lib.hid hs
  have HK1 := Lib.hid (show (v1 : Int) = 2 by omega)
  have HXL := Lib.hid hn
  have hkv : v1 = numN (xs.take 1) := hv1
  have hv28 : v2 < 18446744073709551616 := by rw [hv2]; exact num_take_lt (xs.drop 1) 8
  have hv38 : v3 < 18446744073709551616 := by rw [hv3]; exact num_take_lt (xs.drop 9) 8
  have HFIT := Lib.hid (And.intro hv28 (And.intro hv38 hl4))
  have qk1 : ((v1 : Int) == 1) = false := by rw [beq_eq_false_iff_ne]; omega
  have qk2 : ((v1 : Int) == 2) = true := by rw [beq_iff_eq]; omega
  have c28 : ¬ (sz.size : Int) < 27 + (ln : Int) := by omega
  have c29 : ¬ (sz.size : Int) > 27 + (ln : Int) := by omega
  have g1 : (0 : Int) ≤ 23 + (ln : Int) := by omega
  have g2 : 23 + (ln : Int) ≤ (sz.size : Int) := by omega
  have HW0 := Lib.hid hW0
  unfold frZ at HW0
  clear hrd1 hb1 hep hW2 hq hv1 hv2 hv3 hv4 hln hl1 hl4 hl5 hsz hmax hzl hW0 hn hs hkv hv28 hv38 hk
  go_enter Try.func13, Try.ntmps13
  go_upto_region 1 with fail
  rw [← HW0.out]
  go_wp2_with fail
  rw [← HW2.out, ← HQ.out]
  refine HN1.out.mono ?_
  rintro e w3 ⟨rfl, hep3⟩
  have HD4 := Lib.hid (hep3.begin ⟨(v1 : Int), 0, 0, 0, 0, 0, 0, 0, 0, [], []⟩ rfl)
  obtain ⟨g, hg⟩ : ∃ x, x = w3.heap.size := ⟨_, rfl⟩
  obtain ⟨W4, hW4⟩ : ∃ x, x = w3.alloc (.cells (frC ⟨(v1 : Int), 0, 0, 0, 0, 0, 0, 0, 0, [], []⟩ (.slice none 0 0)) 26) := ⟨_, rfl⟩
  rw [← hW4, ← hg] at HD4
  have HW4 := Lib.hid hW4
  have HGG := Lib.hid hg
  unfold frC strV at HW4
  simp only [Int.natCast_zero] at HW4
  have HN2 := Lib.hid (HD4.out.num_ok 8 8 rfl (by omega) (by omega) (by rw [List.length_drop]; have := HN27.out; omega))
  rw [← HV2.out] at HN2
  clear hep3 hW4 hg HN1 hcv
  go_wp2_with fail
  rw [← HW4.out, ← HGG.out]
  refine HN2.out.mono ?_
  rintro e wa2 ⟨rfl, hop⟩
  have c2 : wa2.cell? ⟨g, 1, none⟩ = some (.int .u64 0) := by rw [hop.cell 1]; rfl
  have fr2 : wa2.frozen? ⟨g, 1, none⟩ = false := hop.free 1
  have HOP2 := Lib.hid (hop.set 1 (.int .u64 (v2 : Int)) (f' := ⟨(v1 : Int), v2, 0, 0, 0, 0, 0, 0, 0, [], []⟩) rfl rfl)
  rw [List.drop_drop] at HOP2
  clear hop
  obtain ⟨wb2, hwb2⟩ : ∃ x, x = wa2.setCell ⟨g, 1, none⟩ (.int .u64 (v2 : Int)) := ⟨_, rfl⟩
  rw [← hwb2] at HOP2
  have HWB2 := Lib.hid hwb2
  have HN3 := Lib.hid (HOP2.out.num_ok 8 8 rfl (by omega) (by omega) (by rw [List.length_drop]; have := HN27.out; omega))
  rw [← HV3.out] at HN3
  clear hwb2
  go_wp2_with fail
  rw [← HWB2.out]
  refine HN3.out.mono ?_
  rintro e wa3 ⟨rfl, hop⟩
  have c3 : wa3.cell? ⟨g, 2, none⟩ = some (.int .u64 0) := by rw [hop.cell 2]; rfl
  have fr3 : wa3.frozen? ⟨g, 2, none⟩ = false := hop.free 2
  have HOP3 := Lib.hid (hop.set 2 (.int .u64 (v3 : Int)) (f' := ⟨(v1 : Int), v2, v3, 0, 0, 0, 0, 0, 0, [], []⟩) rfl rfl)
  rw [List.drop_drop] at HOP3
  clear hop
  obtain ⟨wb3, hwb3⟩ : ∃ x, x = wa3.setCell ⟨g, 2, none⟩ (.int .u64 (v3 : Int)) := ⟨_, rfl⟩
  rw [← hwb3] at HOP3
  have HWB3 := Lib.hid hwb3
  have HN4 := Lib.hid (HOP3.out.num_ok 4 4 rfl (by omega) (by omega) (by rw [List.length_drop]; have := HN27.out; omega))
  rw [← HV4.out] at HN4
  clear hwb3
  go_wp2_with fail
  rw [← HWB3.out]
  refine HN4.out.mono ?_
  rintro e wa4 ⟨rfl, hop⟩
  have c4 : wa4.cell? ⟨g, 3, none⟩ = some (.int .u32 0) := by rw [hop.cell 3]; rfl
  have fr4 : wa4.frozen? ⟨g, 3, none⟩ = false := hop.free 3
  have HOP4 := Lib.hid (hop.set 3 (.int .u32 (v4 : Int)) (f' := ⟨(v1 : Int), v2, v3, v4, 0, 0, 0, 0, 0, [], []⟩) rfl rfl)
  rw [List.drop_drop] at HOP4
  clear hop
  obtain ⟨wb4, hwb4⟩ : ∃ x, x = wa4.setCell ⟨g, 3, none⟩ (.int .u32 (v4 : Int)) := ⟨_, rfl⟩
  rw [← hwb4] at HOP4
  have HWB4 := Lib.hid hwb4
  have HN5 := Lib.hid (HOP4.out.num_ok 2 2 rfl (by omega) (by omega) (by rw [List.length_drop]; have := HN27.out; omega))
  rw [show numN ((xs.drop 21).take 2) = ln from HLN.out.symm] at HN5
  clear hwb4
  go_wp2_with fail
  rw [← HWB4.out]
  refine HN5.out.mono ?_
  rintro e wH ⟨rfl, hop⟩
  rw [List.drop_drop] at hop
  have HH := Lib.hid hop
  clear hop c2 c3 c4 fr2 fr3 fr4
  obtain ⟨SA, hSA⟩ : ∃ x, x = sz.extract 0 (23 + (ln : Int)).toNat := ⟨_, rfl⟩
  obtain ⟨SB, hSB⟩ : ∃ x, x = sz.extract (23 + (ln : Int)).toNat sz.size := ⟨_, rfl⟩
  have xA : sz.extract 0 (23 + (ln : Int)).toNat = SA := hSA.symm
  have xB : sz.extract (23 + (ln : Int)).toNat sz.size = SB := hSB.symm
  have e23 : (23 + (ln : Int)).toNat = 23 + lenOf xs := by rw [← HLN.out]; omega
  have hA := ext_str HSZ.out 0 (23 + (ln : Int)).toNat
  have hB := ext_str HSZ.out (23 + (ln : Int)).toNat sz.size
  rw [xA, List.drop_zero, e23] at hA
  rw [xB, List.take_of_length_le (by rw [HZL.out]; exact Nat.le_refl _), e23] at hB
  have hzA : SA.size ≤ 1000 := by rw [sd_size hA, List.length_take]; have := HMX.out; omega
  obtain ⟨ca, wK, hcv2, hrdK, hbK⟩ := cv_rd SA (by omega) wH.drew
  rw [str_list hA] at hrdK
  obtain ⟨cs, hcs⟩ : ∃ x, x = addN 0 (xs.take (23 + lenOf xs)) := ⟨_, rfl⟩
  have hcl := addN_lt 0 (xs.take (23 + lenOf xs))
  rw [← hcs] at hcl
  have wcs : IntKind.u64.wrap (cs : Int) = (cs : Int) := IntWalk.u64_in _ (by omega)
  have hsu := rsum_any _ _ _ _ wK hrdK
  rw [← hcs] at hsu
  have HSU := Lib.hid hsu
  obtain ⟨t6, ht6⟩ := str_of (enc cs 4)
  have HX6 := Lib.hid (show ∀ w, Calls Try.prog 21 #[.int .i64 4, .int .u64 (cs : Int)] w fun e w' => e = .returned (.string t6) ∧ Below w.heap.size w w' from fun w => by have h := text_any 4 cs w (by omega) (by omega) (by omega); rw [ht6] at h; exact h)
  have heq := str_eq ht6 hB
  have hd4 : (xs.drop (23 + lenOf xs)).length = 4 := by rw [List.length_drop]; have := HXL.out; omega
  have hnq : ¬ (t6 = SB) ↔ numN ((xs.drop (23 + lenOf xs)).take 4) ≠ addN 0 (xs.take (23 + lenOf xs)) := by
    rw [heq, ← hcs]
    constructor
    · intro h1 h2
      apply h1
      rw [← h2, enc_take _ _ (by omega)]
      exact List.take_of_length_le (by omega)
    · intro h1 h2
      apply h1
      rw [← h2, List.take_of_length_le (by rw [enc_length]; omega), numN_enc (by omega)]
  have HNE := Lib.hid (Classical.byContradiction fun h => (hnq.1 h) HS.out)
  have HBK := Lib.hid (show Below wH.heap.size wH wK from ((Below.refl _ _).drew).trans hbK)
  clear hSA hSB e23 hA hB hrdK hbK hcs hsu ht6 heq hd4 hnq
  go_wp2_with fail
  refine wp_region_held_drew (S := fun _ => True) (by kernel_rfl) trivial (fun hHeld => ?_)
  refine wpAnyH_take (i := 0) (oi := { dst := some 48, op := Op.move (Operand.tmp 0), type := 9, pos := "ref.go:111", after := #[], guard := none }) (v := ?_) rfl (by kernel_rfl) (by kernel_rfl) (by kernel_rfl) (fun _ _ _ h => h) (Or.inl ⟨by rfl, ?_⟩) (by assumption) ?_
  rotate_left
  · (intro w hSw; (try dsimp only at hSw); go_simp <;> with_reducible rfl)
  try simp only [Act.put, List.setIfInBounds_toArray, List.set_cons_zero, List.set_cons_succ]
  refine wpAnyH_take (i := 1) (oi := { dst := some 49, op := Op.move (Operand.tmp 6), type := 3, pos := "ref.go:111", after := #[], guard := none }) (v := ?_) rfl (by kernel_rfl) (by kernel_rfl) (by kernel_rfl) (fun _ _ _ h => h) (Or.inl ⟨by rfl, ?_⟩) (by assumption) ?_
  rotate_left
  · (intro w hSw; (try dsimp only at hSw); go_simp <;> with_reducible rfl)
  try simp only [Act.put, List.setIfInBounds_toArray, List.set_cons_zero, List.set_cons_succ]
  refine wpAnyH_take (i := 2) (oi := { dst := some 50, op := Op.binOp BinOp.add 3 (Operand.const (Value.int IntKind.i64 23)) (Operand.tmp 49) 3, type := 3, pos := "ref.go:111", after := #[{ on := 1, ground := Ground.data }], guard := none }) (v := ?_) rfl (by kernel_rfl) (by kernel_rfl) (by kernel_rfl) (fun _ _ _ h => h) (Or.inl ⟨by rfl, ?_⟩) (by assumption) ?_
  rotate_left
  · (intro w hSw; (try dsimp only at hSw); go_simp <;> with_reducible rfl)
  try simp only [Act.put, List.setIfInBounds_toArray, List.set_cons_zero, List.set_cons_succ]
  refine wpAnyH_take (i := 3) (oi := { dst := some 51, op := Op.slice 9 (Operand.tmp 48) none (some (Operand.tmp 50)) none, type := 9, pos := "ref.go:111", after := #[{ on := 0, ground := Ground.data }, { on := 2, ground := Ground.data }], guard := none }) (v := ?_) rfl (by kernel_rfl) (by kernel_rfl) (by kernel_rfl) (fun _ _ _ h => h) (Or.inl ⟨by rfl, ?_⟩) (by assumption) ?_
  rotate_left
  · (intro w hSw; (try dsimp only at hSw); go_simp <;> with_reducible rfl)
  try simp only [Act.put, List.setIfInBounds_toArray, List.set_cons_zero, List.set_cons_succ]
  refine wpAnyH_take (i := 8) (oi := { dst := some 56, op := Op.move (Operand.tmp 0), type := 9, pos := "ref.go:111", after := #[], guard := none }) (v := ?_) rfl (by kernel_rfl) (by kernel_rfl) (by kernel_rfl) (fun _ _ _ h => h) (Or.inl ⟨by rfl, ?_⟩) (by assumption) ?_
  rotate_left
  · (intro w hSw; (try dsimp only at hSw); go_simp <;> with_reducible rfl)
  try simp only [Act.put, List.setIfInBounds_toArray, List.set_cons_zero, List.set_cons_succ]
  refine wpAnyH_take (i := 9) (oi := { dst := some 57, op := Op.move (Operand.tmp 6), type := 3, pos := "ref.go:111", after := #[], guard := none }) (v := ?_) rfl (by kernel_rfl) (by kernel_rfl) (by kernel_rfl) (fun _ _ _ h => h) (Or.inl ⟨by rfl, ?_⟩) (by assumption) ?_
  rotate_left
  · (intro w hSw; (try dsimp only at hSw); go_simp <;> with_reducible rfl)
  try simp only [Act.put, List.setIfInBounds_toArray, List.set_cons_zero, List.set_cons_succ]
  refine wpAnyH_take (i := 10) (oi := { dst := some 58, op := Op.binOp BinOp.add 3 (Operand.const (Value.int IntKind.i64 23)) (Operand.tmp 57) 3, type := 3, pos := "ref.go:111", after := #[{ on := 9, ground := Ground.data }], guard := none }) (v := ?_) rfl (by kernel_rfl) (by kernel_rfl) (by kernel_rfl) (fun _ _ _ h => h) (Or.inl ⟨by rfl, ?_⟩) (by assumption) ?_
  rotate_left
  · (intro w hSw; (try dsimp only at hSw); go_simp <;> with_reducible rfl)
  try simp only [Act.put, List.setIfInBounds_toArray, List.set_cons_zero, List.set_cons_succ]
  refine wpAnyH_take (i := 11) (oi := { dst := some 59, op := Op.slice 9 (Operand.tmp 56) (some (Operand.tmp 58)) none none, type := 9, pos := "ref.go:111", after := #[{ on := 8, ground := Ground.data }, { on := 10, ground := Ground.data }], guard := none }) (v := ?_) rfl (by kernel_rfl) (by kernel_rfl) (by kernel_rfl) (fun _ _ _ h => h) (Or.inl ⟨by rfl, ?_⟩) (by assumption) ?_
  rotate_left
  · (intro w hSw; (try dsimp only at hSw); go_simp <;> with_reducible rfl)
  try simp only [Act.put, List.setIfInBounds_toArray, List.set_cons_zero, List.set_cons_succ]
  refine wpAnyH_ready (rs := [4]) (by kernel_rfl) (by simp) ?_
  refine AllReadyH.cons (o := { dst := some 52, op := Op.convert 9 29 (Operand.tmp 51), type := 29, pos := "ref.go:111", after := #[{ on := 3, ground := Ground.data }], guard := none }) rfl (fun K hK => ?_) AllReadyH.nil
  go_simp
  refine hK _ _ (trivial) (fun hHeld => ?_)
  clear hK K
  try simp only [Act.put, List.setIfInBounds_toArray, List.set_cons_zero, List.set_cons_succ]
  refine wpAnyH_ready (rs := [5]) (by kernel_rfl) (by simp) ?_
  refine AllReadyH.cons (o := { dst := some 53, op := Op.call { callee := Callee.value (Operand.func 22), args := #[Operand.tmp 52], argTypes := #[29] }, type := 23, pos := "ref.go:111", after := #[{ on := 4, ground := Ground.data }], guard := none }) rfl (fun K hK => ?_) AllReadyH.nil
  go_simp
  go_at_call 22
  refine HSU.out.mono ?_
  rintro r w5 ⟨rfl, h⟩
  obtain rfl := h
  refine hK _ _ (trivial) (fun hHeld => ?_)
  clear hK K
  try simp only [Act.put, List.setIfInBounds_toArray, List.set_cons_zero, List.set_cons_succ]
  refine wpAnyH_take (i := 6) (oi := { dst := some 54, op := Op.convert 23 22 (Operand.tmp 53), type := 22, pos := "ref.go:111", after := #[{ on := 5, ground := Ground.data }], guard := none }) (v := ?_) rfl (by kernel_rfl) (by kernel_rfl) (by kernel_rfl) (fun _ _ _ h => h) (Or.inl ⟨by rfl, ?_⟩) (by assumption) ?_
  rotate_left
  · (intro w hSw; (try dsimp only at hSw); go_simp <;> with_reducible rfl)
  try simp only [Act.put, List.setIfInBounds_toArray, List.set_cons_zero, List.set_cons_succ]
  refine wpAnyH_ready (rs := [7]) (by kernel_rfl) (by simp) ?_
  refine AllReadyH.cons (o := { dst := some 55, op := Op.call { callee := Callee.value (Operand.func 21), args := #[Operand.const (Value.int IntKind.i64 4), Operand.tmp 54], argTypes := #[3, 22] }, type := 9, pos := "ref.go:111", after := #[{ on := 6, ground := Ground.data }, { on := 5, ground := Ground.chain }], guard := none }) rfl (fun K hK => ?_) AllReadyH.nil
  go_simp
  go_at_call 21
  with_reducible refine (HX6.out _).mono ?_
  rintro r wL ⟨rfl, hbL⟩
  have HL := Lib.hid (HH.out.later (HBK.out.trans (hbL.mono HBK.out.size)))
  clear hbL
  refine hK _ _ (trivial) (fun hHeld => ?_)
  clear hK K
  try simp only [Act.put, List.setIfInBounds_toArray, List.set_cons_zero, List.set_cons_succ]
  refine wpAnyH_take (i := 12) (oi := { dst := some 60, op := Op.binOp BinOp.neq 9 (Operand.tmp 55) (Operand.tmp 59) 9, type := 4, pos := "ref.go:111", after := #[{ on := 7, ground := Ground.data }, { on := 11, ground := Ground.data }], guard := none }) (v := .bool false) rfl (by kernel_rfl) (by kernel_rfl) (by kernel_rfl) (fun _ _ _ h => h) (Or.inl ⟨by rfl, ?_⟩) (by assumption) ?_
  · intro w' hSw
    go_simp
    rw [HNE.out]
  try simp only [Act.put, List.setIfInBounds_toArray, List.set_cons_zero, List.set_cons_succ]
  refine wpAnyH_done (by kernel_rfl) ?_ _
  obtain ⟨R0, hR0⟩ : ∃ y, y = xs.drop 23 := ⟨_, rfl⟩
  have HR0 := Lib.hid hR0
  have HOQ0 := Lib.hid (show DP w wL q g (⟨(v1 : Int), v2, v3, v4, 0, 0, 0, 0, 0, [], []⟩ : FR) (.slice none 0 0) R0 0 from by rw [hR0]; exact HL.out)
  have ck0 : wL.cell? ⟨g, 0, none⟩ = some (.int .i64 (v1 : Int)) := by rw [HL.out.cell 0]; rfl
  have hhd : headOf xs = (⟨(v1 : Int), v2, v3, v4, 0, 0, 0, 0, 0, [], []⟩ : FR) := by unfold headOf; rw [← HV1.out, ← HV2.out, ← HV3.out, ← HV4.out]
  have HHD := Lib.hid hhd
  clear hR0 hhd hHeld
  obtain ⟨n1, y1, e1, hr1⟩ : ∃ v y e, rnum R0 0 1 = (v, y, e) := ⟨_, _, _, rfl⟩
  have hn1 : n1 < 256 := by have := rnum_lt R0 0 1 1 rfl; rw [hr1] at this; exact this
  have hq1 := HOQ0.out.num 1
  rw [hr1] at hq1
  have HQN1 := Lib.hid hq1
  have HRR1 := Lib.hid hr1
  have HYL1 := Lib.hid (show y1.length ≤ R0.length by have := rnum_le R0 0 1; rw [hr1] at this; exact this)
  have wq1 : IntKind.i64.wrap (n1 : Int) = (n1 : Int) := by exact wrap_small _ (by omega) (by omega)
  have HNB1 := Lib.hid hn1
  clear hq1 hr1 hn1
  go_wp2_with fail

  refine HQN1.out.mono ?_
  rintro r wx1 ⟨rfl, hop⟩
  have cq1 : wx1.cell? ⟨g, 8, none⟩ = some (.int .i64 0) := by rw [hop.cell 8]; rfl
  have fq1 : wx1.frozen? ⟨g, 8, none⟩ = false := hop.free 8
  have HOQ1 := Lib.hid (hop.set 8 (.int .i64 (n1 : Int)) (f' := (⟨(v1 : Int), v2, v3, v4, 0, 0, 0, 0, (n1 : Int), [], []⟩ : FR)) rfl rfl)
  clear hop
  obtain ⟨FX, hFX⟩ : ∃ x, x = (⟨(v1 : Int), v2, v3, v4, 0, 0, 0, 0, (n1 : Int), [], []⟩ : FR) := ⟨_, rfl⟩
  have hrf : rfr (headOf xs) (xs.drop 23) = FX := by rw [hFX]; rw [← HR0.out, HHD.out]; unfold rfr; simp only [HK1.out, HRR1.out]; rfl
  have hoq := HOQ1.out
  rw [← hFX] at hoq
  obtain ⟨la, ll9, lc, hlv, htx, hgb⟩ := hoq.tx
  have hvo : FX.vol < 4294967296 := by rw [hFX]; simp
  have hft : FX.fit := by rw [hFX]; exact ⟨HFIT.out.1, HFIT.out.2.1, HFIT.out.2.2⟩
  have hdl : FX.data.length ≤ 100000 := by rw [hFX]; simp
  have hll : ∀ k, ((FX.list.take k).flatten).length ≤ 100000 := by rw [hFX]; exact fun k => by simp
  obtain ⟨Y, hY⟩ : ∃ Y, Y = frC FX (.slice la ll9 lc) := ⟨_, rfl⟩
  have hbx := hoq.box
  rw [hlv, ← hY] at hbx
  have hfv : frV FX (.slice la ll9 lc) = .agg Y := by rw [hY]; rfl
  obtain ⟨q1, q2, q3⟩ := frc_facts FX la ll9 lc
  rw [← hY] at q1 q2 q3
  have hpt := rfput_any FX la ll9 lc (wx1.setCell ⟨g, 8, none⟩ (.int .i64 (n1 : Int))) htx hvo hft hdl hll
  rw [hfv] at hpt
  have HPT := Lib.hid hpt
  have HYY := Lib.hid hY
  have Q1 := Lib.hid q1
  have Q2 := Lib.hid q2
  have Q3 := Lib.hid q3
  have HRF := Lib.hid hrf
  have HOQ := Lib.hid hoq
  have HTX := Lib.hid htx
  have HGB := Lib.hid hgb
  clear hgb hFX hrf hoq htx hvo hft hdl hll hY hfv q1 q2 q3 hpt hlv
  by_cases hgd : good FX ∧ frameB FX = xs
  case neg =>
    have HP := Lib.hid (ref_bad HXL.out HS.out HRF.out hgd)
    have hpp : (∃ (tz : ByteArray), strV (putP FX).1 = .string tz ∧ (putP FX).2 = 6) ∨ (∃ (tz : ByteArray), strV (putP FX).1 = .string tz ∧ (putP FX).2 = 0 ∧ (tz.toList == sz.toList) = false) := by
      unfold putP
      by_cases hg2 : good FX
      · rw [if_pos hg2]
        obtain ⟨tz, htz⟩ := str_of (frameB FX)
        refine .inr ⟨tz, htz, rfl, beq_eq_false_iff_ne.2 fun h => hgd ⟨hg2, ?_⟩⟩
        exact (str_eq htz HSZ.out).1 (tolist_inj h)
      · rw [if_neg hg2]
        exact .inl ⟨_, rfl, rfl⟩
    rcases hpp with ⟨tz, h1, h2⟩ | ⟨tz, h1, h2, h3⟩
    all_goals (
      have hpt := HPT.out
      rw [h1, h2] at hpt
      have HPT2 := Lib.hid hpt
      clear hpt h1 h2 HPT hgd
      go_wp2_with (with_reducible refine wpList_load_row (o := ⟨some 127, _, _, _, _, _⟩) rfl 26 (.tmp 5) rfl g rfl 26 Y (0, 0) _ hbx Try.underlying26 rfl Q1.out ?_)
      refine HPT2.out.mono ?_
      rintro r wz ⟨rfl, hbz⟩
      have hoz := HOQ.out.later hbz
      have hrs := hoz.res
      have hw5 : (wz.setRow w.heap.size frZ).heap[w.heap.size]? = some (.cells frZ 26 (0, 0)) := setRow_heap _ _ _ frZ _ _ hrs
      have HB5 := Lib.hid (below_setRow hoz.bel (Nat.le_refl _) frZ)
      clear hoz hbz hbx
      go_wp2_with (with_reducible refine wpList_store_row (o := ⟨none, _, _, _, _, _⟩) rfl 26 (.tmp 2) (.tmp 138) rfl w.heap.size frZ rfl rfl 26 frZ hrs HI0.out rfl HO0.out ?_)
      refine bodyPost_ret (results_row_tmp (p := 2) (u := 3) (ty := 26) rfl _ _ w.heap.size 26 frZ (0, 0) _ rfl hw5 Try.underlying26 rfl HI0.out) rfl ?_
      exact dg_bad HP.out rfl HB5.out)
  case pos =>
    have HP := Lib.hid (ref_good HXL.out HS.out HRF.out hgd)
    have hpt := HPT.out
    rw [show putP FX = (frameB FX, 0) from by unfold putP; rw [if_pos hgd.1], hgd.2, HSZ.out] at hpt
    have HPT2 := Lib.hid hpt
    clear hpt HPT hgd
    go_wp2_with (with_reducible refine wpList_load_row (o := ⟨some 127, _, _, _, _, _⟩) rfl 26 (.tmp 5) rfl g rfl 26 Y (0, 0) _ hbx Try.underlying26 rfl Q1.out ?_)
    refine HPT2.out.mono ?_
    rintro r wz ⟨rfl, hbz⟩
    have hoz := HOQ.out.later hbz
    have hrs := hoz.res
    have hbz2 := (hbz.block g (lt_of_block hbx)).trans hbx
    have hw5 : (wz.setRow w.heap.size Y).heap[w.heap.size]? = some (.cells Y 26 (0, 0)) := setRow_heap _ _ _ Y _ _ hrs
    have HB5 := Lib.hid (below_setRow hoz.bel (Nat.le_refl _) Y)
    have HT5 := Lib.hid (show Tx (wz.setRow w.heap.size Y) la ll9 lc FX.list from by
      refine (HTX.out.later hbz).kept (by simp [World.setRow]) fun b off e h0 _ => setRow_other wz w.heap.size b Y ?_
      have h1 := HGB.out b off e
      have h2 := HOQ.out.fq
      have h3 := HOQ.out.fg
      omega)
    clear hoz hbz
    go_wp2_with (first
      | (with_reducible refine wpList_load_row (o := ⟨some 139, _, _, _, _, _⟩) rfl 26 (.tmp 5) rfl g rfl 26 Y (0, 0) _ hbz2 Try.underlying26 rfl Q1.out ?_)
      | (with_reducible refine wpList_store_row (o := ⟨none, _, _, _, _, _⟩) rfl 26 (.tmp 2) (.tmp 139) rfl w.heap.size Y rfl rfl 26 frZ hrs Q1.out Q2.out Q3.out ?_))
    refine bodyPost_ret (results_row_tmp (p := 2) (u := 3) (ty := 26) rfl _ _ w.heap.size 26 Y (0, 0) _ rfl hw5 Try.underlying26 rfl Q1.out) rfl ?_
    exact ⟨FX, la, ll9, lc, Y, 0, HYY.out, rfl, HP.out, HT5.out, HB5.out⟩

set_option maxRecDepth 20000 in
set_option maxHeartbeats 1000000 in
theorem rget_ke (xs : List UInt8) (sz : ByteArray) (hsz : strV xs = .string sz) (hmax : xs.length ≤ 1000) (w : World) (hn : xs.length = 27 + lenOf xs) (hs : numN ((xs.drop (23 + lenOf xs)).take 4) = addN 0 (xs.take (23 + lenOf xs))) (hk : numN (xs.take 1) ≠ 1 ∧ numN (xs.take 1) ≠ 2 ∧ numN (xs.take 1) ≠ 4 ∧ numN (xs.take 1) ≠ 6 ∧ numN (xs.take 1) ≠ 7) :
    Calls Try.prog 13 #[.string sz] w fun e w' => DG xs w e w' := by
  have hzl : sz.size = xs.length := sd_size hsz
  have hi0 : (Try.prog.info? 26).map (·.size) = some frZ.size := by kernel_rfl
  have ho0 : frZ.all (·.oneCell') = true := by simp [frZ, Value.oneCell']
  have HI0 := Lib.hid hi0
  have HO0 := Lib.hid ho0
  have HMX := Lib.hid hmax
  have HSZ := Lib.hid hsz
  have HZL := Lib.hid hzl
  obtain ⟨W0, hW0⟩ : ∃ x, x = w.alloc (.cells frZ 26) := ⟨_, rfl⟩
  clear hi0 ho0
  obtain ⟨cc, w1, hcv, hrd1, hb1⟩ := cv_rd sz (by omega) W0
  rw [str_list hsz] at hrd1
  have hep := ep_new (by rw [← hW0]; exact hb1) hrd1
  obtain ⟨q, hq⟩ : ∃ x, x = w1.heap.size := ⟨_, rfl⟩
  obtain ⟨W2, hW2⟩ : ∃ x, x = w1.alloc (.cells #[.slice (some ⟨W0.heap.size, 0, none⟩) sz.size cc, .int .i64 0, .int .i64 0] 57) := ⟨_, rfl⟩
  rw [← hW2, ← hq] at hep
  have HW2 := Lib.hid hW2
  have HQ := Lib.hid hq
  have HN1 := Lib.hid (hep.num 1 1 rfl (by omega) (by omega) (by omega))
  obtain ⟨v1, hv1⟩ : ∃ v, v = numN (xs.take 1) := ⟨_, rfl⟩
  obtain ⟨v2, hv2⟩ : ∃ v, v = numN ((xs.drop 1).take 8) := ⟨_, rfl⟩
  obtain ⟨v3, hv3⟩ : ∃ v, v = numN ((xs.drop 9).take 8) := ⟨_, rfl⟩
  obtain ⟨v4, hv4⟩ : ∃ v, v = numN ((xs.drop 17).take 4) := ⟨_, rfl⟩
  obtain ⟨ln, hln⟩ : ∃ v, v = lenOf xs := ⟨_, rfl⟩
  have hl1 : v1 < 256 := by rw [hv1]; exact num_take_lt xs 1
  have hl4 : v4 < 4294967296 := by rw [hv4]; exact num_take_lt (xs.drop 17) 4
  have hl5 : ln < 65536 := by rw [hln]; exact lenOf_lt xs
  have z1 : IntKind.i64.wrap (v1 : Int) = (v1 : Int) := wrap_small _ (by omega) (by omega)
  have z4 : IntKind.u32.wrap (v4 : Int) = (v4 : Int) := IntWalk.u32_in _ (by omega)
  have z5 : IntKind.i64.wrap (ln : Int) = (ln : Int) := wrap_small _ (by omega) (by omega)
  have z6 : IntKind.i64.wrap (27 + (ln : Int)) = 27 + (ln : Int) := wrap_small _ (by omega) (by omega)
  have z7 : IntKind.i64.wrap (23 + (ln : Int)) = 23 + (ln : Int) := wrap_small _ (by omega) (by omega)
  rw [← hv1] at HN1
  have HV1 := Lib.hid hv1
  have HV2 := Lib.hid hv2
  have HV3 := Lib.hid hv3
  have HV4 := Lib.hid hv4
  have HLN := Lib.hid hln
  have HL5 := Lib.hid hl5
  have HN27 := Lib.hid (show 27 ≤ xs.length by omega)
  have c27 : ¬ (sz.size : Int) < 27 := by omega
  have HS := Lib.hid hs
  have HKE := Lib.hid (show (v1 : Int) ≠ 1 ∧ (v1 : Int) ≠ 2 ∧ (v1 : Int) ≠ 4 ∧ (v1 : Int) ≠ 6 ∧ (v1 : Int) ≠ 7 by omega)
  have HXL := Lib.hid hn
  have hkv : v1 = numN (xs.take 1) := hv1
  have hv28 : v2 < 18446744073709551616 := by rw [hv2]; exact num_take_lt (xs.drop 1) 8
  have hv38 : v3 < 18446744073709551616 := by rw [hv3]; exact num_take_lt (xs.drop 9) 8
  have HFIT := Lib.hid (And.intro hv28 (And.intro hv38 hl4))
  have qk1 : ((v1 : Int) == 1) = false := by rw [beq_eq_false_iff_ne]; omega
  have qk2 : ((v1 : Int) == 2) = false := by rw [beq_eq_false_iff_ne]; omega
  have qk4 : ((v1 : Int) == 4) = false := by rw [beq_eq_false_iff_ne]; omega
  have qk6 : ((v1 : Int) == 6) = false := by rw [beq_eq_false_iff_ne]; omega
  have qk7 : ((v1 : Int) == 7) = false := by rw [beq_eq_false_iff_ne]; omega
  have c28 : ¬ (sz.size : Int) < 27 + (ln : Int) := by omega
  have c29 : ¬ (sz.size : Int) > 27 + (ln : Int) := by omega
  have g1 : (0 : Int) ≤ 23 + (ln : Int) := by omega
  have g2 : 23 + (ln : Int) ≤ (sz.size : Int) := by omega
  have HW0 := Lib.hid hW0
  unfold frZ at HW0
  clear hrd1 hb1 hep hW2 hq hv1 hv2 hv3 hv4 hln hl1 hl4 hl5 hsz hmax hzl hW0 hn hs hkv hv28 hv38 hk
  go_enter Try.func13, Try.ntmps13
  go_upto_region 1 with fail
  rw [← HW0.out]
  go_wp2_with fail
  rw [← HW2.out, ← HQ.out]
  refine HN1.out.mono ?_
  rintro e w3 ⟨rfl, hep3⟩
  have HD4 := Lib.hid (hep3.begin ⟨(v1 : Int), 0, 0, 0, 0, 0, 0, 0, 0, [], []⟩ rfl)
  obtain ⟨g, hg⟩ : ∃ x, x = w3.heap.size := ⟨_, rfl⟩
  obtain ⟨W4, hW4⟩ : ∃ x, x = w3.alloc (.cells (frC ⟨(v1 : Int), 0, 0, 0, 0, 0, 0, 0, 0, [], []⟩ (.slice none 0 0)) 26) := ⟨_, rfl⟩
  rw [← hW4, ← hg] at HD4
  have HW4 := Lib.hid hW4
  have HGG := Lib.hid hg
  unfold frC strV at HW4
  simp only [Int.natCast_zero] at HW4
  have HN2 := Lib.hid (HD4.out.num_ok 8 8 rfl (by omega) (by omega) (by rw [List.length_drop]; have := HN27.out; omega))
  rw [← HV2.out] at HN2
  clear hep3 hW4 hg HN1 hcv
  go_wp2_with fail
  rw [← HW4.out, ← HGG.out]
  refine HN2.out.mono ?_
  rintro e wa2 ⟨rfl, hop⟩
  have c2 : wa2.cell? ⟨g, 1, none⟩ = some (.int .u64 0) := by rw [hop.cell 1]; rfl
  have fr2 : wa2.frozen? ⟨g, 1, none⟩ = false := hop.free 1
  have HOP2 := Lib.hid (hop.set 1 (.int .u64 (v2 : Int)) (f' := ⟨(v1 : Int), v2, 0, 0, 0, 0, 0, 0, 0, [], []⟩) rfl rfl)
  rw [List.drop_drop] at HOP2
  clear hop
  obtain ⟨wb2, hwb2⟩ : ∃ x, x = wa2.setCell ⟨g, 1, none⟩ (.int .u64 (v2 : Int)) := ⟨_, rfl⟩
  rw [← hwb2] at HOP2
  have HWB2 := Lib.hid hwb2
  have HN3 := Lib.hid (HOP2.out.num_ok 8 8 rfl (by omega) (by omega) (by rw [List.length_drop]; have := HN27.out; omega))
  rw [← HV3.out] at HN3
  clear hwb2
  go_wp2_with fail
  rw [← HWB2.out]
  refine HN3.out.mono ?_
  rintro e wa3 ⟨rfl, hop⟩
  have c3 : wa3.cell? ⟨g, 2, none⟩ = some (.int .u64 0) := by rw [hop.cell 2]; rfl
  have fr3 : wa3.frozen? ⟨g, 2, none⟩ = false := hop.free 2
  have HOP3 := Lib.hid (hop.set 2 (.int .u64 (v3 : Int)) (f' := ⟨(v1 : Int), v2, v3, 0, 0, 0, 0, 0, 0, [], []⟩) rfl rfl)
  rw [List.drop_drop] at HOP3
  clear hop
  obtain ⟨wb3, hwb3⟩ : ∃ x, x = wa3.setCell ⟨g, 2, none⟩ (.int .u64 (v3 : Int)) := ⟨_, rfl⟩
  rw [← hwb3] at HOP3
  have HWB3 := Lib.hid hwb3
  have HN4 := Lib.hid (HOP3.out.num_ok 4 4 rfl (by omega) (by omega) (by rw [List.length_drop]; have := HN27.out; omega))
  rw [← HV4.out] at HN4
  clear hwb3
  go_wp2_with fail
  rw [← HWB3.out]
  refine HN4.out.mono ?_
  rintro e wa4 ⟨rfl, hop⟩
  have c4 : wa4.cell? ⟨g, 3, none⟩ = some (.int .u32 0) := by rw [hop.cell 3]; rfl
  have fr4 : wa4.frozen? ⟨g, 3, none⟩ = false := hop.free 3
  have HOP4 := Lib.hid (hop.set 3 (.int .u32 (v4 : Int)) (f' := ⟨(v1 : Int), v2, v3, v4, 0, 0, 0, 0, 0, [], []⟩) rfl rfl)
  rw [List.drop_drop] at HOP4
  clear hop
  obtain ⟨wb4, hwb4⟩ : ∃ x, x = wa4.setCell ⟨g, 3, none⟩ (.int .u32 (v4 : Int)) := ⟨_, rfl⟩
  rw [← hwb4] at HOP4
  have HWB4 := Lib.hid hwb4
  have HN5 := Lib.hid (HOP4.out.num_ok 2 2 rfl (by omega) (by omega) (by rw [List.length_drop]; have := HN27.out; omega))
  rw [show numN ((xs.drop 21).take 2) = ln from HLN.out.symm] at HN5
  clear hwb4
  go_wp2_with fail
  rw [← HWB4.out]
  refine HN5.out.mono ?_
  rintro e wH ⟨rfl, hop⟩
  rw [List.drop_drop] at hop
  have HH := Lib.hid hop
  clear hop c2 c3 c4 fr2 fr3 fr4
  obtain ⟨SA, hSA⟩ : ∃ x, x = sz.extract 0 (23 + (ln : Int)).toNat := ⟨_, rfl⟩
  obtain ⟨SB, hSB⟩ : ∃ x, x = sz.extract (23 + (ln : Int)).toNat sz.size := ⟨_, rfl⟩
  have xA : sz.extract 0 (23 + (ln : Int)).toNat = SA := hSA.symm
  have xB : sz.extract (23 + (ln : Int)).toNat sz.size = SB := hSB.symm
  have e23 : (23 + (ln : Int)).toNat = 23 + lenOf xs := by rw [← HLN.out]; omega
  have hA := ext_str HSZ.out 0 (23 + (ln : Int)).toNat
  have hB := ext_str HSZ.out (23 + (ln : Int)).toNat sz.size
  rw [xA, List.drop_zero, e23] at hA
  rw [xB, List.take_of_length_le (by rw [HZL.out]; exact Nat.le_refl _), e23] at hB
  have hzA : SA.size ≤ 1000 := by rw [sd_size hA, List.length_take]; have := HMX.out; omega
  obtain ⟨ca, wK, hcv2, hrdK, hbK⟩ := cv_rd SA (by omega) wH.drew
  rw [str_list hA] at hrdK
  obtain ⟨cs, hcs⟩ : ∃ x, x = addN 0 (xs.take (23 + lenOf xs)) := ⟨_, rfl⟩
  have hcl := addN_lt 0 (xs.take (23 + lenOf xs))
  rw [← hcs] at hcl
  have wcs : IntKind.u64.wrap (cs : Int) = (cs : Int) := IntWalk.u64_in _ (by omega)
  have hsu := rsum_any _ _ _ _ wK hrdK
  rw [← hcs] at hsu
  have HSU := Lib.hid hsu
  obtain ⟨t6, ht6⟩ := str_of (enc cs 4)
  have HX6 := Lib.hid (show ∀ w, Calls Try.prog 21 #[.int .i64 4, .int .u64 (cs : Int)] w fun e w' => e = .returned (.string t6) ∧ Below w.heap.size w w' from fun w => by have h := text_any 4 cs w (by omega) (by omega) (by omega); rw [ht6] at h; exact h)
  have heq := str_eq ht6 hB
  have hd4 : (xs.drop (23 + lenOf xs)).length = 4 := by rw [List.length_drop]; have := HXL.out; omega
  have hnq : ¬ (t6 = SB) ↔ numN ((xs.drop (23 + lenOf xs)).take 4) ≠ addN 0 (xs.take (23 + lenOf xs)) := by
    rw [heq, ← hcs]
    constructor
    · intro h1 h2
      apply h1
      rw [← h2, enc_take _ _ (by omega)]
      exact List.take_of_length_le (by omega)
    · intro h1 h2
      apply h1
      rw [← h2, List.take_of_length_le (by rw [enc_length]; omega), numN_enc (by omega)]
  have HNE := Lib.hid (Classical.byContradiction fun h => (hnq.1 h) HS.out)
  have HBK := Lib.hid (show Below wH.heap.size wH wK from ((Below.refl _ _).drew).trans hbK)
  clear hSA hSB e23 hA hB hrdK hbK hcs hsu ht6 heq hd4 hnq
  go_wp2_with fail
  refine wp_region_held_drew (S := fun _ => True) (by kernel_rfl) trivial (fun hHeld => ?_)
  refine wpAnyH_take (i := 0) (oi := { dst := some 48, op := Op.move (Operand.tmp 0), type := 9, pos := "ref.go:111", after := #[], guard := none }) (v := ?_) rfl (by kernel_rfl) (by kernel_rfl) (by kernel_rfl) (fun _ _ _ h => h) (Or.inl ⟨by rfl, ?_⟩) (by assumption) ?_
  rotate_left
  · (intro w hSw; (try dsimp only at hSw); go_simp <;> with_reducible rfl)
  try simp only [Act.put, List.setIfInBounds_toArray, List.set_cons_zero, List.set_cons_succ]
  refine wpAnyH_take (i := 1) (oi := { dst := some 49, op := Op.move (Operand.tmp 6), type := 3, pos := "ref.go:111", after := #[], guard := none }) (v := ?_) rfl (by kernel_rfl) (by kernel_rfl) (by kernel_rfl) (fun _ _ _ h => h) (Or.inl ⟨by rfl, ?_⟩) (by assumption) ?_
  rotate_left
  · (intro w hSw; (try dsimp only at hSw); go_simp <;> with_reducible rfl)
  try simp only [Act.put, List.setIfInBounds_toArray, List.set_cons_zero, List.set_cons_succ]
  refine wpAnyH_take (i := 2) (oi := { dst := some 50, op := Op.binOp BinOp.add 3 (Operand.const (Value.int IntKind.i64 23)) (Operand.tmp 49) 3, type := 3, pos := "ref.go:111", after := #[{ on := 1, ground := Ground.data }], guard := none }) (v := ?_) rfl (by kernel_rfl) (by kernel_rfl) (by kernel_rfl) (fun _ _ _ h => h) (Or.inl ⟨by rfl, ?_⟩) (by assumption) ?_
  rotate_left
  · (intro w hSw; (try dsimp only at hSw); go_simp <;> with_reducible rfl)
  try simp only [Act.put, List.setIfInBounds_toArray, List.set_cons_zero, List.set_cons_succ]
  refine wpAnyH_take (i := 3) (oi := { dst := some 51, op := Op.slice 9 (Operand.tmp 48) none (some (Operand.tmp 50)) none, type := 9, pos := "ref.go:111", after := #[{ on := 0, ground := Ground.data }, { on := 2, ground := Ground.data }], guard := none }) (v := ?_) rfl (by kernel_rfl) (by kernel_rfl) (by kernel_rfl) (fun _ _ _ h => h) (Or.inl ⟨by rfl, ?_⟩) (by assumption) ?_
  rotate_left
  · (intro w hSw; (try dsimp only at hSw); go_simp <;> with_reducible rfl)
  try simp only [Act.put, List.setIfInBounds_toArray, List.set_cons_zero, List.set_cons_succ]
  refine wpAnyH_take (i := 8) (oi := { dst := some 56, op := Op.move (Operand.tmp 0), type := 9, pos := "ref.go:111", after := #[], guard := none }) (v := ?_) rfl (by kernel_rfl) (by kernel_rfl) (by kernel_rfl) (fun _ _ _ h => h) (Or.inl ⟨by rfl, ?_⟩) (by assumption) ?_
  rotate_left
  · (intro w hSw; (try dsimp only at hSw); go_simp <;> with_reducible rfl)
  try simp only [Act.put, List.setIfInBounds_toArray, List.set_cons_zero, List.set_cons_succ]
  refine wpAnyH_take (i := 9) (oi := { dst := some 57, op := Op.move (Operand.tmp 6), type := 3, pos := "ref.go:111", after := #[], guard := none }) (v := ?_) rfl (by kernel_rfl) (by kernel_rfl) (by kernel_rfl) (fun _ _ _ h => h) (Or.inl ⟨by rfl, ?_⟩) (by assumption) ?_
  rotate_left
  · (intro w hSw; (try dsimp only at hSw); go_simp <;> with_reducible rfl)
  try simp only [Act.put, List.setIfInBounds_toArray, List.set_cons_zero, List.set_cons_succ]
  refine wpAnyH_take (i := 10) (oi := { dst := some 58, op := Op.binOp BinOp.add 3 (Operand.const (Value.int IntKind.i64 23)) (Operand.tmp 57) 3, type := 3, pos := "ref.go:111", after := #[{ on := 9, ground := Ground.data }], guard := none }) (v := ?_) rfl (by kernel_rfl) (by kernel_rfl) (by kernel_rfl) (fun _ _ _ h => h) (Or.inl ⟨by rfl, ?_⟩) (by assumption) ?_
  rotate_left
  · (intro w hSw; (try dsimp only at hSw); go_simp <;> with_reducible rfl)
  try simp only [Act.put, List.setIfInBounds_toArray, List.set_cons_zero, List.set_cons_succ]
  refine wpAnyH_take (i := 11) (oi := { dst := some 59, op := Op.slice 9 (Operand.tmp 56) (some (Operand.tmp 58)) none none, type := 9, pos := "ref.go:111", after := #[{ on := 8, ground := Ground.data }, { on := 10, ground := Ground.data }], guard := none }) (v := ?_) rfl (by kernel_rfl) (by kernel_rfl) (by kernel_rfl) (fun _ _ _ h => h) (Or.inl ⟨by rfl, ?_⟩) (by assumption) ?_
  rotate_left
  · (intro w hSw; (try dsimp only at hSw); go_simp <;> with_reducible rfl)
  try simp only [Act.put, List.setIfInBounds_toArray, List.set_cons_zero, List.set_cons_succ]
  refine wpAnyH_ready (rs := [4]) (by kernel_rfl) (by simp) ?_
  refine AllReadyH.cons (o := { dst := some 52, op := Op.convert 9 29 (Operand.tmp 51), type := 29, pos := "ref.go:111", after := #[{ on := 3, ground := Ground.data }], guard := none }) rfl (fun K hK => ?_) AllReadyH.nil
  go_simp
  refine hK _ _ (trivial) (fun hHeld => ?_)
  clear hK K
  try simp only [Act.put, List.setIfInBounds_toArray, List.set_cons_zero, List.set_cons_succ]
  refine wpAnyH_ready (rs := [5]) (by kernel_rfl) (by simp) ?_
  refine AllReadyH.cons (o := { dst := some 53, op := Op.call { callee := Callee.value (Operand.func 22), args := #[Operand.tmp 52], argTypes := #[29] }, type := 23, pos := "ref.go:111", after := #[{ on := 4, ground := Ground.data }], guard := none }) rfl (fun K hK => ?_) AllReadyH.nil
  go_simp
  go_at_call 22
  refine HSU.out.mono ?_
  rintro r w5 ⟨rfl, h⟩
  obtain rfl := h
  refine hK _ _ (trivial) (fun hHeld => ?_)
  clear hK K
  try simp only [Act.put, List.setIfInBounds_toArray, List.set_cons_zero, List.set_cons_succ]
  refine wpAnyH_take (i := 6) (oi := { dst := some 54, op := Op.convert 23 22 (Operand.tmp 53), type := 22, pos := "ref.go:111", after := #[{ on := 5, ground := Ground.data }], guard := none }) (v := ?_) rfl (by kernel_rfl) (by kernel_rfl) (by kernel_rfl) (fun _ _ _ h => h) (Or.inl ⟨by rfl, ?_⟩) (by assumption) ?_
  rotate_left
  · (intro w hSw; (try dsimp only at hSw); go_simp <;> with_reducible rfl)
  try simp only [Act.put, List.setIfInBounds_toArray, List.set_cons_zero, List.set_cons_succ]
  refine wpAnyH_ready (rs := [7]) (by kernel_rfl) (by simp) ?_
  refine AllReadyH.cons (o := { dst := some 55, op := Op.call { callee := Callee.value (Operand.func 21), args := #[Operand.const (Value.int IntKind.i64 4), Operand.tmp 54], argTypes := #[3, 22] }, type := 9, pos := "ref.go:111", after := #[{ on := 6, ground := Ground.data }, { on := 5, ground := Ground.chain }], guard := none }) rfl (fun K hK => ?_) AllReadyH.nil
  go_simp
  go_at_call 21
  with_reducible refine (HX6.out _).mono ?_
  rintro r wL ⟨rfl, hbL⟩
  have HL := Lib.hid (HH.out.later (HBK.out.trans (hbL.mono HBK.out.size)))
  clear hbL
  refine hK _ _ (trivial) (fun hHeld => ?_)
  clear hK K
  try simp only [Act.put, List.setIfInBounds_toArray, List.set_cons_zero, List.set_cons_succ]
  refine wpAnyH_take (i := 12) (oi := { dst := some 60, op := Op.binOp BinOp.neq 9 (Operand.tmp 55) (Operand.tmp 59) 9, type := 4, pos := "ref.go:111", after := #[{ on := 7, ground := Ground.data }, { on := 11, ground := Ground.data }], guard := none }) (v := .bool false) rfl (by kernel_rfl) (by kernel_rfl) (by kernel_rfl) (fun _ _ _ h => h) (Or.inl ⟨by rfl, ?_⟩) (by assumption) ?_
  · intro w' hSw
    go_simp
    rw [HNE.out]
  try simp only [Act.put, List.setIfInBounds_toArray, List.set_cons_zero, List.set_cons_succ]
  refine wpAnyH_done (by kernel_rfl) ?_ _
  obtain ⟨R0, hR0⟩ : ∃ y, y = xs.drop 23 := ⟨_, rfl⟩
  have HR0 := Lib.hid hR0
  have HOQ0 := Lib.hid (show DP w wL q g (⟨(v1 : Int), v2, v3, v4, 0, 0, 0, 0, 0, [], []⟩ : FR) (.slice none 0 0) R0 0 from by rw [hR0]; exact HL.out)
  have ck0 : wL.cell? ⟨g, 0, none⟩ = some (.int .i64 (v1 : Int)) := by rw [HL.out.cell 0]; rfl
  have hhd : headOf xs = (⟨(v1 : Int), v2, v3, v4, 0, 0, 0, 0, 0, [], []⟩ : FR) := by unfold headOf; rw [← HV1.out, ← HV2.out, ← HV3.out, ← HV4.out]
  have HHD := Lib.hid hhd
  clear hR0 hhd hHeld
  obtain ⟨n1, y1, e1, hr1⟩ : ∃ v y e, rnum R0 0 2 = (v, y, e) := ⟨_, _, _, rfl⟩
  have hn1 : n1 < 65536 := by have := rnum_lt R0 0 2 2 rfl; rw [hr1] at this; exact this
  have hq1 := HOQ0.out.num 2
  rw [hr1] at hq1
  have HQN1 := Lib.hid hq1
  have HRR1 := Lib.hid hr1
  have HYL1 := Lib.hid (show y1.length ≤ R0.length by have := rnum_le R0 0 2; rw [hr1] at this; exact this)
  have wq1 : IntKind.i64.wrap (n1 : Int) = (n1 : Int) := by exact wrap_small _ (by omega) (by omega)
  have HNB1 := Lib.hid hn1
  clear hq1 hr1 hn1
  go_wp2_with fail

  refine HQN1.out.mono ?_
  rintro r wx1 ⟨rfl, hop⟩
  have cq1 : wx1.cell? ⟨g, 7, none⟩ = some (.int .i64 0) := by rw [hop.cell 7]; rfl
  have fq1 : wx1.frozen? ⟨g, 7, none⟩ = false := hop.free 7
  have HOQ1 := Lib.hid (hop.set 7 (.int .i64 (n1 : Int)) (f' := (⟨(v1 : Int), v2, v3, v4, 0, 0, 0, (n1 : Int), 0, [], []⟩ : FR)) rfl rfl)
  clear hop
  obtain ⟨FX, hFX⟩ : ∃ x, x = (⟨(v1 : Int), v2, v3, v4, 0, 0, 0, (n1 : Int), 0, [], []⟩ : FR) := ⟨_, rfl⟩
  have hrf : rfr (headOf xs) (xs.drop 23) = FX := by rw [hFX]; rw [← HR0.out, HHD.out]; unfold rfr; dsimp only; rw [if_neg HKE.out.1, if_neg HKE.out.2.1, if_neg HKE.out.2.2.1, if_neg HKE.out.2.2.2.1, if_neg HKE.out.2.2.2.2]; simp only [HRR1.out]
  have hoq := HOQ1.out
  rw [← hFX] at hoq
  obtain ⟨la, ll9, lc, hlv, htx, hgb⟩ := hoq.tx
  have hvo : FX.vol < 4294967296 := by rw [hFX]; simp
  have hft : FX.fit := by rw [hFX]; exact ⟨HFIT.out.1, HFIT.out.2.1, HFIT.out.2.2⟩
  have hdl : FX.data.length ≤ 100000 := by rw [hFX]; simp
  have hll : ∀ k, ((FX.list.take k).flatten).length ≤ 100000 := by rw [hFX]; exact fun k => by simp
  obtain ⟨Y, hY⟩ : ∃ Y, Y = frC FX (.slice la ll9 lc) := ⟨_, rfl⟩
  have hbx := hoq.box
  rw [hlv, ← hY] at hbx
  have hfv : frV FX (.slice la ll9 lc) = .agg Y := by rw [hY]; rfl
  obtain ⟨q1, q2, q3⟩ := frc_facts FX la ll9 lc
  rw [← hY] at q1 q2 q3
  have hpt := rfput_any FX la ll9 lc (wx1.setCell ⟨g, 7, none⟩ (.int .i64 (n1 : Int))) htx hvo hft hdl hll
  rw [hfv] at hpt
  have HPT := Lib.hid hpt
  have HYY := Lib.hid hY
  have Q1 := Lib.hid q1
  have Q2 := Lib.hid q2
  have Q3 := Lib.hid q3
  have HRF := Lib.hid hrf
  have HOQ := Lib.hid hoq
  have HTX := Lib.hid htx
  have HGB := Lib.hid hgb
  clear hgb hFX hrf hoq htx hvo hft hdl hll hY hfv q1 q2 q3 hpt hlv
  by_cases hgd : good FX ∧ frameB FX = xs
  case neg =>
    have HP := Lib.hid (ref_bad HXL.out HS.out HRF.out hgd)
    have hpp : (∃ (tz : ByteArray), strV (putP FX).1 = .string tz ∧ (putP FX).2 = 6) ∨ (∃ (tz : ByteArray), strV (putP FX).1 = .string tz ∧ (putP FX).2 = 0 ∧ (tz.toList == sz.toList) = false) := by
      unfold putP
      by_cases hg2 : good FX
      · rw [if_pos hg2]
        obtain ⟨tz, htz⟩ := str_of (frameB FX)
        refine .inr ⟨tz, htz, rfl, beq_eq_false_iff_ne.2 fun h => hgd ⟨hg2, ?_⟩⟩
        exact (str_eq htz HSZ.out).1 (tolist_inj h)
      · rw [if_neg hg2]
        exact .inl ⟨_, rfl, rfl⟩
    rcases hpp with ⟨tz, h1, h2⟩ | ⟨tz, h1, h2, h3⟩
    all_goals (
      have hpt := HPT.out
      rw [h1, h2] at hpt
      have HPT2 := Lib.hid hpt
      clear hpt h1 h2 HPT hgd
      go_wp2_with (with_reducible refine wpList_load_row (o := ⟨some 127, _, _, _, _, _⟩) rfl 26 (.tmp 5) rfl g rfl 26 Y (0, 0) _ hbx Try.underlying26 rfl Q1.out ?_)
      refine HPT2.out.mono ?_
      rintro r wz ⟨rfl, hbz⟩
      have hoz := HOQ.out.later hbz
      have hrs := hoz.res
      have hw5 : (wz.setRow w.heap.size frZ).heap[w.heap.size]? = some (.cells frZ 26 (0, 0)) := setRow_heap _ _ _ frZ _ _ hrs
      have HB5 := Lib.hid (below_setRow hoz.bel (Nat.le_refl _) frZ)
      clear hoz hbz hbx
      go_wp2_with (with_reducible refine wpList_store_row (o := ⟨none, _, _, _, _, _⟩) rfl 26 (.tmp 2) (.tmp 138) rfl w.heap.size frZ rfl rfl 26 frZ hrs HI0.out rfl HO0.out ?_)
      refine bodyPost_ret (results_row_tmp (p := 2) (u := 3) (ty := 26) rfl _ _ w.heap.size 26 frZ (0, 0) _ rfl hw5 Try.underlying26 rfl HI0.out) rfl ?_
      exact dg_bad HP.out rfl HB5.out)
  case pos =>
    have HP := Lib.hid (ref_good HXL.out HS.out HRF.out hgd)
    have hpt := HPT.out
    rw [show putP FX = (frameB FX, 0) from by unfold putP; rw [if_pos hgd.1], hgd.2, HSZ.out] at hpt
    have HPT2 := Lib.hid hpt
    clear hpt HPT hgd
    go_wp2_with (with_reducible refine wpList_load_row (o := ⟨some 127, _, _, _, _, _⟩) rfl 26 (.tmp 5) rfl g rfl 26 Y (0, 0) _ hbx Try.underlying26 rfl Q1.out ?_)
    refine HPT2.out.mono ?_
    rintro r wz ⟨rfl, hbz⟩
    have hoz := HOQ.out.later hbz
    have hrs := hoz.res
    have hbz2 := (hbz.block g (lt_of_block hbx)).trans hbx
    have hw5 : (wz.setRow w.heap.size Y).heap[w.heap.size]? = some (.cells Y 26 (0, 0)) := setRow_heap _ _ _ Y _ _ hrs
    have HB5 := Lib.hid (below_setRow hoz.bel (Nat.le_refl _) Y)
    have HT5 := Lib.hid (show Tx (wz.setRow w.heap.size Y) la ll9 lc FX.list from by
      refine (HTX.out.later hbz).kept (by simp [World.setRow]) fun b off e h0 _ => setRow_other wz w.heap.size b Y ?_
      have h1 := HGB.out b off e
      have h2 := HOQ.out.fq
      have h3 := HOQ.out.fg
      omega)
    clear hoz hbz
    go_wp2_with (first
      | (with_reducible refine wpList_load_row (o := ⟨some 139, _, _, _, _, _⟩) rfl 26 (.tmp 5) rfl g rfl 26 Y (0, 0) _ hbz2 Try.underlying26 rfl Q1.out ?_)
      | (with_reducible refine wpList_store_row (o := ⟨none, _, _, _, _, _⟩) rfl 26 (.tmp 2) (.tmp 139) rfl w.heap.size Y rfl rfl 26 frZ hrs Q1.out Q2.out Q3.out ?_))
    refine bodyPost_ret (results_row_tmp (p := 2) (u := 3) (ty := 26) rfl _ _ w.heap.size 26 Y (0, 0) _ rfl hw5 Try.underlying26 rfl Q1.out) rfl ?_
    exact ⟨FX, la, ll9, lc, Y, 0, HYY.out, rfl, HP.out, HT5.out, HB5.out⟩

set_option maxRecDepth 20000 in
set_option maxHeartbeats 1000000 in
theorem rget_k6 (xs : List UInt8) (sz : ByteArray) (hsz : strV xs = .string sz) (hmax : xs.length ≤ 1000) (w : World) (hn : xs.length = 27 + lenOf xs) (hs : numN ((xs.drop (23 + lenOf xs)).take 4) = addN 0 (xs.take (23 + lenOf xs))) (hk : numN (xs.take 1) = 6) :
    Calls Try.prog 13 #[.string sz] w fun e w' => DG xs w e w' := by
  have hzl : sz.size = xs.length := sd_size hsz
  have hi0 : (Try.prog.info? 26).map (·.size) = some frZ.size := by kernel_rfl
  have ho0 : frZ.all (·.oneCell') = true := by simp [frZ, Value.oneCell']
  have HI0 := Lib.hid hi0
  have HO0 := Lib.hid ho0
  have HMX := Lib.hid hmax
  have HSZ := Lib.hid hsz
  have HZL := Lib.hid hzl
  obtain ⟨W0, hW0⟩ : ∃ x, x = w.alloc (.cells frZ 26) := ⟨_, rfl⟩
  clear hi0 ho0
  obtain ⟨cc, w1, hcv, hrd1, hb1⟩ := cv_rd sz (by omega) W0
  rw [str_list hsz] at hrd1
  have hep := ep_new (by rw [← hW0]; exact hb1) hrd1
  obtain ⟨q, hq⟩ : ∃ x, x = w1.heap.size := ⟨_, rfl⟩
  obtain ⟨W2, hW2⟩ : ∃ x, x = w1.alloc (.cells #[.slice (some ⟨W0.heap.size, 0, none⟩) sz.size cc, .int .i64 0, .int .i64 0] 57) := ⟨_, rfl⟩
  rw [← hW2, ← hq] at hep
  have HW2 := Lib.hid hW2
  have HQ := Lib.hid hq
  have HN1 := Lib.hid (hep.num 1 1 rfl (by omega) (by omega) (by omega))
  obtain ⟨v1, hv1⟩ : ∃ v, v = numN (xs.take 1) := ⟨_, rfl⟩
  obtain ⟨v2, hv2⟩ : ∃ v, v = numN ((xs.drop 1).take 8) := ⟨_, rfl⟩
  obtain ⟨v3, hv3⟩ : ∃ v, v = numN ((xs.drop 9).take 8) := ⟨_, rfl⟩
  obtain ⟨v4, hv4⟩ : ∃ v, v = numN ((xs.drop 17).take 4) := ⟨_, rfl⟩
  obtain ⟨ln, hln⟩ : ∃ v, v = lenOf xs := ⟨_, rfl⟩
  have hl1 : v1 < 256 := by rw [hv1]; exact num_take_lt xs 1
  have hl4 : v4 < 4294967296 := by rw [hv4]; exact num_take_lt (xs.drop 17) 4
  have hl5 : ln < 65536 := by rw [hln]; exact lenOf_lt xs
  have z1 : IntKind.i64.wrap (v1 : Int) = (v1 : Int) := wrap_small _ (by omega) (by omega)
  have z4 : IntKind.u32.wrap (v4 : Int) = (v4 : Int) := IntWalk.u32_in _ (by omega)
  have z5 : IntKind.i64.wrap (ln : Int) = (ln : Int) := wrap_small _ (by omega) (by omega)
  have z6 : IntKind.i64.wrap (27 + (ln : Int)) = 27 + (ln : Int) := wrap_small _ (by omega) (by omega)
  have z7 : IntKind.i64.wrap (23 + (ln : Int)) = 23 + (ln : Int) := wrap_small _ (by omega) (by omega)
  rw [← hv1] at HN1
  have HV1 := Lib.hid hv1
  have HV2 := Lib.hid hv2
  have HV3 := Lib.hid hv3
  have HV4 := Lib.hid hv4
  have HLN := Lib.hid hln
  have HL5 := Lib.hid hl5
  have HN27 := Lib.hid (show 27 ≤ xs.length by omega)
  have c27 : ¬ (sz.size : Int) < 27 := by omega
  have HS := Lib.hid hs
  have HK1 := Lib.hid (show (v1 : Int) = 6 by omega)
  have HXL := Lib.hid hn
  have hkv : v1 = numN (xs.take 1) := hv1
  have hv28 : v2 < 18446744073709551616 := by rw [hv2]; exact num_take_lt (xs.drop 1) 8
  have hv38 : v3 < 18446744073709551616 := by rw [hv3]; exact num_take_lt (xs.drop 9) 8
  have HFIT := Lib.hid (And.intro hv28 (And.intro hv38 hl4))
  have qk1 : ((v1 : Int) == 1) = false := by rw [beq_eq_false_iff_ne]; omega
  have qk2 : ((v1 : Int) == 2) = false := by rw [beq_eq_false_iff_ne]; omega
  have qk4 : ((v1 : Int) == 4) = false := by rw [beq_eq_false_iff_ne]; omega
  have qk6 : ((v1 : Int) == 6) = true := by rw [beq_iff_eq]; omega
  have c28 : ¬ (sz.size : Int) < 27 + (ln : Int) := by omega
  have c29 : ¬ (sz.size : Int) > 27 + (ln : Int) := by omega
  have g1 : (0 : Int) ≤ 23 + (ln : Int) := by omega
  have g2 : 23 + (ln : Int) ≤ (sz.size : Int) := by omega
  have HW0 := Lib.hid hW0
  unfold frZ at HW0
  clear hrd1 hb1 hep hW2 hq hv1 hv2 hv3 hv4 hln hl1 hl4 hl5 hsz hmax hzl hW0 hn hs hkv hv28 hv38 hk
  go_enter Try.func13, Try.ntmps13
  go_upto_region 1 with fail
  rw [← HW0.out]
  go_wp2_with fail
  rw [← HW2.out, ← HQ.out]
  refine HN1.out.mono ?_
  rintro e w3 ⟨rfl, hep3⟩
  have HD4 := Lib.hid (hep3.begin ⟨(v1 : Int), 0, 0, 0, 0, 0, 0, 0, 0, [], []⟩ rfl)
  obtain ⟨g, hg⟩ : ∃ x, x = w3.heap.size := ⟨_, rfl⟩
  obtain ⟨W4, hW4⟩ : ∃ x, x = w3.alloc (.cells (frC ⟨(v1 : Int), 0, 0, 0, 0, 0, 0, 0, 0, [], []⟩ (.slice none 0 0)) 26) := ⟨_, rfl⟩
  rw [← hW4, ← hg] at HD4
  have HW4 := Lib.hid hW4
  have HGG := Lib.hid hg
  unfold frC strV at HW4
  simp only [Int.natCast_zero] at HW4
  have HN2 := Lib.hid (HD4.out.num_ok 8 8 rfl (by omega) (by omega) (by rw [List.length_drop]; have := HN27.out; omega))
  rw [← HV2.out] at HN2
  clear hep3 hW4 hg HN1 hcv
  go_wp2_with fail
  rw [← HW4.out, ← HGG.out]
  refine HN2.out.mono ?_
  rintro e wa2 ⟨rfl, hop⟩
  have c2 : wa2.cell? ⟨g, 1, none⟩ = some (.int .u64 0) := by rw [hop.cell 1]; rfl
  have fr2 : wa2.frozen? ⟨g, 1, none⟩ = false := hop.free 1
  have HOP2 := Lib.hid (hop.set 1 (.int .u64 (v2 : Int)) (f' := ⟨(v1 : Int), v2, 0, 0, 0, 0, 0, 0, 0, [], []⟩) rfl rfl)
  rw [List.drop_drop] at HOP2
  clear hop
  obtain ⟨wb2, hwb2⟩ : ∃ x, x = wa2.setCell ⟨g, 1, none⟩ (.int .u64 (v2 : Int)) := ⟨_, rfl⟩
  rw [← hwb2] at HOP2
  have HWB2 := Lib.hid hwb2
  have HN3 := Lib.hid (HOP2.out.num_ok 8 8 rfl (by omega) (by omega) (by rw [List.length_drop]; have := HN27.out; omega))
  rw [← HV3.out] at HN3
  clear hwb2
  go_wp2_with fail
  rw [← HWB2.out]
  refine HN3.out.mono ?_
  rintro e wa3 ⟨rfl, hop⟩
  have c3 : wa3.cell? ⟨g, 2, none⟩ = some (.int .u64 0) := by rw [hop.cell 2]; rfl
  have fr3 : wa3.frozen? ⟨g, 2, none⟩ = false := hop.free 2
  have HOP3 := Lib.hid (hop.set 2 (.int .u64 (v3 : Int)) (f' := ⟨(v1 : Int), v2, v3, 0, 0, 0, 0, 0, 0, [], []⟩) rfl rfl)
  rw [List.drop_drop] at HOP3
  clear hop
  obtain ⟨wb3, hwb3⟩ : ∃ x, x = wa3.setCell ⟨g, 2, none⟩ (.int .u64 (v3 : Int)) := ⟨_, rfl⟩
  rw [← hwb3] at HOP3
  have HWB3 := Lib.hid hwb3
  have HN4 := Lib.hid (HOP3.out.num_ok 4 4 rfl (by omega) (by omega) (by rw [List.length_drop]; have := HN27.out; omega))
  rw [← HV4.out] at HN4
  clear hwb3
  go_wp2_with fail
  rw [← HWB3.out]
  refine HN4.out.mono ?_
  rintro e wa4 ⟨rfl, hop⟩
  have c4 : wa4.cell? ⟨g, 3, none⟩ = some (.int .u32 0) := by rw [hop.cell 3]; rfl
  have fr4 : wa4.frozen? ⟨g, 3, none⟩ = false := hop.free 3
  have HOP4 := Lib.hid (hop.set 3 (.int .u32 (v4 : Int)) (f' := ⟨(v1 : Int), v2, v3, v4, 0, 0, 0, 0, 0, [], []⟩) rfl rfl)
  rw [List.drop_drop] at HOP4
  clear hop
  obtain ⟨wb4, hwb4⟩ : ∃ x, x = wa4.setCell ⟨g, 3, none⟩ (.int .u32 (v4 : Int)) := ⟨_, rfl⟩
  rw [← hwb4] at HOP4
  have HWB4 := Lib.hid hwb4
  have HN5 := Lib.hid (HOP4.out.num_ok 2 2 rfl (by omega) (by omega) (by rw [List.length_drop]; have := HN27.out; omega))
  rw [show numN ((xs.drop 21).take 2) = ln from HLN.out.symm] at HN5
  clear hwb4
  go_wp2_with fail
  rw [← HWB4.out]
  refine HN5.out.mono ?_
  rintro e wH ⟨rfl, hop⟩
  rw [List.drop_drop] at hop
  have HH := Lib.hid hop
  clear hop c2 c3 c4 fr2 fr3 fr4
  obtain ⟨SA, hSA⟩ : ∃ x, x = sz.extract 0 (23 + (ln : Int)).toNat := ⟨_, rfl⟩
  obtain ⟨SB, hSB⟩ : ∃ x, x = sz.extract (23 + (ln : Int)).toNat sz.size := ⟨_, rfl⟩
  have xA : sz.extract 0 (23 + (ln : Int)).toNat = SA := hSA.symm
  have xB : sz.extract (23 + (ln : Int)).toNat sz.size = SB := hSB.symm
  have e23 : (23 + (ln : Int)).toNat = 23 + lenOf xs := by rw [← HLN.out]; omega
  have hA := ext_str HSZ.out 0 (23 + (ln : Int)).toNat
  have hB := ext_str HSZ.out (23 + (ln : Int)).toNat sz.size
  rw [xA, List.drop_zero, e23] at hA
  rw [xB, List.take_of_length_le (by rw [HZL.out]; exact Nat.le_refl _), e23] at hB
  have hzA : SA.size ≤ 1000 := by rw [sd_size hA, List.length_take]; have := HMX.out; omega
  obtain ⟨ca, wK, hcv2, hrdK, hbK⟩ := cv_rd SA (by omega) wH.drew
  rw [str_list hA] at hrdK
  obtain ⟨cs, hcs⟩ : ∃ x, x = addN 0 (xs.take (23 + lenOf xs)) := ⟨_, rfl⟩
  have hcl := addN_lt 0 (xs.take (23 + lenOf xs))
  rw [← hcs] at hcl
  have wcs : IntKind.u64.wrap (cs : Int) = (cs : Int) := IntWalk.u64_in _ (by omega)
  have hsu := rsum_any _ _ _ _ wK hrdK
  rw [← hcs] at hsu
  have HSU := Lib.hid hsu
  obtain ⟨t6, ht6⟩ := str_of (enc cs 4)
  have HX6 := Lib.hid (show ∀ w, Calls Try.prog 21 #[.int .i64 4, .int .u64 (cs : Int)] w fun e w' => e = .returned (.string t6) ∧ Below w.heap.size w w' from fun w => by have h := text_any 4 cs w (by omega) (by omega) (by omega); rw [ht6] at h; exact h)
  have heq := str_eq ht6 hB
  have hd4 : (xs.drop (23 + lenOf xs)).length = 4 := by rw [List.length_drop]; have := HXL.out; omega
  have hnq : ¬ (t6 = SB) ↔ numN ((xs.drop (23 + lenOf xs)).take 4) ≠ addN 0 (xs.take (23 + lenOf xs)) := by
    rw [heq, ← hcs]
    constructor
    · intro h1 h2
      apply h1
      rw [← h2, enc_take _ _ (by omega)]
      exact List.take_of_length_le (by omega)
    · intro h1 h2
      apply h1
      rw [← h2, List.take_of_length_le (by rw [enc_length]; omega), numN_enc (by omega)]
  have HNE := Lib.hid (Classical.byContradiction fun h => (hnq.1 h) HS.out)
  have HBK := Lib.hid (show Below wH.heap.size wH wK from ((Below.refl _ _).drew).trans hbK)
  clear hSA hSB e23 hA hB hrdK hbK hcs hsu ht6 heq hd4 hnq
  go_wp2_with fail
  refine wp_region_held_drew (S := fun _ => True) (by kernel_rfl) trivial (fun hHeld => ?_)
  refine wpAnyH_take (i := 0) (oi := { dst := some 48, op := Op.move (Operand.tmp 0), type := 9, pos := "ref.go:111", after := #[], guard := none }) (v := ?_) rfl (by kernel_rfl) (by kernel_rfl) (by kernel_rfl) (fun _ _ _ h => h) (Or.inl ⟨by rfl, ?_⟩) (by assumption) ?_
  rotate_left
  · (intro w hSw; (try dsimp only at hSw); go_simp <;> with_reducible rfl)
  try simp only [Act.put, List.setIfInBounds_toArray, List.set_cons_zero, List.set_cons_succ]
  refine wpAnyH_take (i := 1) (oi := { dst := some 49, op := Op.move (Operand.tmp 6), type := 3, pos := "ref.go:111", after := #[], guard := none }) (v := ?_) rfl (by kernel_rfl) (by kernel_rfl) (by kernel_rfl) (fun _ _ _ h => h) (Or.inl ⟨by rfl, ?_⟩) (by assumption) ?_
  rotate_left
  · (intro w hSw; (try dsimp only at hSw); go_simp <;> with_reducible rfl)
  try simp only [Act.put, List.setIfInBounds_toArray, List.set_cons_zero, List.set_cons_succ]
  refine wpAnyH_take (i := 2) (oi := { dst := some 50, op := Op.binOp BinOp.add 3 (Operand.const (Value.int IntKind.i64 23)) (Operand.tmp 49) 3, type := 3, pos := "ref.go:111", after := #[{ on := 1, ground := Ground.data }], guard := none }) (v := ?_) rfl (by kernel_rfl) (by kernel_rfl) (by kernel_rfl) (fun _ _ _ h => h) (Or.inl ⟨by rfl, ?_⟩) (by assumption) ?_
  rotate_left
  · (intro w hSw; (try dsimp only at hSw); go_simp <;> with_reducible rfl)
  try simp only [Act.put, List.setIfInBounds_toArray, List.set_cons_zero, List.set_cons_succ]
  refine wpAnyH_take (i := 3) (oi := { dst := some 51, op := Op.slice 9 (Operand.tmp 48) none (some (Operand.tmp 50)) none, type := 9, pos := "ref.go:111", after := #[{ on := 0, ground := Ground.data }, { on := 2, ground := Ground.data }], guard := none }) (v := ?_) rfl (by kernel_rfl) (by kernel_rfl) (by kernel_rfl) (fun _ _ _ h => h) (Or.inl ⟨by rfl, ?_⟩) (by assumption) ?_
  rotate_left
  · (intro w hSw; (try dsimp only at hSw); go_simp <;> with_reducible rfl)
  try simp only [Act.put, List.setIfInBounds_toArray, List.set_cons_zero, List.set_cons_succ]
  refine wpAnyH_take (i := 8) (oi := { dst := some 56, op := Op.move (Operand.tmp 0), type := 9, pos := "ref.go:111", after := #[], guard := none }) (v := ?_) rfl (by kernel_rfl) (by kernel_rfl) (by kernel_rfl) (fun _ _ _ h => h) (Or.inl ⟨by rfl, ?_⟩) (by assumption) ?_
  rotate_left
  · (intro w hSw; (try dsimp only at hSw); go_simp <;> with_reducible rfl)
  try simp only [Act.put, List.setIfInBounds_toArray, List.set_cons_zero, List.set_cons_succ]
  refine wpAnyH_take (i := 9) (oi := { dst := some 57, op := Op.move (Operand.tmp 6), type := 3, pos := "ref.go:111", after := #[], guard := none }) (v := ?_) rfl (by kernel_rfl) (by kernel_rfl) (by kernel_rfl) (fun _ _ _ h => h) (Or.inl ⟨by rfl, ?_⟩) (by assumption) ?_
  rotate_left
  · (intro w hSw; (try dsimp only at hSw); go_simp <;> with_reducible rfl)
  try simp only [Act.put, List.setIfInBounds_toArray, List.set_cons_zero, List.set_cons_succ]
  refine wpAnyH_take (i := 10) (oi := { dst := some 58, op := Op.binOp BinOp.add 3 (Operand.const (Value.int IntKind.i64 23)) (Operand.tmp 57) 3, type := 3, pos := "ref.go:111", after := #[{ on := 9, ground := Ground.data }], guard := none }) (v := ?_) rfl (by kernel_rfl) (by kernel_rfl) (by kernel_rfl) (fun _ _ _ h => h) (Or.inl ⟨by rfl, ?_⟩) (by assumption) ?_
  rotate_left
  · (intro w hSw; (try dsimp only at hSw); go_simp <;> with_reducible rfl)
  try simp only [Act.put, List.setIfInBounds_toArray, List.set_cons_zero, List.set_cons_succ]
  refine wpAnyH_take (i := 11) (oi := { dst := some 59, op := Op.slice 9 (Operand.tmp 56) (some (Operand.tmp 58)) none none, type := 9, pos := "ref.go:111", after := #[{ on := 8, ground := Ground.data }, { on := 10, ground := Ground.data }], guard := none }) (v := ?_) rfl (by kernel_rfl) (by kernel_rfl) (by kernel_rfl) (fun _ _ _ h => h) (Or.inl ⟨by rfl, ?_⟩) (by assumption) ?_
  rotate_left
  · (intro w hSw; (try dsimp only at hSw); go_simp <;> with_reducible rfl)
  try simp only [Act.put, List.setIfInBounds_toArray, List.set_cons_zero, List.set_cons_succ]
  refine wpAnyH_ready (rs := [4]) (by kernel_rfl) (by simp) ?_
  refine AllReadyH.cons (o := { dst := some 52, op := Op.convert 9 29 (Operand.tmp 51), type := 29, pos := "ref.go:111", after := #[{ on := 3, ground := Ground.data }], guard := none }) rfl (fun K hK => ?_) AllReadyH.nil
  go_simp
  refine hK _ _ (trivial) (fun hHeld => ?_)
  clear hK K
  try simp only [Act.put, List.setIfInBounds_toArray, List.set_cons_zero, List.set_cons_succ]
  refine wpAnyH_ready (rs := [5]) (by kernel_rfl) (by simp) ?_
  refine AllReadyH.cons (o := { dst := some 53, op := Op.call { callee := Callee.value (Operand.func 22), args := #[Operand.tmp 52], argTypes := #[29] }, type := 23, pos := "ref.go:111", after := #[{ on := 4, ground := Ground.data }], guard := none }) rfl (fun K hK => ?_) AllReadyH.nil
  go_simp
  go_at_call 22
  refine HSU.out.mono ?_
  rintro r w5 ⟨rfl, h⟩
  obtain rfl := h
  refine hK _ _ (trivial) (fun hHeld => ?_)
  clear hK K
  try simp only [Act.put, List.setIfInBounds_toArray, List.set_cons_zero, List.set_cons_succ]
  refine wpAnyH_take (i := 6) (oi := { dst := some 54, op := Op.convert 23 22 (Operand.tmp 53), type := 22, pos := "ref.go:111", after := #[{ on := 5, ground := Ground.data }], guard := none }) (v := ?_) rfl (by kernel_rfl) (by kernel_rfl) (by kernel_rfl) (fun _ _ _ h => h) (Or.inl ⟨by rfl, ?_⟩) (by assumption) ?_
  rotate_left
  · (intro w hSw; (try dsimp only at hSw); go_simp <;> with_reducible rfl)
  try simp only [Act.put, List.setIfInBounds_toArray, List.set_cons_zero, List.set_cons_succ]
  refine wpAnyH_ready (rs := [7]) (by kernel_rfl) (by simp) ?_
  refine AllReadyH.cons (o := { dst := some 55, op := Op.call { callee := Callee.value (Operand.func 21), args := #[Operand.const (Value.int IntKind.i64 4), Operand.tmp 54], argTypes := #[3, 22] }, type := 9, pos := "ref.go:111", after := #[{ on := 6, ground := Ground.data }, { on := 5, ground := Ground.chain }], guard := none }) rfl (fun K hK => ?_) AllReadyH.nil
  go_simp
  go_at_call 21
  with_reducible refine (HX6.out _).mono ?_
  rintro r wL ⟨rfl, hbL⟩
  have HL := Lib.hid (HH.out.later (HBK.out.trans (hbL.mono HBK.out.size)))
  clear hbL
  refine hK _ _ (trivial) (fun hHeld => ?_)
  clear hK K
  try simp only [Act.put, List.setIfInBounds_toArray, List.set_cons_zero, List.set_cons_succ]
  refine wpAnyH_take (i := 12) (oi := { dst := some 60, op := Op.binOp BinOp.neq 9 (Operand.tmp 55) (Operand.tmp 59) 9, type := 4, pos := "ref.go:111", after := #[{ on := 7, ground := Ground.data }, { on := 11, ground := Ground.data }], guard := none }) (v := .bool false) rfl (by kernel_rfl) (by kernel_rfl) (by kernel_rfl) (fun _ _ _ h => h) (Or.inl ⟨by rfl, ?_⟩) (by assumption) ?_
  · intro w' hSw
    go_simp
    rw [HNE.out]
  try simp only [Act.put, List.setIfInBounds_toArray, List.set_cons_zero, List.set_cons_succ]
  refine wpAnyH_done (by kernel_rfl) ?_ _
  obtain ⟨R0, hR0⟩ : ∃ y, y = xs.drop 23 := ⟨_, rfl⟩
  have HR0 := Lib.hid hR0
  have HOQ0 := Lib.hid (show DP w wL q g (⟨(v1 : Int), v2, v3, v4, 0, 0, 0, 0, 0, [], []⟩ : FR) (.slice none 0 0) R0 0 from by rw [hR0]; exact HL.out)
  have ck0 : wL.cell? ⟨g, 0, none⟩ = some (.int .i64 (v1 : Int)) := by rw [HL.out.cell 0]; rfl
  have hhd : headOf xs = (⟨(v1 : Int), v2, v3, v4, 0, 0, 0, 0, 0, [], []⟩ : FR) := by unfold headOf; rw [← HV1.out, ← HV2.out, ← HV3.out, ← HV4.out]
  have HHD := Lib.hid hhd
  clear hR0 hhd hHeld
  obtain ⟨n1, y1, e1, hr1⟩ : ∃ v y e, rnum R0 0 2 = (v, y, e) := ⟨_, _, _, rfl⟩
  have hn1 : n1 < 65536 := by have := rnum_lt R0 0 2 2 rfl; rw [hr1] at this; exact this
  have hq1 := HOQ0.out.num 2
  rw [hr1] at hq1
  have HQN1 := Lib.hid hq1
  have HRR1 := Lib.hid hr1
  have HYL1 := Lib.hid (show y1.length ≤ R0.length by have := rnum_le R0 0 2; rw [hr1] at this; exact this)
  have wq1 : IntKind.i64.wrap (n1 : Int) = (n1 : Int) := by exact wrap_small _ (by omega) (by omega)
  have HNB1 := Lib.hid hn1
  clear hq1 hr1 hn1
  go_wp2_with fail

  refine HQN1.out.mono ?_
  rintro r wx1 ⟨rfl, hop⟩
  have cq1 : wx1.cell? ⟨g, 7, none⟩ = some (.int .i64 0) := by rw [hop.cell 7]; rfl
  have fq1 : wx1.frozen? ⟨g, 7, none⟩ = false := hop.free 7
  have HOQ1 := Lib.hid (hop.set 7 (.int .i64 (n1 : Int)) (f' := (⟨(v1 : Int), v2, v3, v4, 0, 0, 0, (n1 : Int), 0, [], []⟩ : FR)) rfl rfl)
  obtain ⟨ww1, hww1⟩ : ∃ x, x = wx1.setCell ⟨g, 7, none⟩ (.int .i64 (n1 : Int)) := ⟨_, rfl⟩
  rw [← hww1] at HOQ1
  have HWW1 := Lib.hid hww1
  clear hop hww1
  obtain ⟨b2, y2, e2, hr2⟩ : ∃ v y e, rbytes y1 e1 64 = (v, y, e) := ⟨_, _, _, rfl⟩
  obtain ⟨sb2, hsb2⟩ := str_of b2
  have hq2 := HOQ1.out.bytes 64
  rw [hr2] at hq2
  have HQN2 := Lib.hid hq2
  have HRR2 := Lib.hid hr2
  have HSB2 := Lib.hid hsb2
  have HBL2 := Lib.hid (show b2.length ≤ y1.length by have := rbytes_le y1 e1 64; rw [hr2] at this; exact this)
  clear hq2 hr2 hsb2
  go_wp2_with fail
  rw [← HWW1.out]
  refine HQN2.out.mono ?_
  rintro r wx2 ⟨a9, n9, c9, rfl, hrd9, hop⟩
  have hcv9 : (convert 29 9 (.slice a9 n9 c9)).run Try.prog wx2 = .ok (.string sb2) wx2 := by have h := rd_string hrd9; rw [h]; have h2 := HSB2.out; unfold strV at h2; rw [h2]
  have cq2 : wx2.cell? ⟨g, 9, none⟩ = some (.string ⟨#[]⟩) := by rw [hop.cell 9]; rfl
  have fq2 : wx2.frozen? ⟨g, 9, none⟩ = false := hop.free 9
  have HOQ2 := Lib.hid (hop.set 9 (.string sb2) (f' := (⟨(v1 : Int), v2, v3, v4, 0, 0, 0, (n1 : Int), 0, b2, []⟩ : FR)) (by rw [← HSB2.out]; rfl) rfl)
  clear hop hrd9
  obtain ⟨FX, hFX⟩ : ∃ x, x = (⟨(v1 : Int), v2, v3, v4, 0, 0, 0, (n1 : Int), 0, b2, []⟩ : FR) := ⟨_, rfl⟩
  have hrf : rfr (headOf xs) (xs.drop 23) = FX := by rw [hFX]; rw [← HR0.out, HHD.out]; unfold rfr; simp only [HK1.out, HRR1.out, HRR2.out]; rfl
  have hoq := HOQ2.out
  rw [← hFX] at hoq
  obtain ⟨la, ll9, lc, hlv, htx, hgb⟩ := hoq.tx
  have hvo : FX.vol < 4294967296 := by rw [hFX]; simp
  have hft : FX.fit := by rw [hFX]; exact ⟨HFIT.out.1, HFIT.out.2.1, HFIT.out.2.2⟩
  have hdl : FX.data.length ≤ 100000 := by rw [hFX]; have hr : R0.length ≤ xs.length := by { rw [HR0.out, List.length_drop]; omega }; have := HMX.out; have := HYL1.out; have := HBL2.out; simp only; omega
  have hll : ∀ k, ((FX.list.take k).flatten).length ≤ 100000 := by rw [hFX]; exact fun k => by simp
  obtain ⟨Y, hY⟩ : ∃ Y, Y = frC FX (.slice la ll9 lc) := ⟨_, rfl⟩
  have hbx := hoq.box
  rw [hlv, ← hY] at hbx
  have hfv : frV FX (.slice la ll9 lc) = .agg Y := by rw [hY]; rfl
  obtain ⟨q1, q2, q3⟩ := frc_facts FX la ll9 lc
  rw [← hY] at q1 q2 q3
  have hpt := rfput_any FX la ll9 lc (wx2.setCell ⟨g, 9, none⟩ (.string sb2)) htx hvo hft hdl hll
  rw [hfv] at hpt
  have HPT := Lib.hid hpt
  have HYY := Lib.hid hY
  have Q1 := Lib.hid q1
  have Q2 := Lib.hid q2
  have Q3 := Lib.hid q3
  have HRF := Lib.hid hrf
  have HOQ := Lib.hid hoq
  have HTX := Lib.hid htx
  have HGB := Lib.hid hgb
  clear hgb hFX hrf hoq htx hvo hft hdl hll hY hfv q1 q2 q3 hpt hlv
  by_cases hgd : good FX ∧ frameB FX = xs
  case neg =>
    have HP := Lib.hid (ref_bad HXL.out HS.out HRF.out hgd)
    have hpp : (∃ (tz : ByteArray), strV (putP FX).1 = .string tz ∧ (putP FX).2 = 6) ∨ (∃ (tz : ByteArray), strV (putP FX).1 = .string tz ∧ (putP FX).2 = 0 ∧ (tz.toList == sz.toList) = false) := by
      unfold putP
      by_cases hg2 : good FX
      · rw [if_pos hg2]
        obtain ⟨tz, htz⟩ := str_of (frameB FX)
        refine .inr ⟨tz, htz, rfl, beq_eq_false_iff_ne.2 fun h => hgd ⟨hg2, ?_⟩⟩
        exact (str_eq htz HSZ.out).1 (tolist_inj h)
      · rw [if_neg hg2]
        exact .inl ⟨_, rfl, rfl⟩
    rcases hpp with ⟨tz, h1, h2⟩ | ⟨tz, h1, h2, h3⟩
    all_goals (
      have hpt := HPT.out
      rw [h1, h2] at hpt
      have HPT2 := Lib.hid hpt
      clear hpt h1 h2 HPT hgd
      go_wp2_with (with_reducible refine wpList_load_row (o := ⟨some 127, _, _, _, _, _⟩) rfl 26 (.tmp 5) rfl g rfl 26 Y (0, 0) _ hbx Try.underlying26 rfl Q1.out ?_)
      refine HPT2.out.mono ?_
      rintro r wz ⟨rfl, hbz⟩
      have hoz := HOQ.out.later hbz
      have hrs := hoz.res
      have hw5 : (wz.setRow w.heap.size frZ).heap[w.heap.size]? = some (.cells frZ 26 (0, 0)) := setRow_heap _ _ _ frZ _ _ hrs
      have HB5 := Lib.hid (below_setRow hoz.bel (Nat.le_refl _) frZ)
      clear hoz hbz hbx
      go_wp2_with (with_reducible refine wpList_store_row (o := ⟨none, _, _, _, _, _⟩) rfl 26 (.tmp 2) (.tmp 138) rfl w.heap.size frZ rfl rfl 26 frZ hrs HI0.out rfl HO0.out ?_)
      refine bodyPost_ret (results_row_tmp (p := 2) (u := 3) (ty := 26) rfl _ _ w.heap.size 26 frZ (0, 0) _ rfl hw5 Try.underlying26 rfl HI0.out) rfl ?_
      exact dg_bad HP.out rfl HB5.out)
  case pos =>
    have HP := Lib.hid (ref_good HXL.out HS.out HRF.out hgd)
    have hpt := HPT.out
    rw [show putP FX = (frameB FX, 0) from by unfold putP; rw [if_pos hgd.1], hgd.2, HSZ.out] at hpt
    have HPT2 := Lib.hid hpt
    clear hpt HPT hgd
    go_wp2_with (with_reducible refine wpList_load_row (o := ⟨some 127, _, _, _, _, _⟩) rfl 26 (.tmp 5) rfl g rfl 26 Y (0, 0) _ hbx Try.underlying26 rfl Q1.out ?_)
    refine HPT2.out.mono ?_
    rintro r wz ⟨rfl, hbz⟩
    have hoz := HOQ.out.later hbz
    have hrs := hoz.res
    have hbz2 := (hbz.block g (lt_of_block hbx)).trans hbx
    have hw5 : (wz.setRow w.heap.size Y).heap[w.heap.size]? = some (.cells Y 26 (0, 0)) := setRow_heap _ _ _ Y _ _ hrs
    have HB5 := Lib.hid (below_setRow hoz.bel (Nat.le_refl _) Y)
    have HT5 := Lib.hid (show Tx (wz.setRow w.heap.size Y) la ll9 lc FX.list from by
      refine (HTX.out.later hbz).kept (by simp [World.setRow]) fun b off e h0 _ => setRow_other wz w.heap.size b Y ?_
      have h1 := HGB.out b off e
      have h2 := HOQ.out.fq
      have h3 := HOQ.out.fg
      omega)
    clear hoz hbz
    go_wp2_with (first
      | (with_reducible refine wpList_load_row (o := ⟨some 139, _, _, _, _, _⟩) rfl 26 (.tmp 5) rfl g rfl 26 Y (0, 0) _ hbz2 Try.underlying26 rfl Q1.out ?_)
      | (with_reducible refine wpList_store_row (o := ⟨none, _, _, _, _, _⟩) rfl 26 (.tmp 2) (.tmp 139) rfl w.heap.size Y rfl rfl 26 frZ hrs Q1.out Q2.out Q3.out ?_))
    refine bodyPost_ret (results_row_tmp (p := 2) (u := 3) (ty := 26) rfl _ _ w.heap.size 26 Y (0, 0) _ rfl hw5 Try.underlying26 rfl Q1.out) rfl ?_
    exact ⟨FX, la, ll9, lc, Y, 0, HYY.out, rfl, HP.out, HT5.out, HB5.out⟩

set_option maxRecDepth 20000 in
set_option maxHeartbeats 1000000 in
theorem rget_k1 (xs : List UInt8) (sz : ByteArray) (hsz : strV xs = .string sz) (hmax : xs.length ≤ 1000) (w : World) (hn : xs.length = 27 + lenOf xs) (hs : numN ((xs.drop (23 + lenOf xs)).take 4) = addN 0 (xs.take (23 + lenOf xs))) (hk : numN (xs.take 1) = 1) :
    Calls Try.prog 13 #[.string sz] w fun e w' => DG xs w e w' := by
  have hzl : sz.size = xs.length := sd_size hsz
  have hi0 : (Try.prog.info? 26).map (·.size) = some frZ.size := by kernel_rfl
  have ho0 : frZ.all (·.oneCell') = true := by simp [frZ, Value.oneCell']
  have HI0 := Lib.hid hi0
  have HO0 := Lib.hid ho0
  have HMX := Lib.hid hmax
  have HSZ := Lib.hid hsz
  have HZL := Lib.hid hzl
  obtain ⟨W0, hW0⟩ : ∃ x, x = w.alloc (.cells frZ 26) := ⟨_, rfl⟩
  clear hi0 ho0
  obtain ⟨cc, w1, hcv, hrd1, hb1⟩ := cv_rd sz (by omega) W0
  rw [str_list hsz] at hrd1
  have hep := ep_new (by rw [← hW0]; exact hb1) hrd1
  obtain ⟨q, hq⟩ : ∃ x, x = w1.heap.size := ⟨_, rfl⟩
  obtain ⟨W2, hW2⟩ : ∃ x, x = w1.alloc (.cells #[.slice (some ⟨W0.heap.size, 0, none⟩) sz.size cc, .int .i64 0, .int .i64 0] 57) := ⟨_, rfl⟩
  rw [← hW2, ← hq] at hep
  have HW2 := Lib.hid hW2
  have HQ := Lib.hid hq
  have HN1 := Lib.hid (hep.num 1 1 rfl (by omega) (by omega) (by omega))
  obtain ⟨v1, hv1⟩ : ∃ v, v = numN (xs.take 1) := ⟨_, rfl⟩
  obtain ⟨v2, hv2⟩ : ∃ v, v = numN ((xs.drop 1).take 8) := ⟨_, rfl⟩
  obtain ⟨v3, hv3⟩ : ∃ v, v = numN ((xs.drop 9).take 8) := ⟨_, rfl⟩
  obtain ⟨v4, hv4⟩ : ∃ v, v = numN ((xs.drop 17).take 4) := ⟨_, rfl⟩
  obtain ⟨ln, hln⟩ : ∃ v, v = lenOf xs := ⟨_, rfl⟩
  have hl1 : v1 < 256 := by rw [hv1]; exact num_take_lt xs 1
  have hl4 : v4 < 4294967296 := by rw [hv4]; exact num_take_lt (xs.drop 17) 4
  have hl5 : ln < 65536 := by rw [hln]; exact lenOf_lt xs
  have z1 : IntKind.i64.wrap (v1 : Int) = (v1 : Int) := wrap_small _ (by omega) (by omega)
  have z4 : IntKind.u32.wrap (v4 : Int) = (v4 : Int) := IntWalk.u32_in _ (by omega)
  have z5 : IntKind.i64.wrap (ln : Int) = (ln : Int) := wrap_small _ (by omega) (by omega)
  have z6 : IntKind.i64.wrap (27 + (ln : Int)) = 27 + (ln : Int) := wrap_small _ (by omega) (by omega)
  have z7 : IntKind.i64.wrap (23 + (ln : Int)) = 23 + (ln : Int) := wrap_small _ (by omega) (by omega)
  rw [← hv1] at HN1
  have HV1 := Lib.hid hv1
  have HV2 := Lib.hid hv2
  have HV3 := Lib.hid hv3
  have HV4 := Lib.hid hv4
  have HLN := Lib.hid hln
  have HL5 := Lib.hid hl5
  have HN27 := Lib.hid (show 27 ≤ xs.length by omega)
  have c27 : ¬ (sz.size : Int) < 27 := by omega
  have HS := Lib.hid hs
  have HK1 := Lib.hid (show (v1 : Int) = 1 by omega)
  have HXL := Lib.hid hn
  have hkv : v1 = numN (xs.take 1) := hv1
  have hv28 : v2 < 18446744073709551616 := by rw [hv2]; exact num_take_lt (xs.drop 1) 8
  have hv38 : v3 < 18446744073709551616 := by rw [hv3]; exact num_take_lt (xs.drop 9) 8
  have HFIT := Lib.hid (And.intro hv28 (And.intro hv38 hl4))
  have qk1 : ((v1 : Int) == 1) = true := by rw [beq_iff_eq]; omega
  have c28 : ¬ (sz.size : Int) < 27 + (ln : Int) := by omega
  have c29 : ¬ (sz.size : Int) > 27 + (ln : Int) := by omega
  have g1 : (0 : Int) ≤ 23 + (ln : Int) := by omega
  have g2 : 23 + (ln : Int) ≤ (sz.size : Int) := by omega
  have HW0 := Lib.hid hW0
  unfold frZ at HW0
  clear hrd1 hb1 hep hW2 hq hv1 hv2 hv3 hv4 hln hl1 hl4 hl5 hsz hmax hzl hW0 hn hs hkv hv28 hv38 hk
  go_enter Try.func13, Try.ntmps13
  go_upto_region 1 with fail
  rw [← HW0.out]
  go_wp2_with fail
  rw [← HW2.out, ← HQ.out]
  refine HN1.out.mono ?_
  rintro e w3 ⟨rfl, hep3⟩
  have HD4 := Lib.hid (hep3.begin ⟨(v1 : Int), 0, 0, 0, 0, 0, 0, 0, 0, [], []⟩ rfl)
  obtain ⟨g, hg⟩ : ∃ x, x = w3.heap.size := ⟨_, rfl⟩
  obtain ⟨W4, hW4⟩ : ∃ x, x = w3.alloc (.cells (frC ⟨(v1 : Int), 0, 0, 0, 0, 0, 0, 0, 0, [], []⟩ (.slice none 0 0)) 26) := ⟨_, rfl⟩
  rw [← hW4, ← hg] at HD4
  have HW4 := Lib.hid hW4
  have HGG := Lib.hid hg
  unfold frC strV at HW4
  simp only [Int.natCast_zero] at HW4
  have HN2 := Lib.hid (HD4.out.num_ok 8 8 rfl (by omega) (by omega) (by rw [List.length_drop]; have := HN27.out; omega))
  rw [← HV2.out] at HN2
  clear hep3 hW4 hg HN1 hcv
  go_wp2_with fail
  rw [← HW4.out, ← HGG.out]
  refine HN2.out.mono ?_
  rintro e wa2 ⟨rfl, hop⟩
  have c2 : wa2.cell? ⟨g, 1, none⟩ = some (.int .u64 0) := by rw [hop.cell 1]; rfl
  have fr2 : wa2.frozen? ⟨g, 1, none⟩ = false := hop.free 1
  have HOP2 := Lib.hid (hop.set 1 (.int .u64 (v2 : Int)) (f' := ⟨(v1 : Int), v2, 0, 0, 0, 0, 0, 0, 0, [], []⟩) rfl rfl)
  rw [List.drop_drop] at HOP2
  clear hop
  obtain ⟨wb2, hwb2⟩ : ∃ x, x = wa2.setCell ⟨g, 1, none⟩ (.int .u64 (v2 : Int)) := ⟨_, rfl⟩
  rw [← hwb2] at HOP2
  have HWB2 := Lib.hid hwb2
  have HN3 := Lib.hid (HOP2.out.num_ok 8 8 rfl (by omega) (by omega) (by rw [List.length_drop]; have := HN27.out; omega))
  rw [← HV3.out] at HN3
  clear hwb2
  go_wp2_with fail
  rw [← HWB2.out]
  refine HN3.out.mono ?_
  rintro e wa3 ⟨rfl, hop⟩
  have c3 : wa3.cell? ⟨g, 2, none⟩ = some (.int .u64 0) := by rw [hop.cell 2]; rfl
  have fr3 : wa3.frozen? ⟨g, 2, none⟩ = false := hop.free 2
  have HOP3 := Lib.hid (hop.set 2 (.int .u64 (v3 : Int)) (f' := ⟨(v1 : Int), v2, v3, 0, 0, 0, 0, 0, 0, [], []⟩) rfl rfl)
  rw [List.drop_drop] at HOP3
  clear hop
  obtain ⟨wb3, hwb3⟩ : ∃ x, x = wa3.setCell ⟨g, 2, none⟩ (.int .u64 (v3 : Int)) := ⟨_, rfl⟩
  rw [← hwb3] at HOP3
  have HWB3 := Lib.hid hwb3
  have HN4 := Lib.hid (HOP3.out.num_ok 4 4 rfl (by omega) (by omega) (by rw [List.length_drop]; have := HN27.out; omega))
  rw [← HV4.out] at HN4
  clear hwb3
  go_wp2_with fail
  rw [← HWB3.out]
  refine HN4.out.mono ?_
  rintro e wa4 ⟨rfl, hop⟩
  have c4 : wa4.cell? ⟨g, 3, none⟩ = some (.int .u32 0) := by rw [hop.cell 3]; rfl
  have fr4 : wa4.frozen? ⟨g, 3, none⟩ = false := hop.free 3
  have HOP4 := Lib.hid (hop.set 3 (.int .u32 (v4 : Int)) (f' := ⟨(v1 : Int), v2, v3, v4, 0, 0, 0, 0, 0, [], []⟩) rfl rfl)
  rw [List.drop_drop] at HOP4
  clear hop
  obtain ⟨wb4, hwb4⟩ : ∃ x, x = wa4.setCell ⟨g, 3, none⟩ (.int .u32 (v4 : Int)) := ⟨_, rfl⟩
  rw [← hwb4] at HOP4
  have HWB4 := Lib.hid hwb4
  have HN5 := Lib.hid (HOP4.out.num_ok 2 2 rfl (by omega) (by omega) (by rw [List.length_drop]; have := HN27.out; omega))
  rw [show numN ((xs.drop 21).take 2) = ln from HLN.out.symm] at HN5
  clear hwb4
  go_wp2_with fail
  rw [← HWB4.out]
  refine HN5.out.mono ?_
  rintro e wH ⟨rfl, hop⟩
  rw [List.drop_drop] at hop
  have HH := Lib.hid hop
  clear hop c2 c3 c4 fr2 fr3 fr4
  obtain ⟨SA, hSA⟩ : ∃ x, x = sz.extract 0 (23 + (ln : Int)).toNat := ⟨_, rfl⟩
  obtain ⟨SB, hSB⟩ : ∃ x, x = sz.extract (23 + (ln : Int)).toNat sz.size := ⟨_, rfl⟩
  have xA : sz.extract 0 (23 + (ln : Int)).toNat = SA := hSA.symm
  have xB : sz.extract (23 + (ln : Int)).toNat sz.size = SB := hSB.symm
  have e23 : (23 + (ln : Int)).toNat = 23 + lenOf xs := by rw [← HLN.out]; omega
  have hA := ext_str HSZ.out 0 (23 + (ln : Int)).toNat
  have hB := ext_str HSZ.out (23 + (ln : Int)).toNat sz.size
  rw [xA, List.drop_zero, e23] at hA
  rw [xB, List.take_of_length_le (by rw [HZL.out]; exact Nat.le_refl _), e23] at hB
  have hzA : SA.size ≤ 1000 := by rw [sd_size hA, List.length_take]; have := HMX.out; omega
  obtain ⟨ca, wK, hcv2, hrdK, hbK⟩ := cv_rd SA (by omega) wH.drew
  rw [str_list hA] at hrdK
  obtain ⟨cs, hcs⟩ : ∃ x, x = addN 0 (xs.take (23 + lenOf xs)) := ⟨_, rfl⟩
  have hcl := addN_lt 0 (xs.take (23 + lenOf xs))
  rw [← hcs] at hcl
  have wcs : IntKind.u64.wrap (cs : Int) = (cs : Int) := IntWalk.u64_in _ (by omega)
  have hsu := rsum_any _ _ _ _ wK hrdK
  rw [← hcs] at hsu
  have HSU := Lib.hid hsu
  obtain ⟨t6, ht6⟩ := str_of (enc cs 4)
  have HX6 := Lib.hid (show ∀ w, Calls Try.prog 21 #[.int .i64 4, .int .u64 (cs : Int)] w fun e w' => e = .returned (.string t6) ∧ Below w.heap.size w w' from fun w => by have h := text_any 4 cs w (by omega) (by omega) (by omega); rw [ht6] at h; exact h)
  have heq := str_eq ht6 hB
  have hd4 : (xs.drop (23 + lenOf xs)).length = 4 := by rw [List.length_drop]; have := HXL.out; omega
  have hnq : ¬ (t6 = SB) ↔ numN ((xs.drop (23 + lenOf xs)).take 4) ≠ addN 0 (xs.take (23 + lenOf xs)) := by
    rw [heq, ← hcs]
    constructor
    · intro h1 h2
      apply h1
      rw [← h2, enc_take _ _ (by omega)]
      exact List.take_of_length_le (by omega)
    · intro h1 h2
      apply h1
      rw [← h2, List.take_of_length_le (by rw [enc_length]; omega), numN_enc (by omega)]
  have HNE := Lib.hid (Classical.byContradiction fun h => (hnq.1 h) HS.out)
  have HBK := Lib.hid (show Below wH.heap.size wH wK from ((Below.refl _ _).drew).trans hbK)
  clear hSA hSB e23 hA hB hrdK hbK hcs hsu ht6 heq hd4 hnq
  go_wp2_with fail
  refine wp_region_held_drew (S := fun _ => True) (by kernel_rfl) trivial (fun hHeld => ?_)
  refine wpAnyH_take (i := 0) (oi := { dst := some 48, op := Op.move (Operand.tmp 0), type := 9, pos := "ref.go:111", after := #[], guard := none }) (v := ?_) rfl (by kernel_rfl) (by kernel_rfl) (by kernel_rfl) (fun _ _ _ h => h) (Or.inl ⟨by rfl, ?_⟩) (by assumption) ?_
  rotate_left
  · (intro w hSw; (try dsimp only at hSw); go_simp <;> with_reducible rfl)
  try simp only [Act.put, List.setIfInBounds_toArray, List.set_cons_zero, List.set_cons_succ]
  refine wpAnyH_take (i := 1) (oi := { dst := some 49, op := Op.move (Operand.tmp 6), type := 3, pos := "ref.go:111", after := #[], guard := none }) (v := ?_) rfl (by kernel_rfl) (by kernel_rfl) (by kernel_rfl) (fun _ _ _ h => h) (Or.inl ⟨by rfl, ?_⟩) (by assumption) ?_
  rotate_left
  · (intro w hSw; (try dsimp only at hSw); go_simp <;> with_reducible rfl)
  try simp only [Act.put, List.setIfInBounds_toArray, List.set_cons_zero, List.set_cons_succ]
  refine wpAnyH_take (i := 2) (oi := { dst := some 50, op := Op.binOp BinOp.add 3 (Operand.const (Value.int IntKind.i64 23)) (Operand.tmp 49) 3, type := 3, pos := "ref.go:111", after := #[{ on := 1, ground := Ground.data }], guard := none }) (v := ?_) rfl (by kernel_rfl) (by kernel_rfl) (by kernel_rfl) (fun _ _ _ h => h) (Or.inl ⟨by rfl, ?_⟩) (by assumption) ?_
  rotate_left
  · (intro w hSw; (try dsimp only at hSw); go_simp <;> with_reducible rfl)
  try simp only [Act.put, List.setIfInBounds_toArray, List.set_cons_zero, List.set_cons_succ]
  refine wpAnyH_take (i := 3) (oi := { dst := some 51, op := Op.slice 9 (Operand.tmp 48) none (some (Operand.tmp 50)) none, type := 9, pos := "ref.go:111", after := #[{ on := 0, ground := Ground.data }, { on := 2, ground := Ground.data }], guard := none }) (v := ?_) rfl (by kernel_rfl) (by kernel_rfl) (by kernel_rfl) (fun _ _ _ h => h) (Or.inl ⟨by rfl, ?_⟩) (by assumption) ?_
  rotate_left
  · (intro w hSw; (try dsimp only at hSw); go_simp <;> with_reducible rfl)
  try simp only [Act.put, List.setIfInBounds_toArray, List.set_cons_zero, List.set_cons_succ]
  refine wpAnyH_take (i := 8) (oi := { dst := some 56, op := Op.move (Operand.tmp 0), type := 9, pos := "ref.go:111", after := #[], guard := none }) (v := ?_) rfl (by kernel_rfl) (by kernel_rfl) (by kernel_rfl) (fun _ _ _ h => h) (Or.inl ⟨by rfl, ?_⟩) (by assumption) ?_
  rotate_left
  · (intro w hSw; (try dsimp only at hSw); go_simp <;> with_reducible rfl)
  try simp only [Act.put, List.setIfInBounds_toArray, List.set_cons_zero, List.set_cons_succ]
  refine wpAnyH_take (i := 9) (oi := { dst := some 57, op := Op.move (Operand.tmp 6), type := 3, pos := "ref.go:111", after := #[], guard := none }) (v := ?_) rfl (by kernel_rfl) (by kernel_rfl) (by kernel_rfl) (fun _ _ _ h => h) (Or.inl ⟨by rfl, ?_⟩) (by assumption) ?_
  rotate_left
  · (intro w hSw; (try dsimp only at hSw); go_simp <;> with_reducible rfl)
  try simp only [Act.put, List.setIfInBounds_toArray, List.set_cons_zero, List.set_cons_succ]
  refine wpAnyH_take (i := 10) (oi := { dst := some 58, op := Op.binOp BinOp.add 3 (Operand.const (Value.int IntKind.i64 23)) (Operand.tmp 57) 3, type := 3, pos := "ref.go:111", after := #[{ on := 9, ground := Ground.data }], guard := none }) (v := ?_) rfl (by kernel_rfl) (by kernel_rfl) (by kernel_rfl) (fun _ _ _ h => h) (Or.inl ⟨by rfl, ?_⟩) (by assumption) ?_
  rotate_left
  · (intro w hSw; (try dsimp only at hSw); go_simp <;> with_reducible rfl)
  try simp only [Act.put, List.setIfInBounds_toArray, List.set_cons_zero, List.set_cons_succ]
  refine wpAnyH_take (i := 11) (oi := { dst := some 59, op := Op.slice 9 (Operand.tmp 56) (some (Operand.tmp 58)) none none, type := 9, pos := "ref.go:111", after := #[{ on := 8, ground := Ground.data }, { on := 10, ground := Ground.data }], guard := none }) (v := ?_) rfl (by kernel_rfl) (by kernel_rfl) (by kernel_rfl) (fun _ _ _ h => h) (Or.inl ⟨by rfl, ?_⟩) (by assumption) ?_
  rotate_left
  · (intro w hSw; (try dsimp only at hSw); go_simp <;> with_reducible rfl)
  try simp only [Act.put, List.setIfInBounds_toArray, List.set_cons_zero, List.set_cons_succ]
  refine wpAnyH_ready (rs := [4]) (by kernel_rfl) (by simp) ?_
  refine AllReadyH.cons (o := { dst := some 52, op := Op.convert 9 29 (Operand.tmp 51), type := 29, pos := "ref.go:111", after := #[{ on := 3, ground := Ground.data }], guard := none }) rfl (fun K hK => ?_) AllReadyH.nil
  go_simp
  refine hK _ _ (trivial) (fun hHeld => ?_)
  clear hK K
  try simp only [Act.put, List.setIfInBounds_toArray, List.set_cons_zero, List.set_cons_succ]
  refine wpAnyH_ready (rs := [5]) (by kernel_rfl) (by simp) ?_
  refine AllReadyH.cons (o := { dst := some 53, op := Op.call { callee := Callee.value (Operand.func 22), args := #[Operand.tmp 52], argTypes := #[29] }, type := 23, pos := "ref.go:111", after := #[{ on := 4, ground := Ground.data }], guard := none }) rfl (fun K hK => ?_) AllReadyH.nil
  go_simp
  go_at_call 22
  refine HSU.out.mono ?_
  rintro r w5 ⟨rfl, h⟩
  obtain rfl := h
  refine hK _ _ (trivial) (fun hHeld => ?_)
  clear hK K
  try simp only [Act.put, List.setIfInBounds_toArray, List.set_cons_zero, List.set_cons_succ]
  refine wpAnyH_take (i := 6) (oi := { dst := some 54, op := Op.convert 23 22 (Operand.tmp 53), type := 22, pos := "ref.go:111", after := #[{ on := 5, ground := Ground.data }], guard := none }) (v := ?_) rfl (by kernel_rfl) (by kernel_rfl) (by kernel_rfl) (fun _ _ _ h => h) (Or.inl ⟨by rfl, ?_⟩) (by assumption) ?_
  rotate_left
  · (intro w hSw; (try dsimp only at hSw); go_simp <;> with_reducible rfl)
  try simp only [Act.put, List.setIfInBounds_toArray, List.set_cons_zero, List.set_cons_succ]
  refine wpAnyH_ready (rs := [7]) (by kernel_rfl) (by simp) ?_
  refine AllReadyH.cons (o := { dst := some 55, op := Op.call { callee := Callee.value (Operand.func 21), args := #[Operand.const (Value.int IntKind.i64 4), Operand.tmp 54], argTypes := #[3, 22] }, type := 9, pos := "ref.go:111", after := #[{ on := 6, ground := Ground.data }, { on := 5, ground := Ground.chain }], guard := none }) rfl (fun K hK => ?_) AllReadyH.nil
  go_simp
  go_at_call 21
  with_reducible refine (HX6.out _).mono ?_
  rintro r wL ⟨rfl, hbL⟩
  have HL := Lib.hid (HH.out.later (HBK.out.trans (hbL.mono HBK.out.size)))
  clear hbL
  refine hK _ _ (trivial) (fun hHeld => ?_)
  clear hK K
  try simp only [Act.put, List.setIfInBounds_toArray, List.set_cons_zero, List.set_cons_succ]
  refine wpAnyH_take (i := 12) (oi := { dst := some 60, op := Op.binOp BinOp.neq 9 (Operand.tmp 55) (Operand.tmp 59) 9, type := 4, pos := "ref.go:111", after := #[{ on := 7, ground := Ground.data }, { on := 11, ground := Ground.data }], guard := none }) (v := .bool false) rfl (by kernel_rfl) (by kernel_rfl) (by kernel_rfl) (fun _ _ _ h => h) (Or.inl ⟨by rfl, ?_⟩) (by assumption) ?_
  · intro w' hSw
    go_simp
    rw [HNE.out]
  try simp only [Act.put, List.setIfInBounds_toArray, List.set_cons_zero, List.set_cons_succ]
  refine wpAnyH_done (by kernel_rfl) ?_ _
  obtain ⟨R0, hR0⟩ : ∃ y, y = xs.drop 23 := ⟨_, rfl⟩
  have HR0 := Lib.hid hR0
  have HOQ0 := Lib.hid (show DP w wL q g (⟨(v1 : Int), v2, v3, v4, 0, 0, 0, 0, 0, [], []⟩ : FR) (.slice none 0 0) R0 0 from by rw [hR0]; exact HL.out)
  have ck0 : wL.cell? ⟨g, 0, none⟩ = some (.int .i64 (v1 : Int)) := by rw [HL.out.cell 0]; rfl
  have hhd : headOf xs = (⟨(v1 : Int), v2, v3, v4, 0, 0, 0, 0, 0, [], []⟩ : FR) := by unfold headOf; rw [← HV1.out, ← HV2.out, ← HV3.out, ← HV4.out]
  have HHD := Lib.hid hhd
  clear hR0 hhd hHeld
  obtain ⟨n1, y1, e1, hr1⟩ : ∃ v y e, rnum R0 0 4 = (v, y, e) := ⟨_, _, _, rfl⟩
  have hn1 : n1 < 4294967296 := by have := rnum_lt R0 0 4 4 rfl; rw [hr1] at this; exact this
  have hq1 := HOQ0.out.num 4
  rw [hr1] at hq1
  have HQN1 := Lib.hid hq1
  have HRR1 := Lib.hid hr1
  have HYL1 := Lib.hid (show y1.length ≤ R0.length by have := rnum_le R0 0 4; rw [hr1] at this; exact this)
  have wq1 : IntKind.u32.wrap (n1 : Int) = (n1 : Int) := by exact IntWalk.u32_in _ (by omega)
  have HNB1 := Lib.hid hn1
  clear hq1 hr1 hn1
  go_wp2_with fail

  refine HQN1.out.mono ?_
  rintro r wx1 ⟨rfl, hop⟩
  have cq1 : wx1.cell? ⟨g, 4, none⟩ = some (.int .u32 0) := by rw [hop.cell 4]; rfl
  have fq1 : wx1.frozen? ⟨g, 4, none⟩ = false := hop.free 4
  have HOQ1 := Lib.hid (hop.set 4 (.int .u32 (n1 : Int)) (f' := (⟨(v1 : Int), v2, v3, v4, n1, 0, 0, 0, 0, [], []⟩ : FR)) rfl rfl)
  obtain ⟨ww1, hww1⟩ : ∃ x, x = wx1.setCell ⟨g, 4, none⟩ (.int .u32 (n1 : Int)) := ⟨_, rfl⟩
  rw [← hww1] at HOQ1
  have HWW1 := Lib.hid hww1
  clear hop hww1
  obtain ⟨n2, y2, e2, hr2⟩ : ∃ v y e, rnum y1 e1 2 = (v, y, e) := ⟨_, _, _, rfl⟩
  have hn2 : n2 < 65536 := by have := rnum_lt y1 e1 2 2 rfl; rw [hr2] at this; exact this
  have hq2 := HOQ1.out.num 2
  rw [hr2] at hq2
  have HQN2 := Lib.hid hq2
  have HRR2 := Lib.hid hr2
  have HYL2 := Lib.hid (show y2.length ≤ y1.length by have := rnum_le y1 e1 2; rw [hr2] at this; exact this)
  have wq2 : IntKind.i64.wrap (n2 : Int) = (n2 : Int) := by exact wrap_small _ (by omega) (by omega)
  have HNB2 := Lib.hid hn2
  clear hq2 hr2 hn2
  go_wp2_with fail
  rw [← HWW1.out]
  refine HQN2.out.mono ?_
  rintro r wx2 ⟨rfl, hop⟩
  have cq2 : wx2.cell? ⟨g, 5, none⟩ = some (.int .i64 0) := by rw [hop.cell 5]; rfl
  have fq2 : wx2.frozen? ⟨g, 5, none⟩ = false := hop.free 5
  have HOQ2 := Lib.hid (hop.set 5 (.int .i64 (n2 : Int)) (f' := (⟨(v1 : Int), v2, v3, v4, n1, (n2 : Int), 0, 0, 0, [], []⟩ : FR)) rfl rfl)
  obtain ⟨ww2, hww2⟩ : ∃ x, x = wx2.setCell ⟨g, 5, none⟩ (.int .i64 (n2 : Int)) := ⟨_, rfl⟩
  rw [← hww2] at HOQ2
  have HWW2 := Lib.hid hww2
  clear hop hww2
  obtain ⟨n3, y3, e3, hr3⟩ : ∃ v y e, rnum y2 e2 1 = (v, y, e) := ⟨_, _, _, rfl⟩
  have hn3 : n3 < 256 := by have := rnum_lt y2 e2 1 1 rfl; rw [hr3] at this; exact this
  have hq3 := HOQ2.out.num 1
  rw [hr3] at hq3
  have HQN3 := Lib.hid hq3
  have HRR3 := Lib.hid hr3
  have HYL3 := Lib.hid (show y3.length ≤ y2.length by have := rnum_le y2 e2 1; rw [hr3] at this; exact this)
  have wq3 : IntKind.i64.wrap (n3 : Int) = (n3 : Int) := by exact wrap_small _ (by omega) (by omega)
  have HNB3 := Lib.hid hn3
  clear hq3 hr3 hn3
  go_wp2_with fail
  rw [← HWW2.out]
  refine HQN3.out.mono ?_
  rintro r wx3 ⟨rfl, hop⟩
  have cq3 : wx3.cell? ⟨g, 6, none⟩ = some (.int .i64 0) := by rw [hop.cell 6]; rfl
  have fq3 : wx3.frozen? ⟨g, 6, none⟩ = false := hop.free 6
  have HOQ3 := Lib.hid (hop.set 6 (.int .i64 (n3 : Int)) (f' := (⟨(v1 : Int), v2, v3, v4, n1, (n2 : Int), (n3 : Int), 0, 0, [], []⟩ : FR)) rfl rfl)
  obtain ⟨ww3, hww3⟩ : ∃ x, x = wx3.setCell ⟨g, 6, none⟩ (.int .i64 (n3 : Int)) := ⟨_, rfl⟩
  rw [← hww3] at HOQ3
  have HWW3 := Lib.hid hww3
  clear hop hww3
  obtain ⟨b4, y4, e4, hr4⟩ : ∃ v y e, rbytes y3 e3 32 = (v, y, e) := ⟨_, _, _, rfl⟩
  obtain ⟨sb4, hsb4⟩ := str_of b4
  have hq4 := HOQ3.out.bytes 32
  rw [hr4] at hq4
  have HQN4 := Lib.hid hq4
  have HRR4 := Lib.hid hr4
  have HSB4 := Lib.hid hsb4
  have HBL4 := Lib.hid (show b4.length ≤ y3.length by have := rbytes_le y3 e3 32; rw [hr4] at this; exact this)
  clear hq4 hr4 hsb4
  go_wp2_with fail
  rw [← HWW3.out]
  refine HQN4.out.mono ?_
  rintro r wx4 ⟨a9, n9, c9, rfl, hrd9, hop⟩
  have hcv9 : (convert 29 9 (.slice a9 n9 c9)).run Try.prog wx4 = .ok (.string sb4) wx4 := by have h := rd_string hrd9; rw [h]; have h2 := HSB4.out; unfold strV at h2; rw [h2]
  have cq4 : wx4.cell? ⟨g, 9, none⟩ = some (.string ⟨#[]⟩) := by rw [hop.cell 9]; rfl
  have fq4 : wx4.frozen? ⟨g, 9, none⟩ = false := hop.free 9
  have HOQ4 := Lib.hid (hop.set 9 (.string sb4) (f' := (⟨(v1 : Int), v2, v3, v4, n1, (n2 : Int), (n3 : Int), 0, 0, b4, []⟩ : FR)) (by rw [← HSB4.out]; rfl) rfl)
  clear hop hrd9
  obtain ⟨FX, hFX⟩ : ∃ x, x = (⟨(v1 : Int), v2, v3, v4, n1, (n2 : Int), (n3 : Int), 0, 0, b4, []⟩ : FR) := ⟨_, rfl⟩
  have hrf : rfr (headOf xs) (xs.drop 23) = FX := by rw [hFX]; rw [← HR0.out, HHD.out]; unfold rfr; simp only [HK1.out, HRR1.out, HRR2.out, HRR3.out, HRR4.out]; rfl
  have hoq := HOQ4.out
  rw [← hFX] at hoq
  obtain ⟨la, ll9, lc, hlv, htx, hgb⟩ := hoq.tx
  have hvo : FX.vol < 4294967296 := by rw [hFX]; have := HNB1.out; simp only; omega
  have hft : FX.fit := by rw [hFX]; exact ⟨HFIT.out.1, HFIT.out.2.1, HFIT.out.2.2⟩
  have hdl : FX.data.length ≤ 100000 := by rw [hFX]; have hr : R0.length ≤ xs.length := by { rw [HR0.out, List.length_drop]; omega }; have := HMX.out; have := HYL1.out; have := HYL2.out; have := HYL3.out; have := HBL4.out; simp only; omega
  have hll : ∀ k, ((FX.list.take k).flatten).length ≤ 100000 := by rw [hFX]; exact fun k => by simp
  obtain ⟨Y, hY⟩ : ∃ Y, Y = frC FX (.slice la ll9 lc) := ⟨_, rfl⟩
  have hbx := hoq.box
  rw [hlv, ← hY] at hbx
  have hfv : frV FX (.slice la ll9 lc) = .agg Y := by rw [hY]; rfl
  obtain ⟨q1, q2, q3⟩ := frc_facts FX la ll9 lc
  rw [← hY] at q1 q2 q3
  have hpt := rfput_any FX la ll9 lc (wx4.setCell ⟨g, 9, none⟩ (.string sb4)) htx hvo hft hdl hll
  rw [hfv] at hpt
  have HPT := Lib.hid hpt
  have HYY := Lib.hid hY
  have Q1 := Lib.hid q1
  have Q2 := Lib.hid q2
  have Q3 := Lib.hid q3
  have HRF := Lib.hid hrf
  have HOQ := Lib.hid hoq
  have HTX := Lib.hid htx
  have HGB := Lib.hid hgb
  clear hgb hFX hrf hoq htx hvo hft hdl hll hY hfv q1 q2 q3 hpt hlv
  by_cases hgd : good FX ∧ frameB FX = xs
  case neg =>
    have HP := Lib.hid (ref_bad HXL.out HS.out HRF.out hgd)
    have hpp : (∃ (tz : ByteArray), strV (putP FX).1 = .string tz ∧ (putP FX).2 = 6) ∨ (∃ (tz : ByteArray), strV (putP FX).1 = .string tz ∧ (putP FX).2 = 0 ∧ (tz.toList == sz.toList) = false) := by
      unfold putP
      by_cases hg2 : good FX
      · rw [if_pos hg2]
        obtain ⟨tz, htz⟩ := str_of (frameB FX)
        refine .inr ⟨tz, htz, rfl, beq_eq_false_iff_ne.2 fun h => hgd ⟨hg2, ?_⟩⟩
        exact (str_eq htz HSZ.out).1 (tolist_inj h)
      · rw [if_neg hg2]
        exact .inl ⟨_, rfl, rfl⟩
    rcases hpp with ⟨tz, h1, h2⟩ | ⟨tz, h1, h2, h3⟩
    all_goals (
      have hpt := HPT.out
      rw [h1, h2] at hpt
      have HPT2 := Lib.hid hpt
      clear hpt h1 h2 HPT hgd
      go_wp2_with (with_reducible refine wpList_load_row (o := ⟨some 127, _, _, _, _, _⟩) rfl 26 (.tmp 5) rfl g rfl 26 Y (0, 0) _ hbx Try.underlying26 rfl Q1.out ?_)
      refine HPT2.out.mono ?_
      rintro r wz ⟨rfl, hbz⟩
      have hoz := HOQ.out.later hbz
      have hrs := hoz.res
      have hw5 : (wz.setRow w.heap.size frZ).heap[w.heap.size]? = some (.cells frZ 26 (0, 0)) := setRow_heap _ _ _ frZ _ _ hrs
      have HB5 := Lib.hid (below_setRow hoz.bel (Nat.le_refl _) frZ)
      clear hoz hbz hbx
      go_wp2_with (with_reducible refine wpList_store_row (o := ⟨none, _, _, _, _, _⟩) rfl 26 (.tmp 2) (.tmp 138) rfl w.heap.size frZ rfl rfl 26 frZ hrs HI0.out rfl HO0.out ?_)
      refine bodyPost_ret (results_row_tmp (p := 2) (u := 3) (ty := 26) rfl _ _ w.heap.size 26 frZ (0, 0) _ rfl hw5 Try.underlying26 rfl HI0.out) rfl ?_
      exact dg_bad HP.out rfl HB5.out)
  case pos =>
    have HP := Lib.hid (ref_good HXL.out HS.out HRF.out hgd)
    have hpt := HPT.out
    rw [show putP FX = (frameB FX, 0) from by unfold putP; rw [if_pos hgd.1], hgd.2, HSZ.out] at hpt
    have HPT2 := Lib.hid hpt
    clear hpt HPT hgd
    go_wp2_with (with_reducible refine wpList_load_row (o := ⟨some 127, _, _, _, _, _⟩) rfl 26 (.tmp 5) rfl g rfl 26 Y (0, 0) _ hbx Try.underlying26 rfl Q1.out ?_)
    refine HPT2.out.mono ?_
    rintro r wz ⟨rfl, hbz⟩
    have hoz := HOQ.out.later hbz
    have hrs := hoz.res
    have hbz2 := (hbz.block g (lt_of_block hbx)).trans hbx
    have hw5 : (wz.setRow w.heap.size Y).heap[w.heap.size]? = some (.cells Y 26 (0, 0)) := setRow_heap _ _ _ Y _ _ hrs
    have HB5 := Lib.hid (below_setRow hoz.bel (Nat.le_refl _) Y)
    have HT5 := Lib.hid (show Tx (wz.setRow w.heap.size Y) la ll9 lc FX.list from by
      refine (HTX.out.later hbz).kept (by simp [World.setRow]) fun b off e h0 _ => setRow_other wz w.heap.size b Y ?_
      have h1 := HGB.out b off e
      have h2 := HOQ.out.fq
      have h3 := HOQ.out.fg
      omega)
    clear hoz hbz
    go_wp2_with (first
      | (with_reducible refine wpList_load_row (o := ⟨some 139, _, _, _, _, _⟩) rfl 26 (.tmp 5) rfl g rfl 26 Y (0, 0) _ hbz2 Try.underlying26 rfl Q1.out ?_)
      | (with_reducible refine wpList_store_row (o := ⟨none, _, _, _, _, _⟩) rfl 26 (.tmp 2) (.tmp 139) rfl w.heap.size Y rfl rfl 26 frZ hrs Q1.out Q2.out Q3.out ?_))
    refine bodyPost_ret (results_row_tmp (p := 2) (u := 3) (ty := 26) rfl _ _ w.heap.size 26 Y (0, 0) _ rfl hw5 Try.underlying26 rfl Q1.out) rfl ?_
    exact ⟨FX, la, ll9, lc, Y, 0, HYY.out, rfl, HP.out, HT5.out, HB5.out⟩

end Go.Proofs.Ytipegdfjpmlcbaa


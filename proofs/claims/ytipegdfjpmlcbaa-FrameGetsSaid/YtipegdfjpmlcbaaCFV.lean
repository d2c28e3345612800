/-
  The document's Get of a frame: where the sum is another one.
-/
import Derived.Test.YtipegdfjpmlcbaaCFU
namespace Go.Proofs.Ytipegdfjpmlcbaa
open Go.RowKit
set_option linter.unusedVariables false
set_option linter.unusedSimpArgs false

theorem ext_str {xs : List UInt8} {sz : ByteArray} (h : strV xs = .string sz) (i j : Nat) : strV ((xs.take j).drop i) = .string (sz.extract i j) := by
  unfold strV at h ⊢
  injection h with h
  rw [← h]
  congr 1
  apply ByteArray.ext
  simp [List.drop_take]
theorem guard_txt21 (op : BinOp) (x y : Operand) (u s : ByteArray) (w : World) : Sem.run Try.prog (eqGuard op 9 x y (.string u) (.string s)) w = .ok () w := by
  unfold eqGuard
  cases op <;> rfl
theorem neq_txt21 (u s : ByteArray) (w : World) : (binOp .neq 9 (.string u) (.string s)).run Try.prog w = .ok (.bool (!decide (u = s))) w := by
  obtain ⟨xs, rfl⟩ : ∃ xs : List UInt8, u = ⟨xs.toArray⟩ := ⟨u.data.toList, by cases u; simp⟩
  obtain ⟨ys, rfl⟩ : ∃ xs : List UInt8, s = ⟨xs.toArray⟩ := ⟨s.data.toList, by cases s; simp⟩
  go_simp
  by_cases h : xs = ys <;> simp [h]
theorem tolist_inj {u s : ByteArray} (h : u.toList = s.toList) : u = s := by
  obtain ⟨xs, rfl⟩ : ∃ xs : List UInt8, u = ⟨xs.toArray⟩ := ⟨u.data.toList, by cases u; simp⟩
  obtain ⟨ys, rfl⟩ : ∃ xs : List UInt8, s = ⟨xs.toArray⟩ := ⟨s.data.toList, by cases s; simp⟩
  simp at h
  rw [h]
theorem str_eq {xs ys : List UInt8} {A B : ByteArray} (ha : strV xs = .string A) (hb : strV ys = .string B) : (A = B) ↔ (xs = ys) := by
  constructor
  · rintro rfl
    exact str_inj ha hb
  · rintro rfl
    rw [ha] at hb
    injection hb

set_option maxRecDepth 20000 in
set_option maxHeartbeats 1000000 in
theorem rget_3 (xs : List UInt8) (sz : ByteArray) (hsz : strV xs = .string sz) (hmax : xs.length ≤ 1000) (w : World) (hn : xs.length = 27 + lenOf xs) (hs : numN ((xs.drop (23 + lenOf xs)).take 4) ≠ addN 0 (xs.take (23 + lenOf xs))) :
    Calls Try.prog 13 #[.string sz] w fun e w' => DG xs w e w' := by
  have hzl : sz.size = xs.length := sd_size hsz
  have hi0 : (Try.prog.info? 26).map (·.size) = some frZ.size := by kernel_rfl
  have ho0 : frZ.all (·.oneCell') = true := by simp [frZ, Value.oneCell']
  have HI0 := Lib.hid hi0
  have HO0 := Lib.hid ho0
  have HMX := Lib.hid hmax
  have HSZ := Lib.hid hsz
  have HZL := Lib.hid hzl
  obtain ⟨W0, hW0⟩ : ∃ x, x = w.alloc (.cells frZ 26) := ⟨_, rfl⟩
  clear hi0 ho0
  obtain ⟨cc, w1, hcv, hrd1, hb1⟩ := cv_rd sz (by omega) W0
  rw [str_list hsz] at hrd1
  have hep := ep_new (by rw [← hW0]; exact hb1) hrd1
  obtain ⟨q, hq⟩ : ∃ x, x = w1.heap.size := ⟨_, rfl⟩
  obtain ⟨W2, hW2⟩ : ∃ x, x = w1.alloc (.cells #[.slice (some ⟨W0.heap.size, 0, none⟩) sz.size cc, .int .i64 0, .int .i64 0] 57) := ⟨_, rfl⟩
  rw [← hW2, ← hq] at hep
  have HW2 := Lib.hid hW2
  have HQ := Lib.hid hq
  have HN1 := Lib.hid (hep.num 1 1 rfl (by omega) (by omega) (by omega))
  obtain ⟨v1, hv1⟩ : ∃ v, v = numN (xs.take 1) := ⟨_, rfl⟩
  obtain ⟨v2, hv2⟩ : ∃ v, v = numN ((xs.drop 1).take 8) := ⟨_, rfl⟩
  obtain ⟨v3, hv3⟩ : ∃ v, v = numN ((xs.drop 9).take 8) := ⟨_, rfl⟩
  obtain ⟨v4, hv4⟩ : ∃ v, v = numN ((xs.drop 17).take 4) := ⟨_, rfl⟩
  obtain ⟨ln, hln⟩ : ∃ v, v = lenOf xs := ⟨_, rfl⟩
  have hl1 : v1 < 256 := by rw [hv1]; exact num_take_lt xs 1
  have hl4 : v4 < 4294967296 := by rw [hv4]; exact num_take_lt (xs.drop 17) 4
  have hl5 : ln < 65536 := by rw [hln]; exact lenOf_lt xs
  have z1 : IntKind.i64.wrap (v1 : Int) = (v1 : Int) := wrap_small _ (by omega) (by omega)
  have z4 : IntKind.u32.wrap (v4 : Int) = (v4 : Int) := IntWalk.u32_in _ (by omega)
  have z5 : IntKind.i64.wrap (ln : Int) = (ln : Int) := wrap_small _ (by omega) (by omega)
  have z6 : IntKind.i64.wrap (27 + (ln : Int)) = 27 + (ln : Int) := wrap_small _ (by omega) (by omega)
  have z7 : IntKind.i64.wrap (23 + (ln : Int)) = 23 + (ln : Int) := wrap_small _ (by omega) (by omega)
  rw [← hv1] at HN1
  have HV1 := Lib.hid hv1
  have HV2 := Lib.hid hv2
  have HV3 := Lib.hid hv3
  have HV4 := Lib.hid hv4
  have HLN := Lib.hid hln
  have HL5 := Lib.hid hl5
  have HN27 := Lib.hid (show 27 ≤ xs.length by omega)
  have c27 : ¬ (sz.size : Int) < 27 := by omega
  have HP := Lib.hid (show getP xs = (fr0, 9) from by unfold getP; rw [if_neg (by omega), if_neg (by omega), if_neg (by omega), if_pos hs])
  have HS := Lib.hid hs
  have HXL := Lib.hid hn
  have c28 : ¬ (sz.size : Int) < 27 + (ln : Int) := by omega
  have c29 : ¬ (sz.size : Int) > 27 + (ln : Int) := by omega
  have g1 : (0 : Int) ≤ 23 + (ln : Int) := by omega
  have g2 : 23 + (ln : Int) ≤ (sz.size : Int) := by omega
  have HW0 := Lib.hid hW0
  unfold frZ at HW0
  clear hrd1 hb1 hep hW2 hq hv1 hv2 hv3 hv4 hln hl1 hl4 hl5 hsz hmax hzl hW0 hn hs
  go_enter Try.func13, Try.ntmps13
  go_upto_region 1 with fail
  rw [← HW0.out]
  go_wp2_with fail
  rw [← HW2.out, ← HQ.out]
  refine HN1.out.mono ?_
  rintro e w3 ⟨rfl, hep3⟩
  have HD4 := Lib.hid (hep3.begin ⟨(v1 : Int), 0, 0, 0, 0, 0, 0, 0, 0, [], []⟩ rfl)
  obtain ⟨g, hg⟩ : ∃ x, x = w3.heap.size := ⟨_, rfl⟩
  obtain ⟨W4, hW4⟩ : ∃ x, x = w3.alloc (.cells (frC ⟨(v1 : Int), 0, 0, 0, 0, 0, 0, 0, 0, [], []⟩ (.slice none 0 0)) 26) := ⟨_, rfl⟩
  rw [← hW4, ← hg] at HD4
  have HW4 := Lib.hid hW4
  have HGG := Lib.hid hg
  unfold frC strV at HW4
  simp only [Int.natCast_zero] at HW4
  have HN2 := Lib.hid (HD4.out.num_ok 8 8 rfl (by omega) (by omega) (by rw [List.length_drop]; have := HN27.out; omega))
  rw [← HV2.out] at HN2
  clear hep3 hW4 hg HN1 hcv
  go_wp2_with fail
  rw [← HW4.out, ← HGG.out]
  refine HN2.out.mono ?_
  rintro e wa2 ⟨rfl, hop⟩
  have c2 : wa2.cell? ⟨g, 1, none⟩ = some (.int .u64 0) := by rw [hop.cell 1]; rfl
  have fr2 : wa2.frozen? ⟨g, 1, none⟩ = false := hop.free 1
  have HOP2 := Lib.hid (hop.set 1 (.int .u64 (v2 : Int)) (f' := ⟨(v1 : Int), v2, 0, 0, 0, 0, 0, 0, 0, [], []⟩) rfl rfl)
  rw [List.drop_drop] at HOP2
  clear hop
  obtain ⟨wb2, hwb2⟩ : ∃ x, x = wa2.setCell ⟨g, 1, none⟩ (.int .u64 (v2 : Int)) := ⟨_, rfl⟩
  rw [← hwb2] at HOP2
  have HWB2 := Lib.hid hwb2
  have HN3 := Lib.hid (HOP2.out.num_ok 8 8 rfl (by omega) (by omega) (by rw [List.length_drop]; have := HN27.out; omega))
  rw [← HV3.out] at HN3
  clear hwb2
  go_wp2_with fail
  rw [← HWB2.out]
  refine HN3.out.mono ?_
  rintro e wa3 ⟨rfl, hop⟩
  have c3 : wa3.cell? ⟨g, 2, none⟩ = some (.int .u64 0) := by rw [hop.cell 2]; rfl
  have fr3 : wa3.frozen? ⟨g, 2, none⟩ = false := hop.free 2
  have HOP3 := Lib.hid (hop.set 2 (.int .u64 (v3 : Int)) (f' := ⟨(v1 : Int), v2, v3, 0, 0, 0, 0, 0, 0, [], []⟩) rfl rfl)
  rw [List.drop_drop] at HOP3
  clear hop
  obtain ⟨wb3, hwb3⟩ : ∃ x, x = wa3.setCell ⟨g, 2, none⟩ (.int .u64 (v3 : Int)) := ⟨_, rfl⟩
  rw [← hwb3] at HOP3
  have HWB3 := Lib.hid hwb3
  have HN4 := Lib.hid (HOP3.out.num_ok 4 4 rfl (by omega) (by omega) (by rw [List.length_drop]; have := HN27.out; omega))
  rw [← HV4.out] at HN4
  clear hwb3
  go_wp2_with fail
  rw [← HWB3.out]
  refine HN4.out.mono ?_
  rintro e wa4 ⟨rfl, hop⟩
  have c4 : wa4.cell? ⟨g, 3, none⟩ = some (.int .u32 0) := by rw [hop.cell 3]; rfl
  have fr4 : wa4.frozen? ⟨g, 3, none⟩ = false := hop.free 3
  have HOP4 := Lib.hid (hop.set 3 (.int .u32 (v4 : Int)) (f' := ⟨(v1 : Int), v2, v3, v4, 0, 0, 0, 0, 0, [], []⟩) rfl rfl)
  rw [List.drop_drop] at HOP4
  clear hop
  obtain ⟨wb4, hwb4⟩ : ∃ x, x = wa4.setCell ⟨g, 3, none⟩ (.int .u32 (v4 : Int)) := ⟨_, rfl⟩
  rw [← hwb4] at HOP4
  have HWB4 := Lib.hid hwb4
  have HN5 := Lib.hid (HOP4.out.num_ok 2 2 rfl (by omega) (by omega) (by rw [List.length_drop]; have := HN27.out; omega))
  rw [show numN ((xs.drop 21).take 2) = ln from HLN.out.symm] at HN5
  clear hwb4
  go_wp2_with fail
  rw [← HWB4.out]
  refine HN5.out.mono ?_
  rintro e wH ⟨rfl, hop⟩
  rw [List.drop_drop] at hop
  have HH := Lib.hid hop
  clear hop c2 c3 c4 fr2 fr3 fr4
  obtain ⟨SA, hSA⟩ : ∃ x, x = sz.extract 0 (23 + (ln : Int)).toNat := ⟨_, rfl⟩
  obtain ⟨SB, hSB⟩ : ∃ x, x = sz.extract (23 + (ln : Int)).toNat sz.size := ⟨_, rfl⟩
  have xA : sz.extract 0 (23 + (ln : Int)).toNat = SA := hSA.symm
  have xB : sz.extract (23 + (ln : Int)).toNat sz.size = SB := hSB.symm
  have e23 : (23 + (ln : Int)).toNat = 23 + lenOf xs := by rw [← HLN.out]; omega
  have hA := ext_str HSZ.out 0 (23 + (ln : Int)).toNat
  have hB := ext_str HSZ.out (23 + (ln : Int)).toNat sz.size
  rw [xA, List.drop_zero, e23] at hA
  rw [xB, List.take_of_length_le (by rw [HZL.out]; exact Nat.le_refl _), e23] at hB
  have hzA : SA.size ≤ 1000 := by rw [sd_size hA, List.length_take]; have := HMX.out; omega
  obtain ⟨ca, wK, hcv2, hrdK, hbK⟩ := cv_rd SA (by omega) wH.drew
  rw [str_list hA] at hrdK
  obtain ⟨cs, hcs⟩ : ∃ x, x = addN 0 (xs.take (23 + lenOf xs)) := ⟨_, rfl⟩
  have hcl := addN_lt 0 (xs.take (23 + lenOf xs))
  rw [← hcs] at hcl
  have wcs : IntKind.u64.wrap (cs : Int) = (cs : Int) := IntWalk.u64_in _ (by omega)
  have hsu := rsum_any _ _ _ _ wK hrdK
  rw [← hcs] at hsu
  have HSU := Lib.hid hsu
  obtain ⟨t6, ht6⟩ := str_of (enc cs 4)
  have HX6 := Lib.hid (show ∀ w, Calls Try.prog 21 #[.int .i64 4, .int .u64 (cs : Int)] w fun e w' => e = .returned (.string t6) ∧ Below w.heap.size w w' from fun w => by have h := text_any 4 cs w (by omega) (by omega) (by omega); rw [ht6] at h; exact h)
  have heq := str_eq ht6 hB
  have hd4 : (xs.drop (23 + lenOf xs)).length = 4 := by rw [List.length_drop]; have := HXL.out; omega
  have hnq : ¬ (t6 = SB) ↔ numN ((xs.drop (23 + lenOf xs)).take 4) ≠ addN 0 (xs.take (23 + lenOf xs)) := by
    rw [heq, ← hcs]
    constructor
    · intro h1 h2
      apply h1
      rw [← h2, enc_take _ _ (by omega)]
      exact List.take_of_length_le (by omega)
    · intro h1 h2
      apply h1
      rw [← h2, List.take_of_length_le (by rw [enc_length]; omega), numN_enc (by omega)]
  have HNE := Lib.hid (hnq.2 HS.out)
  have HBK := Lib.hid (show Below wH.heap.size wH wK from ((Below.refl _ _).drew).trans hbK)
  clear hSA hSB e23 hA hB hrdK hbK hcs hsu ht6 heq hd4 hnq
  go_wp2_with fail
  refine wp_region_held_drew (S := fun _ => True) (by kernel_rfl) trivial (fun hHeld => ?_)
  refine wpAnyH_take (i := 0) (oi := { dst := some 48, op := Op.move (Operand.tmp 0), type := 9, pos := "ref.go:111", after := #[], guard := none }) (v := ?_) rfl (by kernel_rfl) (by kernel_rfl) (by kernel_rfl) (fun _ _ _ h => h) (Or.inl ⟨by rfl, ?_⟩) (by assumption) ?_
  rotate_left
  · (intro w hSw; (try dsimp only at hSw); go_simp <;> with_reducible rfl)
  try simp only [Act.put, List.setIfInBounds_toArray, List.set_cons_zero, List.set_cons_succ]
  refine wpAnyH_take (i := 1) (oi := { dst := some 49, op := Op.move (Operand.tmp 6), type := 3, pos := "ref.go:111", after := #[], guard := none }) (v := ?_) rfl (by kernel_rfl) (by kernel_rfl) (by kernel_rfl) (fun _ _ _ h => h) (Or.inl ⟨by rfl, ?_⟩) (by assumption) ?_
  rotate_left
  · (intro w hSw; (try dsimp only at hSw); go_simp <;> with_reducible rfl)
  try simp only [Act.put, List.setIfInBounds_toArray, List.set_cons_zero, List.set_cons_succ]
  refine wpAnyH_take (i := 2) (oi := { dst := some 50, op := Op.binOp BinOp.add 3 (Operand.const (Value.int IntKind.i64 23)) (Operand.tmp 49) 3, type := 3, pos := "ref.go:111", after := #[{ on := 1, ground := Ground.data }], guard := none }) (v := ?_) rfl (by kernel_rfl) (by kernel_rfl) (by kernel_rfl) (fun _ _ _ h => h) (Or.inl ⟨by rfl, ?_⟩) (by assumption) ?_
  rotate_left
  · (intro w hSw; (try dsimp only at hSw); go_simp <;> with_reducible rfl)
  try simp only [Act.put, List.setIfInBounds_toArray, List.set_cons_zero, List.set_cons_succ]
  refine wpAnyH_take (i := 3) (oi := { dst := some 51, op := Op.slice 9 (Operand.tmp 48) none (some (Operand.tmp 50)) none, type := 9, pos := "ref.go:111", after := #[{ on := 0, ground := Ground.data }, { on := 2, ground := Ground.data }], guard := none }) (v := ?_) rfl (by kernel_rfl) (by kernel_rfl) (by kernel_rfl) (fun _ _ _ h => h) (Or.inl ⟨by rfl, ?_⟩) (by assumption) ?_
  rotate_left
  · (intro w hSw; (try dsimp only at hSw); go_simp <;> with_reducible rfl)
  try simp only [Act.put, List.setIfInBounds_toArray, List.set_cons_zero, List.set_cons_succ]
  refine wpAnyH_take (i := 8) (oi := { dst := some 56, op := Op.move (Operand.tmp 0), type := 9, pos := "ref.go:111", after := #[], guard := none }) (v := ?_) rfl (by kernel_rfl) (by kernel_rfl) (by kernel_rfl) (fun _ _ _ h => h) (Or.inl ⟨by rfl, ?_⟩) (by assumption) ?_
  rotate_left
  · (intro w hSw; (try dsimp only at hSw); go_simp <;> with_reducible rfl)
  try simp only [Act.put, List.setIfInBounds_toArray, List.set_cons_zero, List.set_cons_succ]
  refine wpAnyH_take (i := 9) (oi := { dst := some 57, op := Op.move (Operand.tmp 6), type := 3, pos := "ref.go:111", after := #[], guard := none }) (v := ?_) rfl (by kernel_rfl) (by kernel_rfl) (by kernel_rfl) (fun _ _ _ h => h) (Or.inl ⟨by rfl, ?_⟩) (by assumption) ?_
  rotate_left
  · (intro w hSw; (try dsimp only at hSw); go_simp <;> with_reducible rfl)
  try simp only [Act.put, List.setIfInBounds_toArray, List.set_cons_zero, List.set_cons_succ]
  refine wpAnyH_take (i := 10) (oi := { dst := some 58, op := Op.binOp BinOp.add 3 (Operand.const (Value.int IntKind.i64 23)) (Operand.tmp 57) 3, type := 3, pos := "ref.go:111", after := #[{ on := 9, ground := Ground.data }], guard := none }) (v := ?_) rfl (by kernel_rfl) (by kernel_rfl) (by kernel_rfl) (fun _ _ _ h => h) (Or.inl ⟨by rfl, ?_⟩) (by assumption) ?_
  rotate_left
  · (intro w hSw; (try dsimp only at hSw); go_simp <;> with_reducible rfl)
  try simp only [Act.put, List.setIfInBounds_toArray, List.set_cons_zero, List.set_cons_succ]
  refine wpAnyH_take (i := 11) (oi := { dst := some 59, op := Op.slice 9 (Operand.tmp 56) (some (Operand.tmp 58)) none none, type := 9, pos := "ref.go:111", after := #[{ on := 8, ground := Ground.data }, { on := 10, ground := Ground.data }], guard := none }) (v := ?_) rfl (by kernel_rfl) (by kernel_rfl) (by kernel_rfl) (fun _ _ _ h => h) (Or.inl ⟨by rfl, ?_⟩) (by assumption) ?_
  rotate_left
  · (intro w hSw; (try dsimp only at hSw); go_simp <;> with_reducible rfl)
  try simp only [Act.put, List.setIfInBounds_toArray, List.set_cons_zero, List.set_cons_succ]
  refine wpAnyH_ready (rs := [4]) (by kernel_rfl) (by simp) ?_
  refine AllReadyH.cons (o := { dst := some 52, op := Op.convert 9 29 (Operand.tmp 51), type := 29, pos := "ref.go:111", after := #[{ on := 3, ground := Ground.data }], guard := none }) rfl (fun K hK => ?_) AllReadyH.nil
  go_simp
  refine hK _ _ (trivial) (fun hHeld => ?_)
  clear hK K
  try simp only [Act.put, List.setIfInBounds_toArray, List.set_cons_zero, List.set_cons_succ]
  refine wpAnyH_ready (rs := [5]) (by kernel_rfl) (by simp) ?_
  refine AllReadyH.cons (o := { dst := some 53, op := Op.call { callee := Callee.value (Operand.func 22), args := #[Operand.tmp 52], argTypes := #[29] }, type := 23, pos := "ref.go:111", after := #[{ on := 4, ground := Ground.data }], guard := none }) rfl (fun K hK => ?_) AllReadyH.nil
  go_simp
  go_at_call 22
  refine HSU.out.mono ?_
  rintro r w5 ⟨rfl, h⟩
  obtain rfl := h
  refine hK _ _ (trivial) (fun hHeld => ?_)
  clear hK K
  try simp only [Act.put, List.setIfInBounds_toArray, List.set_cons_zero, List.set_cons_succ]
  refine wpAnyH_take (i := 6) (oi := { dst := some 54, op := Op.convert 23 22 (Operand.tmp 53), type := 22, pos := "ref.go:111", after := #[{ on := 5, ground := Ground.data }], guard := none }) (v := ?_) rfl (by kernel_rfl) (by kernel_rfl) (by kernel_rfl) (fun _ _ _ h => h) (Or.inl ⟨by rfl, ?_⟩) (by assumption) ?_
  rotate_left
  · (intro w hSw; (try dsimp only at hSw); go_simp <;> with_reducible rfl)
  try simp only [Act.put, List.setIfInBounds_toArray, List.set_cons_zero, List.set_cons_succ]
  refine wpAnyH_ready (rs := [7]) (by kernel_rfl) (by simp) ?_
  refine AllReadyH.cons (o := { dst := some 55, op := Op.call { callee := Callee.value (Operand.func 21), args := #[Operand.const (Value.int IntKind.i64 4), Operand.tmp 54], argTypes := #[3, 22] }, type := 9, pos := "ref.go:111", after := #[{ on := 6, ground := Ground.data }, { on := 5, ground := Ground.chain }], guard := none }) rfl (fun K hK => ?_) AllReadyH.nil
  go_simp
  go_at_call 21
  with_reducible refine (HX6.out _).mono ?_
  rintro r wL ⟨rfl, hbL⟩
  have HL := Lib.hid (HH.out.later (HBK.out.trans (hbL.mono HBK.out.size)))
  clear hbL
  refine hK _ _ (trivial) (fun hHeld => ?_)
  clear hK K
  try simp only [Act.put, List.setIfInBounds_toArray, List.set_cons_zero, List.set_cons_succ]
  refine wpAnyH_take (i := 12) (oi := { dst := some 60, op := Op.binOp BinOp.neq 9 (Operand.tmp 55) (Operand.tmp 59) 9, type := 4, pos := "ref.go:111", after := #[{ on := 7, ground := Ground.data }, { on := 11, ground := Ground.data }], guard := none }) (v := .bool true) rfl (by kernel_rfl) (by kernel_rfl) (by kernel_rfl) (fun _ _ _ h => h) (Or.inl ⟨by rfl, ?_⟩) (by assumption) ?_
  · intro w' hSw
    go_simp
    exact fun h => HNE.out (tolist_inj h)
  try simp only [Act.put, List.setIfInBounds_toArray, List.set_cons_zero, List.set_cons_succ]
  refine wpAnyH_done (by kernel_rfl) ?_ _
  have hrs := HL.out.res
  have hw5 : (wL.setRow w.heap.size frZ).heap[w.heap.size]? = some (.cells frZ 26 (0, 0)) := setRow_heap _ _ _ frZ _ _ hrs
  have HB5 := Lib.hid (below_setRow HL.out.bel (Nat.le_refl _) frZ)
  go_wp2_with (with_reducible refine wpList_store_row (o := ⟨none, _, _, _, _, _⟩) rfl 26 (.tmp 2) (.tmp 61) rfl w.heap.size frZ rfl rfl 26 frZ hrs HI0.out rfl HO0.out ?_)
  refine bodyPost_ret (results_row_tmp (p := 2) (u := 3) (ty := 26) rfl _ _ w.heap.size 26 frZ (0, 0) _ rfl hw5 Try.underlying26 rfl HI0.out) rfl ?_
  exact dg_bad HP.out rfl HB5.out

end Go.Proofs.Ytipegdfjpmlcbaa


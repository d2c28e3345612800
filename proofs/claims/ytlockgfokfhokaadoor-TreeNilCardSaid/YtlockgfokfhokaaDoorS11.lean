/-
  Contracts: the reference's Sum.
-/
import Derived.Test.YtlockgfokfhokaaDoorS8
import Derived.Deep.RegionHeldLaw
import Derived.StillTailTactics
namespace Go.Proofs.YtlockgfokfhokaaDoor
open Go.RowKit
set_option linter.unusedVariables false
set_option linter.unusedSimpArgs false

set_option maxRecDepth 20000 in
theorem rconst_any : ∃ C : Array Value, (∀ j, j < 64 → C[j]? = some (.int .u32 (konAt j : Int))) ∧
    ∀ w, Calls Tryd.prog 68 #[] w fun e w' => e = .returned (.slice (some ⟨w.heap.size, 0, none⟩) 64 64) ∧ w' = w.alloc (.cells C 86) := by
  refine ⟨(kon.map fun (n : Nat) => Value.int .u32 (n : Int)).toArray, ?_, ?_⟩
  · intro j hj
    have : j < kon.length := hj
    simp [konAt, List.getD, List.getElem?_eq_getElem this]
  · intro w
    go_enter Tryd.func68, Tryd.ntmps68
    go_wp2
    go_ret
    exact ⟨rfl, rfl⟩

/-- The load of an array out of the middle of a block, as a step that leaves the world alone. -/
theorem still_load_mid {P : Program} {ops : Array Oper} {w : World} {Q : Act → Prop} {op : Oper} {rest : List Oper} {a : Act} (hgd : op.guard = none) (ty : TypeId) (x : Operand) (ho : op.op = .load ty x)
    (b o : Nat) (hx : a.eval x = .pointer (some ⟨b, o, none⟩)) (cs : List Value) (d : TypeDesc) (hc : w.rangeAt b o cs)
    (hu : P.underlying ty = some d) (hd : d.isRow = true) (hi : (P.info? ty).map (·.size) = some cs.length)
    (h : wpStill P ops w Q rest (a.put op.dst (.agg cs.toArray))) : wpStill P ops w Q (op :: rest) a := by
  refine wpStill_step (fun K hK => ?_)
  have hw : Region.wanted op (yielded ops a.tmps) = true := by simp [Region.wanted, hgd]
  rw [if_pos hw]
  unfold Oper.still execOp
  simp only [ho, hx, Instr.loadAt, Instr.sureAddr, Sem.run_bind, Sem.run_pure, Result.andThen_ok, run_loadVar_mid w b o ty cs d hc hu hd hi]
  exact ⟨rfl, hK _ h⟩

theorem stArr_size (s : St) : (stArr s).size = 8 := rfl

theorem range_row {w : World} {g : Nat} {A : Array Value} {t : TypeId} (h : w.heap[g]? = some (.cells A t (0, 0))) : w.rangeAt g 0 A.toList := fun j v hj => by
  rw [cell_of_blk h, Nat.zero_add]; simpa using hj

/-- 's[i:j]' of a slice of bytes. -/
theorem slice_mid (b off n c i j : Nat) (hi : i < j) (hj : j ≤ c) (w : World) :
    (Instr.sliceAt 44 (.slice (some ⟨b, off, none⟩) n c) (some (.int .i64 (i : Int))) (some (.int .i64 (j : Int))) none).run Tryd.prog w = .ok (.slice (some ⟨b, off + i, none⟩) (j - i) (c - i)) w := by
  have hu := Tryd.underlying44
  have hz : ∀ w, (sizeOf 5).run Tryd.prog w = .ok 1 w := fun _ => by kernel_rfl
  have h1 : i ≤ j := by omega
  have h2 : ¬ c = i := by omega
  simp [Instr.sliceAt, Instr.slice, Instr.sliceBounds, Instr.sliceBound, run_underlying hu, asIntOf, h1, hj, h2, hz, Addr.add_none, go_sem]

/-- append of bytes to a row of the call's own, as one step of a region that draws. -/
theorem step_append_bytes {P : Program} {w : World} {ops : Array Oper} {o : Oper} {a : Act} {K : Act → World → Prop} {Q : Exit → Act → World → Prop} {E : Prop} (hgd : o.guard = none) (s x : Operand) (t : TypeId)
    (ho : o.op = .call { callee := .builtin .append, args := #[s, x], argTypes := #[t, t] }) (base : Nat) (e : TypeId) (i : TypeInfo) (ht : P.underlying t = some (.slice e)) (hi : P.info? e = some i) (hz : i.zero = some (.int .u8 0)) (hsize : i.size = 1) (hby : i.bytes = 1)
    (v : Value) (n : Nat) (xs : List UInt8) (hs : a.eval s = v) (hown : w.ownsRow base e 1 v n (bvs xs)) (ad : Addr) (m c : Nat) (ys : List UInt8) (hx : a.eval x = .slice (some ad) m c) (hl : ys.length = m)
    (hnews : ∀ j u, (bvs ys)[j]? = some u → w.cell? (ad.add j) = some u) (hb : n + m ≤ 140737488355328) (hbase : base ≤ w.heap.size)
    (h : ∀ v' w', w'.ownsRow base e 1 v' (n + m) (bvs (xs ++ ys)) → w.grownBy w' v.ownBlock → K (a.put o.dst v') w') :
    if Region.wanted o (yielded ops a.tmps) = true then Oper.wp P o a w K Q else E := by
  have hw : Region.wanted o (yielded ops a.tmps) = true := by simp [Region.wanted, hgd]
  rw [if_pos hw]
  exact wp_append_own w s x t ho base e i (.int .u8 0) 1 1 ht hi hz hsize hby rfl (by omega) v n (bvs xs) hs hown ad m c (bvs ys) hx (by simp [bvs_length, hl]) hnews (bvs_one _) (by unfold maxLen; omega) (by omega) hbase (fun v' w' h1 h2 _ => h v' w' (by rw [bvs_append]; exact h1) h2)

set_option maxRecDepth 20000 in
set_option maxHeartbeats 2000000 in
theorem rsum_any (a : Option Addr) (n cap : Nat) (ys : List UInt8) (w : World) (hR : Rd w a n cap ys) (hl : n ≤ 140737488355000) :
    Calls Tryd.prog 58 #[.slice a n cap] w fun e w' => e = .returned (strV (dig ys)) ∧ Below w.heap.size w w' := by
  have hlen := Lib.hid hR.len
  obtain ⟨i5, hi, hz0, hz1, hz2⟩ := info_parts Tryd.info5
  obtain ⟨z, hz⟩ : ∃ z, z = 63 - (n + 8) % 64 := ⟨_, rfl⟩
  have HZ := Lib.hid hz
  have hz64 : z < 64 := by omega
  clear hz
  go_enter Tryd.func58, Tryd.ntmps58
  go_wp2_with (at_builtin; refine wpList_append_rd (o := ⟨some 13, _, _, _, _, _⟩) rfl (.tmp 11) (.tmp 12) 44 rfl w.heap.size 5 i5 Tryd.underlying44 hi hz0 hz1 hz2 (.slice none 0 0) 0 [] rfl (World.ownsRow_nil _ _ _ _) a n cap ys rfl hR (by omega) (Nat.le_refl _) ?_)
  intro v1 w1 hown1 hgrow1
  have hB1 := (Below.refl w.heap.size w).grown hgrow1 (Nat.le_refl _) (fun k e => by cases e)
  clear hgrow1 hR
  go_wp2_with (at_builtin; refine wpList_append_rd (o := ⟨some 16, _, _, _, _, _⟩) rfl (.tmp 14) (.tmp 15) 44 rfl w.heap.size 5 i5 Tryd.underlying44 hi hz0 hz1 hz2 v1 n ys rfl (hown1.alloc _) (some ⟨w1.heap.size, 0, none⟩) 1 1 [128] rfl (one_rd w1 _ 128 rfl) (by omega) (by have := hB1.size; simp; omega) ?_)
  intro v2 w2 hown2 hgrow2
  have hB2 := (hB1.alloc (by have := hB1.size; omega) _).grown hgrow2 (by have := hB1.size; simp; omega) (fun j hj => (hown1.lt j hj).1)
  clear hown1 hB1 hgrow2
  go_wp2
  go_loopw [3] (fun v wr => ∃ j, j ≤ z ∧ wr.ownsRow w.heap.size 5 1 v (n + 1 + j) (bvs (ys ++ (128 :: List.replicate j 0))) ∧ Below w.heap.size w wr) (fun v _ => n + 1 + z - slLen v)
  case atStart => exact ⟨0, by omega, hown2, hB2⟩
  case round =>
    clear hown2 hB2
    obtain ⟨j, hj, hown, hB⟩ := hrel
    obtain ⟨a', c', rfl, hrd, hblk⟩ := owns_shape hown (by omega)
    by_cases hlt : j < z
    · have hz := HZ.out
      have hne : (((n + 1 + j : Nat) : Int) % 64 != 56) = true := by simp; omega
      clear hz hrd
      go_wp2_with (at_builtin; refine wpList_append_rd (o := ⟨some 23, _, _, _, _, _⟩) rfl (.tmp 21) (.tmp 22) 44 rfl w.heap.size 5 i5 Tryd.underlying44 hi hz0 hz1 hz2 (.slice a' (n + 1 + j) c') (n + 1 + j) (ys ++ (128 :: List.replicate j 0)) rfl (hown.alloc _) (some ⟨wr.heap.size, 0, none⟩) 1 1 [0] rfl (one_rd wr _ 0 rfl) (by omega) (by have := hB.size; simp; omega) ?_)
      intro v3 w3 hown3 hgrow3
      have hB3 := (hB.alloc (by have := hB.size; omega) _).grown hgrow3 (by have := hB.size; simp; omega) (fun j hj => (hown.lt j hj).1)
      obtain ⟨a3, c3, rfl, _, _⟩ := owns_shape hown3 (by omega)
      have hrep : List.replicate j (0 : UInt8) ++ [0] = List.replicate (j + 1) 0 := by rw [← List.replicate_succ']
      simp only [List.append_assoc, List.cons_append, hrep] at hown3
      clear hown hB hgrow3 hrep hblk
      go_wp2
      go_roundw
      case rel => exact ⟨j + 1, by omega, hown3, hB3⟩
      case measure => simp [slLen]; omega
    · have hjz : z = j := by omega
      have hz := HZ.out
      have hne : (((n + 1 + j : Nat) : Int) % 64 != 56) = false := by simp; omega
      clear hz hlt
      subst hjz
      go_wp2
      obtain ⟨X1, hX1⟩ : ∃ X1 : List UInt8, X1 = ys ++ (128 :: List.replicate z 0) := ⟨_, rfl⟩
      obtain ⟨N, hN⟩ : ∃ N, N = n * 8 % 18446744073709551616 := ⟨_, rfl⟩
      have hNi : (n : Int) * 8 = (N : Int) := by omega
      rw [hNi]
      have hne2 : (((n : Int) + 1 + (z : Int)) % 64 != 56) = false := by have := HZ.out; simp; omega
      try simp only [hne2]
      have hx0 : encTo N 8 0 = [] := rfl
      rw [← hX1] at hown
      have HX1 := Lib.hid hX1
      have HN := Lib.hid hN
      clear hX1 hN hNi hrd hblk hne hne2 hj
      go_loopw [3, 5] (fun v i wr => ∃ k : Nat, k ≤ 8 ∧ i = .int .i64 ((8 : Int) - 1 - k) ∧ wr.ownsRow w.heap.size 5 1 v (n + 1 + z + k) (bvs (X1 ++ encTo N 8 k)) ∧ Below w.heap.size w wr) (fun _ i _ => (intOf i + 1).toNat)
      case atStart => exact ⟨0, by omega, by go_num, by simpa [hx0] using hown, hB⟩
      case round =>
        clear hown hx0 hB
        obtain ⟨k, hk, rfl, hown, hB⟩ := hrel
        by_cases hlt : k < 8
        · have hge : (0 : Int) ≤ (8 : Int) - 1 - k := by omega
          go_wp2_with (at_builtin; refine wpList_append_rd (o := ⟨some 40, _, _, _, _, _⟩) rfl (.tmp 32) (.tmp 39) 44 rfl w.heap.size 5 i5 Tryd.underlying44 hi hz0 hz1 hz2 _ (n + 1 + z + k) (X1 ++ encTo N 8 k) rfl (hown.alloc _) (some ⟨wr.heap.size, 0, none⟩) 1 1 [byteAt N (8 - 1 - k)] rfl (one_rd wr _ _ (shr_byte _ _)) (by omega) (by have := hB.size; simp; omega) ?_)
          intro v5 w5 hown5 hgrow5
          have hB5 := (hB.alloc (by have := hB.size; omega) _).grown hgrow5 (by have := hB.size; simp; omega) (fun j hj => (hown.lt j hj).1)
          have hsn : encTo N 8 k ++ [byteAt N (7 - k)] = encTo N 8 (k + 1) := (encTo_snoc N 8 k hlt).symm
          simp only [List.append_assoc, hsn] at hown5
          clear hown hB hgrow5
          go_wp2
          go_roundw
          case rel => exact ⟨k + 1, by omega, by go_num, hown5, hB5⟩
          case measure => simp [intOf]; omega
        · obtain rfl : k = 8 := by omega
          obtain ⟨av, cv, rfl, hrd, hblk⟩ := owns_shape hown (by omega)
          have hneg : ¬ (0 : Int) ≤ (8 : Int) - 1 - (8 : Nat) := by omega
          have hall : X1 ++ encTo N 8 8 = ys ++ padN n := by
            rw [show encTo N 8 8 = out8 N from List.take_of_length_le (by rw [enc_length]; omega), HX1.out, HN.out, List.append_assoc]
            unfold padN
            rw [← HZ.out]
          obtain ⟨all, hallE⟩ : ∃ all, all = ys ++ padN n := ⟨_, rfl⟩
          rw [hall, ← hallE] at hrd
          obtain ⟨L, hL⟩ : ∃ L, L = n + 1 + z + 8 := ⟨_, rfl⟩
          rw [← hL] at hrd ⊢
          have hL64 : L % 64 = 0 := by have := HZ.out; omega
          have hL0 : 0 < L := by omega
          have hLb : L ≤ 140737488355328 := by omega
          obtain ⟨bA, oA, rfl, hbl, _⟩ := hrd.at0 hL0
          have hlow : w.heap.size ≤ bA := hblk bA oA none rfl
          obtain ⟨Z, hZ⟩ : ∃ Z : Array Value, Z = Array.replicate 8 (.int .u32 0) := ⟨_, rfl⟩
          have hzz := zero_state
          rw [← hZ] at hzz
          obtain ⟨R0, hR0⟩ : ∃ R0, R0 = stArr st0 := ⟨_, rfl⟩
          have hf := first_any
          rw [← hR0] at hf
          have hi36 : (Tryd.prog.info? 87).map (·.size) = some R0.size := by rw [hR0]; kernel_rfl
          have hZR : Z.size = R0.size := by rw [hZ, hR0]; simp [stArr]
          have hone : R0.all (·.oneCell') = true := by rw [hR0]; exact stArr_one st0
          obtain ⟨Ck, hCk, hck⟩ := rconst_any
          have HCk := Lib.hid hck
          have HF := Lib.hid hf
          have HRd := Lib.hid hrd
          have HB := Lib.hid hB
          have HAll := Lib.hid hallE
          have HR0 := Lib.hid hR0
          clear hck hf hown hrd hB hall hblk hZ hallE hR0
          go_wp2_with fail
          refine (HF.out _).mono ?_
          rintro e w6 ⟨rfl, hb6⟩
          have hnew := heap_alloc_new w6 (.cells Z 87)
          go_wp2_with (with_reducible refine wpList_store_row (o := ⟨none, _, _, _, _, _⟩) rfl 87 (.tmp 6) (.tmp 41) rfl w6.heap.size R0 rfl rfl 87 Z hnew hi36 hZR hone ?_)
          have hrow := setRow_heap (w6.alloc (.cells Z 87)) w6.heap.size Z R0 87 (0, 0) hnew
          have hB6 := HB.out.trans (hb6.mono HB.out.size)
          have hB7 : Below w.heap.size w ((w6.alloc (.cells Z 87)).setRow w6.heap.size R0) := below_setRow (hB6.alloc hB6.size _) hB6.size _
          have hb67 : Below w6.heap.size w6 ((w6.alloc (.cells Z 87)).setRow w6.heap.size R0) := below_setRow ((Below.refl _ _).alloc (Nat.le_refl _) _) (Nat.le_refl _) _
          have hR7 := (HRd.out.later hb6).later hb67
          have hbg : bA < w6.heap.size := Nat.lt_of_lt_of_le hbl hb6.size
          obtain ⟨g, hg⟩ : ∃ g, g = w6.heap.size := ⟨_, rfl⟩
          rw [← hg] at hrow hB7 hR7 hbg ⊢
          have hgl : w.heap.size ≤ g := by rw [hg]; exact hB6.size
          obtain ⟨w7, hw7⟩ : ∃ w7, w7 = (w6.alloc (.cells Z 87)).setRow g R0 := ⟨_, rfl⟩
          rw [← hw7] at hrow hB7 hR7 ⊢
          have hrow8 := (Below.heap_alloc w7 (.cells Ck 86) g (lt_of_block hrow)).trans hrow
          have hB8 := hB7.alloc hB7.size (.cells Ck 86)
          have hR8 := hR7.later ((Below.refl w7.heap.size w7).alloc (Nat.le_refl _) (.cells Ck 86))
          have hK8 : KonAt (w7.alloc (.cells Ck 86)) w7.heap.size := fun j hj => by rw [cell_of_blk (heap_alloc_new w7 (.cells Ck 86))]; exact hCk j hj
          have hgk : g < w7.heap.size := lt_of_block hrow
          have hkl : w7.heap.size < (w7.alloc (.cells Ck 86)).heap.size := by simp
          have HRow := Lib.hid hrow8
          have HB8 := Lib.hid hB8
          have HR8 := Lib.hid hR8
          have HK8 := Lib.hid hK8
          clear hrow hB6 hB7 hb67 hR7 hrow8 hB8 hR8 hK8 hw7 hg hnew hi36 hZR hone hzz hb6 hCk
          go_wp2_with fail
          refine (HCk.out _).mono ?_
          rintro e w8 ⟨rfl, rfl⟩
          obtain ⟨kb, hkb⟩ : ∃ kb, kb = w7.heap.size := ⟨_, rfl⟩
          rw [← hkb] at HK8 hgk hkl ⊢
          generalize w7.alloc (.cells Ck 86) = w8 at HRow HB8 HR8 HK8 hkl ⊢
          clear hkb
          go_wp2
          go_loopw [8] (fun i wr => ∃ k m : Nat, k ≤ L / 64 ∧ m = 64 * k ∧ i = .int .i64 (m : Int) ∧ wr.heap[g]? = some (.cells (stArr (runB k st0 all)) 87 (0, 0)) ∧ KonAt wr kb ∧ Rd wr (some ⟨bA, oA, none⟩) L cv all ∧ w8.heap.size ≤ wr.heap.size ∧ Below w.heap.size w wr) (fun i _ => L - (intOf i).toNat)
          case atStart => exact ⟨0, 0, by omega, rfl, rfl, by rw [HRow.out, HR0.out]; rfl, HK8.out, HR8.out, Nat.le_refl _, HB8.out⟩
          case round =>
            obtain ⟨k, m, hk, hm, rfl, hrw, hkon, hrd, hsz, hB⟩ := hrel
            have hcv := hrd.le
            by_cases hlt : k < L / 64
            · have hml : m + 64 ≤ L := by omega
              have hle : (m : Int) + 64 ≤ (L : Int) := by omega
              have hwrap := IntWalk.i64_in ((m : Int) + 64) (by omega)
              have hsl : ∀ w, (Instr.sliceAt 44 (.slice (some ⟨bA, oA, none⟩) L cv) (some (.int .i64 (m : Int))) (some (.int .i64 ((m : Int) + 64))) none).run Tryd.prog w = .ok (.slice (some ⟨bA, oA + m, none⟩) 64 (cv - m)) w := fun w => by
                have := slice_mid bA oA L cv m (m + 64) (by omega) (by omega) w
                rw [show ((m + 64 : Nat) : Int) = (m : Int) + 64 from by omega, show m + 64 - m = 64 from by omega] at this
                exact this
              have hpart := hrd.part rfl m 64 hml (by obtain ⟨b', o', e', hb, hc⟩ := hrd.at0 hL0; cases e'; exact hb) (by obtain ⟨b', o', e', hb, hc⟩ := hrd.at0 hL0; cases e'; exact hc)
              have hnx := runB_next k st0 all
              rw [← hm] at hnx
              obtain ⟨S, hS⟩ : ∃ S, S = runB k st0 all := ⟨_, rfl⟩
              have hSok : S.ok := by rw [hS]; exact runB_ok _ _ _ st0_ok
              rw [← hS] at hrw hnx
              obtain ⟨A, hA⟩ : ∃ A, A = stArr S := ⟨_, rfl⟩
              have hblk := fun w' (h1 : KonAt w' kb) (h2 : Rd w' (some ⟨bA, oA + m, none⟩) 64 (cv - m) ((all.drop m).take 64)) => rblock_any S ((all.drop m).take 64) kb 64 bA (oA + m) (cv - m) w' hSok h1 h2
              obtain ⟨R, hR⟩ : ∃ R, R = stArr (nxt S ((all.drop m).take 64)) := ⟨_, rfl⟩
              rw [← hA, ← hR] at hblk
              rw [← hA] at hrw
              have hr1 : wr.drew.rangeAt g 0 A.toList := range_row (w := wr.drew) hrw
              have hi8 : (Tryd.prog.info? 87).map (·.size) = some A.toList.length := by rw [hA]; kernel_rfl
              have n1 : (0 : Int) ≤ (m : Int) := by omega
              have n2 : ¬ cv = m := by omega
              have n3 : (m : Int) ≤ (m : Int) + 64 := by omega
              have n4 : (m : Int) + 64 ≤ (cv : Int) := by omega
              have HM := Lib.hid hm
              have HBk := Lib.hid hblk
              have HPt := Lib.hid hpart
              have HNx := Lib.hid hnx
              have HRw := Lib.hid hrw
              have HKn := Lib.hid hkon
              have HRd2 := Lib.hid hrd
              have HB2 := Lib.hid hB
              have HA := Lib.hid hA
              have HR := Lib.hid hR
              clear hblk hpart hnx hrw hkon hrd hB hA hR hS hSok hm
              go_wp2_with fail
              refine wp_region_still_tail 7 (by kernel_rfl) (by kernel_rfl) ?_
              simp only [List.take_succ_cons, List.take_zero, List.drop_succ_cons, List.drop_zero]
              change wpStill _ _ wr.drew _ _ _
              with_reducible refine still_load_mid (op := ⟨some 50, _, _, _, _, _⟩) rfl 87 (.tmp 6) rfl g 0 rfl A.toList _ hr1 Tryd.underlying87 rfl hi8 ?_
              still_step
              still_step
              still_step
              still_step
              still_step
              still_step
              refine wpStill_nil ?_
              change wpList _ _ _ _ _ wr.drew
              clear hr1 hi8
              go_wp2_with fail
              have hK2 : KonAt wr.drew kb := fun j hj => by rw [World.cell?_drew]; exact HKn.out j hj
              have hP2 := HPt.out.drew
              rw [show m + 64 - m = 64 from by omega]
              with_reducible refine (HBk.out wr.drew hK2 hP2).mono ?_
              rintro e w9 ⟨rfl, hb9⟩
              have hg9 : w9.heap[g]? = some (.cells A 87 (0, 0)) := (hb9.block g (lt_of_block HRw.out)).trans HRw.out
              have hi36 : (Tryd.prog.info? 87).map (·.size) = some R.size := by rw [HR.out]; kernel_rfl
              have hAR : A.size = R.size := by rw [HA.out, HR.out, stArr_size, stArr_size]
              have hR1 : R.all (·.oneCell') = true := by rw [HR.out]; exact stArr_one _
              have HB9 := Lib.hid hb9
              clear hb9
              go_wp2_with (with_reducible refine wpList_store_row (o := ⟨none, _, _, _, _, _⟩) rfl 87 (.tmp 6) (.tmp 57) rfl g R rfl rfl 87 A hg9 hi36 hAR hR1 ?_)
              have hrow9 := setRow_heap w9 g A R 87 (0, 0) hg9
              have hg9b : wr.grownBy (w9.setRow g R) (some g) := gb_trans (gb_drew (World.grownBy.refl _ _)) (gb_trans (gb_below HB9.out) ⟨rfl, rfl, rfl, by simp [World.setRow], fun k hk hne => setRow_other w9 g k _ (fun e => hne (by rw [e]))⟩)
              have hgr : g < wr.heap.size := lt_of_block HRw.out
              go_roundw
              case rel =>
                refine ⟨k + 1, m + 64, by omega, by have := HM.out; omega, by go_num, ?_, ?_, ?_, ?_, ?_⟩
                · rw [hrow9, HR.out, HNx.out]
                · exact fun j hj => by
                    have h1 := HKn.out j hj
                    rw [World.cell?_of_block (w := wr) (hg9b.block _ (World.block_lt_of_cell? wr _ h1) (by show some kb ≠ some g; intro e; cases e; omega))]; exact h1
                · exact HRd2.out.kept hg9b.size (fun b off e => hg9b.block b (by cases e; omega) (by cases e; intro e2; cases e2; omega))
                · exact Nat.le_trans hsz hg9b.size
                · exact HB2.out.grown hg9b HB2.out.size (fun j hj => by cases hj; exact hgl)
              case measure => simp [intOf]; omega
            · have hkL : k = L / 64 := by omega
              have hmL : m = L := by omega
              have hall : runB k st0 all = full all := by unfold full; rw [hrd.len, hkL]
              rw [hall] at hrw
              have hle : ¬ (m : Int) + 64 ≤ (L : Int) := by omega
              have hwrap := IntWalk.i64_in ((m : Int) + 64) (by omega)
              have hdig : dig ys = outTo (full all) 8 := by rw [outTo_all, HAll.out]; unfold dig; rw [hlen.out]
              have hSok := full_ok all
              generalize full all = S at hrw hdig hSok
              obtain ⟨A, hA⟩ : ∃ A, A = stArr S := ⟨_, rfl⟩
              rw [← hA] at hrw
              have hgr : g < wr.heap.size := lt_of_block hrw
              have HRw := Lib.hid hrw
              have HD := Lib.hid hdig
              have HOK := Lib.hid (stL_lt S hSok)
              have HAat := Lib.hid (fun k hk => by rw [hA]; exact stArr_at S k hk : ∀ k, k < 8 → A[k]? = some (.int .u32 (((stL S).getD k 0 : Nat) : Int)))
              clear hrw hdig hSok hA hall hkL hmL hm hkon hrd hcv
              go_wp2
              obtain ⟨Bs, hBs⟩ : ∃ Bs, Bs = wr.heap.size := ⟨_, rfl⟩
              have hBsw : w.heap.size ≤ Bs := by rw [hBs]; exact hB.size
              go_loopw [9, 10] (fun o i wx => ∃ k : Nat, k ≤ 8 ∧ i = .int .i64 k ∧ wx.ownsRow Bs 5 1 o (4 * k) (bvs (outTo S k)) ∧ Bs ≤ wx.heap.size ∧ wx.heap[g]? = some (.cells A 87 (0, 0)) ∧ Below w.heap.size w wx) (fun _ i _ => 8 - (intOf i).toNat)
              case atStart => exact ⟨0, by omega, rfl, World.ownsRow_nil _ _ _ _, by omega, HRw.out, hB⟩
              case round =>
                obtain ⟨k, hk, rfl, hown, hbs, hrw, hBx⟩ := hrel
                obtain ⟨ao, co, rfl, hrd, _⟩ := owns_shape hown (by omega)
                by_cases hlt8 : k < 8
                · have hnl := HOK.out k
                  have hst := outTo_step S k hlt8
                  have hc0 := (cell_of_blk hrw k).trans (HAat.out k hlt8)
                  generalize (stL S).getD k 0 = N at hc0 hnl hst
                  have hcl : (#[.int .u8 (IntKind.u8.wrap ((N : Int) / 16777216)), .int .u8 (IntKind.u8.wrap ((N : Int) / 65536)), .int .u8 (IntKind.u8.wrap ((N : Int) / 256)), .int .u8 (IntKind.u8.wrap (N : Int))] : Array Value) = (bvs (out4 N)).toArray := by
                    have b3 := byteAt3 N hnl
                    rw [out4_cells, ← byteAt2, ← byteAt1, ← byteAt0, ← b3, IntKind.wrap_u8, IntKind.wrap_u8, IntKind.wrap_u8, IntKind.wrap_u8, show (N : Int) / 16777216 % 256 = (N : Int) / 16777216 from by omega]
                  have hcell0 := row_cells wr (bvs (out4 N)) 5
                  rw [← hcl] at hcell0
                  have hcell : ∀ (j : Nat) (u : Value), (bvs (out4 N))[j]? = some u → (wr.alloc (.cells #[.int .u8 (IntKind.u8.wrap ((N : Int) / 16777216)), .int .u8 (IntKind.u8.wrap ((N : Int) / 65536)), .int .u8 (IntKind.u8.wrap ((N : Int) / 256)), .int .u8 (IntKind.u8.wrap (N : Int))] 5)).drew.cell? ((⟨wr.heap.size, 0, none⟩ : Addr).add j) = some u := fun j u hj => by rw [World.cell?_drew]; exact hcell0 j u hj
                  have hl4 : (out4 N).length = 4 := by simp [out4, enc_length]
                  have hkg : ∀ w' : World, w'.heap[g]? = wr.heap[g]? → w'.cell? ⟨g, k, none⟩ = some (.int .u32 (N : Int)) := fun w' e => by
                    rw [World.cell?_of_block (w := wr) e]; exact hc0
                  have hgx : g < wr.heap.size := lt_of_block hrw
                  have hal : (wr.alloc (.cells #[.int .u8 (IntKind.u8.wrap ((N : Int) / 16777216)), .int .u8 (IntKind.u8.wrap ((N : Int) / 65536)), .int .u8 (IntKind.u8.wrap ((N : Int) / 256)), .int .u8 (IntKind.u8.wrap (N : Int))] 5)).drew.heap[g]? = wr.heap[g]? := Below.heap_alloc wr _ _ hgx
                  have ho2 : (wr.alloc (.cells #[.int .u8 (IntKind.u8.wrap ((N : Int) / 16777216)), .int .u8 (IntKind.u8.wrap ((N : Int) / 65536)), .int .u8 (IntKind.u8.wrap ((N : Int) / 256)), .int .u8 (IntKind.u8.wrap (N : Int))] 5)).drew.ownsRow Bs 5 1 (.slice ao (4 * k) co) (4 * k) (bvs (outTo S k)) := hown.alloc _
                  have hbase : Bs ≤ (wr.alloc (.cells #[.int .u8 (IntKind.u8.wrap ((N : Int) / 16777216)), .int .u8 (IntKind.u8.wrap ((N : Int) / 65536)), .int .u8 (IntKind.u8.wrap ((N : Int) / 256)), .int .u8 (IntKind.u8.wrap (N : Int))] 5)).drew.heap.size := by show Bs ≤ (wr.alloc _).heap.size; simp; omega
                  have hne : ∀ j, (Value.slice ao (4 * k) co).ownBlock = some j → Bs ≤ j := fun j e => (hown.lt j e).1
                  have hap : ∀ w' : World, (wr.alloc (.cells #[.int .u8 (IntKind.u8.wrap ((N : Int) / 16777216)), .int .u8 (IntKind.u8.wrap ((N : Int) / 65536)), .int .u8 (IntKind.u8.wrap ((N : Int) / 256)), .int .u8 (IntKind.u8.wrap (N : Int))] 5)).drew.grownBy w' (Value.slice ao (4 * k) co).ownBlock → w'.heap[g]? = wr.heap[g]? := fun w' hg2 => by
                    rw [hg2.block g (by show g < (wr.alloc _).heap.size; simp; omega) (fun e => by have := hne g e.symm; omega)]; exact hal
                  have h1 : wr.drew.cell? ⟨g, k, none⟩ = some (.int .u32 (N : Int)) := hkg _ rfl
                  have h2 : (wr.alloc (.cells #[.int .u8 (IntKind.u8.wrap ((N : Int) / 16777216)), .int .u8 (IntKind.u8.wrap ((N : Int) / 65536)), .int .u8 (IntKind.u8.wrap ((N : Int) / 256)), .int .u8 (IntKind.u8.wrap (N : Int))] 5)).drew.cell? ⟨g, k, none⟩ = some (.int .u32 (N : Int)) := hkg _ hal
                  have i1 : (0 : Int) ≤ (k : Int) := by omega
                  have i2 : (k : Int) < 8 := by omega
                  have HKG := Lib.hid hkg
                  have HAP := Lib.hid hap
                  have HO2 := Lib.hid ho2
                  have HCE := Lib.hid hcell
                  have HBA := Lib.hid hbase
                  have HST5 := Lib.hid hst
                  have HL4 := Lib.hid hl4
                  have HH1 := Lib.hid h1
                  have HH2 := Lib.hid h2
                  have HOW := Lib.hid hown
                  clear hkg hap ho2 hcell hcell0 hbase hst hcl hl4 h1 h2 hal hne hown
                  go_wp2_with fail
                  go_region_held_law (fun w' => w'.cell? ⟨g, k, none⟩ = some (.int .u32 (N : Int))) (first | exact HH1.out | exact HH2.out | exact HKG.out _ (HAP.out _ (by assumption)))
                    (first | (refine step_append_bytes (o := ⟨some 83, _, _, _, _, _⟩) rfl (.tmp 62) (.tmp 82) 44 rfl Bs 5 i5 Tryd.underlying44 hi hz0 hz1 hz2 (.slice ao (4 * k) co) (4 * k) (outTo S k) (by rfl) HO2.out ⟨wr.heap.size, 0, none⟩ 4 4 (out4 N) (by rfl) HL4.out HCE.out (by omega) HBA.out ?_; intro v' w' hown' hgrow'))
                  have hgr2 : g < wr.heap.size := hgx
                  have hB9 := ((hBx.alloc hBx.size (.cells #[.int .u8 (IntKind.u8.wrap ((N : Int) / 16777216)), .int .u8 (IntKind.u8.wrap ((N : Int) / 65536)), .int .u8 (IntKind.u8.wrap ((N : Int) / 256)), .int .u8 (IntKind.u8.wrap (N : Int))] 5)).drew).grown hgrow' (by show w.heap.size ≤ (wr.alloc _).heap.size; have := hBx.size; simp; omega) (fun j hj => Nat.le_trans hBsw (HOW.out.lt j hj).1)
                  have hg9 := (HAP.out _ hgrow').trans hrw
                  have hs9 := Nat.le_trans HBA.out hgrow'.size
                  rw [← HST5.out] at hown'
                  clear hgrow'
                  go_wp2
                  go_roundw
                  case rel => exact ⟨k + 1, by omega, by go_num, hown', hs9, hg9, hB9⟩
                  case measure => simp [intOf]; omega
                · obtain rfl : k = 8 := by omega
                  have hcv := run_string_rd hrd
                  go_wp2
                  go_ret
                  exact ⟨by rw [HD.out]; rfl, hBx⟩
end Go.Proofs.YtlockgfokfhokaaDoor


/-
  Texts put together: HF.
-/
import Derived.Test.YtpkeikbiblfidaaGreatDoorMHE
/-
  All, Every and Full: the document's.
-/
namespace Go.Proofs.YtpkeikbiblfidaaGreatDoor
open Go.RowKit
set_option linter.unusedVariables false
set_option linter.unusedSimpArgs false

/-- The digests of the first k nodes, as they are read. -/
def getL (N F C U : Int) (D : DS) (k : Nat) : List ByteArray := (List.range k).map fun j => ⟨(getP N F C U D (j : Nat)).1.toArray⟩
theorem getL_next (N F C U : Int) (D : DS) (k : Nat) : getL N F C U D (k + 1) = getL N F C U D k ++ [⟨(getP N F C U D (k : Nat)).1.toArray⟩] := by simp [getL, List.range_succ]
theorem getL_length (N F C U : Int) (D : DS) (k : Nat) : (getL N F C U D k).length = k := by simp [getL]
/-- While none has an error, they are what others makes of them. -/
theorem othL_get {N F C U : Int} {D : DS} : ∀ (k : Nat), k ≤ nodes N F C U → (∀ j, j < k → (getP N F C U D (j : Nat)).2 = 0) → othL N F C U (fun _ => false) D k = (getL N F C U D k ++ List.replicate (nodes N F C U - k) noBytes, 0)
  | 0, _, _ => by unfold othL getL; simp [runE]
  | k + 1, hk, h => by
    have ih := othL_get k (by omega) (fun j hj => h j (by omega))
    refine (runE_next ih).trans ?_
    obtain ⟨r, e, hre⟩ : ∃ r e, getP N F C U D (k : Nat) = (r, e) := ⟨_, _, rfl⟩
    have h0 := h k (by omega)
    rw [hre] at h0
    dsimp only at h0
    subst h0
    rw [othF_ok rfl hre, getL_next, hre]
    have e1 : List.replicate (nodes N F C U - k) noBytes = noBytes :: List.replicate (nodes N F C U - (k + 1)) noBytes := by
      rw [show nodes N F C U - k = (nodes N F C U - (k + 1)) + 1 from by omega]; rfl
    rw [e1]
    have hset : ∀ (A : List ByteArray) (y x : ByteArray) (Bs : List ByteArray) (n : Nat), A.length = n → (A ++ y :: Bs).set n x = A ++ x :: Bs := by
      rintro A y x Bs n rfl
      induction A with
      | nil => rfl
      | cons a A ih => simp [ih]
    rw [hset _ _ _ _ k (getL_length _ _ _ _ _ _), List.append_assoc]
    rfl
theorem othL_err {N F C U : Int} {D : DS} {k : Nat} (hk : k < nodes N F C U) (h : ∀ j, j < k → (getP N F C U D (j : Nat)).2 = 0) {r : List UInt8} {e : Int} (hre : getP N F C U D (k : Nat) = (r, e)) (he : e ≠ 0) : (othL N F C U (fun _ => false) D (nodes N F C U)).2 = e := by
  have h1 := runE_err (othL_get k (Nat.le_of_lt hk) h) (othF_bad (L := getL N F C U D k ++ List.replicate (nodes N F C U - k) noBytes) rfl hre he) he hk
  unfold othL
  rw [h1]

set_option maxRecDepth 20000 in
set_option maxHeartbeats 4000000 in
theorem rnall_any (B p : Nat) (v1 v2 : Value) (D : DS) (N F C U : Int) (w : World) (h : RD w B p v1 v2 D) (M : Nat) (hok : D.ok M) (hM : M ≤ 1000000) :
    Calls Tryz.prog 50 #[.pointer (some ⟨p, 0, none⟩), geo N F C U] w fun e w' => (∃ v, e = .returned (.tuple #[v, .int .i64 (allP N F C U D).2]) ∧ w'.ownsRow w.heap.size 9 1 v (allP N F C U D).1.length (strs (allP N F C U D).1)) ∧ Below w.heap.size w w' := by
  obtain ⟨i0, hi, hz0, hz1, hz2⟩ := info_parts Tryz.info9
  obtain ⟨R, hR⟩ : ∃ R, R = allP N F C U D := ⟨_, rfl⟩
  rw [← hR]
  obtain ⟨w0, hw0⟩ : ∃ w0, w0 = w.alloc (.cells #[.int .i64 N, .int .i64 F, .int .i64 C, .int .i64 U] 23) := ⟨_, rfl⟩
  have hb0 : Below w.heap.size w w0 := by rw [hw0]; exact (Below.refl _ w).alloc (Nat.le_refl _) _
  have hs0 : w0.heap.size = w.heap.size + 1 := by rw [hw0]; exact World.size_alloc _ _
  have hg0 : w0.heap[w.heap.size]? = some (.cells #[.int .i64 N, .int .i64 F, .int .i64 C, .int .i64 U] 23 (0, 0)) := by rw [hw0]; exact heap_alloc_new w _
  have hgc : ∀ w' : World, w'.heap[w.heap.size]? = w0.heap[w.heap.size]? → w'.cell? ⟨w.heap.size, 0, none⟩ = some (.int .i64 N) ∧ w'.cell? ⟨w.heap.size, 1, none⟩ = some (.int .i64 F) ∧ w'.cell? ⟨w.heap.size, 2, none⟩ = some (.int .i64 C) ∧ w'.cell? ⟨w.heap.size, 3, none⟩ = some (.int .i64 U) := fun w' e => by
    have e := e.trans hg0
    refine ⟨?_, ?_, ?_, ?_⟩ <;> (rw [cell_of_blk e]; rfl)
  have hgr := fun w => grright_any N F C U w
  obtain ⟨c0, c1, c2, c3⟩ := hgc w0 rfl
  have HP := Lib.hid h
  have HOK := Lib.hid hok
  have HR := Lib.hid hR
  have HW := Lib.hid hw0
  have HB0 := Lib.hid hb0
  have HGC := Lib.hid hgc
  have HS0 := Lib.hid hs0
  clear h hok hR hw0 hb0 hgc hg0 hs0
  unfold geo at hgr ⊢
  by_cases hg : okG N F C U
  · have hd : decide (okG N F C U) = true := by simpa using hg
    simp only [hd] at hgr
    have HGR := Lib.hid hgr
    have hR2 := HR.out
    unfold allP at hR2
    rw [if_neg (by simpa using hg)] at hR2
    obtain ⟨n, hn⟩ : ∃ n, n = nodes N F C U := ⟨_, rfl⟩
    have hnl := nodes_le N F C U
    have hnd := fun w => rnodes_any N F C U w
    rw [← hn] at hR2 hnl
    simp only [← hn] at hnd
    unfold geo at hnd
    have HND := Lib.hid hnd
    have HR2 := Lib.hid hR2
    have HN := Lib.hid hn
    clear hgr hd hg hR2 hn hnd
    go_enter Tryz.func50, Tryz.ntmps50
    go_upto_region 1 with fail
    rw [← HW.out]
    go_wp2_with fail
    refine (HGR.out _).mono ?_
    rintro e w1 ⟨rfl, hb1⟩
    have hB1 := HB0.out.trans (hb1.mono HB0.out.size)
    obtain ⟨c0, c1, c2, c3⟩ := HGC.out w1 (hb1.block _ (by have := HS0.out; omega))
    have HB01 := Lib.hid hb1
    clear hb1 hB1
    go_wp2_with fail
    refine (HND.out _).mono ?_
    rintro e w2 ⟨rfl, hb2⟩
    have hB2 := HB01.out.trans (hb2.mono HB01.out.size)
    have HB2 := Lib.hid hB2
    clear hb2 hB2 c0 c1 c2 c3
    go_wp2
    go_loopw [6, 8] (fun s i wr => ∃ k : Nat, k ≤ n ∧ i = .int .i64 k ∧ (∀ j, j < k → (getP N F C U D (j : Nat)).2 = 0) ∧ wr.ownsRow w2.heap.size 9 1 s k (strs (getL N F C U D k)) ∧ Below w2.heap.size w2 wr) (fun _ i _ => n - (intOf i).toNat)
    case atStart => exact ⟨0, by omega, rfl, fun j hj => by omega, World.ownsRow_nil _ _ _ _, Below.refl _ _⟩
    case round =>
      obtain ⟨k, hk, rfl, hz, ho, hB⟩ := hrel
      have HBR := Lib.hid (show Below w0.heap.size w0 wr from HB2.out.trans (hB.mono HB2.out.size))
      have HZ := Lib.hid hz
      have HBQ := Lib.hid hB
      clear hz hB
      by_cases hlt : k < n
      · have i1 : (k : Int) < (n : Int) := by omega
        obtain ⟨c0, c1, c2, c3⟩ := HGC.out wr (HBR.out.block _ (by have := HS0.out; omega))
        have hgt := rnget_any B p v1 v2 D N F C U k wr (HP.out.below (HB0.out.trans (HBR.out.mono HB0.out.size))) M HOK.out hM
        have hnx := getL_next N F C U D k
        obtain ⟨r, e, hre⟩ : ∃ r e, getP N F C U D k = (r, e) := ⟨_, _, rfl⟩
        rw [hre] at hgt hnx
        dsimp only at hgt hnx
        obtain ⟨s, hs⟩ : ∃ s : ByteArray, s = ⟨r.toArray⟩ := ⟨_, rfl⟩
        rw [show strV r = Value.string s from by rw [hs]; rfl] at hgt
        rw [← hs] at hnx
        unfold geo at hgt
        have HGT := Lib.hid hgt
        have HRE := Lib.hid hre
        have HNX := Lib.hid hnx
        clear hgt hre hs hnx
        go_wp2_with fail
        refine HGT.out.mono ?_
        rintro e' w3 ⟨rfl, hb3⟩
        have HB3 := Lib.hid (HBQ.out.trans (hb3.mono HBQ.out.size))
        have HB03 := Lib.hid (HBR.out.trans (hb3.mono HBR.out.size))
        have ho3 := owns_kept ho fun q hq => hb3.block q (ho.lt q hq).2
        clear hb3 ho HGT c0 c1 c2 c3
        by_cases he : e = 0
        · subst he
          go_wp2_with (at_builtin; refine wpList_append_s (o := ⟨some 34, _, _, _, _, _⟩) rfl (.tmp 31) (.tmp 33) 49 rfl w2.heap.size i0 Tryz.underlying49 hi hz0 hz1 hz2 _ k _ rfl (ho3.alloc _) _ rfl rfl (by omega) (by have := HB3.out.size; simp; omega) ?_)
          intro v5 w5 h1 h2 _
          rw [← HNX.out] at h1
          have hB5 := (HB3.out.alloc HB3.out.size (.cells #[.string s] 9)).grown h2 (HB3.out.alloc HB3.out.size (.cells #[.string s] 9)).size (fun x e => (ho3.lt x e).1)
          obtain ⟨a5, c5, rfl, _, _⟩ := towns_shape h1
          have HO5 := Lib.hid h1
          have HB5 := Lib.hid hB5
          have HZ2 := Lib.hid (show ∀ j, j < k + 1 → (getP N F C U D (j : Nat)).2 = 0 from fun j hj => by
            rcases Nat.lt_or_ge j k with h | h
            · exact HZ.out j h
            · obtain rfl : j = k := by omega
              rw [HRE.out])
          clear h1 h2 hB5 ho3
          go_wp2
          go_roundw
          case rel => exact ⟨k + 1, by omega, by go_num, HZ2.out, HO5.out, HB5.out⟩
          case measure => simp [intOf]; omega
        · have he2 : (e == 0) = false := by simpa using he
          have he3 : (e != 0) = true := by simp [he]
          have HE := Lib.hid (show R = ([], e) from by
            have h1 := othL_err (N := N) (F := F) (C := C) (U := U) (D := D) (k := k) (by have := HN.out; omega) HZ.out HRE.out he
            rw [← HN.out] at h1
            rw [HR2.out, h1, if_pos he])
          clear he
          go_wp2
          refine bodyPost_ret (results_tmp2 rfl _ _ _) rfl ?_
          rw [HE.out]
          exact ⟨⟨.slice none 0 0, rfl, World.ownsRow_nil _ _ _ _⟩, HB0.out.trans (HB03.out.mono HB0.out.size)⟩
      · obtain rfl : k = n := by omega
        have i1 : ¬ (k : Int) < (k : Int) := by omega
        have HE := Lib.hid (show R = (getL N F C U D k, 0) from by
          have h1 := othL_get (N := N) (F := F) (C := C) (U := U) (D := D) k (by have := HN.out; omega) HZ.out
          rw [← HN.out, Nat.sub_self] at h1
          simp only [List.replicate_zero, List.append_nil] at h1
          rw [HR2.out, h1]; simp)
        obtain ⟨a5, c5, rfl, _, _⟩ := towns_shape ho
        have HO := Lib.hid (owns_low ho (show w.heap.size ≤ w2.heap.size from Nat.le_trans HB0.out.size HB2.out.size))
        clear ho
        go_wp2
        refine bodyPost_ret (results_tmp2 rfl _ _ _) rfl ?_
        rw [HE.out]
        exact ⟨⟨.slice a5 k c5, rfl, by rw [getL_length]; exact HO.out⟩, HB0.out.trans (HBR.out.mono HB0.out.size)⟩
  · have hd : decide (okG N F C U) = false := by simpa using hg
    simp only [hd] at hgr
    have HGR := Lib.hid hgr
    have HE := Lib.hid (show R = ([], 12) from by rw [HR.out]; unfold allP; rw [if_pos hg])
    clear hgr hd hg
    go_enter Tryz.func50, Tryz.ntmps50
    go_upto_region 1 with fail
    rw [← HW.out]
    go_wp2_with fail
    refine (HGR.out _).mono ?_
    rintro e wa ⟨rfl, hba⟩
    have HBA := Lib.hid (HB0.out.trans (hba.mono HB0.out.size))
    clear hba
    go_wp2
    refine bodyPost_ret (results_tmp2 rfl _ _ _) rfl ?_
    rw [HE.out]
    exact ⟨⟨.slice none 0 0, rfl, World.ownsRow_nil _ _ _ _⟩, HBA.out⟩

/-- How many numbers the document's Every tells. -/
def evN (N : Int) : Nat := (min N 128).toNat

set_option maxRecDepth 20000 in
set_option maxHeartbeats 4000000 in
theorem every_any (N F C U : Int) (w : World) :
    Calls Tryz.prog 110 #[geo N F C U] w fun e w' => (∃ v, e = .returned v ∧ w'.ownsRow w.heap.size 3 1 v (evN N) (ivs (firstL (evN N)))) ∧ Below w.heap.size w w' := by
  obtain ⟨i0, hi, hz0, hz1, hz2⟩ := info_parts Tryz.info3
  obtain ⟨w0, hw0⟩ : ∃ w0, w0 = w.alloc (.cells #[.int .i64 N, .int .i64 F, .int .i64 C, .int .i64 U] 23) := ⟨_, rfl⟩
  have hb0 : Below w.heap.size w w0 := by rw [hw0]; exact (Below.refl _ w).alloc (Nat.le_refl _) _
  have hs0 : w0.heap.size = w.heap.size + 1 := by rw [hw0]; exact World.size_alloc _ _
  have hg0 : w0.heap[w.heap.size]? = some (.cells #[.int .i64 N, .int .i64 F, .int .i64 C, .int .i64 U] 23 (0, 0)) := by rw [hw0]; exact heap_alloc_new w _
  have hgc : ∀ w' : World, w'.heap[w.heap.size]? = w0.heap[w.heap.size]? → w'.cell? ⟨w.heap.size, 0, none⟩ = some (.int .i64 N) := fun w' e => by
    have e := e.trans hg0
    rw [cell_of_blk e]; rfl
  have HW := Lib.hid hw0
  have HB0 := Lib.hid hb0
  have HGC := Lib.hid hgc
  have HS0 := Lib.hid hs0
  clear hw0 hb0 hgc hg0 hs0
  obtain ⟨M, hM⟩ : ∃ M, M = evN N := ⟨_, rfl⟩
  rw [← hM]
  have hM128 : M ≤ 128 := by rw [hM]; unfold evN; omega
  have HM := Lib.hid hM
  clear hM
  unfold geo
  go_enter Tryz.func110, Tryz.ntmps110
  go_upto_region 1 with fail
  rw [← HW.out]
  go_wp2
  go_loopw [3, 4] (fun s i wr => ∃ k : Nat, k ≤ M ∧ i = .int .i64 k ∧ wr.ownsRow w0.heap.size 3 1 s k (ivs (firstL k)) ∧ Below w0.heap.size w0 wr) (fun _ i _ => M - (intOf i).toNat)
  case atStart => exact ⟨0, by omega, rfl, World.ownsRow_nil _ _ _ _, Below.refl _ _⟩
  case round =>
    obtain ⟨k, hk, rfl, ho, hB⟩ := hrel
    have c0 := HGC.out wr (hB.block _ (by have := HS0.out; omega))
    have HBR := Lib.hid hB
    have HS1 := Lib.hid hB.size
    clear hB
    by_cases hlt : k < M
    · have i1 : (k : Int) < N := by have := HM.out; unfold evN at this; omega
      have i2 : (k : Int) < 128 := by omega
      go_wp2_with (at_builtin; refine wpList_append_i (o := ⟨some 18, _, _, _, _, _⟩) rfl (.tmp 15) (.tmp 17) 34 rfl w0.heap.size i0 Tryz.underlying34 hi hz0 hz1 hz2 _ k _ rfl (ho.alloc _) _ rfl rfl (by omega) (by have := HS1.out; simp; omega) ?_)
      intro v5 w5 h1 h2
      rw [← firstL_next] at h1
      have hB5 := (HBR.out.alloc HBR.out.size (.cells #[.int .i64 (k : Int)] 3)).grown h2 (HBR.out.alloc HBR.out.size (.cells #[.int .i64 (k : Int)] 3)).size (fun x e => (ho.lt x e).1)
      obtain ⟨a5, c5, rfl, _, _⟩ := iowns_shape h1 (by omega)
      have HO5 := Lib.hid h1
      have HB5 := Lib.hid hB5
      clear h1 h2 hB5 ho
      go_wp2
      go_roundw
      case rel => exact ⟨k + 1, by omega, by go_num, HO5.out, HB5.out⟩
      case measure => simp [intOf]; omega
    · obtain rfl : k = M := by omega
      obtain ⟨a5, c5, rfl, _, _⟩ := iowns_shape ho (by omega)
      have HO := Lib.hid (owns_low ho HB0.out.size)
      have HBF := Lib.hid (HB0.out.trans (HBR.out.mono HB0.out.size))
      clear ho
      by_cases h1 : (k : Int) < N
      · have h2 : ¬ (k : Int) < 128 := by have := HM.out; unfold evN at this; omega
        go_wp2
        go_ret
        exact ⟨⟨_, rfl, HO.out⟩, HBF.out⟩
      · go_wp2
        go_ret
        exact ⟨⟨_, rfl, HO.out⟩, HBF.out⟩

theorem full_every (N F C U : Int) (D : DS) : rehP N F C U D (firstL (evN N)) = fullP N F C U D := by
  unfold fullP
  by_cases h : okG N F C U
  · obtain ⟨h1, h2, -⟩ := h
    rw [show evN N = N.toNat from by unfold evN; omega]
    rfl
  · rw [rehP_geom h, rehP_geom h]

set_option maxRecDepth 20000 in
set_option maxHeartbeats 4000000 in
theorem rnfull_any (B p : Nat) (v1 v2 : Value) (D : DS) (N F C U : Int) (w : World) (h : RD w B p v1 v2 D) (hB : B ≤ w.heap.size) (M : Nat) (hok : D.ok M) (hM : M + 300 ≤ 1000000) (hz : D.sz) :
    Calls Tryz.prog 52 #[.pointer (some ⟨p, 0, none⟩), geo N F C U] w fun e w' => e = .returned (.tuple #[strV (fullP N F C U D).1.1, .int .i64 (fullP N F C U D).1.2]) ∧ RP w B p v1 v2 (fullP N F C U D).2 w' := by
  obtain ⟨R, hR⟩ : ∃ R, R = fullP N F C U D := ⟨_, rfl⟩
  rw [← hR]
  obtain ⟨w0, hw0⟩ : ∃ w0, w0 = w.alloc (.cells #[.int .i64 N, .int .i64 F, .int .i64 C, .int .i64 U] 23) := ⟨_, rfl⟩
  have hb0 : Below w.heap.size w w0 := by rw [hw0]; exact (Below.refl _ w).alloc (Nat.le_refl _) _
  have hs0 : w0.heap.size = w.heap.size + 1 := by rw [hw0]; exact World.size_alloc _ _
  have hg0 : w0.heap[w.heap.size]? = some (.cells #[.int .i64 N, .int .i64 F, .int .i64 C, .int .i64 U] 23 (0, 0)) := by rw [hw0]; exact heap_alloc_new w _
  have hgc : ∀ w' : World, w'.heap[w.heap.size]? = w0.heap[w.heap.size]? → w'.cell? ⟨w.heap.size, 0, none⟩ = some (.int .i64 N) ∧ w'.cell? ⟨w.heap.size, 1, none⟩ = some (.int .i64 F) ∧ w'.cell? ⟨w.heap.size, 2, none⟩ = some (.int .i64 C) ∧ w'.cell? ⟨w.heap.size, 3, none⟩ = some (.int .i64 U) := fun w' e => by
    have e := e.trans hg0
    refine ⟨?_, ?_, ?_, ?_⟩ <;> (rw [cell_of_blk e]; rfl)
  have hev := fun w => every_any N F C U w
  have hre := fun w' (a : Option Addr) (c : Nat) (hb : Below w.heap.size w w') (hri : Ri w' a (evN N) c (firstL (evN N))) => rreh_any B p v1 v2 D N F C U a (evN N) c (firstL (evN N)) w' (h.below hb) (Nat.le_trans hB hb.size) M hok hM hz hri
  rw [full_every, ← hR] at hre
  obtain ⟨s, hs⟩ : ∃ s : ByteArray, s = ⟨R.1.1.toArray⟩ := ⟨_, rfl⟩
  rw [show strV R.1.1 = Value.string s from by rw [hs]; rfl] at hre ⊢
  obtain ⟨q, hq⟩ : ∃ q, q = R.1.2 := ⟨_, rfl⟩
  obtain ⟨T, hT⟩ : ∃ T, T = R.2 := ⟨_, rfl⟩
  rw [← hq, ← hT] at hre ⊢
  obtain ⟨en, hen⟩ : ∃ n, n = evN N := ⟨_, rfl⟩
  have hen2 : en ≤ 128 := by rw [hen]; unfold evN; omega
  simp only [← hen] at hev hre
  have hkp : ∀ w', Below w0.drew.heap.size w0.drew w' → (w'.cell? ⟨w.heap.size, 0, none⟩ = some (.int .i64 N) ∧ w'.cell? ⟨w.heap.size, 1, none⟩ = some (.int .i64 F) ∧ w'.cell? ⟨w.heap.size, 2, none⟩ = some (.int .i64 C) ∧ w'.cell? ⟨w.heap.size, 3, none⟩ = some (.int .i64 U)) := fun w' hb => hgc w' (hb.block _ (show w.heap.size < w0.heap.size by omega))
  have hd0 : ∀ w', Below w0.drew.heap.size w0.drew w' → Below w.heap.size w w' := fun w' hb => hb0.drew.trans (hb.mono hb0.drew.size)
  have hkr : ∀ wn w', Below w0.drew.heap.size w0.drew wn → RP wn B p v1 v2 T w' → (w'.cell? ⟨w.heap.size, 0, none⟩ = some (.int .i64 N) ∧ w'.cell? ⟨w.heap.size, 1, none⟩ = some (.int .i64 F) ∧ w'.cell? ⟨w.heap.size, 2, none⟩ = some (.int .i64 C) ∧ w'.cell? ⟨w.heap.size, 3, none⟩ = some (.int .i64 U)) := fun wn w' hb hpp => by
    obtain ⟨_, _, _, hf, _⟩ := hpp
    have hs1 : w.heap.size < w0.drew.heap.size := show w.heap.size < w0.heap.size by omega
    exact hgc w' ((hf.block _ (Nat.lt_of_lt_of_le hs1 hb.size) (fun hx => by have := (h.foot_low _ hx).2; omega)).trans (hb.block _ hs1))
  have HD0 := Lib.hid hd0
  have HKR := Lib.hid hkr
  unfold geo at hev hre ⊢
  have HEV := Lib.hid hev
  have HRE := Lib.hid hre
  have HKP := Lib.hid hkp
  have HW := Lib.hid hw0
  have HB0 := Lib.hid hb0
  have hG : Below w0.drew.heap.size w0.drew w0.drew := Below.refl _ _
  clear hev hre hkp hw0 hb0 hs hq hT hR hgc hg0 hs0 hen h hok hz hd0 hkr
  go_enter Tryz.func52, Tryz.ntmps52
  go_upto_region 1 with fail
  rw [← HW.out]
  go_wp2_with fail
  go_region_held3 (fun w' : World => w'.cell? ⟨w.heap.size, 0, none⟩ = some (.int .i64 N) ∧ w'.cell? ⟨w.heap.size, 1, none⟩ = some (.int .i64 F) ∧ w'.cell? ⟨w.heap.size, 2, none⟩ = some (.int .i64 C) ∧ w'.cell? ⟨w.heap.size, 3, none⟩ = some (.int .i64 U))
    (first | exact HKP.out _ hG | exact HKR.out _ _ hG hpp)
    (first
    | (go_at_call 110; with_reducible refine (HEV.out _).mono ?_; rintro r wn ⟨⟨v, rfl, hv⟩, hb⟩; replace hG := hG.trans (hb.mono hG.size); clear hb; obtain ⟨ea, ec, rfl, hri, _⟩ := iowns_shape hv (by omega))
    | (go_at_call 51; with_reducible refine (HRE.out _ _ _ (HD0.out _ hG) hri).mono ?_; rintro r wn2 ⟨rfl, hpp⟩; have hpp2 := hrp_below (HD0.out _ hG) hpp))
  all_goals (
    rename_i hHeld
    clear hHeld
    have HPP := Lib.hid hpp2
    clear hG hpp hpp2
    go_wp2
    refine bodyPost_ret (results_tmp2 rfl _ _ _) rfl ?_
    exact ⟨rfl, HPP.out⟩)
end Go.Proofs.YtpkeikbiblfidaaGreatDoor

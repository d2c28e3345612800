/-
  Texts put together: Q9, QA.
-/
import Derived.Test.YtjohgagiccndpaaGreatDoorMQ6
import Derived.Test.YtjohgagiccndpaaGreatDoorMPJ
import Derived.ProofKit
import Derived.OpenShut
import Derived.ChangeOld
import Derived.Below
import Derived.SizedLaws
import Derived.Deep.SlicePairs
import Derived.Deep.Grids
/-
  The walk of CowKeeps, where the tests let it go on.
-/
namespace Go.Proofs.YtjohgagiccndpaaGreatDoor
open Go.RowKit
set_option linter.unusedVariables false
set_option linter.unusedSimpArgs false

set_option maxRecDepth 20000 in
set_option maxHeartbeats 4000000 in
theorem cowkeeps_near (N F C U : Int) (ap : Option Addr) (np cp : Nat) (xs : List Int) (ep : Nat) (fu : Int) (ak : Option Addr) (nk ck : Nat) (bs : List Bool) (w : World) (hP : Ri w ap np cp xs) (hK : Bl w ak nk bs) (ho : okG N F C U) (hN : N ≤ 20) (hC : C ≤ 20) (he : ep < 18446744073709551616) (hf0 : 0 ≤ fu) (hfm : fu ≤ 9223372036854775807) (hn : np ≤ 60) :
    Calls Tryz.prog 7 #[geo N F C U, .slice ap np cp, .int .u64 (ep : Int), .agg #[.int .i64 fu, .slice ak nk ck]] w fun e w' => e = .returned (.bool true) ∧ Below w.heap.size w w' := by
  have hgr := fun w => grright_any N F C U w
  rw [decide_eq_true ho] at hgr
  have hsz := fun w => rsize_any N F C U 0 w
  obtain ⟨sz, hszd⟩ : ∃ sz : Nat, sz = 6 + N.toNat + nodes N F C U + 2 * C.toNat := ⟨_, rfl⟩
  have hszv : sizeOf' N F C U 0 = (sz : Int) := by
    unfold sizeOf'
    have h1 := ho.1
    have h2 := ho.2.2.2.2
    rw [if_pos ⟨ho, .inl rfl⟩, hszd]
    unfold sec
    simp
    omega
  have hszm : sz ≤ 1200 := by have := nodes_few N F C U; have := ho.2.2.2.2.1; have := ho.1; omega
  have hszp : 1 ≤ sz := by omega
  have hfr : CFresh N F C U (List.replicate sz (secOf 0)) ep [] := by rw [hszd]; exact CFresh.new ho
  rw [hszv] at hsz
  unfold geo at hgr hsz ⊢
  -- the two boxes
  obtain ⟨W, hW⟩ : ∃ W, W = (w.alloc (.cells #[.int .i64 N, .int .i64 F, .int .i64 C, .int .i64 U] 23)).alloc (.cells #[.int .i64 fu, .slice ak nk ck] 85) := ⟨_, rfl⟩
  have hG0 : W.heap[w.heap.size]? = some (.cells #[.int .i64 N, .int .i64 F, .int .i64 C, .int .i64 U] 23 (0, 0)) := by rw [hW]; exact (Below.heap_alloc _ _ _ (by simp)).trans (heap_alloc_new w _)
  have hH0 : W.heap[w.heap.size + 1]? = some (.cells #[.int .i64 fu, .slice ak nk ck] 85 (0, 0)) := by
    have := heap_alloc_new (w.alloc (.cells #[.int .i64 N, .int .i64 F, .int .i64 C, .int .i64 U] 23)) (.cells #[.int .i64 fu, .slice ak nk ck] 85)
    rw [World.size_alloc] at this
    rw [hW]; exact this
  have hb0 : Below w.heap.size w W := by rw [hW]; exact ((Below.refl _ w).alloc (Nat.le_refl _) _).alloc (by simp) _
  have hs0 : W.heap.size = w.heap.size + 2 := by rw [hW]; simp
  have hgc : ∀ w', Below W.heap.size W w' → (w'.cell? ⟨w.heap.size, 0, none⟩ = some (.int .i64 N) ∧ w'.cell? ⟨w.heap.size, 1, none⟩ = some (.int .i64 F) ∧ w'.cell? ⟨w.heap.size, 2, none⟩ = some (.int .i64 C) ∧ w'.cell? ⟨w.heap.size, 3, none⟩ = some (.int .i64 U)) ∧ w'.cell? ⟨w.heap.size + 1, 0, none⟩ = some (.int .i64 fu) ∧ w'.cell? ⟨w.heap.size + 1, 1, none⟩ = some (.slice ak nk ck) := fun w' hb => by
    have e := (hb.block _ (lt_of_block hG0)).trans hG0
    have e2 := (hb.block _ (lt_of_block hH0)).trans hH0
    refine ⟨⟨?_, ?_, ?_, ?_⟩, ?_, ?_⟩
    · rw [cell_of_blk e]; rfl
    · rw [cell_of_blk e]; rfl
    · rw [cell_of_blk e]; rfl
    · rw [cell_of_blk e]; rfl
    · rw [cell_of_blk e2]; rfl
    · rw [cell_of_blk e2]; rfl
  have HGC := Lib.hid hgc
  have HGR := Lib.hid hgr
  have HSZ := Lib.hid hsz
  have HB0 := Lib.hid hb0
  have HS0 := Lib.hid hs0
  have HO := Lib.hid ho
  have HFR := Lib.hid hfr
  have HP := Lib.hid hP
  have HK := Lib.hid hK
  have HW := Lib.hid hW
  have HSM := Lib.hid (And.intro hszm hszp)
  obtain ⟨⟨c0, c1, c2, c3⟩, c4, c5⟩ := hgc W (Below.refl _ _)
  clear hgc hgr hsz hb0 hs0 hG0 hH0 hW hfr hP hK ho hszv hszd hszm hszp
  have i1 : (N : Int) ≤ 20 := hN
  have i2 : (C : Int) ≤ 20 := hC
  have i4 : (0 : Int) ≤ fu := hf0
  have i5 : (np : Int) ≤ 60 := by omega
  go_enter Tryz.func7, Tryz.ntmps7
  go_upto_region 1 with fail
  rw [← HW.out]
  go_wp2_with fail
  refine (HGR.out _).mono ?_
  rintro e w1 ⟨rfl, hb⟩
  have HB1 := Lib.hid (show Below W.heap.size W w1 from hb)
  obtain ⟨⟨c0', c1', c2', c3'⟩, c4', c5'⟩ := HGC.out w1 hb
  clear hb c0 c1 c2 c3 c4 c5
  go_upto_region 3 with fail
  go_wp2_with fail
  refine (HSZ.out _).mono ?_
  rintro e w2 ⟨rfl, hb⟩
  have HB2 := Lib.hid (HB1.out.trans (hb.mono HB1.out.size))
  clear hb HB1 c0' c1' c2' c3' c4' c5' HSZ HGR
  have hnew := st_new sz w2 HSM.out.2 HSM.out.1
  have HNEW := Lib.hid hnew
  clear hnew
  go_wp2_with fail
  refine HNEW.out.mono ?_
  rintro e w3 ⟨p, rfl, hst⟩
  rw [ds0_flat] at hst
  have HKS := Lib.hid (show KS w2 w2.heap.size w3 p (flat (List.replicate sz (secOf 0)) 0) [] (.slice none 0 0) from ⟨hst.less (fun k hk => by cases hk), World.ownsRow_nil _ _ _ _, Nat.le_refl _, hst.size⟩)
  have HGL := Lib.hid (fun w' (hb : Below w2.heap.size w2 w') => HGC.out w' (HB2.out.trans (hb.mono HB2.out.size)))
  have HBW := Lib.hid (HB0.out.trans (HB2.out.mono (by have := HS0.out; omega)))
  clear hst HNEW
  go_upto_region 6 with fail
  go_loopw [11, 12] (fun v i wr => ∃ (k : Nat) (l : List En) (L : List ByteArray) (did : Nat), k ≤ np ∧ i = .int .i64 (k : Int) ∧ KS w2 w2.heap.size wr p (flat L did) l v ∧ CFresh N F C U L ep l ∧ did ≤ 4 * k ∧ L.length = sz) (fun _ i _ => np - (intOf i).toNat)
  case atStart => exact ⟨0, [], _, 0, by omega, rfl, HKS.out, HFR.out, by omega, by simp⟩
  case round =>
    obtain ⟨k, l, L, did, hk, rfl, hKS, hF, hdid, hLs⟩ := hrel
    obtain ⟨va, vc, rfl, hes⟩ := hKS.es
    have HKR := Lib.hid hKS
    have HF := Lib.hid hF
    have HES := Lib.hid hes
    clear hKS hF hes
    by_cases hlt : k < np
    · have j1 : (0 : Int) ≤ (k : Int) := by omega
      have j2 : (k : Int) < (np : Int) := by omega
      have j3 : (np : Int) ≤ (cp : Int) := by have := HP.out.le; omega
      have j4 : (cp : Int) ≤ 9223372036854775807 := by have := HP.out.cm; unfold maxLen at this; omega
      have wr1 : IntKind.i64.wrap ((k : Int) + 1) = (k : Int) + 1 := IntWalk.i64_in _ (by omega)
      obtain ⟨⟨c0, c1, c2, c3⟩, c4, c5⟩ := HGL.out wr HKR.out.fin
      obtain ⟨pb, po, rfl, hpb, hpc⟩ := HP.out.at0 (by omega)
      have hwk : ∀ w', Below w2.heap.size w2 w' → Below w.heap.size w w' := fun w' hb => HBW.out.trans (hb.mono HBW.out.size)
      have hpr : ∀ w', Below w2.heap.size w2 w' → (w'.cell? ⟨w.heap.size, 0, none⟩ = some (.int .i64 N) ∧ w'.cell? ⟨w.heap.size, 1, none⟩ = some (.int .i64 F) ∧ w'.cell? ⟨w.heap.size, 2, none⟩ = some (.int .i64 C) ∧ w'.cell? ⟨w.heap.size, 3, none⟩ = some (.int .i64 U)) ∧ w'.cell? ⟨pb, po + k, none⟩ = some (.int .i64 (xs[k]?.getD 0)) := fun w' hb => ⟨(HGL.out w' hb).1, ((hwk w' hb).cell (p := ⟨pb, po + k, none⟩) hpb).trans (hpc k hlt)⟩
      generalize xs[k]?.getD 0 = pl at hpr
      obtain ⟨c, en, L', did', hd', hL', hcs, hcall⟩ := cap_calls (did := did) HO.out HF.out (by omega) (by rw [hLs]; exact HSM.out.1) he pl
      have hkd : KS w2 w2.heap.size wr.drew p (flat L did) l (.slice va l.length vc) := HKR.out.below ⟨rfl, rfl, rfl, Nat.le_refl _, fun _ _ => rfl⟩
      have hc1 := hkd.step (S' := flat L' did') (fun v1 v2 hp hz => hcall _ p v1 v2 wr.drew hp hz)
      have hc2 := HKR.out.boxed (S' := flat L' did') (t := 55) (z0 := .int .u64 0) (z1 := .int .u64 0) (z2 := .int .i64 0) (z3 := .string ⟨#[]⟩) (W := (wr.alloc (.cells #[.int .u64 0, .int .u64 0, .int .i64 0, .string ⟨#[]⟩] 55)).drew) rfl ⟨rfl, rfl, rfl⟩ (fun v1 v2 hp hz => hcall _ p v1 v2 _ hp hz)
      unfold geo at hc1 hc2
      unfold En.val at hc1 hc2
      have HC1 := Lib.hid hc1
      have HC2 := Lib.hid hc2
      have HCS := Lib.hid hcs
      have HPR := Lib.hid hpr
      have HW0 := Lib.hid (HKR.out.fin)
      clear hpc hcall hcs hwk hpr hkd hc1 hc2 c0 c1 c2 c3 c4 c5
      go_wp2_with fail
      go_region_held3 (fun w' => (w'.cell? ⟨w.heap.size, 0, none⟩ = some (.int .i64 N) ∧ w'.cell? ⟨w.heap.size, 1, none⟩ = some (.int .i64 F) ∧ w'.cell? ⟨w.heap.size, 2, none⟩ = some (.int .i64 C) ∧ w'.cell? ⟨w.heap.size, 3, none⟩ = some (.int .i64 U)) ∧ w'.cell? ⟨pb, po + k, none⟩ = some (.int .i64 pl)) (first | exact HPR.out _ (hset _ _ _ _).fin | exact HPR.out _ hbl | exact HPR.out _ (hks4.fin.alloc hks4.size _) | exact HPR.out _ hks4.fin | exact HPR.out (wr.alloc _) (HW0.out.alloc HKR.out.size _) | exact HPR.out wr HW0.out)
        (first | (go_at_call 39; refine HC1.out.mono ?_; rintro e w4 ⟨rfl, hks4⟩) | (go_at_call 39; refine HC2.out.mono ?_; rintro e w4 ⟨rfl, hbx, hbl, hsz4, hset⟩; have q0 := hbx.c0; have q1 := hbx.c1; have q2 := hbx.c2; have q3 := hbx.c3; have r0 := hbx.fr 0; have r1 := hbx.fr 1; have r2 := hbx.fr 2; have r3 := hbx.fr 3))
      all_goals (
        rename_i hHeld
        clear hHeld
        first
        | (obtain ⟨Z, hZe⟩ : ∃ Z, Z = w4.alloc (.cells #[.int .u64 (en.tag : Int), .int .u64 (en.epoch : Int), .int .i64 en.place, .string en.old] 55) := ⟨_, rfl⟩
           have hZ : KS w2 w2.heap.size Z p (flat L' did') l (.slice va l.length vc) := by rw [hZe]; exact hks4.below ((Below.refl _ _).alloc (Nat.le_refl _) _)
           have hX : Box4 Z w4.heap.size 55 (.int .u64 (en.tag : Int)) (.int .u64 (en.epoch : Int)) (.int .i64 en.place) (.string en.old) := by rw [hZe]; exact heap_alloc_new w4 _
           rw [← hZe]
           obtain ⟨bx, hbxe⟩ : ∃ bx, bx = w4.heap.size := ⟨_, rfl⟩
           rw [← hbxe] at hX ⊢
           clear hks4 hZe hbxe)
        | (obtain ⟨Z, hZe⟩ : ∃ Z, Z = set4 w4 wr.heap.size (.int .u64 (en.tag : Int)) (.int .u64 (en.epoch : Int)) (.int .i64 en.place) (.string en.old) := ⟨_, rfl⟩
           have hZ : KS w2 w2.heap.size Z p (flat L' did') l (.slice va l.length vc) := by rw [hZe]; exact hset _ _ _ _
           have hX : Box4 Z wr.heap.size 55 (.int .u64 (en.tag : Int)) (.int .u64 (en.epoch : Int)) (.int .i64 en.place) (.string en.old) := by rw [hZe]; exact hbx.set _ _ _ _
           unfold set4 at hZe
           rw [← hZe]
           obtain ⟨bx, hbxe⟩ : ∃ bx, bx = wr.heap.size := ⟨_, rfl⟩
           rw [← hbxe] at hX ⊢
           clear hbx hbl hsz4 hset hZe hbxe q0 q1 q2 q3 r0 r1 r2 r3)
        have x0 := hX.c0
        have x1 := hX.c1
        have x2 := hX.c2
        have x3 := hX.c3
        have HZ := Lib.hid hZ
        clear hZ hX HC1 HC2 HES HPR
        by_cases hc0 : c = 0
        · have hfr' : CFresh N F C U L' ep (l ++ [en]) := by
            rcases HCS.out with h | h
            · exact h.2
            · exact absurd hc0 h.1
          have HFN := Lib.hid hfr'
          subst hc0
          clear hfr' HCS
          have hl400 : l.length ≤ 400 := by have := HF.out.holds.few; omega
          obtain ⟨i0, hi, hz0, hz1, hz2⟩ := info_parts Tryz.infoEnt
          have hlo := HZ.out.lo2
          go_wp2_with (at_builtin; refine wpList_append_own_at _ (o := ⟨some 73, _, _, _, _, _⟩) rfl (.tmp 70) (.tmp 72) 53 rfl w2.heap.size 55 i0 _ 4 40 Tryz.underlying53 hi hz0 hz1 hz2 rfl (by omega) (.slice va l.length vc) l.length _ rfl (HZ.out.row.alloc _) ⟨Z.heap.size, 0, none⟩ 1 1 (ents [en]) rfl rfl (ent_cells Z en) (ents_one _) (by unfold maxLen; omega) (by omega) (by simp; omega) ?_)
          rintro v' w' hown hg - hat
          have hkz := HZ.out.longer (x := en) hown hg (by rcases hat with h | h; exact .inl h; exact .inr (by rw [h]; simp))
          obtain ⟨a', c', rfl, -⟩ := owns_shape1 hown
          have HKZ := Lib.hid hkz
          clear hkz hown hg hat x0 x1 x2 x3 HZ
          go_wp2
          go_roundw
          case rel => exact ⟨k + 1, l ++ [en], L', did', by omega, by go_num, HKZ.out, HFN.out, by omega, by rw [hL', hLs]⟩
          case measure => simp [intOf]; omega
        · have hLe : L' = L := by
            rcases HCS.out with h | h
            · exact absurd h.1 hc0
            · exact h.2
          have hce : (c == 0) = false := by simpa using hc0
          have HLE := Lib.hid hLe
          clear hLe HCS x0 x1 x2 x3
          go_wp2
          go_roundw
          case rel => exact ⟨k + 1, l, L', did', by omega, by go_num, HZ.out, by rw [HLE.out]; exact HF.out, by omega, by rw [hL', hLs]⟩
          case measure => simp [intOf]; omega)
    · obtain rfl : k = np := by omega
      obtain ⟨⟨c0, c1, c2, c3⟩, c4, c5⟩ := HGL.out wr HKR.out.fin
      have hLl : (L.length : Int) = 6 + N + (nodes N F C U : Int) + 2 * C := HF.out.len
      have hl12 : L.length ≤ 1200 := by rw [hLs]; exact HSM.out.1
      have HK5 := HKR
      have HES5 := HES
      have hfu := HK5.out.step (S' := (flat L did).fuse fu) (fun v1 v2 hp hz => fuse_any _ p v1 v2 (flat L did) fu wr hp)
      have HFU := Lib.hid hfu
      clear hfu
      go_wp2_with fail
      refine HFU.out.mono ?_
      rintro e w6 ⟨rfl, hk6⟩
      -- the append that may go down
      have hm6 : isD N ((0 : Nat) : Int) := ⟨by omega, by have := HO.out.1; omega⟩
      obtain ⟨L2, did2, l2, hup, hd2, hL2, hh2, hz2, hl2, hw2⟩ := cap_crash (did := did) HO.out HF.out hm6 fu hf0 bs
      have hokf : ((flat L did).fuse fu).ok did := (flat_ok' L did hl12).fuse fu hfm
      have hap := hk6.step (S' := (capP N F C U ((flat L did).fuse fu) (l.length : Int) ep 0).ds) (f := 39) (args := #[.pointer (some ⟨p, 0, none⟩), geo N F C U, .int .i64 (l.length : Int), .int .u64 (ep : Int), .int .i64 0]) (R := .returned (capP N F C U ((flat L did).fuse fu) (l.length : Int) ep 0).val) fun v1 v2 hp hz => cappend_any _ p v1 v2 ((flat L did).fuse fu) N F C U (l.length : Int) ep 0 w6 hp hz did hokf (by omega) he (fun T x hT => by subst hT; exact cfuse_sizes HF.out did fu x)
      have hokA := capP_ok (N := N) (F := F) (C := C) (U := U) hokf (l.length : Int) ep 0
      rw [show ((0 : Nat) : Int) = 0 from rfl] at hup hw2
      obtain ⟨A, hA⟩ : ∃ A, A = capP N F C U ((flat L did).fuse fu) (l.length : Int) ep 0 := ⟨_, rfl⟩
      rw [← hA] at hup hw2 hap hokA
      obtain ⟨c6, en6, S6⟩ := A
      dsimp only at hup hw2 hap hokA
      unfold ApR.val geo En.val at hap
      dsimp only at hap
      have HAP := Lib.hid hap
      have HOKA := Lib.hid hokA
      have HUP := Lib.hid hup
      have HL2 := Lib.hid (And.intro hd2 (And.intro hL2 (And.intro hh2 (And.intro hz2 (And.intro hl2 hw2)))))
      obtain ⟨⟨c0, c1, c2, c3⟩, c4, c5⟩ := HGL.out w6 hk6.fin
      clear hap hokA hup hd2 hL2 hh2 hz2 hl2 hw2 hA hokf hm6 hk6 HFU
      go_wp2_with fail
      refine HAP.out.mono ?_
      rintro e w7 ⟨rfl, hk7⟩
      have hxb := heap_alloc_new w7 (.cells #[.int .u64 (en6.tag : Int), .int .u64 (en6.epoch : Int), .int .i64 en6.place, .string en6.old] 55)
      obtain ⟨W7, hW7⟩ : ∃ W7, W7 = w7.alloc (.cells #[.int .u64 (en6.tag : Int), .int .u64 (en6.epoch : Int), .int .i64 en6.place, .string en6.old] 55) := ⟨_, rfl⟩
      obtain ⟨bx, hbx⟩ : ∃ bx, bx = w7.heap.size := ⟨_, rfl⟩
      have hkb := hk7.box _ bx (by rw [hbx]; exact hxb) hbx
      rw [← hW7] at hkb
      have HKB := Lib.hid hkb
      have HW7 := Lib.hid hW7
      have HBX := Lib.hid hbx
      obtain ⟨⟨c0, c1, c2, c3⟩, c4, c5⟩ := HGL.out W7 hkb.ks.fin
      clear hk7 hxb hkb hW7 hbx HAP
      go_upto_region 13 with fail
      rw [← HW7.out, ← HBX.out]
      have hcr := HKB.out.step (S' := S6.crash bs) (fun v1 v2 hp hz => crash_any _ p v1 v2 S6 ak nk ck bs W7 hp hz (did + 4) HOKA.out (by omega) (HK.out.below (HBW.out.trans (HKB.out.ks.fin.mono HBW.out.size))) (fun b off e h0 hx => by have h1 := (hp.foot_low b hx).1; have h2 := HK.out.lt e h0; have h3 := HBW.out.size; omega))
      have HCR := Lib.hid hcr
      clear hcr
      go_wp2_with fail
      refine HCR.out.mono ?_
      rintro e w8 ⟨rfl, hk8⟩
      have hu8 := hk8.step (S' := (S6.crash bs).up.2) (fun v1 v2 hp hz => up_any _ p v1 v2 (S6.crash bs) w8 hp)
      rw [HUP.out] at hu8
      dsimp only at hu8
      have HU8 := Lib.hid hu8
      clear hk8 hu8 HCR HKB
      go_wp2_with fail
      refine HU8.out.mono ?_
      rintro e w9 ⟨rfl, hk9⟩
      obtain ⟨hd2, hL2, hh2, hz2, hl2, hw2⟩ := HL2.out
      have hL2l : (L2.length : Int) = 6 + N + (nodes N F C U : Int) + 2 * C := by rw [hL2]; exact hLl
      have hL212 : L2.length ≤ 1200 := by omega
      have hsc := hk9.read (R := fun e w' => ∃ a c, e = .returned (.tuple #[.slice a l2.length c, .int .i64 0]) ∧ Es w' a l2.length c l2) (f := 40) (args := #[.pointer (some ⟨p, 0, none⟩), geo N F C U, .int .u64 (ep : Int)]) fun v1 v2 hp => by
        refine (cscan_any _ p v1 v2 (flat L2 did2) N F C U ep w9 hp did2 (flat_ok' L2 did2 hL212) (by omega) (flat_sizes hz2 did2)).mono ?_
        rintro e w' ⟨⟨a, c, h1, h2, _⟩, h3⟩
        rw [cscan_holds HO.out hL2l hh2 he] at h1 h2
        exact ⟨⟨a, c, h1, h2⟩, h3⟩
      unfold geo at hsc
      have HSC := Lib.hid hsc
      obtain ⟨⟨c0, c1, c2, c3⟩, c4, c5⟩ := HGL.out w9 hk9.ks.fin
      clear hsc hk9 HU8
      go_wp2_with fail
      refine HSC.out.mono ?_
      rintro e w10 ⟨⟨a6, n6, rfl, hes6⟩, hk10, hb10⟩
      have hlm : l.length ≤ l2.length := by
        rcases hl2 with rfl | ⟨x, rfl⟩
        · exact Nat.le_refl _
        · simp
      have htk : l2.take l.length = l := by
        rcases hl2 with rfl | ⟨x, rfl⟩
        · simp
        · simp
      have hes1 : Es w10 va l.length vc l := by
        obtain ⟨a, c, e, h⟩ := hk10.ks.es
        cases e
        exact h
      have hen := entries_same a6 va l.length n6 vc l w10 (by have := hes6.front hlm; rwa [htk] at this) hes1
      have HEN := Lib.hid hen
      have HES6 := Lib.hid hes6
      have HKX := Lib.hid hk10
      have i6 : (l2.length : Int) ≤ (n6 : Int) := by have := hes6.le; omega
      have i7 : (n6 : Int) ≤ 9223372036854775807 := by have := hes6.cm; unfold maxLen at this; omega
      have i8 : (l.length : Int) ≤ (l2.length : Int) := by omega
      have i9 : (l.length : Int) ≤ (n6 : Int) := by omega
      have hl400 : l.length ≤ 400 := by have := HF.out.holds.few; omega
      have hl2s : l2.length ≤ l.length + 1 := by
        rcases hl2 with rfl | ⟨x, rfl⟩
        · omega
        · simp
      have wr9 : IntKind.i64.wrap ((l.length : Int) + 1) = (l.length : Int) + 1 := IntWalk.i64_in _ (by omega)
      have qlt : ¬ ((l2.length : Int) < (l.length : Int)) := by omega
      have qgt : (decide ((l2.length : Int) > (l.length : Int) + 1)) = false := by simp; omega
      have qgt2 : ¬ ((l.length : Int) + 1 < (l2.length : Int)) := by omega
      clear hen hes6 hes1 hk10 htk hb10 HSC c0 c1 c2 c3 c4 c5 HL2
      go_wp2_with fail
      refine HEN.out.mono ?_
      rintro e w11 ⟨rfl, hb11⟩
      have HK11 := Lib.hid (HKX.out.below hb11)
      have HES11 := Lib.hid (HES6.out.later hb11)
      have HFW := Lib.hid (HBW.out.trans (HK11.out.ks.fin.mono HBW.out.size))
      have HKN := Lib.hid (fun w => known17_any w)
      clear hb11 HEN HES6 HKX
      by_cases hc6 : c6 = 0
      · have hle : l2 = l ++ [en6] := hw2 hc6
        have hll : l2.length = l.length + 1 := by rw [hle]; simp
        have qeq : ((l2.length : Int) == (l.length : Int) + 1) = true := by simp; omega
        obtain ⟨b6, o6, rfl, hb6l, hc6c⟩ := HES11.out.at0 (by omega)
        obtain ⟨y0, y1, y2, y3⟩ := hc6c l.length (by omega)
        have hea : eAt l2 l.length = en6 := by rw [hle]; exact eAt_append_eq
        rw [hea] at y0 y1 y2 y3
        have hbxx := HK11.out.box
        have x0 : w11.cell? ⟨bx, 0, none⟩ = some (.int .u64 (en6.tag : Int)) := by rw [cell_of_blk hbxx]; rfl
        have x1 : w11.cell? ⟨bx, 1, none⟩ = some (.int .u64 (en6.epoch : Int)) := by rw [cell_of_blk hbxx]; rfl
        have x2 : w11.cell? ⟨bx, 2, none⟩ = some (.int .i64 en6.place) := by rw [cell_of_blk hbxx]; rfl
        have x3 : w11.cell? ⟨bx, 3, none⟩ = some (.string en6.old) := by rw [cell_of_blk hbxx]; rfl
        have hbxl := lt_of_block hbxx
        have hkp : ∀ w', Below w11.heap.size w11 w' → (w'.cell? ⟨b6, o6 + l.length * 4, none⟩ = some (.int .u64 (en6.tag : Int)) ∧ w'.cell? ⟨b6, o6 + l.length * 4 + 1, none⟩ = some (.int .u64 (en6.epoch : Int)) ∧ w'.cell? ⟨b6, o6 + l.length * 4 + 2, none⟩ = some (.int .i64 en6.place) ∧ w'.cell? ⟨b6, o6 + l.length * 4 + 3, none⟩ = some (.string en6.old)) ∧ w'.cell? ⟨bx, 0, none⟩ = some (.int .u64 (en6.tag : Int)) ∧ w'.cell? ⟨bx, 1, none⟩ = some (.int .u64 (en6.epoch : Int)) ∧ w'.cell? ⟨bx, 2, none⟩ = some (.int .i64 en6.place) ∧ w'.cell? ⟨bx, 3, none⟩ = some (.string en6.old) := fun w' hb => by
          refine ⟨⟨?_, ?_, ?_, ?_⟩, ?_, ?_, ?_, ?_⟩
          · exact (hb.cell (p := ⟨b6, o6 + l.length * 4, none⟩) hb6l).trans y0
          · exact (hb.cell (p := ⟨b6, o6 + l.length * 4 + 1, none⟩) hb6l).trans y1
          · exact (hb.cell (p := ⟨b6, o6 + l.length * 4 + 2, none⟩) hb6l).trans y2
          · exact (hb.cell (p := ⟨b6, o6 + l.length * 4 + 3, none⟩) hb6l).trans y3
          · exact (hb.cell (p := ⟨bx, 0, none⟩) hbxl).trans x0
          · exact (hb.cell (p := ⟨bx, 1, none⟩) hbxl).trans x1
          · exact (hb.cell (p := ⟨bx, 2, none⟩) hbxl).trans x2
          · exact (hb.cell (p := ⟨bx, 3, none⟩) hbxl).trans x3
        have HKP := Lib.hid hkp
        have gE : ∀ op x y w, Sem.run Tryz.prog (eqGuard op 55 x y (.agg #[.int .u64 (en6.tag : Int), .int .u64 (en6.epoch : Int), .int .i64 en6.place, .string en6.old]) (.agg #[.int .u64 (en6.tag : Int), .int .u64 (en6.epoch : Int), .int .i64 en6.place, .string en6.old])) w = .ok () w := fun op x y w => guard_en op x y _ _ _ _ _ _ _ _ w
        have qE : ∀ w, (binOp .eql 55 (.agg #[.int .u64 (en6.tag : Int), .int .u64 (en6.epoch : Int), .int .i64 en6.place, .string en6.old]) (.agg #[.int .u64 (en6.tag : Int), .int .u64 (en6.epoch : Int), .int .i64 en6.place, .string en6.old])).run Tryz.prog w = .ok (.bool true) w := fun w => by rw [eql_en]; simp
        have j6 : (l.length : Int) < (l2.length : Int) := by omega
        have j7 : (0 : Int) ≤ (l.length : Int) := by omega
        subst hc6
        have HLL := Lib.hid (And.intro hle hll)
        clear hkp y0 y1 y2 y3 x0 x1 x2 x3 hc6c hbxx hea hle hll hl2 hw2
        go_wp2_with fail
        have hG : Below w11.heap.size w11 w11.drew := (Below.refl _ _).drew
        go_region_held3 (fun w' => (w'.cell? ⟨b6, o6 + l.length * 4, none⟩ = some (.int .u64 (en6.tag : Int)) ∧ w'.cell? ⟨b6, o6 + l.length * 4 + 1, none⟩ = some (.int .u64 (en6.epoch : Int)) ∧ w'.cell? ⟨b6, o6 + l.length * 4 + 2, none⟩ = some (.int .i64 en6.place) ∧ w'.cell? ⟨b6, o6 + l.length * 4 + 3, none⟩ = some (.string en6.old)) ∧ w'.cell? ⟨bx, 0, none⟩ = some (.int .u64 (en6.tag : Int)) ∧ w'.cell? ⟨bx, 1, none⟩ = some (.int .u64 (en6.epoch : Int)) ∧ w'.cell? ⟨bx, 2, none⟩ = some (.int .i64 en6.place) ∧ w'.cell? ⟨bx, 3, none⟩ = some (.string en6.old)) (exact HKP.out _ hG)
          (first | (go_at_call 37; refine (HKN.out _).mono ?_; rintro e w12 ⟨rfl, hbd⟩; replace hG := hG.trans (hbd.mono hG.size); clear hbd))
        all_goals (
          rename_i hHeld
          clear hHeld
          have HFIN := Lib.hid (HFW.out.trans (hG.mono HFW.out.size))
          clear hG gE qE
          go_wp2
          go_ret
          exact ⟨rfl, HFIN.out⟩)
      · have q6 : (c6 == 0) = false := by simpa using hc6
        have q7 : (c6 != 0) = true := by simp [hc6]
        clear hw2
        go_wp2_with fail
        have hG : Below w11.heap.size w11 w11.drew := (Below.refl _ _).drew
        refine wp_region_held_drew (S := fun _ => True) (by kernel_rfl) (trivial) (fun hHeld => ?_)
        refine wpAnyH_take (i := 0) (oi := { dst := some 126, op := Op.move (Operand.tmp 16), type := 27, pos := "law.go:114", after := #[], guard := none }) (v := ?_) rfl (by kernel_rfl) (by kernel_rfl) (by kernel_rfl) (fun _ _ _ h => h) (Or.inl ⟨by rfl, ?_⟩) (by assumption) ?_
        rotate_left
        · (intro w hSw; (try dsimp only at hSw); go_simp <;> with_reducible rfl)
        try simp only [Act.put, List.setIfInBounds_toArray, List.set_cons_zero, List.set_cons_succ]
        refine wpAnyH_take (i := 1) (oi := { dst := some 127, op := Op.binOp BinOp.neq 27 (Operand.tmp 126) (Operand.const (Value.int IntKind.i64 0)) 27, type := 4, pos := "law.go:114", after := #[{ on := 0, ground := Ground.data }], guard := none }) (v := ?_) rfl (by kernel_rfl) (by kernel_rfl) (by kernel_rfl) (fun _ _ _ h => h) (Or.inl ⟨by rfl, ?_⟩) (by assumption) ?_
        rotate_left
        · (intro w hSw; (try dsimp only at hSw); go_simp <;> with_reducible rfl)
        try simp only [Act.put, List.setIfInBounds_toArray, List.set_cons_zero, List.set_cons_succ]
        refine wpAnyH_take (i := 2) (oi := { dst := some 128, op := Op.move (Operand.tmp 127), type := 4, pos := "law.go:114", after := #[{ on := 1, ground := Ground.data }], guard := none }) (v := ?_) rfl (by kernel_rfl) (by kernel_rfl) (by kernel_rfl) (fun _ _ _ h => h) (Or.inl ⟨by rfl, ?_⟩) (by assumption) ?_
        rotate_left
        · (intro w hSw; (try dsimp only at hSw); go_simp <;> with_reducible rfl)
        try simp only [Act.put, List.setIfInBounds_toArray, List.set_cons_zero, List.set_cons_succ]
        refine wpAnyH_take (i := 3) (oi := { dst := some 129, op := Op.move (Operand.tmp 17), type := 53, pos := "law.go:114", after := #[{ on := 2, ground := Ground.guard }], guard := some (2, false) }) (v := undef) rfl (by kernel_rfl) (by kernel_rfl) (by kernel_rfl) (fun _ _ _ h => h) (Or.inr ⟨by rfl, rfl⟩) (by assumption) ?_
        try simp only [Act.put, List.setIfInBounds_toArray, List.set_cons_zero, List.set_cons_succ]
        refine wpAnyH_take (i := 4) (oi := { dst := some 130, op := Op.call { callee := Callee.builtin Builtin.len, args := #[Operand.tmp 129], argTypes := #[53] }, type := 3, pos := "law.go:114", after := #[{ on := 3, ground := Ground.data }, { on := 2, ground := Ground.guard }], guard := some (2, false) }) (v := undef) rfl (by kernel_rfl) (by kernel_rfl) (by kernel_rfl) (fun _ _ _ h => h) (Or.inr ⟨by rfl, rfl⟩) (by assumption) ?_
        try simp only [Act.put, List.setIfInBounds_toArray, List.set_cons_zero, List.set_cons_succ]
        refine wpAnyH_take (i := 5) (oi := { dst := some 131, op := Op.move (Operand.tmp 11), type := 53, pos := "law.go:114", after := #[{ on := 2, ground := Ground.guard }], guard := some (2, false) }) (v := undef) rfl (by kernel_rfl) (by kernel_rfl) (by kernel_rfl) (fun _ _ _ h => h) (Or.inr ⟨by rfl, rfl⟩) (by assumption) ?_
        try simp only [Act.put, List.setIfInBounds_toArray, List.set_cons_zero, List.set_cons_succ]
        refine wpAnyH_take (i := 6) (oi := { dst := some 132, op := Op.call { callee := Callee.builtin Builtin.len, args := #[Operand.tmp 131], argTypes := #[53] }, type := 3, pos := "law.go:114", after := #[{ on := 5, ground := Ground.data }, { on := 2, ground := Ground.guard }], guard := some (2, false) }) (v := undef) rfl (by kernel_rfl) (by kernel_rfl) (by kernel_rfl) (fun _ _ _ h => h) (Or.inr ⟨by rfl, rfl⟩) (by assumption) ?_
        try simp only [Act.put, List.setIfInBounds_toArray, List.set_cons_zero, List.set_cons_succ]
        refine wpAnyH_take (i := 7) (oi := { dst := some 133, op := Op.binOp BinOp.add 3 (Operand.tmp 132) (Operand.const (Value.int IntKind.i64 1)) 3, type := 3, pos := "law.go:114", after := #[{ on := 6, ground := Ground.data }, { on := 2, ground := Ground.guard }], guard := some (2, false) }) (v := undef) rfl (by kernel_rfl) (by kernel_rfl) (by kernel_rfl) (fun _ _ _ h => h) (Or.inr ⟨by rfl, rfl⟩) (by assumption) ?_
        try simp only [Act.put, List.setIfInBounds_toArray, List.set_cons_zero, List.set_cons_succ]
        refine wpAnyH_take (i := 8) (oi := { dst := some 134, op := Op.binOp BinOp.eql 3 (Operand.tmp 130) (Operand.tmp 133) 3, type := 4, pos := "law.go:114", after := #[{ on := 4, ground := Ground.data }, { on := 7, ground := Ground.data }, { on := 2, ground := Ground.guard }], guard := some (2, false) }) (v := undef) rfl (by kernel_rfl) (by kernel_rfl) (by kernel_rfl) (fun _ _ _ h => h) (Or.inr ⟨by rfl, rfl⟩) (by assumption) ?_
        try simp only [Act.put, List.setIfInBounds_toArray, List.set_cons_zero, List.set_cons_succ]
        refine wpAnyH_take (i := 9) (oi := { dst := some 135, op := Op.move (Operand.tmp 134), type := 4, pos := "law.go:114", after := #[{ on := 8, ground := Ground.data }, { on := 2, ground := Ground.chain }, { on := 2, ground := Ground.guard }], guard := some (2, false) }) (v := undef) rfl (by kernel_rfl) (by kernel_rfl) (by kernel_rfl) (fun _ _ _ h => h) (Or.inr ⟨by rfl, rfl⟩) (by assumption) ?_
        try simp only [Act.put, List.setIfInBounds_toArray, List.set_cons_zero, List.set_cons_succ]
        refine wpAnyH_take (i := 10) (oi := { dst := some 136, op := Op.move (Operand.tmp 17), type := 53, pos := "law.go:114", after := #[{ on := 9, ground := Ground.guard }], guard := some (9, true) }) (v := undef) rfl (by kernel_rfl) (by kernel_rfl) (by kernel_rfl) (fun _ _ _ h => h) (Or.inr ⟨by rfl, rfl⟩) (by assumption) ?_
        try simp only [Act.put, List.setIfInBounds_toArray, List.set_cons_zero, List.set_cons_succ]
        refine wpAnyH_take (i := 11) (oi := { dst := some 137, op := Op.move (Operand.tmp 11), type := 53, pos := "law.go:114", after := #[{ on := 9, ground := Ground.guard }], guard := some (9, true) }) (v := undef) rfl (by kernel_rfl) (by kernel_rfl) (by kernel_rfl) (fun _ _ _ h => h) (Or.inr ⟨by rfl, rfl⟩) (by assumption) ?_
        try simp only [Act.put, List.setIfInBounds_toArray, List.set_cons_zero, List.set_cons_succ]
        refine wpAnyH_take (i := 12) (oi := { dst := some 138, op := Op.call { callee := Callee.builtin Builtin.len, args := #[Operand.tmp 137], argTypes := #[53] }, type := 3, pos := "law.go:114", after := #[{ on := 11, ground := Ground.data }, { on := 9, ground := Ground.guard }], guard := some (9, true) }) (v := undef) rfl (by kernel_rfl) (by kernel_rfl) (by kernel_rfl) (fun _ _ _ h => h) (Or.inr ⟨by rfl, rfl⟩) (by assumption) ?_
        try simp only [Act.put, List.setIfInBounds_toArray, List.set_cons_zero, List.set_cons_succ]
        refine wpAnyH_take (i := 13) (oi := { dst := some 139, op := Op.indexAddr 53 (Operand.tmp 136) (Operand.tmp 138), type := 0, pos := "law.go:114", after := #[{ on := 10, ground := Ground.data }, { on := 12, ground := Ground.data }, { on := 9, ground := Ground.guard }], guard := some (9, true) }) (v := undef) rfl (by kernel_rfl) (by kernel_rfl) (by kernel_rfl) (fun _ _ _ h => h) (Or.inr ⟨by rfl, rfl⟩) (by assumption) ?_
        try simp only [Act.put, List.setIfInBounds_toArray, List.set_cons_zero, List.set_cons_succ]
        refine wpAnyH_take (i := 14) (oi := { dst := some 140, op := Op.load 55 (Operand.tmp 139), type := 55, pos := "law.go:114", after := #[{ on := 13, ground := Ground.data }, { on := 9, ground := Ground.guard }], guard := some (9, true) }) (v := undef) rfl (by kernel_rfl) (by kernel_rfl) (by kernel_rfl) (fun _ _ _ h => h) (Or.inr ⟨by rfl, rfl⟩) (by assumption) ?_
        try simp only [Act.put, List.setIfInBounds_toArray, List.set_cons_zero, List.set_cons_succ]
        refine wpAnyH_take (i := 15) (oi := { dst := some 141, op := Op.load 55 (Operand.tmp 15), type := 55, pos := "law.go:114", after := #[{ on := 9, ground := Ground.guard }], guard := some (9, true) }) (v := undef) rfl (by kernel_rfl) (by kernel_rfl) (by kernel_rfl) (fun _ _ _ h => h) (Or.inr ⟨by rfl, rfl⟩) (by assumption) ?_
        try simp only [Act.put, List.setIfInBounds_toArray, List.set_cons_zero, List.set_cons_succ]
        refine wpAnyH_take (i := 16) (oi := { dst := some 142, op := Op.binOp BinOp.eql 55 (Operand.tmp 140) (Operand.tmp 141) 55, type := 4, pos := "law.go:114", after := #[{ on := 14, ground := Ground.data }, { on := 15, ground := Ground.data }, { on := 9, ground := Ground.guard }], guard := some (9, true) }) (v := undef) rfl (by kernel_rfl) (by kernel_rfl) (by kernel_rfl) (fun _ _ _ h => h) (Or.inr ⟨by rfl, rfl⟩) (by assumption) ?_
        try simp only [Act.put, List.setIfInBounds_toArray, List.set_cons_zero, List.set_cons_succ]
        refine wpAnyH_take (i := 17) (oi := { dst := some 143, op := Op.pick (Operand.tmp 135) (Operand.tmp 142) (Operand.const (Value.bool false)), type := 4, pos := "law.go:114", after := #[{ on := 9, ground := Ground.data }, { on := 16, ground := Ground.data }, { on := 2, ground := Ground.guard }], guard := some (2, false) }) (v := undef) rfl (by kernel_rfl) (by kernel_rfl) (by kernel_rfl) (fun _ _ _ h => h) (Or.inr ⟨by rfl, rfl⟩) (by assumption) ?_
        try simp only [Act.put, List.setIfInBounds_toArray, List.set_cons_zero, List.set_cons_succ]
        refine wpAnyH_take (i := 18) (oi := { dst := some 144, op := Op.pick (Operand.tmp 128) (Operand.const (Value.bool true)) (Operand.tmp 143), type := 4, pos := "law.go:114", after := #[{ on := 2, ground := Ground.data }, { on := 17, ground := Ground.data }], guard := none }) (v := ?_) rfl (by kernel_rfl) (by kernel_rfl) (by kernel_rfl) (fun _ _ _ h => h) (Or.inl ⟨by rfl, ?_⟩) (by assumption) ?_
        rotate_left
        · (intro w hSw; (try dsimp only at hSw); go_simp <;> with_reducible rfl)
        try simp only [Act.put, List.setIfInBounds_toArray, List.set_cons_zero, List.set_cons_succ]
        refine wpAnyH_take (i := 19) (oi := { dst := some 145, op := Op.move (Operand.tmp 144), type := 4, pos := "law.go:114", after := #[{ on := 18, ground := Ground.data }, { on := 9, ground := Ground.chain }], guard := none }) (v := ?_) rfl (by kernel_rfl) (by kernel_rfl) (by kernel_rfl) (fun _ _ _ h => h) (Or.inl ⟨by rfl, ?_⟩) (by assumption) ?_
        rotate_left
        · (intro w hSw; (try dsimp only at hSw); go_simp <;> with_reducible rfl)
        try simp only [Act.put, List.setIfInBounds_toArray, List.set_cons_zero, List.set_cons_succ]
        refine wpAnyH_ready (rs := [20]) (by kernel_rfl) (by simp) ?_
        refine AllReadyH.cons (o := { dst := some 146, op := Op.call { callee := Callee.value (Operand.func 37), args := #[], argTypes := #[] }, type := 4, pos := "law.go:114", after := #[{ on := 19, ground := Ground.chain }, { on := 19, ground := Ground.guard }], guard := some (19, true) }) rfl (fun K hK => ?_) AllReadyH.nil
        go_simp
        go_at_call 37
        refine (HKN.out _).mono ?_
        rintro e w12 ⟨rfl, hbd⟩
        replace hG := hG.trans (hbd.mono hG.size)
        clear hbd
        dsimp only
        refine hK _ _ (trivial) (fun hHeld => ?_)
        clear hK K
        try simp only [Act.put, List.setIfInBounds_toArray, List.set_cons_zero, List.set_cons_succ]
        refine wpAnyH_take (i := 21) (oi := { dst := some 147, op := Op.pick (Operand.tmp 145) (Operand.tmp 146) (Operand.const (Value.bool false)), type := 4, pos := "law.go:114", after := #[{ on := 19, ground := Ground.data }, { on := 20, ground := Ground.data }], guard := none }) (v := ?_) rfl (by kernel_rfl) (by kernel_rfl) (by kernel_rfl) (fun _ _ _ h => h) (Or.inl ⟨by rfl, ?_⟩) (by assumption) ?_
        rotate_left
        · (intro w hSw; (try dsimp only at hSw); go_simp <;> with_reducible rfl)
        try simp only [Act.put, List.setIfInBounds_toArray, List.set_cons_zero, List.set_cons_succ]
        refine wpAnyH_take (i := 22) (oi := { dst := some 8, op := Op.assign (Operand.tmp 147), type := 4, pos := "law.go:114", after := #[{ on := 21, ground := Ground.data }, { on := 20, ground := Ground.chain }, { on := 0, ground := Ground.phase }, { on := 1, ground := Ground.phase }, { on := 2, ground := Ground.phase }, { on := 3, ground := Ground.phase }, { on := 4, ground := Ground.phase }, { on := 5, ground := Ground.phase }, { on := 6, ground := Ground.phase }, { on := 7, ground := Ground.phase }, { on := 8, ground := Ground.phase }, { on := 9, ground := Ground.phase }, { on := 10, ground := Ground.phase }, { on := 11, ground := Ground.phase }, { on := 12, ground := Ground.phase }, { on := 13, ground := Ground.phase }, { on := 14, ground := Ground.phase }, { on := 15, ground := Ground.phase }, { on := 16, ground := Ground.phase }, { on := 17, ground := Ground.phase }, { on := 18, ground := Ground.phase }, { on := 19, ground := Ground.phase }, { on := 20, ground := Ground.phase }, { on := 21, ground := Ground.phase }], guard := none }) (v := ?_) rfl (by kernel_rfl) (by kernel_rfl) (by kernel_rfl) (fun _ _ _ h => h) (Or.inl ⟨by rfl, ?_⟩) (by assumption) ?_
        rotate_left
        · (intro w hSw; (try dsimp only at hSw); go_simp <;> with_reducible rfl)
        try simp only [Act.put, List.setIfInBounds_toArray, List.set_cons_zero, List.set_cons_succ]
        refine wpAnyH_done (by kernel_rfl) ?_ _
        have HFIN := Lib.hid (HFW.out.trans (hG.mono HFW.out.size))
        clear hG
        go_wp2
        go_ret
        exact ⟨rfl, HFIN.out⟩
end Go.Proofs.YtjohgagiccndpaaGreatDoor
/-
  CowKeeps whole: where a test stops it too; its arguments, opened.
-/
namespace Go.Proofs.YtjohgagiccndpaaGreatDoor
open Go.RowKit Go.ChangeShapes Go.WideShapes Go.ChangeAt
set_option linter.unusedVariables false
set_option linter.unusedSimpArgs false

set_option maxRecDepth 20000 in
set_option maxHeartbeats 4000000 in
theorem cowkeeps_far (N F C U : Int) (ap : Option Addr) (np cp : Nat) (ep : Nat) (fu : Int) (ak : Option Addr) (nk ck : Nat) (w : World) (hx : ¬ (okG N F C U ∧ N ≤ 20 ∧ C ≤ 20 ∧ 0 ≤ fu ∧ np ≤ 60)) :
    Calls Tryz.prog 7 #[geo N F C U, .slice ap np cp, .int .u64 (ep : Int), .agg #[.int .i64 fu, .slice ak nk ck]] w fun e w' => e = .returned (.bool true) ∧ Below w.heap.size w w' := by
  have hgr := fun w => grright_any N F C U w
  obtain ⟨W, hW⟩ : ∃ W, W = (w.alloc (.cells #[.int .i64 N, .int .i64 F, .int .i64 C, .int .i64 U] 23)).alloc (.cells #[.int .i64 fu, .slice ak nk ck] 85) := ⟨_, rfl⟩
  have hG0 : W.heap[w.heap.size]? = some (.cells #[.int .i64 N, .int .i64 F, .int .i64 C, .int .i64 U] 23 (0, 0)) := by rw [hW]; exact (Below.heap_alloc _ _ _ (by simp)).trans (heap_alloc_new w _)
  have hH0 : W.heap[w.heap.size + 1]? = some (.cells #[.int .i64 fu, .slice ak nk ck] 85 (0, 0)) := by
    have := heap_alloc_new (w.alloc (.cells #[.int .i64 N, .int .i64 F, .int .i64 C, .int .i64 U] 23)) (.cells #[.int .i64 fu, .slice ak nk ck] 85)
    rw [World.size_alloc] at this
    rw [hW]; exact this
  have hb0 : Below w.heap.size w W := by rw [hW]; exact ((Below.refl _ w).alloc (Nat.le_refl _) _).alloc (by simp) _
  have hgc : ∀ w', Below W.heap.size W w' → (w'.cell? ⟨w.heap.size, 0, none⟩ = some (.int .i64 N) ∧ w'.cell? ⟨w.heap.size, 1, none⟩ = some (.int .i64 F) ∧ w'.cell? ⟨w.heap.size, 2, none⟩ = some (.int .i64 C) ∧ w'.cell? ⟨w.heap.size, 3, none⟩ = some (.int .i64 U)) ∧ w'.cell? ⟨w.heap.size + 1, 0, none⟩ = some (.int .i64 fu) ∧ w'.cell? ⟨w.heap.size + 1, 1, none⟩ = some (.slice ak nk ck) := fun w' hb => by
    have e := (hb.block _ (lt_of_block hG0)).trans hG0
    have e2 := (hb.block _ (lt_of_block hH0)).trans hH0
    refine ⟨⟨?_, ?_, ?_, ?_⟩, ?_, ?_⟩
    · rw [cell_of_blk e]; rfl
    · rw [cell_of_blk e]; rfl
    · rw [cell_of_blk e]; rfl
    · rw [cell_of_blk e]; rfl
    · rw [cell_of_blk e2]; rfl
    · rw [cell_of_blk e2]; rfl
  have HGC := Lib.hid hgc
  have HB0 := Lib.hid hb0
  have HW := Lib.hid hW
  have HKN := Lib.hid (fun w => known17_any w)
  obtain ⟨⟨c0, c1, c2, c3⟩, c4, c5⟩ := hgc W (Below.refl _ _)
  clear hgc hb0 hG0 hH0 hW
  unfold geo at hgr ⊢
  by_cases h1 : okG N F C U
  · rw [decide_eq_true h1] at hgr
    have HGR := Lib.hid hgr
    clear hgr
    by_cases h2 : N ≤ 20
    · by_cases h3 : C ≤ 20
      · by_cases h5 : 0 ≤ fu
        · have h6 : (60 : Int) < (np : Int) := by
            rcases Nat.lt_or_ge 60 np with h | h
            · omega
            · exact absurd ⟨h1, h2, h3, h5, h⟩ hx
          clear h1 hx
          go_enter Tryz.func7, Tryz.ntmps7
          go_upto_region 1 with fail
          rw [← HW.out]
          go_wp2_with fail
          refine (HGR.out _).mono ?_
          rintro e w1 ⟨rfl, hb⟩
          obtain ⟨⟨c0', c1', c2', c3'⟩, c4', c5'⟩ := HGC.out w1 hb
          have HB1 := Lib.hid (HB0.out.trans (hb.mono HB0.out.size))
          clear hb c0 c1 c2 c3 c4 c5
          go_wp2_with fail
          refine (HKN.out _).mono ?_
          rintro e w2 ⟨rfl, hb⟩
          have HB2 := Lib.hid (HB1.out.trans (hb.mono HB1.out.size))
          clear hb
          go_wp2
          go_ret
          exact ⟨rfl, HB2.out⟩
        · have h5' : fu < 0 := by omega
          clear h1 hx h5
          go_enter Tryz.func7, Tryz.ntmps7
          go_upto_region 1 with fail
          rw [← HW.out]
          go_wp2_with fail
          refine (HGR.out _).mono ?_
          rintro e w1 ⟨rfl, hb⟩
          obtain ⟨⟨c0', c1', c2', c3'⟩, c4', c5'⟩ := HGC.out w1 hb
          have HB1 := Lib.hid (HB0.out.trans (hb.mono HB0.out.size))
          clear hb c0 c1 c2 c3 c4 c5
          go_wp2_with fail
          refine (HKN.out _).mono ?_
          rintro e w2 ⟨rfl, hb⟩
          have HB2 := Lib.hid (HB1.out.trans (hb.mono HB1.out.size))
          clear hb
          go_wp2
          go_ret
          exact ⟨rfl, HB2.out⟩
      · have h3' : 20 < C := by omega
        clear h1 hx h3
        go_enter Tryz.func7, Tryz.ntmps7
        go_upto_region 1 with fail
        rw [← HW.out]
        go_wp2_with fail
        refine (HGR.out _).mono ?_
        rintro e w1 ⟨rfl, hb⟩
        obtain ⟨⟨c0', c1', c2', c3'⟩, c4', c5'⟩ := HGC.out w1 hb
        have HB1 := Lib.hid (HB0.out.trans (hb.mono HB0.out.size))
        clear hb c0 c1 c2 c3 c4 c5
        go_wp2_with fail
        refine (HKN.out _).mono ?_
        rintro e w2 ⟨rfl, hb⟩
        have HB2 := Lib.hid (HB1.out.trans (hb.mono HB1.out.size))
        clear hb
        go_wp2
        go_ret
        exact ⟨rfl, HB2.out⟩
    · have h2' : 20 < N := by omega
      clear h1 hx h2
      go_enter Tryz.func7, Tryz.ntmps7
      go_upto_region 1 with fail
      rw [← HW.out]
      go_wp2_with fail
      refine (HGR.out _).mono ?_
      rintro e w1 ⟨rfl, hb⟩
      obtain ⟨⟨c0', c1', c2', c3'⟩, c4', c5'⟩ := HGC.out w1 hb
      have HB1 := Lib.hid (HB0.out.trans (hb.mono HB0.out.size))
      clear hb c0 c1 c2 c3 c4 c5
      go_wp2_with fail
      refine (HKN.out _).mono ?_
      rintro e w2 ⟨rfl, hb⟩
      have HB2 := Lib.hid (HB1.out.trans (hb.mono HB1.out.size))
      clear hb
      go_wp2
      go_ret
      exact ⟨rfl, HB2.out⟩
  · rw [decide_eq_false h1] at hgr
    have HGR := Lib.hid hgr
    clear hgr h1 hx
    go_enter Tryz.func7, Tryz.ntmps7
    go_upto_region 1 with fail
    rw [← HW.out]
    go_wp2_with fail
    refine (HGR.out _).mono ?_
    rintro e w1 ⟨rfl, hb⟩
    obtain ⟨⟨c0', c1', c2', c3'⟩, c4', c5'⟩ := HGC.out w1 hb
    have HB1 := Lib.hid (HB0.out.trans (hb.mono HB0.out.size))
    clear hb c0 c1 c2 c3 c4 c5
    go_wp2_with fail
    refine (HKN.out _).mono ?_
    rintro e w2 ⟨rfl, hb⟩
    have HB2 := Lib.hid (HB1.out.trans (hb.mono HB1.out.size))
    clear hb
    go_wp2
    go_ret
    exact ⟨rfl, HB2.out⟩

theorem cowkeeps_any (N F C U : Int) (ap : Option Addr) (np cp : Nat) (xs : List Int) (ep fu : Int) (ak : Option Addr) (nk ck : Nat) (bs : List Bool) (w : World) (hP : Ri w ap np cp xs) (hK : Bl w ak nk bs) (he : (Lit.int .u64 ep).wf = true) (hf : fu ≤ 9223372036854775807) :
    Calls Tryz.prog 7 #[geo N F C U, .slice ap np cp, .int .u64 ep, .agg #[.int .i64 fu, .slice ak nk ck]] w fun e w' => e = .returned (.bool true) ∧ Below w.heap.size w w' := by
  have hr : 0 ≤ ep ∧ ep < 18446744073709551616 := by
    have m0 : IntKind.u64.min = 0 := rfl
    have m1 : IntKind.u64.max = 18446744073709551615 := rfl
    simp [Lit.wf] at he
    omega
  obtain ⟨n, rfl⟩ : ∃ n : Nat, ep = n := ⟨ep.toNat, by omega⟩
  by_cases h : okG N F C U ∧ N ≤ 20 ∧ C ≤ 20 ∧ 0 ≤ fu ∧ np ≤ 60
  · obtain ⟨h1, h2, h3, h5, h6⟩ := h
    exact cowkeeps_near N F C U ap np cp xs n fu ak nk ck bs w hP hK h1 h2 h3 (by omega) h5 hf h6
  · exact cowkeeps_far N F C U ap np cp n fu ak nk ck w h

/-! ### the arguments -/
theorem pbl_of_bools {W : World} {a : Addr} {len cap : Nat} {F : Nat → Bool} (hl : len ≤ cap) (hm : cap ≤ maxLen) (hc : ∀ i, i < cap → W.cell? (a.add i) = some (.bool (F i))) :
    Bl W (some a) len ((List.range len).map F) := by
  have hz : 0 < len → a.spot = none := fun h0 => by
    have := hc 0 (by omega)
    simpa [Addr.add] using World.cell?_spot this
  have hlt : 0 < len → a.block < W.heap.size := fun h0 => by
    have := World.block_lt_of_cell? W _ (hc 0 (by omega))
    rwa [add_block] at this
  refine ⟨by simp, by unfold maxLen at hm; omega, fun h0 => ?_⟩
  obtain ⟨b, off, sp⟩ := a
  obtain rfl : sp = none := hz h0
  refine ⟨b, off, rfl, hlt h0, fun i hi => ?_⟩
  have := hc i (by omega)
  rw [Addr.add_none] at this
  rw [this]
  simp [hi]

theorem pri_of_ints {w : World} {x : Addr} {l c : Nat} {zs : List Int} (hl : l ≤ c) (hm : c ≤ maxLen) (hr : c ≤ 140737488351232) (hz : zs.length = c)
    (hcell : ∀ i, i < zs.length → w.cell? (x.add i) = some (.int .i64 (zs.getD i 0))) : Ri w (some x) l c (zs.take l) := by
  refine ⟨by simp; omega, hl, by omega, hm, fun h0 => ?_, fun e => by cases e⟩
  obtain ⟨b, off, spot⟩ := x
  have hc := hcell 0 (by omega)
  have hspot : spot = none := by simpa [Addr.add] using World.cell?_spot hc
  subst hspot
  have hb := World.block_lt_of_cell? w _ hc
  rw [Addr.add_none] at hb
  refine ⟨b, off, rfl, hb, fun i hi => ?_⟩
  have h1 := hcell i (by omega)
  rw [Addr.add_none] at h1
  rw [h1]
  have hi2 : i < zs.length := by omega
  have e1 : zs.getD i 0 = zs[i] := by simp [List.getD, List.getElem?_eq_getElem hi2]
  have e2 : (zs.take l)[i]?.getD 0 = zs[i] := by
    rw [List.getElem?_take_of_lt hi, List.getElem?_eq_getElem hi2]
    rfl
  rw [e1, e2]

set_option maxRecDepth 100000 in
theorem open_crash17 {H : Type} {enc : TypeId × Value → H} {W : World} {r : Reach} {b0 : Nat} {v : Value} {d : DataW H} {ps : List MemPlace} (hval : Value.okWide Tryz.prog W r b0 85 v) (hd : DataW.Trod enc Tryz.prog W 0 (fun _ => true) true 85 v d ps) :
    ∃ f ak nk ck K, v = .agg #[.int .i64 f, .slice ak nk ck] ∧ Bl W ak nk K ∧ f ≤ 9223372036854775807 := by
  obtain ⟨cs, rfl, hsz⟩ := okWide_struct Tryz.underlying85 hval
  rw [show Tryz.prog.cellsOf 85 = 2 from by kernel_rfl] at hsz
  obtain ⟨l⟩ := cs
  match l, hsz with
  | [c0, c1], _ =>
  obtain ⟨fuel, hf⟩ := hd
  obtain ⟨xs, n, _, hx, _, hlen, hfs⟩ := DataW.trod_struct Tryz.underlying85 hf
  match xs, hlen with
  | [y0, y1], _ =>
  have h0 := hfs 0 _ rfl
  have h1 := hfs 1 _ rfl
  simp only [List.getElem?_cons_zero, List.getElem?_cons_succ] at h0 h1
  have k3 : Tryz.prog.cellsOf 3 = 1 := by kernel_rfl
  have kb : Tryz.prog.cellsOf 34 = 1 := by kernel_rfl
  obtain ⟨f, e0, rfl, w0⟩ := DataW.trod_int Tryz.underlying3 h0
  have hw0 : f ≤ 9223372036854775807 := by
    simp [Lit.wf, IntKind.max, IntKind.min, IntKind.signed, IntKind.bits] at w0
    omega
  simp [Value.cells, k3] at e0
  subst e0
  rcases Go.Deep.open_bools Tryz.underlying34 Tryz.underlying4 (by kernel_rfl) h1 with ⟨q3, _⟩ | ⟨a3, l3, c3', F, q3, _, hl3, hm3, _, hc3⟩
  · simp [Value.cells, k3, kb] at q3
    subst q3
    exact ⟨f, none, 0, 0, [], rfl, ⟨rfl, Nat.zero_le _, fun h => by simp at h⟩, hw0⟩
  · simp [Value.cells, k3, kb] at q3
    subst q3
    exact ⟨f, some a3, l3, c3', _, rfl, pbl_of_bools hl3 hm3 hc3, hw0⟩
end Go.Proofs.YtjohgagiccndpaaGreatDoor

/-
  Texts put together: PT, PU.
-/
import Derived.Test.YtjohgagiccndpaaGreatDoorMPR
import Derived.Test.YtjohgagiccndpaaGreatDoorMPF
import Derived.Deep.RegionHeld3
import Derived.Deep.DeepCutAuto
import Derived.ProofKit
import Derived.OpenShut
import Derived.ChangeOld
import Derived.Below
import Derived.SizedLaws
import Derived.Deep.SlicePairs
import Derived.Deep.Grids
/-
  The walk of RollBack, where the tests let it go on.
-/
namespace Go.Proofs.YtjohgagiccndpaaGreatDoor
open Go.RowKit
set_option linter.unusedVariables false
set_option linter.unusedSimpArgs false

/-- The slice value reads as places and texts. -/
structure Pts16 (w : World) (a : Option Addr) (n cap : Nat) (X : Nat → Int × ByteArray) : Prop where
  le : n ≤ cap
  cm : cap ≤ maxLen
  at0 : 0 < n → ∃ b off, a = some ⟨b, off, none⟩ ∧ b < w.heap.size ∧ ∀ i, i < n → w.cell? ⟨b, off + i * 2, none⟩ = some (.int .i64 (X i).1) ∧ w.cell? ⟨b, off + i * 2 + 1, none⟩ = some (.string (X i).2)
theorem Pts16.later {w w' : World} {a : Option Addr} {n cap : Nat} {X} (h : Pts16 w a n cap X) (hb : Below w.heap.size w w') : Pts16 w' a n cap X where
  le := h.le
  cm := h.cm
  at0 := fun h0 => by
    obtain ⟨b, off, ha, hlt, hc⟩ := h.at0 h0
    exact ⟨b, off, ha, Nat.lt_of_lt_of_le hlt hb.size, fun i hi => ⟨by rw [hb.cell (by exact hlt)]; exact (hc i hi).1, by rw [hb.cell (by exact hlt)]; exact (hc i hi).2⟩⟩
structure CK where
  fu : Int
  ka : Option Addr
  kn : Nat
  kc : Nat
  K : List Bool
instance : Inhabited CK := ⟨⟨0, none, 0, 0, []⟩⟩
/-- The slice value reads as crashes. -/
structure Crs16 (w : World) (a : Option Addr) (n cap : Nat) (X : Nat → CK) : Prop where
  le : n ≤ cap
  cm : cap ≤ maxLen
  at0 : 0 < n → ∃ b off, a = some ⟨b, off, none⟩ ∧ b < w.heap.size ∧ ∀ i, i < n → w.cell? ⟨b, off + i * 2, none⟩ = some (.int .i64 (X i).fu) ∧ w.cell? ⟨b, off + i * 2 + 1, none⟩ = some (.slice (X i).ka (X i).kn (X i).kc)
  bls : ∀ i, i < n → Bl w (X i).ka (X i).kn (X i).K
  fus : ∀ i, i < n → (X i).fu ≤ 9223372036854775807
theorem Crs16.later {w w' : World} {a : Option Addr} {n cap : Nat} {X} (h : Crs16 w a n cap X) (hb : Below w.heap.size w w') : Crs16 w' a n cap X where
  le := h.le
  cm := h.cm
  at0 := fun h0 => by
    obtain ⟨b, off, ha, hlt, hc⟩ := h.at0 h0
    exact ⟨b, off, ha, Nat.lt_of_lt_of_le hlt hb.size, fun i hi => ⟨by rw [hb.cell (by exact hlt)]; exact (hc i hi).1, by rw [hb.cell (by exact hlt)]; exact (hc i hi).2⟩⟩
  bls := fun i hi => (h.bls i hi).below hb
  fus := h.fus

theorem sq_step1 {Q : Nat → Prop} {wq w0 w : World} {p : Nat} {v1 v2 : Value} {S S' : DS} (hp : PD w w0.heap.size p v1 v2 S) (h0 : Below w0.heap.size w0 w) (hq : ∀ k, Q k → k < w.heap.size ∧ ¬ foot p v1 v2 k) (ho : ∀ k, Q k → w.heap[k]? = wq.heap[k]?) {f : FuncId} {args : Array Value} {R : Ending} (hc : Calls Tryz.prog f args w fun e w' => e = R ∧ PP w w0.heap.size p v1 v2 S' w') :
    Calls Tryz.prog f args w fun e w' => e = R ∧ SQ Q wq w0 w' p S' := by
  refine hc.mono ?_
  rintro e w' ⟨he, a, b, hp', hf, ht⟩
  refine ⟨he, ⟨a, b, hp', h0.trans (hf.below (fun k hk => (hp.foot_low k hk).1) h0.size), fun k hk => ⟨Nat.lt_of_lt_of_le (hq k hk).1 hf.size, fun hx => ?_⟩⟩, fun k hk => (hf.block k (hq k hk).1 (hq k hk).2).trans (ho k hk)⟩
  rcases ht k hx with h1 | h1
  · exact (hq k hk).2 h1
  · have := (hq k hk).1; omega
/-- A disk on which nothing waits, scanned and made as it was: what the two calls come to. -/
theorem scan_sb {Q : Nat → Prop} {wq w0 w : World} {p : Nat} {N F C U m : Int} {L0 L : List ByteArray} {l : List En} {did M : Nat} (h : SQ Q wq w0 w p ((flat L did).fuse m)) (ho : okG N F C U) (hr : RbK N F C U L0 l L) (hm : m ≤ 9223372036854775807) (hd : did ≤ M) (hM : M + l.length + 3 ≤ 1000000) (hl : L.length ≤ 1200) :
    Calls Tryz.prog 19 #[.pointer (some ⟨p, 0, none⟩), geo N F C U, .int .u64 1] w fun e w' => ∃ a c, e = .returned (.tuple #[.slice a l.length c, .int .i64 0]) ∧ SQ Q wq w0 w' p ((flat L did).fuse m) ∧ Below w.heap.size w w' ∧
      ∀ w2, Below w'.heap.size w' w2 → Calls Tryz.prog 33 #[.pointer (some ⟨p, 0, none⟩), geo N F C U, .slice a l.length c] w2 fun e2 w3 => e2 = .returned (.int .i64 (backP N F C U ((flat L did).fuse m) l).1) ∧ SQ Q wq w0 w3 p (backP N F C U ((flat L did).fuse m) l).2 := by
  obtain ⟨v1, v2, hp, h0, hq⟩ := h.st
  have hok : ((flat L did).fuse m).ok M := ((flat_ok' L did hl).fuse m hm).mono hd
  refine (scan_any _ p v1 v2 ((flat L did).fuse m) N F C U 1 w hp M hok (by omega) (fun x => flat_sizes hr.sizes did x)).mono ?_
  rintro e w' ⟨⟨a, c, h1, h2, h3⟩, hb⟩
  rw [scan_fuse, hr.scan ho] at h1 h2
  refine ⟨a, c, h1, h.below hb, hb, fun w2 hb2 => ?_⟩
  have hbb := hb.trans (hb2.mono hb.size)
  refine sq_step1 (hp.below hbb) (h0.trans (hbb.mono h0.size)) (fun k hk => ⟨Nat.lt_of_lt_of_le (hq k hk).1 hbb.size, (hq k hk).2⟩) (fun k hk => (hbb.block k (hq k hk).1).trans (h.old k hk)) (back_any _ p v1 v2 _ N F C U a l.length c l w2 (hp.below hbb) (by have := h0.size; have := hbb.size; omega) M hok (by omega) (h2.later hb2) fun b off e h0' => ⟨fun hx => ?_, ?_⟩)
  · have k1 := (hp.foot_low b hx).2
    have k2 := h3 b off none e
    omega
  · obtain ⟨b', off', e', hlt, _⟩ := h2.at0 h0'
    rw [e] at e'
    cases e'
    exact Nat.lt_of_lt_of_le hlt hb2.size
theorem fuse_none (L : List ByteArray) (did : Nat) : flat L did = (flat L did).fuse (-1) := by unfold flat DS.fuse; simp
theorem nodes_sum {N F C U : Int} (j : Nat) (h : (j : Int) < N + (nodes N F C U : Int)) : mayP N F C U ((6 + j : Nat) : Int) := ⟨by omega, by omega⟩
theorem guard_txtR (op : BinOp) (x y : Operand) (u s : ByteArray) (w : World) : Sem.run Tryz.prog (eqGuard op 9 x y (.string u) (.string s)) w = .ok () w := by
  unfold eqGuard
  cases op <;> rfl
theorem neq_txtR (u : ByteArray) (w : World) : (binOp .neq 9 (.string u) (.string u)).run Tryz.prog w = .ok (.bool false) w := by
  obtain ⟨xs, rfl⟩ : ∃ xs : List UInt8, u = ⟨xs.toArray⟩ := ⟨u.data.toList, by cases u; simp⟩
  go_simp
  try simp

set_option maxRecDepth 20000 in
set_option maxHeartbeats 4000000 in
theorem rollback_near (N F C U : Int) (ap : Option Addr) (np cp : Nat) (X : Nat → Int × ByteArray) (ac : Option Addr) (nc cc : Nat) (Y : Nat → CK) (w : World) (hP : Pts16 w ap np cp X) (hY : Crs16 w ac nc cc Y) (ho : okG N F C U) (hN : N ≤ 20) (hU : U ≤ 40) (hn : np ≤ 40) (hc : nc ≤ 6) :
    Calls Tryz.prog 5 #[geo N F C U, .slice ap np cp, .slice ac nc cc] w fun e w' => e = .returned (.bool true) ∧ Below w.heap.size w w' := by
  obtain ⟨n, rfl⟩ : ∃ n : Nat, N = (n : Int) := ⟨N.toNat, by have := ho.1; omega⟩
  have hgr := fun w => grright_any n F C U w
  rw [decide_eq_true ho] at hgr
  have hsz := fun w => rsize_any n F C U 1 w
  obtain ⟨sz, hszd⟩ : ∃ sz : Nat, sz = 6 + n + nodes n F C U + 2 * U.toNat := ⟨_, rfl⟩
  have hszv : sizeOf' n F C U 1 = (sz : Int) := by
    unfold sizeOf'
    have h1 := ho.1
    have h2 := ho.2.2.2.2.2.2
    rw [if_pos ⟨ho, .inr rfl⟩, hszd]
    unfold sec
    simp
    omega
  have hszm : sz ≤ 1200 := by have := nodes_few n F C U; have := ho.2.2.2.2.2.2.1; have := ho.1; omega
  have hszp : 1 ≤ sz := by omega
  have hini : ∀ k, k ≤ n → 6 + k ≤ sz := fun k hk => by omega
  rw [hszv] at hsz
  obtain ⟨L0, did0, hfl, hL0, hL0l, hL0s, hL0z⟩ := ini_flush (N := n) (n := n) (sz := sz) ho rfl hszd
  have hdat : ∀ k : Nat, k < n → dataAt n F C U (k : Int) = 6 + (k : Int) := fun k hk => by unfold dataAt; rw [if_pos ⟨ho, by omega, by omega⟩]
  unfold geo at hgr hsz ⊢
  obtain ⟨W, hW⟩ : ∃ W, W = w.alloc (.cells #[.int .i64 n, .int .i64 F, .int .i64 C, .int .i64 U] 23) := ⟨_, rfl⟩
  have hs0 : W.heap.size = w.heap.size + 1 := by rw [hW]; exact World.size_alloc _ _
  have hb0 : Below w.heap.size w W := by rw [hW]; exact (Below.refl _ w).alloc (Nat.le_refl _) _
  have hgc : ∀ w', Below W.heap.size W w' → w'.cell? ⟨w.heap.size, 0, none⟩ = some (.int .i64 n) ∧ w'.cell? ⟨w.heap.size, 1, none⟩ = some (.int .i64 F) ∧ w'.cell? ⟨w.heap.size, 2, none⟩ = some (.int .i64 C) ∧ w'.cell? ⟨w.heap.size, 3, none⟩ = some (.int .i64 U) := fun w' hb => by
    have := gb_cells w n F C U w' (by unfold gbox; rw [← hW, ← hs0]; exact hb)
    exact this
  have HGC := Lib.hid hgc
  have HGR := Lib.hid hgr
  have HSZ := Lib.hid hsz
  have HB0 := Lib.hid hb0
  have HS0 := Lib.hid hs0
  have HO := Lib.hid ho
  have HP := Lib.hid hP
  have HY := Lib.hid hY
  have HW := Lib.hid hW
  have HSM := Lib.hid (And.intro hszm hszp)
  have HINI := Lib.hid hini
  have HFL := Lib.hid hfl
  have HL0 := Lib.hid (And.intro hL0 (And.intro hL0l (And.intro hL0s hL0z)))
  have HDAT := Lib.hid hdat
  have HN20 := Lib.hid hN
  obtain ⟨c0, c1, c2, c3⟩ := hgc W (Below.refl _ _)
  clear hgc hgr hsz hb0 hs0 hW hP hY ho hszv hszm hszp hini hfl hL0 hL0l hL0s hL0z hdat
  have HSZD := Lib.hid hszd
  clear hszd
  have i1 : (n : Int) ≤ 20 := hN
  have i2 : (U : Int) ≤ 40 := hU
  have i5 : (np : Int) ≤ 40 := by omega
  have i6 : (nc : Int) ≤ 6 := by omega
  clear hN
  go_enter Tryz.func5, Tryz.ntmps5
  go_upto_region 1 with fail
  rw [← HW.out]
  go_wp2_with fail
  refine (HGR.out _).mono ?_
  rintro e w1 ⟨rfl, hb⟩
  have HB1 := Lib.hid (show Below W.heap.size W w1 from hb)
  obtain ⟨c0', c1', c2', c3'⟩ := HGC.out w1 hb
  clear hb c0 c1 c2 c3
  go_upto_region 3 with fail
  go_wp2_with fail
  refine (HSZ.out _).mono ?_
  rintro e w2 ⟨rfl, hb⟩
  have HB2 := Lib.hid (HB1.out.trans (hb.mono HB1.out.size))
  clear hb HB1 c0' c1' c2' c3' HSZ HGR
  have HNEW := Lib.hid (st_new sz w2 HSM.out.2 HSM.out.1)
  go_wp2_with fail
  refine HNEW.out.mono ?_
  rintro e w3 ⟨p, rfl, hst⟩
  rw [ds0_flat] at hst
  have HST := Lib.hid hst
  have HGL := Lib.hid (fun w' (hb : Below w2.heap.size w2 w') => HGC.out w' (HB2.out.trans (hb.mono HB2.out.size)))
  have HBW := Lib.hid (HB0.out.trans (HB2.out.mono (by have := HS0.out; omega)))
  clear hst HNEW
  -- the first contents
  go_upto_region 5 with fail
  go_loopw [9] (fun i wr => ∃ k : Nat, k ≤ n ∧ i = .int .i64 (k : Int) ∧ St NoQ w2 wr p (iniS (flat (List.replicate sz (secOf 0)) 0) k)) (fun i _ => n - (intOf i).toNat)
  case atStart => exact ⟨0, by omega, rfl, HST.out⟩
  case round =>
    obtain ⟨k, hk, rfl, hsk⟩ := hrel
    have HK := Lib.hid hsk
    obtain ⟨c0, c1, c2, c3⟩ := HGL.out wr hsk.fin
    clear hsk
    by_cases hlt : k < n
    · have j2 : (k : Int) < (n : Int) := by omega
      have wr1 : IntKind.i64.wrap ((k : Int) + 1) = (k : Int) + 1 := IntWalk.i64_in _ (by omega)
      have wr2 : IntKind.u8.wrap ((k : Int) + 1) = (k : Int) + 1 := IntWalk.u8_in _ (by omega)
      have hda := fun w => rdata_any n F C U (k : Int) w
      rw [HDAT.out k hlt] at hda
      unfold geo at hda
      have HDA := Lib.hid hda
      have HFI := Lib.hid (fun w => rfill_any ((k : Int) + 1) (byteOf (k + 1)) (by show (k : Int) + 1 = (((k + 1) % 256 : Nat) : Int); omega) w)
      clear hda
      go_wp2_with fail
      refine (HDA.out _).mono ?_
      rintro e w4 ⟨rfl, hb⟩
      have HK4 := Lib.hid (HK.out.below hb)
      clear hb c0 c1 c2 c3
      go_wp2_with fail
      refine (HFI.out _).mono ?_
      rintro e w5 ⟨rfl, hb⟩
      have hk5 := HK4.out.below hb
      have hwr := hk5.step (S' := iniS (flat (List.replicate sz (secOf 0)) 0) (k + 1)) fun v1 v2 hp hz _ => write_any _ p v1 v2 (iniS (flat (List.replicate sz (secOf 0)) 0) k) (6 + (k : Int)) (secOf (byteOf (k + 1))) w5 hp hz k (ini_ok (by have := HSM.out.1; simpa using this) k) (by omega)
      have HWR := Lib.hid hwr
      clear hb hk5 hwr HK4
      go_wp2_with fail
      refine HWR.out.mono ?_
      rintro e w6 ⟨rfl, hk6, -⟩
      have HK6 := Lib.hid hk6
      clear hk6
      go_wp2
      go_roundw
      case rel => exact ⟨k + 1, by omega, by go_num, HK6.out⟩
      case measure => simp [intOf]; omega
    · obtain rfl : k = n := by omega
      have hfl := HK.out.step (S' := flat L0 did0) (R := .returned (.int .i64 (iniS (flat (List.replicate sz (secOf 0)) 0) k).flush.1)) fun v1 v2 hp hz _ => by
        have := flush_any _ p v1 v2 (iniS (flat (List.replicate sz (secOf 0)) 0) k) wr hp hz k (ini_ok (by have := HSM.out.1; simpa using this) k) (by omega)
        rw [HFL.out] at this
        exact this
      have HFLU := Lib.hid hfl
      have hok0 : (flat L0 did0).ok (k + 1) := by
        have := (ini_ok (L := List.replicate sz (secOf 0)) (by have := HSM.out.1; simpa using this) k).flush
        rw [HFL.out] at this
        exact this
      have HOK0 := Lib.hid hok0
      clear hfl hok0
      go_wp2_with fail
      refine HFLU.out.mono ?_
      rintro e w7 ⟨rfl, hst7, -⟩
      obtain ⟨v1, v2, hp7, h07, -⟩ := hst7
      have hcp := copy_any _ p v1 v2 (flat L0 did0) w7 hp7 (by show 0 ≤ _; omega) (by show L0.length ≤ _; have := HL0.out.1; have := HSM.out.1; omega)
      have HCP := Lib.hid hcp
      have HP7 := Lib.hid (And.intro hp7 h07)
      clear hcp hp7 h07 HFLU c0 c1 c2 c3
      go_wp2_with fail
      refine HCP.out.mono ?_
      rintro e w8 ⟨q, u1, u2, rfl, hq8, hb8⟩
      have hsq : SQ (foot q u1 u2) w8 w2 w8 p (flat L0 did0) := ⟨⟨v1, v2, HP7.out.1.below hb8, HP7.out.2.trans (hb8.mono HP7.out.2.size), fun k hk => ⟨(hq8.foot_low k hk).2, fun hx => by have := (hq8.foot_low k hk).1; have := (HP7.out.1.foot_low k hx).2; omega⟩⟩, fun _ _ => rfl⟩
      have HSQ := Lib.hid hsq
      have HQ8 := Lib.hid hq8
      have HQL := Lib.hid (show ∀ k, foot q u1 u2 k → k < w8.heap.size from fun k hk => (hq8.foot_low k hk).2)
      obtain ⟨Q, hQ⟩ : ∃ Q, Q = foot q u1 u2 := ⟨_, rfl⟩
      rw [← hQ] at HSQ HQL
      have HQ := Lib.hid hQ
      have hg1 := go1_first (did := did0) 0 HO.out HL0.out.2.1 HL0.out.2.2.1 HL0.out.2.2.2
      have HG0 := Lib.hid hg1.2
      have HGF := Lib.hid (fun m => (go1_first (did := did0) m HO.out HL0.out.2.1 HL0.out.2.2.1 HL0.out.2.2.2).1)
      clear hq8 hb8 hsq hQ hg1 HP7 HCP
      go_upto_if 79 with fail
      go_cut [] (fun wx => ∃ S, SQ Q w8 w2 wx p S ∧ Go1 k F C U L0 S [] ∧ S.ok 60 ∧ S.L.length = sz)
      case first =>
        by_cases hnc : nc = 0
        · subst hnc
          go_wp2_with fail
          go_meet
          exact ⟨_, HSQ.out, HG0.out, HOK0.out.mono (by omega), HL0.out.1⟩
        · have hnc1 : (0 : Int) < (nc : Int) := by omega
          have hY := HY.out.later (HBW.out.trans (HSQ.out.fin.mono HBW.out.size))
          have hf0 := HY.out.fus 0 (by omega)
          obtain ⟨yb, yo, rfl, hyb, hyc⟩ := hY.at0 (by omega)
          obtain ⟨y0, y1⟩ := hyc 0 (by omega)
          rw [Nat.zero_mul, Nat.add_zero] at y0 y1
          generalize (Y 0).fu = f0 at y0 hf0
          have hfu := HSQ.out.step (S' := (flat L0 did0).fuse f0) (fun v1 v2 hp hz => fuse_any _ p v1 v2 (flat L0 did0) f0 w8 hp)
          have HFU := Lib.hid hfu
          have HF0 := Lib.hid hf0
          have j1 : (nc : Int) ≤ (cc : Int) := by have := HY.out.le; omega
          have j2 : (cc : Int) ≤ 9223372036854775807 := by have := HY.out.cm; unfold maxLen at this; omega
          clear hfu hf0 hyc y1 hY hnc
          go_wp2_with fail
          refine HFU.out.mono ?_
          rintro e w9 ⟨rfl, hsq9⟩
          have HSQ9 := Lib.hid hsq9
          clear hsq9
          go_wp2_with fail
          go_meet
          exact ⟨_, HSQ9.out, HGF.out f0, (HOK0.out.mono (by omega)).fuse f0 HF0.out, HL0.out.1⟩
      case rest =>
        obtain ⟨S0, hsq, hgo, hok, hsl⟩ := hcut
        have hkq : KQ Q w8 w2 wc.heap.size wc p S0 [] (.slice none 0 0) := ⟨hsq.st.less fun k hk => hk.elim (fun h => by cases h) id, World.ownsRow_nil _ _ _ _, hsq.old, fun k hk => by obtain ⟨_, _, _, _, hq⟩ := hsq.st; exact (hq k hk).1, hsq.size, Nat.le_refl _⟩
        have HKQ := Lib.hid hkq
        have HGO := Lib.hid (show Walk1 k F C U L0 S0 [] from .inl hgo)
        have HOK1 := Lib.hid hok
        have HSL := Lib.hid hsl
        clear hsq hgo hok hsl hkq HSQ HG0 HGF
        obtain ⟨n1, hn1⟩ : ∃ n1, n1 = wc.heap.size := ⟨_, rfl⟩
        rw [← hn1] at HKQ
        clear hn1
        go_upto_region 14 with fail
        go_loopw [11, 12] (fun v i wr => ∃ (j : Nat) (l : List En) (S : DS), j ≤ np ∧ i = .int .i64 (j : Int) ∧ KQ Q w8 w2 n1 wr p S l v ∧ Walk1 k F C U L0 S l ∧ S.ok (60 + 5 * j) ∧ S.L.length = sz ∧ l.length ≤ j) (fun _ i _ => np - (intOf i).toNat)
        case atStart => exact ⟨0, [], S0, by omega, rfl, HKQ.out, HGO.out, HOK1.out, HSL.out, by simp⟩
        case round =>
          obtain ⟨j, l, S, hj, rfl, hKQ, hWK, hok, hsl, hlj⟩ := hrel
          obtain ⟨va, vc, rfl, hes⟩ := hKQ.es
          have HKR := Lib.hid hKQ
          have HWK := Lib.hid hWK
          have HES := Lib.hid hes
          have HOK := Lib.hid hok
          have HSL := Lib.hid hsl
          clear hKQ hWK hes hok hsl
          by_cases hlt : j < np
          · have j1 : (0 : Int) ≤ (j : Int) := by omega
            have j2 : (j : Int) < (np : Int) := by omega
            have j3 : (np : Int) ≤ (cp : Int) := by have := HP.out.le; omega
            have j4 : (cp : Int) ≤ 9223372036854775807 := by have := HP.out.cm; unfold maxLen at this; omega
            have wr1 : IntKind.i64.wrap ((j : Int) + 1) = (j : Int) + 1 := IntWalk.i64_in _ (by omega)
            obtain ⟨pb, po, rfl, hpb, hpc⟩ := HP.out.at0 (by omega)
            have hwk : ∀ w', Below w2.heap.size w2 w' → Below w.heap.size w w' := fun w' hb => HBW.out.trans (hb.mono HBW.out.size)
            obtain ⟨hp0, hp1⟩ := hpc j hlt
            have hpr : ∀ w', Below w2.heap.size w2 w' → (w'.cell? ⟨w.heap.size, 0, none⟩ = some (.int .i64 k) ∧ w'.cell? ⟨w.heap.size, 1, none⟩ = some (.int .i64 F) ∧ w'.cell? ⟨w.heap.size, 2, none⟩ = some (.int .i64 C) ∧ w'.cell? ⟨w.heap.size, 3, none⟩ = some (.int .i64 U)) ∧ w'.cell? ⟨pb, po + j * 2, none⟩ = some (.int .i64 (X j).1) ∧ w'.cell? ⟨pb, po + j * 2 + 1, none⟩ = some (.string (X j).2) := fun w' hb => ⟨HGL.out w' hb, ((hwk w' hb).cell (p := ⟨pb, po + j * 2, none⟩) hpb).trans hp0, ((hwk w' hb).cell (p := ⟨pb, po + j * 2 + 1, none⟩) hpb).trans hp1⟩
            generalize (X j).1 = pl at hpr
            generalize (X j).2 = pd at hpr
            have HPR := Lib.hid hpr
            have hfd := find_prog va l.length vc l pl wr HES.out
            have HFD := Lib.hid hfd
            obtain ⟨⟨c0, c1, c2, c3⟩, c4, c5⟩ := hpr wr HKR.out.fin
            clear hpr hwk hpc hp0 hp1 hfd
            go_wp2_with fail
            refine HFD.out.mono ?_
            rintro e w4 ⟨rfl, hb4⟩
            have hk4 := HKR.out.below hb4
            obtain ⟨W4, hW4⟩ : ∃ W4, W4 = w4.alloc (.cells #[.int .u64 0, .int .u64 0, .int .i64 0, .string ⟨#[]⟩] 55) := ⟨_, rfl⟩
            obtain ⟨bx, hbx⟩ : ∃ bx, bx = w4.heap.size := ⟨_, rfl⟩
            have HKB := Lib.hid (hk4.boxed hW4 hbx)
            have HW4 := Lib.hid hW4
            have HBX := Lib.hid hbx
            obtain ⟨⟨c0', c1', c2', c3'⟩, c4', c5'⟩ := HPR.out W4 HKB.out.fin
            clear hb4 hk4 hW4 hbx c0 c1 c2 c3 c4 c5 HFD
            rcases findE_two l pl with ⟨hfe, hno⟩ | ⟨s, i, hfe, hil, hpi⟩
            · rw [hfe]
              have HNO := Lib.hid hno
              have hld : (l.length : Int) ≤ 9223372036854775807 := by omega
              clear hfe hno
              unfold findV
              dsimp only
              go_upto_region 18 with fail
              rw [← HW4.out, ← HBX.out]
              have hokA := appP_ok (N := k) (F := F) (C := C) (U := U) HOK.out (l.length : Int) 3 2 pl
              have hlnA := app_len (N := k) (F := F) (C := C) (U := U) S (l.length : Int) 3 2 pl
              have hwkA := HWK.out.append HO.out HNO.out
              have hkd := HKB.out.below (show Below _ W4 W4.drew from ⟨rfl, rfl, rfl, Nat.le_refl _, fun _ _ => rfl⟩)
              have hap := hkd.step (S' := (appP k F C U S (l.length : Int) 3 2 pl).ds) (f := 18) (args := #[.pointer (some ⟨p, 0, none⟩), geo k F C U, .int .i64 (l.length : Int), .int .u64 ((3 : Nat) : Int), .int .u64 ((2 : Nat) : Int), .int .i64 pl]) (R := .returned (appP k F C U S (l.length : Int) 3 2 pl).val) fun v1 v2 hp hz => append_any _ p v1 v2 S k F C U (l.length : Int) 3 2 pl W4.drew hp hz (60 + 5 * j) HOK.out (by omega) (by omega) (by omega) (fun T x hT => by subst hT; exact HWK.out.small x)
              obtain ⟨A, hA⟩ : ∃ A, A = appP k F C U S (l.length : Int) 3 2 pl := ⟨_, rfl⟩
              rw [← hA] at hokA hlnA hwkA hap
              obtain ⟨c, en, S1⟩ := A
              dsimp only at hokA hlnA hwkA hap
              unfold ApR.val geo En.val at hap
              rw [show ((3 : Nat) : Int) = 3 from rfl, show ((2 : Nat) : Int) = 2 from rfl] at hap
              dsimp only at hap
              have HAP := Lib.hid hap
              have HOKS := Lib.hid (show S1.ok (64 + 5 * j) from hokA.mono (by omega))
              have HSL1 := Lib.hid (show S1.L.length = sz from hlnA.trans HSL.out)
              have HWA := Lib.hid hwkA
              obtain ⟨⟨g0, g1, g2, g3⟩, g4, g5⟩ := HPR.out _ hkd.fin
              have hk0 := hkd.fin
              have HK0 := Lib.hid hk0
              clear hokA hlnA hwkA hap hA hkd hk0 HKB c0' c1' c2' c3' c4' c5'
              go_wp2_with fail
              go_region_held3 (fun w' => (w'.cell? ⟨w.heap.size, 0, none⟩ = some (.int .i64 k) ∧ w'.cell? ⟨w.heap.size, 1, none⟩ = some (.int .i64 F) ∧ w'.cell? ⟨w.heap.size, 2, none⟩ = some (.int .i64 C) ∧ w'.cell? ⟨w.heap.size, 3, none⟩ = some (.int .i64 U)) ∧ w'.cell? ⟨pb, po + j * 2, none⟩ = some (.int .i64 pl) ∧ w'.cell? ⟨pb, po + j * 2 + 1, none⟩ = some (.string pd)) (first | exact HPR.out _ (hset _ _ _ _).fin | exact HPR.out _ hk5.fin | exact ⟨⟨g0, g1, g2, g3⟩, g4, g5⟩)
                (first | (go_at_call 18; refine HAP.out.mono ?_; rintro e w5 ⟨rfl, hk5, hset⟩; have q0 := hk5.box.c0; have q1 := hk5.box.c1; have q2 := hk5.box.c2; have q3 := hk5.box.c3; have r0 := hk5.box.fr 0; have r1 := hk5.box.fr 1; have r2 := hk5.box.fr 2; have r3 := hk5.box.fr 3))
              all_goals (
                rename_i hHeld
                clear hHeld
                obtain ⟨Z, hZe⟩ : ∃ Z, Z = set4 w5 bx (.int .u64 (en.tag : Int)) (.int .u64 (en.epoch : Int)) (.int .i64 en.place) (.string en.old) := ⟨_, rfl⟩
                have hZ : KQB Q w8 w2 n1 Z p S1 l (.slice va l.length vc) bx (.int .u64 (en.tag : Int)) (.int .u64 (en.epoch : Int)) (.int .i64 en.place) (.string en.old) := by rw [hZe]; exact hset _ _ _ _
                unfold set4 at hZe
                rw [← hZe]
                clear hset hZe q0 q1 q2 q3 r0 r1 r2 r3 hk5 g0 g1 g2 g3 g4 g5
                have HZ := Lib.hid hZ
                have x0 := hZ.box.c0
                have x1 := hZ.box.c1
                have x2 := hZ.box.c2
                have x3 := hZ.box.c3
                clear hZ HAP
                by_cases hc0 : c = 0
                · have hwa : en.place = pl ∧ Walk1 k F C U L0 S1 (l ++ [en]) := by
                    rcases HWA.out with h | h
                    · exact ⟨h.2.1, h.2.2⟩
                    · exact absurd hc0 h.1
                  have HWB := Lib.hid hwa
                  subst hc0
                  clear hwa HWA
                  obtain ⟨i0, hi, hz0, hz1, hz2⟩ := info_parts Tryz.infoEnt
                  have hlo := HZ.out.lo2
                  go_wp2_with (at_builtin; refine wpList_append_own_at _ (o := ⟨some 125, _, _, _, _, _⟩) rfl (.tmp 122) (.tmp 124) 53 rfl n1 55 i0 _ 4 40 Tryz.underlying53 hi hz0 hz1 hz2 rfl (by omega) (.slice va l.length vc) l.length _ rfl (HZ.out.row.alloc _) ⟨Z.heap.size, 0, none⟩ 1 1 (ents [en]) rfl rfl (ent_cells Z en) (ents_one _) (by unfold maxLen; omega) (by omega) (by simp; omega) ?_)
                  rintro v' w6 hown hg - hat
                  have hkz := HZ.out.kq.longer (x := en) hown hg (by rcases hat with h | h; exact .inl h; exact .inr (by rw [h]; simp))
                  obtain ⟨a', c', rfl, -⟩ := owns_shape1 hown
                  have HKZ := Lib.hid hkz
                  clear hkz hown hg hat x0 x1 x2 x3 HZ hlo
                  have hkd := HKZ.out.below (show Below _ w6 w6.drew from ⟨rfl, rfl, rfl, Nat.le_refl _, fun _ _ => rfl⟩)
                  have hwr := hkd.step (S' := (S1.write pl pd).2) (fun v1 v2 hp hz => write_any _ p v1 v2 S1 pl pd _ hp hz (64 + 5 * j) HOKS.out (by omega))
                  have HWR := Lib.hid hwr
                  have HWK := Lib.hid (show Walk1 k F C U L0 (S1.write pl pd).2 (l ++ [en]) from HWB.out.2.write HO.out fun _ => ⟨l.length, by simp, by rw [eAt_append_eq]; exact HWB.out.1⟩)
                  have HLK := Lib.hid (show (l ++ [en]).length ≤ j + 1 from by rw [List.length_append]; simp; omega)
                  obtain ⟨d4, d5⟩ := (HPR.out _ hkd.fin).2
                  clear hwr hkd
                  go_wp2_with fail
                  go_region_held3 (fun w' => w'.cell? ⟨pb, po + j * 2, none⟩ = some (.int .i64 pl) ∧ w'.cell? ⟨pb, po + j * 2 + 1, none⟩ = some (.string pd)) (first | exact (HPR.out _ hkw.fin).2 | exact ⟨d4, d5⟩)
                    (first | (go_at_call 27; refine HWR.out.mono ?_; rintro e w9 ⟨rfl, hkw⟩))
                  all_goals (
                    rename_i hHeld
                    clear hHeld
                    have HKW := Lib.hid hkw
                    clear hkw d4 d5
                    go_wp2
                    go_roundw
                    case rel => exact ⟨j + 1, _, _, by omega, by go_num, HKW.out, HWK.out, (HOKS.out.write _ _).mono (by omega), (wr_len _ _ _).trans HSL1.out, HLK.out⟩
                    case measure => simp [intOf]; omega)
                · have hwa : Walk1 k F C U L0 S1 l := by
                    rcases HWA.out with h | h
                    · exact absurd h.1 hc0
                    · exact h.2
                  have HWB := Lib.hid hwa
                  have hce : (c == 0) = false := by simpa using hc0
                  have hcn : (c != 0) = true := by simp [hc0]
                  clear hwa HWA x0 x1 x2 x3
                  go_wp2
                  go_roundw
                  case rel => exact ⟨j + 1, _, _, by omega, by go_num, HZ.out.kq, HWB.out, HOKS.out.mono (by omega), HSL1.out, by omega⟩
                  case measure => simp [intOf]; omega)
            · rw [hfe]
              have HPI := Lib.hid (And.intro hil hpi)
              clear hfe hil hpi
              unfold findV
              dsimp only
              obtain ⟨S1, hS1⟩ : ∃ S1, S1 = S := ⟨_, rfl⟩
              have HOKS := Lib.hid (show S1.ok (64 + 5 * j) from by rw [hS1]; exact HOK.out.mono (by omega))
              have HSL1 := Lib.hid (show S1.L.length = sz from by rw [hS1]; exact HSL.out)
              have HWK1 := Lib.hid (show Walk1 k F C U L0 S1 l from by rw [hS1]; exact HWK.out)
              have HKB1 := Lib.hid (show KQ Q w8 w2 n1 W4 p S1 l (.slice va l.length vc) from by rw [hS1]; exact HKB.out.kq)
              clear hS1
              go_upto_region 18 with fail
              rw [← HW4.out, ← HBX.out]
              have hkd := HKB1.out.below (show Below _ W4 W4.drew from ⟨rfl, rfl, rfl, Nat.le_refl _, fun _ _ => rfl⟩)
              have hwr := hkd.step (S' := (S1.write pl pd).2) (fun v1 v2 hp hz => write_any _ p v1 v2 S1 pl pd _ hp hz (64 + 5 * j) HOKS.out (by omega))
              have HWR := Lib.hid hwr
              have HWK := Lib.hid (show Walk1 k F C U L0 (S1.write pl pd).2 (l) from HWK1.out.write HO.out fun _ => ⟨i, HPI.out.1, HPI.out.2⟩)
              have HLK := Lib.hid (show (l).length ≤ j + 1 from by omega)
              obtain ⟨d4, d5⟩ := (HPR.out _ hkd.fin).2
              clear hwr hkd
              go_wp2_with fail
              go_region_held3 (fun w' => w'.cell? ⟨pb, po + j * 2, none⟩ = some (.int .i64 pl) ∧ w'.cell? ⟨pb, po + j * 2 + 1, none⟩ = some (.string pd)) (first | exact (HPR.out _ hkw.fin).2 | exact ⟨d4, d5⟩)
                (first | (go_at_call 27; refine HWR.out.mono ?_; rintro e w9 ⟨rfl, hkw⟩))
              all_goals (
                rename_i hHeld
                clear hHeld
                have HKW := Lib.hid hkw
                clear hkw d4 d5
                go_wp2
                go_roundw
                case rel => exact ⟨j + 1, _, _, by omega, by go_num, HKW.out, HWK.out, (HOKS.out.write _ _).mono (by omega), (wr_len _ _ _).trans HSL1.out, HLK.out⟩
                case measure => simp [intOf]; omega)
          · obtain rfl : j = np := by omega
            have hsq := HKR.out.sq
            have HSQ := Lib.hid hsq
            have HSF := Lib.hid (HWK.out.safe HO.out)
            have HOK3 := Lib.hid (HOK.out.mono (show 60 + 5 * j ≤ 300 by omega))
            clear hsq HKR HWK HES HOK HSL HKQ HGO HOK1
            go_upto_region 25 with fail
            go_loopw [17] (fun i wr => ∃ (t : Nat) (S : DS), t ≤ nc ∧ i = .int .i64 (t : Int) ∧ SQ Q w8 w2 wr p S ∧ Safe (Good k F C U L0) S ∧ S.ok (300 + 50 * t)) (fun i _ => nc - (intOf i).toNat)
            case atStart => exact ⟨0, S, by omega, rfl, HSQ.out, HSF.out, HOK3.out⟩
            case round =>
              obtain ⟨t, S3, ht, rfl, hsq, hsf, hok⟩ := hrel
              have HSQR := Lib.hid hsq
              have HSFR := Lib.hid hsf
              have HOKR := Lib.hid hok
              clear hsq hsf hok
              by_cases hlt : t < nc
              · have j2 : (t : Int) < (nc : Int) := by omega
                have j0 : (0 : Int) ≤ (t : Int) := by omega
                have j3 : (nc : Int) ≤ (cc : Int) := by have := HY.out.le; omega
                have j4 : (cc : Int) ≤ 9223372036854775807 := by have := HY.out.cm; unfold maxLen at this; omega
                have wr1 : IntKind.i64.wrap ((t : Int) + 1) = (t : Int) + 1 := IntWalk.i64_in _ (by omega)
                obtain ⟨yb, yo, rfl, hyb, hyc⟩ := HY.out.at0 (by omega)
                have hwk : ∀ w', Below w2.heap.size w2 w' → Below w.heap.size w w' := fun w' hb => HBW.out.trans (hb.mono HBW.out.size)
                have hyr : ∀ (i : Nat), i < nc → ∀ w', Below w2.heap.size w2 w' → w'.cell? ⟨yb, yo + i * 2, none⟩ = some (.int .i64 (Y i).fu) ∧ w'.cell? ⟨yb, yo + i * 2 + 1, none⟩ = some (.slice (Y i).ka (Y i).kn (Y i).kc) := fun i hi w' hb => ⟨((hwk w' hb).cell (p := ⟨yb, yo + i * 2, none⟩) hyb).trans (hyc i hi).1, ((hwk w' hb).cell (p := ⟨yb, yo + i * 2 + 1, none⟩) hyb).trans (hyc i hi).2⟩
                have hcr := HSQR.out.step (S' := S3.crash (Y t).K) (fun v1 v2 hp hz => crash_any _ p v1 v2 S3 (Y t).ka (Y t).kn (Y t).kc (Y t).K wr hp hz (300 + 50 * t) HOKR.out (by omega) ((HY.out.bls t hlt).below (hwk wr HSQR.out.fin)) (fun b off e h0 hx => by have h1 := (hp.foot_low b hx).1; have h2 := (HY.out.bls t hlt).lt e h0; have h3 := HBW.out.size; omega))
                have HYR := Lib.hid hyr
                have HCR := Lib.hid hcr
                obtain ⟨y0, y1⟩ := hyr t hlt wr HSQR.out.fin
                obtain ⟨l1, hrb⟩ := HSFR.out (Y t).K
                have hcu := crash_up S3 (Y t).K
                obtain ⟨L1, hL1⟩ : ∃ L1, L1 = appK S3.L S3.W (Y t).K S3.W.length := ⟨_, rfl⟩
                rw [← hL1] at hrb hcu
                have hl1 : L1.length ≤ 1200 := by rw [hL1, appK_length]; exact HOKR.out.len
                have HRB := Lib.hid hrb
                have HCU := Lib.hid hcu
                have HL1 := Lib.hid hl1
                have HDD := Lib.hid HOKR.out.did
                clear hyr hwk hyc hcr hrb hcu hL1 hl1 y0
                generalize (Y t).ka = ka at *
                generalize (Y t).kn = kn at *
                generalize (Y t).kc = kc at *
                go_wp2_with fail
                refine HCR.out.mono ?_
                rintro e w9 ⟨rfl, hsq9⟩
                have hup := hsq9.step (S' := flat L1 S3.did) (R := .returned (.int .i64 (S3.crash (Y t).K).up.1)) (fun v1 v2 hp hz => by
                  have := up_any _ p v1 v2 (S3.crash (Y t).K) w9 hp
                  rw [HCU.out] at this
                  exact this)
                have HUP := Lib.hid hup
                clear hup hsq9 HCR y1
                go_wp2_with fail
                refine HUP.out.mono ?_
                rintro e w10 ⟨rfl, hsq10⟩
                have HSQ10 := Lib.hid hsq10
                clear hsq10 HUP
                go_upto_if 157 with fail
                go_cut [] (fun wx => ∃ m, SQ Q w8 w2 wx p ((flat L1 S3.did).fuse m) ∧ m ≤ 9223372036854775807)
                case first =>
                  by_cases ht1 : t + 1 < nc
                  · have k2 : (t : Int) + 1 < (nc : Int) := by omega
                    have k0 : (0 : Int) ≤ (t : Int) + 1 := by omega
                    obtain ⟨z0, z1⟩ := HYR.out (t + 1) ht1 w10 HSQ10.out.fin
                    have hfm := HY.out.fus (t + 1) ht1
                    have hat : yo + (t + 1) * 2 = yo + ((t : Int) + 1).toNat * 2 := by omega
                    have z0' := z0
                    rw [hat] at z0'
                    generalize (Y (t + 1)).fu = fm at z0 z0' hfm
                    have hfu := HSQ10.out.step (S' := (flat L1 S3.did).fuse fm) (fun v1 v2 hp hz => fuse_any _ p v1 v2 (flat L1 S3.did) fm w10 hp)
                    have HFU := Lib.hid hfu
                    have HFM := Lib.hid hfm
                    clear hfu hfm z1 hat
                    go_wp2_with fail
                    refine HFU.out.mono ?_
                    rintro e w11 ⟨rfl, hsq11⟩
                    have HSQ11 := Lib.hid hsq11
                    clear hsq11
                    go_wp2_with fail
                    go_meet
                    exact ⟨_, HSQ11.out, HFM.out⟩
                  · have k2 : ¬ ((t : Int) + 1 < (nc : Int)) := by omega
                    go_wp2_with fail
                    go_meet
                    exact ⟨-1, by rw [← fuse_none]; exact HSQ10.out, by omega⟩
                case rest =>
                  obtain ⟨m, hsqx, hmm⟩ := hcut
                  have hll : l1.length ≤ 40 := by have := HRB.out.holds.few; omega
                  have hsb := scan_sb (M := 300 + 50 * t) hsqx HO.out HRB.out hmm HDD.out (by omega) HL1.out
                  unfold geo at hsb
                  have HSB := Lib.hid hsb
                  have HFIN0 := Lib.hid hsqx.fin
                  obtain ⟨c0, c1, c2, c3⟩ := HGL.out wc hsqx.fin
                  have hsafe := (back_safe (m := if 0 ≤ m then m else -1) (did := S3.did) HO.out HRB.out).1
                  have hokb := backP_ok (N := k) (F := F) (C := C) (U := U) (((flat_ok' L1 S3.did HL1.out).fuse m hmm).mono HDD.out) l1
                  have HSAFE := Lib.hid (show Safe (Good k F C U L0) (backP k F C U ((flat L1 S3.did).fuse m) l1).2 from hsafe)
                  have HOKB := Lib.hid (hokb.mono (show 300 + 50 * t + l1.length + 3 ≤ 300 + 50 * (t + 1) by omega))
                  clear hsqx hsb hsafe hokb
                  go_wp2_with fail
                  refine HSB.out.mono ?_
                  rintro e w12 ⟨a5, c5, rfl, hsq12, hb12, hback⟩
                  have hback := hback w12 (Below.refl _ _)
                  have HBK := Lib.hid hback
                  obtain ⟨c0', c1', c2', c3'⟩ := HGL.out w12 hsq12.fin
                  clear hback hsq12 hb12 HSB c0 c1 c2 c3
                  go_wp2_with fail
                  refine HBK.out.mono ?_
                  rintro e w13 ⟨rfl, hsq13⟩
                  have HSQ13 := Lib.hid hsq13
                  clear hsq13 HBK c0' c1' c2' c3'
                  go_wp2
                  go_roundw
                  case rel => exact ⟨t + 1, _, by omega, by go_num, HSQ13.out, HSAFE.out, HOKB.out⟩
                  case measure => simp [intOf]; omega
              · obtain rfl : t = nc := by omega
                have hcr := HSQR.out.step (S' := S3.crash []) (fun v1 v2 hp hz => crash_any _ p v1 v2 S3 none 0 0 [] wr hp hz (300 + 50 * t) HOKR.out (by omega) ⟨rfl, Nat.zero_le _, fun h => by simp at h⟩ (fun b off e => by cases e))
                have HCR := Lib.hid hcr
                obtain ⟨l1, hrb⟩ := HSFR.out []
                have hcu := crash_up S3 []
                obtain ⟨L1, hL1⟩ : ∃ L1, L1 = appK S3.L S3.W [] S3.W.length := ⟨_, rfl⟩
                rw [← hL1] at hrb hcu
                have hl1 : L1.length ≤ 1200 := by rw [hL1, appK_length]; exact HOKR.out.len
                have HRB := Lib.hid hrb
                have HCU := Lib.hid hcu
                have HL1 := Lib.hid hl1
                have HDD := Lib.hid HOKR.out.did
                clear hcr hrb hcu hL1 hl1
                go_wp2_with fail
                refine HCR.out.mono ?_
                rintro e w9 ⟨rfl, hsq9⟩
                have hup := hsq9.step (S' := flat L1 S3.did) (R := .returned (.int .i64 (S3.crash []).up.1)) (fun v1 v2 hp hz => by
                  have := up_any _ p v1 v2 (S3.crash []) w9 hp
                  rw [HCU.out] at this
                  exact this)
                have HUP := Lib.hid hup
                clear hup hsq9 HCR
                go_wp2_with fail
                refine HUP.out.mono ?_
                rintro e w10 ⟨rfl, hsq10⟩
                rw [fuse_none] at hsq10
                have hll : l1.length ≤ 40 := by have := HRB.out.holds.few; omega
                have hsb := scan_sb (M := 300 + 50 * t) hsq10 HO.out HRB.out (by omega) HDD.out (by omega) HL1.out
                unfold geo at hsb
                have HSB := Lib.hid hsb
                obtain ⟨c0, c1, c2, c3⟩ := HGL.out w10 hsq10.fin
                obtain ⟨hbw, L2, did2, hbs, hhome⟩ := (back_safe (m := -1) (did := S3.did) HO.out HRB.out).2 rfl
                have hbe : backP k F C U ((flat L1 S3.did).fuse (-1)) l1 = (0, flat L2 did2) := by
                  have e : backP k F C U ((flat L1 S3.did).fuse (-1)) l1 = backP k F C U ⟨L1, [], -1, false, S3.did⟩ l1 := by rw [← fuse_none]; rfl
                  rw [e]
                  exact Prod.ext hbw hbs
                have hokb := backP_ok (N := k) (F := F) (C := C) (U := U) (((flat_ok' L1 S3.did HL1.out).fuse (-1) (by omega)).mono HDD.out) l1
                rw [hbe] at hokb
                have HOK4 := Lib.hid (show did2 ≤ 700 ∧ L2.length ≤ 1200 from ⟨by have := hokb.did; simp [flat] at this; omega, hokb.len⟩)
                have HBE := Lib.hid hbe
                have HHM := Lib.hid hhome
                clear hsq10 hsb hbw hbs hhome hbe hokb HUP
                go_wp2_with fail
                refine HSB.out.mono ?_
                rintro e w12 ⟨a5, c5, rfl, hsq12, hb12, hback⟩
                have hback := hback w12 (Below.refl _ _)
                rw [HBE.out] at hback
                dsimp only at hback
                have HBK := Lib.hid hback
                obtain ⟨c0', c1', c2', c3'⟩ := HGL.out w12 hsq12.fin
                clear hback hsq12 hb12 HSB c0 c1 c2 c3
                go_wp2_with fail
                refine HBK.out.mono ?_
                rintro e w13 ⟨rfl, hsq13⟩
                have HSQ13 := Lib.hid hsq13
                clear hsq13 HBK c0' c1' c2' c3'
                -- the sectors
                have hnd := fun w => rnodes_any k F C U w
                unfold geo at hnd
                have HND := Lib.hid hnd
                have hnf := nodes_few k F C U
                obtain ⟨nd, hnde⟩ : ∃ nd, nd = nodes k F C U := ⟨_, rfl⟩
                rw [← hnde] at hnf
                rw [← hnde] at HND
                have HNE := Lib.hid hnde
                clear hnd hnde
                go_upto_region 38 with fail
                go_loopw [21] (fun i wr => ∃ (g : Nat), g ≤ k + nd ∧ i = .int .i64 (g : Int) ∧ SQ Q w8 w2 wr p (flat L2 did2)) (fun i _ => k + nd - (intOf i).toNat)
                case atStart => exact ⟨0, by omega, rfl, HSQ13.out⟩
                case round =>
                  obtain ⟨g, hg, rfl, hsq⟩ := hrel
                  have HSR := Lib.hid hsq
                  have hdr : Below wr.heap.size wr wr.drew := ⟨rfl, rfl, rfl, Nat.le_refl _, fun _ _ => rfl⟩
                  have hsd := hsq.below hdr
                  obtain ⟨c0, c1, c2, c3⟩ := HGL.out wr.drew hsd.fin
                  have HGQ := Lib.hid (fun w' (hb : Below wr.drew.heap.size wr.drew w') => HGL.out w' (hsd.below hb).fin)
                  have hfd := hsd.fin
                  have HFD := Lib.hid hfd
                  clear hsq hdr hsd hfd
                  obtain ⟨T, hT⟩ : ∃ T : Int, T = (k : Int) + (nd : Int) := ⟨_, rfl⟩
                  have wrT : IntKind.i64.wrap ((k : Int) + (nd : Int)) = T := (IntWalk.i64_in _ (by omega)).trans hT.symm
                  have HT := Lib.hid hT
                  clear hT
                  by_cases hlt : g < k + nd
                  · have gT : (g : Int) < T := by have := HT.out; omega
                    have wr1 : IntKind.i64.wrap ((g : Int) + 1) = (g : Int) + 1 := IntWalk.i64_in _ (by omega)
                    have wr6 : IntKind.i64.wrap (6 + (g : Int)) = 6 + (g : Int) := IntWalk.i64_in _ (by omega)
                    go_wp2_with fail
                    go_region_held3 (fun w' => w'.cell? ⟨w.heap.size, 0, none⟩ = some (.int .i64 k) ∧ w'.cell? ⟨w.heap.size, 1, none⟩ = some (.int .i64 F) ∧ w'.cell? ⟨w.heap.size, 2, none⟩ = some (.int .i64 C) ∧ w'.cell? ⟨w.heap.size, 3, none⟩ = some (.int .i64 U)) (first | exact HGQ.out _ hb | exact ⟨c0, c1, c2, c3⟩)
                      (first | (go_at_call 34; refine (HND.out _).mono ?_; rintro e w14 ⟨rfl, hb⟩))
                    all_goals (
                      rename_i hHeld
                      clear hHeld
                      have hdr : Below wr.heap.size wr wr.drew := ⟨rfl, rfl, rfl, Nat.le_refl _, fun _ _ => rfl⟩
                      have hs14 := HSR.out.below (hdr.trans (show Below wr.heap.size wr.drew w14 from hb))
                      have hg2 : 6 + g < L2.length := by have := HHM.out.len; have := HNE.out; have := HO.out.2.2.2.2.2.2.1; omega
                      have hg0 : 6 + g < L0.length := by have := HL0.out.2.1; have := HNE.out; have := HO.out.2.2.2.2.2.2.1; omega
                      have hall := HHM.out.all (6 + g) (nodes_sum g (by have := HNE.out; omega))
                      obtain ⟨V, hV⟩ : ∃ V, V = lAt L0 (6 + g) := ⟨_, rfl⟩
                      rw [← hV] at hall
                      have hrd := hs14.read (R := fun e _ => e = .returned (.tuple #[.string V, .int .i64 0])) (f := 35) (args := #[.pointer (some ⟨p, 0, none⟩), .int .i64 (6 + (g : Int))]) (fun v1 v2 hp => by
                        have := read_any _ p v1 v2 (flat L2 did2) (6 + (g : Int)) w14 hp (by show 0 ≤ _; omega) (by have := HOK4.out.2; show L2.length ≤ _; omega)
                        rw [show (6 : Int) + (g : Int) = ((6 + g : Nat) : Int) from by omega, flat_read L2 did2 _ hg2, hall] at this
                        rw [show (6 : Int) + (g : Int) = ((6 + g : Nat) : Int) from by omega]
                        exact this)
                      have HRD := Lib.hid hrd
                      have HV := Lib.hid hV
                      have HG0 := Lib.hid hg0
                      clear hrd hs14 hdr hg2 hg0 hall hV hb c0 c1 c2 c3
                      go_wp2_with fail
                      refine HRD.out.mono ?_
                      rintro e w15 ⟨rfl, hs15, -⟩
                      have hwas := HQ8.out.kept (w' := w15) (fun b hb => hs15.old b (by rw [HQ.out]; exact hb))
                      have hrd2 := read_any _ q u1 u2 (flat L0 did0) (6 + (g : Int)) w15 hwas (by show 0 ≤ _; omega) (by have := HG0.out; have := HL0.out.1; have := HSM.out.1; show L0.length ≤ _; omega)
                      rw [show (6 : Int) + (g : Int) = ((6 + g : Nat) : Int) from by omega, flat_read L0 did0 _ HG0.out, ← HV.out, show ((6 + g : Nat) : Int) = (6 : Int) + (g : Int) from by omega] at hrd2
                      unfold two at hrd2
                      dsimp only at hrd2
                      have HRD2 := Lib.hid hrd2
                      have HS15 := Lib.hid hs15
                      have qE : ∀ op x y w, Sem.run Tryz.prog (eqGuard op 9 x y (.string V) (.string V)) w = .ok () w := fun op x y w => guard_txtR op x y V V w
                      have qN : ∀ w, (binOp .neq 9 (.string V) (.string V)).run Tryz.prog w = .ok (.bool false) w := fun w => neq_txtR V w
                      clear hwas hrd2 hs15 HRD
                      go_wp2_with fail
                      refine HRD2.out.mono ?_
                      rintro e w16 ⟨rfl, hb16⟩
                      have HS16 := Lib.hid (HS15.out.below hb16)
                      clear hb16 HRD2
                      go_wp2
                      go_roundw
                      case rel => exact ⟨g + 1, by omega, by go_num, HS16.out⟩
                      case measure => simp [intOf]; omega)
                  · obtain rfl : g = k + nd := by omega
                    have gT : ¬ (((k + nd : Nat) : Int) < T) := by have := HT.out; omega
                    have hg2 : L2.length ≤ 1200 := HOK4.out.2
                    go_wp2_with fail
                    go_region_held3 (fun w' => w'.cell? ⟨w.heap.size, 0, none⟩ = some (.int .i64 k) ∧ w'.cell? ⟨w.heap.size, 1, none⟩ = some (.int .i64 F) ∧ w'.cell? ⟨w.heap.size, 2, none⟩ = some (.int .i64 C) ∧ w'.cell? ⟨w.heap.size, 3, none⟩ = some (.int .i64 U)) (first | exact HGQ.out _ hb | exact ⟨c0, c1, c2, c3⟩)
                      (first | (go_at_call 34; refine (HND.out _).mono ?_; rintro e w14 ⟨rfl, hb⟩))
                    all_goals (
                      rename_i hHeld
                      clear hHeld
                      have hdr : Below wr.heap.size wr wr.drew := ⟨rfl, rfl, rfl, Nat.le_refl _, fun _ _ => rfl⟩
                      have hs14 := HSR.out.below (hdr.trans (show Below wr.heap.size wr.drew w14 from hb))
                      have hsc := hs14.read (R := fun e _ => ∃ a c, e = .returned (.tuple #[.slice a 0 c, .int .i64 0])) (f := 19) (args := #[.pointer (some ⟨p, 0, none⟩), geo k F C U, .int .u64 1]) (fun v1 v2 hp => by
                        refine (scan_any _ p v1 v2 (flat L2 did2) k F C U 1 w14 hp did2 (flat_ok' L2 did2 hg2) (by have := HOK4.out.1; omega) (flat_sizes HHM.out.sizes did2)).mono ?_
                        rintro e w' ⟨⟨a, c, h1, h2, _⟩, h3⟩
                        rw [HHM.out.scan HO.out] at h1
                        exact ⟨⟨a, c, h1⟩, h3⟩)
                      unfold geo at hsc
                      have HSC := Lib.hid hsc
                      obtain ⟨d0, d1, d2, d3⟩ := HGL.out w14 hs14.fin
                      clear hsc hdr hs14 hb c0 c1 c2 c3
                      go_wp2_with fail
                      refine HSC.out.mono ?_
                      rintro e w15 ⟨⟨a7, c7, rfl⟩, hs15, -⟩
                      have hhd := fun w => rhead_any 7 [] 0 0 ⟨#[]⟩ w (by omega) (by omega) (by simp) (by simp [ByteArray.size])
                      obtain ⟨V, hV⟩ : ∃ V : ByteArray, V = ⟨(makeP 7 (hdBody [] 0 0 (sumN ⟨#[]⟩))).1.toArray⟩ := ⟨_, rfl⟩
                      have hVs : (V.size : Int) = 64 := by
                        have h64 := rhead_len 0
                        have e : V.size = (makeP 7 (hdBody [] 0 0 (sumN ⟨#[]⟩))).1.length := by rw [hV]; exact List.size_toArray
                        omega
                      rw [show strV (makeP 7 (hdBody [] 0 0 (sumN ⟨#[]⟩))).1 = Value.string V from by rw [hV]; rfl, show strV [] = Value.string ⟨#[]⟩ from rfl, show ((0 : Nat) : Int) = 0 from rfl] at hhd
                      have HHD := Lib.hid hhd
                      have HVS := Lib.hid hVs
                      have hv1 : ((V.size : Int) == 64) = true := by simp [hVs]
                      have HFW := Lib.hid (HBW.out.trans (hs15.fin.mono HBW.out.size))
                      have HKN := Lib.hid (fun w => known16_any w)
                      clear hhd hV hVs hs15 HSC d0 d1 d2 d3
                      go_wp2_with fail
                      refine (HHD.out _).mono ?_
                      rintro e w16 ⟨rfl, hb16⟩
                      have HB16 := Lib.hid (HFW.out.trans (hb16.mono HFW.out.size))
                      clear hb16 HHD
                      go_wp2_with fail
                      refine (HKN.out _).mono ?_
                      rintro e w17 ⟨rfl, hb17⟩
                      have HB17 := Lib.hid (HB16.out.trans (hb17.mono HB16.out.size))
                      clear hb17 HKN
                      go_wp2
                      go_ret
                      exact ⟨rfl, HB17.out⟩)
end Go.Proofs.YtjohgagiccndpaaGreatDoor
/-
  RollBack whole: where a test stops it too; its arguments, opened.
-/
namespace Go.Proofs.YtjohgagiccndpaaGreatDoor
open Go.RowKit Go.ChangeShapes Go.WideShapes Go.ChangeAt
set_option linter.unusedVariables false
set_option linter.unusedSimpArgs false

set_option maxRecDepth 20000 in
set_option maxHeartbeats 4000000 in
theorem rollback_far (N F C U : Int) (ap : Option Addr) (np cp : Nat) (ac : Option Addr) (nc cc : Nat) (w : World) (hx : ¬ (okG N F C U ∧ N ≤ 20 ∧ U ≤ 40 ∧ np ≤ 40 ∧ nc ≤ 6)) :
    Calls Tryz.prog 5 #[geo N F C U, .slice ap np cp, .slice ac nc cc] w fun e w' => e = .returned (.bool true) ∧ Below w.heap.size w w' := by
  have hgr := fun w => grright_any N F C U w
  obtain ⟨W, hW⟩ : ∃ W, W = w.alloc (.cells #[.int .i64 N, .int .i64 F, .int .i64 C, .int .i64 U] 23) := ⟨_, rfl⟩
  have hs0 : W.heap.size = w.heap.size + 1 := by rw [hW]; exact World.size_alloc _ _
  have hb0 : Below w.heap.size w W := by rw [hW]; exact (Below.refl _ w).alloc (Nat.le_refl _) _
  have hgc : ∀ w', Below W.heap.size W w' → w'.cell? ⟨w.heap.size, 0, none⟩ = some (.int .i64 N) ∧ w'.cell? ⟨w.heap.size, 1, none⟩ = some (.int .i64 F) ∧ w'.cell? ⟨w.heap.size, 2, none⟩ = some (.int .i64 C) ∧ w'.cell? ⟨w.heap.size, 3, none⟩ = some (.int .i64 U) := fun w' hb => by
    have := gb_cells w N F C U w' (by unfold gbox; rw [← hW, ← hs0]; exact hb)
    exact this
  have HGC := Lib.hid hgc
  have HB0 := Lib.hid hb0
  have HW := Lib.hid hW
  have HKN := Lib.hid (fun w => known16_any w)
  obtain ⟨c0, c1, c2, c3⟩ := hgc W (Below.refl _ _)
  clear hgc hb0 hs0 hW
  unfold geo at hgr ⊢
  by_cases h1 : okG N F C U
  · rw [decide_eq_true h1] at hgr
    have HGR := Lib.hid hgr
    clear hgr
    by_cases h2 : N ≤ 20
    · by_cases h3 : U ≤ 40
      · by_cases h5 : np ≤ 40
        · have h6 : (6 : Int) < (nc : Int) := by
            rcases Nat.lt_or_ge 6 nc with h | h
            · omega
            · exact absurd ⟨h1, h2, h3, h5, h⟩ hx
          have h5' : (np : Int) ≤ 40 := by omega
          clear h1 hx h5
          go_enter Tryz.func5, Tryz.ntmps5
          go_upto_region 1 with fail
          rw [← HW.out]
          go_wp2_with fail
          refine (HGR.out _).mono ?_
          rintro e w1 ⟨rfl, hb⟩
          obtain ⟨c0', c1', c2', c3'⟩ := HGC.out w1 hb
          have HB1 := Lib.hid (HB0.out.trans (hb.mono HB0.out.size))
          clear hb c0 c1 c2 c3
          go_wp2_with fail
          refine (HKN.out _).mono ?_
          rintro e w2 ⟨rfl, hb⟩
          have HB2 := Lib.hid (HB1.out.trans (hb.mono HB1.out.size))
          clear hb
          go_wp2
          go_ret
          exact ⟨rfl, HB2.out⟩
        · have h5' : (40 : Int) < (np : Int) := by omega
          clear h1 hx h5
          go_enter Tryz.func5, Tryz.ntmps5
          go_upto_region 1 with fail
          rw [← HW.out]
          go_wp2_with fail
          refine (HGR.out _).mono ?_
          rintro e w1 ⟨rfl, hb⟩
          obtain ⟨c0', c1', c2', c3'⟩ := HGC.out w1 hb
          have HB1 := Lib.hid (HB0.out.trans (hb.mono HB0.out.size))
          clear hb c0 c1 c2 c3
          go_wp2_with fail
          refine (HKN.out _).mono ?_
          rintro e w2 ⟨rfl, hb⟩
          have HB2 := Lib.hid (HB1.out.trans (hb.mono HB1.out.size))
          clear hb
          go_wp2
          go_ret
          exact ⟨rfl, HB2.out⟩
      · have h3' : 40 < U := by omega
        clear h1 hx h3
        go_enter Tryz.func5, Tryz.ntmps5
        go_upto_region 1 with fail
        rw [← HW.out]
        go_wp2_with fail
        refine (HGR.out _).mono ?_
        rintro e w1 ⟨rfl, hb⟩
        obtain ⟨c0', c1', c2', c3'⟩ := HGC.out w1 hb
        have HB1 := Lib.hid (HB0.out.trans (hb.mono HB0.out.size))
        clear hb c0 c1 c2 c3
        go_wp2_with fail
        refine (HKN.out _).mono ?_
        rintro e w2 ⟨rfl, hb⟩
        have HB2 := Lib.hid (HB1.out.trans (hb.mono HB1.out.size))
        clear hb
        go_wp2
        go_ret
        exact ⟨rfl, HB2.out⟩
    · have h2' : 20 < N := by omega
      clear h1 hx h2
      go_enter Tryz.func5, Tryz.ntmps5
      go_upto_region 1 with fail
      rw [← HW.out]
      go_wp2_with fail
      refine (HGR.out _).mono ?_
      rintro e w1 ⟨rfl, hb⟩
      obtain ⟨c0', c1', c2', c3'⟩ := HGC.out w1 hb
      have HB1 := Lib.hid (HB0.out.trans (hb.mono HB0.out.size))
      clear hb c0 c1 c2 c3
      go_wp2_with fail
      refine (HKN.out _).mono ?_
      rintro e w2 ⟨rfl, hb⟩
      have HB2 := Lib.hid (HB1.out.trans (hb.mono HB1.out.size))
      clear hb
      go_wp2
      go_ret
      exact ⟨rfl, HB2.out⟩
  · rw [decide_eq_false h1] at hgr
    have HGR := Lib.hid hgr
    clear hgr h1 hx
    go_enter Tryz.func5, Tryz.ntmps5
    go_upto_region 1 with fail
    rw [← HW.out]
    go_wp2_with fail
    refine (HGR.out _).mono ?_
    rintro e w1 ⟨rfl, hb⟩
    obtain ⟨c0', c1', c2', c3'⟩ := HGC.out w1 hb
    have HB1 := Lib.hid (HB0.out.trans (hb.mono HB0.out.size))
    clear hb c0 c1 c2 c3
    go_wp2_with fail
    refine (HKN.out _).mono ?_
    rintro e w2 ⟨rfl, hb⟩
    have HB2 := Lib.hid (HB1.out.trans (hb.mono HB1.out.size))
    clear hb
    go_wp2
    go_ret
    exact ⟨rfl, HB2.out⟩

theorem rollback_any (N F C U : Int) (ap : Option Addr) (np cp : Nat) (X : Nat → Int × ByteArray) (ac : Option Addr) (nc cc : Nat) (Y : Nat → CK) (w : World) (hP : Pts16 w ap np cp X) (hY : Crs16 w ac nc cc Y) :
    Calls Tryz.prog 5 #[geo N F C U, .slice ap np cp, .slice ac nc cc] w fun e w' => e = .returned (.bool true) ∧ Below w.heap.size w w' := by
  by_cases h : okG N F C U ∧ N ≤ 20 ∧ U ≤ 40 ∧ np ≤ 40 ∧ nc ≤ 6
  · obtain ⟨h1, h2, h3, h5, h6⟩ := h
    exact rollback_near N F C U ap np cp X ac nc cc Y w hP hY h1 h2 h3 h5 h6
  · exact rollback_far N F C U ap np cp ac nc cc w h

/-! ### the arguments -/
def OpenedP16 (W : World) (a : Option Addr) (len cap : Nat) : Prop := ∃ X, Pts16 W a len cap X
def Openedc16 (W : World) (a : Option Addr) (len cap : Nat) : Prop := ∃ X, Crs16 W a len cap X
def textOf16 : Value → ByteArray | .string s => s | _ => noBytes
def iOf16 : Value → Int | .int _ z => z | _ => 0

set_option maxHeartbeats 1000000 in
set_option maxRecDepth 100000 in
theorem puts_open16 {H : Type} {enc : TypeId × Value → H} {W : World} {fuel : Nat} {cs : List Value} {x : DataW H × List MemPlace} (hf : DataW.trod enc Tryz.prog W 0 (fun _ => true) true fuel 66 cs = some x) {a : Option Addr} {len cap : Nat} (hcs : cs = [.slice a len cap]) :
    OpenedP16 W a len cap := by
  rcases Go.Deep.open_slice_pairs Tryz.underlying66 Tryz.underlying75 (by kernel_rfl) rfl rfl (by kernel_rfl) (by kernel_rfl) hf with ⟨hn, _⟩ | ⟨ad, l, c, m, n, V0, V1, D0, D1, P0, P1, hn, _, hl, hm, hmm, hx, hi⟩
  · rw [hcs] at hn
    simp at hn
    obtain ⟨rfl, rfl, rfl⟩ := hn
    exact ⟨fun _ => (0, noBytes), by omega, by unfold maxLen; omega, fun h => by omega⟩
  · rw [hcs] at hn
    simp at hn
    obtain ⟨rfl, rfl, rfl⟩ := hn
    simp only [if_true] at hmm
    refine ⟨fun i => (iOf16 (V0 i), textOf16 (V1 i)), by omega, by omega, fun h => ?_⟩
    obtain ⟨b, off, spot⟩ := ad
    have hc0 := (hi 0 (by omega)).1
    have hspot : spot = none := by simpa [Addr.add] using World.cell?_spot hc0
    subst hspot
    have hbl := World.block_lt_of_cell? W _ hc0
    rw [Addr.add_none] at hbl
    refine ⟨b, off, rfl, hbl, fun i hi' => ?_⟩
    obtain ⟨h1, h2, h3, h4⟩ := hi i (by omega)
    obtain ⟨k, e1, _, _⟩ := DataW.trod_int Tryz.underlying3 h3
    obtain ⟨s, e2, _⟩ := DataW.trod_string Tryz.underlying9 h4
    rw [Addr.add_none] at h1 h2
    simp only [List.cons.injEq, and_true] at e1 e2
    rw [e1] at h1
    rw [e2, ← Nat.add_assoc] at h2
    simp only [e1, e2, iOf16, textOf16]
    exact ⟨h1, h2⟩

theorem rbl_of_bools {W : World} {a : Addr} {len cap : Nat} {F : Nat → Bool} (hl : len ≤ cap) (hm : cap ≤ maxLen) (hc : ∀ i, i < cap → W.cell? (a.add i) = some (.bool (F i))) :
    Bl W (some a) len ((List.range len).map F) := by
  have hz : 0 < len → a.spot = none := fun h0 => by
    have := hc 0 (by omega)
    simpa [Addr.add] using World.cell?_spot this
  have hlt : 0 < len → a.block < W.heap.size := fun h0 => by
    have := World.block_lt_of_cell? W _ (hc 0 (by omega))
    rwa [add_block] at this
  refine ⟨by simp, by unfold maxLen at hm; omega, fun h0 => ?_⟩
  obtain ⟨b, off, sp⟩ := a
  obtain rfl : sp = none := hz h0
  refine ⟨b, off, rfl, hlt h0, fun i hi => ?_⟩
  have := hc i (by omega)
  rw [Addr.add_none] at this
  rw [this]
  simp [hi]

set_option maxHeartbeats 1000000 in
set_option maxRecDepth 100000 in
theorem crashes_open16 {H : Type} {enc : TypeId × Value → H} {W : World} {fuel : Nat} {cs : List Value} {x : DataW H × List MemPlace} (hf : DataW.trod enc Tryz.prog W 0 (fun _ => true) true fuel 67 cs = some x) {a : Option Addr} {len cap : Nat} (hcs : cs = [.slice a len cap]) :
    Openedc16 W a len cap := by
  have he := Tryz.underlying71
  have ce : Tryz.prog.cellsOf 71 = 2 := by kernel_rfl
  have c3 : Tryz.prog.cellsOf 3 = 1 := by kernel_rfl
  have cb : Tryz.prog.cellsOf 34 = 1 := by kernel_rfl
  rcases Go.Deep.open_slice Tryz.underlying67 hf with ⟨hn, _⟩ | ⟨ad, l, c, m, n, D, Pl, hn, _, hl, hm, hmm, _, hx⟩
  · rw [hcs] at hn
    simp at hn
    obtain ⟨rfl, rfl, rfl⟩ := hn
    exact ⟨fun _ => ⟨0, none, 0, 0, []⟩, by omega, by unfold maxLen; omega, fun h => by omega, fun i h => by omega, fun i h => by omega⟩
  · rw [hcs] at hn
    simp at hn
    obtain ⟨rfl, rfl, rfl⟩ := hn
    simp only [if_true] at hmm
    have hmm' := hmm.symm
    subst hmm'
    rw [ce] at hx
    have each : ∀ i, i < cap → ∃ y : CK, W.cell? (ad.add (i * 2)) = some (.int .i64 y.fu) ∧ W.cell? (ad.add (i * 2 + 1)) = some (.slice y.ka y.kn y.kc) ∧ Bl W y.ka y.kn y.K ∧ y.fu ≤ 9223372036854775807 := by
      intro i hi
      obtain ⟨cs', h1, h2⟩ := hx i hi
      obtain ⟨_, hlen, hcell⟩ := World.cells?_some h1
      obtain ⟨xs, k, _, _, _, hxl, hf⟩ := DataW.trod_struct he h2
      match xs, hxl, cs', hlen with
      | [y0, y1], _, [u0, u1], _ =>
        have g0 := hf 0 _ rfl
        have g1 := hf 1 _ rfl
        simp [c3, cb] at g0 g1
        have e0 := hcell 0 (by omega)
        have e1 := hcell 1 (by omega)
        rw [Go.Deep.add_add] at e0 e1
        obtain ⟨n0, q0, _, w0⟩ := DataW.trod_int Tryz.underlying3 g0
        simp at q0
        have hw0 : n0 ≤ 9223372036854775807 := by
          simp [Lit.wf, IntKind.max, IntKind.min, IntKind.signed, IntKind.bits] at w0
          omega
        rcases Go.Deep.open_bools Tryz.underlying34 Tryz.underlying4 (by kernel_rfl) g1 with ⟨q3, _⟩ | ⟨a3, l3, c3', F, q3, _, hl3, hm3, _, hc3⟩
        · simp at q3
          exact ⟨⟨n0, none, 0, 0, []⟩, by simpa [q0] using e0, by simpa [q3] using e1, ⟨rfl, Nat.zero_le _, fun h => by simp at h⟩, hw0⟩
        · simp at q3
          exact ⟨⟨n0, some a3, l3, c3', (List.range l3).map F⟩, by simpa [q0] using e0, by simpa [q3] using e1, rbl_of_bools hl3 hm3 hc3, hw0⟩
    obtain ⟨X, hX⟩ := Go.Deep.choose_lt each
    refine ⟨X, ⟨hl, hm, fun h0 => ?_, fun i hi => (hX i (by omega)).2.2.1, fun i hi => (hX i (by omega)).2.2.2⟩⟩
    obtain ⟨b, off, sp⟩ := ad
    obtain rfl : sp = none := by
      have := (hX 0 (by omega)).1
      simpa [Addr.add] using World.cell?_spot this
    have hb := World.block_lt_of_cell? W _ (hX 0 (by omega)).1
    rw [Addr.add_none] at hb
    refine ⟨b, off, rfl, hb, fun i hi => ?_⟩
    obtain ⟨h0, h1, _⟩ := hX i (by omega)
    simp only [Addr.add_none, ← Nat.add_assoc] at h0 h1
    exact ⟨h0, h1⟩
end Go.Proofs.YtjohgagiccndpaaGreatDoor

/-
  Texts put together: PE.
-/
import Derived.Test.YtjohgagiccndpaaGreatDoorMPC
import Derived.Test.YtjohgagiccndpaaGreatDoorME
import Derived.Test.YtjohgagiccndpaaGreatDoorMK
import Derived.Sort.CutIn
/-
  The program's iterator over the entries of a disk.
-/
namespace Go.Proofs.YtjohgagiccndpaaGreatDoor
open Go.RowKit Go.Shelf
set_option linter.unusedVariables false
set_option linter.unusedSimpArgs false
attribute [local go_sem] Oper.semAt_some

inductive Stp where
  | stop
  | err (c : Int)
  | ok (e : En)
def hdAt (N F C U : Int) (S : DS) (k : Nat) : ByteArray × Int := S.read (areaAt N F C U 1 (2 * (k : Int)))
def olAt (N F C U : Int) (S : DS) (k : Nat) : ByteArray × Int := S.read (areaAt N F C U 1 (2 * (k : Int) + 1))
def decB (s : ByteArray) : Hd := decP s.data.toList
/-- What is no entry of the try whose first head is f. -/
def badH (N F C U : Int) (ep k : Nat) (h f : Hd) : Prop := h.num ≠ k ∨ ¬ mayP N F C U (h.place : Int) ∨ h.epoch ≤ ep ∨ h.tag ≠ f.tag ∨ h.epoch ≠ f.epoch
instance (N F C U : Int) (ep k : Nat) (h f : Hd) : Decidable (badH N F C U ep k h f) := by unfold badH; infer_instance
def stepP (N F C U : Int) (S : DS) (ep k : Nat) : Stp :=
  if (hdAt N F C U S k).2 ≠ 0 then .err (hdAt N F C U S k).2
  else if badH N F C U ep k (decB (hdAt N F C U S k).1) (decB (hdAt N F C U S 0).1) then .stop
  else if (olAt N F C U S k).2 ≠ 0 then .err (olAt N F C U S k).2
  else if sumN (olAt N F C U S k).1 ≠ (decB (hdAt N F C U S k).1).sum then .stop
  else .ok ⟨(decB (hdAt N F C U S k).1).tag, (decB (hdAt N F C U S k).1).epoch, (decB (hdAt N F C U S k).1).place, (olAt N F C U S k).1⟩
def seqP (st : Nat → Stp) : Nat → Nat → List (En × Int)
  | _, 0 => []
  | k, n + 1 => match st k with
    | .stop => []
    | .err c => [(noEn, c)]
    | .ok e => (e, 0) :: seqP st (k + 1) n
def encE (x : En × Int) : Array Value := #[x.1.val, .int .i64 x.2]

/-- What the iterator reads. -/
structure EIt (W : World) (Bd Bg Be B p : Nat) (v1 v2 : Value) (S : DS) (N F C U : Int) (ep : Nat) : Prop where
  pd : PD W B p v1 v2 S
  bd : W.heap[Bd]? = some (.cells #[.pointer (some ⟨p, 0, none⟩)] 26 (0, 0))
  bg : W.heap[Bg]? = some (.cells #[.int .i64 N, .int .i64 F, .int .i64 C, .int .i64 U] 23 (0, 0))
  be : W.heap[Be]? = some (.cells #[.int .u64 (ep : Int)] 33 (0, 0))
/-- The blocks that it reads. -/
def footE (Bd Bg Be p : Nat) (v1 v2 : Value) (k : Nat) : Prop := foot p v1 v2 k ∨ k = Bd ∨ k = Bg ∨ k = Be
theorem EIt.lt {W Bd Bg Be B p v1 v2 S N F C U ep} (h : EIt W Bd Bg Be B p v1 v2 S N F C U ep) (k : Nat) (hk : footE Bd Bg Be p v1 v2 k) : k < W.heap.size := by
  rcases hk with hk | rfl | rfl | rfl
  · exact (h.pd.foot_low k hk).2
  · exact lt_of_block h.bd
  · exact lt_of_block h.bg
  · exact lt_of_block h.be
theorem EIt.kept {W W' Bd Bg Be B p v1 v2 S N F C U ep} (h : EIt W Bd Bg Be B p v1 v2 S N F C U ep) (hk : ∀ k, footE Bd Bg Be p v1 v2 k → W'.heap[k]? = W.heap[k]?) : EIt W' Bd Bg Be B p v1 v2 S N F C U ep :=
  ⟨h.pd.kept fun k hf => hk k (.inl hf), (hk _ (.inr (.inl rfl))).trans h.bd, (hk _ (.inr (.inr (.inl rfl)))).trans h.bg, (hk _ (.inr (.inr (.inr rfl)))).trans h.be⟩
/-- What a round that goes on keeps. -/
def KpE (Bd Bg Be p : Nat) (v1 v2 : Value) (W W' : World) : Prop :=
  W.heap.size ≤ W'.heap.size ∧ (∀ k, footE Bd Bg Be p v1 v2 k → k < W.heap.size → W'.heap[k]? = W.heap[k]?) ∧ ∀ (k : Nat) (cs : Array Value) (l : Nat × Nat), W.heap[k]? = some (Obj.cells cs 105 l) → W'.heap[k]? = some (Obj.cells cs 105 l)
theorem KpE.trans {Bd Bg Be p v1 v2 X Y Z} (h : KpE Bd Bg Be p v1 v2 X Y) (k : KpE Bd Bg Be p v1 v2 Y Z) : KpE Bd Bg Be p v1 v2 X Z :=
  ⟨Nat.le_trans h.1 k.1, fun i hi hl => (k.2.1 i hi (Nat.lt_of_lt_of_le hl h.1)).trans (h.2.1 i hi hl), fun i cs l hi => k.2.2 i cs l (h.2.2 i cs l hi)⟩

theorem Mv.setH {B : Nat} {X Y : World} {b : Nat} {a0 b0 c0 d0 e0 : Value} (h : Mv 105 B X Y) (hY : HB5 Y b a0 b0 c0 d0 e0) (hb : B ≤ b) (a' b' c' d' e' : Value) : Mv 105 B X (setH Y b a' b' c' d' e') := by
  have h1 : HB5 (Y.setCell ⟨b, 0, none⟩ a') b a' b0 c0 d0 e0 := blk_setCell hY
  have h2 : HB5 ((Y.setCell ⟨b, 0, none⟩ a').setCell ⟨b, 1, none⟩ b') b a' b' c0 d0 e0 := blk_setCell h1
  have h3 : HB5 (((Y.setCell ⟨b, 0, none⟩ a').setCell ⟨b, 1, none⟩ b').setCell ⟨b, 2, none⟩ c') b a' b' c' d0 e0 := blk_setCell h2
  have h4 : HB5 ((((Y.setCell ⟨b, 0, none⟩ a').setCell ⟨b, 1, none⟩ b').setCell ⟨b, 2, none⟩ c').setCell ⟨b, 3, none⟩ d') b a' b' c' d' e0 := blk_setCell h3
  exact ((((h.set hY hb).set h1 hb).set h2 hb).set h3 hb).set h4 hb
theorem strV_of (s : ByteArray) : strV s.data.toList = .string s := by cases s; simp [strV]
theorem seqP_split (st : Nat → Stp) (n : Nat) {k : Nat} {pre : List (En × Int)} {Y : List (En × Int)} (hY : Y = pre ++ seqP st k n) (hl : pre.length = k) : pre = Y.take k := by
  subst hY; subst hl; simp

set_option maxRecDepth 100000 in
set_option maxHeartbeats 4000000 in
theorem entries1_in (n : Nat) (hn : 1 ≤ n) (l Bd Bg Be B p : Nat) (v1 v2 : Value) (S : DS) (N F C U : Int) (ep : Nat) (ho : okG N F C U) (M : Nat) (hok : S.ok M) (hM : M ≤ 1000000) (hsz : ∀ x : Int, (S.read x).1.size ≤ 140737488355328)
    (Y : List (En × Int)) (hYd : Y = seqP (stepP N F C U S ep) 0 U.toNat) (J Jx : List (En × Int) → World → Prop)
    (W : World) (hJ : StayI 105 W.heap.size J) (hJx : StayI 105 W.heap.size Jx)
    (hY : ∀ pre x W, J pre W → pre.length < Y.length → YieldAt Fence.wide (n - 1) Tryz.prog l (encE x) W fun e W' =>
      (e = .returned (.bool true) ∧ J (pre ++ [x]) W' ∧ KpE Bd Bg Be p v1 v2 W W') ∨ (e = .returned (.bool false) ∧ Jx (pre ++ [x]) W'))
    (hE : EIt W Bd Bg Be B p v1 v2 S N F C U ep) (h0 : J [] W) :
    CallsIn Fence.wide n Tryz.prog 103 #[.func (.yield l) #[] #[], .pointer (some ⟨Bg, 0, none⟩), .pointer (some ⟨Bd, 0, none⟩), .pointer (some ⟨Be, 0, none⟩)] W fun e W' => (∃ v, e = .returned v) ∧
      ((∃ ys, ys = Y ∧ J ys W') ∨ (∃ pre, (∃ k, k ≤ Y.length ∧ pre = Y.take k) ∧ Jx pre W')) := by
  have hU := ho.2.2.2
  obtain ⟨u, rfl⟩ : ∃ u : Nat, U = u := ⟨U.toNat, by omega⟩
  rw [Int.toNat_natCast] at hYd
  have hul : u ≤ 500 := by omega
  refine callsIn_of_wp Tryz.func103 rfl trivial ?_ rfl
  simp only [Tryz.ntmps103, List.size_toArray, List.length_cons, List.length_nil, Nat.reduceAdd, Nat.reduceSub, Array.replicate_succ, Array.replicate_zero, List.push_toArray, List.append_toArray, List.nil_append, List.cons_append]
  have TH0 : Below W.heap.size W (W.alloc (.cells #[.int .u64 0, .int .u64 0, .int .i64 0, .int .i64 0, .int .u32 0] 105)) := (Below.refl _ W).alloc (Nat.le_refl _) _
  have hF0 : HBox (W.alloc (.cells #[.int .u64 0, .int .u64 0, .int .i64 0, .int .i64 0, .int .u32 0] 105)) W.heap.size noHd := heap_alloc_new W _
  have hE0 := hE.kept fun k hk => TH0.block k (hE.lt k hk)
  have hJ0 := hJ _ _ _ h0 (Mv.below TH0)
  obtain ⟨n0, hn0⟩ : ∃ n0, n0 = W.heap.size := ⟨_, rfl⟩
  have HLT := Lib.hid (show ∀ k, footE Bd Bg Be p v1 v2 k → k < n0 from fun k hk => by rw [hn0]; exact hE.lt k hk)
  have HJ := Lib.hid hJ
  have HJX := Lib.hid hJx
  have HY := Lib.hid hY
  have HOK := Lib.hid hok
  have HSZ := Lib.hid hsz
  have HU := Lib.hid hU
  have HO := Lib.hid ho
  obtain ⟨st, hst⟩ : ∃ st, st = stepP N F C (u : Int) S ep := ⟨_, rfl⟩
  rw [← hst] at hYd
  have HST := Lib.hid hst
  have HYD := Lib.hid hYd
  obtain ⟨W1, hW1⟩ : ∃ W1, W1 = W.alloc (.cells #[.int .u64 0, .int .u64 0, .int .i64 0, .int .i64 0, .int .u32 0] 105) := ⟨_, rfl⟩
  rw [← hW1] at hF0 hE0 hJ0
  rw [← hn0] at hF0
  have HW1 := Lib.hid hW1
  have HN0 := Lib.hid hn0
  have HF1 := Lib.hid hF0
  have HE1 := Lib.hid hE0
  have HJ1 := Lib.hid hJ0
  clear hJ hJx hY hok hsz hU ho hst hYd hW1 hF0 hE0 hJ0 TH0 hE h0 hn0
  have bg3 : W1.cell? ⟨Bg, 3, none⟩ = some (.int .i64 (u : Int)) := by rw [cell_of_blk HE1.out.bg]; rfl
  rw [HW1.out] at bg3
  gi_wp2
  clear bg3
  rw [← HW1.out, ← HN0.out]
  gi_loopw [15] (fun i wr => ∃ (k : Nat) (pre : List (En × Int)) (hd : Hd), k ≤ u ∧ i = .int .i64 (k : Int) ∧ Y = pre ++ seqP st k (u - k) ∧ pre.length = k ∧ J pre wr ∧ EIt wr Bd Bg Be B p v1 v2 S N F C (u : Int) ep ∧ HBox wr n0 hd ∧ (0 < k → hd = decB (hdAt N F C u S 0).1)) (fun i _ => (u - intOf i).toNat)
  case atStart => exact ⟨0, [], noHd, by omega, rfl, by rw [HYD.out]; rfl, rfl, HJ1.out, HE1.out, HF1.out, fun h => by omega⟩
  case round =>
    obtain ⟨k, pre, hd, hk, rfl, hYk, hpl, hJr, hEr, hFr, hfr⟩ := hrel
    have HJR := Lib.hid hJr
    have HER := Lib.hid hEr
    have HFR := Lib.hid hFr
    have HHD := Lib.hid hfr
    have HYK := Lib.hid hYk
    have HPL := Lib.hid hpl
    clear hJr hEr hFr hfr hYk hpl
    by_cases hlt : k < u
    · have HJ0 := Lib.hid (show StayI 105 n0 J from by rw [HN0.out]; exact HJ.out)
      have HJX0 := Lib.hid (show StayI 105 n0 Jx from by rw [HN0.out]; exact HJX.out)
      have HMVR := Lib.hid (Mv.refl 105 n0 wr)
      have hloc := fun w => (callsIn_wide (n := n - 1)).2 (locations_any N F C (u : Int) k (by omega) w)
      obtain ⟨a1, ha1⟩ : ∃ a1, a1 = areaAt N F C (u : Int) 1 (2 * (k : Int)) := ⟨_, rfl⟩
      obtain ⟨a2, ha2⟩ : ∃ a2, a2 = areaAt N F C (u : Int) 1 (2 * (k : Int) + 1) := ⟨_, rfl⟩
      rw [← ha1, ← ha2] at hloc
      unfold geo at hloc
      obtain ⟨s1, c1, h1⟩ : ∃ s c, hdAt N F C u S k = (s, c) := ⟨_, _, rfl⟩
      obtain ⟨s2, c2, h2⟩ : ∃ s c, olAt N F C u S k = (s, c) := ⟨_, _, rfl⟩
      have e1 : S.read a1 = (s1, c1) := by rw [ha1]; exact h1
      have e2 : S.read a2 = (s2, c2) := by rw [ha2]; exact h2
      have hz2 : s2.size ≤ 140737488355328 := by have := HSZ.out a2; rw [e2] at this; exact this
      obtain ⟨fd, hfd⟩ : ∃ fd, fd = decB (hdAt N F C u S 0).1 := ⟨_, rfl⟩
      obtain ⟨h, hh⟩ : ∃ h, h = decB s1 := ⟨_, rfl⟩
      have hstk : st k = if c1 ≠ 0 then .err c1 else if badH N F C u ep k h fd then .stop else if c2 ≠ 0 then .err c2 else if sumN s2 ≠ h.sum then .stop else .ok ⟨h.tag, h.epoch, h.place, s2⟩ := by
        rw [HST.out]; unfold stepP; rw [h1, h2, ← hfd]; dsimp only; rw [← hh]
      have hYk1 : Y = pre ++ seqP st k ((u - k - 1) + 1) := by rw [HYK.out]; congr 2; omega
      rw [← hfd] at HHD
      have HFDD := Lib.hid hfd
      have HFD0 := Lib.hid (show k = 0 → c1 = 0 → h = fd from fun hk0 _ => by subst hk0; rw [hh, hfd, h1])
      have hrd := fun (w : World) (hE : EIt w Bd Bg Be B p v1 v2 S N F C (u : Int) ep) (x : Int) => (callsIn_wide (n := n - 1)).2 (read_any B p v1 v2 S x w hE.pd (by have := HOK.out.few; have := HOK.out.did; omega) (by have := HOK.out.len; omega))
      unfold two at hrd
      have HRD := Lib.hid hrd
      have HLOC := Lib.hid hloc
      have HE1' := Lib.hid e1
      have HE2' := Lib.hid e2
      have HZ2 := Lib.hid hz2
      have HH0 := Lib.hid hh
      have HSTK := Lib.hid hstk
      have HYK1 := Lib.hid hYk1
      have bg0 : wr.cell? ⟨Bg, 0, none⟩ = some (.int .i64 N) := by rw [cell_of_blk HER.out.bg]; rfl
      have bg1 : wr.cell? ⟨Bg, 1, none⟩ = some (.int .i64 F) := by rw [cell_of_blk HER.out.bg]; rfl
      have bg2 : wr.cell? ⟨Bg, 2, none⟩ = some (.int .i64 C) := by rw [cell_of_blk HER.out.bg]; rfl
      have bg3 : wr.cell? ⟨Bg, 3, none⟩ = some (.int .i64 (u : Int)) := by rw [cell_of_blk HER.out.bg]; rfl
      have i1 : (k : Int) < (u : Int) := by omega
      clear hrd hloc e1 e2 hz2 hh hstk hYk1 h1 h2 ha1 ha2 hfd HE1 HF1 HJ1 HW1 W1
      gi_wp2_with fail
      refine ⟨trivial, (HLOC.out _).mono ?_⟩
      rintro e w1 ⟨rfl, hb⟩
      have HMV1 := Lib.hid (HMVR.out.trans (Mv.below hb))
      have HE1 := Lib.hid (HER.out.kept fun k hk => hb.block k (HER.out.lt k hk))
      have HF1 := Lib.hid (HFR.out.below hb HFR.out.lt)
      have bd0 : w1.cell? ⟨Bd, 0, none⟩ = some (.pointer (some ⟨p, 0, none⟩)) := by rw [cell_of_blk HE1.out.bd]; rfl
      have hr := HRD.out w1 HE1.out a1
      rw [HE1'.out] at hr
      have HR := Lib.hid hr
      clear hb hr bg0 bg1 bg2 bg3 HLOC
      gi_wp2_with fail
      refine ⟨trivial, HR.out.mono ?_⟩
      rintro e w2 ⟨rfl, hb⟩
      have HMV2 := Lib.hid (HMV1.out.trans (Mv.below hb))
      have HE2 := Lib.hid (HE1.out.kept fun k hk => hb.block k (HE1.out.lt k hk))
      have HF2 := Lib.hid (HF1.out.below hb HF1.out.lt)
      clear hb bd0 HR HMV1 HE1 HF1
      by_cases hc1 : c1 = 0
      · subst hc1
        have hdec := (callsIn_wide (n := n - 1)).2 (decode_any s1.data.toList w2)
        rw [strV_of, show decP s1.data.toList = h from HH0.out.symm] at hdec
        unfold Hd.val headV at hdec
        have HDEC := Lib.hid hdec
        clear hdec
        gi_wp2_with fail
        refine ⟨trivial, HDEC.out.mono ?_⟩
        rintro e w3 ⟨rfl, hb⟩
        have HMV3 := Lib.hid (HMV2.out.trans (Mv.below hb))
        have HE3 := Lib.hid (HE2.out.kept fun k hk => hb.block k (HE2.out.lt k hk))
        have HF3 := Lib.hid (HF2.out.below hb HF2.out.lt)
        clear hb HDEC HMV2 HE2 HF2
        gi_upto_region 9 with fail
        have hb4 : Below w3.heap.size w3 (w3.alloc (.cells #[.int .u64 (h.tag : Int), .int .u64 (h.epoch : Int), .int .i64 (h.num : Int), .int .i64 (h.place : Int), .int .u32 (h.sum : Int)] 105)) := (Below.refl _ _).alloc (Nat.le_refl _) _
        have HH4 := Lib.hid (show HBox (w3.alloc (.cells #[.int .u64 (h.tag : Int), .int .u64 (h.epoch : Int), .int .i64 (h.num : Int), .int .i64 (h.place : Int), .int .u32 (h.sum : Int)] 105)) w3.heap.size h from heap_alloc_new w3 _)
        have HMV4 := Lib.hid (HMV3.out.trans (Mv.below hb4))
        have HE4 := Lib.hid (HE3.out.kept fun k hk => hb4.block k (HE3.out.lt k hk))
        have HF4 := Lib.hid (HF3.out.below hb4 HF3.out.lt)
        obtain ⟨w4, hw4⟩ : ∃ w4, w4 = (w3.alloc (.cells #[.int .u64 (h.tag : Int), .int .u64 (h.epoch : Int), .int .i64 (h.num : Int), .int .i64 (h.place : Int), .int .u32 (h.sum : Int)] 105)) := ⟨_, rfl⟩
        have HLN := Lib.hid (show n0 < w3.heap.size from HF3.out.lt)
        obtain ⟨hx, hhx⟩ : ∃ hx, hx = w3.heap.size := ⟨_, rfl⟩
        rw [← hhx] at HH4 HLN ⊢
        rw [← hw4] at HH4 HMV4 HE4 HF4 ⊢
        clear hb4 hw4 hhx HMV3 HE3 HF3
        by_cases hk0 : k = 0
        · have q0 : ((k : Int) == 0) = true := by rw [hk0]; rfl
          have HK0 := Lib.hid hk0
          clear hk0
          have cf0 := HF4.out.c0
          have ff0 := HF4.out.fr 0
          have ch0 := HH4.out.c0
          have cf1 := HF4.out.c1
          have ff1 := HF4.out.fr 1
          have ch1 := HH4.out.c1
          have cf2 := HF4.out.c2
          have ff2 := HF4.out.fr 2
          have ch2 := HH4.out.c2
          have cf3 := HF4.out.c3
          have ff3 := HF4.out.fr 3
          have ch3 := HH4.out.c3
          have cf4 := HF4.out.c4
          have ff4 := HF4.out.fr 4
          have ch4 := HH4.out.c4
          gi_upto_region 11 with fail
          have hset : (((((w4.setCell ⟨n0, 0, none⟩ (.int .u64 (h.tag : Int))).setCell ⟨n0, 1, none⟩ (.int .u64 (h.epoch : Int))).setCell ⟨n0, 2, none⟩ (.int .i64 (h.num : Int))).setCell ⟨n0, 3, none⟩ (.int .i64 (h.place : Int))).setCell ⟨n0, 4, none⟩ (.int .u32 (h.sum : Int))) = setH w4 n0 (.int .u64 (h.tag : Int)) (.int .u64 (h.epoch : Int)) (.int .i64 (h.num : Int)) (.int .i64 (h.place : Int)) (.int .u32 (h.sum : Int)) := rfl
          obtain ⟨w5z, hw5z⟩ : ∃ w5z, w5z = (((((w4.setCell ⟨n0, 0, none⟩ (.int .u64 (h.tag : Int))).setCell ⟨n0, 1, none⟩ (.int .u64 (h.epoch : Int))).setCell ⟨n0, 2, none⟩ (.int .i64 (h.num : Int))).setCell ⟨n0, 3, none⟩ (.int .i64 (h.place : Int))).setCell ⟨n0, 4, none⟩ (.int .u32 (h.sum : Int))) := ⟨_, rfl⟩
          rw [← hw5z]
          have HFDH := Lib.hid (show h = fd from HFD0.out HK0.out (by simp))
          have HF5 := Lib.hid (show HBox w5z n0 fd from by rw [← HFDH.out, hw5z, hset]; exact HB5.set HF4.out _ _ _ _ _)
          have hso : ∀ k', k' ≠ n0 → w5z.heap[k']? = w4.heap[k']? := fun k' hk' => by
            have hs : ∀ (W : World) (i : Nat) (v : Value), (W.setCell ⟨n0, i, none⟩ v).heap[k']? = W.heap[k']? := fun W i v => Below.heap_setCell _ _ _ _ (fun e => hk' (by simpa using e))
            rw [hw5z, hs, hs, hs, hs, hs]
          have HH5 := Lib.hid (show HBox w5z hx h from (hso _ (by have := HLN.out; omega)).trans HH4.out)
          have HE5 := Lib.hid (HE4.out.kept fun k' hk' => hso k' (by have := HLT.out k' hk'; omega))
          have HMV5 := Lib.hid (show Mv 105 n0 wr w5z from by rw [hw5z, hset]; exact HMV4.out.setH HF4.out (Nat.le_refl _) _ _ _ _ _)
          clear q0 hso hset hw5z cf0 ff0 ch0 cf1 ff1 ch1 cf2 ff2 ch2 cf3 ff3 ch3 cf4 ff4 ch4
          have ch0 := HH5.out.c0
          have ch1 := HH5.out.c1
          have ch2 := HH5.out.c2
          have ch3 := HH5.out.c3
          have ch4 := HH5.out.c4
          have cg0 : w5z.cell? ⟨Bg, 0, none⟩ = some (.int .i64 N) := by rw [cell_of_blk HE5.out.bg]; rfl
          have cg1 : w5z.cell? ⟨Bg, 1, none⟩ = some (.int .i64 F) := by rw [cell_of_blk HE5.out.bg]; rfl
          have cg2 : w5z.cell? ⟨Bg, 2, none⟩ = some (.int .i64 C) := by rw [cell_of_blk HE5.out.bg]; rfl
          have cg3 : w5z.cell? ⟨Bg, 3, none⟩ = some (.int .i64 (u : Int)) := by rw [cell_of_blk HE5.out.bg]; rfl
          by_cases b1 : h.num ≠ k
          · have q1 : ((h.num : Int) != (k : Int)) = true := by simp only [bne_iff_ne, ne_eq]; omega
            have hYe : Y = pre := by rw [HYK1.out]; simp only [seqP, show st k = .stop from by rw [HSTK.out, if_neg (by simp), if_pos (show badH N F C (u : Int) ep k h fd from .inl b1)], List.append_nil]
            have hJn := HJ0.out pre _ _ HJR.out HMV5.out
            have HYE := Lib.hid hYe
            have HJN := Lib.hid hJn
            clear hYe hJn
            gi_wp2_with fail
            refine ⟨trivial, ?_⟩
            gi_wp2
            refine bodyPost_ret (results_none rfl _ _ _) rfl ?_
            exact ⟨⟨_, rfl⟩, .inl ⟨_, rfl, by rw [HYE.out]; exact HJN.out⟩⟩
          have B1 := Lib.hid (show h.num = k from Classical.not_not.1 b1)
          have q1 : ((h.num : Int) != (k : Int)) = false := by rw [B1.out]; simp
          clear b1
          have hmay := fun w => (callsIn_wide (n := n - 1)).2 (undoable_any N F C (u : Int) (h.place : Int) w HO.out)
          unfold geo at hmay
          obtain ⟨m, hm⟩ : ∃ m, m = decide (mayP N F C (u : Int) (h.place : Int)) := ⟨_, rfl⟩
          rw [← hm] at hmay
          have HMAY := Lib.hid hmay
          have HM := Lib.hid hm
          clear hmay hm
          gi_wp2_with fail
          refine ⟨trivial, (HMAY.out _).mono ?_⟩
          rintro e w5 ⟨rfl, hb⟩
          have HMV6 := Lib.hid (HMV5.out.trans (Mv.below hb))
          have HE6 := Lib.hid (HE5.out.kept fun k hk => hb.block k (HE5.out.lt k hk))
          have HF6 := Lib.hid (HF5.out.below hb HF5.out.lt)
          have HH6 := Lib.hid (HH5.out.below hb HH5.out.lt)
          have dh0 := HH6.out.c0
          have dh1 := HH6.out.c1
          have dh2 := HH6.out.c2
          have dh3 := HH6.out.c3
          have dh4 := HH6.out.c4
          have df0 := HF6.out.c0
          have df1 := HF6.out.c1
          have de : w5.cell? ⟨Be, 0, none⟩ = some (.int .u64 (ep : Int)) := by rw [cell_of_blk HE6.out.be]; rfl
          clear hb HMAY ch0 ch1 ch2 ch3 ch4 cg0 cg1 cg2 cg3
          cases m with
          | false =>
            have hnm : ¬ mayP N F C (u : Int) (h.place : Int) := by have := HM.out; simpa using this.symm
            have hYe : Y = pre := by rw [HYK1.out]; simp only [seqP, show st k = .stop from by rw [HSTK.out, if_neg (by simp), if_pos (show badH N F C (u : Int) ep k h fd from .inr (.inl hnm))], List.append_nil]
            have hJn := HJ0.out pre _ _ HJR.out HMV6.out
            have HYE := Lib.hid hYe
            have HJN := Lib.hid hJn
            clear hYe hJn
            gi_wp2
            refine bodyPost_ret (results_none rfl _ _ _) rfl ?_
            exact ⟨⟨_, rfl⟩, .inl ⟨_, rfl, by rw [HYE.out]; exact HJN.out⟩⟩
          | true =>
            have hmm : mayP N F C (u : Int) (h.place : Int) := by have := HM.out; simpa using this.symm
            by_cases b3 : h.epoch ≤ ep
            · have q3 : (h.epoch : Int) ≤ (ep : Int) := by omega
              have hYe : Y = pre := by rw [HYK1.out]; simp only [seqP, show st k = .stop from by rw [HSTK.out, if_neg (by simp), if_pos (show badH N F C (u : Int) ep k h fd from .inr (.inr (.inl b3)))], List.append_nil]
              have hJn := HJ0.out pre _ _ HJR.out HMV6.out
              have HYE := Lib.hid hYe
              have HJN := Lib.hid hJn
              clear hYe hJn
              gi_wp2
              refine bodyPost_ret (results_none rfl _ _ _) rfl ?_
              exact ⟨⟨_, rfl⟩, .inl ⟨_, rfl, by rw [HYE.out]; exact HJN.out⟩⟩
            have q3 : ¬ ((h.epoch : Int) ≤ (ep : Int)) := by omega
            by_cases b4 : h.tag ≠ fd.tag
            · have q4 : ((h.tag : Int) != (fd.tag : Int)) = true := by simp only [bne_iff_ne, ne_eq]; omega
              have hYe : Y = pre := by rw [HYK1.out]; simp only [seqP, show st k = .stop from by rw [HSTK.out, if_neg (by simp), if_pos (show badH N F C (u : Int) ep k h fd from .inr (.inr (.inr (.inl b4))))], List.append_nil]
              have hJn := HJ0.out pre _ _ HJR.out HMV6.out
              have HYE := Lib.hid hYe
              have HJN := Lib.hid hJn
              clear hYe hJn
              gi_wp2
              refine bodyPost_ret (results_none rfl _ _ _) rfl ?_
              exact ⟨⟨_, rfl⟩, .inl ⟨_, rfl, by rw [HYE.out]; exact HJN.out⟩⟩
            have B4 := Lib.hid (Classical.not_not.1 b4)
            have q4 : ((h.tag : Int) != (fd.tag : Int)) = false := by rw [B4.out]; simp
            clear b4
            by_cases b5 : h.epoch ≠ fd.epoch
            · have q5 : ((h.epoch : Int) != (fd.epoch : Int)) = true := by simp only [bne_iff_ne, ne_eq]; omega
              have hYe : Y = pre := by rw [HYK1.out]; simp only [seqP, show st k = .stop from by rw [HSTK.out, if_neg (by simp), if_pos (show badH N F C (u : Int) ep k h fd from .inr (.inr (.inr (.inr b5))))], List.append_nil]
              have hJn := HJ0.out pre _ _ HJR.out HMV6.out
              have HYE := Lib.hid hYe
              have HJN := Lib.hid hJn
              clear hYe hJn
              gi_wp2
              refine bodyPost_ret (results_none rfl _ _ _) rfl ?_
              exact ⟨⟨_, rfl⟩, .inl ⟨_, rfl, by rw [HYE.out]; exact HJN.out⟩⟩
            have B5 := Lib.hid (Classical.not_not.1 b5)
            have q5 : ((h.epoch : Int) != (fd.epoch : Int)) = false := by rw [B5.out]; simp
            clear b5
            have HNB := Lib.hid (show ¬ badH N F C (u : Int) ep k h fd from fun hb => by
              rcases hb with hb | hb | hb | hb | hb
              · exact hb B1.out
              · exact hb hmm
              · exact b3 hb
              · exact hb B4.out
              · exact hb B5.out)
            clear hmm b3
            have bd0 : w5.cell? ⟨Bd, 0, none⟩ = some (.pointer (some ⟨p, 0, none⟩)) := by rw [cell_of_blk HE6.out.bd]; rfl
            have hr := HRD.out w5 HE6.out a2
            rw [HE2'.out] at hr
            have HR := Lib.hid hr
            clear hr
            gi_wp2_with fail
            refine ⟨trivial, HR.out.mono ?_⟩
            rintro e w6 ⟨rfl, hb⟩
            have HMV7 := Lib.hid (HMV6.out.trans (Mv.below hb))
            have HE7 := Lib.hid (HE6.out.kept fun k hk => hb.block k (HE6.out.lt k hk))
            have HF7 := Lib.hid (HF6.out.below hb HF6.out.lt)
            have HH7 := Lib.hid (HH6.out.below hb HH6.out.lt)
            clear hb bd0 HR q3 q4 q5 de df0 df1 dh0 dh1 dh2 dh3 dh4
            by_cases hc2 : c2 = 0
            · subst hc2
              obtain ⟨cp, w7, hcv, hrd7, hb7⟩ := cv_str s2.data.toList HZ2.out w6.drew
              rw [strV_of] at hcv
              have hsum := (callsIn_wide (n := n - 1)).2 (sum_any _ _ _ _ w7 hrd7)
              obtain ⟨sq, hsq⟩ : ∃ sq, sq = sumN s2 := ⟨_, rfl⟩
              rw [show addN 0 s2.data.toList = sq from hsq.symm] at hsum
              obtain ⟨m2, hm2⟩ : ∃ m2, m2 = s2.data.toList.length := ⟨_, rfl⟩
              obtain ⟨g2, hg2⟩ : ∃ g2, g2 = w6.drew.heap.size := ⟨_, rfl⟩
              rw [← hm2, ← hg2] at hsum hcv
              have hbd : Below w6.heap.size w6 w6.drew := ⟨rfl, rfl, rfl, Nat.le_refl _, fun _ _ => rfl⟩
              have hb67 : Below w6.heap.size w6 w7 := hbd.trans hb7
              have HMV8 := Lib.hid (HMV7.out.trans (Mv.below hb67))
              have HE8 := Lib.hid (HE7.out.kept fun k hk => hb67.block k (HE7.out.lt k hk))
              have HF8 := Lib.hid (HF7.out.below hb67 HF7.out.lt)
              have HH8 := Lib.hid (HH7.out.below hb67 HH7.out.lt)
              have HHD6 := Lib.hid (show HBox w6.drew hx h from HH7.out)
              have hs6 := HHD6.out.c4
              have hs7 := HH8.out.c4
              have HSUM := Lib.hid hsum
              have HSQ := Lib.hid hsq
              have mixed : Tryz.prog.follows .mixedOrders = true := by kernel_rfl
              clear hsum hsq hm2 hg2 hbd hb67 hb7 hrd7
              by_cases b7 : sq ≠ h.sum
              · have q7 : ((sq : Int) != (h.sum : Int)) = true := by simp only [bne_iff_ne, ne_eq]; omega
                gi_wp2_with fail
                refine wpIn_region_any (by assumption) ?_
                change wpAnyIn _ _ _ _ _ _ _ _ _ (World.drew _)
                refine wpAnyIn_take (i := 0) (v := ?_) rfl rfl (by kernel_rfl) (by kernel_rfl) (by kernel_rfl) (fun _ _ _ h => h) ⟨Or.inl ⟨by rfl, ?_⟩, fun _ => rfl⟩ ?_
                rotate_left
                · (intro w; go_simp <;> with_reducible rfl)
                try simp only [Act.put, List.setIfInBounds_toArray, List.set_cons_zero, List.set_cons_succ]
                refine wpAnyIn_take (i := 3) (v := ?_) rfl rfl (by kernel_rfl) (by kernel_rfl) (by kernel_rfl) (fun _ _ _ h => h) ⟨Or.inl ⟨by rfl, ?_⟩, fun _ => rfl⟩ ?_
                rotate_left
                · (intro w; go_simp <;> with_reducible rfl)
                try simp only [Act.put, List.setIfInBounds_toArray, List.set_cons_zero, List.set_cons_succ]
                refine wpAnyIn_ready (rs := [1, 4]) (by kernel_rfl) (by simp) ?_
                refine AllReadyIn.cons rfl (fun K hK => ?_) (AllReadyIn.cons rfl (fun K hK => ?_) AllReadyIn.nil)
                · go_simp
                  refine hK _ _ ?_
                  clear hK K
                  try simp only [Act.put, List.setIfInBounds_toArray, List.set_cons_zero, List.set_cons_succ]
                  refine wpAnyIn_ready (rs := [2, 4]) (by kernel_rfl) (by simp) ?_
                  refine AllReadyIn.cons rfl (fun K hK => ?_) (AllReadyIn.cons rfl (fun K hK => ?_) AllReadyIn.nil)
                  · go_simp
                    refine ⟨trivial, ?_⟩
                    gi_at_call 56
                    refine HSUM.out.mono ?_
                    rintro e w8 ⟨rfl, hb8⟩
                    have hs8 := (HH8.out.below hb8 HH8.out.lt).c4
                    have HMV9 := Lib.hid (HMV8.out.trans (Mv.below hb8))
                    clear hb8
                    dsimp only
                    refine hK _ _ ?_
                    clear hK K
                    try simp only [Act.put, List.setIfInBounds_toArray, List.set_cons_zero, List.set_cons_succ]
                    refine wpAnyIn_ready (rs := [4]) (by kernel_rfl) (by simp) ?_
                    refine AllReadyIn.cons rfl (fun K hK => ?_) AllReadyIn.nil
                    go_simp
                    refine hK _ _ ?_
                    clear hK K
                    try simp only [Act.put, List.setIfInBounds_toArray, List.set_cons_zero, List.set_cons_succ]
                    refine wpAnyIn_take (i := 5) (v := ?_) rfl rfl (by kernel_rfl) (by kernel_rfl) (by kernel_rfl) (fun _ _ _ h => h) ⟨Or.inl ⟨by rfl, ?_⟩, fun _ => rfl⟩ ?_
                    rotate_left
                    · (intro w; go_simp <;> with_reducible rfl)
                    try simp only [Act.put, List.setIfInBounds_toArray, List.set_cons_zero, List.set_cons_succ]
                    refine wpAnyIn_take (i := 6) (v := ?_) rfl rfl (by kernel_rfl) (by kernel_rfl) (by kernel_rfl) (fun _ _ _ h => h) ⟨Or.inl ⟨by rfl, ?_⟩, fun _ => rfl⟩ ?_
                    rotate_left
                    · (intro w; go_simp <;> with_reducible rfl)
                    try simp only [Act.put, List.setIfInBounds_toArray, List.set_cons_zero, List.set_cons_succ]
                    refine wpAnyIn_take (i := 7) (v := undef) rfl rfl (by kernel_rfl) (by kernel_rfl) (by kernel_rfl) (fun _ _ _ h => h) ⟨Or.inr ⟨by rfl, rfl⟩, fun _ => rfl⟩ ?_
                    try simp only [Act.put, List.setIfInBounds_toArray, List.set_cons_zero, List.set_cons_succ]
                    refine wpAnyIn_take (i := 8) (v := undef) rfl rfl (by kernel_rfl) (by kernel_rfl) (by kernel_rfl) (fun _ _ _ h => h) ⟨Or.inr ⟨by rfl, rfl⟩, fun _ => rfl⟩ ?_
                    try simp only [Act.put, List.setIfInBounds_toArray, List.set_cons_zero, List.set_cons_succ]
                    refine wpAnyIn_take (i := 9) (v := undef) rfl rfl (by kernel_rfl) (by kernel_rfl) (by kernel_rfl) (fun _ _ _ h => h) ⟨Or.inr ⟨by rfl, rfl⟩, fun _ => rfl⟩ ?_
                    try simp only [Act.put, List.setIfInBounds_toArray, List.set_cons_zero, List.set_cons_succ]
                    refine wpAnyIn_ready (rs := [10]) (by kernel_rfl) (by simp) ?_
                    refine AllReadyIn.cons rfl (fun K hK => ?_) AllReadyIn.nil
                    go_simp
                    refine ⟨trivial, ?_⟩
                    refine hK _ _ ?_
                    clear hK K
                    try simp only [Act.put, List.setIfInBounds_toArray, List.set_cons_zero, List.set_cons_succ]
                    refine wpAnyIn_take (i := 11) (v := undef) rfl rfl (by kernel_rfl) (by kernel_rfl) (by kernel_rfl) (fun _ _ _ h => h) ⟨Or.inr ⟨by rfl, rfl⟩, fun _ => rfl⟩ ?_
                    try simp only [Act.put, List.setIfInBounds_toArray, List.set_cons_zero, List.set_cons_succ]
                    refine wpAnyIn_take (i := 12) (v := undef) rfl rfl (by kernel_rfl) (by kernel_rfl) (by kernel_rfl) (fun _ _ _ h => h) ⟨Or.inr ⟨by rfl, rfl⟩, fun _ => rfl⟩ ?_
                    try simp only [Act.put, List.setIfInBounds_toArray, List.set_cons_zero, List.set_cons_succ]
                    refine wpAnyIn_take (i := 13) (v := ?_) rfl rfl (by kernel_rfl) (by kernel_rfl) (by kernel_rfl) (fun _ _ _ h => h) ⟨Or.inl ⟨by rfl, ?_⟩, fun _ => rfl⟩ ?_
                    rotate_left
                    · (intro w; go_simp <;> with_reducible rfl)
                    try simp only [Act.put, List.setIfInBounds_toArray, List.set_cons_zero, List.set_cons_succ]
                    refine wpAnyIn_done (by kernel_rfl) ?_ _
                    try simp only [Exit.inBlock]
                    have hYe : Y = pre := by rw [HYK1.out]; simp only [seqP, show st k = .stop from by rw [HSTK.out, if_neg (by simp), if_neg HNB.out, if_neg (by simp), if_pos (by rw [← HSQ.out]; exact b7)], List.append_nil]
                    have hJn := HJ0.out pre _ _ HJR.out HMV9.out
                    have HYE := Lib.hid hYe
                    have HJN := Lib.hid hJn
                    clear hYe hJn
                    gi_wp2
                    refine bodyPost_ret (results_none rfl _ _ _) rfl ?_
                    first | exact ⟨⟨_, rfl⟩, .inl ⟨_, rfl, by rw [HYE.out]; exact HJN.out⟩⟩ | exact ⟨⟨_, rfl⟩, .inl (by rw [HYE.out]; exact HJN.out)⟩
                  · go_simp
                    refine hK _ _ ?_
                    clear hK K
                    try simp only [Act.put, List.setIfInBounds_toArray, List.set_cons_zero, List.set_cons_succ]
                    refine wpAnyIn_ready (rs := [2]) (by kernel_rfl) (by simp) ?_
                    refine AllReadyIn.cons rfl (fun K hK => ?_) AllReadyIn.nil
                    go_simp
                    refine ⟨trivial, ?_⟩
                    gi_at_call 56
                    refine HSUM.out.mono ?_
                    rintro e w8 ⟨rfl, hb8⟩
                    have hs8 := (HH8.out.below hb8 HH8.out.lt).c4
                    have HMV9 := Lib.hid (HMV8.out.trans (Mv.below hb8))
                    clear hb8
                    dsimp only
                    refine hK _ _ ?_
                    clear hK K
                    try simp only [Act.put, List.setIfInBounds_toArray, List.set_cons_zero, List.set_cons_succ]
                    refine wpAnyIn_take (i := 5) (v := ?_) rfl rfl (by kernel_rfl) (by kernel_rfl) (by kernel_rfl) (fun _ _ _ h => h) ⟨Or.inl ⟨by rfl, ?_⟩, fun _ => rfl⟩ ?_
                    rotate_left
                    · (intro w; go_simp <;> with_reducible rfl)
                    try simp only [Act.put, List.setIfInBounds_toArray, List.set_cons_zero, List.set_cons_succ]
                    refine wpAnyIn_take (i := 6) (v := ?_) rfl rfl (by kernel_rfl) (by kernel_rfl) (by kernel_rfl) (fun _ _ _ h => h) ⟨Or.inl ⟨by rfl, ?_⟩, fun _ => rfl⟩ ?_
                    rotate_left
                    · (intro w; go_simp <;> with_reducible rfl)
                    try simp only [Act.put, List.setIfInBounds_toArray, List.set_cons_zero, List.set_cons_succ]
                    refine wpAnyIn_take (i := 7) (v := undef) rfl rfl (by kernel_rfl) (by kernel_rfl) (by kernel_rfl) (fun _ _ _ h => h) ⟨Or.inr ⟨by rfl, rfl⟩, fun _ => rfl⟩ ?_
                    try simp only [Act.put, List.setIfInBounds_toArray, List.set_cons_zero, List.set_cons_succ]
                    refine wpAnyIn_take (i := 8) (v := undef) rfl rfl (by kernel_rfl) (by kernel_rfl) (by kernel_rfl) (fun _ _ _ h => h) ⟨Or.inr ⟨by rfl, rfl⟩, fun _ => rfl⟩ ?_
                    try simp only [Act.put, List.setIfInBounds_toArray, List.set_cons_zero, List.set_cons_succ]
                    refine wpAnyIn_take (i := 9) (v := undef) rfl rfl (by kernel_rfl) (by kernel_rfl) (by kernel_rfl) (fun _ _ _ h => h) ⟨Or.inr ⟨by rfl, rfl⟩, fun _ => rfl⟩ ?_
                    try simp only [Act.put, List.setIfInBounds_toArray, List.set_cons_zero, List.set_cons_succ]
                    refine wpAnyIn_ready (rs := [10]) (by kernel_rfl) (by simp) ?_
                    refine AllReadyIn.cons rfl (fun K hK => ?_) AllReadyIn.nil
                    go_simp
                    refine ⟨trivial, ?_⟩
                    refine hK _ _ ?_
                    clear hK K
                    try simp only [Act.put, List.setIfInBounds_toArray, List.set_cons_zero, List.set_cons_succ]
                    refine wpAnyIn_take (i := 11) (v := undef) rfl rfl (by kernel_rfl) (by kernel_rfl) (by kernel_rfl) (fun _ _ _ h => h) ⟨Or.inr ⟨by rfl, rfl⟩, fun _ => rfl⟩ ?_
                    try simp only [Act.put, List.setIfInBounds_toArray, List.set_cons_zero, List.set_cons_succ]
                    refine wpAnyIn_take (i := 12) (v := undef) rfl rfl (by kernel_rfl) (by kernel_rfl) (by kernel_rfl) (fun _ _ _ h => h) ⟨Or.inr ⟨by rfl, rfl⟩, fun _ => rfl⟩ ?_
                    try simp only [Act.put, List.setIfInBounds_toArray, List.set_cons_zero, List.set_cons_succ]
                    refine wpAnyIn_take (i := 13) (v := ?_) rfl rfl (by kernel_rfl) (by kernel_rfl) (by kernel_rfl) (fun _ _ _ h => h) ⟨Or.inl ⟨by rfl, ?_⟩, fun _ => rfl⟩ ?_
                    rotate_left
                    · (intro w; go_simp <;> with_reducible rfl)
                    try simp only [Act.put, List.setIfInBounds_toArray, List.set_cons_zero, List.set_cons_succ]
                    refine wpAnyIn_done (by kernel_rfl) ?_ _
                    try simp only [Exit.inBlock]
                    have hYe : Y = pre := by rw [HYK1.out]; simp only [seqP, show st k = .stop from by rw [HSTK.out, if_neg (by simp), if_neg HNB.out, if_neg (by simp), if_pos (by rw [← HSQ.out]; exact b7)], List.append_nil]
                    have hJn := HJ0.out pre _ _ HJR.out HMV9.out
                    have HYE := Lib.hid hYe
                    have HJN := Lib.hid hJn
                    clear hYe hJn
                    gi_wp2
                    refine bodyPost_ret (results_none rfl _ _ _) rfl ?_
                    first | exact ⟨⟨_, rfl⟩, .inl ⟨_, rfl, by rw [HYE.out]; exact HJN.out⟩⟩ | exact ⟨⟨_, rfl⟩, .inl (by rw [HYE.out]; exact HJN.out)⟩
                · go_simp
                  refine hK _ _ ?_
                  clear hK K
                  try simp only [Act.put, List.setIfInBounds_toArray, List.set_cons_zero, List.set_cons_succ]
                  refine wpAnyIn_ready (rs := [1]) (by kernel_rfl) (by simp) ?_
                  refine AllReadyIn.cons rfl (fun K hK => ?_) AllReadyIn.nil
                  go_simp
                  refine hK _ _ ?_
                  clear hK K
                  try simp only [Act.put, List.setIfInBounds_toArray, List.set_cons_zero, List.set_cons_succ]
                  refine wpAnyIn_ready (rs := [2]) (by kernel_rfl) (by simp) ?_
                  refine AllReadyIn.cons rfl (fun K hK => ?_) AllReadyIn.nil
                  go_simp
                  refine ⟨trivial, ?_⟩
                  gi_at_call 56
                  refine HSUM.out.mono ?_
                  rintro e w8 ⟨rfl, hb8⟩
                  have hs8 := (HH8.out.below hb8 HH8.out.lt).c4
                  have HMV9 := Lib.hid (HMV8.out.trans (Mv.below hb8))
                  clear hb8
                  dsimp only
                  refine hK _ _ ?_
                  clear hK K
                  try simp only [Act.put, List.setIfInBounds_toArray, List.set_cons_zero, List.set_cons_succ]
                  refine wpAnyIn_take (i := 5) (v := ?_) rfl rfl (by kernel_rfl) (by kernel_rfl) (by kernel_rfl) (fun _ _ _ h => h) ⟨Or.inl ⟨by rfl, ?_⟩, fun _ => rfl⟩ ?_
                  rotate_left
                  · (intro w; go_simp <;> with_reducible rfl)
                  try simp only [Act.put, List.setIfInBounds_toArray, List.set_cons_zero, List.set_cons_succ]
                  refine wpAnyIn_take (i := 6) (v := ?_) rfl rfl (by kernel_rfl) (by kernel_rfl) (by kernel_rfl) (fun _ _ _ h => h) ⟨Or.inl ⟨by rfl, ?_⟩, fun _ => rfl⟩ ?_
                  rotate_left
                  · (intro w; go_simp <;> with_reducible rfl)
                  try simp only [Act.put, List.setIfInBounds_toArray, List.set_cons_zero, List.set_cons_succ]
                  refine wpAnyIn_take (i := 7) (v := undef) rfl rfl (by kernel_rfl) (by kernel_rfl) (by kernel_rfl) (fun _ _ _ h => h) ⟨Or.inr ⟨by rfl, rfl⟩, fun _ => rfl⟩ ?_
                  try simp only [Act.put, List.setIfInBounds_toArray, List.set_cons_zero, List.set_cons_succ]
                  refine wpAnyIn_take (i := 8) (v := undef) rfl rfl (by kernel_rfl) (by kernel_rfl) (by kernel_rfl) (fun _ _ _ h => h) ⟨Or.inr ⟨by rfl, rfl⟩, fun _ => rfl⟩ ?_
                  try simp only [Act.put, List.setIfInBounds_toArray, List.set_cons_zero, List.set_cons_succ]
                  refine wpAnyIn_take (i := 9) (v := undef) rfl rfl (by kernel_rfl) (by kernel_rfl) (by kernel_rfl) (fun _ _ _ h => h) ⟨Or.inr ⟨by rfl, rfl⟩, fun _ => rfl⟩ ?_
                  try simp only [Act.put, List.setIfInBounds_toArray, List.set_cons_zero, List.set_cons_succ]
                  refine wpAnyIn_ready (rs := [10]) (by kernel_rfl) (by simp) ?_
                  refine AllReadyIn.cons rfl (fun K hK => ?_) AllReadyIn.nil
                  go_simp
                  refine ⟨trivial, ?_⟩
                  refine hK _ _ ?_
                  clear hK K
                  try simp only [Act.put, List.setIfInBounds_toArray, List.set_cons_zero, List.set_cons_succ]
                  refine wpAnyIn_take (i := 11) (v := undef) rfl rfl (by kernel_rfl) (by kernel_rfl) (by kernel_rfl) (fun _ _ _ h => h) ⟨Or.inr ⟨by rfl, rfl⟩, fun _ => rfl⟩ ?_
                  try simp only [Act.put, List.setIfInBounds_toArray, List.set_cons_zero, List.set_cons_succ]
                  refine wpAnyIn_take (i := 12) (v := undef) rfl rfl (by kernel_rfl) (by kernel_rfl) (by kernel_rfl) (fun _ _ _ h => h) ⟨Or.inr ⟨by rfl, rfl⟩, fun _ => rfl⟩ ?_
                  try simp only [Act.put, List.setIfInBounds_toArray, List.set_cons_zero, List.set_cons_succ]
                  refine wpAnyIn_take (i := 13) (v := ?_) rfl rfl (by kernel_rfl) (by kernel_rfl) (by kernel_rfl) (fun _ _ _ h => h) ⟨Or.inl ⟨by rfl, ?_⟩, fun _ => rfl⟩ ?_
                  rotate_left
                  · (intro w; go_simp <;> with_reducible rfl)
                  try simp only [Act.put, List.setIfInBounds_toArray, List.set_cons_zero, List.set_cons_succ]
                  refine wpAnyIn_done (by kernel_rfl) ?_ _
                  try simp only [Exit.inBlock]
                  have hYe : Y = pre := by rw [HYK1.out]; simp only [seqP, show st k = .stop from by rw [HSTK.out, if_neg (by simp), if_neg HNB.out, if_neg (by simp), if_pos (by rw [← HSQ.out]; exact b7)], List.append_nil]
                  have hJn := HJ0.out pre _ _ HJR.out HMV9.out
                  have HYE := Lib.hid hYe
                  have HJN := Lib.hid hJn
                  clear hYe hJn
                  gi_wp2
                  refine bodyPost_ret (results_none rfl _ _ _) rfl ?_
                  first | exact ⟨⟨_, rfl⟩, .inl ⟨_, rfl, by rw [HYE.out]; exact HJN.out⟩⟩ | exact ⟨⟨_, rfl⟩, .inl (by rw [HYE.out]; exact HJN.out)⟩
              · have B7 := Lib.hid (Classical.not_not.1 b7)
                have q7 : ((sq : Int) != (h.sum : Int)) = false := by rw [B7.out]; simp
                have HYG := Lib.hid (show Y = (pre ++ [((⟨h.tag, h.epoch, (h.place : Int), s2⟩ : En), (0 : Int))]) ++ seqP st (k + 1) (u - k - 1) from by
                  rw [HYK1.out]
                  simp only [seqP, show st k = .ok ⟨h.tag, h.epoch, (h.place : Int), s2⟩ from by rw [HSTK.out, if_neg (by simp), if_neg HNB.out, if_neg (by simp), if_neg (by rw [← HSQ.out]; exact fun hx => hx B7.out)], List.append_assoc, List.singleton_append])
                have HLEN := Lib.hid (show pre.length < Y.length from by rw [HYG.out]; simp)
                have hent := fun w => (callsIn_wide (n := n - 1)).2 (uentry_any h.tag h.epoch h.num h.place h.sum s2 w)
                unfold headV En.val at hent
                dsimp only at hent
                have HENT := Lib.hid hent
                clear hent b7
                gi_wp2_with fail
                refine wpIn_region_any (by assumption) ?_
                change wpAnyIn _ _ _ _ _ _ _ _ _ (World.drew _)
                refine wpAnyIn_take (i := 0) (v := ?_) rfl rfl (by kernel_rfl) (by kernel_rfl) (by kernel_rfl) (fun _ _ _ h => h) ⟨Or.inl ⟨by rfl, ?_⟩, fun _ => rfl⟩ ?_
                rotate_left
                · (intro w; go_simp <;> with_reducible rfl)
                try simp only [Act.put, List.setIfInBounds_toArray, List.set_cons_zero, List.set_cons_succ]
                refine wpAnyIn_take (i := 3) (v := ?_) rfl rfl (by kernel_rfl) (by kernel_rfl) (by kernel_rfl) (fun _ _ _ h => h) ⟨Or.inl ⟨by rfl, ?_⟩, fun _ => rfl⟩ ?_
                rotate_left
                · (intro w; go_simp <;> with_reducible rfl)
                try simp only [Act.put, List.setIfInBounds_toArray, List.set_cons_zero, List.set_cons_succ]
                refine wpAnyIn_ready (rs := [1, 4]) (by kernel_rfl) (by simp) ?_
                refine AllReadyIn.cons rfl (fun K hK => ?_) (AllReadyIn.cons rfl (fun K hK => ?_) AllReadyIn.nil)
                · go_simp
                  refine hK _ _ ?_
                  clear hK K
                  try simp only [Act.put, List.setIfInBounds_toArray, List.set_cons_zero, List.set_cons_succ]
                  refine wpAnyIn_ready (rs := [2, 4]) (by kernel_rfl) (by simp) ?_
                  refine AllReadyIn.cons rfl (fun K hK => ?_) (AllReadyIn.cons rfl (fun K hK => ?_) AllReadyIn.nil)
                  · go_simp
                    refine ⟨trivial, ?_⟩
                    gi_at_call 56
                    refine HSUM.out.mono ?_
                    rintro e w8 ⟨rfl, hb8⟩
                    have HH9 := Lib.hid (HH8.out.below hb8 HH8.out.lt)
                    have hs8 := HH9.out.c4
                    have HMV9 := Lib.hid (HMV8.out.trans (Mv.below hb8))
                    have HE9 := Lib.hid (HE8.out.kept fun k hk => hb8.block k (HE8.out.lt k hk))
                    have HF9 := Lib.hid (HF8.out.below hb8 HF8.out.lt)
                    clear hb8
                    dsimp only
                    refine hK _ _ ?_
                    clear hK K
                    try simp only [Act.put, List.setIfInBounds_toArray, List.set_cons_zero, List.set_cons_succ]
                    refine wpAnyIn_ready (rs := [4]) (by kernel_rfl) (by simp) ?_
                    refine AllReadyIn.cons rfl (fun K hK => ?_) AllReadyIn.nil
                    go_simp
                    refine hK _ _ ?_
                    clear hK K
                    try simp only [Act.put, List.setIfInBounds_toArray, List.set_cons_zero, List.set_cons_succ]
                    refine wpAnyIn_take (i := 5) (v := ?_) rfl rfl (by kernel_rfl) (by kernel_rfl) (by kernel_rfl) (fun _ _ _ h => h) ⟨Or.inl ⟨by rfl, ?_⟩, fun _ => rfl⟩ ?_
                    rotate_left
                    · (intro w; go_simp <;> with_reducible rfl)
                    try simp only [Act.put, List.setIfInBounds_toArray, List.set_cons_zero, List.set_cons_succ]
                    refine wpAnyIn_take (i := 6) (v := ?_) rfl rfl (by kernel_rfl) (by kernel_rfl) (by kernel_rfl) (fun _ _ _ h => h) ⟨Or.inl ⟨by rfl, ?_⟩, fun _ => rfl⟩ ?_
                    rotate_left
                    · (intro w; go_simp <;> with_reducible rfl)
                    try simp only [Act.put, List.setIfInBounds_toArray, List.set_cons_zero, List.set_cons_succ]
                    refine wpAnyIn_take (i := 7) (v := ?_) rfl rfl (by kernel_rfl) (by kernel_rfl) (by kernel_rfl) (fun _ _ _ h => h) ⟨Or.inl ⟨by rfl, ?_⟩, fun _ => rfl⟩ ?_
                    rotate_left
                    · (intro w; go_simp <;> with_reducible rfl)
                    try simp only [Act.put, List.setIfInBounds_toArray, List.set_cons_zero, List.set_cons_succ]
                    refine wpAnyIn_take (i := 9) (v := ?_) rfl rfl (by kernel_rfl) (by kernel_rfl) (by kernel_rfl) (fun _ _ _ h => h) ⟨Or.inl ⟨by rfl, ?_⟩, fun _ => rfl⟩ ?_
                    rotate_left
                    · (intro w; go_simp <;> with_reducible rfl)
                    try simp only [Act.put, List.setIfInBounds_toArray, List.set_cons_zero, List.set_cons_succ]
                    have hc0 := HH9.out.c0
                    have hc1' := HH9.out.c1
                    have hc2' := HH9.out.c2
                    have hc3 := HH9.out.c3
                    refine wpAnyIn_ready (rs := [8]) (by kernel_rfl) (by simp) ?_
                    refine AllReadyIn.cons rfl (fun K hK => ?_) AllReadyIn.nil
                    go_simp
                    refine hK _ _ ?_
                    clear hK K
                    try simp only [Act.put, List.setIfInBounds_toArray, List.set_cons_zero, List.set_cons_succ]
                    refine wpAnyIn_ready (rs := [10]) (by kernel_rfl) (by simp) ?_
                    refine AllReadyIn.cons rfl (fun K hK => ?_) AllReadyIn.nil
                    go_simp
                    refine ⟨trivial, ?_⟩
                    gi_at_call 60
                    refine (HENT.out _).mono ?_
                    rintro e w9 ⟨rfl, hb9⟩
                    have HMV10 := Lib.hid (HMV9.out.trans (Mv.below hb9))
                    have HE10 := Lib.hid (HE9.out.kept fun k hk => hb9.block k (HE9.out.lt k hk))
                    have HF10 := Lib.hid (HF9.out.below hb9 HF9.out.lt)
                    clear hb9
                    dsimp only
                    refine hK _ _ ?_
                    clear hK K
                    try simp only [Act.put, List.setIfInBounds_toArray, List.set_cons_zero, List.set_cons_succ]
                    obtain ⟨fn, tmps, assign, body, hy, hR⟩ := HY.out pre (⟨h.tag, h.epoch, (h.place : Int), s2⟩, 0) w9 (HJ0.out pre _ _ HJR.out HMV10.out) HLEN.out
                    rw [show encE ((⟨h.tag, h.epoch, (h.place : Int), s2⟩ : En), (0 : Int)) = #[.agg #[.int .u64 (h.tag : Int), .int .u64 (h.epoch : Int), .int .i64 (h.place : Int), .string s2], .int .i64 0] from rfl] at hy
                    have HRY := Lib.hid hR
                    clear hR
                    refine wpAnyIn_ready (rs := [11]) (by kernel_rfl) (by simp) ?_
                    refine AllReadyIn.cons rfl (fun K hK => ?_) AllReadyIn.nil
                    go_simp
                    refine HRY.out.mono ?_
                    rintro e W3 hd
                    obtain ⟨b, rfl, hd⟩ : ∃ b : Bool, e = .returned (.bool b) ∧ ((b = true ∧ J (pre ++ [((⟨h.tag, h.epoch, (h.place : Int), s2⟩ : En), (0 : Int))]) W3 ∧ KpE Bd Bg Be p v1 v2 w9 W3) ∨ (b = false ∧ Jx (pre ++ [((⟨h.tag, h.epoch, (h.place : Int), s2⟩ : En), (0 : Int))]) W3)) := by
                      rcases hd with ⟨rfl, h1, h2⟩ | ⟨rfl, h1⟩
                      · exact ⟨true, rfl, .inl ⟨rfl, h1, h2⟩⟩
                      · exact ⟨false, rfl, .inr ⟨rfl, h1⟩⟩
                    have HD3 := Lib.hid hd
                    clear hd hy
                    dsimp only
                    refine hK _ _ ?_
                    clear hK K
                    try simp only [Act.put, List.setIfInBounds_toArray, List.set_cons_zero, List.set_cons_succ]
                    refine wpAnyIn_take (i := 12) (v := ?_) rfl rfl (by kernel_rfl) (by kernel_rfl) (by kernel_rfl) (fun _ _ _ h => h) ⟨Or.inl ⟨by rfl, ?_⟩, fun _ => rfl⟩ ?_
                    rotate_left
                    · (intro w; go_simp <;> with_reducible rfl)
                    try simp only [Act.put, List.setIfInBounds_toArray, List.set_cons_zero, List.set_cons_succ]
                    refine wpAnyIn_take (i := 13) (v := ?_) rfl rfl (by kernel_rfl) (by kernel_rfl) (by kernel_rfl) (fun _ _ _ h => h) ⟨Or.inl ⟨by rfl, ?_⟩, fun _ => rfl⟩ ?_
                    rotate_left
                    · (intro w; go_simp <;> with_reducible rfl)
                    try simp only [Act.put, List.setIfInBounds_toArray, List.set_cons_zero, List.set_cons_succ]
                    refine wpAnyIn_done (by kernel_rfl) ?_ _
                    try simp only [Exit.inBlock]
                    have HPL1 := Lib.hid (show (pre ++ [((⟨h.tag, h.epoch, (h.place : Int), s2⟩ : En), (0 : Int))]).length = k + 1 from by simp [HPL.out])
                    have wr1 : IntKind.i64.wrap ((k : Int) + 1) = (k : Int) + 1 := IntWalk.i64_in _ (by omega)
                    clear hc0 hc1' hc2' hc3 hs6 hs7 hs8 hcv
                    cases b with
                    | true =>
                      obtain ⟨hJ3, hk3⟩ : J (pre ++ [((⟨h.tag, h.epoch, (h.place : Int), s2⟩ : En), (0 : Int))]) W3 ∧ KpE Bd Bg Be p v1 v2 w9 W3 := by
                        rcases HD3.out with ⟨_, h1, h2⟩ | ⟨h1, _⟩
                        · exact ⟨h1, h2⟩
                        · cases h1
                      have HE11 := Lib.hid (HE10.out.kept fun k' hk' => hk3.2.1 k' hk' (HE10.out.lt k' hk'))
                      have HF11 := Lib.hid (show HBox W3 n0 fd from hk3.2.2 n0 _ _ HF10.out)
                      have HJ3 := Lib.hid hJ3
                      clear hJ3 hk3 HD3
                      gi_wp2
                      go_roundw
                      case rel => exact ⟨k + 1, _, fd, by omega, by go_num, by rw [HYG.out, show u - (k + 1) = u - k - 1 from by omega], HPL1.out, HJ3.out, HE11.out, HF11.out, fun _ => HFDD.out⟩
                      case measure => simp [intOf]; omega
                    | false =>
                      have hJ3 : Jx (pre ++ [((⟨h.tag, h.epoch, (h.place : Int), s2⟩ : En), (0 : Int))]) W3 := by
                        rcases HD3.out with ⟨h1, _⟩ | ⟨_, h1⟩
                        · cases h1
                        · exact h1
                      have HJ3 := Lib.hid hJ3
                      clear hJ3 HD3
                      gi_wp2
                      refine bodyPost_ret (results_none rfl _ _ _) rfl ?_
                      exact ⟨⟨_, rfl⟩, .inr ⟨_, ⟨k + 1, by rw [HYG.out, List.length_append, HPL1.out]; omega, seqP_split st _ HYG.out HPL1.out⟩, HJ3.out⟩⟩
                  · go_simp
                    refine hK _ _ ?_
                    clear hK K
                    try simp only [Act.put, List.setIfInBounds_toArray, List.set_cons_zero, List.set_cons_succ]
                    refine wpAnyIn_ready (rs := [2]) (by kernel_rfl) (by simp) ?_
                    refine AllReadyIn.cons rfl (fun K hK => ?_) AllReadyIn.nil
                    go_simp
                    refine ⟨trivial, ?_⟩
                    gi_at_call 56
                    refine HSUM.out.mono ?_
                    rintro e w8 ⟨rfl, hb8⟩
                    have HH9 := Lib.hid (HH8.out.below hb8 HH8.out.lt)
                    have hs8 := HH9.out.c4
                    have HMV9 := Lib.hid (HMV8.out.trans (Mv.below hb8))
                    have HE9 := Lib.hid (HE8.out.kept fun k hk => hb8.block k (HE8.out.lt k hk))
                    have HF9 := Lib.hid (HF8.out.below hb8 HF8.out.lt)
                    clear hb8
                    dsimp only
                    refine hK _ _ ?_
                    clear hK K
                    try simp only [Act.put, List.setIfInBounds_toArray, List.set_cons_zero, List.set_cons_succ]
                    refine wpAnyIn_take (i := 5) (v := ?_) rfl rfl (by kernel_rfl) (by kernel_rfl) (by kernel_rfl) (fun _ _ _ h => h) ⟨Or.inl ⟨by rfl, ?_⟩, fun _ => rfl⟩ ?_
                    rotate_left
                    · (intro w; go_simp <;> with_reducible rfl)
                    try simp only [Act.put, List.setIfInBounds_toArray, List.set_cons_zero, List.set_cons_succ]
                    refine wpAnyIn_take (i := 6) (v := ?_) rfl rfl (by kernel_rfl) (by kernel_rfl) (by kernel_rfl) (fun _ _ _ h => h) ⟨Or.inl ⟨by rfl, ?_⟩, fun _ => rfl⟩ ?_
                    rotate_left
                    · (intro w; go_simp <;> with_reducible rfl)
                    try simp only [Act.put, List.setIfInBounds_toArray, List.set_cons_zero, List.set_cons_succ]
                    refine wpAnyIn_take (i := 7) (v := ?_) rfl rfl (by kernel_rfl) (by kernel_rfl) (by kernel_rfl) (fun _ _ _ h => h) ⟨Or.inl ⟨by rfl, ?_⟩, fun _ => rfl⟩ ?_
                    rotate_left
                    · (intro w; go_simp <;> with_reducible rfl)
                    try simp only [Act.put, List.setIfInBounds_toArray, List.set_cons_zero, List.set_cons_succ]
                    refine wpAnyIn_take (i := 9) (v := ?_) rfl rfl (by kernel_rfl) (by kernel_rfl) (by kernel_rfl) (fun _ _ _ h => h) ⟨Or.inl ⟨by rfl, ?_⟩, fun _ => rfl⟩ ?_
                    rotate_left
                    · (intro w; go_simp <;> with_reducible rfl)
                    try simp only [Act.put, List.setIfInBounds_toArray, List.set_cons_zero, List.set_cons_succ]
                    have hc0 := HH9.out.c0
                    have hc1' := HH9.out.c1
                    have hc2' := HH9.out.c2
                    have hc3 := HH9.out.c3
                    refine wpAnyIn_ready (rs := [8]) (by kernel_rfl) (by simp) ?_
                    refine AllReadyIn.cons rfl (fun K hK => ?_) AllReadyIn.nil
                    go_simp
                    refine hK _ _ ?_
                    clear hK K
                    try simp only [Act.put, List.setIfInBounds_toArray, List.set_cons_zero, List.set_cons_succ]
                    refine wpAnyIn_ready (rs := [10]) (by kernel_rfl) (by simp) ?_
                    refine AllReadyIn.cons rfl (fun K hK => ?_) AllReadyIn.nil
                    go_simp
                    refine ⟨trivial, ?_⟩
                    gi_at_call 60
                    refine (HENT.out _).mono ?_
                    rintro e w9 ⟨rfl, hb9⟩
                    have HMV10 := Lib.hid (HMV9.out.trans (Mv.below hb9))
                    have HE10 := Lib.hid (HE9.out.kept fun k hk => hb9.block k (HE9.out.lt k hk))
                    have HF10 := Lib.hid (HF9.out.below hb9 HF9.out.lt)
                    clear hb9
                    dsimp only
                    refine hK _ _ ?_
                    clear hK K
                    try simp only [Act.put, List.setIfInBounds_toArray, List.set_cons_zero, List.set_cons_succ]
                    obtain ⟨fn, tmps, assign, body, hy, hR⟩ := HY.out pre (⟨h.tag, h.epoch, (h.place : Int), s2⟩, 0) w9 (HJ0.out pre _ _ HJR.out HMV10.out) HLEN.out
                    rw [show encE ((⟨h.tag, h.epoch, (h.place : Int), s2⟩ : En), (0 : Int)) = #[.agg #[.int .u64 (h.tag : Int), .int .u64 (h.epoch : Int), .int .i64 (h.place : Int), .string s2], .int .i64 0] from rfl] at hy
                    have HRY := Lib.hid hR
                    clear hR
                    refine wpAnyIn_ready (rs := [11]) (by kernel_rfl) (by simp) ?_
                    refine AllReadyIn.cons rfl (fun K hK => ?_) AllReadyIn.nil
                    go_simp
                    refine HRY.out.mono ?_
                    rintro e W3 hd
                    obtain ⟨b, rfl, hd⟩ : ∃ b : Bool, e = .returned (.bool b) ∧ ((b = true ∧ J (pre ++ [((⟨h.tag, h.epoch, (h.place : Int), s2⟩ : En), (0 : Int))]) W3 ∧ KpE Bd Bg Be p v1 v2 w9 W3) ∨ (b = false ∧ Jx (pre ++ [((⟨h.tag, h.epoch, (h.place : Int), s2⟩ : En), (0 : Int))]) W3)) := by
                      rcases hd with ⟨rfl, h1, h2⟩ | ⟨rfl, h1⟩
                      · exact ⟨true, rfl, .inl ⟨rfl, h1, h2⟩⟩
                      · exact ⟨false, rfl, .inr ⟨rfl, h1⟩⟩
                    have HD3 := Lib.hid hd
                    clear hd hy
                    dsimp only
                    refine hK _ _ ?_
                    clear hK K
                    try simp only [Act.put, List.setIfInBounds_toArray, List.set_cons_zero, List.set_cons_succ]
                    refine wpAnyIn_take (i := 12) (v := ?_) rfl rfl (by kernel_rfl) (by kernel_rfl) (by kernel_rfl) (fun _ _ _ h => h) ⟨Or.inl ⟨by rfl, ?_⟩, fun _ => rfl⟩ ?_
                    rotate_left
                    · (intro w; go_simp <;> with_reducible rfl)
                    try simp only [Act.put, List.setIfInBounds_toArray, List.set_cons_zero, List.set_cons_succ]
                    refine wpAnyIn_take (i := 13) (v := ?_) rfl rfl (by kernel_rfl) (by kernel_rfl) (by kernel_rfl) (fun _ _ _ h => h) ⟨Or.inl ⟨by rfl, ?_⟩, fun _ => rfl⟩ ?_
                    rotate_left
                    · (intro w; go_simp <;> with_reducible rfl)
                    try simp only [Act.put, List.setIfInBounds_toArray, List.set_cons_zero, List.set_cons_succ]
                    refine wpAnyIn_done (by kernel_rfl) ?_ _
                    try simp only [Exit.inBlock]
                    have HPL1 := Lib.hid (show (pre ++ [((⟨h.tag, h.epoch, (h.place : Int), s2⟩ : En), (0 : Int))]).length = k + 1 from by simp [HPL.out])
                    have wr1 : IntKind.i64.wrap ((k : Int) + 1) = (k : Int) + 1 := IntWalk.i64_in _ (by omega)
                    clear hc0 hc1' hc2' hc3 hs6 hs7 hs8 hcv
                    cases b with
                    | true =>
                      obtain ⟨hJ3, hk3⟩ : J (pre ++ [((⟨h.tag, h.epoch, (h.place : Int), s2⟩ : En), (0 : Int))]) W3 ∧ KpE Bd Bg Be p v1 v2 w9 W3 := by
                        rcases HD3.out with ⟨_, h1, h2⟩ | ⟨h1, _⟩
                        · exact ⟨h1, h2⟩
                        · cases h1
                      have HE11 := Lib.hid (HE10.out.kept fun k' hk' => hk3.2.1 k' hk' (HE10.out.lt k' hk'))
                      have HF11 := Lib.hid (show HBox W3 n0 fd from hk3.2.2 n0 _ _ HF10.out)
                      have HJ3 := Lib.hid hJ3
                      clear hJ3 hk3 HD3
                      gi_wp2
                      go_roundw
                      case rel => exact ⟨k + 1, _, fd, by omega, by go_num, by rw [HYG.out, show u - (k + 1) = u - k - 1 from by omega], HPL1.out, HJ3.out, HE11.out, HF11.out, fun _ => HFDD.out⟩
                      case measure => simp [intOf]; omega
                    | false =>
                      have hJ3 : Jx (pre ++ [((⟨h.tag, h.epoch, (h.place : Int), s2⟩ : En), (0 : Int))]) W3 := by
                        rcases HD3.out with ⟨h1, _⟩ | ⟨_, h1⟩
                        · cases h1
                        · exact h1
                      have HJ3 := Lib.hid hJ3
                      clear hJ3 HD3
                      gi_wp2
                      refine bodyPost_ret (results_none rfl _ _ _) rfl ?_
                      exact ⟨⟨_, rfl⟩, .inr ⟨_, ⟨k + 1, by rw [HYG.out, List.length_append, HPL1.out]; omega, seqP_split st _ HYG.out HPL1.out⟩, HJ3.out⟩⟩
                · go_simp
                  refine hK _ _ ?_
                  clear hK K
                  try simp only [Act.put, List.setIfInBounds_toArray, List.set_cons_zero, List.set_cons_succ]
                  refine wpAnyIn_ready (rs := [1]) (by kernel_rfl) (by simp) ?_
                  refine AllReadyIn.cons rfl (fun K hK => ?_) AllReadyIn.nil
                  go_simp
                  refine hK _ _ ?_
                  clear hK K
                  try simp only [Act.put, List.setIfInBounds_toArray, List.set_cons_zero, List.set_cons_succ]
                  refine wpAnyIn_ready (rs := [2]) (by kernel_rfl) (by simp) ?_
                  refine AllReadyIn.cons rfl (fun K hK => ?_) AllReadyIn.nil
                  go_simp
                  refine ⟨trivial, ?_⟩
                  gi_at_call 56
                  refine HSUM.out.mono ?_
                  rintro e w8 ⟨rfl, hb8⟩
                  have HH9 := Lib.hid (HH8.out.below hb8 HH8.out.lt)
                  have hs8 := HH9.out.c4
                  have HMV9 := Lib.hid (HMV8.out.trans (Mv.below hb8))
                  have HE9 := Lib.hid (HE8.out.kept fun k hk => hb8.block k (HE8.out.lt k hk))
                  have HF9 := Lib.hid (HF8.out.below hb8 HF8.out.lt)
                  clear hb8
                  dsimp only
                  refine hK _ _ ?_
                  clear hK K
                  try simp only [Act.put, List.setIfInBounds_toArray, List.set_cons_zero, List.set_cons_succ]
                  refine wpAnyIn_take (i := 5) (v := ?_) rfl rfl (by kernel_rfl) (by kernel_rfl) (by kernel_rfl) (fun _ _ _ h => h) ⟨Or.inl ⟨by rfl, ?_⟩, fun _ => rfl⟩ ?_
                  rotate_left
                  · (intro w; go_simp <;> with_reducible rfl)
                  try simp only [Act.put, List.setIfInBounds_toArray, List.set_cons_zero, List.set_cons_succ]
                  refine wpAnyIn_take (i := 6) (v := ?_) rfl rfl (by kernel_rfl) (by kernel_rfl) (by kernel_rfl) (fun _ _ _ h => h) ⟨Or.inl ⟨by rfl, ?_⟩, fun _ => rfl⟩ ?_
                  rotate_left
                  · (intro w; go_simp <;> with_reducible rfl)
                  try simp only [Act.put, List.setIfInBounds_toArray, List.set_cons_zero, List.set_cons_succ]
                  refine wpAnyIn_take (i := 7) (v := ?_) rfl rfl (by kernel_rfl) (by kernel_rfl) (by kernel_rfl) (fun _ _ _ h => h) ⟨Or.inl ⟨by rfl, ?_⟩, fun _ => rfl⟩ ?_
                  rotate_left
                  · (intro w; go_simp <;> with_reducible rfl)
                  try simp only [Act.put, List.setIfInBounds_toArray, List.set_cons_zero, List.set_cons_succ]
                  refine wpAnyIn_take (i := 9) (v := ?_) rfl rfl (by kernel_rfl) (by kernel_rfl) (by kernel_rfl) (fun _ _ _ h => h) ⟨Or.inl ⟨by rfl, ?_⟩, fun _ => rfl⟩ ?_
                  rotate_left
                  · (intro w; go_simp <;> with_reducible rfl)
                  try simp only [Act.put, List.setIfInBounds_toArray, List.set_cons_zero, List.set_cons_succ]
                  have hc0 := HH9.out.c0
                  have hc1' := HH9.out.c1
                  have hc2' := HH9.out.c2
                  have hc3 := HH9.out.c3
                  refine wpAnyIn_ready (rs := [8]) (by kernel_rfl) (by simp) ?_
                  refine AllReadyIn.cons rfl (fun K hK => ?_) AllReadyIn.nil
                  go_simp
                  refine hK _ _ ?_
                  clear hK K
                  try simp only [Act.put, List.setIfInBounds_toArray, List.set_cons_zero, List.set_cons_succ]
                  refine wpAnyIn_ready (rs := [10]) (by kernel_rfl) (by simp) ?_
                  refine AllReadyIn.cons rfl (fun K hK => ?_) AllReadyIn.nil
                  go_simp
                  refine ⟨trivial, ?_⟩
                  gi_at_call 60
                  refine (HENT.out _).mono ?_
                  rintro e w9 ⟨rfl, hb9⟩
                  have HMV10 := Lib.hid (HMV9.out.trans (Mv.below hb9))
                  have HE10 := Lib.hid (HE9.out.kept fun k hk => hb9.block k (HE9.out.lt k hk))
                  have HF10 := Lib.hid (HF9.out.below hb9 HF9.out.lt)
                  clear hb9
                  dsimp only
                  refine hK _ _ ?_
                  clear hK K
                  try simp only [Act.put, List.setIfInBounds_toArray, List.set_cons_zero, List.set_cons_succ]
                  obtain ⟨fn, tmps, assign, body, hy, hR⟩ := HY.out pre (⟨h.tag, h.epoch, (h.place : Int), s2⟩, 0) w9 (HJ0.out pre _ _ HJR.out HMV10.out) HLEN.out
                  rw [show encE ((⟨h.tag, h.epoch, (h.place : Int), s2⟩ : En), (0 : Int)) = #[.agg #[.int .u64 (h.tag : Int), .int .u64 (h.epoch : Int), .int .i64 (h.place : Int), .string s2], .int .i64 0] from rfl] at hy
                  have HRY := Lib.hid hR
                  clear hR
                  refine wpAnyIn_ready (rs := [11]) (by kernel_rfl) (by simp) ?_
                  refine AllReadyIn.cons rfl (fun K hK => ?_) AllReadyIn.nil
                  go_simp
                  refine HRY.out.mono ?_
                  rintro e W3 hd
                  obtain ⟨b, rfl, hd⟩ : ∃ b : Bool, e = .returned (.bool b) ∧ ((b = true ∧ J (pre ++ [((⟨h.tag, h.epoch, (h.place : Int), s2⟩ : En), (0 : Int))]) W3 ∧ KpE Bd Bg Be p v1 v2 w9 W3) ∨ (b = false ∧ Jx (pre ++ [((⟨h.tag, h.epoch, (h.place : Int), s2⟩ : En), (0 : Int))]) W3)) := by
                    rcases hd with ⟨rfl, h1, h2⟩ | ⟨rfl, h1⟩
                    · exact ⟨true, rfl, .inl ⟨rfl, h1, h2⟩⟩
                    · exact ⟨false, rfl, .inr ⟨rfl, h1⟩⟩
                  have HD3 := Lib.hid hd
                  clear hd hy
                  dsimp only
                  refine hK _ _ ?_
                  clear hK K
                  try simp only [Act.put, List.setIfInBounds_toArray, List.set_cons_zero, List.set_cons_succ]
                  refine wpAnyIn_take (i := 12) (v := ?_) rfl rfl (by kernel_rfl) (by kernel_rfl) (by kernel_rfl) (fun _ _ _ h => h) ⟨Or.inl ⟨by rfl, ?_⟩, fun _ => rfl⟩ ?_
                  rotate_left
                  · (intro w; go_simp <;> with_reducible rfl)
                  try simp only [Act.put, List.setIfInBounds_toArray, List.set_cons_zero, List.set_cons_succ]
                  refine wpAnyIn_take (i := 13) (v := ?_) rfl rfl (by kernel_rfl) (by kernel_rfl) (by kernel_rfl) (fun _ _ _ h => h) ⟨Or.inl ⟨by rfl, ?_⟩, fun _ => rfl⟩ ?_
                  rotate_left
                  · (intro w; go_simp <;> with_reducible rfl)
                  try simp only [Act.put, List.setIfInBounds_toArray, List.set_cons_zero, List.set_cons_succ]
                  refine wpAnyIn_done (by kernel_rfl) ?_ _
                  try simp only [Exit.inBlock]
                  have HPL1 := Lib.hid (show (pre ++ [((⟨h.tag, h.epoch, (h.place : Int), s2⟩ : En), (0 : Int))]).length = k + 1 from by simp [HPL.out])
                  have wr1 : IntKind.i64.wrap ((k : Int) + 1) = (k : Int) + 1 := IntWalk.i64_in _ (by omega)
                  clear hc0 hc1' hc2' hc3 hs6 hs7 hs8 hcv
                  cases b with
                  | true =>
                    obtain ⟨hJ3, hk3⟩ : J (pre ++ [((⟨h.tag, h.epoch, (h.place : Int), s2⟩ : En), (0 : Int))]) W3 ∧ KpE Bd Bg Be p v1 v2 w9 W3 := by
                      rcases HD3.out with ⟨_, h1, h2⟩ | ⟨h1, _⟩
                      · exact ⟨h1, h2⟩
                      · cases h1
                    have HE11 := Lib.hid (HE10.out.kept fun k' hk' => hk3.2.1 k' hk' (HE10.out.lt k' hk'))
                    have HF11 := Lib.hid (show HBox W3 n0 fd from hk3.2.2 n0 _ _ HF10.out)
                    have HJ3 := Lib.hid hJ3
                    clear hJ3 hk3 HD3
                    gi_wp2
                    go_roundw
                    case rel => exact ⟨k + 1, _, fd, by omega, by go_num, by rw [HYG.out, show u - (k + 1) = u - k - 1 from by omega], HPL1.out, HJ3.out, HE11.out, HF11.out, fun _ => HFDD.out⟩
                    case measure => simp [intOf]; omega
                  | false =>
                    have hJ3 : Jx (pre ++ [((⟨h.tag, h.epoch, (h.place : Int), s2⟩ : En), (0 : Int))]) W3 := by
                      rcases HD3.out with ⟨h1, _⟩ | ⟨_, h1⟩
                      · cases h1
                      · exact h1
                    have HJ3 := Lib.hid hJ3
                    clear hJ3 HD3
                    gi_wp2
                    refine bodyPost_ret (results_none rfl _ _ _) rfl ?_
                    exact ⟨⟨_, rfl⟩, .inr ⟨_, ⟨k + 1, by rw [HYG.out, List.length_append, HPL1.out]; omega, seqP_split st _ HYG.out HPL1.out⟩, HJ3.out⟩⟩
            · have q6 : (c2 != 0) = true := by simpa using hc2
              have hYe : Y = pre ++ [(noEn, c2)] := by rw [HYK1.out]; simp only [seqP, show st k = .err c2 from by rw [HSTK.out, if_neg (by simp), if_neg HNB.out, if_pos hc2]]
              have hJn := HJ0.out pre _ _ HJR.out HMV7.out
              obtain ⟨fn, tmps, assign, body, hy, hR⟩ := HY.out pre (noEn, c2) _ hJn (by rw [hYe]; simp)
              rw [show encE (noEn, c2) = #[.agg #[.int .u64 0, .int .u64 0, .int .i64 0, .string ⟨#[]⟩], .int .i64 c2] from rfl] at hy
              have HR := Lib.hid hR
              have HYE := Lib.hid hYe
              clear hR hJn hYe
              gi_wp2
              refine HR.out.mono ?_
              rintro e W3 (⟨rfl, hJ3, hk3⟩ | ⟨rfl, hJx3⟩)
              · clear hy hk3
                gi_wp2
                refine bodyPost_ret (results_none rfl _ _ _) rfl ?_
                exact ⟨⟨_, rfl⟩, .inl ⟨_, HYE.out.symm, hJ3⟩⟩
              · clear hy
                gi_wp2
                refine bodyPost_ret (results_none rfl _ _ _) rfl ?_
                exact ⟨⟨_, rfl⟩, .inr ⟨_, ⟨Y.length, Nat.le_refl _, by rw [List.take_length]; exact HYE.out.symm⟩, hJx3⟩⟩
        · have q0 : ((k : Int) == 0) = false := by simp; omega
          replace HF4 := Lib.hid (show HBox w4 n0 fd from by rw [← HHD.out (by omega)]; exact HF4.out)
          have ch0 := HH4.out.c0
          have ch1 := HH4.out.c1
          have ch2 := HH4.out.c2
          have ch3 := HH4.out.c3
          have ch4 := HH4.out.c4
          have cg0 : w4.cell? ⟨Bg, 0, none⟩ = some (.int .i64 N) := by rw [cell_of_blk HE4.out.bg]; rfl
          have cg1 : w4.cell? ⟨Bg, 1, none⟩ = some (.int .i64 F) := by rw [cell_of_blk HE4.out.bg]; rfl
          have cg2 : w4.cell? ⟨Bg, 2, none⟩ = some (.int .i64 C) := by rw [cell_of_blk HE4.out.bg]; rfl
          have cg3 : w4.cell? ⟨Bg, 3, none⟩ = some (.int .i64 (u : Int)) := by rw [cell_of_blk HE4.out.bg]; rfl
          by_cases b1 : h.num ≠ k
          · have q1 : ((h.num : Int) != (k : Int)) = true := by simp only [bne_iff_ne, ne_eq]; omega
            have hYe : Y = pre := by rw [HYK1.out]; simp only [seqP, show st k = .stop from by rw [HSTK.out, if_neg (by simp), if_pos (show badH N F C (u : Int) ep k h fd from .inl b1)], List.append_nil]
            have hJn := HJ0.out pre _ _ HJR.out HMV4.out
            have HYE := Lib.hid hYe
            have HJN := Lib.hid hJn
            clear hYe hJn
            gi_wp2_with fail
            refine ⟨trivial, ?_⟩
            gi_wp2
            refine bodyPost_ret (results_none rfl _ _ _) rfl ?_
            exact ⟨⟨_, rfl⟩, .inl ⟨_, rfl, by rw [HYE.out]; exact HJN.out⟩⟩
          have B1 := Lib.hid (show h.num = k from Classical.not_not.1 b1)
          have q1 : ((h.num : Int) != (k : Int)) = false := by rw [B1.out]; simp
          clear b1
          have hmay := fun w => (callsIn_wide (n := n - 1)).2 (undoable_any N F C (u : Int) (h.place : Int) w HO.out)
          unfold geo at hmay
          obtain ⟨m, hm⟩ : ∃ m, m = decide (mayP N F C (u : Int) (h.place : Int)) := ⟨_, rfl⟩
          rw [← hm] at hmay
          have HMAY := Lib.hid hmay
          have HM := Lib.hid hm
          clear hmay hm
          gi_wp2_with fail
          refine ⟨trivial, (HMAY.out _).mono ?_⟩
          rintro e w5 ⟨rfl, hb⟩
          have HMV6 := Lib.hid (HMV4.out.trans (Mv.below hb))
          have HE6 := Lib.hid (HE4.out.kept fun k hk => hb.block k (HE4.out.lt k hk))
          have HF6 := Lib.hid (HF4.out.below hb HF4.out.lt)
          have HH6 := Lib.hid (HH4.out.below hb HH4.out.lt)
          have dh0 := HH6.out.c0
          have dh1 := HH6.out.c1
          have dh2 := HH6.out.c2
          have dh3 := HH6.out.c3
          have dh4 := HH6.out.c4
          have df0 := HF6.out.c0
          have df1 := HF6.out.c1
          have de : w5.cell? ⟨Be, 0, none⟩ = some (.int .u64 (ep : Int)) := by rw [cell_of_blk HE6.out.be]; rfl
          clear hb HMAY ch0 ch1 ch2 ch3 ch4 cg0 cg1 cg2 cg3
          cases m with
          | false =>
            have hnm : ¬ mayP N F C (u : Int) (h.place : Int) := by have := HM.out; simpa using this.symm
            have hYe : Y = pre := by rw [HYK1.out]; simp only [seqP, show st k = .stop from by rw [HSTK.out, if_neg (by simp), if_pos (show badH N F C (u : Int) ep k h fd from .inr (.inl hnm))], List.append_nil]
            have hJn := HJ0.out pre _ _ HJR.out HMV6.out
            have HYE := Lib.hid hYe
            have HJN := Lib.hid hJn
            clear hYe hJn
            gi_wp2
            refine bodyPost_ret (results_none rfl _ _ _) rfl ?_
            exact ⟨⟨_, rfl⟩, .inl ⟨_, rfl, by rw [HYE.out]; exact HJN.out⟩⟩
          | true =>
            have hmm : mayP N F C (u : Int) (h.place : Int) := by have := HM.out; simpa using this.symm
            by_cases b3 : h.epoch ≤ ep
            · have q3 : (h.epoch : Int) ≤ (ep : Int) := by omega
              have hYe : Y = pre := by rw [HYK1.out]; simp only [seqP, show st k = .stop from by rw [HSTK.out, if_neg (by simp), if_pos (show badH N F C (u : Int) ep k h fd from .inr (.inr (.inl b3)))], List.append_nil]
              have hJn := HJ0.out pre _ _ HJR.out HMV6.out
              have HYE := Lib.hid hYe
              have HJN := Lib.hid hJn
              clear hYe hJn
              gi_wp2
              refine bodyPost_ret (results_none rfl _ _ _) rfl ?_
              exact ⟨⟨_, rfl⟩, .inl ⟨_, rfl, by rw [HYE.out]; exact HJN.out⟩⟩
            have q3 : ¬ ((h.epoch : Int) ≤ (ep : Int)) := by omega
            by_cases b4 : h.tag ≠ fd.tag
            · have q4 : ((h.tag : Int) != (fd.tag : Int)) = true := by simp only [bne_iff_ne, ne_eq]; omega
              have hYe : Y = pre := by rw [HYK1.out]; simp only [seqP, show st k = .stop from by rw [HSTK.out, if_neg (by simp), if_pos (show badH N F C (u : Int) ep k h fd from .inr (.inr (.inr (.inl b4))))], List.append_nil]
              have hJn := HJ0.out pre _ _ HJR.out HMV6.out
              have HYE := Lib.hid hYe
              have HJN := Lib.hid hJn
              clear hYe hJn
              gi_wp2
              refine bodyPost_ret (results_none rfl _ _ _) rfl ?_
              exact ⟨⟨_, rfl⟩, .inl ⟨_, rfl, by rw [HYE.out]; exact HJN.out⟩⟩
            have B4 := Lib.hid (Classical.not_not.1 b4)
            have q4 : ((h.tag : Int) != (fd.tag : Int)) = false := by rw [B4.out]; simp
            clear b4
            by_cases b5 : h.epoch ≠ fd.epoch
            · have q5 : ((h.epoch : Int) != (fd.epoch : Int)) = true := by simp only [bne_iff_ne, ne_eq]; omega
              have hYe : Y = pre := by rw [HYK1.out]; simp only [seqP, show st k = .stop from by rw [HSTK.out, if_neg (by simp), if_pos (show badH N F C (u : Int) ep k h fd from .inr (.inr (.inr (.inr b5))))], List.append_nil]
              have hJn := HJ0.out pre _ _ HJR.out HMV6.out
              have HYE := Lib.hid hYe
              have HJN := Lib.hid hJn
              clear hYe hJn
              gi_wp2
              refine bodyPost_ret (results_none rfl _ _ _) rfl ?_
              exact ⟨⟨_, rfl⟩, .inl ⟨_, rfl, by rw [HYE.out]; exact HJN.out⟩⟩
            have B5 := Lib.hid (Classical.not_not.1 b5)
            have q5 : ((h.epoch : Int) != (fd.epoch : Int)) = false := by rw [B5.out]; simp
            clear b5
            have HNB := Lib.hid (show ¬ badH N F C (u : Int) ep k h fd from fun hb => by
              rcases hb with hb | hb | hb | hb | hb
              · exact hb B1.out
              · exact hb hmm
              · exact b3 hb
              · exact hb B4.out
              · exact hb B5.out)
            clear hmm b3
            have bd0 : w5.cell? ⟨Bd, 0, none⟩ = some (.pointer (some ⟨p, 0, none⟩)) := by rw [cell_of_blk HE6.out.bd]; rfl
            have hr := HRD.out w5 HE6.out a2
            rw [HE2'.out] at hr
            have HR := Lib.hid hr
            clear hr
            gi_wp2_with fail
            refine ⟨trivial, HR.out.mono ?_⟩
            rintro e w6 ⟨rfl, hb⟩
            have HMV7 := Lib.hid (HMV6.out.trans (Mv.below hb))
            have HE7 := Lib.hid (HE6.out.kept fun k hk => hb.block k (HE6.out.lt k hk))
            have HF7 := Lib.hid (HF6.out.below hb HF6.out.lt)
            have HH7 := Lib.hid (HH6.out.below hb HH6.out.lt)
            clear hb bd0 HR q3 q4 q5 de df0 df1 dh0 dh1 dh2 dh3 dh4
            by_cases hc2 : c2 = 0
            · subst hc2
              obtain ⟨cp, w7, hcv, hrd7, hb7⟩ := cv_str s2.data.toList HZ2.out w6.drew
              rw [strV_of] at hcv
              have hsum := (callsIn_wide (n := n - 1)).2 (sum_any _ _ _ _ w7 hrd7)
              obtain ⟨sq, hsq⟩ : ∃ sq, sq = sumN s2 := ⟨_, rfl⟩
              rw [show addN 0 s2.data.toList = sq from hsq.symm] at hsum
              obtain ⟨m2, hm2⟩ : ∃ m2, m2 = s2.data.toList.length := ⟨_, rfl⟩
              obtain ⟨g2, hg2⟩ : ∃ g2, g2 = w6.drew.heap.size := ⟨_, rfl⟩
              rw [← hm2, ← hg2] at hsum hcv
              have hbd : Below w6.heap.size w6 w6.drew := ⟨rfl, rfl, rfl, Nat.le_refl _, fun _ _ => rfl⟩
              have hb67 : Below w6.heap.size w6 w7 := hbd.trans hb7
              have HMV8 := Lib.hid (HMV7.out.trans (Mv.below hb67))
              have HE8 := Lib.hid (HE7.out.kept fun k hk => hb67.block k (HE7.out.lt k hk))
              have HF8 := Lib.hid (HF7.out.below hb67 HF7.out.lt)
              have HH8 := Lib.hid (HH7.out.below hb67 HH7.out.lt)
              have HHD6 := Lib.hid (show HBox w6.drew hx h from HH7.out)
              have hs6 := HHD6.out.c4
              have hs7 := HH8.out.c4
              have HSUM := Lib.hid hsum
              have HSQ := Lib.hid hsq
              have mixed : Tryz.prog.follows .mixedOrders = true := by kernel_rfl
              clear hsum hsq hm2 hg2 hbd hb67 hb7 hrd7
              by_cases b7 : sq ≠ h.sum
              · have q7 : ((sq : Int) != (h.sum : Int)) = true := by simp only [bne_iff_ne, ne_eq]; omega
                gi_wp2_with fail
                refine wpIn_region_any (by assumption) ?_
                change wpAnyIn _ _ _ _ _ _ _ _ _ (World.drew _)
                refine wpAnyIn_take (i := 0) (v := ?_) rfl rfl (by kernel_rfl) (by kernel_rfl) (by kernel_rfl) (fun _ _ _ h => h) ⟨Or.inl ⟨by rfl, ?_⟩, fun _ => rfl⟩ ?_
                rotate_left
                · (intro w; go_simp <;> with_reducible rfl)
                try simp only [Act.put, List.setIfInBounds_toArray, List.set_cons_zero, List.set_cons_succ]
                refine wpAnyIn_take (i := 3) (v := ?_) rfl rfl (by kernel_rfl) (by kernel_rfl) (by kernel_rfl) (fun _ _ _ h => h) ⟨Or.inl ⟨by rfl, ?_⟩, fun _ => rfl⟩ ?_
                rotate_left
                · (intro w; go_simp <;> with_reducible rfl)
                try simp only [Act.put, List.setIfInBounds_toArray, List.set_cons_zero, List.set_cons_succ]
                refine wpAnyIn_ready (rs := [1, 4]) (by kernel_rfl) (by simp) ?_
                refine AllReadyIn.cons rfl (fun K hK => ?_) (AllReadyIn.cons rfl (fun K hK => ?_) AllReadyIn.nil)
                · go_simp
                  refine hK _ _ ?_
                  clear hK K
                  try simp only [Act.put, List.setIfInBounds_toArray, List.set_cons_zero, List.set_cons_succ]
                  refine wpAnyIn_ready (rs := [2, 4]) (by kernel_rfl) (by simp) ?_
                  refine AllReadyIn.cons rfl (fun K hK => ?_) (AllReadyIn.cons rfl (fun K hK => ?_) AllReadyIn.nil)
                  · go_simp
                    refine ⟨trivial, ?_⟩
                    gi_at_call 56
                    refine HSUM.out.mono ?_
                    rintro e w8 ⟨rfl, hb8⟩
                    have hs8 := (HH8.out.below hb8 HH8.out.lt).c4
                    have HMV9 := Lib.hid (HMV8.out.trans (Mv.below hb8))
                    clear hb8
                    dsimp only
                    refine hK _ _ ?_
                    clear hK K
                    try simp only [Act.put, List.setIfInBounds_toArray, List.set_cons_zero, List.set_cons_succ]
                    refine wpAnyIn_ready (rs := [4]) (by kernel_rfl) (by simp) ?_
                    refine AllReadyIn.cons rfl (fun K hK => ?_) AllReadyIn.nil
                    go_simp
                    refine hK _ _ ?_
                    clear hK K
                    try simp only [Act.put, List.setIfInBounds_toArray, List.set_cons_zero, List.set_cons_succ]
                    refine wpAnyIn_take (i := 5) (v := ?_) rfl rfl (by kernel_rfl) (by kernel_rfl) (by kernel_rfl) (fun _ _ _ h => h) ⟨Or.inl ⟨by rfl, ?_⟩, fun _ => rfl⟩ ?_
                    rotate_left
                    · (intro w; go_simp <;> with_reducible rfl)
                    try simp only [Act.put, List.setIfInBounds_toArray, List.set_cons_zero, List.set_cons_succ]
                    refine wpAnyIn_take (i := 6) (v := ?_) rfl rfl (by kernel_rfl) (by kernel_rfl) (by kernel_rfl) (fun _ _ _ h => h) ⟨Or.inl ⟨by rfl, ?_⟩, fun _ => rfl⟩ ?_
                    rotate_left
                    · (intro w; go_simp <;> with_reducible rfl)
                    try simp only [Act.put, List.setIfInBounds_toArray, List.set_cons_zero, List.set_cons_succ]
                    refine wpAnyIn_take (i := 7) (v := undef) rfl rfl (by kernel_rfl) (by kernel_rfl) (by kernel_rfl) (fun _ _ _ h => h) ⟨Or.inr ⟨by rfl, rfl⟩, fun _ => rfl⟩ ?_
                    try simp only [Act.put, List.setIfInBounds_toArray, List.set_cons_zero, List.set_cons_succ]
                    refine wpAnyIn_take (i := 8) (v := undef) rfl rfl (by kernel_rfl) (by kernel_rfl) (by kernel_rfl) (fun _ _ _ h => h) ⟨Or.inr ⟨by rfl, rfl⟩, fun _ => rfl⟩ ?_
                    try simp only [Act.put, List.setIfInBounds_toArray, List.set_cons_zero, List.set_cons_succ]
                    refine wpAnyIn_take (i := 9) (v := undef) rfl rfl (by kernel_rfl) (by kernel_rfl) (by kernel_rfl) (fun _ _ _ h => h) ⟨Or.inr ⟨by rfl, rfl⟩, fun _ => rfl⟩ ?_
                    try simp only [Act.put, List.setIfInBounds_toArray, List.set_cons_zero, List.set_cons_succ]
                    refine wpAnyIn_ready (rs := [10]) (by kernel_rfl) (by simp) ?_
                    refine AllReadyIn.cons rfl (fun K hK => ?_) AllReadyIn.nil
                    go_simp
                    refine ⟨trivial, ?_⟩
                    refine hK _ _ ?_
                    clear hK K
                    try simp only [Act.put, List.setIfInBounds_toArray, List.set_cons_zero, List.set_cons_succ]
                    refine wpAnyIn_take (i := 11) (v := undef) rfl rfl (by kernel_rfl) (by kernel_rfl) (by kernel_rfl) (fun _ _ _ h => h) ⟨Or.inr ⟨by rfl, rfl⟩, fun _ => rfl⟩ ?_
                    try simp only [Act.put, List.setIfInBounds_toArray, List.set_cons_zero, List.set_cons_succ]
                    refine wpAnyIn_take (i := 12) (v := undef) rfl rfl (by kernel_rfl) (by kernel_rfl) (by kernel_rfl) (fun _ _ _ h => h) ⟨Or.inr ⟨by rfl, rfl⟩, fun _ => rfl⟩ ?_
                    try simp only [Act.put, List.setIfInBounds_toArray, List.set_cons_zero, List.set_cons_succ]
                    refine wpAnyIn_take (i := 13) (v := ?_) rfl rfl (by kernel_rfl) (by kernel_rfl) (by kernel_rfl) (fun _ _ _ h => h) ⟨Or.inl ⟨by rfl, ?_⟩, fun _ => rfl⟩ ?_
                    rotate_left
                    · (intro w; go_simp <;> with_reducible rfl)
                    try simp only [Act.put, List.setIfInBounds_toArray, List.set_cons_zero, List.set_cons_succ]
                    refine wpAnyIn_done (by kernel_rfl) ?_ _
                    try simp only [Exit.inBlock]
                    have hYe : Y = pre := by rw [HYK1.out]; simp only [seqP, show st k = .stop from by rw [HSTK.out, if_neg (by simp), if_neg HNB.out, if_neg (by simp), if_pos (by rw [← HSQ.out]; exact b7)], List.append_nil]
                    have hJn := HJ0.out pre _ _ HJR.out HMV9.out
                    have HYE := Lib.hid hYe
                    have HJN := Lib.hid hJn
                    clear hYe hJn
                    gi_wp2
                    refine bodyPost_ret (results_none rfl _ _ _) rfl ?_
                    first | exact ⟨⟨_, rfl⟩, .inl ⟨_, rfl, by rw [HYE.out]; exact HJN.out⟩⟩ | exact ⟨⟨_, rfl⟩, .inl (by rw [HYE.out]; exact HJN.out)⟩
                  · go_simp
                    refine hK _ _ ?_
                    clear hK K
                    try simp only [Act.put, List.setIfInBounds_toArray, List.set_cons_zero, List.set_cons_succ]
                    refine wpAnyIn_ready (rs := [2]) (by kernel_rfl) (by simp) ?_
                    refine AllReadyIn.cons rfl (fun K hK => ?_) AllReadyIn.nil
                    go_simp
                    refine ⟨trivial, ?_⟩
                    gi_at_call 56
                    refine HSUM.out.mono ?_
                    rintro e w8 ⟨rfl, hb8⟩
                    have hs8 := (HH8.out.below hb8 HH8.out.lt).c4
                    have HMV9 := Lib.hid (HMV8.out.trans (Mv.below hb8))
                    clear hb8
                    dsimp only
                    refine hK _ _ ?_
                    clear hK K
                    try simp only [Act.put, List.setIfInBounds_toArray, List.set_cons_zero, List.set_cons_succ]
                    refine wpAnyIn_take (i := 5) (v := ?_) rfl rfl (by kernel_rfl) (by kernel_rfl) (by kernel_rfl) (fun _ _ _ h => h) ⟨Or.inl ⟨by rfl, ?_⟩, fun _ => rfl⟩ ?_
                    rotate_left
                    · (intro w; go_simp <;> with_reducible rfl)
                    try simp only [Act.put, List.setIfInBounds_toArray, List.set_cons_zero, List.set_cons_succ]
                    refine wpAnyIn_take (i := 6) (v := ?_) rfl rfl (by kernel_rfl) (by kernel_rfl) (by kernel_rfl) (fun _ _ _ h => h) ⟨Or.inl ⟨by rfl, ?_⟩, fun _ => rfl⟩ ?_
                    rotate_left
                    · (intro w; go_simp <;> with_reducible rfl)
                    try simp only [Act.put, List.setIfInBounds_toArray, List.set_cons_zero, List.set_cons_succ]
                    refine wpAnyIn_take (i := 7) (v := undef) rfl rfl (by kernel_rfl) (by kernel_rfl) (by kernel_rfl) (fun _ _ _ h => h) ⟨Or.inr ⟨by rfl, rfl⟩, fun _ => rfl⟩ ?_
                    try simp only [Act.put, List.setIfInBounds_toArray, List.set_cons_zero, List.set_cons_succ]
                    refine wpAnyIn_take (i := 8) (v := undef) rfl rfl (by kernel_rfl) (by kernel_rfl) (by kernel_rfl) (fun _ _ _ h => h) ⟨Or.inr ⟨by rfl, rfl⟩, fun _ => rfl⟩ ?_
                    try simp only [Act.put, List.setIfInBounds_toArray, List.set_cons_zero, List.set_cons_succ]
                    refine wpAnyIn_take (i := 9) (v := undef) rfl rfl (by kernel_rfl) (by kernel_rfl) (by kernel_rfl) (fun _ _ _ h => h) ⟨Or.inr ⟨by rfl, rfl⟩, fun _ => rfl⟩ ?_
                    try simp only [Act.put, List.setIfInBounds_toArray, List.set_cons_zero, List.set_cons_succ]
                    refine wpAnyIn_ready (rs := [10]) (by kernel_rfl) (by simp) ?_
                    refine AllReadyIn.cons rfl (fun K hK => ?_) AllReadyIn.nil
                    go_simp
                    refine ⟨trivial, ?_⟩
                    refine hK _ _ ?_
                    clear hK K
                    try simp only [Act.put, List.setIfInBounds_toArray, List.set_cons_zero, List.set_cons_succ]
                    refine wpAnyIn_take (i := 11) (v := undef) rfl rfl (by kernel_rfl) (by kernel_rfl) (by kernel_rfl) (fun _ _ _ h => h) ⟨Or.inr ⟨by rfl, rfl⟩, fun _ => rfl⟩ ?_
                    try simp only [Act.put, List.setIfInBounds_toArray, List.set_cons_zero, List.set_cons_succ]
                    refine wpAnyIn_take (i := 12) (v := undef) rfl rfl (by kernel_rfl) (by kernel_rfl) (by kernel_rfl) (fun _ _ _ h => h) ⟨Or.inr ⟨by rfl, rfl⟩, fun _ => rfl⟩ ?_
                    try simp only [Act.put, List.setIfInBounds_toArray, List.set_cons_zero, List.set_cons_succ]
                    refine wpAnyIn_take (i := 13) (v := ?_) rfl rfl (by kernel_rfl) (by kernel_rfl) (by kernel_rfl) (fun _ _ _ h => h) ⟨Or.inl ⟨by rfl, ?_⟩, fun _ => rfl⟩ ?_
                    rotate_left
                    · (intro w; go_simp <;> with_reducible rfl)
                    try simp only [Act.put, List.setIfInBounds_toArray, List.set_cons_zero, List.set_cons_succ]
                    refine wpAnyIn_done (by kernel_rfl) ?_ _
                    try simp only [Exit.inBlock]
                    have hYe : Y = pre := by rw [HYK1.out]; simp only [seqP, show st k = .stop from by rw [HSTK.out, if_neg (by simp), if_neg HNB.out, if_neg (by simp), if_pos (by rw [← HSQ.out]; exact b7)], List.append_nil]
                    have hJn := HJ0.out pre _ _ HJR.out HMV9.out
                    have HYE := Lib.hid hYe
                    have HJN := Lib.hid hJn
                    clear hYe hJn
                    gi_wp2
                    refine bodyPost_ret (results_none rfl _ _ _) rfl ?_
                    first | exact ⟨⟨_, rfl⟩, .inl ⟨_, rfl, by rw [HYE.out]; exact HJN.out⟩⟩ | exact ⟨⟨_, rfl⟩, .inl (by rw [HYE.out]; exact HJN.out)⟩
                · go_simp
                  refine hK _ _ ?_
                  clear hK K
                  try simp only [Act.put, List.setIfInBounds_toArray, List.set_cons_zero, List.set_cons_succ]
                  refine wpAnyIn_ready (rs := [1]) (by kernel_rfl) (by simp) ?_
                  refine AllReadyIn.cons rfl (fun K hK => ?_) AllReadyIn.nil
                  go_simp
                  refine hK _ _ ?_
                  clear hK K
                  try simp only [Act.put, List.setIfInBounds_toArray, List.set_cons_zero, List.set_cons_succ]
                  refine wpAnyIn_ready (rs := [2]) (by kernel_rfl) (by simp) ?_
                  refine AllReadyIn.cons rfl (fun K hK => ?_) AllReadyIn.nil
                  go_simp
                  refine ⟨trivial, ?_⟩
                  gi_at_call 56
                  refine HSUM.out.mono ?_
                  rintro e w8 ⟨rfl, hb8⟩
                  have hs8 := (HH8.out.below hb8 HH8.out.lt).c4
                  have HMV9 := Lib.hid (HMV8.out.trans (Mv.below hb8))
                  clear hb8
                  dsimp only
                  refine hK _ _ ?_
                  clear hK K
                  try simp only [Act.put, List.setIfInBounds_toArray, List.set_cons_zero, List.set_cons_succ]
                  refine wpAnyIn_take (i := 5) (v := ?_) rfl rfl (by kernel_rfl) (by kernel_rfl) (by kernel_rfl) (fun _ _ _ h => h) ⟨Or.inl ⟨by rfl, ?_⟩, fun _ => rfl⟩ ?_
                  rotate_left
                  · (intro w; go_simp <;> with_reducible rfl)
                  try simp only [Act.put, List.setIfInBounds_toArray, List.set_cons_zero, List.set_cons_succ]
                  refine wpAnyIn_take (i := 6) (v := ?_) rfl rfl (by kernel_rfl) (by kernel_rfl) (by kernel_rfl) (fun _ _ _ h => h) ⟨Or.inl ⟨by rfl, ?_⟩, fun _ => rfl⟩ ?_
                  rotate_left
                  · (intro w; go_simp <;> with_reducible rfl)
                  try simp only [Act.put, List.setIfInBounds_toArray, List.set_cons_zero, List.set_cons_succ]
                  refine wpAnyIn_take (i := 7) (v := undef) rfl rfl (by kernel_rfl) (by kernel_rfl) (by kernel_rfl) (fun _ _ _ h => h) ⟨Or.inr ⟨by rfl, rfl⟩, fun _ => rfl⟩ ?_
                  try simp only [Act.put, List.setIfInBounds_toArray, List.set_cons_zero, List.set_cons_succ]
                  refine wpAnyIn_take (i := 8) (v := undef) rfl rfl (by kernel_rfl) (by kernel_rfl) (by kernel_rfl) (fun _ _ _ h => h) ⟨Or.inr ⟨by rfl, rfl⟩, fun _ => rfl⟩ ?_
                  try simp only [Act.put, List.setIfInBounds_toArray, List.set_cons_zero, List.set_cons_succ]
                  refine wpAnyIn_take (i := 9) (v := undef) rfl rfl (by kernel_rfl) (by kernel_rfl) (by kernel_rfl) (fun _ _ _ h => h) ⟨Or.inr ⟨by rfl, rfl⟩, fun _ => rfl⟩ ?_
                  try simp only [Act.put, List.setIfInBounds_toArray, List.set_cons_zero, List.set_cons_succ]
                  refine wpAnyIn_ready (rs := [10]) (by kernel_rfl) (by simp) ?_
                  refine AllReadyIn.cons rfl (fun K hK => ?_) AllReadyIn.nil
                  go_simp
                  refine ⟨trivial, ?_⟩
                  refine hK _ _ ?_
                  clear hK K
                  try simp only [Act.put, List.setIfInBounds_toArray, List.set_cons_zero, List.set_cons_succ]
                  refine wpAnyIn_take (i := 11) (v := undef) rfl rfl (by kernel_rfl) (by kernel_rfl) (by kernel_rfl) (fun _ _ _ h => h) ⟨Or.inr ⟨by rfl, rfl⟩, fun _ => rfl⟩ ?_
                  try simp only [Act.put, List.setIfInBounds_toArray, List.set_cons_zero, List.set_cons_succ]
                  refine wpAnyIn_take (i := 12) (v := undef) rfl rfl (by kernel_rfl) (by kernel_rfl) (by kernel_rfl) (fun _ _ _ h => h) ⟨Or.inr ⟨by rfl, rfl⟩, fun _ => rfl⟩ ?_
                  try simp only [Act.put, List.setIfInBounds_toArray, List.set_cons_zero, List.set_cons_succ]
                  refine wpAnyIn_take (i := 13) (v := ?_) rfl rfl (by kernel_rfl) (by kernel_rfl) (by kernel_rfl) (fun _ _ _ h => h) ⟨Or.inl ⟨by rfl, ?_⟩, fun _ => rfl⟩ ?_
                  rotate_left
                  · (intro w; go_simp <;> with_reducible rfl)
                  try simp only [Act.put, List.setIfInBounds_toArray, List.set_cons_zero, List.set_cons_succ]
                  refine wpAnyIn_done (by kernel_rfl) ?_ _
                  try simp only [Exit.inBlock]
                  have hYe : Y = pre := by rw [HYK1.out]; simp only [seqP, show st k = .stop from by rw [HSTK.out, if_neg (by simp), if_neg HNB.out, if_neg (by simp), if_pos (by rw [← HSQ.out]; exact b7)], List.append_nil]
                  have hJn := HJ0.out pre _ _ HJR.out HMV9.out
                  have HYE := Lib.hid hYe
                  have HJN := Lib.hid hJn
                  clear hYe hJn
                  gi_wp2
                  refine bodyPost_ret (results_none rfl _ _ _) rfl ?_
                  first | exact ⟨⟨_, rfl⟩, .inl ⟨_, rfl, by rw [HYE.out]; exact HJN.out⟩⟩ | exact ⟨⟨_, rfl⟩, .inl (by rw [HYE.out]; exact HJN.out)⟩
              · have B7 := Lib.hid (Classical.not_not.1 b7)
                have q7 : ((sq : Int) != (h.sum : Int)) = false := by rw [B7.out]; simp
                have HYG := Lib.hid (show Y = (pre ++ [((⟨h.tag, h.epoch, (h.place : Int), s2⟩ : En), (0 : Int))]) ++ seqP st (k + 1) (u - k - 1) from by
                  rw [HYK1.out]
                  simp only [seqP, show st k = .ok ⟨h.tag, h.epoch, (h.place : Int), s2⟩ from by rw [HSTK.out, if_neg (by simp), if_neg HNB.out, if_neg (by simp), if_neg (by rw [← HSQ.out]; exact fun hx => hx B7.out)], List.append_assoc, List.singleton_append])
                have HLEN := Lib.hid (show pre.length < Y.length from by rw [HYG.out]; simp)
                have hent := fun w => (callsIn_wide (n := n - 1)).2 (uentry_any h.tag h.epoch h.num h.place h.sum s2 w)
                unfold headV En.val at hent
                dsimp only at hent
                have HENT := Lib.hid hent
                clear hent b7
                gi_wp2_with fail
                refine wpIn_region_any (by assumption) ?_
                change wpAnyIn _ _ _ _ _ _ _ _ _ (World.drew _)
                refine wpAnyIn_take (i := 0) (v := ?_) rfl rfl (by kernel_rfl) (by kernel_rfl) (by kernel_rfl) (fun _ _ _ h => h) ⟨Or.inl ⟨by rfl, ?_⟩, fun _ => rfl⟩ ?_
                rotate_left
                · (intro w; go_simp <;> with_reducible rfl)
                try simp only [Act.put, List.setIfInBounds_toArray, List.set_cons_zero, List.set_cons_succ]
                refine wpAnyIn_take (i := 3) (v := ?_) rfl rfl (by kernel_rfl) (by kernel_rfl) (by kernel_rfl) (fun _ _ _ h => h) ⟨Or.inl ⟨by rfl, ?_⟩, fun _ => rfl⟩ ?_
                rotate_left
                · (intro w; go_simp <;> with_reducible rfl)
                try simp only [Act.put, List.setIfInBounds_toArray, List.set_cons_zero, List.set_cons_succ]
                refine wpAnyIn_ready (rs := [1, 4]) (by kernel_rfl) (by simp) ?_
                refine AllReadyIn.cons rfl (fun K hK => ?_) (AllReadyIn.cons rfl (fun K hK => ?_) AllReadyIn.nil)
                · go_simp
                  refine hK _ _ ?_
                  clear hK K
                  try simp only [Act.put, List.setIfInBounds_toArray, List.set_cons_zero, List.set_cons_succ]
                  refine wpAnyIn_ready (rs := [2, 4]) (by kernel_rfl) (by simp) ?_
                  refine AllReadyIn.cons rfl (fun K hK => ?_) (AllReadyIn.cons rfl (fun K hK => ?_) AllReadyIn.nil)
                  · go_simp
                    refine ⟨trivial, ?_⟩
                    gi_at_call 56
                    refine HSUM.out.mono ?_
                    rintro e w8 ⟨rfl, hb8⟩
                    have HH9 := Lib.hid (HH8.out.below hb8 HH8.out.lt)
                    have hs8 := HH9.out.c4
                    have HMV9 := Lib.hid (HMV8.out.trans (Mv.below hb8))
                    have HE9 := Lib.hid (HE8.out.kept fun k hk => hb8.block k (HE8.out.lt k hk))
                    have HF9 := Lib.hid (HF8.out.below hb8 HF8.out.lt)
                    clear hb8
                    dsimp only
                    refine hK _ _ ?_
                    clear hK K
                    try simp only [Act.put, List.setIfInBounds_toArray, List.set_cons_zero, List.set_cons_succ]
                    refine wpAnyIn_ready (rs := [4]) (by kernel_rfl) (by simp) ?_
                    refine AllReadyIn.cons rfl (fun K hK => ?_) AllReadyIn.nil
                    go_simp
                    refine hK _ _ ?_
                    clear hK K
                    try simp only [Act.put, List.setIfInBounds_toArray, List.set_cons_zero, List.set_cons_succ]
                    refine wpAnyIn_take (i := 5) (v := ?_) rfl rfl (by kernel_rfl) (by kernel_rfl) (by kernel_rfl) (fun _ _ _ h => h) ⟨Or.inl ⟨by rfl, ?_⟩, fun _ => rfl⟩ ?_
                    rotate_left
                    · (intro w; go_simp <;> with_reducible rfl)
                    try simp only [Act.put, List.setIfInBounds_toArray, List.set_cons_zero, List.set_cons_succ]
                    refine wpAnyIn_take (i := 6) (v := ?_) rfl rfl (by kernel_rfl) (by kernel_rfl) (by kernel_rfl) (fun _ _ _ h => h) ⟨Or.inl ⟨by rfl, ?_⟩, fun _ => rfl⟩ ?_
                    rotate_left
                    · (intro w; go_simp <;> with_reducible rfl)
                    try simp only [Act.put, List.setIfInBounds_toArray, List.set_cons_zero, List.set_cons_succ]
                    refine wpAnyIn_take (i := 7) (v := ?_) rfl rfl (by kernel_rfl) (by kernel_rfl) (by kernel_rfl) (fun _ _ _ h => h) ⟨Or.inl ⟨by rfl, ?_⟩, fun _ => rfl⟩ ?_
                    rotate_left
                    · (intro w; go_simp <;> with_reducible rfl)
                    try simp only [Act.put, List.setIfInBounds_toArray, List.set_cons_zero, List.set_cons_succ]
                    refine wpAnyIn_take (i := 9) (v := ?_) rfl rfl (by kernel_rfl) (by kernel_rfl) (by kernel_rfl) (fun _ _ _ h => h) ⟨Or.inl ⟨by rfl, ?_⟩, fun _ => rfl⟩ ?_
                    rotate_left
                    · (intro w; go_simp <;> with_reducible rfl)
                    try simp only [Act.put, List.setIfInBounds_toArray, List.set_cons_zero, List.set_cons_succ]
                    have hc0 := HH9.out.c0
                    have hc1' := HH9.out.c1
                    have hc2' := HH9.out.c2
                    have hc3 := HH9.out.c3
                    refine wpAnyIn_ready (rs := [8]) (by kernel_rfl) (by simp) ?_
                    refine AllReadyIn.cons rfl (fun K hK => ?_) AllReadyIn.nil
                    go_simp
                    refine hK _ _ ?_
                    clear hK K
                    try simp only [Act.put, List.setIfInBounds_toArray, List.set_cons_zero, List.set_cons_succ]
                    refine wpAnyIn_ready (rs := [10]) (by kernel_rfl) (by simp) ?_
                    refine AllReadyIn.cons rfl (fun K hK => ?_) AllReadyIn.nil
                    go_simp
                    refine ⟨trivial, ?_⟩
                    gi_at_call 60
                    refine (HENT.out _).mono ?_
                    rintro e w9 ⟨rfl, hb9⟩
                    have HMV10 := Lib.hid (HMV9.out.trans (Mv.below hb9))
                    have HE10 := Lib.hid (HE9.out.kept fun k hk => hb9.block k (HE9.out.lt k hk))
                    have HF10 := Lib.hid (HF9.out.below hb9 HF9.out.lt)
                    clear hb9
                    dsimp only
                    refine hK _ _ ?_
                    clear hK K
                    try simp only [Act.put, List.setIfInBounds_toArray, List.set_cons_zero, List.set_cons_succ]
                    obtain ⟨fn, tmps, assign, body, hy, hR⟩ := HY.out pre (⟨h.tag, h.epoch, (h.place : Int), s2⟩, 0) w9 (HJ0.out pre _ _ HJR.out HMV10.out) HLEN.out
                    rw [show encE ((⟨h.tag, h.epoch, (h.place : Int), s2⟩ : En), (0 : Int)) = #[.agg #[.int .u64 (h.tag : Int), .int .u64 (h.epoch : Int), .int .i64 (h.place : Int), .string s2], .int .i64 0] from rfl] at hy
                    have HRY := Lib.hid hR
                    clear hR
                    refine wpAnyIn_ready (rs := [11]) (by kernel_rfl) (by simp) ?_
                    refine AllReadyIn.cons rfl (fun K hK => ?_) AllReadyIn.nil
                    go_simp
                    refine HRY.out.mono ?_
                    rintro e W3 hd
                    obtain ⟨b, rfl, hd⟩ : ∃ b : Bool, e = .returned (.bool b) ∧ ((b = true ∧ J (pre ++ [((⟨h.tag, h.epoch, (h.place : Int), s2⟩ : En), (0 : Int))]) W3 ∧ KpE Bd Bg Be p v1 v2 w9 W3) ∨ (b = false ∧ Jx (pre ++ [((⟨h.tag, h.epoch, (h.place : Int), s2⟩ : En), (0 : Int))]) W3)) := by
                      rcases hd with ⟨rfl, h1, h2⟩ | ⟨rfl, h1⟩
                      · exact ⟨true, rfl, .inl ⟨rfl, h1, h2⟩⟩
                      · exact ⟨false, rfl, .inr ⟨rfl, h1⟩⟩
                    have HD3 := Lib.hid hd
                    clear hd hy
                    dsimp only
                    refine hK _ _ ?_
                    clear hK K
                    try simp only [Act.put, List.setIfInBounds_toArray, List.set_cons_zero, List.set_cons_succ]
                    refine wpAnyIn_take (i := 12) (v := ?_) rfl rfl (by kernel_rfl) (by kernel_rfl) (by kernel_rfl) (fun _ _ _ h => h) ⟨Or.inl ⟨by rfl, ?_⟩, fun _ => rfl⟩ ?_
                    rotate_left
                    · (intro w; go_simp <;> with_reducible rfl)
                    try simp only [Act.put, List.setIfInBounds_toArray, List.set_cons_zero, List.set_cons_succ]
                    refine wpAnyIn_take (i := 13) (v := ?_) rfl rfl (by kernel_rfl) (by kernel_rfl) (by kernel_rfl) (fun _ _ _ h => h) ⟨Or.inl ⟨by rfl, ?_⟩, fun _ => rfl⟩ ?_
                    rotate_left
                    · (intro w; go_simp <;> with_reducible rfl)
                    try simp only [Act.put, List.setIfInBounds_toArray, List.set_cons_zero, List.set_cons_succ]
                    refine wpAnyIn_done (by kernel_rfl) ?_ _
                    try simp only [Exit.inBlock]
                    have HPL1 := Lib.hid (show (pre ++ [((⟨h.tag, h.epoch, (h.place : Int), s2⟩ : En), (0 : Int))]).length = k + 1 from by simp [HPL.out])
                    have wr1 : IntKind.i64.wrap ((k : Int) + 1) = (k : Int) + 1 := IntWalk.i64_in _ (by omega)
                    clear hc0 hc1' hc2' hc3 hs6 hs7 hs8 hcv
                    cases b with
                    | true =>
                      obtain ⟨hJ3, hk3⟩ : J (pre ++ [((⟨h.tag, h.epoch, (h.place : Int), s2⟩ : En), (0 : Int))]) W3 ∧ KpE Bd Bg Be p v1 v2 w9 W3 := by
                        rcases HD3.out with ⟨_, h1, h2⟩ | ⟨h1, _⟩
                        · exact ⟨h1, h2⟩
                        · cases h1
                      have HE11 := Lib.hid (HE10.out.kept fun k' hk' => hk3.2.1 k' hk' (HE10.out.lt k' hk'))
                      have HF11 := Lib.hid (show HBox W3 n0 fd from hk3.2.2 n0 _ _ HF10.out)
                      have HJ3 := Lib.hid hJ3
                      clear hJ3 hk3 HD3
                      gi_wp2
                      go_roundw
                      case rel => exact ⟨k + 1, _, fd, by omega, by go_num, by rw [HYG.out, show u - (k + 1) = u - k - 1 from by omega], HPL1.out, HJ3.out, HE11.out, HF11.out, fun _ => HFDD.out⟩
                      case measure => simp [intOf]; omega
                    | false =>
                      have hJ3 : Jx (pre ++ [((⟨h.tag, h.epoch, (h.place : Int), s2⟩ : En), (0 : Int))]) W3 := by
                        rcases HD3.out with ⟨h1, _⟩ | ⟨_, h1⟩
                        · cases h1
                        · exact h1
                      have HJ3 := Lib.hid hJ3
                      clear hJ3 HD3
                      gi_wp2
                      refine bodyPost_ret (results_none rfl _ _ _) rfl ?_
                      exact ⟨⟨_, rfl⟩, .inr ⟨_, ⟨k + 1, by rw [HYG.out, List.length_append, HPL1.out]; omega, seqP_split st _ HYG.out HPL1.out⟩, HJ3.out⟩⟩
                  · go_simp
                    refine hK _ _ ?_
                    clear hK K
                    try simp only [Act.put, List.setIfInBounds_toArray, List.set_cons_zero, List.set_cons_succ]
                    refine wpAnyIn_ready (rs := [2]) (by kernel_rfl) (by simp) ?_
                    refine AllReadyIn.cons rfl (fun K hK => ?_) AllReadyIn.nil
                    go_simp
                    refine ⟨trivial, ?_⟩
                    gi_at_call 56
                    refine HSUM.out.mono ?_
                    rintro e w8 ⟨rfl, hb8⟩
                    have HH9 := Lib.hid (HH8.out.below hb8 HH8.out.lt)
                    have hs8 := HH9.out.c4
                    have HMV9 := Lib.hid (HMV8.out.trans (Mv.below hb8))
                    have HE9 := Lib.hid (HE8.out.kept fun k hk => hb8.block k (HE8.out.lt k hk))
                    have HF9 := Lib.hid (HF8.out.below hb8 HF8.out.lt)
                    clear hb8
                    dsimp only
                    refine hK _ _ ?_
                    clear hK K
                    try simp only [Act.put, List.setIfInBounds_toArray, List.set_cons_zero, List.set_cons_succ]
                    refine wpAnyIn_take (i := 5) (v := ?_) rfl rfl (by kernel_rfl) (by kernel_rfl) (by kernel_rfl) (fun _ _ _ h => h) ⟨Or.inl ⟨by rfl, ?_⟩, fun _ => rfl⟩ ?_
                    rotate_left
                    · (intro w; go_simp <;> with_reducible rfl)
                    try simp only [Act.put, List.setIfInBounds_toArray, List.set_cons_zero, List.set_cons_succ]
                    refine wpAnyIn_take (i := 6) (v := ?_) rfl rfl (by kernel_rfl) (by kernel_rfl) (by kernel_rfl) (fun _ _ _ h => h) ⟨Or.inl ⟨by rfl, ?_⟩, fun _ => rfl⟩ ?_
                    rotate_left
                    · (intro w; go_simp <;> with_reducible rfl)
                    try simp only [Act.put, List.setIfInBounds_toArray, List.set_cons_zero, List.set_cons_succ]
                    refine wpAnyIn_take (i := 7) (v := ?_) rfl rfl (by kernel_rfl) (by kernel_rfl) (by kernel_rfl) (fun _ _ _ h => h) ⟨Or.inl ⟨by rfl, ?_⟩, fun _ => rfl⟩ ?_
                    rotate_left
                    · (intro w; go_simp <;> with_reducible rfl)
                    try simp only [Act.put, List.setIfInBounds_toArray, List.set_cons_zero, List.set_cons_succ]
                    refine wpAnyIn_take (i := 9) (v := ?_) rfl rfl (by kernel_rfl) (by kernel_rfl) (by kernel_rfl) (fun _ _ _ h => h) ⟨Or.inl ⟨by rfl, ?_⟩, fun _ => rfl⟩ ?_
                    rotate_left
                    · (intro w; go_simp <;> with_reducible rfl)
                    try simp only [Act.put, List.setIfInBounds_toArray, List.set_cons_zero, List.set_cons_succ]
                    have hc0 := HH9.out.c0
                    have hc1' := HH9.out.c1
                    have hc2' := HH9.out.c2
                    have hc3 := HH9.out.c3
                    refine wpAnyIn_ready (rs := [8]) (by kernel_rfl) (by simp) ?_
                    refine AllReadyIn.cons rfl (fun K hK => ?_) AllReadyIn.nil
                    go_simp
                    refine hK _ _ ?_
                    clear hK K
                    try simp only [Act.put, List.setIfInBounds_toArray, List.set_cons_zero, List.set_cons_succ]
                    refine wpAnyIn_ready (rs := [10]) (by kernel_rfl) (by simp) ?_
                    refine AllReadyIn.cons rfl (fun K hK => ?_) AllReadyIn.nil
                    go_simp
                    refine ⟨trivial, ?_⟩
                    gi_at_call 60
                    refine (HENT.out _).mono ?_
                    rintro e w9 ⟨rfl, hb9⟩
                    have HMV10 := Lib.hid (HMV9.out.trans (Mv.below hb9))
                    have HE10 := Lib.hid (HE9.out.kept fun k hk => hb9.block k (HE9.out.lt k hk))
                    have HF10 := Lib.hid (HF9.out.below hb9 HF9.out.lt)
                    clear hb9
                    dsimp only
                    refine hK _ _ ?_
                    clear hK K
                    try simp only [Act.put, List.setIfInBounds_toArray, List.set_cons_zero, List.set_cons_succ]
                    obtain ⟨fn, tmps, assign, body, hy, hR⟩ := HY.out pre (⟨h.tag, h.epoch, (h.place : Int), s2⟩, 0) w9 (HJ0.out pre _ _ HJR.out HMV10.out) HLEN.out
                    rw [show encE ((⟨h.tag, h.epoch, (h.place : Int), s2⟩ : En), (0 : Int)) = #[.agg #[.int .u64 (h.tag : Int), .int .u64 (h.epoch : Int), .int .i64 (h.place : Int), .string s2], .int .i64 0] from rfl] at hy
                    have HRY := Lib.hid hR
                    clear hR
                    refine wpAnyIn_ready (rs := [11]) (by kernel_rfl) (by simp) ?_
                    refine AllReadyIn.cons rfl (fun K hK => ?_) AllReadyIn.nil
                    go_simp
                    refine HRY.out.mono ?_
                    rintro e W3 hd
                    obtain ⟨b, rfl, hd⟩ : ∃ b : Bool, e = .returned (.bool b) ∧ ((b = true ∧ J (pre ++ [((⟨h.tag, h.epoch, (h.place : Int), s2⟩ : En), (0 : Int))]) W3 ∧ KpE Bd Bg Be p v1 v2 w9 W3) ∨ (b = false ∧ Jx (pre ++ [((⟨h.tag, h.epoch, (h.place : Int), s2⟩ : En), (0 : Int))]) W3)) := by
                      rcases hd with ⟨rfl, h1, h2⟩ | ⟨rfl, h1⟩
                      · exact ⟨true, rfl, .inl ⟨rfl, h1, h2⟩⟩
                      · exact ⟨false, rfl, .inr ⟨rfl, h1⟩⟩
                    have HD3 := Lib.hid hd
                    clear hd hy
                    dsimp only
                    refine hK _ _ ?_
                    clear hK K
                    try simp only [Act.put, List.setIfInBounds_toArray, List.set_cons_zero, List.set_cons_succ]
                    refine wpAnyIn_take (i := 12) (v := ?_) rfl rfl (by kernel_rfl) (by kernel_rfl) (by kernel_rfl) (fun _ _ _ h => h) ⟨Or.inl ⟨by rfl, ?_⟩, fun _ => rfl⟩ ?_
                    rotate_left
                    · (intro w; go_simp <;> with_reducible rfl)
                    try simp only [Act.put, List.setIfInBounds_toArray, List.set_cons_zero, List.set_cons_succ]
                    refine wpAnyIn_take (i := 13) (v := ?_) rfl rfl (by kernel_rfl) (by kernel_rfl) (by kernel_rfl) (fun _ _ _ h => h) ⟨Or.inl ⟨by rfl, ?_⟩, fun _ => rfl⟩ ?_
                    rotate_left
                    · (intro w; go_simp <;> with_reducible rfl)
                    try simp only [Act.put, List.setIfInBounds_toArray, List.set_cons_zero, List.set_cons_succ]
                    refine wpAnyIn_done (by kernel_rfl) ?_ _
                    try simp only [Exit.inBlock]
                    have HPL1 := Lib.hid (show (pre ++ [((⟨h.tag, h.epoch, (h.place : Int), s2⟩ : En), (0 : Int))]).length = k + 1 from by simp [HPL.out])
                    have wr1 : IntKind.i64.wrap ((k : Int) + 1) = (k : Int) + 1 := IntWalk.i64_in _ (by omega)
                    clear hc0 hc1' hc2' hc3 hs6 hs7 hs8 hcv
                    cases b with
                    | true =>
                      obtain ⟨hJ3, hk3⟩ : J (pre ++ [((⟨h.tag, h.epoch, (h.place : Int), s2⟩ : En), (0 : Int))]) W3 ∧ KpE Bd Bg Be p v1 v2 w9 W3 := by
                        rcases HD3.out with ⟨_, h1, h2⟩ | ⟨h1, _⟩
                        · exact ⟨h1, h2⟩
                        · cases h1
                      have HE11 := Lib.hid (HE10.out.kept fun k' hk' => hk3.2.1 k' hk' (HE10.out.lt k' hk'))
                      have HF11 := Lib.hid (show HBox W3 n0 fd from hk3.2.2 n0 _ _ HF10.out)
                      have HJ3 := Lib.hid hJ3
                      clear hJ3 hk3 HD3
                      gi_wp2
                      go_roundw
                      case rel => exact ⟨k + 1, _, fd, by omega, by go_num, by rw [HYG.out, show u - (k + 1) = u - k - 1 from by omega], HPL1.out, HJ3.out, HE11.out, HF11.out, fun _ => HFDD.out⟩
                      case measure => simp [intOf]; omega
                    | false =>
                      have hJ3 : Jx (pre ++ [((⟨h.tag, h.epoch, (h.place : Int), s2⟩ : En), (0 : Int))]) W3 := by
                        rcases HD3.out with ⟨h1, _⟩ | ⟨_, h1⟩
                        · cases h1
                        · exact h1
                      have HJ3 := Lib.hid hJ3
                      clear hJ3 HD3
                      gi_wp2
                      refine bodyPost_ret (results_none rfl _ _ _) rfl ?_
                      exact ⟨⟨_, rfl⟩, .inr ⟨_, ⟨k + 1, by rw [HYG.out, List.length_append, HPL1.out]; omega, seqP_split st _ HYG.out HPL1.out⟩, HJ3.out⟩⟩
                · go_simp
                  refine hK _ _ ?_
                  clear hK K
                  try simp only [Act.put, List.setIfInBounds_toArray, List.set_cons_zero, List.set_cons_succ]
                  refine wpAnyIn_ready (rs := [1]) (by kernel_rfl) (by simp) ?_
                  refine AllReadyIn.cons rfl (fun K hK => ?_) AllReadyIn.nil
                  go_simp
                  refine hK _ _ ?_
                  clear hK K
                  try simp only [Act.put, List.setIfInBounds_toArray, List.set_cons_zero, List.set_cons_succ]
                  refine wpAnyIn_ready (rs := [2]) (by kernel_rfl) (by simp) ?_
                  refine AllReadyIn.cons rfl (fun K hK => ?_) AllReadyIn.nil
                  go_simp
                  refine ⟨trivial, ?_⟩
                  gi_at_call 56
                  refine HSUM.out.mono ?_
                  rintro e w8 ⟨rfl, hb8⟩
                  have HH9 := Lib.hid (HH8.out.below hb8 HH8.out.lt)
                  have hs8 := HH9.out.c4
                  have HMV9 := Lib.hid (HMV8.out.trans (Mv.below hb8))
                  have HE9 := Lib.hid (HE8.out.kept fun k hk => hb8.block k (HE8.out.lt k hk))
                  have HF9 := Lib.hid (HF8.out.below hb8 HF8.out.lt)
                  clear hb8
                  dsimp only
                  refine hK _ _ ?_
                  clear hK K
                  try simp only [Act.put, List.setIfInBounds_toArray, List.set_cons_zero, List.set_cons_succ]
                  refine wpAnyIn_take (i := 5) (v := ?_) rfl rfl (by kernel_rfl) (by kernel_rfl) (by kernel_rfl) (fun _ _ _ h => h) ⟨Or.inl ⟨by rfl, ?_⟩, fun _ => rfl⟩ ?_
                  rotate_left
                  · (intro w; go_simp <;> with_reducible rfl)
                  try simp only [Act.put, List.setIfInBounds_toArray, List.set_cons_zero, List.set_cons_succ]
                  refine wpAnyIn_take (i := 6) (v := ?_) rfl rfl (by kernel_rfl) (by kernel_rfl) (by kernel_rfl) (fun _ _ _ h => h) ⟨Or.inl ⟨by rfl, ?_⟩, fun _ => rfl⟩ ?_
                  rotate_left
                  · (intro w; go_simp <;> with_reducible rfl)
                  try simp only [Act.put, List.setIfInBounds_toArray, List.set_cons_zero, List.set_cons_succ]
                  refine wpAnyIn_take (i := 7) (v := ?_) rfl rfl (by kernel_rfl) (by kernel_rfl) (by kernel_rfl) (fun _ _ _ h => h) ⟨Or.inl ⟨by rfl, ?_⟩, fun _ => rfl⟩ ?_
                  rotate_left
                  · (intro w; go_simp <;> with_reducible rfl)
                  try simp only [Act.put, List.setIfInBounds_toArray, List.set_cons_zero, List.set_cons_succ]
                  refine wpAnyIn_take (i := 9) (v := ?_) rfl rfl (by kernel_rfl) (by kernel_rfl) (by kernel_rfl) (fun _ _ _ h => h) ⟨Or.inl ⟨by rfl, ?_⟩, fun _ => rfl⟩ ?_
                  rotate_left
                  · (intro w; go_simp <;> with_reducible rfl)
                  try simp only [Act.put, List.setIfInBounds_toArray, List.set_cons_zero, List.set_cons_succ]
                  have hc0 := HH9.out.c0
                  have hc1' := HH9.out.c1
                  have hc2' := HH9.out.c2
                  have hc3 := HH9.out.c3
                  refine wpAnyIn_ready (rs := [8]) (by kernel_rfl) (by simp) ?_
                  refine AllReadyIn.cons rfl (fun K hK => ?_) AllReadyIn.nil
                  go_simp
                  refine hK _ _ ?_
                  clear hK K
                  try simp only [Act.put, List.setIfInBounds_toArray, List.set_cons_zero, List.set_cons_succ]
                  refine wpAnyIn_ready (rs := [10]) (by kernel_rfl) (by simp) ?_
                  refine AllReadyIn.cons rfl (fun K hK => ?_) AllReadyIn.nil
                  go_simp
                  refine ⟨trivial, ?_⟩
                  gi_at_call 60
                  refine (HENT.out _).mono ?_
                  rintro e w9 ⟨rfl, hb9⟩
                  have HMV10 := Lib.hid (HMV9.out.trans (Mv.below hb9))
                  have HE10 := Lib.hid (HE9.out.kept fun k hk => hb9.block k (HE9.out.lt k hk))
                  have HF10 := Lib.hid (HF9.out.below hb9 HF9.out.lt)
                  clear hb9
                  dsimp only
                  refine hK _ _ ?_
                  clear hK K
                  try simp only [Act.put, List.setIfInBounds_toArray, List.set_cons_zero, List.set_cons_succ]
                  obtain ⟨fn, tmps, assign, body, hy, hR⟩ := HY.out pre (⟨h.tag, h.epoch, (h.place : Int), s2⟩, 0) w9 (HJ0.out pre _ _ HJR.out HMV10.out) HLEN.out
                  rw [show encE ((⟨h.tag, h.epoch, (h.place : Int), s2⟩ : En), (0 : Int)) = #[.agg #[.int .u64 (h.tag : Int), .int .u64 (h.epoch : Int), .int .i64 (h.place : Int), .string s2], .int .i64 0] from rfl] at hy
                  have HRY := Lib.hid hR
                  clear hR
                  refine wpAnyIn_ready (rs := [11]) (by kernel_rfl) (by simp) ?_
                  refine AllReadyIn.cons rfl (fun K hK => ?_) AllReadyIn.nil
                  go_simp
                  refine HRY.out.mono ?_
                  rintro e W3 hd
                  obtain ⟨b, rfl, hd⟩ : ∃ b : Bool, e = .returned (.bool b) ∧ ((b = true ∧ J (pre ++ [((⟨h.tag, h.epoch, (h.place : Int), s2⟩ : En), (0 : Int))]) W3 ∧ KpE Bd Bg Be p v1 v2 w9 W3) ∨ (b = false ∧ Jx (pre ++ [((⟨h.tag, h.epoch, (h.place : Int), s2⟩ : En), (0 : Int))]) W3)) := by
                    rcases hd with ⟨rfl, h1, h2⟩ | ⟨rfl, h1⟩
                    · exact ⟨true, rfl, .inl ⟨rfl, h1, h2⟩⟩
                    · exact ⟨false, rfl, .inr ⟨rfl, h1⟩⟩
                  have HD3 := Lib.hid hd
                  clear hd hy
                  dsimp only
                  refine hK _ _ ?_
                  clear hK K
                  try simp only [Act.put, List.setIfInBounds_toArray, List.set_cons_zero, List.set_cons_succ]
                  refine wpAnyIn_take (i := 12) (v := ?_) rfl rfl (by kernel_rfl) (by kernel_rfl) (by kernel_rfl) (fun _ _ _ h => h) ⟨Or.inl ⟨by rfl, ?_⟩, fun _ => rfl⟩ ?_
                  rotate_left
                  · (intro w; go_simp <;> with_reducible rfl)
                  try simp only [Act.put, List.setIfInBounds_toArray, List.set_cons_zero, List.set_cons_succ]
                  refine wpAnyIn_take (i := 13) (v := ?_) rfl rfl (by kernel_rfl) (by kernel_rfl) (by kernel_rfl) (fun _ _ _ h => h) ⟨Or.inl ⟨by rfl, ?_⟩, fun _ => rfl⟩ ?_
                  rotate_left
                  · (intro w; go_simp <;> with_reducible rfl)
                  try simp only [Act.put, List.setIfInBounds_toArray, List.set_cons_zero, List.set_cons_succ]
                  refine wpAnyIn_done (by kernel_rfl) ?_ _
                  try simp only [Exit.inBlock]
                  have HPL1 := Lib.hid (show (pre ++ [((⟨h.tag, h.epoch, (h.place : Int), s2⟩ : En), (0 : Int))]).length = k + 1 from by simp [HPL.out])
                  have wr1 : IntKind.i64.wrap ((k : Int) + 1) = (k : Int) + 1 := IntWalk.i64_in _ (by omega)
                  clear hc0 hc1' hc2' hc3 hs6 hs7 hs8 hcv
                  cases b with
                  | true =>
                    obtain ⟨hJ3, hk3⟩ : J (pre ++ [((⟨h.tag, h.epoch, (h.place : Int), s2⟩ : En), (0 : Int))]) W3 ∧ KpE Bd Bg Be p v1 v2 w9 W3 := by
                      rcases HD3.out with ⟨_, h1, h2⟩ | ⟨h1, _⟩
                      · exact ⟨h1, h2⟩
                      · cases h1
                    have HE11 := Lib.hid (HE10.out.kept fun k' hk' => hk3.2.1 k' hk' (HE10.out.lt k' hk'))
                    have HF11 := Lib.hid (show HBox W3 n0 fd from hk3.2.2 n0 _ _ HF10.out)
                    have HJ3 := Lib.hid hJ3
                    clear hJ3 hk3 HD3
                    gi_wp2
                    go_roundw
                    case rel => exact ⟨k + 1, _, fd, by omega, by go_num, by rw [HYG.out, show u - (k + 1) = u - k - 1 from by omega], HPL1.out, HJ3.out, HE11.out, HF11.out, fun _ => HFDD.out⟩
                    case measure => simp [intOf]; omega
                  | false =>
                    have hJ3 : Jx (pre ++ [((⟨h.tag, h.epoch, (h.place : Int), s2⟩ : En), (0 : Int))]) W3 := by
                      rcases HD3.out with ⟨h1, _⟩ | ⟨_, h1⟩
                      · cases h1
                      · exact h1
                    have HJ3 := Lib.hid hJ3
                    clear hJ3 HD3
                    gi_wp2
                    refine bodyPost_ret (results_none rfl _ _ _) rfl ?_
                    exact ⟨⟨_, rfl⟩, .inr ⟨_, ⟨k + 1, by rw [HYG.out, List.length_append, HPL1.out]; omega, seqP_split st _ HYG.out HPL1.out⟩, HJ3.out⟩⟩
            · have q6 : (c2 != 0) = true := by simpa using hc2
              have hYe : Y = pre ++ [(noEn, c2)] := by rw [HYK1.out]; simp only [seqP, show st k = .err c2 from by rw [HSTK.out, if_neg (by simp), if_neg HNB.out, if_pos hc2]]
              have hJn := HJ0.out pre _ _ HJR.out HMV7.out
              obtain ⟨fn, tmps, assign, body, hy, hR⟩ := HY.out pre (noEn, c2) _ hJn (by rw [hYe]; simp)
              rw [show encE (noEn, c2) = #[.agg #[.int .u64 0, .int .u64 0, .int .i64 0, .string ⟨#[]⟩], .int .i64 c2] from rfl] at hy
              have HR := Lib.hid hR
              have HYE := Lib.hid hYe
              clear hR hJn hYe
              gi_wp2
              refine HR.out.mono ?_
              rintro e W3 (⟨rfl, hJ3, hk3⟩ | ⟨rfl, hJx3⟩)
              · clear hy hk3
                gi_wp2
                refine bodyPost_ret (results_none rfl _ _ _) rfl ?_
                exact ⟨⟨_, rfl⟩, .inl ⟨_, HYE.out.symm, hJ3⟩⟩
              · clear hy
                gi_wp2
                refine bodyPost_ret (results_none rfl _ _ _) rfl ?_
                exact ⟨⟨_, rfl⟩, .inr ⟨_, ⟨Y.length, Nat.le_refl _, by rw [List.take_length]; exact HYE.out.symm⟩, hJx3⟩⟩
      · have q1 : (c1 != 0) = true := by simpa using hc1
        have hYe : Y = pre ++ [(noEn, c1)] := by rw [HYK1.out]; simp only [seqP, show st k = .err c1 from by rw [HSTK.out, if_pos hc1]]
        have hJn := HJ0.out pre _ _ HJR.out HMV2.out
        obtain ⟨fn, tmps, assign, body, hy, hR⟩ := HY.out pre (noEn, c1) _ hJn (by rw [hYe]; simp)
        rw [show encE (noEn, c1) = #[.agg #[.int .u64 0, .int .u64 0, .int .i64 0, .string ⟨#[]⟩], .int .i64 c1] from rfl] at hy
        have HR := Lib.hid hR
        have HYE := Lib.hid hYe
        clear hR hJn hYe
        gi_wp2
        refine HR.out.mono ?_
        rintro e W3 (⟨rfl, hJ3, hk3⟩ | ⟨rfl, hJx3⟩)
        · clear hy hk3
          gi_wp2
          refine bodyPost_ret (results_none rfl _ _ _) rfl ?_
          exact ⟨⟨_, rfl⟩, .inl ⟨_, HYE.out.symm, hJ3⟩⟩
        · clear hy
          gi_wp2
          refine bodyPost_ret (results_none rfl _ _ _) rfl ?_
          exact ⟨⟨_, rfl⟩, .inr ⟨_, ⟨Y.length, Nat.le_refl _, by rw [List.take_length]; exact HYE.out.symm⟩, hJx3⟩⟩
    · obtain rfl : k = u := by omega
      gi_wp2
      go_end0
      refine ⟨⟨_, rfl⟩, .inl ⟨_, rfl, ?_⟩⟩
      have e : Y = pre := by rw [HYK.out, Nat.sub_self]; simp [seqP]
      rw [e]
      exact HJR.out
end Go.Proofs.YtjohgagiccndpaaGreatDoor

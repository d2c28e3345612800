/-
  Pasts: the program's Image, Epochs; what there is not.
-/
import Derived.Test.YthapcpfemmfhoaaAP5
namespace Go.Proofs.Ythapcpfemmfhoaa
namespace Ap
open Go.RowKit
set_option linter.unusedVariables false
set_option linter.unusedSimpArgs false

theorem find_first : ∀ (E : List (Nat × List ByteArray)) (e k : Nat), k < E.length → (EAt E k).1 = e → (∀ j, j < k → (EAt E j).1 ≠ e) → E.find? (fun x => x.1 == e) = some (EAt E k)
  | [], _, _, h, _, _ => by simp at h
  | a :: E, e, 0, _, h1, _ => by
    have : a.1 = e := h1
    simp [List.find?, this, EAt]
  | a :: E, e, k + 1, h, h1, h2 => by
    have h0 : a.1 ≠ e := h2 0 (by omega)
    have ih := find_first E e k (by simpa using h) (by simpa [EAt] using h1) (fun j hj => by have := h2 (j + 1) (by omega); simpa [EAt] using this)
    have hb : (a.1 == e) = false := by simp [h0]
    rw [List.find?_cons, hb]
    simpa [EAt] using ih
theorem find_none : ∀ (E : List (Nat × List ByteArray)) (e : Nat), (∀ j, j < E.length → (EAt E j).1 ≠ e) → E.find? (fun x => x.1 == e) = none
  | [], _, _ => rfl
  | a :: E, e, h => by
    have h0 : a.1 ≠ e := h 0 (by simp)
    have ih := find_none E e (fun j hj => by have := h (j + 1) (by simpa using hj); simpa [EAt] using this)
    have hb : (a.1 == e) = false := by simp [h0]
    rw [List.find?_cons, hb]
    exact ih

def imgV (bx : Nat) : Value := .func (Fn.func 37) #[] #[.pointer (some ⟨bx, 0, none⟩)]

set_option maxRecDepth 20000 in
set_option maxHeartbeats 400000 in
theorem img1_any (x e bx : Nat) (v : Value) (w : World) (hx : x < 18446744073709551616) (he : e < 18446744073709551616) (hc : w.cell? ⟨bx, 0, none⟩ = some (.int .u64 (e : Int))) (hb : bx < w.heap.size) (hv : ∃ a n c, v = .slice a n c) :
    Calls Try.prog 37 #[.agg #[.int .u64 (x : Int), v], .pointer (some ⟨bx, 0, none⟩)] w fun r w' => r = .returned (.bool (decide (x = e))) ∧ Below w.heap.size w w' := by
  obtain ⟨a, n, c, rfl⟩ := hv
  have hc2 : (w.alloc (.cells #[.int .u64 (x : Int), .slice a n c] 63)).cell? ⟨bx, 0, none⟩ = some (.int .u64 (e : Int)) := by rw [World.cell?_of_block (w := w) (Below.heap_alloc w _ _ hb)]; exact hc
  have hB : Below w.heap.size w (w.alloc (.cells #[.int .u64 (x : Int), .slice a n c] 63)) := (Below.refl _ _).alloc (Nat.le_refl _) _
  by_cases h : x = e
  · subst h
    go_enter Try.func37, Try.ntmps37
    go_wp2
    go_ret
    exact ⟨by simp, hB⟩
  · have h1 : ((x : Int) == (e : Int)) = false := by simp; omega
    go_enter Try.func37, Try.ntmps37
    go_wp2
    go_ret
    exact ⟨by simp [h], hB⟩

/-- The images' row, loaded. -/
theorem PI.img {w p v1 v2 vs xs S} (h : PI w p v1 v2 vs xs S) {k : Nat} (hk : k < S.E.length) : ∃ g c a2 n2 c2, v2 = .slice (some ⟨g, 0, none⟩) S.E.length c ∧ S.E.length ≤ c ∧ c ≤ maxLen ∧ w.cell? ⟨g, k * 2, none⟩ = some (.int .u64 ((EAt S.E k).1 : Int)) ∧ w.cell? ⟨g, k * 2 + 1, none⟩ = some (.slice a2 n2 c2) ∧ vAt xs k = .slice a2 n2 c2 := by
  obtain ⟨a, c, e, hle, hcm, hg⟩ := owns_shape1 h.own2
  obtain ⟨g, rfl, hgo, _, _⟩ := hg (by omega)
  obtain ⟨h1, h2⟩ := imgs_at S.E xs k h.co.xlen hk
  obtain ⟨a2, c2, e2, _⟩ := owns_shape1 (h.co.pics k hk)
  rw [e2] at h2
  exact ⟨g, c, a2, _, c2, e, hle, hcm, owns_cell h.own2 hgo _ _ h1, owns_cell h.own2 hgo _ _ h2, e2⟩

set_option maxRecDepth 20000 in
set_option maxHeartbeats 1000000 in
theorem indexf_any (p e bx : Nat) (v1 v2 : Value) (vs xs : List Value) (S : PS) (w : World) (hi : PI w p v1 v2 vs xs S) (hbx : w.heap[bx]? = some (.cells #[.int .u64 (e : Int)] 30 (0, 0)) ∨ True) (hc : w.cell? ⟨bx, 0, none⟩ = some (.int .u64 (e : Int))) (hb : bx < w.heap.size) (he : e < 18446744073709551616) (N : Nat) (hok : S.ok N) (hN : N ≤ 1000) :
    Calls Try.prog 36 #[v2, imgV bx] w fun r w' => Below w.heap.size w w' ∧ ((r = .returned (.int .i64 (-1)) ∧ ∀ j, j < S.E.length → (EAt S.E j).1 ≠ e) ∨ ∃ k : Nat, r = .returned (.int .i64 (k : Int)) ∧ k < S.E.length ∧ (EAt S.E k).1 = e ∧ ∀ j, j < k → (EAt S.E j).1 ≠ e) := by
  have hoe := hok.e
  obtain ⟨_, _, a2, c2, _, _, _, rfl, hle2, hcm2, _, c1⟩ := hi.cells
  have hmx2 : (c2 : Int) ≤ 9223372036854775807 := by unfold maxLen at hcm2; omega
  obtain ⟨m, hm⟩ : ∃ m, m = S.E.length := ⟨_, rfl⟩
  have HOK := Lib.hid hok
  have HI := Lib.hid hi
  have HM := Lib.hid hm
  have HC := Lib.hid hc
  rw [← hm] at HI hle2 hoe ⊢
  clear hi hok hm hc c1 hbx
  unfold imgV
  go_enter Try.func36, Try.ntmps36
  go_wp2
  go_loopw [8] (fun i wr => ∃ k : Nat, k ≤ m ∧ i = .int .i64 k ∧ (∀ j, j < k → (EAt S.E j).1 ≠ e) ∧ Below w.heap.size w wr) (fun i _ => m - (intOf i).toNat)
  case atStart => exact ⟨0, by omega, rfl, fun j hj => by omega, Below.refl _ _⟩
  case round =>
    obtain ⟨k, hk, rfl, hall, hB⟩ := hrel
    have HALL := Lib.hid hall
    clear hall
    by_cases hlt : k < m
    · have i0 : (0 : Int) ≤ (k : Int) := by omega
      have i1 : (k : Int) < (m : Int) := by omega
      have hpi := HI.out.kept (w' := wr) (fun j hj => hB.block j (HI.out.lt j hj))
      obtain ⟨g, c, a3, n3, c3, e1, hle, hcm, hc0, hc1, hv⟩ := hpi.img (k := k) (by have := HM.out; omega)
      obtain ⟨ag, hag⟩ : a2 = some ⟨g, 0, none⟩ ∧ True := ⟨by simp at e1; exact e1.1, trivial⟩
      have hpk := HOK.out.p k (by have := HM.out; omega)
      have h1 := img1_any (EAt S.E k).1 e bx (.slice a3 n3 c3) wr hpk.2 he (by rw [World.cell?_of_block (w := w) (hB.block bx hb)]; exact HC.out) (by have := hB.size; omega) ⟨_, _, _, rfl⟩
      obtain ⟨x, hx⟩ : ∃ x, x = (EAt S.E k).1 := ⟨_, rfl⟩
      rw [← hx] at h1 hc0
      have H1 := Lib.hid h1
      have HX := Lib.hid hx
      have HB := Lib.hid hB
      subst ag
      clear hpi e1 hpk h1 hx hv hB
      by_cases hxe : x = e
      · rw [decide_eq_true hxe] at H1
        have HXE := Lib.hid (show (EAt S.E k).1 = e from by rw [← HX.out, hxe])
        clear hxe
        go_wp2_with (go_at_call 37; with_reducible refine H1.out.mono ?_)
        rintro r w1 ⟨rfl, hb1⟩
        have HB1 := Lib.hid (HB.out.trans (hb1.mono HB.out.size))
        clear hb1
        go_wp2
        go_ret
        exact ⟨HB1.out, .inr ⟨k, rfl, hlt, HXE.out, HALL.out⟩⟩
      · rw [decide_eq_false hxe] at H1
        have HXE := Lib.hid (show ∀ j, j < k + 1 → (EAt S.E j).1 ≠ e from fun j hj => by
          rcases Nat.lt_or_ge j k with h | h
          · exact HALL.out j h
          · obtain rfl : j = k := by omega
            rw [← HX.out]; exact hxe)
        clear hxe
        go_wp2_with (go_at_call 37; with_reducible refine H1.out.mono ?_)
        rintro r w1 ⟨rfl, hb1⟩
        have HB1 := Lib.hid (HB.out.trans (hb1.mono HB.out.size))
        clear hb1
        go_wp2
        go_roundw
        case rel => exact ⟨k + 1, by omega, by go_num, HXE.out, HB1.out⟩
        case measure => simp [intOf]; omega
    · obtain rfl : k = m := by omega
      have i1 : ¬ (k : Int) < (k : Int) := by omega
      have HB := Lib.hid hB
      clear hB
      go_wp2
      go_ret
      exact ⟨HB.out, .inl ⟨rfl, HALL.out⟩⟩

set_option maxRecDepth 20000 in
set_option maxHeartbeats 1000000 in
theorem pimage_any (p : Nat) (F : Nat → Prop) (S : PS) (e : Nat) (w : World) (h : PM w p F S) (N : Nat) (hok : S.ok N) (hN : N ≤ 1000) (he : e < 18446744073709551616) :
    Calls Try.prog 20 #[.pointer (some ⟨p, 0, none⟩), .int .u64 (e : Int)] w fun r w' => Below w.heap.size w w' ∧ ∃ a n c, r = .returned (.tuple #[.slice a n c, .int .i64 (S.image e).2]) ∧ Rs w' a n c (S.image e).1 ∧ ∀ b off, a = some ⟨b, off, none⟩ → w.heap.size ≤ b := by
  obtain ⟨v1, v2, vs, xs, hi, hF, hl⟩ := h
  obtain ⟨_, _, a2, c2, _, _, _, hv2, hle2, hcm2, _, c1⟩ := hi.cells
  have hmx2 : (c2 : Int) ≤ 9223372036854775807 := by unfold maxLen at hcm2; omega
  have hpl := lt_of_block hi.blk
  obtain ⟨W, hW⟩ : ∃ W, W = w.alloc (.cells #[.int .u64 (e : Int)] 30) := ⟨_, rfl⟩
  have hBW : Below w.heap.size w W := by rw [hW]; exact (Below.refl _ _).alloc (Nat.le_refl _) _
  have hpi := hi.kept (w' := W) (fun j hj => hBW.block j (hi.lt j hj))
  have hcb : W.cell? ⟨w.heap.size, 0, none⟩ = some (.int .u64 (e : Int)) := by rw [hW, cell_of_blk (heap_alloc_new w _)]; rfl
  have hsW : W.heap.size = w.heap.size + 1 := by rw [hW]; simp
  have hix := indexf_any p e w.heap.size v1 v2 vs xs S W hpi (.inr trivial) hcb (by omega) he N hok hN
  unfold imgV at hix
  have c1W : W.cell? ⟨p, 1, none⟩ = some v2 := by rw [cell_of_blk hpi.blk]; rfl
  have HIX := Lib.hid hix
  have HPI := Lib.hid hpi
  have HBW := Lib.hid hBW
  have HWW := Lib.hid hW
  have HOK := Lib.hid hok
  subst hv2
  obtain ⟨m, hm⟩ : ∃ m, m = S.E.length := ⟨_, rfl⟩
  have HM := Lib.hid hm
  rw [← hm] at HIX HPI c1W hle2
  clear hi hF hix hpi hBW hW hcb hok c1 hm hl
  go_enter Try.func20, Try.ntmps20
  go_upto_region 1 with fail
  rw [← HWW.out]
  go_wp2_with fail
  refine HIX.out.mono ?_
  rintro r w1 ⟨hb1, ⟨rfl, hno⟩ | ⟨k, rfl, hk, hke, hkf⟩⟩
  · have HX := Lib.hid (show S.image e = ([], 10) from by unfold PS.image; rw [find_none S.E e (fun j hj => hno j (by have := HM.out; omega))])
    have HB1 := Lib.hid (HBW.out.trans (hb1.mono HBW.out.size))
    clear hb1 hno
    go_wp2
    refine bodyPost_ret (results_tmp2 rfl _ _ _) rfl ?_
    rw [HX.out]
    exact ⟨HB1.out, none, 0, 0, rfl, rs_nil _, fun _ _ e => by cases e⟩
  · have HX := Lib.hid (show S.image e = ((EAt S.E k).2, 0) from by unfold PS.image; rw [find_first S.E e k (by have := HM.out; omega) hke hkf])
    have hpi1 := HPI.out.kept (w' := w1) (fun j hj => hb1.block j (HPI.out.lt j hj))
    have hkk : k < S.E.length := by have := HM.out; omega
    obtain ⟨g, c, a3, n3, c3, e1, hle, hcm, hc0, hc1, hv⟩ := hpi1.img (k := k) hkk
    have c1x : w1.cell? ⟨p, 1, none⟩ = some (.slice a2 m c2) := by rw [cell_of_blk hpi1.blk]; rfl
    obtain ⟨ag, hag⟩ : a2 = some ⟨g, 0, none⟩ ∧ True := ⟨by simp at e1; exact e1.1, trivial⟩
    have hpic := hpi1.co.pics k hkk
    rw [hv] at hpic
    have hcl := clone_strs 0 _ _ _ w1 hpic (by have := (HOK.out.p k hkk).1; omega)
    have HCL := Lib.hid hcl
    have HB1 := Lib.hid (HBW.out.trans (hb1.mono HBW.out.size))
    have i0 : (0 : Int) ≤ (k : Int) := by omega
    have i1 : (k : Int) < (m : Int) := by omega
    have i2 : ¬ (k : Int) < 0 := by omega
    subst ag
    clear hb1 hke hkf hpi1 hc0 hv hpic hcl e1
    go_wp2_with fail
    refine HCL.out.mono ?_
    rintro r w2 ⟨v', rfl, ho, hb2⟩
    obtain ⟨a', c', rfl, hrs, hfs⟩ := towns_shape ho
    have HR := Lib.hid hrs
    have HFS := Lib.hid (show ∀ b off, a' = some ⟨b, off, none⟩ → w.heap.size ≤ b from fun b off e => by have h1 := (hfs b off none e).1; have h2 := HB1.out.size; omega)
    have HB2 := Lib.hid (HB1.out.trans (hb2.mono HB1.out.size))
    clear ho hb2 hrs hfs
    go_wp2
    refine bodyPost_ret (results_tmp2 rfl _ _ _) rfl ?_
    rw [HX.out]
    exact ⟨HB2.out, _, _, _, rfl, HR.out, HFS.out⟩

theorem Try.infoU8 : (Try.prog.info? 30).map (fun i => (i.zero, i.size, i.bytes)) = some (some (.int .u64 0), 1, 8) := by kernel_rfl
def eps (E : List (Nat × List ByteArray)) : List Value := E.map fun x => .int .u64 (x.1 : Int)

set_option maxRecDepth 20000 in
set_option maxHeartbeats 1000000 in
theorem pepochs_any (p : Nat) (F : Nat → Prop) (S : PS) (w : World) (h : PM w p F S) (N : Nat) (hok : S.ok N) (hN : N ≤ 1000) :
    Calls Try.prog 26 #[.pointer (some ⟨p, 0, none⟩)] w fun r w' => ∃ v, r = .returned v ∧ w'.ownsRow w.heap.size 30 1 v S.E.length (eps S.E) ∧ Below w.heap.size w w' := by
  obtain ⟨v1, v2, vs, xs, hi, hF, hl⟩ := h
  have hoe := hok.e
  obtain ⟨_, _, a2, c2, _, _, _, rfl, hle2, hcm2, _, c1⟩ := hi.cells
  have hmx2 : (c2 : Int) ≤ 9223372036854775807 := by unfold maxLen at hcm2; omega
  obtain ⟨m, hm⟩ : ∃ m, m = S.E.length := ⟨_, rfl⟩
  obtain ⟨i30, hi30, hz0, hz1, hz2⟩ := info_parts Try.infoU8
  have HI := Lib.hid hi
  have HM := Lib.hid hm
  rw [← hm] at HI hle2 hoe c1 ⊢
  clear hi hok hm hF hl
  go_enter Try.func26, Try.ntmps26
  go_wp2
  go_loopw [3, 13] (fun v i wr => ∃ k : Nat, k ≤ m ∧ i = .int .i64 k ∧ wr.ownsRow w.heap.size 30 1 v k ((eps S.E).take k) ∧ Below w.heap.size w wr) (fun _ i _ => m - (intOf i).toNat)
  case atStart => exact ⟨0, by omega, rfl, World.ownsRow_nil _ _ _ _, Below.refl _ _⟩
  case round =>
    obtain ⟨k, hk, rfl, ho, hB⟩ := hrel
    by_cases hlt : k < m
    · have i0 : (0 : Int) ≤ (k : Int) := by omega
      have i1 : (k : Int) < (m : Int) := by omega
      have hpi := HI.out.kept (w' := wr) (fun j hj => hB.block j (HI.out.lt j hj))
      obtain ⟨g, c, a3, n3, c3, e1, hle, hcm, hc0, hc1, hv⟩ := hpi.img (k := k) (by have := HM.out; omega)
      obtain ⟨ag, hag⟩ : a2 = some ⟨g, 0, none⟩ ∧ True := ⟨by simp at e1; exact e1.1, trivial⟩
      have htk : (eps S.E).take (k + 1) = (eps S.E).take k ++ [.int .u64 ((EAt S.E k).1 : Int)] := by
        rw [List.take_add_one]
        congr 1
        unfold eps EAt
        rw [List.getElem?_map, List.getElem?_eq_getElem (by have := HM.out; omega)]
        rfl
      obtain ⟨x, hx⟩ : ∃ x, x = (EAt S.E k).1 := ⟨_, rfl⟩
      rw [← hx] at hc0 htk
      subst ag
      have how := (ho.alloc (.cells #[.int .u64 (x : Int), .slice a3 n3 c3] 63)).alloc (.cells #[.int .u64 (x : Int)] 30)
      have hB2 := (hB.alloc hB.size (.cells #[.int .u64 (x : Int), .slice a3 n3 c3] 63)).alloc (Nat.le_trans hB.size (by simp)) (.cells #[.int .u64 (x : Int)] 30)
      have hnew : ∀ (j : Nat) (u : Value), [Value.int .u64 (x : Int)][j]? = some u → ((wr.alloc (.cells #[.int .u64 (x : Int), .slice a3 n3 c3] 63)).alloc (.cells #[.int .u64 (x : Int)] 30)).cell? ((⟨wr.heap.size + 1, 0, none⟩ : Addr).add j) = some u := fun j u hj => by
        have := heap_alloc_new (wr.alloc (.cells #[.int .u64 (x : Int), .slice a3 n3 c3] 63)) (.cells #[.int .u64 (x : Int)] 30)
        rw [World.size_alloc] at this
        rw [Addr.add_none, cell_of_blk this, Nat.zero_add]; simpa using hj
      have HOW := Lib.hid how
      have HB2 := Lib.hid hB2
      have HNEW := Lib.hid hnew
      have HTK := Lib.hid htk
      clear hpi e1 hx hv how hB2 hnew htk ho hB
      go_wp2_with (at_builtin; refine wpList_append_own_at _ (o := ⟨some 21, _, _, _, _, _⟩) rfl (.tmp 17) (.tmp 20) 45 rfl w.heap.size 30 i30 _ 1 8 Try.underlying45 hi30 hz0 hz1 hz2 rfl (by omega) _ k _ (by rfl) HOW.out ⟨wr.heap.size + 1, 0, none⟩ 1 1 [.int .u64 (x : Int)] (by rfl) rfl HNEW.out (by simp [Value.oneCell']) (by unfold maxLen; omega) (by omega) HB2.out.size ?_)
      intro v5 w5 how5 hg5 _ hat5
      rw [← HTK.out] at how5
      have hB5 := HB2.out.grown hg5 HB2.out.size (fun j hj => (HOW.out.lt j hj).1)
      have HB5 := Lib.hid hB5
      have HO5 := Lib.hid how5
      clear how5 hg5 hat5 hB5
      go_wp2
      go_roundw
      case rel => exact ⟨k + 1, by omega, by go_num, HO5.out, HB5.out⟩
      case measure => simp [intOf]; omega
    · obtain rfl : k = m := by omega
      have i1 : ¬ (k : Int) < (k : Int) := by omega
      have hall : (eps S.E).take k = eps S.E := List.take_of_length_le (by unfold eps; simp; have := HM.out; omega)
      rw [hall] at ho
      have HO := Lib.hid ho
      have HB := Lib.hid hB
      clear ho hB hall
      go_wp2
      go_ret
      exact ⟨_, rfl, HO.out, HB.out⟩

set_option maxRecDepth 20000 in
set_option maxHeartbeats 400000 in
theorem pwrite_nil (i : Int) (s : ByteArray) (w : World) : Calls Try.prog 10 #[.pointer none, .int .i64 i, .string s] w fun e w' => e = .returned (.int .i64 1) ∧ w' = w := by
  have HF := Lib.hid (fault_nil i w)
  go_enter Try.func10, Try.ntmps10
  go_wp2_with fail
  refine HF.out.mono ?_
  rintro e w1 ⟨rfl, hw1⟩; obtain rfl := hw1.symm; clear hw1
  go_wp2
  go_ret
  exact ⟨rfl, rfl⟩

set_option maxRecDepth 20000 in
set_option maxHeartbeats 400000 in
theorem pmay_nil (i : Int) (s : ByteArray) (w : World) : Calls Try.prog 22 #[.pointer none, .int .i64 i, .string s] w fun e w' => e = .returned (.bool false) ∧ w' = w := by
  have HF := Lib.hid (fault_nil i w)
  go_enter Try.func22, Try.ntmps22
  go_wp2_with fail
  refine HF.out.mono ?_
  rintro e w1 ⟨rfl, hw1⟩; obtain rfl := hw1.symm; clear hw1
  go_wp2
  go_ret
  exact ⟨rfl, rfl⟩

set_option maxRecDepth 20000 in
set_option maxHeartbeats 400000 in
theorem plast_nil (i : Int) (w : World) : Calls Try.prog 18 #[.pointer none, .int .i64 i] w fun e w' => e = .returned (twoV (noBytes, 1)) ∧ w' = w := by
  have HF := Lib.hid (fault_nil i w)
  go_enter Try.func18, Try.ntmps18
  go_wp2_with fail
  refine HF.out.mono ?_
  rintro e w1 ⟨rfl, hw1⟩; obtain rfl := hw1.symm; clear hw1
  go_wp2
  refine bodyPost_ret (results_tmp2 rfl _ _ _) rfl ?_
  exact ⟨rfl, rfl⟩

set_option maxRecDepth 20000 in
set_option maxHeartbeats 400000 in
theorem pflush_nil (w : World) : Calls Try.prog 12 #[.pointer none] w fun e w' => e = .returned (.tuple #[]) ∧ w' = w := by
  go_enter Try.func12, Try.ntmps12
  go_wp2
  refine bodyPost_ret (results_none rfl _ _ _) rfl ?_
  exact ⟨rfl, rfl⟩

set_option maxRecDepth 20000 in
set_option maxHeartbeats 400000 in
theorem pcrash_nil (v : Value) (w : World) : Calls Try.prog 14 #[.pointer none, v] w fun e w' => e = .returned (.int .i64 1) ∧ w' = w := by
  go_enter Try.func14, Try.ntmps14
  go_wp2
  go_ret
  exact ⟨rfl, rfl⟩

set_option maxRecDepth 20000 in
set_option maxHeartbeats 400000 in
theorem pseal_nil (v : Value) (w : World) : Calls Try.prog 16 #[.pointer none, v] w fun e w' => e = .returned (.int .i64 1) ∧ w' = w := by
  go_enter Try.func16, Try.ntmps16
  go_wp2
  go_ret
  exact ⟨rfl, rfl⟩

set_option maxRecDepth 20000 in
set_option maxHeartbeats 400000 in
theorem pimage_nil (e : Int) (w : World) : Calls Try.prog 20 #[.pointer none, .int .u64 e] w fun r w' => r = .returned (.tuple #[.slice none 0 0, .int .i64 1]) ∧ Below w.heap.size w w' := by
  have hB : Below w.heap.size w (w.alloc (.cells #[.int .u64 e] 30)) := (Below.refl _ _).alloc (Nat.le_refl _) _
  go_enter Try.func20, Try.ntmps20
  go_wp2
  refine bodyPost_ret (results_tmp2 rfl _ _ _) rfl ?_
  exact ⟨rfl, hB⟩

set_option maxRecDepth 20000 in
set_option maxHeartbeats 400000 in
theorem pepochs_nil (w : World) : Calls Try.prog 26 #[.pointer none] w fun r w' => r = .returned (.slice none 0 0) ∧ w' = w := by
  go_enter Try.func26, Try.ntmps26
  go_wp2
  go_ret
  exact ⟨rfl, rfl⟩

end Ap
end Go.Proofs.Ythapcpfemmfhoaa


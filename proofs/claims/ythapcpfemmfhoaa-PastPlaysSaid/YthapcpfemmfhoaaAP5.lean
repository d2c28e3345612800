/-
  Pasts: the program's Seal.
-/
import Derived.Test.YthapcpfemmfhoaaAP4
namespace Go.Proofs.Ythapcpfemmfhoaa
namespace Ap
open Go.RowKit
set_option linter.unusedVariables false
set_option linter.unusedSimpArgs false

theorem PI.pic {w wr w6 : World} {p : Nat} {F : Nat → Prop} {v1 v2 v5 v6 : Value} {vs xs : List Value} {S : PS} (hi : PI w p v1 v2 vs xs S) (hF : ∀ k, pf p v1 v2 vs xs S k → F k) (hl : ∀ k, F k → k < w.heap.size) (hB : Below w.heap.size w wr) (e : Nat) (l : List ByteArray)
    (h5 : wr.ownsRow w.heap.size 9 1 v5 l.length (strs l)) (how : w6.ownsRow 0 63 2 v6 (S.E.length + 1) (imgs S.E xs ++ [.int .u64 (e : Int), v5])) (hgr : (wr.alloc (.cells #[.int .u64 (e : Int), v5] 63)).grownBy w6 v2.ownBlock)
    (hat : v6.ownBlock = v2.ownBlock ∨ v6.ownBlock = some (wr.heap.size + 1)) :
    w6.cell? ⟨p, 1, none⟩ = some v2 ∧ (∀ i, w6.frozen? ⟨p, i, none⟩ = false) ∧ PQ w F p ⟨S.L, S.E ++ [(e, l)]⟩ (w6.setCell ⟨p, 1, none⟩ v6) := by
  have hpl := lt_of_block hi.blk
  have hs := hB.size
  have hold : ∀ k, k < wr.heap.size → v2.ownBlock ≠ some k → w6.heap[k]? = wr.heap[k]? := fun k hk hn => (hgr.block k (by simp; omega) (fun e => hn e.symm)).trans (Below.heap_alloc wr _ _ hk)
  have hkeep : ∀ k, k < w.heap.size → v2.ownBlock ≠ some k → w6.heap[k]? = w.heap[k]? := fun k hk hn => (hold k (by omega) hn).trans (hB.block k hk)
  have h2p : v2.ownBlock ≠ some p := fun e => by
    obtain ⟨cur, hc⟩ := owns_type hi.own2 e
    rw [hi.blk] at hc; simp at hc
  have hp6 : w6.heap[p]? = some (.cells #[v1, v2] 56 (0, 0)) := (hkeep p hpl h2p).trans hi.blk
  have hcf2 : ∀ k, cf v1 vs xs S k → v2.ownBlock ≠ some k := fun k hk e => by
    obtain ⟨cur, hc⟩ := owns_type hi.own2 e
    exact hi.co.ne_ty hc (by decide) (by decide) k hk rfl
  have h56 : v5.ownBlock ≠ none → ∀ k, v5.ownBlock = some k → v2.ownBlock ≠ some k := fun _ k e5 e2 => by
    have := (h5.lt k e5).1
    have := (hi.own2.lt k e2).2
    omega
  have hx : w6.ownsRow 0 9 1 v5 l.length (strs l) := by
    refine owns_kept (owns_low h5 (Nat.zero_le _)) fun k e5 => hold k (h5.lt k e5).2 (h56 (by rw [e5]; simp) k e5)
  have hxf : ∀ k, v5.ownBlock = some k → w.heap.size ≤ k := fun k e5 => (h5.lt k e5).1
  have hco := hi.co.pic (w2 := w6) (x := v5) (l := l) (e := e) (fun k hk => hkeep k (hi.co.lt k hk) (hcf2 k hk)) hx hxf
  have hne := hco.ne_ty hp6 (by decide) (by decide)
  have h6p : v6.ownBlock ≠ some p := fun e6 => by
    obtain ⟨cur, hc⟩ := owns_type how e6
    rw [hp6] at hc; simp at hc
  refine ⟨by rw [cell_of_blk hp6]; rfl, fun i => free_of_blk hp6 i, fun j => F j ∨ (w.heap.size ≤ j ∧ j < w6.heap.size), ⟨v1, v6, vs, xs ++ [v5], ⟨?_, hco.kept fun k hk => heap_set_other (hne k hk), ?_⟩, ?_, ?_⟩, ?_, ?_⟩
  · exact (blk_setCell hp6).trans (by simp)
  · rw [imgs_push _ _ _ _ hi.co.xlen]
    refine owns_set_other ?_ h6p _
    simpa using how
  · rintro j (rfl | e6 | e6)
    · exact .inl (hF _ (.inl rfl))
    · rcases hat with h | h
      · rw [h] at e6; exact .inl (hF _ (.inr (.inl e6)))
      · have := (how.lt j e6).2
        rw [h] at e6; simp at e6
        exact .inr ⟨by omega, this⟩
    · rcases cf_pic hi.co hxf j e6 with h | h
      · exact .inl (hF _ (.inr (.inr h)))
      · exact .inr ⟨h, hco.lt j e6⟩
  · rintro j (h | h)
    · have := hl j h; have := hgr.size; simp at this; simp; omega
    · simp; omega
  · refine Fr.set (w' := w6) ⟨?_, ?_, ?_, ?_, fun k hk hn => hkeep k hk fun e2 => hn (hF _ (.inr (.inl e2)))⟩ (.inl (hF _ (.inl rfl)))
    · rw [hgr.os]; exact hB.os
    · rw [hgr.tape]; exact hB.tape
    · rw [hgr.output]; exact hB.output
    · have := hgr.size; simp at this; omega
  · rintro j (h | h)
    · exact .inl h
    · exact .inr h.1

theorem below_drewN (B : Nat) (w : World) (n : Nat) : Below B w (w.drewN n) := ⟨rfl, rfl, rfl, Nat.le_refl _, fun _ _ => rfl⟩

theorem take_last (L : List (List ByteArray)) (M : List ByteArray) (hM : M = L.map lastB) {k : Nat} (hk : k < L.length) : M.take (k + 1) = M.take k ++ [lastB (LAt L k)] := by
  subst hM
  rw [List.take_add_one]
  congr 1
  unfold LAt
  rw [List.getElem?_map, List.getElem?_eq_getElem hk]
  rfl

set_option maxRecDepth 20000 in
set_option maxHeartbeats 2000000 in
theorem pseal_any (p : Nat) (F : Nat → Prop) (S : PS) (e : Nat) (w : World) (h : PM w p F S) (N : Nat) (hok : S.ok N) (hN : N ≤ 1000) (he : e < 18446744073709551616) :
    Calls Try.prog 16 #[.pointer (some ⟨p, 0, none⟩), .int .u64 (e : Int)] w fun r w' => r = .returned (.int .i64 (S.sealP e).1) ∧ PQ w F p (S.sealP e).2 w' := by
  have hPM := h
  obtain ⟨v1, v2, vs, xs, hi, hF, hl⟩ := h
  have hol := hok.l
  have hoe := hok.e
  obtain ⟨a, c, a2, c2, rfl, hle, hcm, rfl, hle2, hcm2, c0, c1⟩ := hi.cells
  have hmx : (c : Int) ≤ 9223372036854775807 := by unfold maxLen at hcm; omega
  have hmx2 : (c2 : Int) ≤ 9223372036854775807 := by unfold maxLen at hcm2; omega
  have hpl := lt_of_block hi.blk
  obtain ⟨n, hn⟩ : ∃ n, n = S.L.length := ⟨_, rfl⟩
  obtain ⟨m, hm⟩ : ∃ m, m = S.E.length := ⟨_, rfl⟩
  have HN := Lib.hid hn
  have HM := Lib.hid hm
  have HI := Lib.hid hi
  have HOK := Lib.hid hok
  obtain ⟨ML, hML⟩ : ∃ ML, ML = S.L.map lastB := ⟨_, rfl⟩
  have HML := Lib.hid hML
  clear hML
  have HPM := Lib.hid hPM
  have HEND := Lib.hid (fun wr v5 w6 v6 l hB h5 how hgr hat => PI.pic (wr := wr) (v5 := v5) (w6 := w6) (v6 := v6) hi hF hl hB e l h5 how hgr hat)
  rw [← hn, ← hm] at HI
  rw [← hm] at HEND
  rw [← hn] at c0 hle hol
  rw [← hm] at c1 hle2 hoe
  by_cases hz : e = 0
  · subst hz
    have HX := Lib.hid (show S.sealP 0 = (14, S) from by unfold PS.sealP; rw [if_pos (.inl rfl)])
    have e0 : (((0 : Nat) : Int) == 0) = true := rfl
    clear hi hok hPM hF hl hn hm HEND
    go_enter Try.func16, Try.ntmps16
    go_wp2_with fail
    go_quiet (fail)
    go_wp2
    go_ret
    rw [HX.out]
    exact ⟨rfl, PQ.below HPM.out (below_drewN _ _ _)⟩
  · have e0 : ((e : Int) == 0) = false := by simp; omega
    by_cases hm0 : m = 0
    · have HX := Lib.hid (show S.sealP e = (0, ⟨S.L, S.E ++ [(e, S.L.map lastB)]⟩) from by unfold PS.sealP; rw [if_neg (by omega)])
      have g0 : ¬ (0 : Int) < (m : Int) := by omega
      have g1 : ¬ (0 < m) := by omega
      have gd : decide ((0 : Int) < (m : Int)) = false := by simp; omega
      clear hi hok hPM hF hl hn hm hz hm0
      go_enter Try.func16, Try.ntmps16
      go_wp2_with fail
      go_quiet (fail)
      clear g0 g1 gd
      have HBQ := Lib.hid (below_drewN w.heap.size w nq)
      go_wp2
      go_loopw [5, 42] (fun v i wr => ∃ k : Nat, k ≤ n ∧ i = .int .i64 k ∧ wr.ownsRow w.heap.size 9 1 v k (strs (ML.take k)) ∧ Below w.heap.size w wr) (fun _ i _ => n - (intOf i).toNat)
      case atStart => exact ⟨0, by omega, rfl, World.ownsRow_nil _ _ _ _, HBQ.out⟩
      case round =>
        obtain ⟨k, hk, rfl, ho, hB⟩ := hrel
        by_cases hlt : k < n
        · have i0 : (0 : Int) ≤ (k : Int) := by omega
          have i1 : (k : Int) < (n : Int) := by omega
          have hkk : k < S.L.length := by have := HN.out; omega
          have hpi := HI.out.kept (w' := wr) (fun j hj => hB.block j (HI.out.lt j hj))
          obtain ⟨g, c', b, off, c2', e1, hle', hcm', hgo, c0r, ck, e2, hrs⟩ := hpi.at hkk
          obtain ⟨ag, hag⟩ : a = some ⟨g, 0, none⟩ ∧ True := ⟨by simp at e1; exact e1.1, trivial⟩
          have hkl := HOK.out.s k hkk
          have hla := last_any _ _ _ _ wr hrs hkl.1 (by omega)
          have htl := take_last S.L ML HML.out hkk
          obtain ⟨y, hy⟩ : ∃ y, y = lastB (LAt S.L k) := ⟨_, rfl⟩
          rw [← hy] at hla htl
          rw [e2] at ck
          obtain ⟨i9, hi9, hz0, hz1, hz2⟩ := info_parts Try.info9
          have ho2 := ho.alloc (.cells #[.string y] 9)
          have HLA := Lib.hid hla
          have HTL := Lib.hid htl
          have HOW := Lib.hid ho2
          have HB := Lib.hid (hB.alloc hB.size (.cells #[.string y] 9))
          subst ag
          generalize hln : (LAt S.L k).length = ln at *
          clear hB ho ho2 hpi hrs hla htl hy e1 e2 hgo hkl hln
          go_wp2_with fail
          refine HLA.out.mono ?_
          rintro r w1 ⟨rfl, hw1⟩; obtain rfl := hw1.symm; clear hw1
          go_wp2_with (at_builtin; refine wpList_append_s (o := ⟨some 50, _, _, _, _, _⟩) rfl (.tmp 46) (.tmp 49) 22 rfl w.heap.size i9 Try.underlying22 hi9 hz0 hz1 hz2 _ k _ (by rfl) HOW.out y (by rfl) rfl (by omega) HB.out.size ?_)
          intro v5 w5 how5 hg5 hat5
          rw [← HTL.out] at how5
          have hB5 := HB.out.grown hg5 HB.out.size (fun j hj => (HOW.out.lt j hj).1)
          have HB5 := Lib.hid hB5
          have HO5 := Lib.hid how5
          clear how5 hg5 hat5 hB5
          go_wp2
          go_roundw
          case rel => exact ⟨k + 1, by omega, by go_num, HO5.out, HB5.out⟩
          case measure => simp [intOf]; omega
        · obtain rfl : k = n := by omega
          have i1 : ¬ (k : Int) < (k : Int) := by omega
          have hall : ML.take k = ML := List.take_of_length_le (by rw [HML.out]; simp; have := HN.out; omega)
          rw [hall] at ho
          have hpi := HI.out.kept (w' := wr) (fun j hj => hB.block j (HI.out.lt j hj))
          have c1r : wr.cell? ⟨p, 1, none⟩ = some (.slice a2 m c2) := by rw [cell_of_blk hpi.blk]; rfl
          have c1a : ∀ o, (wr.alloc o).cell? ⟨p, 1, none⟩ = some (.slice a2 m c2) := fun o => by rw [World.cell?_of_block (w := wr) (Below.heap_alloc wr _ _ (lt_of_block hpi.blk))]; exact c1r
          have how := fun o => hpi.own2.alloc o
          rw [← HM.out] at how
          have hol5 : ML.length = k := by rw [HML.out]; simp; have := HN.out; omega
          obtain ⟨a5, n5, rfl, _, _, _⟩ := owns_shape1 ho
          obtain ⟨ii, hii, hiz0, hiz1, hiz2⟩ := info_parts Try.infoIm
          have hnew : ∀ (j : Nat) (u : Value), [Value.int .u64 (e : Int), .slice a5 k n5][j]? = some u → (wr.alloc (.cells #[.int .u64 (e : Int), .slice a5 k n5] 63)).cell? ((⟨wr.heap.size, 0, none⟩ : Addr).add j) = some u := fun j u hj => by
            rw [Addr.add_none, cell_of_blk (heap_alloc_new wr _), Nat.zero_add]; simpa using hj
          have HOW := Lib.hid how
          have HNEW := Lib.hid hnew
          have HB := Lib.hid hB
          have HO := Lib.hid ho
          have HOL := Lib.hid hol5
          have c1b := c1a (.cells #[.int .u64 (e : Int), .slice a5 k n5] 63)
          clear hpi how hnew hB ho hol5 hall c0 c1 c1a
          go_wp2_with (at_builtin; refine wpList_append_own_at _ (o := ⟨some 61, _, _, _, _, _⟩) rfl (.tmp 56) (.tmp 60) 54 rfl 0 63 ii _ 2 32 Try.underlying54 hii hiz0 hiz1 hiz2 rfl (by omega) _ m _ (by rfl) (HOW.out _) ⟨wr.heap.size, 0, none⟩ 1 1 [.int .u64 (e : Int), .slice a5 k n5] (by rfl) rfl HNEW.out (by simp [Value.oneCell']) (by unfold maxLen; omega) (by omega) (Nat.zero_le _) ?_)
          intro v6 w6 how6 hg6 _ hat6
          obtain ⟨a6, n6, rfl, _, _, _⟩ := owns_shape1 how6
          obtain ⟨c6, f6, hend⟩ := HEND.out wr _ w6 _ ML HB.out (by rw [HOL.out]; exact HO.out) how6 hg6 (by simpa using hat6)
          have HE := Lib.hid hend
          clear how6 hg6 hat6 hend
          go_wp2
          go_ret
          rw [HX.out, ← HML.out]
          exact ⟨rfl, HE.out⟩
    · obtain ⟨q, hq⟩ : ∃ q, q = m - 1 := ⟨_, rfl⟩
      have g0 : (0 : Int) < (m : Int) := by omega
      have gn : decide (0 < m) = true := decide_eq_true (by omega)
      have m1 : IntKind.i64.wrap ((m : Int) - 1) = (q : Int) := by rw [IntWalk.i64_in _ (by omega)]; omega
      have m2 : (0 : Int) ≤ (q : Int) := by omega
      have m3 : (q : Int) < (m : Int) := by omega
      obtain ⟨a2', c2', ea, _, _, hg2⟩ := owns_shape1 hi.own2
      obtain ⟨g2, rfl, hgo2, _, hgl2⟩ := hg2 (by omega)
      have ea' : a2 = some ⟨g2, 0, none⟩ := by simp at ea; exact ea.1
      subst ea'
      have hrow := (imgs_at S.E xs q hi.co.xlen (by omega)).1
      have ct := owns_cell hi.own2 hgo2 _ _ hrow
      have htop : S.top = (EAt S.E q).1 := by unfold PS.top; rw [hq, hm]
      obtain ⟨t, ht⟩ : ∃ t, t = (EAt S.E q).1 := ⟨_, rfl⟩
      rw [← ht] at ct htop
      by_cases hle3 : e ≤ t
      · have HX := Lib.hid (show S.sealP e = (14, S) from by unfold PS.sealP; rw [if_pos (.inr ⟨by omega, by omega⟩)])
        have g1 : (e : Int) ≤ (t : Int) := by omega
        have g3 : decide (e ≤ t) = true := decide_eq_true hle3
        have g4 : decide ((e : Int) ≤ (t : Int)) = true := decide_eq_true g1
        clear hi hok hPM hF hl hn hm hz HEND hg2 ea hrow htop ht hq
        go_enter Try.func16, Try.ntmps16
        go_wp2_with fail
        go_quiet (fail)
        go_wp2
        go_ret
        rw [HX.out]
        exact ⟨rfl, PQ.below HPM.out (below_drewN _ _ _)⟩
      · have HX := Lib.hid (show S.sealP e = (0, ⟨S.L, S.E ++ [(e, S.L.map lastB)]⟩) from by unfold PS.sealP; rw [if_neg (by omega)])
        have g1 : ¬ (e : Int) ≤ (t : Int) := by omega
        have g3 : decide (e ≤ t) = false := decide_eq_false hle3
        have gd : decide ((e : Int) ≤ (t : Int)) = false := by simp; omega
        clear hi hok hPM hF hl hn hm hz hg2 ea hrow htop ht hq hgo2 hgl2
        go_enter Try.func16, Try.ntmps16
        go_wp2_with fail
        go_quiet (fail)
        clear g0 g1 gd
        have HBQ := Lib.hid (below_drewN w.heap.size w nq)
        go_wp2
        go_loopw [5, 42] (fun v i wr => ∃ k : Nat, k ≤ n ∧ i = .int .i64 k ∧ wr.ownsRow w.heap.size 9 1 v k (strs (ML.take k)) ∧ Below w.heap.size w wr) (fun _ i _ => n - (intOf i).toNat)
        case atStart => exact ⟨0, by omega, rfl, World.ownsRow_nil _ _ _ _, HBQ.out⟩
        case round =>
          obtain ⟨k, hk, rfl, ho, hB⟩ := hrel
          by_cases hlt : k < n
          · have i0 : (0 : Int) ≤ (k : Int) := by omega
            have i1 : (k : Int) < (n : Int) := by omega
            have hkk : k < S.L.length := by have := HN.out; omega
            have hpi := HI.out.kept (w' := wr) (fun j hj => hB.block j (HI.out.lt j hj))
            obtain ⟨g, c', b, off, c2', e1, hle', hcm', hgo, c0r, ck, e2, hrs⟩ := hpi.at hkk
            obtain ⟨ag, hag⟩ : a = some ⟨g, 0, none⟩ ∧ True := ⟨by simp at e1; exact e1.1, trivial⟩
            have hkl := HOK.out.s k hkk
            have hla := last_any _ _ _ _ wr hrs hkl.1 (by omega)
            have htl := take_last S.L ML HML.out hkk
            obtain ⟨y, hy⟩ : ∃ y, y = lastB (LAt S.L k) := ⟨_, rfl⟩
            rw [← hy] at hla htl
            rw [e2] at ck
            obtain ⟨i9, hi9, hz0, hz1, hz2⟩ := info_parts Try.info9
            have ho2 := ho.alloc (.cells #[.string y] 9)
            have HLA := Lib.hid hla
            have HTL := Lib.hid htl
            have HOW := Lib.hid ho2
            have HB := Lib.hid (hB.alloc hB.size (.cells #[.string y] 9))
            subst ag
            generalize hln : (LAt S.L k).length = ln at *
            clear hB ho ho2 hpi hrs hla htl hy e1 e2 hgo hkl hln
            go_wp2_with fail
            refine HLA.out.mono ?_
            rintro r w1 ⟨rfl, hw1⟩; obtain rfl := hw1.symm; clear hw1
            go_wp2_with (at_builtin; refine wpList_append_s (o := ⟨some 50, _, _, _, _, _⟩) rfl (.tmp 46) (.tmp 49) 22 rfl w.heap.size i9 Try.underlying22 hi9 hz0 hz1 hz2 _ k _ (by rfl) HOW.out y (by rfl) rfl (by omega) HB.out.size ?_)
            intro v5 w5 how5 hg5 hat5
            rw [← HTL.out] at how5
            have hB5 := HB.out.grown hg5 HB.out.size (fun j hj => (HOW.out.lt j hj).1)
            have HB5 := Lib.hid hB5
            have HO5 := Lib.hid how5
            clear how5 hg5 hat5 hB5
            go_wp2
            go_roundw
            case rel => exact ⟨k + 1, by omega, by go_num, HO5.out, HB5.out⟩
            case measure => simp [intOf]; omega
          · obtain rfl : k = n := by omega
            have i1 : ¬ (k : Int) < (k : Int) := by omega
            have hall : ML.take k = ML := List.take_of_length_le (by rw [HML.out]; simp; have := HN.out; omega)
            rw [hall] at ho
            have hpi := HI.out.kept (w' := wr) (fun j hj => hB.block j (HI.out.lt j hj))
            have c1r : wr.cell? ⟨p, 1, none⟩ = some (.slice (some ⟨g2, 0, none⟩) m c2) := by rw [cell_of_blk hpi.blk]; rfl
            have c1a : ∀ o, (wr.alloc o).cell? ⟨p, 1, none⟩ = some (.slice (some ⟨g2, 0, none⟩) m c2) := fun o => by rw [World.cell?_of_block (w := wr) (Below.heap_alloc wr _ _ (lt_of_block hpi.blk))]; exact c1r
            have how := fun o => hpi.own2.alloc o
            rw [← HM.out] at how
            have hol5 : ML.length = k := by rw [HML.out]; simp; have := HN.out; omega
            obtain ⟨a5, n5, rfl, _, _, _⟩ := owns_shape1 ho
            obtain ⟨ii, hii, hiz0, hiz1, hiz2⟩ := info_parts Try.infoIm
            have hnew : ∀ (j : Nat) (u : Value), [Value.int .u64 (e : Int), .slice a5 k n5][j]? = some u → (wr.alloc (.cells #[.int .u64 (e : Int), .slice a5 k n5] 63)).cell? ((⟨wr.heap.size, 0, none⟩ : Addr).add j) = some u := fun j u hj => by
              rw [Addr.add_none, cell_of_blk (heap_alloc_new wr _), Nat.zero_add]; simpa using hj
            have HOW := Lib.hid how
            have HNEW := Lib.hid hnew
            have HB := Lib.hid hB
            have HO := Lib.hid ho
            have HOL := Lib.hid hol5
            have c1b := c1a (.cells #[.int .u64 (e : Int), .slice a5 k n5] 63)
            clear hpi how hnew hB ho hol5 hall c0 c1 c1a
            go_wp2_with (at_builtin; refine wpList_append_own_at _ (o := ⟨some 61, _, _, _, _, _⟩) rfl (.tmp 56) (.tmp 60) 54 rfl 0 63 ii _ 2 32 Try.underlying54 hii hiz0 hiz1 hiz2 rfl (by omega) _ m _ (by rfl) (HOW.out _) ⟨wr.heap.size, 0, none⟩ 1 1 [.int .u64 (e : Int), .slice a5 k n5] (by rfl) rfl HNEW.out (by simp [Value.oneCell']) (by unfold maxLen; omega) (by omega) (Nat.zero_le _) ?_)
            intro v6 w6 how6 hg6 _ hat6
            obtain ⟨a6, n6, rfl, _, _, _⟩ := owns_shape1 how6
            obtain ⟨c6, f6, hend⟩ := HEND.out wr _ w6 _ ML HB.out (by rw [HOL.out]; exact HO.out) how6 hg6 (by simpa using hat6)
            have HE := Lib.hid hend
            clear how6 hg6 hat6 hend
            go_wp2
            go_ret
            rw [HX.out, ← HML.out]
            exact ⟨rfl, HE.out⟩

end Ap
end Go.Proofs.Ythapcpfemmfhoaa


/-
  Pasts: the document's Seal, Image.
-/
import Derived.Test.YthapcpfemmfhoaaAPA
namespace Go.Proofs.Ythapcpfemmfhoaa
namespace Ap
open Go.RowKit
set_option linter.unusedVariables false
set_option linter.unusedSimpArgs false

/-- The first half of a seal: behind the append of the epoch. -/
theorem rseal1 {w wr w6 : World} {p n : Nat} {F : Nat → Prop} {v1 v2 v3 v5 v6 : Value} {vs xs : List Value} {S : PS} {l : List Value} (hi : RI w p v1 v2 v3 vs xs S) (hF : ∀ k, rf p v1 v2 v3 vs xs S k → F k) (hB : Below w.heap.size w wr) (e : Nat)
    (h5 : wr.ownsRow w.heap.size 9 1 v5 n l) (how : w6.ownsRow 0 30 1 v6 (S.E.length + 1) (eps S.E ++ [.int .u64 (e : Int)])) (hgr : (wr.alloc (.cells #[.int .u64 (e : Int)] 30)).grownBy w6 v2.ownBlock)
    (hat : v6.ownBlock = v2.ownBlock ∨ v6.ownBlock = some (wr.heap.size + 1)) :
    w6.cell? ⟨p, 1, none⟩ = some v2 ∧ (∀ i, w6.frozen? ⟨p, i, none⟩ = false) ∧ (w6.setCell ⟨p, 1, none⟩ v6).heap[p]? = some (.cells #[v1, v6, v3] 49 (0, 0)) ∧
    (∀ k, k < w.heap.size → k ≠ p → v2.ownBlock ≠ some k → (w6.setCell ⟨p, 1, none⟩ v6).heap[k]? = w.heap[k]?) ∧ (w6.setCell ⟨p, 1, none⟩ v6).ownsRow 0 30 1 v6 (S.E.length + 1) (eps S.E ++ [.int .u64 (e : Int)]) ∧
    (w6.setCell ⟨p, 1, none⟩ v6).ownsRow w.heap.size 9 1 v5 n l ∧ Fr F w (w6.setCell ⟨p, 1, none⟩ v6) ∧ (∀ k, v6.ownBlock = some k → v2.ownBlock = some k ∨ w.heap.size ≤ k) ∧ (w6.setCell ⟨p, 1, none⟩ v6).ownsRow 0 22 1 v3 S.E.length xs := by
  have hpl := lt_of_block hi.blk
  have hs := hB.size
  have hold : ∀ k, k < wr.heap.size → v2.ownBlock ≠ some k → w6.heap[k]? = wr.heap[k]? := fun k hk hn => (hgr.block k (by simp; omega) (fun e => hn e.symm)).trans (Below.heap_alloc wr _ _ hk)
  have hkeep : ∀ k, k < w.heap.size → v2.ownBlock ≠ some k → w6.heap[k]? = w.heap[k]? := fun k hk hn => (hold k (by omega) hn).trans (hB.block k hk)
  have h2p : v2.ownBlock ≠ some p := fun e => by
    obtain ⟨cur, hc⟩ := owns_type hi.own2 e
    rw [hi.blk] at hc; simp at hc
  have hp6 : w6.heap[p]? = some (.cells #[v1, v2, v3] 49 (0, 0)) := (hkeep p hpl h2p).trans hi.blk
  have h6p : v6.ownBlock ≠ some p := fun e6 => by
    obtain ⟨cur, hc⟩ := owns_type how e6
    rw [hp6] at hc; simp at hc
  have hgs := hgr.size
  simp at hgs
  have h6f : ∀ k, v6.ownBlock = some k → v2.ownBlock = some k ∨ w.heap.size ≤ k := fun k e6 => by
    rcases hat with h | h
    · exact .inl (h ▸ e6)
    · rw [h] at e6; simp at e6; exact .inr (by omega)
  refine ⟨by rw [cell_of_blk hp6]; rfl, fun i => free_of_blk hp6 i, (blk_setCell hp6).trans (by simp), fun k hk hn h2 => by rw [heap_set_other hn]; exact hkeep k hk h2, owns_set_other how h6p _, ?_, ?_, h6f, ?_⟩
  · refine owns_kept h5 fun k e5 => ?_
    have hk := h5.lt k e5
    rw [heap_set_other (by omega)]
    exact hold k hk.2 fun e2 => by have := (hi.own2.lt k e2).2; omega
  · refine Fr.set (w' := w6) ⟨?_, ?_, ?_, by omega, fun k hk hn => hkeep k hk fun e2 => hn (hF _ (.inr (.inl e2)))⟩ (.inl (hF _ (.inl rfl)))
    · rw [hgr.os]; exact hB.os
    · rw [hgr.tape]; exact hB.tape
    · rw [hgr.output]; exact hB.output
  · refine owns_kept hi.own3 fun k e3 => ?_
    obtain ⟨cur, hc⟩ := owns_type hi.own3 e3
    rw [heap_set_other (fun e => by rw [e, hi.blk] at hc; simp at hc)]
    exact hkeep k (hi.own3.lt k e3).2 (fun e2 => by
      obtain ⟨cur2, hc2⟩ := owns_type hi.own2 e2
      rw [hc2] at hc; simp at hc)

/-- The second half: behind the append of the image. -/
theorem rseal2 {w w7 w8 : World} {p : Nat} {F : Nat → Prop} {v1 v2 v3 v5 v6 v8 : Value} {vs xs : List Value} {S : PS} {l : List ByteArray} (hi : RI w p v1 v2 v3 vs xs S) (hF : ∀ k, rf p v1 v2 v3 vs xs S k → F k) (hl : ∀ k, F k → k < w.heap.size) (e : Nat)
    (hp7 : w7.heap[p]? = some (.cells #[v1, v6, v3] 49 (0, 0))) (hk7 : ∀ k, k < w.heap.size → k ≠ p → v2.ownBlock ≠ some k → w7.heap[k]? = w.heap[k]?) (ho6 : w7.ownsRow 0 30 1 v6 (S.E.length + 1) (eps S.E ++ [.int .u64 (e : Int)])) (h5 : w7.ownsRow w.heap.size 9 1 v5 l.length (strs l))
    (hfr : Fr F w w7) (h6f : ∀ k, v6.ownBlock = some k → v2.ownBlock = some k ∨ w.heap.size ≤ k)
    (how : w8.ownsRow 0 22 1 v8 (S.E.length + 1) (xs ++ [v5])) (hgr : (w7.alloc (.cells #[v5] 22)).grownBy w8 v3.ownBlock) (hat : v8.ownBlock = v3.ownBlock ∨ v8.ownBlock = some (w7.heap.size + 1)) :
    w8.cell? ⟨p, 2, none⟩ = some v3 ∧ (∀ i, w8.frozen? ⟨p, i, none⟩ = false) ∧ RQ w F p ⟨S.L, S.E ++ [(e, l)]⟩ (w8.setCell ⟨p, 2, none⟩ v8) := by
  have hpl := lt_of_block hi.blk
  have hs := hfr.size
  have hold : ∀ k, k < w7.heap.size → v3.ownBlock ≠ some k → w8.heap[k]? = w7.heap[k]? := fun k hk hn => (hgr.block k (by simp; omega) (fun e => hn e.symm)).trans (Below.heap_alloc w7 _ _ hk)
  have h3p : v3.ownBlock ≠ some p := fun e => by
    obtain ⟨cur, hc⟩ := owns_type hi.own3 e
    rw [hi.blk] at hc; simp at hc
  have hp8 : w8.heap[p]? = some (.cells #[v1, v6, v3] 49 (0, 0)) := (hold p (by omega) h3p).trans hp7
  have hcfp := hi.co.ne_ty hi.blk (by decide) (by decide)
  have hcf2 : ∀ k, cf v1 vs xs S k → v2.ownBlock ≠ some k := fun k hk e => by
    obtain ⟨cur, hc⟩ := owns_type hi.own2 e
    exact hi.co.ne_ty hc (by decide) (by decide) k hk rfl
  have hcf3 : ∀ k, cf v1 vs xs S k → v3.ownBlock ≠ some k := fun k hk e3 => by
    obtain ⟨cur, hc⟩ := owns_type hi.own3 e3
    rcases hk with e | ⟨i, hi', e⟩ | ⟨j, hj, e⟩
    · exact hi.ne13 k e e3
    · obtain ⟨b, cs, eb, hb, _⟩ := (hi.co.lists i hi').blk
      rw [eb] at e; cases e
      rw [hc] at hb; simp at hb
    · obtain ⟨cur2, hc2⟩ := owns_type (hi.co.pics j hj) e
      rw [hc] at hc2; simp at hc2
  have hxf : ∀ k, v5.ownBlock = some k → w.heap.size ≤ k := fun k e5 => (h5.lt k e5).1
  have hx8 : w8.ownsRow 0 9 1 v5 l.length (strs l) := by
    refine owns_kept (owns_low h5 (Nat.zero_le _)) fun k e5 => hold k (h5.lt k e5).2 fun e3 => ?_
    have h1 := (h5.lt k e5).1
    have h2 := (hi.own3.lt k e3).2
    omega
  have hco := hi.co.pic (w2 := w8) (x := v5) (l := l) (e := e) (fun k hk => (hold k (by have := hi.co.lt k hk; omega) (hcf3 k hk)).trans (hk7 k (hi.co.lt k hk) (hcfp k hk) (hcf2 k hk))) hx8 hxf
  have hne := hco.ne_ty hp8 (by decide) (by decide)
  have h8p : v8.ownBlock ≠ some p := fun e8 => by
    obtain ⟨cur, hc⟩ := owns_type how e8
    rw [hp8] at hc; simp at hc
  have h6p : ∀ k, v6.ownBlock = some k → k ≠ p := by
    rintro k e6 rfl
    obtain ⟨cur, hc⟩ := owns_type ho6 e6
    rw [hp7] at hc; simp at hc
  have hgs := hgr.size
  simp at hgs
  have h8f : ∀ k, v8.ownBlock = some k → v3.ownBlock = some k ∨ w.heap.size ≤ k := fun k e8 => by
    rcases hat with h | h
    · exact .inl (h ▸ e8)
    · rw [h] at e8; simp at e8; exact .inr (by omega)
  have hre : eps (S.E ++ [(e, l)]) = eps S.E ++ [.int .u64 (e : Int)] := by simp [eps]
  have hle : (S.E ++ [(e, l)]).length = S.E.length + 1 := by simp
  have hri : RI (w8.setCell ⟨p, 2, none⟩ v8) p v1 v6 v8 vs (xs ++ [v5]) ⟨S.L, S.E ++ [(e, l)]⟩ := by
    refine ⟨(blk_setCell hp8).trans (by simp), hco.kept fun k hk => heap_set_other (hne k hk), ?_, ?_, ?_⟩
    · show World.ownsRow _ _ _ _ _ (S.E ++ [(e, l)]).length (eps (S.E ++ [(e, l)]))
      rw [hre, hle]
      refine owns_kept ho6 fun k e6 => ?_
      rw [heap_set_other (h6p k e6)]
      refine hold k (ho6.lt k e6).2 fun e3 => ?_
      have hk3 := (hi.own3.lt k e3).2
      rcases h6f k e6 with h | h
      · obtain ⟨cur, hc⟩ := owns_type hi.own2 h
        obtain ⟨cur2, hc2⟩ := owns_type hi.own3 e3
        rw [hc] at hc2; simp at hc2
      · omega
    · show World.ownsRow _ _ _ _ _ (S.E ++ [(e, l)]).length _
      rw [hle]
      exact owns_set_other how h8p _
    · intro k e1 e8
      rcases h8f k e8 with h | h
      · exact hi.ne13 k e1 h
      · have := hi.co.lt k (.inl e1); omega
  refine ⟨by rw [cell_of_blk hp8]; rfl, fun i => free_of_blk hp8 i, fun j => F j ∨ (w.heap.size ≤ j ∧ j < w8.heap.size), ⟨_, _, _, _, _, hri, ?_, ?_⟩, ?_, ?_⟩
  · have hlt := fun j hj => show j < w8.heap.size from by have := hri.lt j hj; simpa using this
    intro j hj
    have hj' := hj
    rcases hj with rfl | e6 | e8 | ec
    · exact .inl (hF _ (.inl rfl))
    · rcases h6f j e6 with h | h
      · exact .inl (hF _ (.inr (.inl h)))
      · exact .inr ⟨h, hlt j hj'⟩
    · rcases h8f j e8 with h | h
      · exact .inl (hF _ (.inr (.inr (.inl h))))
      · exact .inr ⟨h, hlt j hj'⟩
    · rcases cf_pic hi.co hxf j ec with h | h
      · exact .inl (hF _ (.inr (.inr (.inr h))))
      · exact .inr ⟨h, hlt j hj'⟩
  · rintro j (h | h)
    · have := hl j h; simp; omega
    · simp; omega
  · refine Fr.set (w' := w8) ⟨?_, ?_, ?_, by omega, fun k hk hn => (hold k (by omega) (fun e3 => hn (hF _ (.inr (.inr (.inl e3)))))).trans (hfr.block k hk hn)⟩ (.inl (hF _ (.inl rfl)))
    · rw [hgr.os]; exact hfr.os
    · rw [hgr.tape]; exact hfr.tape
    · rw [hgr.output]; exact hfr.output
  · rintro j (h | h)
    · exact .inl h
    · exact .inr h.1

theorem eps_at (E : List (Nat × List ByteArray)) {k : Nat} (hk : k < E.length) : (eps E)[k]? = some (.int .u64 ((EAt E k).1 : Int)) := by
  unfold eps EAt
  rw [List.getElem?_map, List.getElem?_eq_getElem hk]
  rfl

set_option maxRecDepth 20000 in
set_option maxHeartbeats 2000000 in
theorem rseal_any (p : Nat) (F : Nat → Prop) (S : PS) (e : Nat) (w : World) (h : RM w p F S) (N : Nat) (hok : S.ok N) (hN : N ≤ 1000) (he : e < 18446744073709551616) :
    Calls Try.prog 17 #[.pointer (some ⟨p, 0, none⟩), .int .u64 (e : Int)] w fun r w' => r = .returned (.int .i64 (S.sealP e).1) ∧ RQ w F p (S.sealP e).2 w' := by
  have hPM := h
  obtain ⟨v1, v2, v3, vs, xs, hi, hF, hl⟩ := h
  have hol := hok.l
  have hoe := hok.e
  obtain ⟨a, c, a2, c2, a3, c3, rfl, hle, hcm, rfl, hle2, hcm2, rfl, hle3, hcm3, c0, c1, c22⟩ := hi.cells
  have hmx : (c : Int) ≤ 9223372036854775807 := by unfold maxLen at hcm; omega
  have hmx2 : (c2 : Int) ≤ 9223372036854775807 := by unfold maxLen at hcm2; omega
  have hpl := lt_of_block hi.blk
  obtain ⟨n, hn⟩ : ∃ n, n = S.L.length := ⟨_, rfl⟩
  obtain ⟨m, hm⟩ : ∃ m, m = S.E.length := ⟨_, rfl⟩
  have HN := Lib.hid hn
  have HM := Lib.hid hm
  have HI := Lib.hid hi
  have HOK := Lib.hid hok
  obtain ⟨ML, hML⟩ : ∃ ML, ML = S.L.map lastB := ⟨_, rfl⟩
  have HML := Lib.hid hML
  clear hML
  have HPM := Lib.hid hPM
  have HE1 := Lib.hid (fun wr v5 w6 v6 k l hB h5 how hgr hat => rseal1 (n := k) (l := l) (wr := wr) (v5 := v5) (w6 := w6) (v6 := v6) hi hF hB e h5 how hgr hat)
  have HE2 := Lib.hid (fun w7 w8 v5 v6 v8 l hp7 hk7 ho6 h5 hfr h6f how hgr hat => rseal2 (w7 := w7) (w8 := w8) (v5 := v5) (v6 := v6) (v8 := v8) (l := l) hi hF hl e hp7 hk7 ho6 h5 hfr h6f how hgr hat)
  rw [← hn, ← hm] at HI
  rw [← hm] at HE1 HE2
  rw [← hn] at c0 hle hol
  rw [← hm] at c1 c22 hle2 hle3 hoe
  by_cases hz : e = 0
  · subst hz
    have HX := Lib.hid (show S.sealP 0 = (14, S) from by unfold PS.sealP; rw [if_pos (.inl rfl)])
    have e0 : (((0 : Nat) : Int) == 0) = true := rfl
    clear hi hok hPM hF hl hn hm HE1 HE2
    go_enter Try.func17, Try.ntmps17
    go_wp2_with fail
    go_quiet (fail)
    go_wp2
    go_ret
    rw [HX.out]
    exact ⟨rfl, RQ.below HPM.out (below_drewN _ _ _)⟩
  · have e0 : ((e : Int) == 0) = false := by simp; omega
    by_cases hm0 : m = 0
    · have HX := Lib.hid (show S.sealP e = (0, ⟨S.L, S.E ++ [(e, S.L.map lastB)]⟩) from by unfold PS.sealP; rw [if_neg (by omega)])
      have g0 : ¬ (0 : Int) < (m : Int) := by omega
      have g1 : ¬ (0 < m) := by omega
      have gd : decide ((0 : Int) < (m : Int)) = false := by simp; omega
      clear hi hok hPM hF hl hn hm hz hm0
      go_enter Try.func17, Try.ntmps17
      go_wp2_with fail
      go_quiet (fail)
      clear g0 g1 gd
      have HBQ := Lib.hid (below_drewN w.heap.size w nq)
      go_wp2
      go_loopw [5, 6] (fun v i wr => ∃ k : Nat, k ≤ n ∧ i = .int .i64 k ∧ wr.ownsRow w.heap.size 9 1 v k (strs (ML.take k)) ∧ Below w.heap.size w wr) (fun _ i _ => n - (intOf i).toNat)
      case atStart => exact ⟨0, by omega, rfl, World.ownsRow_nil _ _ _ _, HBQ.out⟩
      case round =>
        obtain ⟨k, hk, rfl, ho, hB⟩ := hrel
        have hpi := HI.out.kept (w' := wr) (fun j hj => hB.block j (HI.out.lt j hj))
        have c0r : wr.cell? ⟨p, 0, none⟩ = some (.slice a n c) := by rw [cell_of_blk hpi.blk]; rfl
        by_cases hlt : k < n
        · have i0 : (0 : Int) ≤ (k : Int) := by omega
          have i1 : (k : Int) < (n : Int) := by omega
          have hkk : k < S.L.length := by have := HN.out; omega
          have hla := rlast_any p F S (k : Int) wr (HPM.out.below hB) N HOK.out hN
          have hlv : S.last (k : Int) = (lastB (LAt S.L k), 0) := by unfold PS.last; rw [if_pos ⟨by omega, by omega⟩]; rfl
          rw [hlv] at hla
          unfold twoV at hla
          have htl := take_last S.L ML HML.out hkk
          obtain ⟨y, hy⟩ : ∃ y, y = lastB (LAt S.L k) := ⟨_, rfl⟩
          rw [← hy] at hla htl
          obtain ⟨i9, hi9, hz0, hz1, hz2⟩ := info_parts Try.info9
          have ho2 := ho.alloc (.cells #[.string y] 9)
          have HLA := Lib.hid hla
          have HTL := Lib.hid htl
          have HOW := Lib.hid ho2
          have HB := Lib.hid (hB.alloc hB.size (.cells #[.string y] 9))
          clear hB ho ho2 hpi hla htl hy hlv
          go_wp2_with fail
          refine HLA.out.mono ?_
          rintro r w1 ⟨rfl, hw1⟩; obtain rfl := hw1.symm; clear hw1
          go_wp2_with (at_builtin; refine wpList_append_s (o := ⟨some 53, _, _, _, _, _⟩) rfl (.tmp 50) (.tmp 52) 22 rfl w.heap.size i9 Try.underlying22 hi9 hz0 hz1 hz2 _ k _ (by rfl) HOW.out y (by rfl) rfl (by omega) HB.out.size ?_)
          intro v5 w5 how5 hg5 hat5
          rw [← HTL.out] at how5
          have hB5 := HB.out.grown hg5 HB.out.size (fun j hj => (HOW.out.lt j hj).1)
          have HB5 := Lib.hid hB5
          have HO5 := Lib.hid how5
          clear how5 hg5 hat5 hB5
          go_wp2
          go_roundw
          case rel => exact ⟨k + 1, by omega, by go_num, HO5.out, HB5.out⟩
          case measure => simp [intOf]; omega
        · obtain rfl : k = n := by omega
          have i1 : ¬ (k : Int) < (k : Int) := by omega
          have hall : ML.take k = ML := List.take_of_length_le (by rw [HML.out]; simp; have := HN.out; omega)
          rw [hall] at ho
          have c1r : wr.cell? ⟨p, 1, none⟩ = some (.slice a2 m c2) := by rw [cell_of_blk hpi.blk]; rfl
          have how := hpi.own2.alloc (.cells #[.int .u64 (e : Int)] 30)
          rw [← HM.out] at how
          have hol5 : ML.length = k := by rw [HML.out]; simp; have := HN.out; omega
          obtain ⟨a5, n5, rfl, _, _, _⟩ := owns_shape1 ho
          obtain ⟨iu, hiu, hiz0, hiz1, hiz2⟩ := info_parts Try.infoU8
          obtain ⟨is, his, hsz0, hsz1, hsz2⟩ := info_parts Try.infoSl
          have hnew : ∀ (j : Nat) (u : Value), [Value.int .u64 (e : Int)][j]? = some u → (wr.alloc (.cells #[.int .u64 (e : Int)] 30)).cell? ((⟨wr.heap.size, 0, none⟩ : Addr).add j) = some u := fun j u hj => by
            rw [Addr.add_none, cell_of_blk (heap_alloc_new wr _), Nat.zero_add]; simpa using hj
          have HOW := Lib.hid how
          have HNEW := Lib.hid hnew
          have HB := Lib.hid hB
          have HO := Lib.hid ho
          have HOL := Lib.hid hol5
          have c1b : (wr.alloc (.cells #[.int .u64 (e : Int)] 30)).cell? ⟨p, 1, none⟩ = some (.slice a2 m c2) := by rw [World.cell?_of_block (w := wr) (Below.heap_alloc wr _ _ (lt_of_block hpi.blk))]; exact c1r
          clear hpi how hnew hB ho hol5 hall c0 c1
          go_wp2_with (at_builtin; refine wpList_append_own_at _ (o := ⟨some 61, _, _, _, _, _⟩) rfl (.tmp 58) (.tmp 60) 45 rfl 0 30 iu _ 1 8 Try.underlying45 hiu hiz0 hiz1 hiz2 rfl (by omega) _ m _ (by rfl) HOW.out ⟨wr.heap.size, 0, none⟩ 1 1 [.int .u64 (e : Int)] (by rfl) rfl HNEW.out (by simp [Value.oneCell']) (by unfold maxLen; omega) (by omega) (Nat.zero_le _) ?_)
          intro v6 w6 how6 hg6 _ hat6
          obtain ⟨a6, n6, rfl, _, _, _⟩ := owns_shape1 how6
          obtain ⟨d6, f6, hp7, hk7, ho7, h57, hfr7, h6f, h37⟩ := HE1.out wr _ w6 _ _ _ HB.out HO.out how6 hg6 (by simpa using hat6)
          obtain ⟨W7, hW7⟩ : ∃ W7, W7 = w6.setCell ⟨p, 1, none⟩ (.slice a6 (m + 1) n6) := ⟨_, rfl⟩
          have HW7 := Lib.hid hW7
          rw [← hW7] at hp7 hk7 ho7 h57 hfr7 h37
          have d7 : W7.cell? ⟨p, 2, none⟩ = some (.slice a3 m c3) := by rw [cell_of_blk hp7]; rfl
          have d8 : (W7.alloc (.cells #[.slice a5 k n5] 22)).cell? ⟨p, 2, none⟩ = some (.slice a3 m c3) := by rw [World.cell?_of_block (w := W7) (Below.heap_alloc W7 _ _ (lt_of_block hp7))]; exact d7
          have hnew2 : ∀ (j : Nat) (u : Value), [Value.slice a5 k n5][j]? = some u → (W7.alloc (.cells #[.slice a5 k n5] 22)).cell? ((⟨W7.heap.size, 0, none⟩ : Addr).add j) = some u := fun j u hj => by
            rw [Addr.add_none, cell_of_blk (heap_alloc_new W7 _), Nat.zero_add]; simpa using hj
          have HNEW2 := Lib.hid hnew2
          have H37 := Lib.hid (h37.alloc (.cells #[.slice a5 k n5] 22))
          have HEND := Lib.hid (fun w8 v8 (how : World.ownsRow w8 0 22 1 v8 (m + 1) (xs ++ [.slice a5 k n5])) (hgr : (W7.alloc (.cells #[.slice a5 k n5] 22)).grownBy w8 (Value.ownBlock (.slice a3 m c3))) (hat : v8.ownBlock = Value.ownBlock (.slice a3 m c3) ∨ v8.ownBlock = some (W7.heap.size + 1)) => HE2.out W7 w8 _ _ v8 ML hp7 hk7 ho7 (by rw [HOL.out]; exact h57) hfr7 h6f how hgr hat)
          clear how6 hg6 hat6 hp7 hk7 ho7 h57 hfr7 h6f h37 hnew2 hW7
          go_upto_region 10 with fail
          rw [← HW7.out]
          go_wp2_with (at_builtin; refine wpList_append_own_at _ (o := ⟨some 71, _, _, _, _, _⟩) rfl (.tmp 68) (.tmp 70) 47 rfl 0 22 is _ 1 24 Try.underlying47 his hsz0 hsz1 hsz2 rfl (by omega) _ m _ (by rfl) H37.out ⟨W7.heap.size, 0, none⟩ 1 1 [.slice a5 k n5] (by rfl) rfl HNEW2.out (by simp [Value.oneCell']) (by unfold maxLen; omega) (by omega) (Nat.zero_le _) ?_)
          intro v8 w8 how8 hg8 _ hat8
          obtain ⟨a8, n8, rfl, _, _, _⟩ := owns_shape1 how8
          obtain ⟨d9, f9, hend⟩ := HEND.out w8 _ how8 hg8 (by simpa using hat8)
          have HE := Lib.hid hend
          clear how8 hg8 hat8 hend
          go_wp2
          go_ret
          rw [HX.out, ← HML.out]
          exact ⟨rfl, HE.out⟩
    · obtain ⟨q, hq⟩ : ∃ q, q = m - 1 := ⟨_, rfl⟩
      have g0 : (0 : Int) < (m : Int) := by omega
      have gn : decide (0 < m) = true := decide_eq_true (by omega)
      have m1 : IntKind.i64.wrap ((m : Int) - 1) = (q : Int) := by rw [IntWalk.i64_in _ (by omega)]; omega
      have m2 : (0 : Int) ≤ (q : Int) := by omega
      have m3 : (q : Int) < (m : Int) := by omega
      obtain ⟨a2', c2', ea, _, _, hg2⟩ := owns_shape1 hi.own2
      obtain ⟨g2, rfl, hgo2, _, hgl2⟩ := hg2 (by omega)
      have ea' : a2 = some ⟨g2, 0, none⟩ := by simp at ea; exact ea.1
      subst ea'
      have ct := owns_cell hi.own2 hgo2 _ _ (eps_at S.E (k := q) (by omega))
      have htop : S.top = (EAt S.E q).1 := by unfold PS.top; rw [hq, hm]
      obtain ⟨t, ht⟩ : ∃ t, t = (EAt S.E q).1 := ⟨_, rfl⟩
      rw [← ht] at ct htop
      by_cases hle3 : e ≤ t
      · have HX := Lib.hid (show S.sealP e = (14, S) from by unfold PS.sealP; rw [if_pos (.inr ⟨by omega, by omega⟩)])
        have g1 : (e : Int) ≤ (t : Int) := by omega
        have g3 : decide (e ≤ t) = true := decide_eq_true hle3
        have g4 : decide ((e : Int) ≤ (t : Int)) = true := decide_eq_true g1
        clear hi hok hPM hF hl hn hm hz HE1 HE2 hg2 ea htop ht hq
        go_enter Try.func17, Try.ntmps17
        go_wp2_with fail
        go_quiet (fail)
        go_wp2
        go_ret
        rw [HX.out]
        exact ⟨rfl, RQ.below HPM.out (below_drewN _ _ _)⟩
      · have HX := Lib.hid (show S.sealP e = (0, ⟨S.L, S.E ++ [(e, S.L.map lastB)]⟩) from by unfold PS.sealP; rw [if_neg (by omega)])
        have g1 : ¬ (e : Int) ≤ (t : Int) := by omega
        have g3 : decide (e ≤ t) = false := decide_eq_false hle3
        have gd : decide ((e : Int) ≤ (t : Int)) = false := by simp; omega
        clear hi hok hPM hF hl hn hm hz hg2 ea htop ht hq hgo2 hgl2
        go_enter Try.func17, Try.ntmps17
        go_wp2_with fail
        go_quiet (fail)
        clear g0 g1 gd
        have HBQ := Lib.hid (below_drewN w.heap.size w nq)
        go_wp2
        go_loopw [5, 6] (fun v i wr => ∃ k : Nat, k ≤ n ∧ i = .int .i64 k ∧ wr.ownsRow w.heap.size 9 1 v k (strs (ML.take k)) ∧ Below w.heap.size w wr) (fun _ i _ => n - (intOf i).toNat)
        case atStart => exact ⟨0, by omega, rfl, World.ownsRow_nil _ _ _ _, HBQ.out⟩
        case round =>
          obtain ⟨k, hk, rfl, ho, hB⟩ := hrel
          have hpi := HI.out.kept (w' := wr) (fun j hj => hB.block j (HI.out.lt j hj))
          have c0r : wr.cell? ⟨p, 0, none⟩ = some (.slice a n c) := by rw [cell_of_blk hpi.blk]; rfl
          by_cases hlt : k < n
          · have i0 : (0 : Int) ≤ (k : Int) := by omega
            have i1 : (k : Int) < (n : Int) := by omega
            have hkk : k < S.L.length := by have := HN.out; omega
            have hla := rlast_any p F S (k : Int) wr (HPM.out.below hB) N HOK.out hN
            have hlv : S.last (k : Int) = (lastB (LAt S.L k), 0) := by unfold PS.last; rw [if_pos ⟨by omega, by omega⟩]; rfl
            rw [hlv] at hla
            unfold twoV at hla
            have htl := take_last S.L ML HML.out hkk
            obtain ⟨y, hy⟩ : ∃ y, y = lastB (LAt S.L k) := ⟨_, rfl⟩
            rw [← hy] at hla htl
            obtain ⟨i9, hi9, hz0, hz1, hz2⟩ := info_parts Try.info9
            have ho2 := ho.alloc (.cells #[.string y] 9)
            have HLA := Lib.hid hla
            have HTL := Lib.hid htl
            have HOW := Lib.hid ho2
            have HB := Lib.hid (hB.alloc hB.size (.cells #[.string y] 9))
            clear hB ho ho2 hpi hla htl hy hlv
            go_wp2_with fail
            refine HLA.out.mono ?_
            rintro r w1 ⟨rfl, hw1⟩; obtain rfl := hw1.symm; clear hw1
            go_wp2_with (at_builtin; refine wpList_append_s (o := ⟨some 53, _, _, _, _, _⟩) rfl (.tmp 50) (.tmp 52) 22 rfl w.heap.size i9 Try.underlying22 hi9 hz0 hz1 hz2 _ k _ (by rfl) HOW.out y (by rfl) rfl (by omega) HB.out.size ?_)
            intro v5 w5 how5 hg5 hat5
            rw [← HTL.out] at how5
            have hB5 := HB.out.grown hg5 HB.out.size (fun j hj => (HOW.out.lt j hj).1)
            have HB5 := Lib.hid hB5
            have HO5 := Lib.hid how5
            clear how5 hg5 hat5 hB5
            go_wp2
            go_roundw
            case rel => exact ⟨k + 1, by omega, by go_num, HO5.out, HB5.out⟩
            case measure => simp [intOf]; omega
          · obtain rfl : k = n := by omega
            have i1 : ¬ (k : Int) < (k : Int) := by omega
            have hall : ML.take k = ML := List.take_of_length_le (by rw [HML.out]; simp; have := HN.out; omega)
            rw [hall] at ho
            have c1r : wr.cell? ⟨p, 1, none⟩ = some (.slice (some ⟨g2, 0, none⟩) m c2) := by rw [cell_of_blk hpi.blk]; rfl
            have how := hpi.own2.alloc (.cells #[.int .u64 (e : Int)] 30)
            rw [← HM.out] at how
            have hol5 : ML.length = k := by rw [HML.out]; simp; have := HN.out; omega
            obtain ⟨a5, n5, rfl, _, _, _⟩ := owns_shape1 ho
            obtain ⟨iu, hiu, hiz0, hiz1, hiz2⟩ := info_parts Try.infoU8
            obtain ⟨is, his, hsz0, hsz1, hsz2⟩ := info_parts Try.infoSl
            have hnew : ∀ (j : Nat) (u : Value), [Value.int .u64 (e : Int)][j]? = some u → (wr.alloc (.cells #[.int .u64 (e : Int)] 30)).cell? ((⟨wr.heap.size, 0, none⟩ : Addr).add j) = some u := fun j u hj => by
              rw [Addr.add_none, cell_of_blk (heap_alloc_new wr _), Nat.zero_add]; simpa using hj
            have HOW := Lib.hid how
            have HNEW := Lib.hid hnew
            have HB := Lib.hid hB
            have HO := Lib.hid ho
            have HOL := Lib.hid hol5
            have c1b : (wr.alloc (.cells #[.int .u64 (e : Int)] 30)).cell? ⟨p, 1, none⟩ = some (.slice (some ⟨g2, 0, none⟩) m c2) := by rw [World.cell?_of_block (w := wr) (Below.heap_alloc wr _ _ (lt_of_block hpi.blk))]; exact c1r
            clear hpi how hnew hB ho hol5 hall c0 c1
            go_wp2_with (at_builtin; refine wpList_append_own_at _ (o := ⟨some 61, _, _, _, _, _⟩) rfl (.tmp 58) (.tmp 60) 45 rfl 0 30 iu _ 1 8 Try.underlying45 hiu hiz0 hiz1 hiz2 rfl (by omega) _ m _ (by rfl) HOW.out ⟨wr.heap.size, 0, none⟩ 1 1 [.int .u64 (e : Int)] (by rfl) rfl HNEW.out (by simp [Value.oneCell']) (by unfold maxLen; omega) (by omega) (Nat.zero_le _) ?_)
            intro v6 w6 how6 hg6 _ hat6
            obtain ⟨a6, n6, rfl, _, _, _⟩ := owns_shape1 how6
            obtain ⟨d6, f6, hp7, hk7, ho7, h57, hfr7, h6f, h37⟩ := HE1.out wr _ w6 _ _ _ HB.out HO.out how6 hg6 (by simpa using hat6)
            obtain ⟨W7, hW7⟩ : ∃ W7, W7 = w6.setCell ⟨p, 1, none⟩ (.slice a6 (m + 1) n6) := ⟨_, rfl⟩
            have HW7 := Lib.hid hW7
            rw [← hW7] at hp7 hk7 ho7 h57 hfr7 h37
            have d7 : W7.cell? ⟨p, 2, none⟩ = some (.slice a3 m c3) := by rw [cell_of_blk hp7]; rfl
            have d8 : (W7.alloc (.cells #[.slice a5 k n5] 22)).cell? ⟨p, 2, none⟩ = some (.slice a3 m c3) := by rw [World.cell?_of_block (w := W7) (Below.heap_alloc W7 _ _ (lt_of_block hp7))]; exact d7
            have hnew2 : ∀ (j : Nat) (u : Value), [Value.slice a5 k n5][j]? = some u → (W7.alloc (.cells #[.slice a5 k n5] 22)).cell? ((⟨W7.heap.size, 0, none⟩ : Addr).add j) = some u := fun j u hj => by
              rw [Addr.add_none, cell_of_blk (heap_alloc_new W7 _), Nat.zero_add]; simpa using hj
            have HNEW2 := Lib.hid hnew2
            have H37 := Lib.hid (h37.alloc (.cells #[.slice a5 k n5] 22))
            have HEND := Lib.hid (fun w8 v8 (how : World.ownsRow w8 0 22 1 v8 (m + 1) (xs ++ [.slice a5 k n5])) (hgr : (W7.alloc (.cells #[.slice a5 k n5] 22)).grownBy w8 (Value.ownBlock (.slice a3 m c3))) (hat : v8.ownBlock = Value.ownBlock (.slice a3 m c3) ∨ v8.ownBlock = some (W7.heap.size + 1)) => HE2.out W7 w8 _ _ v8 ML hp7 hk7 ho7 (by rw [HOL.out]; exact h57) hfr7 h6f how hgr hat)
            clear how6 hg6 hat6 hp7 hk7 ho7 h57 hfr7 h6f h37 hnew2 hW7
            go_upto_region 10 with fail
            rw [← HW7.out]
            go_wp2_with (at_builtin; refine wpList_append_own_at _ (o := ⟨some 71, _, _, _, _, _⟩) rfl (.tmp 68) (.tmp 70) 47 rfl 0 22 is _ 1 24 Try.underlying47 his hsz0 hsz1 hsz2 rfl (by omega) _ m _ (by rfl) H37.out ⟨W7.heap.size, 0, none⟩ 1 1 [.slice a5 k n5] (by rfl) rfl HNEW2.out (by simp [Value.oneCell']) (by unfold maxLen; omega) (by omega) (Nat.zero_le _) ?_)
            intro v8 w8 how8 hg8 _ hat8
            obtain ⟨a8, n8, rfl, _, _, _⟩ := owns_shape1 how8
            obtain ⟨d9, f9, hend⟩ := HEND.out w8 _ how8 hg8 (by simpa using hat8)
            have HE := Lib.hid hend
            clear how8 hg8 hat8 hend
            go_wp2
            go_ret
            rw [HX.out, ← HML.out]
            exact ⟨rfl, HE.out⟩

set_option maxRecDepth 20000 in
set_option maxHeartbeats 1000000 in
theorem rimage_any (p : Nat) (F : Nat → Prop) (S : PS) (e : Nat) (w : World) (h : RM w p F S) (N : Nat) (hok : S.ok N) (hN : N ≤ 1000) (he : e < 18446744073709551616) :
    Calls Try.prog 21 #[.pointer (some ⟨p, 0, none⟩), .int .u64 (e : Int)] w fun r w' => Below w.heap.size w w' ∧ ∃ a n c, r = .returned (.tuple #[.slice a n c, .int .i64 (S.image e).2]) ∧ Rs w' a n c (S.image e).1 := by
  obtain ⟨v1, v2, v3, vs, xs, hi, hF, hl⟩ := h
  have hoe := hok.e
  obtain ⟨a, c, a2, c2, a3, c3, rfl, hle, hcm, rfl, hle2, hcm2, rfl, hle3, hcm3, c0, c1, c22⟩ := hi.cells
  have hmx2 : (c2 : Int) ≤ 9223372036854775807 := by unfold maxLen at hcm2; omega
  have hmx3 : (c3 : Int) ≤ 9223372036854775807 := by unfold maxLen at hcm3; omega
  obtain ⟨m, hm⟩ : ∃ m, m = S.E.length := ⟨_, rfl⟩
  have HM := Lib.hid hm
  have HI := Lib.hid hi
  have HOK := Lib.hid hok
  rw [← hm] at HI c1 c22 hle2 hle3 hoe
  clear hi hok hF hl hm c0
  go_enter Try.func21, Try.ntmps21
  go_wp2
  go_loopw [6] (fun i wr => ∃ k : Nat, k ≤ m ∧ i = .int .i64 k ∧ (∀ j, j < k → (EAt S.E j).1 ≠ e) ∧ Below w.heap.size w wr) (fun i _ => m - (intOf i).toNat)
  case atStart => exact ⟨0, by omega, rfl, fun j hj => by omega, Below.refl _ _⟩
  case round =>
    obtain ⟨k, hk, rfl, hall, hB⟩ := hrel
    have HALL := Lib.hid hall
    clear hall
    have hri := HI.out.kept (w' := wr) (fun x hx => hB.block x (HI.out.lt x hx))
    have d1 : wr.cell? ⟨p, 1, none⟩ = some (.slice a2 m c2) := by rw [cell_of_blk hri.blk]; rfl
    have d2 : wr.cell? ⟨p, 2, none⟩ = some (.slice a3 m c3) := by rw [cell_of_blk hri.blk]; rfl
    by_cases hlt : k < m
    · have i0 : (0 : Int) ≤ (k : Int) := by omega
      have i1 : (k : Int) < (m : Int) := by omega
      have hkk : k < S.E.length := by have := HM.out; omega
      obtain ⟨a2', c2', ea, _, _, hg2⟩ := owns_shape1 hri.own2
      obtain ⟨g2, rfl, hgo2, _, _⟩ := hg2 (by omega)
      obtain ⟨ag, hag⟩ : a2 = some ⟨g2, 0, none⟩ ∧ True := ⟨by simp at ea; exact ea.1, trivial⟩
      have ct := owns_cell hri.own2 hgo2 _ _ (eps_at S.E hkk)
      obtain ⟨a3', c3', ea3, _, _, hg3⟩ := owns_shape1 hri.own3
      obtain ⟨g3, rfl, hgo3, _, _⟩ := hg3 (by omega)
      obtain ⟨ag3, hag3⟩ : a3 = some ⟨g3, 0, none⟩ ∧ True := ⟨by simp at ea3; exact ea3.1, trivial⟩
      have cx := owns_cell hri.own3 hgo3 _ _ (vat_get (vs := xs) (i := k) (by rw [hri.co.xlen]; exact hkk))
      have hpic := hri.co.pics k hkk
      obtain ⟨a6, c6, e6, hrs, _⟩ := towns_shape hpic
      rw [e6] at cx
      obtain ⟨t, ht⟩ : ∃ t, t = (EAt S.E k).1 := ⟨_, rfl⟩
      rw [← ht] at ct
      have HB := Lib.hid hB
      have HRS := Lib.hid hrs
      have HT := Lib.hid ht
      subst ag
      subst ag3
      generalize hln : (EAt S.E k).2.length = ln at *
      clear hri ea ea3 hgo2 hgo3 hpic e6 hrs ht hB hln
      by_cases hte : t = e
      · have t1 : ((t : Int) == (e : Int)) = true := by simp; omega
        have HX := Lib.hid (show S.image e = ((EAt S.E k).2, 0) from by unfold PS.image; rw [find_first S.E e k hkk (by rw [← HT.out, hte]) HALL.out])
        subst hte
        go_wp2
        refine bodyPost_ret (results_tmp2 rfl _ _ _) rfl ?_
        rw [HX.out]
        exact ⟨HB.out, _, _, _, rfl, HRS.out⟩
      · have t1 : ((t : Int) == (e : Int)) = false := by simp; omega
        have HX := Lib.hid (show ∀ j, j < k + 1 → (EAt S.E j).1 ≠ e from fun j hj => by
          rcases Nat.lt_or_ge j k with h | h
          · exact HALL.out j h
          · obtain rfl : j = k := by omega
            rw [← HT.out]; exact hte)
        go_wp2
        go_roundw
        case rel => exact ⟨k + 1, by omega, by go_num, HX.out, HB.out⟩
        case measure => simp [intOf]; omega
    · obtain rfl : k = m := by omega
      have i1 : ¬ (k : Int) < (k : Int) := by omega
      have HX := Lib.hid (show S.image e = ([], 10) from by unfold PS.image; rw [find_none S.E e (fun j hj => HALL.out j (by have := HM.out; omega))])
      have HB := Lib.hid hB
      clear hri hB
      go_wp2
      refine bodyPost_ret (results_tmp2 rfl _ _ _) rfl ?_
      rw [HX.out]
      exact ⟨HB.out, none, 0, 0, rfl, rs_nil _⟩

end Ap
end Go.Proofs.Ythapcpfemmfhoaa


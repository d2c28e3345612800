/-
  The program's Cut, Drop, Copy.
-/
import Derived.Test.YthbfeflijlcboaaC4
namespace Go.Proofs.Ythbfeflijlcboaa
open Go.RowKit
set_option linter.unusedVariables false
set_option linter.unusedSimpArgs false

theorem puts_set (L : List (Int × ByteArray)) (k : Nat) (x : Int) (s : ByteArray) (hk : k < L.length) (hx : (wAt L k).1 = x) : (puts L).set (k * 2 + 1) (.string s) = puts (L.set k (x, s)) := by
  induction L generalizing k with
  | nil => simp at hk
  | cons y L ih =>
    cases k with
    | zero =>
      have e : x = y.1 := by rw [← hx]; rfl
      simp [puts, e]
    | succ k =>
      have := ih k (by simpa using hk) (by rw [← hx]; rfl)
      simp only [puts, List.flatMap_cons, List.set_cons_succ] at this ⊢
      rw [← this, show (k + 1) * 2 + 1 = k * 2 + 1 + 2 from by omega]
      simp

set_option maxRecDepth 20000 in
set_option maxHeartbeats 1000000 in
theorem cut_any (B p : Nat) (v : Value) (S : NS) (i n : Int) (w : World) (h : PN w B p v S) (hlen : S.L.length ≤ 60) :
    Calls Try.prog 21 #[.pointer (some ⟨p, 0, none⟩), .int .i64 i, .int .i64 n] w fun e w' => e = .returned (.int .i64 (S.cut i n).1) ∧ NP 53 pF w B p v (S.cut i n).2 w' := by
  obtain ⟨c0, c1, c2, c3, hf⟩ := PN.cells h
  obtain ⟨a, c, rfl, hle, hcm, hg⟩ := owns_shape1 (Nt.own h)
  have hfa := fault_any p i a S.L.length c w c3
  have HFA := Lib.hid hfa
  have H := Lib.hid h
  by_cases hs : S.has i
  · have hs' : 0 ≤ i ∧ i < (S.L.length : Int) := hs
    rw [if_pos hs'] at HFA
    obtain ⟨k, rfl, hk⟩ := has_nat hs
    obtain ⟨g, rfl, hgo, _, hgl⟩ := hg (by omega)
    obtain ⟨e1, e2⟩ := puts_at S.L k hk
    have g1 := owns_cell (Nt.own h) hgo _ _ e2
    have gf := owns_free (Nt.own h) hgo (k * 2 + 1)
    have i1 : (0 : Int) ≤ (k : Int) := by omega
    have i2 : (k : Int) < (S.L.length : Int) := by omega
    obtain ⟨W, hW⟩ : ∃ W, W = wAt S.L k := ⟨_, rfl⟩
    by_cases hn : n < 0 ∨ (W.2.size : Int) < n
    · have hu : S.cut (k : Int) n = (4, S) := by unfold NS.cut; rw [if_pos hs, if_pos (by rw [show (k : Int).toNat = k from rfl, ← hW]; exact hn)]
      rw [hu]
      rw [← hW] at g1
      obtain ⟨x, s⟩ := W
      dsimp only at hn g1
      clear hu h c0 c1 c2 hf hg hs hs' hfa hW hgo hgl hk e1 e2 gf
      by_cases hn0 : n < 0
      · clear hn
        go_enter Try.func21, Try.ntmps21
        go_wp2_with fail
        refine HFA.out.mono ?_
        rintro e w1 ⟨rfl, hw1⟩; obtain rfl := hw1.symm; clear hw1
        go_wp2
        go_ret
        exact ⟨rfl, NP.same H.out⟩
      · have hn1 : (s.size : Int) < n := by omega
        clear hn
        go_enter Try.func21, Try.ntmps21
        go_wp2_with fail
        refine HFA.out.mono ?_
        rintro e w1 ⟨rfl, hw1⟩; obtain rfl := hw1.symm; clear hw1
        go_wp2
        go_ret
        exact ⟨rfl, NP.same H.out⟩
    · obtain ⟨m, rfl⟩ : ∃ m : Nat, n = (m : Int) := ⟨n.toNat, by omega⟩
      have hu : S.cut (k : Int) (m : Int) = (0, ⟨S.L.set k (W.1, cutB W.2 m), S.sent, S.came, S.lost⟩) := by
        unfold NS.cut
        rw [if_pos hs, if_neg (by rw [show (k : Int).toNat = k from rfl, ← hW]; exact hn)]
        show _ = _
        rw [hW]
        rfl
      rw [hu]
      rw [← hW] at g1
      have hW1 : (wAt S.L k).1 = W.1 := by rw [hW]
      obtain ⟨x, s⟩ := W
      dsimp only at hn g1 hu hW1 ⊢
      have j1 : ¬ (m : Int) < 0 := by omega
      have j2 : ¬ (s.size : Int) < (m : Int) := by omega
      have j3 : (m : Int) ≤ (s.size : Int) := by omega
      have j4 : m ≤ s.size := by omega
      clear hu c0 c1 c2 hf hg hs hs' hfa hW hgl e1 e2 hn h
      go_enter Try.func21, Try.ntmps21
      go_wp2_with fail
      refine HFA.out.mono ?_
      rintro e w1 ⟨rfl, hw1⟩; obtain rfl := hw1.symm; clear hw1
      go_wp2
      go_ret
      have hb := (H.out).blk
      have hgp : g ≠ p := fun e => Nt.ne H.out (by decide) (by rw [hgo, e])
      refine ⟨rfl, .slice (some ⟨g, 0, none⟩) S.L.length c, ⟨?_, (H.out).low, ?_⟩, (Fr.refl _ _).set (.inl (.inr hgo)), fun k hk => .inl hk⟩
      · rw [Below.heap_setCell _ _ _ _ (by simpa using fun e => hgp e.symm)]
        exact hb
      · have := owns_set (H.out).own hgo (.string (s.extract 0 m)) (j := k * 2 + 1) (by rw [puts_length]; omega)
        rw [puts_set _ _ x _ hk hW1] at this
        simpa [cutB] using this
  · have hu : S.cut i n = (3, S) := by unfold NS.cut; rw [if_neg hs]
    have hs' : ¬ (0 ≤ i ∧ i < (S.L.length : Int)) := hs
    rw [hu]
    rw [if_neg hs'] at HFA
    clear hu h c0 c1 c2 c3 hf hg hs hs' hfa
    go_enter Try.func21, Try.ntmps21
    go_wp2_with fail
    refine HFA.out.mono ?_
    rintro e w1 ⟨rfl, hw1⟩; obtain rfl := hw1.symm; clear hw1
    go_wp2
    go_ret
    exact ⟨rfl, NP.same H.out⟩

set_option maxRecDepth 20000 in
set_option maxHeartbeats 400000 in
theorem twice_nil (i : Int) (w : World) : Calls Try.prog 20 #[.pointer none, .int .i64 i] w fun e w' => e = .returned (.int .i64 1) ∧ w' = w := by
  go_enter Try.func20, Try.ntmps20
  go_wp2_with fail
  refine (fault_nil i _).mono ?_
  rintro e w1 ⟨rfl, hw1⟩; obtain rfl := hw1.symm; clear hw1
  go_wp2
  go_ret
  exact ⟨rfl, rfl⟩
set_option maxRecDepth 20000 in
set_option maxHeartbeats 400000 in
theorem cut_nil (i n : Int) (w : World) : Calls Try.prog 21 #[.pointer none, .int .i64 i, .int .i64 n] w fun e w' => e = .returned (.int .i64 1) ∧ w' = w := by
  go_enter Try.func21, Try.ntmps21
  go_wp2_with fail
  refine (fault_nil i _).mono ?_
  rintro e w1 ⟨rfl, hw1⟩; obtain rfl := hw1.symm; clear hw1
  go_wp2
  go_ret
  exact ⟨rfl, rfl⟩
set_option maxRecDepth 20000 in
set_option maxHeartbeats 400000 in
theorem lose_nil (i : Int) (w : World) : Calls Try.prog 19 #[.pointer none, .int .i64 i] w fun e w' => e = .returned (.int .i64 1) ∧ Below w.heap.size w w' := by
  have HR := Lib.hid (remove_nil i w)
  unfold pkE pkV noBytes at HR
  go_enter Try.func19, Try.ntmps19
  go_wp2_with fail
  refine HR.out.mono ?_
  rintro e w1 ⟨rfl, hb1⟩
  have HB := Lib.hid (hb1.trans (((Below.refl w1.heap.size w1).alloc (Nat.le_refl _) (.cells #[.int .i64 0, .string ⟨#[]⟩] 41)).mono hb1.size))
  clear hb1
  go_wp2
  go_ret
  exact ⟨rfl, HB.out⟩
set_option maxRecDepth 20000 in
set_option maxHeartbeats 400000 in
theorem drop_nil (w : World) : Calls Try.prog 15 #[.pointer none] w fun e w' => e = .returned (.tuple #[]) ∧ w' = w := by
  go_enter Try.func15, Try.ntmps15
  go_wp2
  refine bodyPost_ret (results_none rfl _ _ _) rfl ?_
  exact ⟨rfl, rfl⟩
set_option maxRecDepth 20000 in
set_option maxHeartbeats 400000 in
theorem copy_nil (w : World) : Calls Try.prog 11 #[.pointer none] w fun e w' => e = .returned (.pointer none) ∧ w' = w := by
  go_enter Try.func11, Try.ntmps11
  go_wp2
  go_ret
  exact ⟨rfl, rfl⟩

set_option maxRecDepth 20000 in
set_option maxHeartbeats 1000000 in
theorem drop_any (B p : Nat) (v : Value) (S : NS) (w : World) (N : Nat) (h : PN w B p v S) (hok : S.ok N) (hN : N ≤ 1000000) :
    Calls Try.prog 15 #[.pointer (some ⟨p, 0, none⟩)] w fun e w' => e = .returned (.tuple #[]) ∧ NP 53 pF w B p v S.drop w' := by
  have hca := hok.came
  have hlen := hok.len
  obtain ⟨c0, c1, c2, c3, hf⟩ := PN.cells h
  obtain ⟨a, c, rfl, hle, hcm, hg⟩ := owns_shape1 (Nt.own h)
  obtain ⟨m, hm⟩ : ∃ m : Int, m = (S.lost : Int) + (S.L.length : Int) := ⟨_, rfl⟩
  have wk : IntKind.i64.wrap ((S.lost : Int) + (S.L.length : Int)) = m := by rw [hm]; exact IntWalk.i64_in _ (by omega)
  have c2' : w.drew.cell? ⟨p, 2, none⟩ = some (.int .i64 (S.lost : Int)) := c2
  have c3' : w.drew.cell? ⟨p, 3, none⟩ = some (.slice a S.L.length c) := c3
  have hb := h.blk
  have hend : ∀ w1, w1.heap[p]? = w.heap[p]? → w.grownBy w1 (some p) → NP 53 pF w B p (.slice a S.L.length c) S.drop ((w1.setCell ⟨p, 2, none⟩ (.int .i64 m)).setCell ⟨p, 3, none⟩ (.slice none 0 0)) := fun w1 e hg1 => by
    refine ⟨.slice none 0 0, ⟨?_, Nt.low h, ?_⟩, ?_, ?_⟩
    · refine (blk_setCell (blk_setCell (e.trans hb))).trans ?_
      simp [pF, NS.drop, hm]
    · exact World.ownsRow_nil _ _ _ _
    · exact (fr_headN hg1 |>.set (.inl (.inl rfl))).set (.inl (.inl rfl))
    · rintro k (rfl | e)
      · exact .inl (.inl rfl)
      · simp [Value.ownBlock] at e
  have HE := Lib.hid hend
  have hf' : ∀ i, w.drew.frozen? ⟨p, i, none⟩ = false := fun i => hf i
  have HM := Lib.hid hm
  clear hend h hok hca hlen hb c0 c1 hg hm
  go_enter Try.func15, Try.ntmps15
  go_wp2
  go_region
  all_goals (
    go_wp2
    refine bodyPost_end (results_none rfl _ _ _) rfl ?_
    exact ⟨rfl, HE.out w.drew rfl (gb_drew (World.grownBy.refl _ _))⟩)
theorem owns_src {w : World} {B e size n : Nat} {xs : List Value} {g c : Nat} (h : w.ownsRow B e size (.slice (some ⟨g, 0, none⟩) n c) n xs) (o : Obj) :
    ∀ (j : Nat) (u : Value), xs[j]? = some u → (w.alloc o).cell? ((⟨g, 0, none⟩ : Addr).add j) = some u := fun j u hj => by
  have h1 := h.cells (g := g) rfl j u hj
  have hl := (h.lt g rfl).2
  rw [Addr.add_none] at h1 ⊢
  rw [World.cell?_of_block (w := w) (Below.heap_alloc _ _ _ hl)]; exact h1

theorem owns_shape2 {w : World} {B n : Nat} {v : Value} {e size : Nat} {xs : List Value} (h : w.ownsRow B e size v n xs) : (v = .slice none 0 0 ∧ n = 0 ∧ xs = []) ∨ ∃ g c, v = .slice (some ⟨g, 0, none⟩) n c := by
  obtain ⟨h1, h2⟩ := h
  rcases h2 with ⟨rfl, rfl⟩ | ⟨g, cap, cur, rfl, hB, hh, hle, hm, _, _⟩
  · exact .inl ⟨rfl, rfl, List.eq_nil_of_length_eq_zero (by simpa using h1)⟩
  · exact .inr ⟨g, cap, rfl⟩

set_option maxRecDepth 20000 in
set_option maxHeartbeats 1000000 in
theorem clone_puts (B : Nat) (v : Value) (n : Nat) (W : List (Int × ByteArray)) (w : World) (h : w.ownsRow B 41 2 v n (puts W)) (hn : n ≤ 1000000) :
    Calls Try.prog 29 #[v] w fun e w' => ∃ v', e = .returned v' ∧ w'.ownsRow w.heap.size 41 2 v' n (puts W) ∧ Below w.heap.size w w' := by
  have q22 : ∀ (w : World) (a : Option Addr) (n c n' c' : Nat), (binOp .eql 28 (.slice a n c) (.slice none n' c')).run Try.prog w = .ok (.bool a.isNone) w := fun w a n c n' c' => Lib.run_eql_slice_nil w _ _ a n c n' c' Try.underlying28
  rcases owns_shape2 h with ⟨rfl, rfl, he⟩ | ⟨g, c, rfl⟩
  · rw [he]
    go_enter Try.func29, Try.ntmps29
    go_wp2
    go_ret
    exact ⟨_, rfl, World.ownsRow_nil _ _ _ _, Below.refl _ _⟩
  · obtain ⟨i0, hi, hz0, hz1, hz2⟩ := info_parts Try.infoPk
    have hsrc := owns_src h (.cells #[] 41)
    have hl : (puts W).length = n * 2 := h.1
    have HS := Lib.hid hsrc
    have HL := Lib.hid hl
    clear h hsrc hl
    go_enter Try.func29, Try.ntmps29
    go_wp2_with (at_builtin; refine wpList_append_own _ (o := ⟨some 7, _, _, _, _, _⟩) rfl (.tmp 5) (.tmp 6) 28 rfl w.heap.size 41 i0 _ 2 24 Try.underlying28 hi hz0 hz1 hz2 rfl (by omega) _ _ _ rfl (World.ownsRow_made w #[] 0 (Nat.le_refl _) (Nat.zero_le _) (by simp)) ⟨g, 0, none⟩ n c (puts W) rfl HL.out HS.out (puts_one _) (by unfold maxLen; omega) (by omega) (by simp) ?_)
    intro v' w1 hown hgrow _
    go_wp2
    go_ret
    exact ⟨_, rfl, by simpa using hown, ((Below.refl _ w).alloc (Nat.le_refl _) _).grown hgrow (by simp) (by intro k hk; simp [Value.ownBlock] at hk; omega)⟩


set_option maxRecDepth 20000 in
set_option maxHeartbeats 1000000 in
theorem copy_any (B p : Nat) (v : Value) (S : NS) (w : World) (N : Nat) (h : PN w B p v S) (hlen : S.L.length ≤ 60) :
    Calls Try.prog 11 #[.pointer (some ⟨p, 0, none⟩)] w fun e w' => ∃ q v', e = .returned (.pointer (some ⟨q, 0, none⟩)) ∧ PN w' w.heap.size q v' S ∧ Below w.heap.size w w' := by
  obtain ⟨c0, c1, c2, c3, hf⟩ := PN.cells h
  have hpl : p < w.drew.heap.size := Nt.lt (w := w) h
  have hcl := clone_puts B v S.L.length S.L w.drew (nt_drew h).own (by omega)
  have hk : ∀ w1, Below w.drew.heap.size w.drew w1 → w1.cell? ⟨p, 0, none⟩ = some (.int .i64 (S.sent : Int)) ∧ w1.cell? ⟨p, 1, none⟩ = some (.int .i64 (S.came : Int)) ∧ w1.cell? ⟨p, 2, none⟩ = some (.int .i64 (S.lost : Int)) ∧ w1.cell? ⟨p, 3, none⟩ = some v := fun w1 hb =>
    ⟨(hb.cell (p := ⟨p, 0, none⟩) hpl).trans c0, (hb.cell (p := ⟨p, 1, none⟩) hpl).trans c1, (hb.cell (p := ⟨p, 2, none⟩) hpl).trans c2, (hb.cell (p := ⟨p, 3, none⟩) hpl).trans c3⟩
  have hcl2 : Calls Try.prog 29 #[v] w.drew fun e w' => ∃ a' c', e = .returned (.slice a' S.L.length c') ∧ w'.ownsRow w.drew.heap.size 41 2 (.slice a' S.L.length c') S.L.length (puts S.L) ∧ Below w.drew.heap.size w.drew w' := hcl.mono (by
    rintro e w' ⟨v', rfl, how, hb⟩
    obtain ⟨a', c', rfl, _, _, _⟩ := owns_shape1 how
    exact ⟨a', c', rfl, how, hb⟩)
  have HC := Lib.hid hcl2
  clear hcl2
  have HK := Lib.hid hk
  have HST := Lib.hid (hk w.drew (Below.refl _ _))
  have H := Lib.hid h
  obtain ⟨a, c, rfl, hle, hcm, hg⟩ := owns_shape1 (Nt.own h)
  obtain ⟨x0, hx0⟩ : ∃ x, x = (S.sent : Int) := ⟨_, rfl⟩
  obtain ⟨x1, hx1⟩ : ∃ x, x = (S.came : Int) := ⟨_, rfl⟩
  obtain ⟨x2, hx2⟩ : ∃ x, x = (S.lost : Int) := ⟨_, rfl⟩
  rw [← hx0, ← hx1, ← hx2] at HST
  simp only [← hx0, ← hx1, ← hx2] at HK
  have HX := Lib.hid (And.intro hx0 (And.intro hx1 hx2))
  clear hcl hk h c0 c1 c2 c3 hf hg hx0 hx1 hx2
  go_enter Try.func11, Try.ntmps11
  go_wp2_with fail
  go_region_held3 (fun w' => w'.cell? ⟨p, 0, none⟩ = some (.int .i64 x0) ∧ w'.cell? ⟨p, 1, none⟩ = some (.int .i64 x1) ∧ w'.cell? ⟨p, 2, none⟩ = some (.int .i64 x2) ∧ w'.cell? ⟨p, 3, none⟩ = some (.slice a S.L.length c))
    (first | exact HST.out | exact HK.out _ hb1 | exact HK.out _ (hb1.alloc hb1.size _))
    (first
    | (go_at_call 29; refine HC.out.mono ?_; rintro r w1 ⟨a', c', rfl, how, hb1⟩))
  all_goals (
    rename_i hHeld
    clear hHeld
    go_wp2
    go_ret
    obtain ⟨e0, e1, e2⟩ := HX.out
    have hb2 := hb1.alloc hb1.size (.cells #[.int .i64 x0, .int .i64 x1, .int .i64 x2, .slice a' S.L.length c'] 53)
    have hs0 : w.heap.size ≤ w1.heap.size := hb1.size
    refine ⟨_, .slice a' S.L.length c', rfl, ⟨(heap_alloc_new w1 _).trans ?_, hs0, ?_⟩, ⟨hb2.os, hb2.tape, hb2.output, hb2.size, hb2.block⟩⟩
    · rw [e0, e1, e2]; rfl
    · exact how.alloc _)
end Go.Proofs.Ythbfeflijlcboaa


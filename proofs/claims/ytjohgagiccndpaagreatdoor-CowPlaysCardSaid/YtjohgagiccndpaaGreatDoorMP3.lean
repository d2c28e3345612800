/-
  Texts put together: P3.
-/
import Derived.Test.YtjohgagiccndpaaGreatDoorMP0
/-
  The program's Back.
-/
namespace Go.Proofs.YtjohgagiccndpaaGreatDoor
open Go.RowKit
set_option linter.unusedVariables false
set_option linter.unusedSimpArgs false
attribute [local go_sem] Oper.semAt_some

/-- Entries are written, one after another, as long as there is no error. -/
def wrL (S : DS) (l : List (Nat × En)) : Int × DS := l.foldl (fun r x => if r.1 ≠ 0 then r else r.2.write x.2.place x.2.old) (0, S)
theorem wrL_snoc (S : DS) (l) (x : Nat × En) : wrL S (l ++ [x]) = if (wrL S l).1 ≠ 0 then wrL S l else (wrL S l).2.write x.2.place x.2.old := by
  unfold wrL; rw [List.foldl_append]; rfl
theorem wrL_bad (S : DS) (l r : List (Nat × En)) (h : (wrL S l).1 ≠ 0) : wrL S (l ++ r) = wrL S l := by
  unfold wrL at *
  rw [List.foldl_append]
  generalize List.foldl _ (0, S) l = y at *
  induction r with
  | nil => rfl
  | cons x r ih => rw [List.foldl_cons, if_pos h]; exact ih
theorem wrF_ok : ∀ (l : List (Nat × En)) (r : Int × DS) (M : Nat), r.2.ok M → (l.foldl (fun (r : Int × DS) x => if r.1 ≠ 0 then r else r.2.write x.2.place x.2.old) r).2.ok (M + l.length)
  | [], r, M, h => h
  | x :: l, r, M, h => by
    rw [List.foldl_cons, List.length_cons]
    have := wrF_ok l (if r.1 ≠ 0 then r else r.2.write x.2.place x.2.old) (M + 1) (by
      split
      · exact h.mono (by omega)
      · exact h.write _ _)
    exact this.mono (by omega)
theorem wrL_ok {S : DS} {M : Nat} (h : S.ok M) (l : List (Nat × En)) : (wrL S l).2.ok (M + l.length) := wrF_ok l (0, S) M h
theorem upE_pre (X : List En) (k : Nat) (h : k ≤ X.length) : ∃ r, upE X X.length = upE X k ++ r := by
  obtain ⟨d, hd⟩ : ∃ d, X.length = k + d := ⟨X.length - k, by omega⟩
  unfold upE
  rw [hd]
  exact ⟨_, by rw [List.range_add, List.map_append]⟩
def backP (N F C U : Int) (S : DS) (X : List En) : Int × DS :=
  if okG N F C U then (if (wrL S (upE X X.length)).1 ≠ 0 then wrL S (upE X X.length) else if (wrL S (upE X X.length)).2.flush.1 ≠ 0 then (wrL S (upE X X.length)).2.flush else clearP N F C U (wrL S (upE X X.length)).2.flush.2) else (12, S)
theorem backP_ok {N F C U : Int} {S : DS} {M : Nat} (h : S.ok M) (X : List En) : (backP N F C U S X).2.ok (M + X.length + 3) := by
  have hw := wrL_ok h (upE X X.length)
  rw [upE_length] at hw
  unfold backP
  split
  · split
    · exact hw.mono (by omega)
    · split
      · exact hw.flush.mono (by omega)
      · exact (clearP_ok hw.flush).mono (by omega)
  · exact h.mono (by omega)

theorem pd_cellsAt {W : World} {B p : Nat} {a1 a2 : Value} {T : DS} (h : PD W B p a1 a2 T) : ∀ k, foot p a1 a2 k → ∀ o, W.heap[k]? = some o → o.isCells = true := by
  obtain ⟨_, d⟩ := h.dk
  rintro k (rfl | e | e) o ho
  · rw [d.blk] at ho; cases ho; rfl
  · obtain ⟨cur, hc⟩ := owns_type d.own1 e
    rw [hc] at ho; cases ho; rfl
  · obtain ⟨cur, hc⟩ := owns_type d.own2 e
    rw [hc] at ho; cases ho; rfl
theorem pp_others {W W' : World} {B p : Nat} {a1 a2 : Value} {T T' : DS} (h : PD W B p a1 a2 T) (hp : PP W B p a1 a2 T' W') : KeepsOthers W W' :=
  ⟨hp.size, fun k o hk ho => by
    rw [hp.old k (lt_of_block hk) (fun hf => by have := pd_cellsAt h k hf o hk; rw [ho] at this; cases this)]
    exact hk⟩

/-- Back under way: the disk, and the call's boxes; what the disk has got since lies at Z or behind. -/
structure RB (w : World) (B p : Nat) (v1 v2 : Value) (N F C U : Int) (Z : Nat) (er : Int) (T : DS) (W : World) : Prop where
  pd : ∃ a1 a2, PD W B p a1 a2 T ∧ ∀ k, foot p a1 a2 k → foot p v1 v2 k ∨ Z ≤ k
  fr : Fr (foot p v1 v2) w W
  bd : Boxed W w.heap.size 26 (.pointer (some ⟨p, 0, none⟩))
  bg : W.heap[w.heap.size + 1]? = some (.cells #[.int .i64 N, .int .i64 F, .int .i64 C, .int .i64 U] 23 (0, 0))
  be : Boxed W (w.heap.size + 2) 27 (.int .i64 er)
  bs : Z ≤ W.heap.size
  bz : w.heap.size + 3 ≤ Z
section
variable {w W W' : World} {B p : Nat} {v1 v2 : Value} {N F C U : Int} {Z : Nat} {er er' : Int} {T T' : DS}
theorem RB.own (h : RB w B p v1 v2 N F C U Z er T W) {row : Option Nat} (hg : W.grownBy W' row) (hr : ∀ r, row = some r → Z ≤ r ∧ ∃ o : Obj, W.heap[r]? = some o ∧ o.isCells = false) : RB w B p v1 v2 N F C U Z er T W' := by
  obtain ⟨a1, a2, hp, hf⟩ := h.pd
  have hz := h.bz
  refine ⟨⟨a1, a2, hp.kept fun k hk => hg.block k (hp.foot_low k hk).2 (fun e => ?_), hf⟩, h.fr.grown hg (fun k e => .inr (by have := (hr k e).1; omega)), ?_, ?_, ?_, Nat.le_trans h.bs hg.size, hz⟩
  · obtain ⟨_, o, ho, hc⟩ := hr k e.symm
    have := pd_cellsAt hp k hk o ho
    rw [hc] at this; cases this
  · exact (hg.block _ (lt_of_block h.bd) (fun e => by have := (hr _ e.symm).1; omega)).trans h.bd
  · exact (hg.block _ (lt_of_block h.bg) (fun e => by have := (hr _ e.symm).1; omega)).trans h.bg
  · exact (hg.block _ (lt_of_block h.be) (fun e => by have := (hr _ e.symm).1; omega)).trans h.be
theorem RB.step (h : RB w B p v1 v2 N F C U Z er T W) (hv : ∀ k, foot p v1 v2 k → k < w.heap.size) {a1 a2 : Value} (hp : PD W B p a1 a2 T) (hf : ∀ k, foot p a1 a2 k → foot p v1 v2 k ∨ Z ≤ k) (hx : PP W B p a1 a2 T' W') : RB w B p v1 v2 N F C U Z er T' W' := by
  have hz := h.bz
  obtain ⟨b1, b2, hp', hF, hN⟩ := hx
  have hne : ∀ j, j < 3 → ¬ foot p a1 a2 (w.heap.size + j) := fun j hj hk => by
    rcases hf _ hk with h1 | h1
    · have := hv _ h1; omega
    · omega
  refine ⟨⟨b1, b2, hp', fun k hk => ?_⟩, h.fr.trans hF (fun i hi => (hf i hi).elim .inl (fun h => .inr (by omega))), ?_, ?_, ?_, Nat.le_trans h.bs hF.size, hz⟩
  · rcases hN k hk with h1 | h1
    · exact hf k h1
    · exact .inr (Nat.le_trans h.bs h1)
  · exact (hF.block _ (lt_of_block h.bd) (hne 0 (by omega))).trans h.bd
  · exact (hF.block _ (lt_of_block h.bg) (hne 1 (by omega))).trans h.bg
  · exact (hF.block _ (lt_of_block h.be) (hne 2 (by omega))).trans h.be
theorem RB.setE (h : RB w B p v1 v2 N F C U Z er T W) (hv : ∀ k, foot p v1 v2 k → k < w.heap.size) (e : Int) : RB w B p v1 v2 N F C U Z e T (W.setCell ⟨w.heap.size + 2, 0, none⟩ (.int .i64 e)) := by
  have hz := h.bz
  obtain ⟨a1, a2, hp, hf⟩ := h.pd
  have hset : ∀ k, k ≠ w.heap.size + 2 → (W.setCell ⟨w.heap.size + 2, 0, none⟩ (.int .i64 e)).heap[k]? = W.heap[k]? := fun k hk => Below.heap_setCell _ _ _ _ (fun e => hk (by simpa using e))
  refine ⟨⟨a1, a2, hp.kept fun k hk => hset k (fun e => ?_), hf⟩, h.fr.set (.inr (by show w.heap.size ≤ w.heap.size + 2; omega)), (hset _ (by omega)).trans h.bd, (hset _ (by omega)).trans h.bg, h.be.set _, by simpa [World.setCell] using h.bs, hz⟩
  rcases hf k hk with h1 | h1
  · have := hv _ h1; omega
  · omega
theorem RB.alloc (h : RB w B p v1 v2 N F C U Z er T W) (o : Obj) : RB w B p v1 v2 N F C U Z er T (W.alloc o) := by
  obtain ⟨a1, a2, hp, hf⟩ := h.pd
  have hb : Below W.heap.size W (W.alloc o) := (Below.refl _ W).alloc (Nat.le_refl _) o
  refine ⟨⟨a1, a2, hp.below hb, hf⟩, h.fr.alloc o, h.bd.alloc o, (Below.heap_alloc _ _ _ (lt_of_block h.bg)).trans h.bg, h.be.alloc o, Nat.le_trans h.bs hb.size, h.bz⟩
theorem RB.kp (h : RB w B p v1 v2 N F C U Z er T W) (hv : ∀ k, foot p v1 v2 k → k < w.heap.size) {a1 a2 : Value} (hf : ∀ k, foot p a1 a2 k → foot p v1 v2 k ∨ Z ≤ k) (hx : PP W B p a1 a2 T' W') {Bn : Nat} (h1 : w.heap.size ≤ Bn) (h2 : Bn < Z) {a : Option Addr} (ha : ∀ b off, a = some ⟨b, off, none⟩ → ¬ foot p v1 v2 b ∧ b < w.heap.size) : KpB Bn a W W' :=
  ⟨hx.size, fun hl => hx.old _ hl (fun hk => by
    rcases hf _ hk with h1 | h1
    · have := hv _ h1; omega
    · omega), fun b off e hl => hx.old _ hl (fun hk => by
    obtain ⟨h2, h3⟩ := ha b off e
    have hz := h.bz
    rcases hf _ hk with h1 | h1
    · exact h2 h1
    · omega)⟩
theorem RB.fin (h : RB w B p v1 v2 N F C U Z er T W) : PP w B p v1 v2 T W := by
  obtain ⟨a1, a2, hp, hf⟩ := h.pd
  have hz := h.bz
  exact ⟨a1, a2, hp, h.fr, fun k hk => (hf k hk).elim .inl (fun h => .inr (by omega))⟩
end
theorem kpb_set {W : World} {s Bn : Nat} {v : Value} {a : Option Addr} (hn : s + 2 < Bn) (ha : ∀ b off, a = some ⟨b, off, none⟩ → b < s) : KpB Bn a W (W.setCell ⟨s + 2, 0, none⟩ v) :=
  ⟨by simp [World.setCell], fun _ => Below.heap_setCell _ _ _ _ (fun e => by simp at e; omega), fun b off e _ => Below.heap_setCell _ _ _ _ (fun e2 => by have := ha b off e; simp at e2; omega)⟩
theorem kpb_alloc {W : World} {s : Nat} {a : Option Addr} (o : Obj) : KpB s a W (W.alloc o) :=
  ⟨by simp, fun hl => Below.heap_alloc _ _ _ hl, fun b off e hl => Below.heap_alloc _ _ _ hl⟩

set_option maxRecDepth 100000 in
set_option maxHeartbeats 4000000 in
theorem back_in (B p : Nat) (v1 v2 : Value) (S : DS) (N F C U : Int) (a : Option Addr) (n cap : Nat) (X : List En) (w : World) (h : PD w B p v1 v2 S) (hB : B ≤ w.heap.size) (M : Nat) (hok : S.ok M) (hM : M + n + 3 ≤ 1000000) (hX : Es w a n cap X)
    (ha0 : ∀ b off, a = some ⟨b, off, none⟩ → 0 < n → ¬ foot p v1 v2 b ∧ b < w.heap.size) (ho : okG N F C U) :
    CallsIn Fence.wide 10 Tryz.prog 33 #[.pointer (some ⟨p, 0, none⟩), geo N F C U, .slice a n cap] w fun e w' => e = .returned (.int .i64 (backP N F C U S X).1) ∧ PP w B p v1 v2 (backP N F C U S X).2 w' := by
  have hv := fun k hk => (h.foot_low k hk).2
  obtain ⟨aK, haK, ha⟩ : ∃ aK : Option Addr, (0 < n → aK = a) ∧ ∀ b off, aK = some ⟨b, off, none⟩ → ¬ foot p v1 v2 b ∧ b < w.heap.size := by
    by_cases h0 : 0 < n
    · exact ⟨a, fun _ => rfl, fun b off e => ha0 b off e h0⟩
    · exact ⟨none, fun h => absurd h h0, fun b off e => by cases e⟩
  clear ha0
  have hr := fun w => (callsIn_wide (n := 9)).2 (gright_any N F C U w)
  rw [decide_eq_true ho] at hr
  obtain ⟨BP, hBP⟩ : ∃ BP, BP = backP N F C U S X := ⟨_, rfl⟩
  rw [← hBP]
  have HB0 := Lib.hid hBP
  clear hBP
  have hln := hX.len
  subst hln
  unfold geo at hr ⊢
  have HR := Lib.hid hr
  have HH := Lib.hid h
  have HX := Lib.hid hX
  clear hr
  refine callsIn_of_wp_marks Tryz.func33 rfl trivial ?_ rfl
  simp only [Tryz.ntmps33, List.size_toArray, List.length_cons, List.length_nil, Nat.reduceAdd, Nat.reduceSub, Array.replicate_succ, Array.replicate_zero, List.push_toArray, List.append_toArray, List.nil_append, List.cons_append]
  gi_wp2_with fail
  -- the three boxes
  have hb0 : Boxed (((w.alloc (.cells #[.pointer (some ⟨p, 0, none⟩)] 26)).alloc (.cells #[.int .i64 N, .int .i64 F, .int .i64 C, .int .i64 U] 23)).alloc (.cells #[.int .i64 0] 27)) w.heap.size 26 (.pointer (some ⟨p, 0, none⟩)) := ((Boxed.new w 26 _).alloc _).alloc _
  have hb1 : (((w.alloc (.cells #[.pointer (some ⟨p, 0, none⟩)] 26)).alloc (.cells #[.int .i64 N, .int .i64 F, .int .i64 C, .int .i64 U] 23)).alloc (.cells #[.int .i64 0] 27)).heap[w.heap.size + 1]? = some (.cells #[.int .i64 N, .int .i64 F, .int .i64 C, .int .i64 U] 23 (0, 0)) := by
    have e := heap_alloc_new (w.alloc (.cells #[.pointer (some ⟨p, 0, none⟩)] 26)) (.cells #[.int .i64 N, .int .i64 F, .int .i64 C, .int .i64 U] 23)
    rw [World.size_alloc] at e
    exact (Below.heap_alloc _ _ _ (by simp)).trans e
  have hb2 : Boxed (((w.alloc (.cells #[.pointer (some ⟨p, 0, none⟩)] 26)).alloc (.cells #[.int .i64 N, .int .i64 F, .int .i64 C, .int .i64 U] 23)).alloc (.cells #[.int .i64 0] 27)) (w.heap.size + 2) 27 (.int .i64 0) := by
    have e := Boxed.new ((w.alloc (.cells #[.pointer (some ⟨p, 0, none⟩)] 26)).alloc (.cells #[.int .i64 N, .int .i64 F, .int .i64 C, .int .i64 U] 23)) 27 (.int .i64 0)
    rw [World.size_alloc, World.size_alloc] at e
    exact e
  have hbw : Below w.heap.size w (((w.alloc (.cells #[.pointer (some ⟨p, 0, none⟩)] 26)).alloc (.cells #[.int .i64 N, .int .i64 F, .int .i64 C, .int .i64 U] 23)).alloc (.cells #[.int .i64 0] 27)) := (((Below.refl _ w).alloc (Nat.le_refl _) _).alloc (by simp) _).alloc (by simp; omega) _
  have hsz : (((w.alloc (.cells #[.pointer (some ⟨p, 0, none⟩)] 26)).alloc (.cells #[.int .i64 N, .int .i64 F, .int .i64 C, .int .i64 U] 23)).alloc (.cells #[.int .i64 0] 27)).heap.size = w.heap.size + 3 := by simp
  have hw3 : ∃ w3, w3 = (((w.alloc (.cells #[.pointer (some ⟨p, 0, none⟩)] 26)).alloc (.cells #[.int .i64 N, .int .i64 F, .int .i64 C, .int .i64 U] 23)).alloc (.cells #[.int .i64 0] 27)) := ⟨_, rfl⟩
  obtain ⟨w3, hw3⟩ := hw3
  rw [← hw3] at hb0 hb1 hb2 hbw hsz ⊢
  clear hw3
  have c0 : w3.cell? ⟨w.heap.size + 1, 0, none⟩ = some (.int .i64 N) := by rw [cell_of_blk hb1]; rfl
  have c1 : w3.cell? ⟨w.heap.size + 1, 1, none⟩ = some (.int .i64 F) := by rw [cell_of_blk hb1]; rfl
  have c2 : w3.cell? ⟨w.heap.size + 1, 2, none⟩ = some (.int .i64 C) := by rw [cell_of_blk hb1]; rfl
  have c3 : w3.cell? ⟨w.heap.size + 1, 3, none⟩ = some (.int .i64 U) := by rw [cell_of_blk hb1]; rfl
  gi_wp2_with fail
  refine ⟨trivial, (HR.out _).mono ?_⟩
  rintro e w4 ⟨rfl, hb⟩
  have hz3 : w.heap.size + 3 ≤ w4.heap.size := by have := hb.size; omega
  have hb1' : w4.heap[w.heap.size + 1]? = some (.cells #[.int .i64 N, .int .i64 F, .int .i64 C, .int .i64 U] 23 (0, 0)) := (hb.block _ (lt_of_block hb1)).trans hb1
  have hb0' : Boxed w4 w.heap.size 26 (.pointer (some ⟨p, 0, none⟩)) := (hb.block _ (lt_of_block hb0)).trans hb0
  have hb2' : Boxed w4 (w.heap.size + 2) 27 (.int .i64 0) := (hb.block _ (lt_of_block hb2)).trans hb2
  have HB4 := Lib.hid (hbw.trans (hb.mono hbw.size))
  clear hb hb0 hb1 hb2 hbw hsz c0 c1 c2 c3
  gi_wp2_with fail
  refine ⟨trivial, (backward_in Fence.wide 9 trivial rfl a X.length cap _).mono ?_⟩
  rintro e w5 ⟨rfl, rfl⟩
  gi_wp2_with fail
  have hpd := HH.out.below (HB4.out.alloc HB4.out.size (.cells #[.slice a X.length cap] 53))
  have hrb0 : RB w B p v1 v2 N F C U (w4.heap.size + 1) 0 S (w4.alloc (.cells #[.slice a X.length cap] 53)) :=
    ⟨⟨v1, v2, hpd, fun k hk => .inl hk⟩, (Fr.of_below HB4.out).alloc _, hb0'.alloc _, (Below.heap_alloc _ _ _ (lt_of_block hb1')).trans hb1', hb2'.alloc _, by simp, by omega⟩
  have hpend : PendB (w4.alloc (.cells #[.slice a X.length cap] 53)) w4.heap.size a aK X.length cap X := ⟨heap_alloc_new _ _, HX.out.later (HB4.out.alloc HB4.out.size _), by omega, haK⟩
  obtain ⟨W0, hW0⟩ : ∃ W0, W0 = w4.alloc (.cells #[.slice a X.length cap] 53) := ⟨_, rfl⟩
  have hs0 : W0.heap.size = w4.heap.size + 1 := by rw [hW0]; simp
  rw [← hW0] at hrb0 hpend ⊢
  clear hW0 hpd hb0' hb1' hb2' HB4
  obtain ⟨Bn, hBn⟩ : ∃ Bn, Bn = w4.heap.size := ⟨_, rfl⟩
  rw [← hBn] at hrb0 hpend hs0 hz3 ⊢
  clear hBn
  refine wpIn_rangeFunc_ownH rfl (by omega) (gf := 105) (lb := #[.pointer (some ⟨Bn, 0, none⟩)]) rfl trivial (enters_of Tryz.func105 (by kernel_rfl) rfl)
    (backward_stops Fence.wide 9 trivial rfl (by omega) Bn a aK X.length cap X W0 hpend) KpB.trans
    (fun W l o o' hl hlo hc _ => ⟨by simp [World.putObj], fun hlt => World.putObj_heap_other (by omega), fun b off e hlt => World.putObj_heap_other (by have := (ha b off e).2; omega)⟩) (Below.refl _ _) (fun _ => rfl)
    (fun pre W => (wrL S pre).1 = 0 ∧ RB w B p v1 v2 N F C U (Bn + 1) 0 (wrL S pre).2 W)
    (fun c pre W => c = .ret ∧ (wrL S pre).1 ≠ 0 ∧ RB w B p v1 v2 N F C U (Bn + 1) (wrL S pre).1 (wrL S pre).2 W)
    (fun s X Y row hs hg hr => ⟨hs.1, hs.2.own hg (fun r e => ⟨by have := (hr r e).1; omega, (hr r e).2⟩)⟩)
    (fun c s X Y row hs hg hr => ⟨hs.1, hs.2.1, hs.2.2.own hg (fun r e => ⟨by have := (hr r e).1; omega, (hr r e).2⟩)⟩)
    ⟨rfl, hrb0⟩
    (fun x a' W => ∃ Bx, Bn < Bx ∧ W.heap[Bx]? = some (.cells #[.int .u64 (x.2.tag : Int), .int .u64 (x.2.epoch : Int), .int .i64 x.2.place, .string x.2.old] 55 (0, 0)) ∧ a' = { tmps := #[.pointer (some ⟨p, 0, none⟩), .agg #[.int .i64 N, .int .i64 F, .int .i64 C, .int .i64 U], .slice a X.length cap, .pointer (some ⟨w.heap.size, 0, none⟩), .pointer (some ⟨w.heap.size + 1, 0, none⟩), undef, .pointer (some ⟨w.heap.size + 1 + 1, 0, none⟩), undef, .pointer (some ⟨Bx, 0, none⟩), undef, undef, .agg #[.int .i64 N, .int .i64 F, .int .i64 C, .int .i64 U], .bool true, .bool false, .slice a X.length cap, .func (.func 105) #[] #[.pointer (some ⟨Bn, 0, none⟩)], .int .i64 (x.1 : Int), x.2.val, undef, undef, undef, undef, undef, undef, undef, undef, undef, undef, undef, undef, undef, undef, undef, undef, undef], defers := [] })
    (fun x a' _ X Y row hs hg hr => by
      obtain ⟨Bx, h1, h2, h3⟩ := hs
      exact ⟨Bx, h1, put_own h2 hg (fun r e => (hr r e).2), h3⟩)
    ?assign ?body ?done ?stop
  case assign =>
    rintro l pre x W K ⟨hI0, hI⟩ hK
    obtain ⟨xi, x0, x1, x2, x3⟩ := x
    unfold encB En.val
    gi_wp2
    exact hK _ _ ((KeepsOthers.alloc _ _).from _) (kpb_alloc _) ⟨hI0, hI.alloc _⟩ ⟨W.heap.size, by have := hI.bs; omega, heap_alloc_new _ _, rfl⟩
  case body =>
    rintro l pre x a' W hl' ⟨r, hr⟩ ⟨hI0, hI⟩ ⟨Bx, hBx, bP, rfl⟩ hlt
    obtain ⟨xi, x0, x1, x2, x3⟩ := x
    unfold En.val
    dsimp only at bP ⊢
    have p2 : W.cell? ⟨Bx, 2, none⟩ = some (.int .i64 x2) := by rw [cell_of_blk bP]; rfl
    have p3 : W.cell? ⟨Bx, 3, none⟩ = some (.string x3) := by rw [cell_of_blk bP]; rfl
    have cd := hI.bd.cell
    obtain ⟨a1, a2, hp, hf⟩ := hI.pd
    have hok1 := wrL_ok hok pre
    have hsn := wrL_snoc S pre (xi, ⟨x0, x1, x2, x3⟩)
    rw [if_neg (by rw [hI0]; simp)] at hsn
    dsimp only at hsn
    obtain ⟨T, hT⟩ : ∃ T, T = (wrL S pre).2 := ⟨_, rfl⟩
    rw [← hT] at hp hok1 hsn hI
    have hwt := (callsIn_wide (n := 7)).2 (write_any B p a1 a2 T x2 x3 W hp (by have := hI.bs; have := hI.bz; omega) (M + pre.length) hok1 (by omega))
    obtain ⟨R, T2, hRT⟩ : ∃ R T2, T.write x2 x3 = (R, T2) := ⟨_, _, rfl⟩
    rw [hRT] at hwt hsn
    dsimp only at hwt
    have hnx := fun W' (hx : PP W B p a1 a2 T2 W') => And.intro (hI.step hv hp hf hx) (And.intro (pp_others hp hx) (hI.kp hv hf hx (Bn := Bn) (by omega) (by omega) ha))
    have HWT := Lib.hid hwt
    have HNX := Lib.hid hnx
    have HSN := Lib.hid hsn
    clear hwt hnx hsn hp hf hok1 hT hRT hI hI0 hr
    gi_wp2_with fail
    refine ⟨trivial, (CallsIn.inRound l HWT.out).mono ?_⟩
    rintro e W5 ⟨rfl, hx⟩
    obtain ⟨hI5, hk5, hp5⟩ := HNX.out _ hx
    have ce := hI5.be.cell
    have fe := hI5.be.frozen
    have HI5 := Lib.hid hI5
    have HK5 := Lib.hid (And.intro hk5 hp5)
    clear hx hI5 hk5 hp5 HWT HNX p2 p3 cd
    by_cases hR : R = 0
    · subst hR
      gi_wp2
      exact ⟨HK5.out.1.from _, HK5.out.2, by rw [HSN.out], by rw [HSN.out]; exact HI5.out⟩
    · have hr2 : (R == 0) = false := by simpa using hR
      have hr3 : (R != 0) = true := by simp [hR]
      have HRR := Lib.hid hR
      clear hR
      gi_wp2
      exact ⟨(HK5.out.1.trans (KeepsOthers.setCell _ _ _)).from _, rfl, by rw [HSN.out]; exact HRR.out, by rw [HSN.out]; exact HI5.out.setE hv R⟩
  case done =>
    rintro D ys W hD rfl ⟨hI0, hI⟩ hK
    have hbp : BP = if (wrL S (upE X X.length)).2.flush.1 ≠ 0 then (wrL S (upE X X.length)).2.flush else clearP N F C U (wrL S (upE X X.length)).2.flush.2 := by
      rw [HB0.out]; unfold backP; rw [if_pos ho, if_neg (by rw [hI0]; simp)]
    have hok1 := wrL_ok hok (upE X X.length)
    rw [upE_length] at hok1
    obtain ⟨T, hT⟩ : ∃ T, T = (wrL S (upE X X.length)).2 := ⟨_, rfl⟩
    rw [← hT] at hI hok1 hbp
    obtain ⟨a1, a2, hp, hf⟩ := hI.pd
    have hfl := (callsIn_wide (n := 9)).2 (flush_any B p a1 a2 T W hp (by have := hI.bs; have := hI.bz; omega) (M + X.length) hok1 (by omega))
    have hok2 := hok1.flush
    obtain ⟨R, T2, hRT⟩ : ∃ R T2, T.flush = (R, T2) := ⟨_, _, rfl⟩
    rw [hRT] at hfl hbp hok2
    dsimp only at hfl hbp hok2
    have cd := hI.bd.cell
    have hnx := fun W' (hx : PP W B p a1 a2 T2 W') => And.intro (hI.step hv hp hf hx) (pp_others hp hx)
    have HFL := Lib.hid hfl
    have HNX := Lib.hid hnx
    have HBP := Lib.hid hbp
    have HDK := Lib.hid hK
    have hDl := lt_of_block hK
    have HDL := Lib.hid (And.intro hD hDl)
    clear hfl hnx hbp hp hf hok1 hT hRT hI hI0 hK hDl hD
    gi_wp2_with fail
    refine ⟨trivial, HFL.out.mono ?_⟩
    rintro e W5 ⟨rfl, hx⟩
    obtain ⟨hI5, hk5⟩ := HNX.out _ hx
    have hK5 := hk5.same D _ HDK.out rfl
    have ce := hI5.be.cell
    have fe := hI5.be.frozen
    clear hx hk5 HFL HNX cd HDK
    by_cases hR : R = 0
    · subst hR
      have hbp : BP = clearP N F C U T2 := HBP.out
      obtain ⟨a1, a2, hp, hf⟩ := hI5.pd
      have hcl := (callsIn_wide (n := 9)).2 (clear_any B p a1 a2 T2 N F C U W5 hp (by have := hI5.bs; have := hI5.bz; omega) (M + X.length + 1) hok2 (by omega))
      rw [← hbp] at hcl
      have c0 : W5.cell? ⟨w.heap.size + 1, 0, none⟩ = some (.int .i64 N) := by rw [cell_of_blk hI5.bg]; rfl
      have c1 : W5.cell? ⟨w.heap.size + 1, 1, none⟩ = some (.int .i64 F) := by rw [cell_of_blk hI5.bg]; rfl
      have c2 : W5.cell? ⟨w.heap.size + 1, 2, none⟩ = some (.int .i64 C) := by rw [cell_of_blk hI5.bg]; rfl
      have c3 : W5.cell? ⟨w.heap.size + 1, 3, none⟩ = some (.int .i64 U) := by rw [cell_of_blk hI5.bg]; rfl
      have cd := hI5.bd.cell
      obtain ⟨R2, T3, hRT⟩ : ∃ R T2, BP = (R, T2) := ⟨_, _, rfl⟩
      have HRT := Lib.hid hRT
      rw [hRT] at hcl
      dsimp only at hcl
      unfold geo at hcl
      have hnx := fun W' (hx : PP W5 B p a1 a2 T3 W') => And.intro (hI5.step hv hp hf hx) (pp_others hp hx)
      have HCL := Lib.hid hcl
      have HNX := Lib.hid hnx
      have HK5 := Lib.hid hK5
      clear hcl hnx hp hf hI5 hbp HBP hok2 hK5 hRT
      gi_wp2_with fail
      refine ⟨trivial, HCL.out.mono ?_⟩
      rintro e W6 ⟨rfl, hx⟩
      obtain ⟨hI6, hk6⟩ := HNX.out _ hx
      have hK6 := hk6.same D _ HK5.out rfl
      have ce := hI6.be.cell
      have fe := hI6.be.frozen
      have hI7 := hI6.setE hv R2
      have hK7 := (KeepsOthers.setCell W6 ⟨w.heap.size + 1 + 1, 0, none⟩ (.int .i64 R2)).same D _ hK6 rfl
      have HI7 := Lib.hid hI7
      have HK7 := Lib.hid hK7
      clear hx hI6 hk6 HCL HNX c0 c1 c2 c3 cd hI7 hK7 HK5
      gi_wp2
      refine ⟨by simp, .inl ⟨_, _, rfl, run_takeDeferred HK7.out, ?_⟩⟩
      have hI8 := HI7.out.own (grownBy_putObj' _ D (.deferred none)) (fun r e => by cases e; exact ⟨by have := HDL.out.1; omega, _, HK7.out, rfl⟩)
      refine ⟨.int .i64 BP.1, ?_, rfl, by rw [HRT.out]; exact hI8.fin⟩
      rw [HRT.out]
      have c9 := hI8.be.cell
      simp [results, Tryz.f33, go_sem] at c9 ⊢
      simp [c9]
    · have hr2 : (R == 0) = false := by simpa using hR
      have hr3 : (R != 0) = true := by simp [hR]
      have HRT := Lib.hid (show BP = (R, T2) from HBP.out.trans (if_pos hR))
      have hI7 := hI5.setE hv R
      have hK7 := (KeepsOthers.setCell W5 ⟨w.heap.size + 1 + 1, 0, none⟩ (.int .i64 R)).same D _ hK5 rfl
      have HI7 := Lib.hid hI7
      have HK7 := Lib.hid hK7
      clear hI5 hI7 hK7 hK5 hR HBP hok2
      gi_wp2
      refine ⟨by simp, .inl ⟨_, _, rfl, run_takeDeferred HK7.out, ?_⟩⟩
      have hI8 := HI7.out.own (grownBy_putObj' _ D (.deferred none)) (fun r e => by cases e; exact ⟨by have := HDL.out.1; omega, _, HK7.out, rfl⟩)
      refine ⟨.int .i64 BP.1, ?_, rfl, by rw [HRT.out]; exact hI8.fin⟩
      rw [HRT.out]
      have c9 := hI8.be.cell
      simp [results, Tryz.f33, go_sem] at c9 ⊢
      simp [c9]
  case stop =>
    rintro D c pre W hD hpre ⟨rfl, hne, hI⟩ hK
    obtain ⟨j, hj, rfl⟩ := hpre
    obtain ⟨r, hr⟩ := upE_pre X j hj
    have hbp : BP = wrL S (upE X j) := by
      rw [HB0.out]
      unfold backP
      rw [if_pos ho, hr, wrL_bad S _ r hne, if_pos hne]
    have HRT := Lib.hid hbp
    clear hbp
    gi_wp2
    refine ⟨by simp, .inl ⟨_, _, rfl, run_takeDeferred hK, ?_⟩⟩
    have hI8 := hI.own (grownBy_putObj' _ D (.deferred none)) (fun r e => by cases e; exact ⟨by omega, _, hK, rfl⟩)
    refine ⟨.int .i64 BP.1, ?_, rfl, by rw [HRT.out]; exact hI8.fin⟩
    rw [HRT.out]
    have c9 := hI8.be.cell
    simp [results, Tryz.f33, go_sem] at c9 ⊢
    simp [c9]

set_option maxRecDepth 20000 in
set_option maxHeartbeats 1000000 in
theorem back_any (B p : Nat) (v1 v2 : Value) (S : DS) (N F C U : Int) (a : Option Addr) (n cap : Nat) (X : List En) (w : World) (h : PD w B p v1 v2 S) (hB : B ≤ w.heap.size) (M : Nat) (hok : S.ok M) (hM : M + n + 3 ≤ 1000000) (hX : Es w a n cap X)
    (ha : ∀ b off, a = some ⟨b, off, none⟩ → 0 < n → ¬ foot p v1 v2 b ∧ b < w.heap.size) :
    Calls Tryz.prog 33 #[.pointer (some ⟨p, 0, none⟩), geo N F C U, .slice a n cap] w fun e w' => e = .returned (.int .i64 (backP N F C U S X).1) ∧ PP w B p v1 v2 (backP N F C U S X).2 w' := by
  by_cases ho : okG N F C U
  · exact callsIn_wide.1 (back_in B p v1 v2 S N F C U a n cap X w h hB M hok hM hX ha ho)
  · rw [show backP N F C U S X = (12, S) from if_neg ho]
    have hr := fun w => gright_any N F C U w
    rw [decide_eq_false ho] at hr
    unfold geo at hr ⊢
    have HR := Lib.hid hr
    have HH := Lib.hid h
    clear hr ho h hX
    have hbw : Below w.heap.size w (((w.alloc (.cells #[.pointer (some ⟨p, 0, none⟩)] 26)).alloc (.cells #[.int .i64 N, .int .i64 F, .int .i64 C, .int .i64 U] 23)).alloc (.cells #[.int .i64 0] 27)) := (((Below.refl _ w).alloc (Nat.le_refl _) _).alloc (by simp) _).alloc (by simp; omega) _
    have hb2 : Boxed (((w.alloc (.cells #[.pointer (some ⟨p, 0, none⟩)] 26)).alloc (.cells #[.int .i64 N, .int .i64 F, .int .i64 C, .int .i64 U] 23)).alloc (.cells #[.int .i64 0] 27)) (w.heap.size + 2) 27 (.int .i64 0) := by
      have e := Boxed.new ((w.alloc (.cells #[.pointer (some ⟨p, 0, none⟩)] 26)).alloc (.cells #[.int .i64 N, .int .i64 F, .int .i64 C, .int .i64 U] 23)) 27 (.int .i64 0)
      rw [World.size_alloc, World.size_alloc] at e
      exact e
    have HBW := Lib.hid hbw
    have HB2 := Lib.hid hb2
    clear hbw hb2
    go_enter Tryz.func33, Tryz.ntmps33
    go_wp2_with fail
    refine (HR.out _).mono ?_
    rintro e w1 ⟨rfl, hb⟩
    have hx := (hb.block _ (lt_of_block HB2.out)).trans HB2.out
    have hb2 : Boxed w1 (w.heap.size + 2) 27 (.int .i64 0) := hx
    have ce := hb2.cell
    have fe := hb2.frozen
    have HB3 := Lib.hid ((HBW.out.trans (hb.mono HBW.out.size)).setCell (p := ⟨w.heap.size + 2, 0, none⟩) (by show w.heap.size ≤ w.heap.size + 2; omega) (.int .i64 12))
    have HB4 := Lib.hid (hb2.set (.int .i64 12))
    clear hb hx hb2 HR
    go_wp2
    refine bodyPost_ret (by have := HB4.out.cell; simp [results, Tryz.f33, go_sem] at this ⊢; simp [this]; rfl) rfl ?_
    exact ⟨rfl, pp_after HH.out HB3.out⟩
end Go.Proofs.YtjohgagiccndpaaGreatDoor

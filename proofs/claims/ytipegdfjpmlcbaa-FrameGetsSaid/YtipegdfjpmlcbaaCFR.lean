/-
  The document's Put of a frame.
-/
import Derived.Test.YtipegdfjpmlcbaaCFQ
namespace Go.Proofs.Ytipegdfjpmlcbaa
open Go.RowKit
set_option linter.unusedVariables false
set_option linter.unusedSimpArgs false

theorem rbody_any' (f : FR) (a : Option Addr) (n c : Nat) (w : World) (hT : Tx w a n c f.list) (hv : f.vol < 4294967296) (hd : f.data.length ≤ 100000) (hl : ∀ k, ((f.list.take k).flatten).length ≤ 100000) :
    Calls Try.prog 19 #[frV f (.slice a n c)] w fun e w' => ∃ (sb : ByteArray) (ok : Bool), e = .returned (.tuple #[.string sb, .bool ok]) ∧ ok = bodyOK f ∧ (ok = true → strV (bodyP f) = .string sb) ∧ Below w.heap.size w w' :=
  (rbody_any f a n c w hT hv hd hl).mono fun e w' h => by
    obtain ⟨s, ok, he, hok, hs, hb⟩ := h
    obtain ⟨sb, hsb⟩ := str_of s
    exact ⟨sb, ok, by rw [he, hsb], hok, fun h => by rw [← hs h]; exact hsb, hb⟩
theorem take_load {ev : Operand → Value} {o : Oper} {ty : TypeId} {x : Operand} (ho : o.op = .load ty x) (g : Nat) (hx : ev x = .pointer (some ⟨g, 0, none⟩)) (t : TypeId) (cs : Array Value) (fr : Nat × Nat) (w : World) (hg : w.heap[g]? = some (.cells cs t fr))
    (fs : Array Field) (hu : Try.prog.underlying ty = some (.struct fs)) (hi : (Try.prog.info? ty).map (·.size) = some cs.size) : Sem.run Try.prog (execOp ev o) w = .ok (.value (.agg cs)) w := by
  unfold execOp
  simp only [ho, hx, Instr.loadAt, Instr.sureAddr, Sem.run_bind, Sem.run_pure, Result.andThen_ok, run_loadVar_row w g t ty cs fr _ hg hu rfl hi]

set_option maxRecDepth 20000 in
set_option maxHeartbeats 1000000 in
theorem rfput_no (f : FR) (a : Option Addr) (n c : Nat) (w : World) (hT : Tx w a n c f.list) (hv : f.vol < 4294967296) (hfit : f.fit) (hd : f.data.length ≤ 100000) (hl : ∀ k, ((f.list.take k).flatten).length ≤ 100000) (hg : bodyOK f = false) :
    Calls Try.prog 9 #[frV f (.slice a n c)] w fun e w' => e = .returned (.tuple #[strV (putP f).1, .int .i64 (putP f).2]) ∧ Below w.heap.size w w' := by
  have HPP := Lib.hid (show putP f = ([], 6) from by unfold putP; rw [if_neg]; rw [good_told f hv]; rw [hg]; simp)
  obtain ⟨C, hC⟩ : ∃ C, C = frC f (.slice a n c) := ⟨_, rfl⟩
  have hfv : frV f (.slice a n c) = .agg C := by rw [hC]; rfl
  obtain ⟨W0, hW0⟩ : ∃ x, x = w.alloc (.cells C 26) := ⟨_, rfl⟩
  have hb0 : Below w.heap.size w W0 := by rw [hW0]; exact (Below.refl _ _).alloc (Nat.le_refl _) _
  have hbx : W0.heap[w.heap.size]? = some (.cells C 26 (0, 0)) := by rw [hW0]; exact heap_alloc_new _ _
  have hlt : w.heap.size < W0.heap.size := lt_of_block hbx
  have hi0 : (Try.prog.info? 26).map (·.size) = some C.size := by rw [hC]; kernel_rfl
  have HI0 := Lib.hid hi0
  have hbd := rbody_any' f a n c W0 (hT.later hb0) hv hd hl
  rw [hfv] at hbd
  have HBD := Lib.hid hbd
  have HKP := Lib.hid (show ∀ w', Below W0.heap.size W0 w' → w'.heap[w.heap.size]? = some (.cells C 26 (0, 0)) from fun w' hb => (hb.block w.heap.size hlt).trans hbx)
  have HW0 := Lib.hid hW0
  have HB0 := Lib.hid hb0
  have HT := Lib.hid (hT.later hb0)
  have HFV := Lib.hid hfv
  have HC := Lib.hid hC
  have HFIT := Lib.hid hfit
  unfold frC at HC
  unfold frV
  clear hC hfv hW0 hb0 hlt hi0 hbd hT hv hd hl hfit
  have HG := Lib.hid hg
  clear hg
  go_enter Try.func9, Try.ntmps9
  go_upto_region 1 with fail
  rw [← HC.out, ← HW0.out]
  go_wp2_with (with_reducible refine wpList_load_row (o := ⟨some 8, _, _, _, _, _⟩) rfl 26 (.tmp 1) rfl w.heap.size rfl 26 C (0, 0) _ hbx Try.underlying26 rfl HI0.out ?_)
  refine HBD.out.mono ?_
  rintro e w1 ⟨sb, ok, rfl, hok, hs, hb1⟩
  obtain rfl : ok = false := hok.trans HG.out
  have HB1 := Lib.hid hb1.drew
  clear hok hs hb1
  go_wp2_with fail
  refine wp_region_held_drew (S := fun _ => True) (by kernel_rfl) trivial (fun hHeld => ?_)
  refine wpAnyH_take (i := 0) (oi := { dst := some 12, op := Op.move (Operand.tmp 5), type := 4, pos := "ref.go:87", after := #[], guard := none }) (v := ?_) rfl (by kernel_rfl) (by kernel_rfl) (by kernel_rfl) (fun _ _ _ h => h) (Or.inl ⟨by rfl, ?_⟩) (by assumption) ?_
  rotate_left
  · (intro w hSw; (try dsimp only at hSw); go_simp <;> with_reducible rfl)
  try simp only [Act.put, List.setIfInBounds_toArray, List.set_cons_zero, List.set_cons_succ]
  refine wpAnyH_take (i := 1) (oi := { dst := some 13, op := Op.unOp UnOp.not 4 (Operand.tmp 12), type := 4, pos := "ref.go:87", after := #[{ on := 0, ground := Ground.data }], guard := none }) (v := ?_) rfl (by kernel_rfl) (by kernel_rfl) (by kernel_rfl) (fun _ _ _ h => h) (Or.inl ⟨by rfl, ?_⟩) (by assumption) ?_
  rotate_left
  · (intro w hSw; (try dsimp only at hSw); go_simp <;> with_reducible rfl)
  try simp only [Act.put, List.setIfInBounds_toArray, List.set_cons_zero, List.set_cons_succ]
  refine wpAnyH_take (i := 2) (oi := { dst := some 14, op := Op.move (Operand.tmp 13), type := 4, pos := "ref.go:87", after := #[{ on := 1, ground := Ground.data }], guard := none }) (v := ?_) rfl (by kernel_rfl) (by kernel_rfl) (by kernel_rfl) (fun _ _ _ h => h) (Or.inl ⟨by rfl, ?_⟩) (by assumption) ?_
  rotate_left
  · (intro w hSw; (try dsimp only at hSw); go_simp <;> with_reducible rfl)
  try simp only [Act.put, List.setIfInBounds_toArray, List.set_cons_zero, List.set_cons_succ]
  refine wpAnyH_take (i := 3) (oi := { dst := some 15, op := Op.load 26 (Operand.tmp 1), type := 26, pos := "ref.go:87", after := #[{ on := 2, ground := Ground.guard }], guard := some (2, false) }) (v := undef) rfl (by kernel_rfl) (by kernel_rfl) (by kernel_rfl) (fun _ _ _ h => h) (Or.inr ⟨by rfl, rfl⟩) (by assumption) ?_
  try simp only [Act.put, List.setIfInBounds_toArray, List.set_cons_zero, List.set_cons_succ]
  refine wpAnyH_take (i := 4) (oi := { dst := some 16, op := Op.load 26 (Operand.tmp 1), type := 26, pos := "ref.go:87", after := #[{ on := 2, ground := Ground.guard }], guard := some (2, false) }) (v := undef) rfl (by kernel_rfl) (by kernel_rfl) (by kernel_rfl) (fun _ _ _ h => h) (Or.inr ⟨by rfl, rfl⟩) (by assumption) ?_
  try simp only [Act.put, List.setIfInBounds_toArray, List.set_cons_zero, List.set_cons_succ]
  refine wpAnyH_take (i := 5) (oi := { dst := some 17, op := Op.call { callee := Callee.value (Operand.func 20), args := #[Operand.tmp 16], argTypes := #[26] }, type := 26, pos := "ref.go:87", after := #[{ on := 4, ground := Ground.data }, { on := 2, ground := Ground.chain }, { on := 2, ground := Ground.guard }], guard := some (2, false) }) (v := undef) rfl (by kernel_rfl) (by kernel_rfl) (by kernel_rfl) (fun _ _ _ h => h) (Or.inr ⟨by rfl, rfl⟩) (by assumption) ?_
  try simp only [Act.put, List.setIfInBounds_toArray, List.set_cons_zero, List.set_cons_succ]
  refine wpAnyH_take (i := 6) (oi := { dst := some 18, op := Op.call { callee := Callee.value (Operand.func 11), args := #[Operand.tmp 15, Operand.tmp 17], argTypes := #[26, 26] }, type := 4, pos := "ref.go:87", after := #[{ on := 3, ground := Ground.data }, { on := 5, ground := Ground.data }, { on := 5, ground := Ground.chain }, { on := 2, ground := Ground.guard }], guard := some (2, false) }) (v := undef) rfl (by kernel_rfl) (by kernel_rfl) (by kernel_rfl) (fun _ _ _ h => h) (Or.inr ⟨by rfl, rfl⟩) (by assumption) ?_
  try simp only [Act.put, List.setIfInBounds_toArray, List.set_cons_zero, List.set_cons_succ]
  refine wpAnyH_take (i := 7) (oi := { dst := some 19, op := Op.unOp UnOp.not 4 (Operand.tmp 18), type := 4, pos := "ref.go:87", after := #[{ on := 6, ground := Ground.data }, { on := 2, ground := Ground.guard }], guard := some (2, false) }) (v := undef) rfl (by kernel_rfl) (by kernel_rfl) (by kernel_rfl) (fun _ _ _ h => h) (Or.inr ⟨by rfl, rfl⟩) (by assumption) ?_
  try simp only [Act.put, List.setIfInBounds_toArray, List.set_cons_zero, List.set_cons_succ]
  refine wpAnyH_take (i := 8) (oi := { dst := some 20, op := Op.pick (Operand.tmp 14) (Operand.const (Value.bool true)) (Operand.tmp 19), type := 4, pos := "ref.go:87", after := #[{ on := 2, ground := Ground.data }, { on := 7, ground := Ground.data }], guard := none }) (v := ?_) rfl (by kernel_rfl) (by kernel_rfl) (by kernel_rfl) (fun _ _ _ h => h) (Or.inl ⟨by rfl, ?_⟩) (by assumption) ?_
  rotate_left
  · (intro w hSw; (try dsimp only at hSw); go_simp <;> with_reducible rfl)
  try simp only [Act.put, List.setIfInBounds_toArray, List.set_cons_zero, List.set_cons_succ]
  refine wpAnyH_done (by kernel_rfl) ?_ _
  go_wp2
  refine bodyPost_ret (results_tmp2 rfl _ _ _) rfl ?_
  exact ⟨by rw [HPP.out]; rfl, HB0.out.trans (HB1.out.mono HB0.out.size)⟩

set_option maxRecDepth 20000 in
set_option maxHeartbeats 1000000 in
theorem rfput_told (f : FR) (a : Option Addr) (n c : Nat) (w : World) (hT : Tx w a n c f.list) (hv : f.vol < 4294967296) (hfit : f.fit) (hd : f.data.length ≤ 100000) (hl : ∀ k, ((f.list.take k).flatten).length ≤ 100000) (hg : bodyOK f = true) (hne : ¬ f = toldP f) :
    Calls Try.prog 9 #[frV f (.slice a n c)] w fun e w' => e = .returned (.tuple #[strV (putP f).1, .int .i64 (putP f).2]) ∧ Below w.heap.size w w' := by
  have HPP := Lib.hid (show putP f = ([], 6) from by unfold putP; rw [if_neg]; rw [good_told f hv]; intro h; exact hne h.2.symm)
  obtain ⟨C, hC⟩ : ∃ C, C = frC f (.slice a n c) := ⟨_, rfl⟩
  have hfv : frV f (.slice a n c) = .agg C := by rw [hC]; rfl
  obtain ⟨W0, hW0⟩ : ∃ x, x = w.alloc (.cells C 26) := ⟨_, rfl⟩
  have hb0 : Below w.heap.size w W0 := by rw [hW0]; exact (Below.refl _ _).alloc (Nat.le_refl _) _
  have hbx : W0.heap[w.heap.size]? = some (.cells C 26 (0, 0)) := by rw [hW0]; exact heap_alloc_new _ _
  have hlt : w.heap.size < W0.heap.size := lt_of_block hbx
  have hi0 : (Try.prog.info? 26).map (·.size) = some C.size := by rw [hC]; kernel_rfl
  have HI0 := Lib.hid hi0
  have hbd := rbody_any' f a n c W0 (hT.later hb0) hv hd hl
  rw [hfv] at hbd
  have HBD := Lib.hid hbd
  have HKP := Lib.hid (show ∀ w', Below W0.heap.size W0 w' → w'.heap[w.heap.size]? = some (.cells C 26 (0, 0)) from fun w' hb => (hb.block w.heap.size hlt).trans hbx)
  have HW0 := Lib.hid hW0
  have HB0 := Lib.hid hb0
  have HT := Lib.hid (hT.later hb0)
  have HFV := Lib.hid hfv
  have HC := Lib.hid hC
  have HFIT := Lib.hid hfit
  unfold frC at HC
  unfold frV
  clear hC hfv hW0 hb0 hlt hi0 hbd hT hv hd hl hfit
  have HG := Lib.hid hg
  have HNE := Lib.hid hne
  clear hg hne
  go_enter Try.func9, Try.ntmps9
  go_upto_region 1 with fail
  rw [← HC.out, ← HW0.out]
  go_wp2_with (with_reducible refine wpList_load_row (o := ⟨some 8, _, _, _, _, _⟩) rfl 26 (.tmp 1) rfl w.heap.size rfl 26 C (0, 0) _ hbx Try.underlying26 rfl HI0.out ?_)
  refine HBD.out.mono ?_
  rintro e w1 ⟨sb, ok, rfl, hok, hs, hb1⟩
  obtain rfl : ok = true := hok.trans HG.out
  have HS := Lib.hid (hs rfl)
  have HB1 := Lib.hid hb1.drew
  have HBE := Lib.hid hb1
  have hto := rtold_any f a n c w1.drew (HT.out.later HB1.out)
  rw [HFV.out] at hto
  have HTO := Lib.hid hto
  clear hok hs hb1 hto
  go_wp2_with fail
  refine wp_region_held_drew (S := fun w' => w'.heap[w.heap.size]? = some (.cells C 26 (0, 0))) (by kernel_rfl) (HKP.out _ HB1.out) (fun hHeld => ?_)
  refine wpAnyH_take (i := 0) (oi := { dst := some 12, op := Op.move (Operand.tmp 5), type := 4, pos := "ref.go:87", after := #[], guard := none }) (v := ?_) rfl (by kernel_rfl) (by kernel_rfl) (by kernel_rfl) (fun _ _ _ h => h) (Or.inl ⟨by rfl, ?_⟩) (by assumption) ?_
  rotate_left
  · (intro w hSw; (try dsimp only at hSw); go_simp <;> with_reducible rfl)
  try simp only [Act.put, List.setIfInBounds_toArray, List.set_cons_zero, List.set_cons_succ]
  refine wpAnyH_take (i := 1) (oi := { dst := some 13, op := Op.unOp UnOp.not 4 (Operand.tmp 12), type := 4, pos := "ref.go:87", after := #[{ on := 0, ground := Ground.data }], guard := none }) (v := ?_) rfl (by kernel_rfl) (by kernel_rfl) (by kernel_rfl) (fun _ _ _ h => h) (Or.inl ⟨by rfl, ?_⟩) (by assumption) ?_
  rotate_left
  · (intro w hSw; (try dsimp only at hSw); go_simp <;> with_reducible rfl)
  try simp only [Act.put, List.setIfInBounds_toArray, List.set_cons_zero, List.set_cons_succ]
  refine wpAnyH_take (i := 2) (oi := { dst := some 14, op := Op.move (Operand.tmp 13), type := 4, pos := "ref.go:87", after := #[{ on := 1, ground := Ground.data }], guard := none }) (v := ?_) rfl (by kernel_rfl) (by kernel_rfl) (by kernel_rfl) (fun _ _ _ h => h) (Or.inl ⟨by rfl, ?_⟩) (by assumption) ?_
  rotate_left
  · (intro w hSw; (try dsimp only at hSw); go_simp <;> with_reducible rfl)
  try simp only [Act.put, List.setIfInBounds_toArray, List.set_cons_zero, List.set_cons_succ]
  refine wpAnyH_take (i := 3) (oi := { dst := some 15, op := Op.load 26 (Operand.tmp 1), type := 26, pos := "ref.go:87", after := #[{ on := 2, ground := Ground.guard }], guard := some (2, false) }) (v := .agg C) rfl (by kernel_rfl) (by kernel_rfl) (by kernel_rfl) (fun _ _ _ h => h) (Or.inl ⟨by rfl, fun w' hSw => take_load rfl w.heap.size rfl 26 C (0, 0) w' hSw _ Try.underlying26 HI0.out⟩) (by assumption) ?_
  try simp only [Act.put, List.setIfInBounds_toArray, List.set_cons_zero, List.set_cons_succ]
  refine wpAnyH_take (i := 4) (oi := { dst := some 16, op := Op.load 26 (Operand.tmp 1), type := 26, pos := "ref.go:87", after := #[{ on := 2, ground := Ground.guard }], guard := some (2, false) }) (v := .agg C) rfl (by kernel_rfl) (by kernel_rfl) (by kernel_rfl) (fun _ _ _ h => h) (Or.inl ⟨by rfl, fun w' hSw => take_load rfl w.heap.size rfl 26 C (0, 0) w' hSw _ Try.underlying26 HI0.out⟩) (by assumption) ?_
  try simp only [Act.put, List.setIfInBounds_toArray, List.set_cons_zero, List.set_cons_succ]
  refine wpAnyH_ready (rs := [5]) (by kernel_rfl) (by simp) ?_
  refine AllReadyH.cons (o := { dst := some 17, op := Op.call { callee := Callee.value (Operand.func 20), args := #[Operand.tmp 16], argTypes := #[26] }, type := 26, pos := "ref.go:87", after := #[{ on := 4, ground := Ground.data }, { on := 2, ground := Ground.chain }, { on := 2, ground := Ground.guard }], guard := some (2, false) }) rfl (fun K hK => ?_) AllReadyH.nil
  go_simp
  go_at_call 20
  refine HTO.out.mono ?_
  rintro r w2 ⟨a2, n2, c2, rfl, ht2, hb2⟩
  have hb3 := HB1.out.trans (hb2.mono HB1.out.size)
  obtain ⟨TV, hTV⟩ : ∃ x, x = frC (toldP f) (.slice a2 n2 c2) := ⟨_, rfl⟩
  have hfv2 : frV (toldP f) (.slice a2 n2 c2) = .agg TV := by rw [hTV]; rfl
  have hal := ralike_any f (toldP f) a a2 n n2 c c2 w2 (HT.out.later hb3) ht2
  rw [HFV.out, hfv2, decide_eq_false HNE.out] at hal
  rw [hfv2]
  have HAL := Lib.hid hal
  have HB3 := Lib.hid hb3
  clear hal hfv2 hTV hb2 ht2
  refine hK _ _ (HKP.out _ hb3) (fun hHeld => ?_)
  clear hK K
  try simp only [Act.put, List.setIfInBounds_toArray, List.set_cons_zero, List.set_cons_succ]
  refine wpAnyH_ready (rs := [6]) (by kernel_rfl) (by simp) ?_
  refine AllReadyH.cons (o := { dst := some 18, op := Op.call { callee := Callee.value (Operand.func 11), args := #[Operand.tmp 15, Operand.tmp 17], argTypes := #[26, 26] }, type := 4, pos := "ref.go:87", after := #[{ on := 3, ground := Ground.data }, { on := 5, ground := Ground.data }, { on := 5, ground := Ground.chain }, { on := 2, ground := Ground.guard }], guard := some (2, false) }) rfl (fun K hK => ?_) AllReadyH.nil
  go_simp
  go_at_call 11
  refine HAL.out.mono ?_
  rintro r w3 ⟨rfl, hb⟩
  have hb4 := HB3.out.trans (hb.mono HB3.out.size)
  clear hb
  refine hK _ _ (HKP.out _ hb4) (fun hHeld => ?_)
  clear hK K
  try simp only [Act.put, List.setIfInBounds_toArray, List.set_cons_zero, List.set_cons_succ]
  refine wpAnyH_take (i := 7) (oi := { dst := some 19, op := Op.unOp UnOp.not 4 (Operand.tmp 18), type := 4, pos := "ref.go:87", after := #[{ on := 6, ground := Ground.data }, { on := 2, ground := Ground.guard }], guard := some (2, false) }) (v := ?_) rfl (by kernel_rfl) (by kernel_rfl) (by kernel_rfl) (fun _ _ _ h => h) (Or.inl ⟨by rfl, ?_⟩) (by assumption) ?_
  rotate_left
  · (intro w hSw; (try dsimp only at hSw); go_simp <;> with_reducible rfl)
  try simp only [Act.put, List.setIfInBounds_toArray, List.set_cons_zero, List.set_cons_succ]
  refine wpAnyH_take (i := 8) (oi := { dst := some 20, op := Op.pick (Operand.tmp 14) (Operand.const (Value.bool true)) (Operand.tmp 19), type := 4, pos := "ref.go:87", after := #[{ on := 2, ground := Ground.data }, { on := 7, ground := Ground.data }], guard := none }) (v := ?_) rfl (by kernel_rfl) (by kernel_rfl) (by kernel_rfl) (fun _ _ _ h => h) (Or.inl ⟨by rfl, ?_⟩) (by assumption) ?_
  rotate_left
  · (intro w hSw; (try dsimp only at hSw); go_simp <;> with_reducible rfl)
  try simp only [Act.put, List.setIfInBounds_toArray, List.set_cons_zero, List.set_cons_succ]
  refine wpAnyH_done (by kernel_rfl) ?_ _
  have HB4 := Lib.hid hb4
  clear hb4 hb3
  go_wp2
  refine bodyPost_ret (results_tmp2 rfl _ _ _) rfl ?_
  exact ⟨by rw [HPP.out]; rfl, HB0.out.trans (HB4.out.mono HB0.out.size)⟩

set_option maxRecDepth 20000 in
set_option maxHeartbeats 1000000 in
theorem rfput_yes (f : FR) (a : Option Addr) (n c : Nat) (w : World) (hT : Tx w a n c f.list) (hv : f.vol < 4294967296) (hfit : f.fit) (hd : f.data.length ≤ 100000) (hl : ∀ k, ((f.list.take k).flatten).length ≤ 100000) (hg : bodyOK f = true) (he : f = toldP f) :
    Calls Try.prog 9 #[frV f (.slice a n c)] w fun e w' => e = .returned (.tuple #[strV (putP f).1, .int .i64 (putP f).2]) ∧ Below w.heap.size w w' := by
  have HPP := Lib.hid (show putP f = (frameB f, 0) from by unfold putP; rw [if_pos ((good_told f hv).2 ⟨hg, he.symm⟩)])
  have HVO := Lib.hid hv
  obtain ⟨C, hC⟩ : ∃ C, C = frC f (.slice a n c) := ⟨_, rfl⟩
  have hfv : frV f (.slice a n c) = .agg C := by rw [hC]; rfl
  obtain ⟨W0, hW0⟩ : ∃ x, x = w.alloc (.cells C 26) := ⟨_, rfl⟩
  have hb0 : Below w.heap.size w W0 := by rw [hW0]; exact (Below.refl _ _).alloc (Nat.le_refl _) _
  have hbx : W0.heap[w.heap.size]? = some (.cells C 26 (0, 0)) := by rw [hW0]; exact heap_alloc_new _ _
  have hlt : w.heap.size < W0.heap.size := lt_of_block hbx
  have hi0 : (Try.prog.info? 26).map (·.size) = some C.size := by rw [hC]; kernel_rfl
  have HI0 := Lib.hid hi0
  have hbd := rbody_any' f a n c W0 (hT.later hb0) hv hd hl
  rw [hfv] at hbd
  have HBD := Lib.hid hbd
  have HKP := Lib.hid (show ∀ w', Below W0.heap.size W0 w' → w'.heap[w.heap.size]? = some (.cells C 26 (0, 0)) from fun w' hb => (hb.block w.heap.size hlt).trans hbx)
  have HW0 := Lib.hid hW0
  have HB0 := Lib.hid hb0
  have HT := Lib.hid (hT.later hb0)
  have HFV := Lib.hid hfv
  have HC := Lib.hid hC
  have HFIT := Lib.hid hfit
  unfold frC at HC
  unfold frV
  clear hC hfv hW0 hb0 hlt hi0 hbd hT hv hd hl hfit
  have HG := Lib.hid hg
  have HE := Lib.hid he
  have HLB := Lib.hid (good_len ((good_told f HVO.out).2 ⟨hg, he.symm⟩))
  clear hg he
  go_enter Try.func9, Try.ntmps9
  go_upto_region 1 with fail
  rw [← HC.out, ← HW0.out]
  go_wp2_with (with_reducible refine wpList_load_row (o := ⟨some 8, _, _, _, _, _⟩) rfl 26 (.tmp 1) rfl w.heap.size rfl 26 C (0, 0) _ hbx Try.underlying26 rfl HI0.out ?_)
  refine HBD.out.mono ?_
  rintro e w1 ⟨sb, ok, rfl, hok, hs, hb1⟩
  obtain rfl : ok = true := hok.trans HG.out
  have HS := Lib.hid (hs rfl)
  have HB1 := Lib.hid hb1.drew
  have HBE := Lib.hid hb1
  have hto := rtold_any f a n c w1.drew (HT.out.later HB1.out)
  rw [HFV.out] at hto
  have HTO := Lib.hid hto
  clear hok hs hb1 hto
  go_wp2_with fail
  refine wp_region_held_drew (S := fun w' => w'.heap[w.heap.size]? = some (.cells C 26 (0, 0))) (by kernel_rfl) (HKP.out _ HB1.out) (fun hHeld => ?_)
  refine wpAnyH_take (i := 0) (oi := { dst := some 12, op := Op.move (Operand.tmp 5), type := 4, pos := "ref.go:87", after := #[], guard := none }) (v := ?_) rfl (by kernel_rfl) (by kernel_rfl) (by kernel_rfl) (fun _ _ _ h => h) (Or.inl ⟨by rfl, ?_⟩) (by assumption) ?_
  rotate_left
  · (intro w hSw; (try dsimp only at hSw); go_simp <;> with_reducible rfl)
  try simp only [Act.put, List.setIfInBounds_toArray, List.set_cons_zero, List.set_cons_succ]
  refine wpAnyH_take (i := 1) (oi := { dst := some 13, op := Op.unOp UnOp.not 4 (Operand.tmp 12), type := 4, pos := "ref.go:87", after := #[{ on := 0, ground := Ground.data }], guard := none }) (v := ?_) rfl (by kernel_rfl) (by kernel_rfl) (by kernel_rfl) (fun _ _ _ h => h) (Or.inl ⟨by rfl, ?_⟩) (by assumption) ?_
  rotate_left
  · (intro w hSw; (try dsimp only at hSw); go_simp <;> with_reducible rfl)
  try simp only [Act.put, List.setIfInBounds_toArray, List.set_cons_zero, List.set_cons_succ]
  refine wpAnyH_take (i := 2) (oi := { dst := some 14, op := Op.move (Operand.tmp 13), type := 4, pos := "ref.go:87", after := #[{ on := 1, ground := Ground.data }], guard := none }) (v := ?_) rfl (by kernel_rfl) (by kernel_rfl) (by kernel_rfl) (fun _ _ _ h => h) (Or.inl ⟨by rfl, ?_⟩) (by assumption) ?_
  rotate_left
  · (intro w hSw; (try dsimp only at hSw); go_simp <;> with_reducible rfl)
  try simp only [Act.put, List.setIfInBounds_toArray, List.set_cons_zero, List.set_cons_succ]
  refine wpAnyH_take (i := 3) (oi := { dst := some 15, op := Op.load 26 (Operand.tmp 1), type := 26, pos := "ref.go:87", after := #[{ on := 2, ground := Ground.guard }], guard := some (2, false) }) (v := .agg C) rfl (by kernel_rfl) (by kernel_rfl) (by kernel_rfl) (fun _ _ _ h => h) (Or.inl ⟨by rfl, fun w' hSw => take_load rfl w.heap.size rfl 26 C (0, 0) w' hSw _ Try.underlying26 HI0.out⟩) (by assumption) ?_
  try simp only [Act.put, List.setIfInBounds_toArray, List.set_cons_zero, List.set_cons_succ]
  refine wpAnyH_take (i := 4) (oi := { dst := some 16, op := Op.load 26 (Operand.tmp 1), type := 26, pos := "ref.go:87", after := #[{ on := 2, ground := Ground.guard }], guard := some (2, false) }) (v := .agg C) rfl (by kernel_rfl) (by kernel_rfl) (by kernel_rfl) (fun _ _ _ h => h) (Or.inl ⟨by rfl, fun w' hSw => take_load rfl w.heap.size rfl 26 C (0, 0) w' hSw _ Try.underlying26 HI0.out⟩) (by assumption) ?_
  try simp only [Act.put, List.setIfInBounds_toArray, List.set_cons_zero, List.set_cons_succ]
  refine wpAnyH_ready (rs := [5]) (by kernel_rfl) (by simp) ?_
  refine AllReadyH.cons (o := { dst := some 17, op := Op.call { callee := Callee.value (Operand.func 20), args := #[Operand.tmp 16], argTypes := #[26] }, type := 26, pos := "ref.go:87", after := #[{ on := 4, ground := Ground.data }, { on := 2, ground := Ground.chain }, { on := 2, ground := Ground.guard }], guard := some (2, false) }) rfl (fun K hK => ?_) AllReadyH.nil
  go_simp
  go_at_call 20
  refine HTO.out.mono ?_
  rintro r w2 ⟨a2, n2, c2, rfl, ht2, hb2⟩
  have hb3 := HB1.out.trans (hb2.mono HB1.out.size)
  obtain ⟨TV, hTV⟩ : ∃ x, x = frC (toldP f) (.slice a2 n2 c2) := ⟨_, rfl⟩
  have hfv2 : frV (toldP f) (.slice a2 n2 c2) = .agg TV := by rw [hTV]; rfl
  have hal := ralike_any f (toldP f) a a2 n n2 c c2 w2 (HT.out.later hb3) ht2
  rw [HFV.out, hfv2, decide_eq_true HE.out] at hal
  rw [hfv2]
  have HAL := Lib.hid hal
  have HB3 := Lib.hid hb3
  clear hal hfv2 hTV hb2 ht2
  refine hK _ _ (HKP.out _ hb3) (fun hHeld => ?_)
  clear hK K
  try simp only [Act.put, List.setIfInBounds_toArray, List.set_cons_zero, List.set_cons_succ]
  refine wpAnyH_ready (rs := [6]) (by kernel_rfl) (by simp) ?_
  refine AllReadyH.cons (o := { dst := some 18, op := Op.call { callee := Callee.value (Operand.func 11), args := #[Operand.tmp 15, Operand.tmp 17], argTypes := #[26, 26] }, type := 4, pos := "ref.go:87", after := #[{ on := 3, ground := Ground.data }, { on := 5, ground := Ground.data }, { on := 5, ground := Ground.chain }, { on := 2, ground := Ground.guard }], guard := some (2, false) }) rfl (fun K hK => ?_) AllReadyH.nil
  go_simp
  go_at_call 11
  refine HAL.out.mono ?_
  rintro r w3 ⟨rfl, hb⟩
  have hb4 := HB3.out.trans (hb.mono HB3.out.size)
  clear hb
  refine hK _ _ (HKP.out _ hb4) (fun hHeld => ?_)
  clear hK K
  try simp only [Act.put, List.setIfInBounds_toArray, List.set_cons_zero, List.set_cons_succ]
  refine wpAnyH_take (i := 7) (oi := { dst := some 19, op := Op.unOp UnOp.not 4 (Operand.tmp 18), type := 4, pos := "ref.go:87", after := #[{ on := 6, ground := Ground.data }, { on := 2, ground := Ground.guard }], guard := some (2, false) }) (v := ?_) rfl (by kernel_rfl) (by kernel_rfl) (by kernel_rfl) (fun _ _ _ h => h) (Or.inl ⟨by rfl, ?_⟩) (by assumption) ?_
  rotate_left
  · (intro w hSw; (try dsimp only at hSw); go_simp <;> with_reducible rfl)
  try simp only [Act.put, List.setIfInBounds_toArray, List.set_cons_zero, List.set_cons_succ]
  refine wpAnyH_take (i := 8) (oi := { dst := some 20, op := Op.pick (Operand.tmp 14) (Operand.const (Value.bool true)) (Operand.tmp 19), type := 4, pos := "ref.go:87", after := #[{ on := 2, ground := Ground.data }, { on := 7, ground := Ground.data }], guard := none }) (v := ?_) rfl (by kernel_rfl) (by kernel_rfl) (by kernel_rfl) (fun _ _ _ h => h) (Or.inl ⟨by rfl, ?_⟩) (by assumption) ?_
  rotate_left
  · (intro w hSw; (try dsimp only at hSw); go_simp <;> with_reducible rfl)
  try simp only [Act.put, List.setIfInBounds_toArray, List.set_cons_zero, List.set_cons_succ]
  refine wpAnyH_done (by kernel_rfl) ?_ _
  have HB4 := Lib.hid hb4
  clear hb4 hb3
  obtain ⟨kd, hkd⟩ : ∃ x, x = f.kind := ⟨_, rfl⟩
  obtain ⟨se, hse⟩ : ∃ x, x = f.sess := ⟨_, rfl⟩
  obtain ⟨ep, hep⟩ : ∃ x, x = f.ep := ⟨_, rfl⟩
  obtain ⟨sq, hsq⟩ : ∃ x, x = f.seq := ⟨_, rfl⟩
  have hwc := wrap_wv
  have wse : wv (se : Int) = se := wv_nat (by have := HFIT.out.sess; omega)
  have wep : wv (ep : Int) = ep := wv_nat (by have := HFIT.out.ep; omega)
  have wsq : wv (sq : Int) = sq := wv_nat (by have := HFIT.out.seq; omega)
  obtain ⟨t1, ht1⟩ := str_of (enc (wv kd) 1)
  obtain ⟨t2, ht2⟩ := str_of (enc (wv (se : Int)) 8)
  obtain ⟨t3, ht3⟩ := str_of (enc (wv (ep : Int)) 8)
  obtain ⟨t4, ht4⟩ := str_of (enc (wv (sq : Int)) 4)
  obtain ⟨t5, ht5⟩ := str_of (enc (wv (sb.size : Int)) 2)
  have hsum := add_str (add_str (add_str (add_str (add_str ht1 ht2) ht3) ht4) ht5) HS.out
  have hsz : sb.size = (bodyP f).length := sd_size HS.out
  have hse2 : (((((enc (wv kd) 1 ++ enc (wv (se : Int)) 8) ++ enc (wv (ep : Int)) 8) ++ enc (wv (sq : Int)) 4) ++ enc (wv (sb.size : Int)) 2) ++ bodyP f) = sumB f := by
    have hq : wv (sb.size : Int) = (bodyP f).length := by rw [← hsz]; exact wv_nat (by have := HLB.out; omega)
    rw [wse, wep, wsq, hq, hkd, hse, hep, hsq]
    simp [sumB, headB]
  rw [hse2] at hsum
  have z1 : t1.size = 1 := by rw [sd_size ht1]; simp [enc_length]
  have z2 : t2.size = 8 := by rw [sd_size ht2]; simp [enc_length]
  have z3 : t3.size = 8 := by rw [sd_size ht3]; simp [enc_length]
  have z4 : t4.size = 4 := by rw [sd_size ht4]; simp [enc_length]
  have z5 : t5.size = 2 := by rw [sd_size ht5]; simp [enc_length]
  have z6 : ¬ 9223372036854775807 < 23 + sb.size := by have := HLB.out; omega
  have HX1 := Lib.hid (show ∀ w, Calls Try.prog 21 #[.int .i64 1, .int .u64 (wv kd : Int)] w fun e w' => e = .returned (.string t1) ∧ Below w.heap.size w w' from fun w => by have h := text_w 1 kd (by omega) (by omega) t1 ht1 w; exact h)
  have HX2 := Lib.hid (show ∀ w, Calls Try.prog 21 #[.int .i64 8, .int .u64 (se : Int)] w fun e w' => e = .returned (.string t2) ∧ Below w.heap.size w w' from fun w => by have h := text_w 8 (se : Int) (by omega) (by omega) t2 ht2 w; rw [wse] at h; exact h)
  have HX3 := Lib.hid (show ∀ w, Calls Try.prog 21 #[.int .i64 8, .int .u64 (ep : Int)] w fun e w' => e = .returned (.string t3) ∧ Below w.heap.size w w' from fun w => by have h := text_w 8 (ep : Int) (by omega) (by omega) t3 ht3 w; rw [wep] at h; exact h)
  have HX4 := Lib.hid (show ∀ w, Calls Try.prog 21 #[.int .i64 4, .int .u64 (sq : Int)] w fun e w' => e = .returned (.string t4) ∧ Below w.heap.size w w' from fun w => by have h := text_w 4 (sq : Int) (by omega) (by omega) t4 ht4 w; rw [wsq] at h; exact h)
  have HX5 := Lib.hid (show ∀ w, Calls Try.prog 21 #[.int .i64 2, .int .u64 (wv (sb.size : Int) : Int)] w fun e w' => e = .returned (.string t5) ∧ Below w.heap.size w w' from fun w => by have h := text_w 2 (sb.size : Int) (by omega) (by omega) t5 ht5 w; exact h)
  obtain ⟨t6, ht6⟩ := str_of (enc (addN 0 (sumB f)) 4)
  have hal2 := addN_lt 0 (sumB f)
  have Z6 := Lib.hid (show t6.size = 4 by rw [sd_size ht6]; simp [enc_length])
  have hx6 := fun w => text_any 4 (addN 0 (sumB f)) w (by omega) (by omega) (by omega)
  rw [ht6] at hx6
  have HX6 := Lib.hid hx6
  have hfr := add_str hsum ht6
  have HFR := Lib.hid (show strV (frameB f) = _ from hfr)
  have HSUM := Lib.hid hsum
  have hssz := sd_size hsum
  have HSS := Lib.hid (show (t1 ++ t2 ++ t3 ++ t4 ++ t5 ++ sb).size ≤ 1000 by rw [hssz, sumB_length]; have := HLB.out; omega)
  have HST := Lib.hid (show ∀ w', Below W0.heap.size W0 w' → (fun w' : World => w'.cell? ⟨w.heap.size, 0, none⟩ = some (.int .i64 kd) ∧ w'.cell? ⟨w.heap.size, 1, none⟩ = some (.int .u64 (se : Int)) ∧ w'.cell? ⟨w.heap.size, 2, none⟩ = some (.int .u64 (ep : Int)) ∧ w'.cell? ⟨w.heap.size, 3, none⟩ = some (.int .u32 (sq : Int))) w' from fun w' hb => by
    have hbl := HKP.out w' hb
    rw [HC.out] at hbl
    exact ⟨by rw [cell_of_blk hbl 0, hkd]; rfl, by rw [cell_of_blk hbl 1, hse]; rfl, by rw [cell_of_blk hbl 2, hep]; rfl, by rw [cell_of_blk hbl 3, hsq]; rfl⟩)
  have HB5 := Lib.hid HB4.out.drew
  clear hkd hse hep hsq ht1 ht2 ht3 ht4 ht5 ht6 hsum hsz hse2 hx6 wse wep hfr hssz hal2 hHeld
  go_wp2_with fail
  go_region_held3 (fun w' : World => w'.cell? ⟨w.heap.size, 0, none⟩ = some (.int .i64 kd) ∧ w'.cell? ⟨w.heap.size, 1, none⟩ = some (.int .u64 (se : Int)) ∧ w'.cell? ⟨w.heap.size, 2, none⟩ = some (.int .u64 (ep : Int)) ∧ w'.cell? ⟨w.heap.size, 3, none⟩ = some (.int .u32 (sq : Int))) (first | exact HST.out _ HB5.out | exact HST.out _ HB4.out | exact HST.out _ b1 | exact HST.out _ b2 | exact HST.out _ b3 | exact HST.out _ b4 | exact HST.out _ b5) (first
    | (go_at_call 21; with_reducible refine (HX1.out _).mono ?_; rintro r v1 ⟨rfl, hb⟩; have b1 := HB5.out.trans (hb.mono HB5.out.size); clear hb)
    | (go_at_call 21; with_reducible refine (HX2.out _).mono ?_; rintro r v2 ⟨rfl, hb⟩; have b2 := b1.trans (hb.mono b1.size); clear hb)
    | (go_at_call 21; with_reducible refine (HX3.out _).mono ?_; rintro r v3 ⟨rfl, hb⟩; have b3 := b2.trans (hb.mono b2.size); clear hb)
    | (go_at_call 21; with_reducible refine (HX4.out _).mono ?_; rintro r v4 ⟨rfl, hb⟩; have b4 := b3.trans (hb.mono b3.size); clear hb)
    | (go_at_call 21; with_reducible refine (HX5.out _).mono ?_; rintro r v5 ⟨rfl, hb⟩; have b5 := b4.trans (hb.mono b4.size); clear hb))
  all_goals (
    have HB6 := Lib.hid b5
    rename_i hHeld
    clear b1 b2 b3 b4 b5 hHeld
    obtain ⟨SS, hSS⟩ : ∃ x, x = t1 ++ t2 ++ t3 ++ t4 ++ t5 ++ sb := ⟨_, rfl⟩
    rw [← hSS] at HFR HSUM HSS
    have HSQ := Lib.hid hSS
    have hrl : SS.data.toList = sumB f := by
      have h := HSUM.out
      unfold strV at h
      injection h with h
      rw [← h]
    obtain ⟨cc, wc, hcv, hrd, hbc⟩ := cv_rd SS (by have := HSS.out; omega) v5
    rw [hrl] at hrd
    obtain ⟨cs, hcs⟩ : ∃ x, x = addN 0 (sumB f) := ⟨_, rfl⟩
    have hsu := rsum_any _ _ _ _ wc hrd
    rw [← hcs] at hsu HX6
    have HSU := Lib.hid hsu
    have wad : IntKind.u64.wrap (cs : Int) = (cs : Int) := IntWalk.u64_in _ (by have := addN_lt 0 (sumB f); omega)
    have HB7 := Lib.hid (HB6.out.trans (hbc.mono HB6.out.size))
    have z7 : t6.size = 4 := Z6.out
    have z8 : ¬ 9223372036854775807 < SS.size + 4 := by have := HSS.out; omega
    clear hSS hrl hrd hbc hsu hcs hwc z1 z2 z3 z4 z5 z6
    try rw [← HSQ.out]
    go_wp2_with fail
    refine HSU.out.mono ?_
    rintro r w8 ⟨rfl, rfl⟩
    go_wp2_with fail
    refine (HX6.out _).mono ?_
    rintro r w9 ⟨rfl, hb9⟩
    have HB9 := Lib.hid (HB7.out.trans (hb9.mono HB7.out.size))
    clear hb9
    go_wp2
    refine bodyPost_ret (results_tmp2 rfl _ _ _) rfl ?_
    exact ⟨by rw [HPP.out]; dsimp only; rw [HFR.out]; rfl, HB0.out.trans (HB9.out.mono HB0.out.size)⟩)

theorem rfput_any (f : FR) (a : Option Addr) (n c : Nat) (w : World) (hT : Tx w a n c f.list) (hv : f.vol < 4294967296) (hfit : f.fit) (hd : f.data.length ≤ 100000) (hl : ∀ k, ((f.list.take k).flatten).length ≤ 100000) :
    Calls Try.prog 9 #[frV f (.slice a n c)] w fun e w' => e = .returned (.tuple #[strV (putP f).1, .int .i64 (putP f).2]) ∧ Below w.heap.size w w' := by
  cases hg : bodyOK f with
  | false => exact rfput_no f a n c w hT hv hfit hd hl hg
  | true =>
    by_cases he : f = toldP f
    · exact rfput_yes f a n c w hT hv hfit hd hl hg he
    · exact rfput_told f a n c w hT hv hfit hd hl hg he
end Go.Proofs.Ytipegdfjpmlcbaa


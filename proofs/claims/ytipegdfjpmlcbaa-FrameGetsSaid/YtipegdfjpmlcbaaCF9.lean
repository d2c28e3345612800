/-
  A frame is opened: no kind of frame; the head of a frame.
-/
import Derived.Test.YtipegdfjpmlcbaaCF8
import Derived.Deep.Cut
namespace Go.Proofs.Ytipegdfjpmlcbaa
open Go.RowKit
set_option linter.unusedVariables false
set_option linter.unusedSimpArgs false

theorem results_row_one {P : Program} {fn : Func} {p : Tmp} {ty : TypeId} (h : fn.results = #[.cell p ty]) (tmps : Array Value) (w : World) (g : Nat) (t : TypeId) (cs : Array Value) (fr : Nat × Nat) (d : TypeDesc)
    (hp : tmps.getD p undef = .pointer (some ⟨g, 0, none⟩)) (hg : w.heap[g]? = some (.cells cs t fr))
    (hu : P.underlying ty = some d) (hd : (match d with | .struct _ | .array _ _ => true | _ => false) = true) (hi : (P.info? ty).map (·.size) = some cs.size) :
    (results fn tmps).run P w = .ok (.agg cs) w := by
  have hp' : tmps[p]?.getD undef = .pointer (some ⟨g, 0, none⟩) := by simpa using hp
  simp [results, h, hp', asAddr, run_loadVar_row w g t ty cs fr d hg hu hd hi]

set_option maxRecDepth 20000 in
set_option maxHeartbeats 1000000 in
theorem open_else (h : FR) (hh : h = h.head) (hk : h.kind ≠ 1 ∧ h.kind ≠ 2 ∧ h.kind ≠ 3 ∧ h.kind ≠ 4 ∧ h.kind ≠ 5 ∧ h.kind ≠ 6 ∧ h.kind ≠ 7) (a : Option Addr) (n c : Nat) (xs : List UInt8) (w : World) (hrd : Rd w a n c xs) :
    Calls Try.prog 15 #[frV h (.slice none 0 0), .slice a n c] w fun e w' => OpenR h xs w e w' := by
  have hl0 : h.list = [] := by rw [hh]; rfl
  have hal : Below w.heap.size w ((w.alloc (.cells (frC h (.slice none 0 0)) 26)).alloc (.cells (frC fr0 (.slice none 0 0)) 26)) := ((Below.refl _ _).alloc (Nat.le_refl _) _).alloc (by simp) _
  have hnw := new_any a n c xs _ (hrd.later hal)
  have HNW := Lib.hid hnw
  have HRD := Lib.hid hrd
  have HL0 := Lib.hid hl0
  have HH := Lib.hid hh
  have HKK := Lib.hid hk
  have HBG := Lib.hid (fun w2 p hp hr hb => op_begin h hl0 a n c xs w w2 p hrd hp hr hb)
  have hi0 : (Try.prog.info? 26).map (·.size) = some frZ.size := by kernel_rfl
  have ho0 : frZ.all (·.oneCell') = true := by simp [frZ, Value.oneCell']
  clear hnw hal hrd hl0 hh hk
  simp only [frC, fr0, strV, List.map_nil] at HNW
  unfold frV
  go_enter Try.func15, Try.ntmps15
  go_wp2
  refine wp_scope_once 0 rfl ?_
  go_wp2_with fail
  refine HNW.out.mono ?_
  rintro e w2 ⟨p, rfl, hp, hr, hb⟩
  have hop := HBG.out w2 p hp hr hb
  obtain ⟨f0, hf0⟩ : ∃ f, f = h := ⟨_, rfl⟩
  have HF0 := Lib.hid hf0
  have HOP0 := Lib.hid hop
  clear hp hr hb HBG HNW HRD hop hf0
  have k0 : w2.cell? ⟨w.heap.size, 0, none⟩ = some (.int .i64 h.kind) := by rw [HOP0.out.cell 0]; rfl
  obtain ⟨kk, hkk⟩ : ∃ k, k = h.kind := ⟨_, rfl⟩
  rw [← hkk] at k0
  have HK2 := Lib.hid hkk
  clear hkk
  have q1 : (kk == 1) = false := by have := HKK.out; rw [HK2.out]; simp [this]
  have q2 : (kk == 2) = false := by have := HKK.out; rw [HK2.out]; simp [this]
  have q3 : (kk == 3) = false := by have := HKK.out; rw [HK2.out]; simp [this]
  have q4 : (kk == 4) = false := by have := HKK.out; rw [HK2.out]; simp [this]
  have q5 : (kk == 5) = false := by have := HKK.out; rw [HK2.out]; simp [this]
  have q6 : (kk == 6) = false := by have := HKK.out; rw [HK2.out]; simp [this]
  have q7 : (kk == 7) = false := by have := HKK.out; rw [HK2.out]; simp [this]
  have HNO := Lib.hid (show openP h xs = none from by have := HKK.out; simp [openP, this])
  obtain ⟨hw5, hb5, _⟩ := op_row HOP0.out frZ
  have hrs := HOP0.out.res
  rw [frZ_eq] at hrs
  have HB5 := Lib.hid hb5
  clear hb5
  go_wp2
  go_step3
  refine ⟨rfl, ?_⟩
  go_wp2_with (with_reducible refine wpList_store_row (o := ⟨none, _, _, _, _, _⟩) rfl 26 (.tmp 4) (.tmp 99) rfl (w.heap.size + 1) frZ rfl rfl 26 frZ hrs hi0 rfl ho0 ?_)
  rw [Exit.noGoto_ret]
  refine bodyPost_ret (results_row_tmp (p := 4) (u := 5) (ty := 26) rfl _ _ (w.heap.size + 1) 26 frZ (0, 0) _ rfl hw5 Try.underlying26 rfl hi0) rfl ?_
  exact open_bad HNO.out rfl HB5.out

@[reducible] def hdC (h : FR) : Array Value := #[.int .i64 h.kind, .int .u64 (h.sess : Int), .int .u64 (h.ep : Int), .int .u32 (h.seq : Int), .int .u32 0, .int .i64 0, .int .i64 0, .int .i64 0, .int .i64 0, .string ⟨#[]⟩, .slice none 0 0]
theorem hdC_eq (h : FR) : frC h.head (.slice none 0 0) = hdC h := rfl
theorem hdC_one (h : FR) : (hdC h).all (·.oneCell') = true := frC_one h.head none 0 0

set_option maxRecDepth 20000 in
set_option maxHeartbeats 1000000 in
theorem head_any (h : FR) (a : Option Addr) (n c : Nat) (w : World) :
    Calls Try.prog 16 #[frV h (.slice a n c)] w fun e w' => e = .returned (frV h.head (.slice none 0 0)) ∧ Below w.heap.size w w' := by
  have hal : Below w.heap.size w ((w.alloc (.cells (frC h (.slice a n c)) 26)).alloc (.cells frZ 26)) := ((Below.refl _ _).alloc (Nat.le_refl _) _).alloc (by simp) _
  have hi0 : (Try.prog.info? 26).map (·.size) = some frZ.size := by kernel_rfl
  have hi1 : (Try.prog.info? 26).map (·.size) = some (hdC h).size := hi0
  have HO1 := Lib.hid (hdC_one h)
  have HS1 := Lib.hid (show frZ.size = (hdC h).size from rfl)
  obtain ⟨w2, hw2⟩ : ∃ x, x = (w.alloc (.cells (frC h (.slice a n c)) 26)).alloc (.cells frZ 26) := ⟨_, rfl⟩
  rw [← hw2] at hal
  have hrs : w2.heap[w.heap.size + 1]? = some (.cells frZ 26 (0, 0)) := by rw [hw2]; exact heap_alloc2_new w _ _
  have HB : Hid (Below w.heap.size w (w2.setRow (w.heap.size + 1) (hdC h))) := Lib.hid (below_setRow hal (by omega) (hdC h))
  have hw5 : (w2.setRow (w.heap.size + 1) (hdC h)).heap[w.heap.size + 1]? = some (.cells (hdC h) 26 (0, 0)) := setRow_heap w2 _ _ (hdC h) _ _ hrs
  have HW2 := Lib.hid hw2
  have HRS := Lib.hid hrs
  have l0 : ∀ i, w2.cell? ⟨w.heap.size, i, none⟩ = (frC h (.slice a n c))[i]? := fun i => by
    have hb : w2.heap[w.heap.size]? = some (.cells (frC h (.slice a n c)) 26 (0, 0)) := by rw [hw2]; exact heap_alloc2_old w _ _
    exact cell_of_blk hb i
  have c0 := l0 0
  have c1 := l0 1
  have c2 := l0 2
  have c3 := l0 3
  unfold frC at HW2
  unfold frZ at HW2
  unfold frV
  simp [frC] at c0 c1 c2 c3
  clear hw2 hrs hal l0
  go_enter Try.func16, Try.ntmps16
  go_upto_region 1 with fail
  rw [← HW2.out]
  have hrs := HRS.out
  go_wp2_with (with_reducible refine wpList_store_row (o := ⟨none, _, _, _, _, _⟩) rfl 26 (.tmp 2) (.tmp 11) rfl (w.heap.size + 1) (hdC h) rfl rfl 26 frZ hrs hi1 HS1.out HO1.out ?_)
  refine bodyPost_ret (results_row_one (p := 2) (ty := 26) rfl _ _ (w.heap.size + 1) 26 (hdC h) (0, 0) _ rfl hw5 Try.underlying26 rfl hi1) rfl ?_
  exact ⟨rfl, HB.out⟩
end Go.Proofs.Ytipegdfjpmlcbaa


/-
  Bytes are read as a frame (Get): where they are too short.
-/
import Derived.Test.YtipegdfjpmlcbaaCFG
namespace Go.Proofs.Ytipegdfjpmlcbaa
open Go.RowKit
set_option linter.unusedVariables false
set_option linter.unusedSimpArgs false

/-- What Get leaves. -/
def GetR (xs : List UInt8) (w : World) (e : Ending) (w' : World) : Prop :=
  ∃ V, e = .returned (.tuple #[V, .int .i64 (getP xs).2]) ∧ Frm w' (getP xs).1 V ∧ Below w.heap.size w w'
theorem getr_bad {xs : List UInt8} {w w' : World} {e : Ending} {k : Int} (hp : getP xs = (fr0, k)) (he : e = .returned (.tuple #[.agg frZ, .int .i64 k])) (hb : Below w.heap.size w w') : GetR xs w e w' :=
  ⟨.agg frZ, by rw [hp]; exact he, by rw [hp]; exact ⟨none, 0, 0, rfl, tx_nil w'⟩, hb⟩

set_option maxRecDepth 20000 in
set_option maxHeartbeats 1000000 in
theorem get_0 (a : Option Addr) (n c : Nat) (xs : List UInt8) (w : World) (hrd : Rd w a n c xs) (hn : n < 27) :
    Calls Try.prog 12 #[.slice a n c] w fun e w' => GetR xs w e w' := by
  have hlen := hrd.len
  have hP : getP xs = (fr0, 7) := by unfold getP; rw [if_pos (by omega)]
  have HP := Lib.hid hP
  have HRD := Lib.hid hrd
  have hi0 : (Try.prog.info? 26).map (·.size) = some frZ.size := by kernel_rfl
  have ho0 : frZ.all (·.oneCell') = true := by simp [frZ, Value.oneCell']
  obtain ⟨W0, hW0⟩ : ∃ x, x = w.alloc (.cells frZ 26) := ⟨_, rfl⟩
  have hrs : W0.heap[w.heap.size]? = some (.cells frZ 26 (0, 0)) := by rw [hW0]; exact heap_alloc_new _ _
  have hb0 : Below w.heap.size w W0 := by rw [hW0]; exact (Below.refl _ _).alloc (Nat.le_refl _) _
  have hw5 : (W0.setRow w.heap.size frZ).heap[w.heap.size]? = some (.cells frZ 26 (0, 0)) := setRow_heap _ _ _ frZ _ _ hrs
  have HB5 := Lib.hid (below_setRow hb0 (Nat.le_refl _) frZ)
  have HW0 := Lib.hid hW0
  have c1 : (n : Int) < 27 := by omega
  unfold frZ at HW0
  clear hW0 hb0 hP hrd
  go_enter Try.func12, Try.ntmps12
  go_upto_region 1 with fail
  rw [← HW0.out]
  go_wp2_with (with_reducible refine wpList_store_row (o := ⟨none, _, _, _, _, _⟩) rfl 26 (.tmp 2) (.tmp 14) rfl w.heap.size frZ rfl rfl 26 frZ hrs hi0 rfl ho0 ?_)
  refine bodyPost_ret (results_row_tmp (p := 2) (u := 3) (ty := 26) rfl _ _ w.heap.size 26 frZ (0, 0) _ rfl hw5 Try.underlying26 rfl hi0) rfl ?_
  exact getr_bad HP.out rfl HB5.out
end Go.Proofs.Ytipegdfjpmlcbaa


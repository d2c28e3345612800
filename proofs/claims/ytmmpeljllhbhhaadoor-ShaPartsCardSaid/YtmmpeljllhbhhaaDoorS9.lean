/-
  Contracts: Sum of bytes; the reference's Sum.
-/
import Derived.Test.YtmmpeljllhbhhaaDoorS8
import Derived.Deep.RegionHeldLaw
import Derived.StillTailTactics
namespace Go.Proofs.YtmmpeljllhbhhaaDoor
open Go.RowKit
set_option linter.unusedVariables false
set_option linter.unusedSimpArgs false

set_option maxHeartbeats 400000 in
theorem hsum_nil (w : World) :
    Calls Tryd.prog 11 #[.pointer none] w fun e w' => e = .returned (.string ⟨#[]⟩) ∧ w' = w := by
  go_enter Tryd.func11, Tryd.ntmps11
  go_wp2
  go_ret
  exact ⟨rfl, rfl⟩

theorem Kon.below {w w' : World} (h : Kon w) (hb : Below w.heap.size w w') : Kon w' := fun j hj => by
  rw [hb.cell (by exact World.block_lt_of_cell? w _ (h j hj))]; exact h j hj

theorem Kon.lt {w : World} (h : Kon w) : 0 < w.heap.size := World.block_lt_of_cell? w _ (h 0 (by omega))

set_option maxHeartbeats 1000000 in
theorem sum_any (a : Option Addr) (n cap : Nat) (ys : List UInt8) (w : World) (hR : Rd w a n cap ys) (hK : Kon w) (hl : n ≤ 1125899906842624) :
    Calls Tryd.prog 7 #[.slice a n cap] w fun e w' => e = .returned (strV (dig ys)) ∧ Below w.heap.size w w' := by
  have HK := Lib.hid hK
  have HR := Lib.hid hR
  have hblk : ∀ x, a = some x → 0 < n → x.block < w.heap.size := fun x e h0 => by
    obtain ⟨b, o, e1, hb, _⟩ := hR.at0 h0
    rw [e] at e1; cases e1; exact hb
  have HB := Lib.hid hblk
  clear hR hK hblk
  go_enter Tryd.func7, Tryd.ntmps7
  go_wp2_with fail
  refine (new_hash _).mono ?_
  rintro e w1 ⟨p, rfl, hp, hh, hb1⟩
  have hK1 := HK.out.below hb1
  have hp0 : p ≠ 0 := by have := HK.out.lt; omega
  have HK1 := Lib.hid hK1
  have HH := Lib.hid hh
  have HB1 := Lib.hid hb1
  clear hK1 hh hb1
  go_wp2_with fail
  refine (write_any p [] a n cap ys w1 HH.out (HR.out.later HB1.out) (fun x e h0 => by have := HB.out x e h0; omega) HK1.out hp0 (by simp; omega)).mono ?_
  rintro e w2 ⟨rfl, hst, hgr⟩
  have hlen := HR.out.len
  have hH2 := hst.hsh (by simp; omega)
  have hK2 : Kon w2 := fun j hj => by
    rw [World.cell?_of_block (w := w1) (hgr.block _ HK1.out.lt (by show some _ ≠ some _; intro e; cases e; exact hp0 rfl))]; exact HK1.out j hj
  have hB2 : Below w.heap.size w w2 := HB1.out.grown hgr HB1.out.size (fun j hj => by cases hj; exact hp)
  have HK2 := Lib.hid hK2
  have HH2 := Lib.hid hH2
  have HB2 := Lib.hid hB2
  clear hst hgr hH2 hK2 hB2
  go_wp2_with fail
  refine (hsum_any p ([] ++ ys) w2 HH2.out HK2.out (by simp; omega)).mono ?_
  rintro e w3 ⟨rfl, hb3⟩
  go_wp2
  go_ret
  exact ⟨rfl, HB2.out.trans (hb3.mono HB2.out.size)⟩

theorem rconst_run (w : World) : ∃ C : Array Value, (∀ j, j < 64 → C[j]? = some (.int .u32 (konAt j : Int))) ∧
    ∀ w, Calls Tryd.prog 14 #[] w fun e w' => e = .returned (.slice (some ⟨w.heap.size, 0, none⟩) 64 64) ∧ w' = w.alloc (.cells C 35) := by
  refine ⟨(kon.map fun (n : Nat) => Value.int .u32 (n : Int)).toArray, ?_, ?_⟩
  · intro j hj
    have : j < kon.length := hj
    simp [konAt, List.getD, List.getElem?_eq_getElem this]
  · intro w
    go_enter Tryd.func14, Tryd.ntmps14
    go_wp2
    go_ret
    exact ⟨rfl, rfl⟩
end Go.Proofs.YtmmpeljllhbhhaaDoor

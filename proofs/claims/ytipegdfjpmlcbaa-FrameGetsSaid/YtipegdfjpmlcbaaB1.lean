/-
  How an argument of type []byte is opened into 'Rd'.
-/
import Derived.Test.YtipegdfjpmlcbaaB0
import Derived.ProofKit
import Derived.SizedLaws
namespace Go.Proofs.Ytipegdfjpmlcbaa
open Go.ChangeShapes Go.WideShapes Go.ChangeAt Go.RowKit
set_option linter.unusedVariables false

theorem u8_of_wf {n : Int} (h : (Lit.int .u8 n).wf = true) : ((UInt8.ofNat n.toNat).toNat : Int) = n := by
  have h1 : IntKind.u8.min = 0 := rfl
  have h2 : IntKind.u8.max = 255 := rfl
  simp only [Lit.wf, Bool.and_eq_true, decide_eq_true_eq] at h
  rw [UInt8.toNat_ofNat']
  omega

theorem rd_of_ints {w : World} {x : Addr} {l c : Nat} {zs : List Int} (hl : l ≤ c) (hm : c ≤ maxLen) (hr : c ≤ 140737488351232) (hz : zs.length = c)
    (hcell : ∀ i, i < zs.length → w.cell? (x.add i) = some (.int .u8 (zs.getD i 0))) (hwz : ∀ n ∈ zs, (Lit.int .u8 n).wf = true) :
    Rd w (some x) l c ((zs.take l).map fun n => UInt8.ofNat n.toNat) := by
  refine ⟨by simp; omega, hl, by omega, hm, fun h0 => ?_, fun e => by cases e⟩
  obtain ⟨b, off, spot⟩ := x
  have hc := hcell 0 (by omega)
  have hspot : spot = none := by simpa [Addr.add] using World.cell?_spot hc
  subst hspot
  have hb := World.block_lt_of_cell? w _ hc
  rw [Addr.add_none] at hb
  refine ⟨b, off, rfl, hb, fun i hi => ?_⟩
  have h1 := hcell i (by omega)
  rw [Addr.add_none] at h1
  rw [h1]
  have hi2 : i < zs.length := by omega
  have e1 : zs.getD i 0 = zs[i] := by simp [List.getD, List.getElem?_eq_getElem hi2]
  have e2 : ((zs.take l).map fun n => UInt8.ofNat n.toNat)[i]?.getD 0 = UInt8.ofNat (zs[i]).toNat := by
    rw [List.getElem?_map, List.getElem?_take_of_lt hi, List.getElem?_eq_getElem hi2]
    rfl
  rw [e1, e2, u8_of_wf (hwz _ (List.getElem_mem hi2))]

end Go.Proofs.Ytipegdfjpmlcbaa


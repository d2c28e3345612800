/-
  The fixed calls (known); a disk that is not there.
-/
import Derived.Test.YtodcdefmoliegaaGreatDoorE5
namespace Go.Proofs.YtodcdefmoliegaaGreatDoor
open Go.RowKit
set_option linter.unusedVariables false
set_option linter.unusedSimpArgs false

theorem Bl.one (w : World) (b : Bool) : Bl (w.alloc (.cells #[.bool b] 4)) (some ⟨w.heap.size, 0, none⟩) 1 [b] :=
  ⟨rfl, by omega, fun _ => ⟨_, _, rfl, by simp, fun i hi => by
    obtain rfl : i = 0 := by omega
    exact World.cell?_alloc_at _ _ _ _ rfl⟩⟩

def kS1 : DS := ⟨[secOf 0, secOf 0], [(1, secOf 7)], -1, false, 1⟩
def kS2 : DS := ⟨[secOf 0, secOf 7], [], -1, true, 1⟩
def kS3 : DS := ⟨[secOf 0, secOf 7], [], -1, false, 1⟩
theorem k1 : (ds0 2).write 1 (secOf 7) = (0, kS1) := by
  simp [DS.write, ds0, DS.has, secOf_size, DS.burnt, kS1, List.replicate]
theorem k2 : kS1.crash [true] = kS2 := by
  simp [DS.crash, kS1, kS2, appK, wAt]
theorem k3 : kS2.up = (0, kS3) := by simp [DS.up, kS2, kS3]
theorem k4 : kS3.read 1 = (secOf 7, 0) := by
  simp [DS.read, kS3, DS.has, look, lAt]
theorem k5 : kS3.write 0 ⟨#[120]⟩ = (4, kS3) := by
  simp [DS.write, kS3, DS.has, ByteArray.size]



end Go.Proofs.YtodcdefmoliegaaGreatDoor


/-
  The fixed calls (known); a disk that is not there.
-/
import Derived.Test.YtfbeblpkjpijbaaE5
namespace Go.Proofs.Ytfbeblpkjpijbaa
open Go.RowKit
set_option linter.unusedVariables false
set_option linter.unusedSimpArgs false

theorem Bl.one (w : World) (b : Bool) : Bl (w.alloc (.cells #[.bool b] 4)) (some ⟨w.heap.size, 0, none⟩) 1 [b] :=
  ⟨rfl, by omega, fun _ => ⟨_, _, rfl, by simp, fun i hi => by
    obtain rfl : i = 0 := by omega
    exact World.cell?_alloc_at _ _ _ _ rfl⟩⟩

def kS1 : DS := ⟨[secOf 0, secOf 0], [(1, secOf 7)], -1, false, 1⟩
def kS2 : DS := ⟨[secOf 0, secOf 7], [], -1, true, 1⟩
def kS3 : DS := ⟨[secOf 0, secOf 7], [], -1, false, 1⟩
theorem k1 : (ds0 2).write 1 (secOf 7) = (0, kS1) := by
  simp [DS.write, ds0, DS.has, secOf_size, DS.burnt, kS1, List.replicate]
theorem k2 : kS1.crash [true] = kS2 := by
  simp [DS.crash, kS1, kS2, appK, wAt]
theorem k3 : kS2.up = (0, kS3) := by simp [DS.up, kS2, kS3]
theorem k4 : kS3.read 1 = (secOf 7, 0) := by
  simp [DS.read, kS3, DS.has, look, lAt]
theorem k5 : kS3.write 0 ⟨#[120]⟩ = (4, kS3) := by
  simp [DS.write, kS3, DS.has, ByteArray.size]

set_option maxRecDepth 20000 in
set_option maxHeartbeats 1000000 in
theorem known_true (w : World) :
    Calls Try.prog 8 #[] w fun e w' => e = .returned (.bool true) ∧ Below w.heap.size w w' := by
  have h0 := new_any 2 w (by omega) (by omega)
  rw [show ((2 : Nat) : Int) = 2 from rfl] at h0
  have H0 := Lib.hid h0
  clear h0
  go_enter Try.func8, Try.ntmps8
  go_wp2_with fail
  refine H0.out.mono ?_
  rintro e w1 ⟨p, v1, rfl, hpd1, hb1⟩
  have h1 := rfill_any 7 7 rfl w1
  have HPD1 := Lib.hid hpd1
  have HB1 := Lib.hid hb1
  have H1 := Lib.hid h1
  clear hpd1 hb1 h1
  go_wp2_with fail
  refine H1.out.mono ?_
  rintro e w2 ⟨rfl, hb2⟩
  have hpd2 := HPD1.out.below hb2
  have hB2 := HB1.out.trans (hb2.mono HB1.out.size)
  have h2 := write_any w.heap.size p v1 _ (ds0 2) 1 (secOf 7) w2 hpd2 hB2.size 0 (ds0_ok 2 (by omega)) (by omega)
  rw [k1] at h2
  have H2 := Lib.hid h2
  have HB2 := Lib.hid hB2
  have HF2 := Lib.hid hpd2.foot_low
  clear h2 hpd2 hb2 hB2
  go_wp2_with fail
  refine H2.out.mono ?_
  rintro e w3 ⟨rfl, v1', v2', hpd3, hfr3, hft3⟩
  have hB3 := HB2.out.trans (hfr3.below (B := w.heap.size) (fun k hk => (HF2.out k hk).1) HB2.out.size)
  have hal : Below w3.heap.size w3 (w3.alloc (.cells #[.bool true] 4)) := (Below.refl _ _).alloc (Nat.le_refl _) _
  have hpd3a := hpd3.below hal
  have hB3a := hB3.trans (hal.mono hB3.size)
  have ok1 : kS1.ok 1 := by have := (ds0_ok 2 (by omega)).write 1 (secOf 7); rw [k1] at this; exact this
  have h3 := crash_any w.heap.size p v1' v2' kS1 (some ⟨w3.heap.size, 0, none⟩) 1 1 [true] _ hpd3a hB3a.size 1 ok1 (by omega) (Bl.one w3 true) (fun b off e _ hf => by cases e; have := (hpd3.foot_low _ hf).2; omega)
  rw [k2] at h3
  have H3 := Lib.hid h3
  have HB3 := Lib.hid hB3a
  have HF3 := Lib.hid hpd3a.foot_low
  clear h3 hpd3 hpd3a hfr3 hft3 hB3 hB3a hal
  go_wp2_with fail
  refine H3.out.mono ?_
  rintro e w4 ⟨rfl, v1a, v2a, hpd4, hfr4, hft4⟩
  have hB4 := HB3.out.trans (hfr4.below (B := w.heap.size) (fun k hk => (HF3.out k hk).1) HB3.out.size)
  have h4 := up_any w.heap.size p v1a v2a kS2 w4 hpd4
  rw [k3] at h4
  have H4 := Lib.hid h4
  have HB4 := Lib.hid hB4
  have HF4 := Lib.hid hpd4.foot_low
  clear h4 hpd4 hfr4 hft4 hB4
  go_wp2_with fail
  refine H4.out.mono ?_
  rintro e w5 ⟨rfl, v1b, v2b, hpd5, hfr5, hft5⟩
  have hB5 := HB4.out.trans (hfr5.below (B := w.heap.size) (fun k hk => (HF4.out k hk).1) HB4.out.size)
  have h5 := read_any w.heap.size p v1b v2b kS3 1 w5 hpd5 (by simp [kS3]) (by simp [kS3])
  rw [k4] at h5
  have H5 := Lib.hid h5
  have HB5 := Lib.hid hB5
  have HPD5 := Lib.hid hpd5
  clear h5 hpd5 hfr5 hft5 hB5
  go_wp2_with fail
  refine H5.out.mono ?_
  rintro e w6 ⟨rfl, hb6⟩
  have hpd6 := HPD5.out.below hb6
  have hB6 := HB5.out.trans (hb6.mono HB5.out.size)
  have ok3 : kS3.ok 1 := by have := (ok1.crash [true]).up; rw [k2, k3] at this; exact this
  have h6 := write_any w.heap.size p v1b v2b kS3 0 ⟨#[120]⟩ w6 hpd6 hB6.size 1 ok3 (by omega)
  rw [k5] at h6
  have H6 := Lib.hid h6
  have HB6 := Lib.hid hB6
  have HF6 := Lib.hid hpd6.foot_low
  clear h6 hpd6 hb6 hB6
  unfold two
  go_wp2_with fail
  refine H6.out.mono ?_
  rintro e w7 ⟨rfl, v1c, v2c, hpd7, hfr7, hft7⟩
  have hB7 := HB6.out.trans (hfr7.below (B := w.heap.size) (fun k hk => (HF6.out k hk).1) HB6.out.size)
  have h7 := rfill_any 7 7 rfl w7
  have H7 := Lib.hid h7
  have HB7 := Lib.hid hB7
  have HPD7 := Lib.hid hpd7
  clear h7 hpd7 hfr7 hft7 hB7
  go_wp2_with fail
  refine H7.out.mono ?_
  rintro e w8 ⟨rfl, hb8⟩
  have hB8 := HB7.out.trans (hb8.mono HB7.out.size)
  have hpd8 := HPD7.out.below hb8
  obtain ⟨fu, e, c0, c1, c2, c3, c4, c5, hf⟩ := hpd8.cells
  have h8 := done_any p _ w8 c5
  rw [show ((kS3.did : Nat) : Int) = 1 from rfl] at h8
  have H8 := Lib.hid h8
  have HB8 := Lib.hid hB8
  clear h8 hpd8 hb8 hB8 c0 c1 c2 c3 c4 c5 hf e
  go_wp2_with fail
  refine H8.out.mono ?_
  rintro e w9 ⟨rfl, rfl⟩
  go_wp2
  go_ret
  exact ⟨rfl, HB8.out⟩

set_option maxRecDepth 20000 in
set_option maxHeartbeats 1000000 in
theorem nil_walk (at' : Int) (data : ByteArray) (w : World) :
    Calls Try.prog 6 #[.int .i64 at', .string data] w fun e w' => e = .returned (.bool true) ∧ Below w.heap.size w w' := by
  go_enter Try.func6, Try.ntmps6
  go_wp2_with fail
  refine (fuse_nil _ _).mono ?_
  rintro e w1 ⟨rfl, hw1⟩; obtain rfl := hw1.symm; clear hw1
  go_wp2_with fail
  refine (crash_nil _ _).mono ?_
  rintro e w1 ⟨rfl, hw1⟩; obtain rfl := hw1.symm; clear hw1
  go_wp2_with fail
  refine (read_nil _ _).mono ?_
  rintro e w1 ⟨rfl, hb1⟩
  unfold two
  go_wp2_with fail
  refine (kept_nil _ _).mono ?_
  rintro e w2 ⟨rfl, hw1⟩; obtain rfl := hw1.symm; clear hw1
  unfold two noBytes
  go_wp2_with fail
  refine (len_nil _).mono ?_
  rintro e w2 ⟨rfl, hw1⟩; obtain rfl := hw1.symm; clear hw1
  go_wp2_with fail
  refine (write_nil _ _ _).mono ?_
  rintro e w2 ⟨rfl, hw1⟩; obtain rfl := hw1.symm; clear hw1
  go_wp2_with fail
  refine (flush_nil _).mono ?_
  rintro e w2 ⟨rfl, hw1⟩; obtain rfl := hw1.symm; clear hw1
  go_wp2_with fail
  refine (up_nil _).mono ?_
  rintro e w2 ⟨rfl, hw1⟩; obtain rfl := hw1.symm; clear hw1
  go_wp2_with fail
  refine (down_nil _).mono ?_
  rintro e w2 ⟨rfl, hw1⟩; obtain rfl := hw1.symm; clear hw1
  go_wp2_with fail
  refine (waits_nil _).mono ?_
  rintro e w2 ⟨rfl, hw1⟩; obtain rfl := hw1.symm; clear hw1
  go_wp2_with fail
  refine (done_nil _).mono ?_
  rintro e w2 ⟨rfl, hw1⟩; obtain rfl := hw1.symm; clear hw1
  go_wp2_with fail
  refine (copy_nil _).mono ?_
  rintro e w2 ⟨rfl, hw1⟩; obtain rfl := hw1.symm; clear hw1
  go_wp2_with fail
  refine (known_true _).mono ?_
  rintro e w3 ⟨rfl, hb3⟩
  go_wp2
  go_ret
  exact ⟨rfl, hb1.trans (hb3.mono hb1.size)⟩

end Go.Proofs.Ytfbeblpkjpijbaa

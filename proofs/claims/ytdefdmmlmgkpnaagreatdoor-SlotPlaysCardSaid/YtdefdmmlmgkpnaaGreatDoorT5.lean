/-
  A disk that a call has made, act by act; the fixed calls.
-/
import Derived.Test.YtdefdmmlmgkpnaaGreatDoorT4
namespace Go.Proofs.YtdefdmmlmgkpnaaGreatDoor
open Go.RowKit
set_option linter.unusedVariables false
set_option linter.unusedSimpArgs false

/-- A disk at p in the state S, made since w0. -/
def St (w0 w : World) (p : Nat) (S : DS) : Prop := ∃ v1 v2, PD w w0.heap.size p v1 v2 S ∧ Below w0.heap.size w0 w

theorem St.size {w0 w : World} {p : Nat} {S : DS} (h : St w0 w p S) : w0.heap.size ≤ w.heap.size := by obtain ⟨_, _, _, hb⟩ := h; exact hb.size
theorem St.fin {w0 w : World} {p : Nat} {S : DS} (h : St w0 w p S) : Below w0.heap.size w0 w := by obtain ⟨_, _, _, hb⟩ := h; exact hb
theorem St.low {w0 w : World} {p : Nat} {S : DS} (h : St w0 w p S) : w0.heap.size ≤ p := by obtain ⟨_, _, hp, hb⟩ := h; exact hp.low
theorem St.below {w0 w w' : World} {p : Nat} {S : DS} (h : St w0 w p S) (hb : Below w.heap.size w w') : St w0 w' p S := by
  obtain ⟨v1, v2, hp, h0⟩ := h
  exact ⟨v1, v2, hp.below hb, h0.trans (hb.mono h0.size)⟩
theorem St.pp {w0 w w' : World} {p : Nat} {v1 v2 : Value} {S S' : DS} (hp : PD w w0.heap.size p v1 v2 S) (h0 : Below w0.heap.size w0 w) (h : PP w w0.heap.size p v1 v2 S' w') : St w0 w' p S' := by
  obtain ⟨a, b, hp', hf, ht⟩ := h
  exact ⟨a, b, hp', h0.trans (hf.below (fun k hk => (hp.foot_low k hk).1) h0.size)⟩

theorem st_new (n : Nat) (w : World) (h0 : 1 ≤ n) (h1 : n ≤ 1200) :
    Calls Tryz.prog 4 #[.int .i64 n] w fun e w' => ∃ p, e = .returned (.tuple #[.pointer (some ⟨p, 0, none⟩), .int .i64 0]) ∧ St w w' p (ds0 n) := by
  refine (dnew_any n w h0 h1).mono ?_
  rintro e w' ⟨p, v1, rfl, hp, hb⟩
  exact ⟨p, rfl, v1, _, hp, hb⟩
theorem st_load {w0 w : World} {p : Nat} {S : DS} (at' kind : Int) (h : St w0 w p S) (hok : S.ok 1000) :
    Calls Tryz.prog 14 #[.pointer (some ⟨p, 0, none⟩), .int .i64 at', .int .i64 kind] w fun e w' => e = .returned (loadV (loadP S at' kind)) ∧ St w0 w' p S := by
  have h' := h
  obtain ⟨v1, v2, hp, hb⟩ := h
  refine (load_any _ p v1 v2 S at' kind w hp (by have := hok.few; have := hok.did; omega) hok.len).mono ?_
  rintro e w' ⟨rfl, hb'⟩
  exact ⟨rfl, h'.below hb'⟩
theorem st_save {w0 w : World} {p : Nat} {S : DS} (at' kind : Int) (seq : Nat) (xs : List UInt8) (h : St w0 w p S) (hok : S.ok 1000) (hs : seq < 18446744073709551616) (hx : xs.length ≤ 9223372036854775807) :
    Calls Tryz.prog 15 #[.pointer (some ⟨p, 0, none⟩), .int .i64 at', .int .i64 kind, .int .u64 seq, strV xs] w fun e w' => e = .returned (.int .i64 (saveP S at' kind seq xs).1) ∧ St w0 w' p (saveP S at' kind seq xs).2 := by
  obtain ⟨v1, v2, hp, hb⟩ := h
  refine (save_any _ p v1 v2 S at' kind seq xs w hp hb.size 1000 hok (by omega) hs hx).mono ?_
  rintro e w' ⟨rfl, hpp⟩
  exact ⟨rfl, St.pp hp hb hpp⟩
theorem st_fuse {w0 w : World} {p : Nat} {S : DS} (n : Int) (h : St w0 w p S) :
    Calls Tryz.prog 25 #[.pointer (some ⟨p, 0, none⟩), .int .i64 n] w fun e w' => e = .returned (.tuple #[]) ∧ St w0 w' p (S.fuse n) := by
  obtain ⟨v1, v2, hp, hb⟩ := h
  refine (fuse_any _ p v1 v2 S n w hp).mono ?_
  rintro e w' ⟨rfl, hpp⟩
  exact ⟨rfl, St.pp hp hb hpp⟩
theorem st_up {w0 w : World} {p : Nat} {S : DS} (h : St w0 w p S) :
    Calls Tryz.prog 23 #[.pointer (some ⟨p, 0, none⟩)] w fun e w' => e = .returned (.int .i64 S.up.1) ∧ St w0 w' p S.up.2 := by
  obtain ⟨v1, v2, hp, hb⟩ := h
  refine (up_any _ p v1 v2 S w hp).mono ?_
  rintro e w' ⟨rfl, hpp⟩
  exact ⟨rfl, St.pp hp hb hpp⟩
theorem st_crash {w0 w : World} {p : Nat} {S : DS} (ak : Option Addr) (nk ck : Nat) (K : List Bool) (h : St w0 w p S) (hok : S.ok 1000) (hK : Bl w0 ak nk K) :
    Calls Tryz.prog 21 #[.pointer (some ⟨p, 0, none⟩), .slice ak nk ck] w fun e w' => e = .returned (.tuple #[]) ∧ St w0 w' p (S.crash K) := by
  obtain ⟨v1, v2, hp, hb⟩ := h
  refine (crash_any _ p v1 v2 S ak nk ck K w hp hb.size 1000 hok (by omega) (hK.below hb) (fun b off e h0 hf => by
    have h1 := hK.lt e h0
    have h2 := (hp.foot_low b hf).1
    omega)).mono ?_
  rintro e w' ⟨rfl, hpp⟩
  exact ⟨rfl, St.pp hp hb hpp⟩

/-- A disk on which nothing waits. -/
theorem flat_ok (L : List ByteArray) (left : Int) (off : Bool) (did : Nat) (h1 : -1 ≤ left) (h2 : left ≤ 9223372036854775807) (h3 : did ≤ 1000) (h4 : L.length ≤ 1200) : (DS.mk L [] left off did).ok 1000 :=
  ⟨fun i hi => by simp at hi, h1, h2, by simp, h3, h4⟩
theorem ds0_four : ds0 4 = ⟨z4, [], -1, false, 0⟩ := rfl

theorem sknown_any (w : World) :
    Calls Tryz.prog 6 #[] w fun e w' => e = .returned (.bool true) ∧ Below w.heap.size w w' := by
  have hl1 := load_z4 (-1) 0 2
  have hs1 := save_whole z4 (-1) 0 1 2 1 [120] (.inl rfl) (by decide) (by omega) (by omega) (by omega) (by decide)
  have hs2 := save_whole (z4.set (1 + 1 % 2) (recB 2 1 [120])) (-1) 2 1 2 2 [121, 122] (.inl rfl) (by decide) (by omega) (by omega) (by omega) (by decide)
  have hl2 := load_two (2 + 2) 2 1 (-1) [120] [121, 122] (by omega) (by omega) (by omega) (by decide) (by decide)
  obtain ⟨L1, hL1⟩ : ∃ L, z4.set (1 + 1 % 2) (recB 2 1 [120]) = L := ⟨_, rfl⟩
  have hL1l : L1.length = 4 := by rw [← hL1]; simp [z4]
  rw [hL1] at hs1 hs2 hl2
  rw [show (2 : Nat) % 2 = (1 + 1) % 2 from rfl, show recB 2 2 [121, 122] = recB 2 (1 + 1) [121, 122] from rfl] at hs2
  obtain ⟨L2, hL2⟩ : ∃ L, L1.set (1 + (1 + 1) % 2) (recB 2 (1 + 1) [121, 122]) = L := ⟨_, rfl⟩
  have hL2l : L2.length = 4 := by rw [← hL2]; simp [hL1l]
  rw [hL2] at hs2 hl2
  clear hL1 hL2
  have c0 := fun w => st_new 4 w (by omega) (by omega)
  rw [ds0_four] at c0
  have c1 := fun w' p (h : St w w' p ⟨z4, [], -1, false, 0⟩) => st_load 1 2 h (flat_ok z4 (-1) false 0 (by omega) (by omega) (by omega) (by decide))
  have c2 := fun w' p (h : St w w' p ⟨z4, [], -1, false, 0⟩) => st_save 1 2 1 [120] h (flat_ok z4 (-1) false 0 (by omega) (by omega) (by omega) (by decide)) (by omega) (by decide)
  have c3 := fun w' p (h : St w w' p ⟨L1, [], -1, false, 2⟩) => st_save 1 2 2 [121, 122] h (flat_ok L1 (-1) false 2 (by omega) (by omega) (by omega) (by omega)) (by omega) (by decide)
  have c4 := fun w' p (h : St w w' p ⟨L2, [], -1, false, 4⟩) => st_load 1 2 h (flat_ok L2 (-1) false 4 (by omega) (by omega) (by omega) (by omega))
  have e1 : saveP ⟨z4, [], -1, false, 0⟩ 1 2 1 [120] = (0, ⟨L1, [], -1, false, 2⟩) := hs1
  have e2 : saveP ⟨L1, [], -1, false, 2⟩ 1 2 2 [121, 122] = (0, ⟨L2, [], -1, false, 4⟩) := hs2
  have e3 : loadP ⟨L2, [], -1, false, 4⟩ 1 2 = (⟨true, 2, [121, 122]⟩, 0) := hl2
  simp only [hl1] at c1
  simp only [e1] at c2
  simp only [e2] at c3
  simp only [e3] at c4
  unfold loadV at c1 c4
  have C0 := Lib.hid c0
  have C1 := Lib.hid c1
  have C2 := Lib.hid c2
  have C3 := Lib.hid c3
  have C4 := Lib.hid c4
  clear hl1 hs1 hs2 hl2 hL1l hL2l c0 c1 c2 c3 c4 e1 e2 e3
  go_enter Tryz.func6, Tryz.ntmps6
  go_wp2_with fail
  refine (C0.out w).mono ?_
  rintro e w1 ⟨p, rfl, h1⟩
  have H1 := Lib.hid h1
  clear h1 C0
  go_wp2_with fail
  refine (C1.out _ _ H1.out).mono ?_
  rintro e w2 ⟨rfl, h1⟩
  have H2 := Lib.hid h1
  clear h1 C1 H1
  go_wp2_with fail
  refine (C2.out _ _ H2.out).mono ?_
  rintro e w3 ⟨rfl, h1⟩
  have H3 := Lib.hid h1
  clear h1 C2 H2
  go_wp2_with fail
  refine (C3.out _ _ H3.out).mono ?_
  rintro e w4 ⟨rfl, h1⟩
  have H4 := Lib.hid h1
  clear h1 C3 H3
  go_wp2_with fail
  refine (C4.out _ _ H4.out).mono ?_
  rintro e w5 ⟨rfl, h1⟩
  have H5 := Lib.hid h1.fin
  clear h1 C4 H4
  unfold strV
  go_wp2
  go_ret
  exact ⟨rfl, H5.out⟩
end Go.Proofs.YtdefdmmlmgkpnaaGreatDoor


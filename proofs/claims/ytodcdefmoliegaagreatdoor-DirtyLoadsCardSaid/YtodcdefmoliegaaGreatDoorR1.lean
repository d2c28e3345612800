/-
  Contracts of the reference's Text and of seal.
-/
import Derived.Test.YtodcdefmoliegaaGreatDoorA2
import Derived.Test.YtodcdefmoliegaaGreatDoorK4
import Derived.Test.YtodcdefmoliegaaGreatDoorF3
import Derived.Test.YtodcdefmoliegaaGreatDoorR0
import Derived.Laws.IdiomStrings
namespace Go.Proofs.YtodcdefmoliegaaGreatDoor
open Go.RowKit
set_option linter.unusedVariables false
set_option linter.unusedSimpArgs false

theorem bytesRow_at' (s : ByteArray) (c i : Nat) (h : i < s.size) : (bytesRow s c)[i]? = some (.int .u8 (((s.data.toList)[i]?.getD 0).toNat : Int)) := by
  have h' : i < s.data.size := h
  simp [bytesRow, Array.getElem?_append, h', Array.getElem?_eq_getElem h']
  omega

/-- '[]byte(s)': the new row reads as the text's bytes. -/
theorem cv_rd (s : ByteArray) (hs : s.size ≤ 140737488355328) (w : World) : ∃ c w', (convert 9 77 (.string s)).run Tryz.prog w = .ok (.slice (some ⟨w.heap.size, 0, none⟩) s.size c) w' ∧
    Rd w' (some ⟨w.heap.size, 0, none⟩) s.size c s.data.toList ∧ Below w.heap.size w w' := by
  refine ⟨_, _, run_bytes_of_string w 9 77 5 s Tryz.underlying9 Tryz.underlying77 Tryz.underlying5, ?_, ((Below.refl _ _).drew).alloc (Nat.le_refl _) _⟩
  refine ⟨rfl, grownCap_ge _ _ _ _, hs, grownCap_le_maxLen _ _ _ _ (by unfold maxLen; omega), fun _ => ⟨_, _, rfl, by simp, fun i hi => ?_⟩, fun e => by cases e⟩
  have := World.cell?_alloc_mark w.drew (bytesRow s (grownCap w s.size 0 5)) 5 ((bytesRow s (grownCap w s.size 0 5)).size, (bytesRow s (grownCap w s.size 0 5)).size + 1) (0 + i)
  refine this.trans ?_
  rw [Nat.zero_add]
  exact bytesRow_at' s _ i hi

theorem cv_str (xs : List UInt8) (hs : xs.length ≤ 140737488355328) (w : World) : ∃ c w', (convert 9 77 (strV xs)).run Tryz.prog w = .ok (.slice (some ⟨w.heap.size, 0, none⟩) xs.length c) w' ∧
    Rd w' (some ⟨w.heap.size, 0, none⟩) xs.length c xs ∧ Below w.heap.size w w' := by
  have := cv_rd ⟨xs.toArray⟩ (by simpa [ByteArray.size] using hs) w
  simpa [ByteArray.size, strV] using this

set_option maxRecDepth 20000 in
set_option maxHeartbeats 1000000 in
theorem text_any (wd v : Nat) (w : World) (h1 : 1 ≤ wd) (h2 : wd ≤ 8) (hv : v < 18446744073709551616) :
    Calls Tryz.prog 44 #[.int .i64 (wd : Int), .int .u64 (v : Int)] w fun e w' => e = .returned (strV (enc v wd)) ∧ Below w.heap.size w w' := by
  have hp := rput_ok none 0 0 [] wd v w (rd_nil w) h1 h2 hv (by omega)
  simp only [Nat.zero_add, List.nil_append] at hp
  obtain ⟨V, hV⟩ : ∃ V, V = strV (enc v wd) := ⟨_, rfl⟩
  rw [← hV]
  have HV := Lib.hid hV
  clear hV
  go_enter Tryz.func44, Tryz.ntmps44
  go_wp2_with fail
  refine hp.mono ?_
  rintro e w1 ⟨a', c, rfl, hrd, hb⟩
  have hcv := rd_string hrd
  change _ = Result.ok (strV (enc v wd)) w1 at hcv
  rw [← HV.out] at hcv
  clear hp hv h1 h2
  go_wp2
  go_ret
  exact ⟨rfl, hb⟩

set_option maxRecDepth 20000 in
set_option maxHeartbeats 1000000 in
theorem seal_any (xs : List UInt8) (w : World) (hx : xs.length ≤ 1000000) :
    Calls Tryz.prog 61 #[strV xs] w fun e w' => e = .returned (strV (sealL xs)) ∧ Below w.heap.size w w' := by
  obtain ⟨c, w1, hcv, hrd, hb1⟩ := cv_str xs (by omega) w
  obtain ⟨g, hg⟩ : ∃ g, g = w.heap.size := ⟨_, rfl⟩
  rw [← hg] at hcv hrd
  have hs := sum_any _ _ _ _ w1 hrd
  have hn := addN_lt 0 xs
  have hse : sealL xs = xs ++ enc (addN 0 xs) 4 := rfl
  rw [hse]
  generalize addN 0 xs = n at *
  have hp := fun w' (h : Below w1.heap.size w1 w') => put_ok _ _ _ xs 4 n w' (hrd.later h) (by omega) (by omega) (by omega) (by omega)
  obtain ⟨V, hV⟩ : ∃ V, V = strV xs := ⟨_, rfl⟩
  rw [← hV] at hcv ⊢
  obtain ⟨R, hR⟩ : ∃ R, R = strV (xs ++ enc n 4) := ⟨_, rfl⟩
  rw [← hR]
  have HP := Lib.hid hp
  have HB := Lib.hid hb1
  have HR := Lib.hid hR
  have n1 : (0 : Int) ≤ (n : Int) := by omega
  have n2 : (n : Int) < 4294967296 := by omega
  clear hp hb1 hrd hR hse hV hg
  generalize hl : xs.length = l at *
  go_enter Tryz.func61, Tryz.ntmps61
  go_wp2_with fail
  refine hs.mono ?_
  rintro e w2 ⟨rfl, hb2⟩
  have h3 := HP.out w2 hb2
  have HB2 := Lib.hid (HB.out.trans (hb2.mono HB.out.size))
  clear hs hb2 HP hcv
  go_wp2_with fail
  refine h3.mono ?_
  rintro e w3 ⟨g3, c3, rfl, -, hrd3, hb3⟩
  have hc3 := rd_string hrd3
  change _ = Result.ok (strV (xs ++ enc n 4)) w3 at hc3
  rw [← HR.out] at hc3
  have hB3 := HB2.out.trans (hb3.mono HB2.out.size)
  clear h3 hrd3 hb3
  go_wp2
  go_ret
  exact ⟨rfl, hB3⟩

end Go.Proofs.YtodcdefmoliegaaGreatDoor


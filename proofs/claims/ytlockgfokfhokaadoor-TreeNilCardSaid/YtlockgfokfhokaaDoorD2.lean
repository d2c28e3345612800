/-
  Contracts of digest: marked, Leaf, Node, Right; and the reference's.
-/
import Derived.Test.YtlockgfokfhokaaDoorD1
import Derived.Laws.IdiomStrings
namespace Go.Proofs.YtlockgfokfhokaaDoor
open Go.RowKit
set_option linter.unusedVariables false
set_option linter.unusedSimpArgs false

theorem strV_data (s : ByteArray) : strV s.data.toList = .string s := by
  unfold strV; rw [Array.toArray_toList]

theorem bytesRow_at (s : ByteArray) (c i : Nat) (h : i < s.size) : (bytesRow s c)[i]? = some (.int .u8 (((s.data.toList)[i]?.getD 0).toNat : Int)) := by
  have h' : i < s.data.size := h
  simp [bytesRow, Array.getElem?_append, h', Array.getElem?_eq_getElem h']
  omega

/-- '[]byte(s)': the new row reads as the text's bytes. -/
theorem cv_rd (s : ByteArray) (hs : s.size ≤ 140737488355328) (w : World) : ∃ c w', (convert 9 44 (.string s)).run Tryd.prog w = .ok (.slice (some ⟨w.heap.size, 0, none⟩) s.size c) w' ∧
    Rd w' (some ⟨w.heap.size, 0, none⟩) s.size c s.data.toList ∧ Below w.heap.size w w' := by
  refine ⟨_, _, run_bytes_of_string w 9 44 5 s Tryd.underlying9 Tryd.underlying44 Tryd.underlying5, ?_, ((Below.refl _ _).drew).alloc (Nat.le_refl _) _⟩
  refine ⟨rfl, grownCap_ge _ _ _ _, hs, grownCap_le_maxLen _ _ _ _ (by unfold maxLen; omega), fun _ => ⟨_, _, rfl, by simp, fun i hi => ?_⟩, fun e => by cases e⟩
  have := World.cell?_alloc_mark w.drew (bytesRow s (grownCap w s.size 0 5)) 5 ((bytesRow s (grownCap w s.size 0 5)).size, (bytesRow s (grownCap w s.size 0 5)).size + 1) (0 + i)
  refine this.trans ?_
  rw [Nat.zero_add]
  exact bytesRow_at s _ i hi

/-- The texts one behind the other. -/
def jn (S : Nat → ByteArray) : Nat → List UInt8
  | 0 => []
  | k + 1 => jn S k ++ (S k).data.toList

theorem jn_mono (S : Nat → ByteArray) {i j : Nat} (h : i ≤ j) : (jn S i).length ≤ (jn S j).length := by
  induction j with
  | zero => obtain rfl : i = 0 := by omega
            exact Nat.le_refl _
  | succ j ih =>
    rcases Nat.lt_or_ge j i with h1 | h1
    · obtain rfl : i = j + 1 := by omega
      exact Nat.le_refl _
    · have := ih h1
      simp only [jn, List.length_append]; omega

theorem jn_part (S : Nat → ByteArray) {i j : Nat} (h : i < j) : (jn S i).length + (S i).size ≤ (jn S j).length := by
  have := jn_mono S (show i + 1 ≤ j by omega)
  simp only [jn, List.length_append] at this
  have e : (S i).data.toList.length = (S i).size := rfl
  omega

/-- The slice value reads as the texts S 0, S 1, .. -/
structure Strs (w : World) (a : Option Addr) (l : Nat) (S : Nat → ByteArray) : Prop where
  at0 : 0 < l → ∃ b off, a = some ⟨b, off, none⟩ ∧ b < w.heap.size ∧ ∀ i, i < l → w.cell? ⟨b, off + i, none⟩ = some (.string (S i))

theorem Strs.later {w w' : World} {a : Option Addr} {l : Nat} {S : Nat → ByteArray} (h : Strs w a l S) (hb : Below w.heap.size w w') : Strs w' a l S where
  at0 := fun h0 => by
    obtain ⟨b, off, ha, hlt, hc⟩ := h.at0 h0
    exact ⟨b, off, ha, Nat.lt_of_lt_of_le hlt hb.size, fun i hi => by rw [hb.cell (by exact hlt)]; exact hc i hi⟩

set_option maxRecDepth 20000 in
set_option maxHeartbeats 1000000 in
theorem marked_any (c : Int) (x : UInt8) (hc : c = (x.toNat : Int)) (a : Option Addr) (l cap : Nat) (S : Nat → ByteArray) (w : World) (hP : Strs w a l S) (hK : Kon w) (hl : (jn S l).length ≤ 1000000000) (hl2 : l ≤ 9223372036854775807) :
    Calls Tryd.prog 61 #[.int .u8 c, .slice a l cap] w fun e w' => e = .returned (strV (dig (x :: jn S l))) ∧ Below w.heap.size w w' := by
  subst hc
  have HK := Lib.hid hK
  have HP := Lib.hid hP
  clear hK hP
  go_enter Tryd.func61, Tryd.ntmps61
  go_wp2_with fail
  refine (new_hash _).mono ?_
  rintro e w1 ⟨p, rfl, hp, hh, hb1⟩
  have hp0 : p ≠ 0 := by have := HK.out.lt; omega
  have HK1 := Lib.hid (HK.out.below hb1)
  have HH := Lib.hid hh
  have HB1 := Lib.hid hb1
  have hpl := hh.lt
  clear hh hb1
  go_wp2_with fail
  have hba : Below w1.heap.size w1 (w1.alloc (.cells #[.int .u8 (x.toNat : Int)] 5)) := (Below.refl _ _).alloc (Nat.le_refl _) _
  refine (write_any p [] (some ⟨w1.heap.size, 0, none⟩) 1 1 [x] _ (HH.out.below hba) (one_rd w1 _ x rfl) (fun x e _ => by cases e; show w1.heap.size ≠ p; omega) (HK1.out.below hba) hp0 (by simp)).mono ?_
  rintro e w2 ⟨rfl, hst, hgr⟩
  have hH2 : Hsh w2 p (x :: jn S 0) := hst.hsh (by simp)
  have hB1a := HB1.out.trans (hba.mono HB1.out.size)
  have hB2 : Below w.heap.size w w2 := hB1a.grown hgr hB1a.size (fun j hj => by cases hj; exact hp)
  clear hst hgr hba hB1a hpl
  go_wp2
  go_loopw [15] (fun i wr => ∃ k : Nat, k ≤ l ∧ i = .int .i64 k ∧ Hsh wr p (x :: jn S k) ∧ Below w.heap.size w wr) (fun i _ => l - (intOf i).toNat)
  case atStart => exact ⟨0, by omega, rfl, hH2, hB2⟩
  case round =>
    clear hH2 hB2
    obtain ⟨k, hk, rfl, hh, hB⟩ := hrel
    by_cases hlt : k < l
    · have i1 : (k : Int) < (l : Int) := by omega
      obtain ⟨b, off, rfl, hbl, hel⟩ := HP.out.at0 (by omega)
      have hc : wr.cell? ⟨b, off + k, none⟩ = some (.string (S k)) := by rw [hB.cell (by exact hbl)]; exact hel k hlt
      have hkl := jn_part S hlt
      have hk1 := jn_mono S (show k ≤ l by omega)
      obtain ⟨cp, w3, hcv, hrd, hb3⟩ := cv_rd (S k) (by omega) wr
      have hne : ∀ x, some (⟨wr.heap.size, 0, none⟩ : Addr) = some x → 0 < (S k).size → x.block ≠ p := fun x e _ => by
        cases e; have := hh.lt; show wr.heap.size ≠ p; omega
      have hw := write_any p (x :: jn S k) _ _ cp _ w3 (hh.below hb3) hrd hne ((HK.out.below hB).below hb3) hp0 (by simp; omega)
      have HW := Lib.hid hw
      have HB3 := Lib.hid (hB.trans (hb3.mono hB.size))
      have HJ := Lib.hid hkl
      have HJ1 := Lib.hid hk1
      clear hw hB hb3 hh hrd hel hne hkl hk1
      go_wp2_with fail
      refine HW.out.mono ?_
      rintro e w4 ⟨rfl, hst, hgr⟩
      have hB4 := HB3.out.grown hgr HB3.out.size (fun j hj => by cases hj; exact hp)
      have hH4 : Hsh w4 p (x :: jn S (k + 1)) := hst.hsh (by have h1 := HJ.out; have h2 := HJ1.out; have e : (S k).data.toList.length = (S k).size := rfl; simp; omega)
      clear hst hgr hcv
      go_wp2
      go_roundw
      case rel => exact ⟨k + 1, by omega, by go_num, hH4, hB4⟩
      case measure => simp [intOf]; omega
    · obtain rfl : k = l := by omega
      have i1 : ¬ (k : Int) < (k : Int) := by omega
      have hs := hsum_any p (x :: jn S k) wr hh (HK.out.below hB) (by simp; omega)
      have HS := Lib.hid hs
      have HB := Lib.hid hB
      clear hs hB hh
      go_wp2_with fail
      refine HS.out.mono ?_
      rintro e w4 ⟨rfl, hb4⟩
      go_wp2
      go_ret
      exact ⟨rfl, HB.out.trans (hb4.mono HB.out.size)⟩

set_option maxRecDepth 20000 in
set_option maxHeartbeats 400000 in
theorem leaf_any (s : ByteArray) (w : World) (hK : Kon w) (hl : s.size ≤ 1000000000) :
    Calls Tryd.prog 39 #[.string s] w fun e w' => e = .returned (strV (dig (0 :: s.data.toList))) ∧ Below w.heap.size w w' := by
  have hba : Below w.heap.size w (w.alloc (.cells #[.string s] 9)) := (Below.refl _ _).alloc (Nat.le_refl _) _
  have hm := marked_any 0 0 rfl (some ⟨w.heap.size, 0, none⟩) 1 1 (fun _ => s) (w.alloc (.cells #[.string s] 9)) ⟨fun _ => ⟨_, _, rfl, by simp, fun i hi => by
    obtain rfl : i = 0 := by omega
    exact World.cell?_alloc_at _ _ _ _ rfl⟩⟩ (hK.below hba) (by simpa [jn] using hl) (by omega)
  have hj : jn (fun _ => s) 1 = s.data.toList := by simp [jn]
  rw [hj] at hm
  have HM := Lib.hid hm
  have HBA := Lib.hid hba
  clear hm hj hba hK
  go_enter Tryd.func39, Tryd.ntmps39
  go_wp2_with fail
  refine HM.out.mono ?_
  rintro e w4 ⟨rfl, hb4⟩
  go_wp2
  go_ret
  exact ⟨rfl, HBA.out.trans (hb4.mono HBA.out.size)⟩

set_option maxRecDepth 20000 in
set_option maxHeartbeats 400000 in
theorem node_any (a : Option Addr) (l cap : Nat) (S : Nat → ByteArray) (w : World) (hP : Strs w a l S) (hK : Kon w) (hl : (jn S l).length ≤ 1000000000) (hl2 : l ≤ 9223372036854775807) :
    Calls Tryd.prog 63 #[.slice a l cap] w fun e w' => e = .returned (strV (dig (1 :: jn S l))) ∧ Below w.heap.size w w' := by
  have hm := marked_any 1 1 rfl a l cap S w hP hK hl hl2
  have HM := Lib.hid hm
  clear hm hP hK
  go_enter Tryd.func63, Tryd.ntmps63
  go_wp2_with fail
  refine HM.out.mono ?_
  rintro e w4 ⟨rfl, hb4⟩
  go_wp2
  go_ret
  exact ⟨rfl, hb4⟩

set_option maxRecDepth 20000 in
theorem dright_any (s : ByteArray) (w : World) (hl : s.size ≤ 9223372036854775807) :
    Calls Tryd.prog 44 #[.string s] w fun e w' => e = .returned (.bool (decide (s.size = 32))) ∧ w' = w := by
  go_enter Tryd.func44, Tryd.ntmps44
  go_wp2
  go_ret
  refine ⟨?_, rfl⟩
  by_cases h : s.size = 32 <;> simp [h] <;> omega

set_option maxRecDepth 20000 in
theorem drright_any (s : ByteArray) (w : World) (hl : s.size ≤ 9223372036854775807) :
    Calls Tryd.prog 46 #[.string s] w fun e w' => e = .returned (.bool (decide (s.size = 32))) ∧ w' = w := by
  go_enter Tryd.func46, Tryd.ntmps46
  go_wp2
  go_ret
  refine ⟨?_, rfl⟩
  by_cases h : s.size = 32 <;> simp [h] <;> omega
end Go.Proofs.YtlockgfokfhokaaDoor


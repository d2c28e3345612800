/-
  Contracts of digest: Hex and the reference's.
-/
import Derived.Test.YtangadeihfkhpaaDoorD2
import Derived.Deep.RegionHeldLaw
import Derived.Laws.BitsLemmas
namespace Go.Proofs.YtangadeihfkhpaaDoor
open Go.RowKit
set_option linter.unusedVariables false
set_option linter.unusedSimpArgs false

/-- One of the sixteen digits. -/
def hx (n : Nat) : UInt8 := [48, 49, 50, 51, 52, 53, 54, 55, 56, 57, 97, 98, 99, 100, 101, 102].getD n 0
/-- Bytes in digits of base 16. -/
def hexL : List UInt8 → List UInt8
  | [] => []
  | b :: bs => hx (b.toNat / 16) :: hx (b.toNat % 16) :: hexL bs

theorem hexL_append (xs ys : List UInt8) : hexL (xs ++ ys) = hexL xs ++ hexL ys := by
  induction xs with
  | nil => rfl
  | cons x xs ih => simp [hexL, ih]

theorem hexL_length (xs : List UInt8) : (hexL xs).length = 2 * xs.length := by
  induction xs with
  | nil => rfl
  | cons x xs ih => simp [hexL, ih]; omega

theorem take_next (xs : List UInt8) (k : Nat) (h : k < xs.length) : xs.take (k + 1) = xs.take k ++ [xs[k]?.getD 0] := by
  rw [List.take_add_one, List.getElem?_eq_getElem h]; rfl

theorem hexL_step (xs : List UInt8) (k : Nat) (h : k < xs.length) : hexL (xs.take (k + 1)) = hexL (xs.take k) ++ [hx ((xs[k]?.getD 0).toNat / 16), hx ((xs[k]?.getD 0).toNat % 16)] := by
  rw [take_next xs k h, hexL_append]; rfl

theorem make_c (c : Nat) (h : c ≤ 1000) (w : World) : (Instr.makeSlice 35 (.int .i64 0) (.int .i64 (c : Int))).run Tryd.prog w = .ok (.slice (some ⟨w.heap.size, 0, none⟩) 0 c) (w.alloc (.cells (madeCells #[.int .u8 0] c) 5)) := by
  obtain ⟨i, hi, hz, hs, hb⟩ := info_parts Tryd.info5
  have := run_make (P := Tryd.prog) w 35 5 i (.int .u8 0) Tryd.underlying35 hi hz .i64 .i64 0 (c : Int) (by omega) (by omega) (by rw [hb]; omega) (by omega)
  simp [hs] at this
  exact this

theorem owns_madec {w : World} {B g c : Nat} (hB : B ≤ g) (hc : c ≤ 1000) (h : w.heap[g]? = some (.cells (madeCells #[.int .u8 0] c) 5 (0, 0))) : w.ownsRow B 5 1 (.slice (some ⟨g, 0, none⟩) 0 c) 0 (bvs []) :=
  ⟨rfl, .inr ⟨g, c, _, rfl, hB, h, by omega, by unfold maxLen; omega, by simp [size_madeCells], by simp [bvs]⟩⟩

/-- Byte k of a text. -/
theorem index_text (s : ByteArray) (k : Nat) (h : k < s.size) (w : World) : (Instr.index 9 (.string s) (.int .i64 (k : Int))).run Tryd.prog w = .ok (.int .u8 (((s.data.toList)[k]?.getD 0).toNat : Int)) w := by
  rw [run_index_string w 9 s .i64 (k : Int) Tryd.underlying9, dif_pos ⟨by omega, by omega⟩]
  have h' : k < s.data.size := h
  have e : (s.data.toList)[k]?.getD 0 = s[k] := by
    rw [List.getElem?_eq_getElem (by simpa using h')]; rfl
  rw [e]
  rfl

def sixteen : ByteArray := ⟨#[48, 49, 50, 51, 52, 53, 54, 55, 56, 57, 97, 98, 99, 100, 101, 102]⟩
theorem index_digit (n : Nat) (h : n < 16) (w : World) : (Instr.index 9 (.string ⟨#[48, 49, 50, 51, 52, 53, 54, 55, 56, 57, 97, 98, 99, 100, 101, 102]⟩) (.int .u8 (n : Int))).run Tryd.prog w = .ok (.int .u8 ((hx n).toNat : Int)) w := by
  rw [run_index_string w 9 ⟨#[48, 49, 50, 51, 52, 53, 54, 55, 56, 57, 97, 98, 99, 100, 101, 102]⟩ .u8 (n : Int) Tryd.underlying9, dif_pos ⟨by omega, by show (n : Int) < (16 : Nat); omega⟩]
  match n, h with
  | 0, _ => rfl
  | 1, _ => rfl
  | 2, _ => rfl
  | 3, _ => rfl
  | 4, _ => rfl
  | 5, _ => rfl
  | 6, _ => rfl
  | 7, _ => rfl
  | 8, _ => rfl
  | 9, _ => rfl
  | 10, _ => rfl
  | 11, _ => rfl
  | 12, _ => rfl
  | 13, _ => rfl
  | 14, _ => rfl
  | 15, _ => rfl
  | n + 16, h => exact absurd h (by omega)

/-- What Hex answers. -/
def hexV (s : ByteArray) : Value := if s.size = 32 then strV (hexL s.data.toList) else strV []

set_option maxRecDepth 20000 in
set_option maxHeartbeats 1000000 in
theorem hex_any (s : ByteArray) (w : World) (hl : s.size ≤ 9223372036854775807) :
    Calls Tryd.prog 12 #[.string s] w fun e w' => e = .returned (hexV s) ∧ Below w.heap.size w w' := by
  obtain ⟨i5, hi, hz0, hz1, hz2⟩ := info_parts Tryd.info5
  by_cases h32 : s.size = 32
  · have hv : hexV s = strV (hexL s.data.toList) := if_pos h32
    have hr := right_any s w (by omega)
    rw [decide_eq_true h32] at hr
    have HR := Lib.hid hr
    have hmk : ∀ w, (Instr.makeSlice 35 (.int .i64 0) (.int .i64 64)).run Tryd.prog w = .ok (.slice (some ⟨w.heap.size, 0, none⟩) 0 64) (w.alloc (.cells (madeCells #[.int .u8 0] 64) 5)) := make_c 64 (by omega)
    have HV := Lib.hid hv
    clear hr hv
    go_enter Tryd.func12, Tryd.ntmps12
    go_wp2_with fail
    refine HR.out.mono ?_
    rintro e w1 ⟨rfl, rfl⟩
    go_wp2
    have hown := owns_madec (Nat.le_refl w1.heap.size) (by omega : 64 ≤ 1000) (heap_alloc_new w1 (.cells (madeCells #[.int .u8 0] 64) 5))
    have hB : Below w1.heap.size w1 (w1.alloc (.cells (madeCells #[.int .u8 0] 64) 5)) := (Below.refl _ _).alloc (Nat.le_refl _) _
    generalize w1.alloc (.cells (madeCells #[.int .u8 0] 64) 5) = w2 at hown hB ⊢
    clear hmk
    go_loopw [3, 9] (fun o i wr => ∃ k : Nat, k ≤ 32 ∧ i = .int .i64 k ∧ wr.ownsRow w1.heap.size 5 1 o (2 * k) (bvs (hexL (s.data.toList.take k))) ∧ Below w1.heap.size w1 wr) (fun _ i _ => 32 - (intOf i).toNat)
    case atStart => exact ⟨0, by omega, rfl, hown, hB⟩
    case round =>
      clear hown hB
      obtain ⟨k, hk, rfl, hown, hB⟩ := hrel
      obtain ⟨ao, co, rfl, hrd, _⟩ := owns_shape hown (by omega)
      by_cases hlt : k < 32
      · have hls : k < s.data.toList.length := by show k < s.size; omega
        have hst := hexL_step s.data.toList k hls
        have hix := index_text s k (by omega)
        generalize (s.data.toList)[k]?.getD 0 = b at hst hix
        have hb := b.toNat_lt
        obtain ⟨N, hN⟩ : ∃ N, N = b.toNat := ⟨_, rfl⟩
        rw [← hN] at hst hix hb
        have hd1 := index_digit (N / 16) (by omega)
        have hd2 := index_digit (N % 16) (by omega)
        have hand : bits .and .u8 (N : Int) 15 = (N : Int) % 16 := u8_and15 _ (by omega) (by omega)
        rw [show ((N / 16 : Nat) : Int) = (N : Int) / 16 from by omega] at hd1
        rw [show ((N % 16 : Nat) : Int) = (N : Int) % 16 from by omega] at hd2
        obtain ⟨c1, hc1⟩ : ∃ c, c = hx (N / 16) := ⟨_, rfl⟩
        obtain ⟨c2, hc2⟩ : ∃ c, c = hx (N % 16) := ⟨_, rfl⟩
        rw [← hc1] at hst hd1
        rw [← hc2] at hst hd2
        have hcl : (#[.int .u8 (c1.toNat : Int), .int .u8 (c2.toNat : Int)] : Array Value) = (bvs [c1, c2]).toArray := rfl
        have hcell0 := row_cells wr (bvs [c1, c2]) 5
        rw [← hcl] at hcell0
        have hcell : ∀ (j : Nat) (u : Value), (bvs [c1, c2])[j]? = some u → (wr.alloc (.cells #[.int .u8 (c1.toNat : Int), .int .u8 (c2.toNat : Int)] 5)).drew.cell? ((⟨wr.heap.size, 0, none⟩ : Addr).add j) = some u := fun j u hj => by rw [World.cell?_drew]; exact hcell0 j u hj
        have ho2 : (wr.alloc (.cells #[.int .u8 (c1.toNat : Int), .int .u8 (c2.toNat : Int)] 5)).drew.ownsRow w1.heap.size 5 1 (.slice ao (2 * k) co) (2 * k) (bvs (hexL (s.data.toList.take k))) := hown.alloc _
        have hbase : w1.heap.size ≤ (wr.alloc (.cells #[.int .u8 (c1.toNat : Int), .int .u8 (c2.toNat : Int)] 5)).drew.heap.size := by show w1.heap.size ≤ (wr.alloc _).heap.size; have := hB.size; simp; omega
        have HST := Lib.hid hst
        have HO := Lib.hid hown
        have HO2 := Lib.hid ho2
        have HCE := Lib.hid hcell
        have HBA := Lib.hid hbase
        have HB := Lib.hid hB
        have i1 : (0 : Int) ≤ (k : Int) := by omega
        have i2 : (k : Int) < 32 := by omega
        have i3 : (k : Int) < (s.size : Int) := by omega
        clear hst hown hrd hN hc1 hc2 hcl hcell0 hcell ho2 hbase hB
        go_wp2_with fail
        go_region_held_law (fun w' => True) (trivial)
          (first | (refine step_append_bytes (o := ⟨some 24, _, _, _, _, _⟩) rfl (.tmp 12) (.tmp 23) 35 rfl w1.heap.size 5 i5 Tryd.underlying35 hi hz0 hz1 hz2 (.slice ao (2 * k) co) (2 * k) (hexL (s.data.toList.take k)) (by rfl) HO2.out ⟨wr.heap.size, 0, none⟩ 2 2 [c1, c2] (by rfl) rfl HCE.out (by omega) HBA.out ?_; intro v' w' hown' hgrow'))
        all_goals (
          have hB9 := ((HB.out.alloc HB.out.size (.cells #[.int .u8 (c1.toNat : Int), .int .u8 (c2.toNat : Int)] 5)).drew).grown hgrow' (by show w1.heap.size ≤ (wr.alloc _).heap.size; have := HB.out.size; simp; omega) (fun j hj => (HO.out.lt j hj).1)
          rw [← HST.out] at hown'
          clear hgrow'
          go_wp2
          go_roundw
          case rel => exact ⟨k + 1, by omega, by go_num, hown', hB9⟩
          case measure => simp [intOf]; omega)
      · obtain rfl : k = 32 := by omega
        have hcv := run_string_rd hrd
        have ht : s.data.toList.take 32 = s.data.toList := List.take_of_length_le (by show s.size ≤ 32; omega)
        rw [ht] at hcv
        have HV2 := HV
        go_wp2
        go_ret
        exact ⟨by rw [HV.out]; rfl, hB⟩
  · have hv : hexV s = strV [] := if_neg h32
    have hr := right_any s w (by omega)
    rw [decide_eq_false h32] at hr
    have HR := Lib.hid hr
    have HV := Lib.hid hv
    clear hr hv
    go_enter Tryd.func12, Tryd.ntmps12
    go_wp2_with fail
    refine HR.out.mono ?_
    rintro e w1 ⟨rfl, rfl⟩
    go_wp2
    go_ret
    exact ⟨by rw [HV.out]; rfl, Below.refl _ _⟩
end Go.Proofs.YtangadeihfkhpaaDoor

/-
  Contracts: Sum of a hash; Sum of bytes.
-/
import Derived.Test.YtlockgfokfhokaaDoorS7
import Derived.Laws.BytesString
import Derived.Laws.IdiomStrings
namespace Go.Proofs.YtlockgfokfhokaaDoor
open Go.RowKit
set_option linter.unusedVariables false
set_option linter.unusedSimpArgs false

theorem run_string_rd {w : World} {a : Option Addr} {n cap : Nat} {xs : List UInt8} (h : Rd w a n cap xs) :
    (convert 44 9 (.slice a n cap)).run Tryd.prog w = .ok (.string ⟨xs.toArray⟩) w := by
  cases a with
  | none =>
    have hc := h.nil rfl
    have hn : n = 0 := by have := h.le; omega
    subst hn
    obtain rfl : xs = [] := List.eq_nil_of_length_eq_zero h.len
    rw [run_convert_bytes_string w 44 9 5 none 0 cap Tryd.underlying44 Tryd.underlying5 Tryd.underlying9]
    simp [Conv.bytesToString]
    rfl
  | some x =>
    have := run_convert_bytes_back (P := Tryd.prog) w 44 9 5 x cap xs Tryd.underlying44 Tryd.underlying5 Tryd.underlying9 (fun j hj => by
      obtain ⟨b, off, e, hlt, hc⟩ := h.at0 (by rw [← h.len]; omega)
      cases e
      rw [Addr.add_none, hc j (by rw [← h.len]; exact hj), List.getElem?_eq_getElem hj]
      rfl)
    rwa [h.len] at this


theorem Kon.below {w w' : World} (h : Kon w) (hb : Below w.heap.size w w') : Kon w' := fun j hj => by
  rw [hb.cell (by exact World.block_lt_of_cell? w _ (h j hj))]; exact h j hj

theorem Kon.lt {w : World} (h : Kon w) : 0 < w.heap.size := World.block_lt_of_cell? w _ (h 0 (by omega))


theorem eql_string (s : ByteArray) (w : World) : (binOp .eql 9 (.string s) (.string s)).run Tryd.prog w = .ok (.bool true) w := by
  go_simp
theorem eql_V {V : Value} {s : ByteArray} (hs : Hid (V = .string s)) (w : World) : (binOp .eql 9 V V).run Tryd.prog w = .ok (.bool true) w := by rw [hs.out]; exact eql_string _ _
theorem guard_V {V : Value} {s : ByteArray} (hs : Hid (V = .string s)) (x y : Operand) (w : World) : (eqGuard .eql 9 x y V V).run Tryd.prog w = .ok () w := by rw [hs.out]; go_simp


/-- A text as the program's value. -/
def strV (xs : List UInt8) : Value := .string ⟨xs.toArray⟩

def stL (s : St) : List Nat := [s.a, s.b, s.c, s.d, s.e, s.f, s.g, s.h]
theorem stArr_at (s : St) (k : Nat) (h : k < 8) : (stArr s)[k]? = some (.int .u32 (((stL s).getD k 0 : Nat) : Int)) := by
  match k, h with
  | 0, _ => rfl
  | 1, _ => rfl
  | 2, _ => rfl
  | 3, _ => rfl
  | 4, _ => rfl
  | 5, _ => rfl
  | 6, _ => rfl
  | 7, _ => rfl
theorem stL_lt (s : St) (h : s.ok) (k : Nat) : (stL s).getD k 0 < 4294967296 := by
  obtain ⟨h1, h2, h3, h4, h5, h6, h7, h8⟩ := h
  match k with
  | 0 => exact h1
  | 1 => exact h2
  | 2 => exact h3
  | 3 => exact h4
  | 4 => exact h5
  | 5 => exact h6
  | 6 => exact h7
  | 7 => exact h8
  | k + 8 => simp [stL]
def outTo (s : St) (k : Nat) : List UInt8 := ((stL s).take k).flatMap out4
theorem outTo_step (s : St) (k : Nat) (h : k < 8) : outTo s (k + 1) = outTo s k ++ out4 ((stL s).getD k 0) := by
  have e : (stL s).take (k + 1) = (stL s).take k ++ [(stL s).getD k 0] := by
    match k, h with
    | 0, _ => rfl
    | 1, _ => rfl
    | 2, _ => rfl
    | 3, _ => rfl
    | 4, _ => rfl
    | 5, _ => rfl
    | 6, _ => rfl
    | 7, _ => rfl
  unfold outTo
  rw [e]
  simp
theorem outTo_all (s : St) : outTo s 8 = outS s := by simp [outTo, stL, outS]
theorem outTo_length (s : St) (k : Nat) (h : k ≤ 8) : (outTo s k).length = 4 * k := by
  induction k with
  | zero => rfl
  | succ k ih => rw [outTo_step s k (by omega), List.length_append, ih (by omega)]; simp [out4, enc_length]; omega

theorem byteAt3 (n : Nat) (h : n < 4294967296) : (n : Int) / 16777216 = ((byteAt n 3).toNat : Int) := by
  rw [byteAt_toNat, show (256 : Nat) ^ 3 = 16777216 from rfl]; omega
theorem byteAt2 (n : Nat) : (n : Int) / 65536 % 256 = ((byteAt n 2).toNat : Int) := by rw [byteAt_toNat]; simp
theorem byteAt1 (n : Nat) : (n : Int) / 256 % 256 = ((byteAt n 1).toNat : Int) := by rw [byteAt_toNat]; simp
theorem byteAt0 (n : Nat) : (n : Int) % 256 = ((byteAt n 0).toNat : Int) := by rw [byteAt_toNat]; simp
theorem out4_cells (n : Nat) : bvs (out4 n) = [.int .u8 ((byteAt n 3).toNat : Int), .int .u8 ((byteAt n 2).toNat : Int), .int .u8 ((byteAt n 1).toNat : Int), .int .u8 ((byteAt n 0).toNat : Int)] := rfl

theorem row_cells (w : World) (cs : List Value) (t : TypeId) : ∀ (j : Nat) (u : Value), cs[j]? = some u → (w.alloc (.cells cs.toArray t)).cell? ((⟨w.heap.size, 0, none⟩ : Addr).add j) = some u := by
  intro j u hj
  rw [Addr.add_none, cell_of_blk (heap_alloc_new w (.cells cs.toArray t)), Nat.zero_add]
  simpa using hj

theorem make_32 (w : World) : (Instr.makeSlice 44 (.int .i64 0) (.int .i64 32)).run Tryd.prog w = .ok (.slice (some ⟨w.heap.size, 0, none⟩) 0 32) (w.alloc (.cells (madeCells #[.int .u8 0] 32) 5)) := by
  obtain ⟨i, hi, hz, hs, hb⟩ := info_parts Tryd.info5
  have := run_make (P := Tryd.prog) w 44 5 i (.int .u8 0) Tryd.underlying44 hi hz .i64 .i64 0 32 (by omega) (by omega) (by rw [hb]; omega) (by omega)
  simp [hs] at this
  exact this

theorem owns_made0 {w : World} {B g : Nat} (hB : B ≤ g) (h : w.heap[g]? = some (.cells (madeCells #[.int .u8 0] 32) 5 (0, 0))) : w.ownsRow B 5 1 (.slice (some ⟨g, 0, none⟩) 0 32) 0 (bvs []) :=
  ⟨rfl, .inr ⟨g, 32, _, rfl, hB, h, by omega, by unfold maxLen; omega, by simp [size_madeCells], by simp [bvs]⟩⟩

theorem zero_hash_one : ((hcl (List.replicate 8 (.int .u32 0)) (List.replicate 64 0) 0).toArray).all (·.oneCell') = true := by decide +kernel

set_option maxRecDepth 20000 in
set_option maxHeartbeats 1000000 in
theorem hsum_any (p : Nat) (xs : List UInt8) (w : World) (hh : Hsh w p xs) (hK : Kon w) (hl : xs.length ≤ 1125899906842624) :
    Calls Tryd.prog 72 #[.pointer (some ⟨p, 0, none⟩)] w fun e w' => e = .returned (strV (dig xs)) ∧ Below w.heap.size w w' := by
  obtain ⟨sv, bl, hb, s1, s2, s3, s4, s5⟩ := hh.blk
  have hc := hh.count
  obtain ⟨C, hC⟩ : ∃ C, C = (hcl sv bl xs.length).toArray := ⟨_, rfl⟩
  have hCs : C.size = 73 := by rw [hC]; simpa using hcl_length xs.length s1 s3
  have hC1 : C.all (·.oneCell') = true := by
    rw [hC]; refine all_oneCell_toArray fun v hv => ?_
    unfold hcl at hv
    rcases List.mem_append.1 hv with h | h
    · exact s2 v h
    · rcases List.mem_append.1 h with h | h
      · exact bvs_one _ v h
      · simp at h; subst h; rfl
  have hi43 : (Tryd.prog.info? 100).map (·.size) = some C.size := by rw [hCs]; kernel_rfl
  obtain ⟨Z, hZ⟩ : ∃ Z : Array Value, Z = (hcl (List.replicate 8 (.int .u32 0)) (List.replicate 64 0) 0).toArray := ⟨_, rfl⟩
  have hz := zero_hash
  rw [← hZ] at hz
  have hZC : Z.size = C.size := by rw [hCs, hZ]; decide +kernel
  rw [← hC] at hb
  have hnew := heap_alloc_new w (.cells Z 100)
  have hHn : Hsh ((w.alloc (.cells Z 100)).setRow w.heap.size C) w.heap.size xs := by
    refine ⟨⟨sv, bl, ?_, s1, s2, s3, s4, s5⟩, hh.le⟩
    rw [← hC]; exact setRow_heap _ _ Z C 100 (0, 0) hnew
  have hBn : Below w.heap.size w ((w.alloc (.cells Z 100)).setRow w.heap.size C) := below_setRow ((Below.refl _ _).alloc (Nat.le_refl _) _) (Nat.le_refl _) _
  have hb' : (w.alloc (.cells Z 100)).heap[p]? = some (.cells C 100 (0, 0)) := by rw [Below.heap_alloc _ _ _ hh.lt]; exact hb
  have hc' : ((w.alloc (.cells Z 100)).setRow w.heap.size C).cell? ⟨p, 72, none⟩ = some (.int .u64 (xs.length : Int)) := by rw [hBn.cell hh.lt]; exact hc
  have HH := Lib.hid hh
  have HHn := Lib.hid hHn
  have HBn := Lib.hid hBn
  have HK := Lib.hid hK
  clear hh hHn hBn hK s1 s2 s3 s4 s5 hZ hC
  go_enter Tryd.func72, Tryd.ntmps72
  go_wp2_with (first
    | (with_reducible refine wpList_load_row (o := ⟨some 11, _, _, _, _, _⟩) rfl 100 (.tmp 10) rfl p rfl 100 C (0, 0) _ hb Tryd.underlying100 rfl hi43 ?_)
    | (with_reducible refine wpList_store_row (o := ⟨none, _, _, _, _, _⟩) rfl 100 (.tmp 3) (.tmp 11) rfl w.heap.size C rfl rfl 100 Z hnew hi43 hZC hC1 ?_))
  refine (padding_any xs.length _ (by omega)).mono ?_
  rintro e w2 ⟨g2, c2, rfl, hg2, hr2, hb2⟩
  have hlw := HH.out.lt
  obtain ⟨g, hg⟩ : ∃ g, g = w.heap.size := ⟨_, rfl⟩
  have hHn := HHn.out
  have hBn := HBn.out
  have hK := HK.out
  have hgl : g < ((w.alloc (.cells Z 100)).setRow w.heap.size C).heap.size := by rw [hg]; exact hHn.lt
  have hH2 : Hsh w2 g xs := by rw [hg]; exact hHn.below hb2
  have hB2 : Below w.heap.size w w2 := hBn.trans (hb2.mono hBn.size)
  have hK2 : Kon w2 := fun j hj => by rw [hB2.cell (by exact World.block_lt_of_cell? w _ (hK j hj))]; exact hK j hj
  have hg0 : g ≠ 0 := by have := World.block_lt_of_cell? w _ (hK 0 (by omega)); simp at this; omega
  have hg2' : g ≠ g2 := by omega
  rw [← hg]
  have HG := Lib.hid hg
  have HB2 := Lib.hid hB2
  have HK2 := Lib.hid hK2
  have HH2 := Lib.hid hH2
  have HR2 := Lib.hid hr2
  clear hg hHn hBn hK hH2 hB2 hK2 hr2 hb2 hnew hb hb' hc hc' hz hZC hCs hC1 hi43 hg2 hgl
  go_wp2_with fail
  refine (write_any g xs _ _ _ (padN xs.length) w2 HH2.out HR2.out (fun x e _ => by cases e; exact fun e2 => hg2' e2.symm) HK2.out hg0 (by omega)).mono ?_
  rintro e w3 ⟨rfl, hst, hgr⟩
  obtain ⟨bl3, hb3, hb3l, _⟩ := hst.blk
  obtain ⟨S, hS⟩ : ∃ S, S = full (xs ++ padN xs.length) := ⟨_, rfl⟩
  have hSok : S.ok := by rw [hS]; exact full_ok _
  have hdig : dig xs = outTo S 8 := by rw [outTo_all, hS]; rfl
  rw [← hS] at hb3
  have hB3 : Below w.heap.size w w3 := HB2.out.grown hgr HB2.out.size (fun j hj => by cases hj; exact Nat.le_of_eq HG.out.symm)
  have HB3 := Lib.hid hB3
  have HST := Lib.hid hb3
  have HD := Lib.hid hdig
  have hmk := make_32
  obtain ⟨A, hA⟩ : ∃ A, A = stArr S := ⟨_, rfl⟩
  have hrange : ∀ w4 : World, w4.heap[g]? = w3.heap[g]? → w4.rangeAt g 0 A.toList := fun w4 e => by
    have h1 := e.trans hb3
    intro j v hj
    rw [cell_of_blk h1, Nat.zero_add]
    rw [hA] at hj
    simpa using hcl_state (blk := bl3) _ j v hj
  have hi8 : (Tryd.prog.info? 87).map (·.size) = some A.toList.length := by rw [hA]; kernel_rfl
  have HRg := Lib.hid hrange
  have hAat : ∀ k, k < 8 → A[k]? = some (.int .u32 (((stL S).getD k 0 : Nat) : Int)) := fun k hk => by rw [hA]; exact stArr_at S k hk
  have HAat := Lib.hid hAat
  have HOK := Lib.hid (stL_lt S hSok)
  have hra : (w3.alloc (.cells (madeCells #[.int .u8 0] 32) 5)).rangeAt g 0 A.toList := HRg.out _ (Below.heap_alloc _ _ _ (lt_of_block hb3))
  have hlt3 := lt_of_block hb3
  clear hst hgr hb3 hS hdig hA hrange hAat hSok
  go_wp2_with (with_reducible refine wpList_load_mid (op := ⟨some 20, _, _, _, _, _⟩) rfl 87 (.tmp 19) rfl g 0 rfl A.toList _ hra Tryd.underlying87 rfl hi8 ?_)
  have hmd := heap_alloc_new w3 (.cells (madeCells #[.int .u8 0] 32) 5)
  have hown := owns_made0 (Nat.le_refl w3.heap.size) hmd
  have hB4 : Below w.heap.size w (w3.alloc (.cells (madeCells #[.int .u8 0] 32) 5)) := HB3.out.alloc HB3.out.size _
  obtain ⟨q, hq⟩ : ∃ q, q = w3.heap.size := ⟨_, rfl⟩
  rw [← hq] at hown ⊢
  have hqs : w.heap.size ≤ q := by rw [hq]; exact HB3.out.size
  obtain ⟨i5, hi, hi0, hi1, hi2⟩ := info_parts Tryd.info5
  have HQ := Lib.hid hq
  have HQs := Lib.hid hqs
  generalize w3.alloc (.cells (madeCells #[.int .u8 0] 32) 5) = w4 at hown hB4 ⊢
  clear hq hra hmd hmk hlt3 hqs hi8
  go_loopw [21, 4] (fun i o wr => ∃ k : Nat, k ≤ 8 ∧ i = .int .i64 k ∧ o = .slice (some ⟨q, 0, none⟩) (4 * k) 32 ∧ wr.ownsRow q 5 1 (.slice (some ⟨q, 0, none⟩) (4 * k) 32) (4 * k) (bvs (outTo S k)) ∧ q < wr.heap.size ∧ Below w.heap.size w wr) (fun i _ _ => 8 - (intOf i).toNat)
  case atStart => exact ⟨0, by omega, rfl, rfl, hown, (hown.lt q rfl).2, hB4⟩
  case round =>
    clear hown hB4
    obtain ⟨k, hk, rfl, rfl, hown, hql, hB⟩ := hrel
    by_cases hlt : k < 8
    · have hix := fun w => index_row (P := Tryd.prog) 87 86 8 A k _ w Tryd.underlying87 (fun _ => by kernel_rfl) (fun _ => by kernel_rfl) hlt (HAat.out k hlt)
      have hnl := HOK.out k
      have hst := outTo_step S k hlt
      generalize (stL S).getD k 0 = N at hix hnl hst
      have hcl : (#[.int .u8 ((N : Int) / 16777216), .int .u8 ((N : Int) / 65536 % 256), .int .u8 ((N : Int) / 256 % 256), .int .u8 ((N : Int) % 256)] : Array Value) = (bvs (out4 N)).toArray := by
        rw [out4_cells, byteAt3 N hnl, byteAt2, byteAt1, byteAt0]
      have hcell := row_cells wr (bvs (out4 N)) 5
      rw [← hcl] at hcell
      have hlen4 : (bvs (out4 N)).length = 4 := rfl
      have HST4 := Lib.hid hst
      have HCL := Lib.hid hlen4
      clear hst hlen4 hcl
      go_wp2_with (at_builtin; refine wpList_append_fits (o := ⟨some 37, _, _, _, _, _⟩) _ rfl (.tmp 24) (.tmp 36) 44 rfl q 5 i5 1 Tryd.underlying44 hi hi1 q (4 * k) 32 _ rfl (hown.alloc _) ⟨wr.heap.size, 0, none⟩ 4 4 (bvs (out4 N)) rfl rfl hcell (bvs_one _) (by omega) ?d3)
      intro w5 hown5 hgrow
      have hB5 := (hB.alloc hB.size (.cells #[.int .u8 ((N : Int) / 16777216), .int .u8 ((N : Int) / 65536 % 256), .int .u8 ((N : Int) / 256 % 256), .int .u8 ((N : Int) % 256)] 5)).grown hgrow (by have := hB.size; simp; omega) (fun j hj => by cases hj; exact HQs.out)
      rw [← bvs_append, ← HST4.out] at hown5
      have hq5 := (hown5.lt q rfl).2
      clear hown hB hgrow hcell hix
      go_wp2
      go_roundw
      case rel => exact ⟨k + 1, by omega, by go_num, rfl, hown5, hq5, hB5⟩
      case measure => simp [intOf]; omega
    · obtain rfl : k = 8 := by omega
      have hrd := rd_of_owns hown (by omega)
      have hcv := run_string_rd hrd
      go_wp2
      go_ret
      exact ⟨by rw [HD.out]; rfl, hB⟩
end Go.Proofs.YtlockgfokfhokaaDoor


/-
  Texts and bytes; a text's bytes appended; Put with its row; Right; frames in memory.
-/
import Derived.Test.YtipegdfjpmlcbaaCF1
import Derived.Test.YtipegdfjpmlcbaaA7
import Derived.Test.YtipegdfjpmlcbaaK4
import Derived.Laws.Concat
import Derived.Laws.BytesArg
import Derived.Laws.IdiomStrings
import Derived.Deep.Strs
import Derived.Deep.RegionLaw
import Derived.Deep.RegionHeldLaw
import Derived.Deep.RegionHeld3
import Derived.Maps.AppendAt
import Derived.IntWalk
import Derived.Deep.QuietTactic
import Derived.BigQuiet
namespace Go.Proofs.Ytipegdfjpmlcbaa
open Go.RowKit
set_option linter.unusedVariables false
set_option linter.unusedSimpArgs false

/-- A text as the program's value. -/
def strV (xs : List UInt8) : Value := .string ⟨xs.toArray⟩
theorem rd_string {w : World} {a : Option Addr} {n cap : Nat} {xs : List UInt8} (h : Rd w a n cap xs) :
    (convert 29 9 (.slice a n cap)).run Try.prog w = .ok (.string ⟨xs.toArray⟩) w := by
  cases a with
  | none =>
    have hc := h.nil rfl
    have hn : n = 0 := by have := h.le; omega
    subst hn
    obtain rfl : xs = [] := List.eq_nil_of_length_eq_zero h.len
    rw [run_convert_bytes_string w 29 9 5 none 0 cap Try.underlying29 Try.underlying5 Try.underlying9]
    simp [Conv.bytesToString]
    rfl
  | some x =>
    have := run_convert_bytes_back (P := Try.prog) w 29 9 5 x cap xs Try.underlying29 Try.underlying5 Try.underlying9 (fun j hj => by
      obtain ⟨b, off, e, hlt, hc⟩ := h.at0 (by rw [← h.len]; omega)
      cases e
      rw [Addr.add_none, hc j (by rw [← h.len]; exact hj), List.getElem?_eq_getElem hj]
      rfl)
    rwa [h.len] at this

theorem bytesRow_at' (s : ByteArray) (c i : Nat) (h : i < s.size) : (bytesRow s c)[i]? = some (.int .u8 (((s.data.toList)[i]?.getD 0).toNat : Int)) := by
  have h' : i < s.data.size := h
  simp [bytesRow, Array.getElem?_append, h', Array.getElem?_eq_getElem h']
  omega

/-- '[]byte(s)': the new row reads as the text's bytes. -/
theorem cv_rd (s : ByteArray) (hs : s.size ≤ 140737488355328) (w : World) : ∃ c w', (convert 9 29 (.string s)).run Try.prog w = .ok (.slice (some ⟨w.heap.size, 0, none⟩) s.size c) w' ∧
    Rd w' (some ⟨w.heap.size, 0, none⟩) s.size c s.data.toList ∧ Below w.heap.size w w' := by
  refine ⟨_, _, run_bytes_of_string w 9 29 5 s Try.underlying9 Try.underlying29 Try.underlying5, ?_, ((Below.refl _ _).drew).alloc (Nat.le_refl _) _⟩
  refine ⟨rfl, grownCap_ge _ _ _ _, hs, grownCap_le_maxLen _ _ _ _ (by unfold maxLen; omega), fun _ => ⟨_, _, rfl, by simp, fun i hi => ?_⟩, fun e => by cases e⟩
  have := World.cell?_alloc_mark w.drew (bytesRow s (grownCap w s.size 0 5)) 5 ((bytesRow s (grownCap w s.size 0 5)).size, (bytesRow s (grownCap w s.size 0 5)).size + 1) (0 + i)
  refine this.trans ?_
  rw [Nat.zero_add]
  exact bytesRow_at' s _ i hi

/-- Two texts, one behind the other. -/
theorem add_texts (xs ys : List UInt8) (hx : xs.length + ys.length ≤ 9223372036854775807) (w : World) : (binOp .add 9 (strV xs) (strV ys)).run Try.prog w = .ok (strV (xs ++ ys)) w := by
  unfold strV
  rw [binOp_string_add, run_string_add_sum w _ _ (by simp [ByteArray.size]; omega), ByteArray.mk_append_mk]

set_option maxRecDepth 20000 in
set_option maxHeartbeats 1000000 in
theorem text_any (wd v : Nat) (w : World) (h1 : 1 ≤ wd) (h2 : wd ≤ 8) (hv : v < 18446744073709551616) :
    Calls Try.prog 21 #[.int .i64 (wd : Int), .int .u64 (v : Int)] w fun e w' => e = .returned (strV (enc v wd)) ∧ Below w.heap.size w w' := by
  have hp := rput_ok none 0 0 [] wd v w (rd_nil w) h1 h2 hv (by omega)
  simp only [Nat.zero_add, List.nil_append] at hp
  obtain ⟨V, hV⟩ : ∃ V, V = strV (enc v wd) := ⟨_, rfl⟩
  rw [← hV]
  have HV := Lib.hid hV
  clear hV
  go_enter Try.func21, Try.ntmps21
  go_wp2_with fail
  refine hp.mono ?_
  rintro e w1 ⟨a', c, rfl, hrd, hb⟩
  have hcv := rd_string hrd
  change _ = Result.ok (strV (enc v wd)) w1 at hcv
  rw [← HV.out] at hcv
  clear hp hv h1 h2
  go_wp2
  go_ret
  exact ⟨rfl, hb⟩


set_option maxRecDepth 20000 in
set_option maxHeartbeats 400000 in
theorem sright_any (s : ByteArray) (w : World) :
    Calls Try.prog 33 #[.string s] w fun e w' => e = .returned (.bool (decide (s.size = 64))) ∧ w' = w := by
  go_enter Try.func33, Try.ntmps33
  go_wp2
  go_ret
  refine ⟨?_, rfl⟩
  by_cases h : s.size = 64
  · simp [h]
  · have : ¬ ((s.size : Int) = 64) := by omega
    simp [h, this]

set_option maxRecDepth 20000 in
set_option maxHeartbeats 400000 in
theorem srright_any (s : ByteArray) (w : World) :
    Calls Try.prog 39 #[.string s] w fun e w' => e = .returned (.bool (decide (s.size = 64))) ∧ w' = w := by
  go_enter Try.func39, Try.ntmps39
  go_wp2
  go_ret
  refine ⟨?_, rfl⟩
  by_cases h : s.size = 64
  · simp [h]
  · have : ¬ ((s.size : Int) = 64) := by omega
    simp [h, this]

set_option maxRecDepth 20000 in
theorem dright_any (s : ByteArray) (w : World) (hl : s.size ≤ 9223372036854775807) :
    Calls Try.prog 32 #[.string s] w fun e w' => e = .returned (.bool (decide (s.size = 32))) ∧ w' = w := by
  go_enter Try.func32, Try.ntmps32
  go_wp2
  go_ret
  refine ⟨?_, rfl⟩
  by_cases h : s.size = 32 <;> simp [h] <;> omega

set_option maxRecDepth 20000 in
theorem drright_any (s : ByteArray) (w : World) (hl : s.size ≤ 9223372036854775807) :
    Calls Try.prog 38 #[.string s] w fun e w' => e = .returned (.bool (decide (s.size = 32))) ∧ w' = w := by
  go_enter Try.func38, Try.ntmps38
  go_wp2
  go_ret
  refine ⟨?_, rfl⟩
  by_cases h : s.size = 32 <;> simp [h] <;> omega

set_option maxRecDepth 20000 in
set_option maxHeartbeats 1000000 in
theorem put_own (a : Option Addr) (n cap : Nat) (xs : List UInt8) (wd : Nat) (v : Nat) (w : World) (h : Rd w a n cap xs) (h1 : 1 ≤ wd) (h2 : wd ≤ 8) (hv : v < 18446744073709551616) (hn : n + 8 ≤ 140737488355328) :
    Calls Try.prog 17 #[.slice a n cap, .int .i64 wd, .int .u64 v] w fun e w' => ∃ g c, e = .returned (.slice (some ⟨g, 0, none⟩) (n + wd) c) ∧ w.heap.size ≤ g ∧ w'.ownsRow w.heap.size 5 1 (.slice (some ⟨g, 0, none⟩) (n + wd) c) (n + wd) (bvs (xs ++ enc v wd)) ∧ Below w.heap.size w w' := by
  have hlen := Lib.hid h.len
  have hle := h.le
  have hmk := make_run n (by omega)
  obtain ⟨i5, hi, hz0, hz1, hz2⟩ := info_parts Try.info5
  have hsz5 : (Try.prog.info? 5).map (·.size) = some 1 := by rw [hi]; simp [hz1]
  have hb1 : Below w.heap.size w (w.alloc (.cells (madeCells #[.int .u8 0] (n + 8)) 5)) := (Below.refl _ _).alloc (Nat.le_refl _) _
  go_enter Try.func17, Try.ntmps17
  go_wp2_with (with_reducible refine wpList_copy_splice (o := ⟨some 17, _, _, _, _, _⟩) rfl (.tmp 15) (.tmp 16) 29 29 rfl 5 Try.underlying29 hsz5 _ _ _ _ _ _ rfl rfl w.heap.size 0 (madeCells #[.int .u8 0] (n + 8)).toList 5 ?hg (bvs xs) ?hn ?hpos ?hfit (bvs_one xs) w.heap.size w hb1 (Nat.le_refl _) ?_)
  case hg => simpa using heap_alloc_new w _
  case hn => rw [bvs_length, hlen.out]; simp
  case hpos => exact h.src hb1
  case hfit => simp [bvs_length, hlen.out, size_madeCells]
  intro w1 HG hB1
  have hown := owns_splice (Nat.le_refl _) hlen.out (by omega) hn HG.out
  clear HG hb1 hmk hsz5
  go_wp2_with (go_at_call 35; refine (isWidth_yes _ _ (by omega) (by omega)).mono ?_; rintro e w' ⟨rfl, rfl⟩)
  have hx0 : encTo v wd 0 = [] := rfl
  go_loopw [7, 23] (fun o i wr => ∃ k : Nat, k ≤ wd ∧ i = .int .i64 k ∧ o = .slice (some ⟨w.heap.size, 0, none⟩) (n + k) (n + 8) ∧
      wr.ownsRow w.heap.size 5 1 (.slice (some ⟨w.heap.size, 0, none⟩) (n + k) (n + 8)) (n + k) (bvs (xs ++ encTo v wd k)) ∧ Below w.heap.size w wr) (fun _ i _ => wd - (intOf i).toNat)
  case atStart => exact ⟨0, by omega, rfl, rfl, by simpa [hx0] using hown, hB1⟩
  case round =>
    clear hown hx0
    obtain ⟨k, hk, rfl, rfl, hown, hB⟩ := hrel
    by_cases hlt : k < wd
    · go_wp2_with (first
        | (at_builtin; refine wpList_append_fits (o := ⟨some 37, _, _, _, _, _⟩) _ rfl (.tmp 26) (.tmp 36) 29 rfl w.heap.size 5 i5 1 Try.underlying29 hi hz1 w.heap.size (n + k) (n + 8) _ rfl (hown.alloc _) ⟨wr.heap.size, 0, none⟩ 1 1 (bvs [byteAt v (wd - 1 - k)]) rfl rfl ?d2 (bvs_one _) (by omega) ?d3))
      case d2 => rw [shr_byte]; exact one_cell _ _
      intro w2 hown2 hgrow
      have hB2 := (hB.alloc (by have := hB.size; omega) _).grown hgrow (by have := hB.size; simp; omega) (fun j hj => by cases hj; exact Nat.le_refl _)
      rw [← bvs_append, List.append_assoc, ← encTo_snoc v wd k hlt] at hown2
      clear hown hB hgrow
      go_wp2
      go_roundw
      case rel => exact ⟨k + 1, by omega, by go_num, rfl, hown2, hB2⟩
      case measure => simp [intOf]; omega
    · go_wp2
      go_ret
      obtain rfl : k = wd := by omega
      refine ⟨_, _, rfl, Nat.le_refl _, ?_, hB⟩
      rwa [show encTo v k k = enc v k from List.take_of_length_le (by rw [enc_length]; omega)] at hown

/-! ### a text's bytes appended -/
section
variable {P : Program} (w : World)
theorem run_append_room_s (t u ty e : TypeId) (i : TypeInfo) (ht : P.underlying t = some (.slice e)) (hu : P.underlying u = some .string) (hi : P.info? e = some i) (hsize : i.size = 1)
    (g sLen sCap : Nat) (cur : Array Value) (hg : w.heap[g]? = some (.cells cur e (0, 0))) (s : ByteArray) (hroom : sLen + s.size ≤ sCap) (hfit : sLen + s.size ≤ cur.size) :
    (Builtin.append_ #[t, u] ty #[.slice (some ⟨g, 0, none⟩) sLen sCap, .string s]).run P w =
      .ok (.slice (some ⟨g, 0, none⟩) (sLen + s.size) sCap) (w.setRow g (cur.toList.take sLen ++ bvs s.data.toList ++ cur.toList.drop (sLen + s.size)).toArray) := by
  have hl : (bvs s.data.toList).length = s.size := by rw [bvs_length]; rfl
  have hst := run_storeCells_at P g sLen e (bvs s.data.toList) 0 cur w hg (by simpa [hl] using hfit) (bvs_one _)
  simp only [Nat.add_zero, hl] at hst
  have hx : (s.extract 0 s.size).data.map (fun b => Value.int IntKind.u8 (b.toNat : Int)) = (bvs s.data.toList).toArray := by
    have e1 : s.extract 0 s.size = s := by
      apply ByteArray.ext
      rw [ByteArray.data_extract]
      exact Array.extract_size
    rw [e1]
    apply Array.ext'
    simp [bvs]
  have hz2 : List.take s.size (List.map (fun b : UInt8 => Value.int .u8 (b.toNat : Int)) s.data.toList) = bvs s.data.toList := List.take_of_length_le (by rw [List.length_map]; exact Nat.le_refl _)
  simp [Builtin.append_, run_underlying ht, run_underlying hu, sizeOf, typeInfo, hi, hsize, Builtin.lenOf, Builtin.firstCells, hroom, hx, Addr.add_none]
  rw [hz2, hst]
  simp

theorem run_append_grow_s (t u ty e : TypeId) (i : TypeInfo) (z : Value) (ht : P.underlying t = some (.slice e)) (hu : P.underlying u = some .string) (hi : P.info? e = some i) (hz : i.zero = some z) (hsize : i.size = 1)
    (b : Addr) (sLen sCap : Nat) (olds : List Value) (hlo : olds.length = sLen) (holds : ∀ j u, olds[j]? = some u → w.cell? (b.add j) = some u) (s : ByteArray)
    (hg : sCap < sLen + s.size) (h63 : ((sLen + s.size : Nat) : Int) ≤ 9223372036854775807) (hfit : Builtin.nextslicecap (sLen + s.size) sCap * i.bytes ≤ 281474976710656) :
    (Builtin.append_ #[t, u] ty #[.slice (some b) sLen sCap, .string s]).run P w =
      .ok (.slice (some ⟨w.heap.size, 0, none⟩) (sLen + s.size) (grownCap w (sLen + s.size) sCap e))
        (w.drew.alloc (.cells (olds.toArray ++ (bvs s.data.toList).toArray ++ Builtin.zeroCells z.cells (grownCap w (sLen + s.size) sCap e - (sLen + s.size))) e)) := by
  have hn : ¬ (sLen + s.size ≤ sCap) := by omega
  have h63' : ¬ (9223372036854775807 < ((sLen : Int) + (s.size : Int))) := by omega
  have h48' : ¬ (281474976710656 < Builtin.nextslicecap (sLen + s.size) sCap * i.bytes) := by omega
  have hfo := run_firstCells_some (P := P) w.drew 1 sLen b sLen sCap olds (by omega) (by simpa using holds)
  have hx : (s.extract 0 s.size).data.map (fun b => Value.int IntKind.u8 (b.toNat : Int)) = (bvs s.data.toList).toArray := by
    have e1 : s.extract 0 s.size = s := by
      apply ByteArray.ext
      rw [ByteArray.data_extract]
      exact Array.extract_size
    rw [e1]
    apply Array.ext'
    simp [bvs]
  have hfs : (Builtin.firstCells 1 s.size (.string s)).run P w.drew = .ok (bvs s.data.toList).toArray w.drew := by
    simp [Builtin.firstCells]
    apply Array.ext'
    simp [bvs]
  simp [Builtin.append_, run_underlying ht, run_underlying hu, sizeOf, typeInfo, zeroValue, hi, hz, hsize, Builtin.lenOf, hn, h63', h48', Question.forced, hfo, hfs, newRow, grownCap]
  congr 2
  apply Array.ext'
  simp [List.append_assoc]

theorem run_append_own_s (base : Nat) (t u ty e : TypeId) (i : TypeInfo) (ht : P.underlying t = some (.slice e)) (hu : P.underlying u = some .string) (hi : P.info? e = some i) (hz : i.zero = some (.int .u8 0)) (hsize : i.size = 1) (hby : i.bytes = 1)
    (v : Value) (n : Nat) (xs : List UInt8) (hown : w.ownsRow base e 1 v n (bvs xs)) (hv : v ≠ .slice none 0 0) (s : ByteArray) (hbytes : n + s.size ≤ 140737488355328) (hbase : base ≤ w.heap.size) :
    ∃ v' w', (Builtin.append_ #[t, u] ty #[v, .string s]).run P w = .ok v' w' ∧ w'.ownsRow base e 1 v' (n + s.size) (bvs (xs ++ s.data.toList)) ∧ w.grownBy w' v.ownBlock ∧ v' ≠ .slice none 0 0 := by
  have hxl : (bvs xs).length = n := by have := hown.1; omega
  have hsl : (bvs s.data.toList).length = s.size := by rw [bvs_length]; rfl
  rcases hown.2 with ⟨h1, _⟩ | ⟨g, cap, cur, rfl, hbg, hg, hnc, hcm, hcs, htake⟩
  · exact absurd h1 hv
  · by_cases hroom : n + s.size ≤ cap
    · have hr := run_append_room_s (P := P) w t u ty e i ht hu hi hsize g n cap cur hg s hroom (by omega)
      refine ⟨_, _, hr, ⟨by rw [bvs_append, List.length_append]; omega, .inr ⟨g, cap, _, rfl, hbg, setRow_heap w g cur _ e _ hg, hroom, hcm, ?_, ?_⟩⟩, ⟨rfl, rfl, rfl, by simp, fun k _ hk => setRow_other w g k _ (fun e => hk (by simp [Value.ownBlock, e]))⟩, by simp⟩
      · simp only [List.size_toArray, List.length_append, List.length_take, List.length_drop, Array.length_toList]
        omega
      · rw [Nat.mul_one] at htake ⊢
        rw [htake, bvs_append]
        have e1 : (bvs xs ++ bvs s.data.toList).length = n + s.size := by rw [List.length_append]; omega
        simp only
        rw [← e1]
        exact List.take_left
    · have holds : ∀ j u, (bvs xs)[j]? = some u → w.cell? ((⟨g, 0, none⟩ : Addr).add j) = some u := hown.cells (g := g) rfl
      have hr := run_append_grow_s (P := P) w t u ty e i (.int .u8 0) ht hu hi hz hsize ⟨g, 0, none⟩ n cap (bvs xs) hxl holds s (by omega) (by omega) (growslice_fits (by omega) (by rw [hby]; omega))
      have hge := grownCap_ge w (n + s.size) cap e
      have hcm2 : grownCap w (n + s.size) cap e ≤ maxLen := grownCap_le_maxLen w (n + s.size) cap e (by unfold maxLen; omega)
      refine ⟨_, _, hr, ⟨by rw [bvs_append, List.length_append]; omega, .inr ⟨w.heap.size, _, _, rfl, hbase, heap_alloc_new w.drew _, hge, hcm2, ?_, ?_⟩⟩, ⟨rfl, rfl, rfl, by simp, fun k hk _ => Below.heap_alloc w.drew _ k hk⟩, by simp⟩
      · simp only [Array.size_append, List.size_toArray, size_zeroCells, hxl, hsl]
        have : (Value.int .u8 0).cells.size = 1 := rfl
        rw [this]
        omega
      · rw [Nat.mul_one, bvs_append]
        simp only [Array.toList_append, List.append_assoc]
        have e1 : (bvs xs ++ bvs s.data.toList).length = n + s.size := by rw [List.length_append]; omega
        rw [← List.append_assoc, ← e1]
        exact List.take_left
end
theorem wpList_append_s {P : Program} {w : World} {ops : Array Oper} {rest : List Oper} {o : Oper} {a : Act} {Q : Exit → Act → World → Prop} (hgd : o.guard = none) (s x : Operand) (t u : TypeId)
    (ho : o.op = .call { callee := .builtin .append, args := #[s, x], argTypes := #[t, u] })
    (base : Nat) (e : TypeId) (i : TypeInfo) (ht : P.underlying t = some (.slice e)) (hu : P.underlying u = some .string) (hi : P.info? e = some i) (hz : i.zero = some (.int .u8 0)) (hsize : i.size = 1) (hby : i.bytes = 1)
    (v : Value) (n : Nat) (xs : List UInt8) (hs : a.eval s = v) (hown : w.ownsRow base e 1 v n (bvs xs)) (hv : v ≠ .slice none 0 0) (str : ByteArray) (hx : a.eval x = .string str) (hbytes : n + str.size ≤ 140737488355328) (hbase : base ≤ w.heap.size)
    (h : ∀ v' w', w'.ownsRow base e 1 v' (n + str.size) (bvs (xs ++ str.data.toList)) → w.grownBy w' v.ownBlock → v' ≠ .slice none 0 0 → wpList P ops Q rest (a.put o.dst v') w') :
    wpList P ops Q (o :: rest) a w := by
  refine wpList_plain hgd fun K hK => ?_
  obtain ⟨v', w', hr, h2, h3, h4⟩ := run_append_own_s (P := P) w base t u o.type e i ht hu hi hz hsize hby v n xs hown hv str hbytes hbase
  unfold Oper.wp execOp
  simp only [ho, resolve, invoke, builtin, Sem.run_bind, Sem.run_pure, Result.andThen_ok, List.map_toArray, List.map_cons, List.map_nil, hs, hx, hr]
  exact hK _ _ (h v' w' h2 h3 h4)

/-! ### frames in memory -/
/-- The slice value reads as texts. -/
structure Tx (w : World) (a : Option Addr) (n cap : Nat) (L : List (List UInt8)) : Prop where
  len : L.length = n
  le : n ≤ cap
  cm : cap ≤ maxLen
  at0 : 0 < n → ∃ b off, a = some ⟨b, off, none⟩ ∧ b < w.heap.size ∧ ∀ i, i < n → w.cell? ⟨b, off + i, none⟩ = some (strV (L[i]?.getD []))
theorem Tx.kept {w w' : World} {a : Option Addr} {n cap : Nat} {L : List (List UInt8)} (h : Tx w a n cap L) (hs : w.heap.size ≤ w'.heap.size) (hk : ∀ b off, a = some ⟨b, off, none⟩ → 0 < n → b < w.heap.size → w'.heap[b]? = w.heap[b]?) : Tx w' a n cap L where
  len := h.len
  le := h.le
  cm := h.cm
  at0 := fun h0 => by
    obtain ⟨b, off, ha, hlt, hc⟩ := h.at0 h0
    have he := hk b off ha h0 hlt
    exact ⟨b, off, ha, Nat.lt_of_lt_of_le hlt hs, fun i hi => by rw [World.cell?_of_block (w := w) he]; exact hc i hi⟩
theorem Tx.later {w w' : World} {a : Option Addr} {n cap : Nat} {L : List (List UInt8)} (h : Tx w a n cap L) (hb : Below w.heap.size w w') : Tx w' a n cap L := h.kept hb.size fun b _ _ _ hlt => hb.block b hlt
theorem tx_nil (w : World) : Tx w none 0 0 [] := ⟨rfl, Nat.le_refl _, by unfold maxLen; omega, fun h => by omega⟩

def frV (f : FR) (lv : Value) : Value := .agg #[.int .i64 f.kind, .int .u64 (f.sess : Int), .int .u64 (f.ep : Int), .int .u32 (f.seq : Int), .int .u32 (f.vol : Int), .int .i64 f.n, .int .i64 f.f, .int .i64 f.index, .int .i64 f.code, strV f.data, lv]
def frC (f : FR) (lv : Value) : Array Value := #[.int .i64 f.kind, .int .u64 (f.sess : Int), .int .u64 (f.ep : Int), .int .u32 (f.seq : Int), .int .u32 (f.vol : Int), .int .i64 f.n, .int .i64 f.f, .int .i64 f.index, .int .i64 f.code, strV f.data, lv]

/-- A value that reads as a frame. -/
def Frm (w : World) (f : FR) (x : Value) : Prop := ∃ a n c, x = frV f (.slice a n c) ∧ Tx w a n c f.list
theorem Frm.later {w w' : World} {f : FR} {x : Value} (h : Frm w f x) (hb : Below w.heap.size w w') : Frm w' f x := by
  obtain ⟨a, n, c, e, ht⟩ := h
  exact ⟨a, n, c, e, ht.later hb⟩
end Go.Proofs.Ytipegdfjpmlcbaa


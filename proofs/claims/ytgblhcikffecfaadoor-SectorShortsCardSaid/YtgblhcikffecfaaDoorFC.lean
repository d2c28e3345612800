/-
  The reference's words: the parts of a text, with a blank between.
-/
import Derived.Test.YtgblhcikffecfaaDoorFB
namespace Go.Proofs.YtgblhcikffecfaaDoor
open Go.RowKit Go.Shelf
set_option linter.unusedVariables false
set_option linter.unusedSimpArgs false

def lastW (ls : List (List UInt8)) : List UInt8 := ls[ls.length - 1]?.getD []
/-- The words behind k bytes. -/
def wordsK (xs : List UInt8) : Nat → List (List UInt8)
  | 0 => [[]]
  | k + 1 => if bt xs k = 32 then wordsK xs k ++ [[]] else (wordsK xs k).set ((wordsK xs k).length - 1) (lastW (wordsK xs k) ++ [xs[k]?.getD 0])
theorem wordsK_len (xs : List UInt8) : ∀ k, 1 ≤ (wordsK xs k).length ∧ (wordsK xs k).length ≤ k + 1 ∧ ∀ l ∈ wordsK xs k, l.length ≤ k
  | 0 => by simp [wordsK]
  | k + 1 => by
    obtain ⟨h1, h2, h3⟩ := wordsK_len xs k
    unfold wordsK
    split
    · refine ⟨by simp, by simp; omega, fun l hl => ?_⟩
      rcases List.mem_append.1 hl with h | h
      · have := h3 l h; omega
      · simp at h; rw [h]; simp
    · refine ⟨by simpa using h1, by simp; omega, fun l hl => ?_⟩
      rcases List.mem_or_eq_of_mem_set hl with h | h
      · have := h3 l h; omega
      · rw [h, List.length_append]
        have : (lastW (wordsK xs k)).length ≤ k := by
          unfold lastW
          rw [List.getElem?_eq_getElem (by omega)]
          exact h3 _ (List.getElem_mem _)
        simpa using this
def strW (ls : List (List UInt8)) : List Value := ls.map strV

theorem owns_first (w : World) (v : Value) : (w.alloc (.cells #[v] 9)).ownsRow w.heap.size 9 1 (.slice (some ⟨w.heap.size, 0, none⟩) 1 1) 1 [v] :=
  ⟨rfl, .inr ⟨w.heap.size, 1, #[v], rfl, Nat.le_refl _, heap_alloc_new w _, Nat.le_refl _, by unfold maxLen; omega, rfl, rfl⟩⟩

theorem owns_set {w : World} {B g n c : Nat} {xs : List Value} (h : w.ownsRow B 9 1 (.slice (some ⟨g, 0, none⟩) n c) n xs) (i : Nat) (v : Value) :
    (w.setCell ⟨g, i, none⟩ v).ownsRow B 9 1 (.slice (some ⟨g, 0, none⟩) n c) n (xs.set i v) := by
  obtain ⟨hl, h2⟩ := h
  refine ⟨by simpa using hl, ?_⟩
  rcases h2 with ⟨he, _⟩ | ⟨g', cap, cur, he, hb, hgg, h1, h3, h4, h5⟩
  · cases he
  · cases he
    refine .inr ⟨g, c, cur.setIfInBounds i v, rfl, hb, blk_setCell hgg, h1, h3, by simpa using h4, ?_⟩
    rw [Array.toList_setIfInBounds, List.take_set, h5]

set_option maxRecDepth 20000 in
set_option maxHeartbeats 4000000 in
theorem words_any (s : ByteArray) (w : World) (hs : s.size ≤ 1000) :
    Calls Tryd.prog 32 #[.string s] w fun e w' => ∃ a c, e = .returned (.slice a (wordsK s.data.toList s.size).length c) ∧ w'.ownsRow w.heap.size 9 1 (.slice a (wordsK s.data.toList s.size).length c) (wordsK s.data.toList s.size).length (strW (wordsK s.data.toList s.size)) ∧ Below w.heap.size w w' := by
  obtain ⟨i9, hi, hz0, hz1, hz2⟩ := info_parts Tryd.info9s
  have hix := fun i h w => index_text s i h w
  have hct := fun i h w => cut_one s i h w
  have hB : Below w.heap.size w (w.alloc (.cells #[.string ⟨#[]⟩] 9)) := (Below.refl _ _).alloc (Nat.le_refl _) _
  have hO := owns_first w (.string ⟨#[]⟩)
  have HIX := Lib.hid hix
  have HCT := Lib.hid hct
  have HB0 := Lib.hid hB
  have HO0 := Lib.hid hO
  clear hix hct hB hO
  go_enter Tryd.func32, Tryd.ntmps32
  go_wp2
  go_loopw [3, 4] (fun o i wr => ∃ (k : Nat) (a : Option Addr) (c n : Nat), k ≤ s.size ∧ i = .int .i64 (k : Int) ∧ o = .slice a n c ∧ n = (wordsK s.data.toList k).length ∧ wr.ownsRow w.heap.size 9 1 (.slice a n c) n (strW (wordsK s.data.toList k)) ∧ Below w.heap.size w wr) (fun _ i _ => s.size - (intOf i).toNat)
  case atStart => exact ⟨0, _, _, _, by omega, rfl, rfl, rfl, HO0.out, HB0.out⟩
  case round =>
    obtain ⟨k, a, c, n, hk, rfl, rfl, hn, hown, hB⟩ := hrel
    obtain ⟨n1, n2, n3⟩ := wordsK_len s.data.toList k
    by_cases hlt : k < s.size
    · have hx := HIX.out k hlt
      change ∀ w, _ = Result.ok (Value.int .u8 (bt s.data.toList k : Int)) w at hx
      have HO := Lib.hid hown
      have HB := Lib.hid hB
      have HN := Lib.hid hn
      have HK := Lib.hid hlt
      have i1 : (k : Int) < (s.size : Int) := by omega
      have i2 : (0 : Int) ≤ (k : Int) := by omega
      by_cases h32 : bt s.data.toList k = 32
      · have hw : wordsK s.data.toList (k + 1) = wordsK s.data.toList k ++ [[]] := by
          show (if _ then _ else _) = _
          rw [if_pos h32]
        rw [h32] at hx
        have hx' : ∀ w, (Instr.index 9 (.string s) (.int .i64 (k : Int))).run Tryd.prog w = .ok (.int .u8 32) w := hx
        have HW := Lib.hid hw
        have HL := Lib.hid (show n ≤ 1001 by omega)
        have hsz := hB.size
        clear hw h32 hx hlt hk hn n1 n2 n3 hown hB
        go_wp2_with (at_builtin; refine wpList_append_own_at _ (o := ⟨some 18, _, _, _, _, _⟩) rfl (.tmp 16) (.tmp 17) 41 rfl w.heap.size 9 i9 _ 1 16 Tryd.underlying41 hi hz0 hz1 hz2 rfl (by omega) (.slice a n c) n _ rfl (HO.out.alloc _) ⟨_, 0, none⟩ 1 1 [.string ⟨#[]⟩] rfl rfl (cells_one _ _) (by simp [Value.oneCell']) (by have := HL.out; unfold maxLen; omega) (by have := HL.out; omega) (by simp; omega) ?_)
        intro v' w' h1 h2 _ _
        have hB' := (HB.out.alloc HB.out.size (.cells #[.string ⟨#[]⟩] 9)).grown h2 (by simp; omega) (fun k e => (HO.out.lt k e).1)
        obtain ⟨a', c', rfl⟩ := shapeS h1
        rw [show strW (wordsK s.data.toList k) ++ [Value.string ⟨#[]⟩] = strW (wordsK s.data.toList (k + 1)) from by rw [HW.out]; simp [strW, strV]] at h1
        have HO1 := Lib.hid h1
        have HB1 := Lib.hid hB'
        clear h1 h2 hB' HO HB
        go_wp2
        refine ⟨⟨k + 1, a', c', n + 1, by have := HK.out; omega, by go_num, rfl, by rw [HW.out, HN.out]; simp, HO1.out, HB1.out⟩, ?_⟩
        have := HK.out; simp [intOf]; omega
      · obtain ⟨m, hm⟩ : ∃ m, n = m + 1 := ⟨n - 1, by omega⟩
        have hw : wordsK s.data.toList (k + 1) = (wordsK s.data.toList k).set m (lastW (wordsK s.data.toList k) ++ [s.data.toList[k]?.getD 0]) := by
          show (if _ then _ else _) = _
          rw [if_neg h32, show (wordsK s.data.toList k).length - 1 = m from by omega]
        have hla : (strW (wordsK s.data.toList k))[m]? = some (strV (lastW (wordsK s.data.toList k))) := by
          unfold strW lastW
          rw [List.getElem?_map, show (wordsK s.data.toList k).length - 1 = m from by omega, List.getElem?_eq_getElem (by omega)]
          rfl
        have hll : (lastW (wordsK s.data.toList k)).length ≤ 1000 := by
          unfold lastW
          rw [List.getElem?_eq_getElem (by omega)]
          have := n3 _ (List.getElem_mem (l := wordsK s.data.toList k) (n := (wordsK s.data.toList k).length - 1) (by omega))
          simp only [Option.getD_some]
          omega
        have hcut := HCT.out k hlt
        have hadd := add_texts (lastW (wordsK s.data.toList k)) [s.data.toList[k]?.getD 0] (by simp; omega)
        change ∀ w, _ = Result.ok (strV [s.data.toList[k]?.getD 0]) w at hcut
        subst hm
        obtain ⟨g, rfl, hgg⟩ : ∃ g, a = some ⟨g, 0, none⟩ ∧ ∃ cur, wr.heap[g]? = some (.cells cur 9 (0, 0)) := by
          rcases hown.2 with ⟨he, _⟩ | ⟨g, cap, cur, he, _, hgg, _⟩
          · cases he
          · cases he; exact ⟨g, rfl, cur, hgg⟩
        obtain ⟨cur, hgg⟩ := hgg
        have hcell : wr.cell? ⟨g, m, none⟩ = some (strV (lastW (wordsK s.data.toList k))) := by
          have := hown.cells (g := g) rfl m _ hla
          rwa [Addr.add_none, Nat.zero_add] at this
        have hfz := free_of_blk hgg m
        have hset := owns_set hown m (strV (lastW (wordsK s.data.toList k) ++ [s.data.toList[k]?.getD 0]))
        rw [show (strW (wordsK s.data.toList k)).set m (strV (lastW (wordsK s.data.toList k) ++ [s.data.toList[k]?.getD 0])) = strW (wordsK s.data.toList (k + 1)) from by rw [hw]; unfold strW; rw [List.map_set]] at hset
        have hbs := hB.setCell (p := ⟨g, m, none⟩) (by have := hown.lt g rfl; exact this.1) (strV (lastW (wordsK s.data.toList k) ++ [s.data.toList[k]?.getD 0]))
        have hcm : m + 1 ≤ c := by
          rcases hown.2 with ⟨he, _⟩ | ⟨g', cap, cur, he, _, _, h5, _⟩
          · cases he
          · cases he; exact h5
        have h32' : ((bt s.data.toList k : Int) == 32) = false := by simpa using (by omega : ¬ (bt s.data.toList k : Int) = 32)
        have hb := bt_lt s.data.toList k
        obtain ⟨nb, hnb⟩ : ∃ nb : ByteArray, strV (lastW (wordsK s.data.toList k) ++ [s.data.toList[k]?.getD 0]) = .string nb := ⟨_, rfl⟩
        rw [hnb] at hset hbs
        simp only [hnb] at hadd
        clear hnb
        generalize bt s.data.toList k = b at *
        generalize strV (lastW (wordsK s.data.toList k)) = LV at *
        generalize strV [s.data.toList[k]?.getD 0] = CV at *
        have HSE := Lib.hid hset
        have HBS := Lib.hid hbs
        have HW := Lib.hid hw
        have hs1 : s.size ≤ 1000 := hs
        have i3 : (m : Int) < 1001 := by omega
        clear hset hbs hw hla hll hgg hown hB HO HB h32 hk hn n1 n2 n3 hlt
        go_wp2
        go_region
        have HSD := Lib.hid (owns_keptS (w' := (wr.setCell ⟨g, m, none⟩ (.string nb)).drew) HSE.out (fun _ _ => rfl))
        have HBD := Lib.hid HBS.out.drew
        generalize (wr.setCell ⟨g, m, none⟩ (.string nb)).drew = wz at *
        clear hcell hfz
        go_wp2
        refine ⟨⟨k + 1, _, c, m + 1, by have := HK.out; omega, by go_num, rfl, by rw [HW.out, HN.out]; simp, HSD.out, HBD.out⟩, ?_⟩
        have := HK.out; simp [intOf]; omega
    · obtain rfl : k = s.size := by omega
      have i1 : ¬ (s.size : Int) < (s.size : Int) := by omega
      have HO := Lib.hid hown
      have HB := Lib.hid hB
      subst hn
      clear hown hB n1 n2 n3 hk hlt
      go_wp2
      go_ret
      exact ⟨a, c, rfl, HO.out, HB.out⟩

end Go.Proofs.YtgblhcikffecfaaDoor

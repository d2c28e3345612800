/-
  The library's ParseUint at base 16, 8 bits: any text.
-/
import Derived.Test.YtgblhcikffecfaaDoorF9
import Derived.Laws.IdiomStrings
namespace Go.Proofs.YtgblhcikffecfaaDoor
open Go.RowKit Go.Shelf
set_option linter.unusedVariables false
set_option linter.unusedSimpArgs false

theorem bytesRow_at' (s : ByteArray) (c i : Nat) (h : i < s.size) : (bytesRow s c)[i]? = some (.int .u8 (((s.data.toList)[i]?.getD 0).toNat : Int)) := by
  have h' : i < s.data.size := h
  simp [bytesRow, Array.getElem?_append, h', Array.getElem?_eq_getElem h']
  omega

/-- '[]byte(s)': the new row reads as the text's bytes. -/
theorem cv_rd (s : ByteArray) (hs : s.size ≤ 140737488355328) (w : World) : ∃ c w', (convert 9 37 (.string s)).run Tryd.prog w = .ok (.slice (some ⟨w.heap.size, 0, none⟩) s.size c) w' ∧
    Rd w' (some ⟨w.heap.size, 0, none⟩) s.size c s.data.toList ∧ Below w.heap.size w w' := by
  refine ⟨_, _, run_bytes_of_string w 9 37 5 s Tryd.underlying9 Tryd.underlying37 Tryd.underlying5, ?_, ((Below.refl _ _).drew).alloc (Nat.le_refl _) _⟩
  refine ⟨rfl, grownCap_ge _ _ _ _, hs, grownCap_le_maxLen _ _ _ _ (by unfold maxLen; omega), fun _ => ⟨_, _, rfl, by simp, fun i hi => ?_⟩, fun e => by cases e⟩
  have := World.cell?_alloc_mark w.drew (bytesRow s (grownCap w s.size 0 5)) 5 ((bytesRow s (grownCap w s.size 0 5)).size, (bytesRow s (grownCap w s.size 0 5)).size + 1) (0 + i)
  refine this.trans ?_
  rw [Nat.zero_add]
  exact bytesRow_at' s _ i hi

theorem eql_str (xs ys : List UInt8) (w : World) : (binOp .eql 9 (strV xs) (strV ys)).run Tryd.prog w = .ok (.bool (decide (xs = ys))) w := by
  unfold strV
  go_simp
  by_cases h : xs = ys <;> simp [h]
theorem eguard_str (xs ys : List UInt8) (x y : Operand) (w : World) : (eqGuard .eql 9 x y (strV xs) (strV ys)).run Tryd.prog w = .ok () w := by
  unfold strV
  go_simp

/-- A byte in lower case, as the library has it. -/
def lowN (c : Nat) : Nat := c ||| 32
theorem low_or : ∀ c : Fin 256, bits .or .u8 (c.val : Int) 32 = ((lowN c.val : Nat) : Int) := by decide +kernel
theorem low_lt : ∀ c : Fin 256, lowN c.val < 256 := by decide +kernel

/-- A hexadecimal digit's worth; 16 and more: it is none. -/
def hexd (c : Nat) : Nat := if 48 ≤ c ∧ c ≤ 57 then c - 48 else if 97 ≤ lowN c ∧ lowN c ≤ 122 then lowN c - 87 else 99

/-- What has been read behind k bytes: how it stands (0: well; 1: too large; 2: no digit), the number. -/
def puS (xs : List UInt8) : Nat → Nat × Nat
  | 0 => (0, 0)
  | k + 1 => if (puS xs k).1 = 0 then if 16 ≤ hexd (bt xs k) then (2, 0) else if 255 < (puS xs k).2 * 16 + hexd (bt xs k) then (1, 255) else (0, (puS xs k).2 * 16 + hexd (bt xs k)) else puS xs k
theorem puS_stop {xs : List UInt8} {k : Nat} (h : (puS xs k).1 ≠ 0) : ∀ n, k ≤ n → puS xs n = puS xs k
  | 0, hn => by obtain rfl : k = 0 := by omega
                rfl
  | n + 1, hn => by
    by_cases he : k = n + 1
    · rw [he]
    · have := puS_stop h n (by omega)
      show (if (puS xs n).1 = 0 then _ else puS xs n) = _
      rw [this, if_neg h]
theorem puS_le (xs : List UInt8) : ∀ k, (puS xs k).2 ≤ 255
  | 0 => by simp [puS]
  | k + 1 => by
    have := puS_le xs k
    show (if (puS xs k).1 = 0 then (if _ then _ else if _ then _ else _) else puS xs k).2 ≤ 255
    split
    · split
      · simp
      · split
        · simp
        · rename_i h; simp; omega
    · exact this
def puP (s : ByteArray) : Nat × Nat := if s.size = 0 then (2, 0) else puS s.data.toList s.size
def puV (s : ByteArray) : Value := .tuple #[.int .u64 ((puP s).2 : Int), if (puP s).1 = 0 then .nilIface else .iface 90 (.int .i64 ((puP s).1 : Int))]

theorem puV_of {s : ByteArray} {e n : Nat} (h : puP s = (e, n)) (he : e ≠ 0) : puV s = .tuple #[.int .u64 (n : Int), .iface 90 (.int .i64 (e : Int))] := by
  unfold puV; rw [h]; simp [he]
theorem puV_ok {s : ByteArray} {n : Nat} (h : puP s = (0, n)) : puV s = .tuple #[.int .u64 (n : Int), .nilIface] := by
  unfold puV; rw [h]; simp

set_option maxRecDepth 20000 in
set_option maxHeartbeats 4000000 in
theorem pu16_any (s : ByteArray) (w : World) (hs : s.size ≤ 140737488355328) :
    Calls Tryd.prog 62 #[.string s, .int .i64 16, .int .i64 8] w fun e w' => e = .returned (puV s) ∧ Below w.heap.size w w' := by
  by_cases h0 : s.size = 0
  · have hx : s.data.toList = [] := List.eq_nil_of_length_eq_zero h0
    have hne : ∀ w, (binOp .eql 9 (.string s) (.string ⟨#[]⟩)).run Tryd.prog w = .ok (.bool true) w := fun w => by
      have := eql_str s.data.toList [] w
      rw [show decide (s.data.toList = []) = true from by simpa using hx] at this
      exact this
    have hgd : ∀ x y w, (eqGuard .eql 9 x y (.string s) (.string ⟨#[]⟩)).run Tryd.prog w = .ok () w := fun x y w => eguard_str s.data.toList [] x y w
    rw [puV_of (s := s) (e := 2) (n := 0) (if_pos h0) (by omega)]
    generalize Value.string s = V at *
    clear hx h0 hs
    go_enter Tryd.func62, Tryd.ntmps62
    go_wp2
    refine bodyPost_ret (results_tmp2 rfl _ _ _) rfl ?_
    exact ⟨rfl, Below.refl _ _⟩
  · have hp : puP s = puS s.data.toList s.size := if_neg h0
    have hx : s.data.toList ≠ [] := fun h => h0 (by
      have : s.data.toList.length = s.size := rfl
      rw [h] at this
      exact this.symm)
    have hne : ∀ w, (binOp .eql 9 (.string s) (.string ⟨#[]⟩)).run Tryd.prog w = .ok (.bool false) w := fun w => by
      have := eql_str s.data.toList [] w
      rw [show decide (s.data.toList = []) = false from by simpa using hx] at this
      exact this
    have hgd : ∀ x y w, (eqGuard .eql 9 x y (.string s) (.string ⟨#[]⟩)).run Tryd.prog w = .ok () w := fun x y w => eguard_str s.data.toList [] x y w
    obtain ⟨c, w1, hcv, hrd, hb1⟩ := cv_rd s hs w
    obtain ⟨V, hV⟩ : ∃ V, V = Value.string s := ⟨_, rfl⟩
    simp only [← hV] at hne hgd hcv ⊢
    have HB1 := Lib.hid hb1
    have HRD := Lib.hid hrd
    have HP := Lib.hid hp
    obtain ⟨g, hg⟩ : ∃ g, g = w.heap.size := ⟨_, rfl⟩
    rw [← hg] at hcv HRD
    generalize hl : s.size = L at *
    have HL := Lib.hid hl
    clear hb1 hrd hp hV hl hg
    go_enter Tryd.func62, Tryd.ntmps62
    go_wp2
    generalize hCO : (1152921504606846976 : Int) = CO
    have HCO := Lib.hid hCO.symm
    clear hCO
    go_loopw [12, 13, 101] (fun u n i wr => ∃ k : Nat, k ≤ L ∧ i = .int .i64 (k : Int) ∧ u = .bool false ∧ n = .int .u64 ((puS s.data.toList k).2 : Int) ∧ (puS s.data.toList k).1 = 0 ∧ wr = w1) (fun _ _ i _ => L - (intOf i).toNat)
    case atStart => exact ⟨0, by omega, rfl, rfl, rfl, rfl, rfl⟩
    case round =>
      obtain ⟨k, hk, rfl, rfl, rfl, hst, rfl⟩ := hrel
      have hn := puS_le s.data.toList k
      by_cases hkl : k < L
      · have hcell : wr.cell? ⟨g, k, none⟩ = some (.int .u8 (bt s.data.toList k : Int)) := by
          obtain ⟨b, off, hab, hlt, hc⟩ := HRD.out.at0 (by omega)
          cases hab
          have := hc k hkl
          rwa [Nat.zero_add] at this
        have hstep : puS s.data.toList (k + 1) = if 16 ≤ hexd (bt s.data.toList k) then (2, 0) else if 255 < (puS s.data.toList k).2 * 16 + hexd (bt s.data.toList k) then (1, 255) else (0, (puS s.data.toList k).2 * 16 + hexd (bt s.data.toList k)) := by
          show (if (puS s.data.toList k).1 = 0 then _ else _) = _
          rw [if_pos hst]
        have hbad : (puS s.data.toList (k + 1)).1 ≠ 0 → puP s = puS s.data.toList (k + 1) := fun h => by rw [HP.out]; exact puS_stop h L (by omega)
        have hc := bt_lt s.data.toList k
        have hlo := fun w => Tryd.internal_strconv_lower (bt s.data.toList k : Int) w
        have hor := low_or ⟨bt s.data.toList k, hc⟩
        have hll := low_lt ⟨bt s.data.toList k, hc⟩
        dsimp only at hor hll
        simp only [hor] at hlo
        obtain ⟨nx, hnx0⟩ : ∃ nx, puS s.data.toList (k + 1) = nx := ⟨_, rfl⟩
        have HNX := Lib.hid hnx0
        rw [hnx0] at hstep hbad
        have HS := Lib.hid hstep
        have HBAD := Lib.hid hbad
        have HLO := Lib.hid hlo
        have HKL := Lib.hid hkl
        have HLS := Lib.hid hs
        generalize (puS s.data.toList k).2 = n at *
        generalize bt s.data.toList k = c at *
        have i1 : (k : Int) < (L : Int) := by omega
        have i2 : (n : Int) < CO := by rw [HCO.out]; omega
        clear hbad hstep hlo hor hst hk hkl hs h0 hx hne hgd hnx0
        by_cases hA : 48 ≤ c ∧ c ≤ 57
        · have hd : hexd c = c - 48 := if_pos hA
          have HD := Lib.hid hd
          have HNA := Lib.hid (trivial : True)
          clear hd hll
          obtain ⟨a1, a2⟩ := hA
          have b1 : (48 : Int) ≤ (c : Int) := by omega
          have b2 : (c : Int) ≤ 57 := by omega
          have b3 : ((c : Int) == 95) = false := by simp; omega
          go_wp2
          · have hnx : nx = (1, 255) := by rw [HS.out, HD.out, if_neg (by omega), if_pos (by omega)]
            refine bodyPost_ret (results_tmp2 rfl _ _ _) rfl ?_
            exact ⟨congrArg Ending.returned (puV_of (e := 1) (n := 255) (by rw [HBAD.out (by rw [hnx]; simp), hnx]) (by omega)).symm, HB1.out⟩
          · have hnx : nx = (0, n * 16 + hexd c) := by rw [HS.out, if_neg (by rw [HD.out]; omega), if_neg (by rw [HD.out]; omega)]
            have hwr : wrap64 ((k : Int) + 1) = (k : Int) + 1 := IntWalk.wrap64_in _ (by have := HKL.out; have := HLS.out; omega)
            rw [hwr]
            refine ⟨⟨k + 1, by have := HKL.out; omega, by go_num, rfl, ?_, by rw [HNX.out, hnx], trivial⟩, ?_⟩
            · rw [HNX.out, hnx, HD.out]; go_num
            · have := HKL.out; simp [intOf]; omega
        · by_cases hBc : 97 ≤ lowN c ∧ lowN c ≤ 122
          · have hd : hexd c = lowN c - 87 := by unfold hexd; rw [if_neg hA, if_pos hBc]
            have HD := Lib.hid hd
            have h95 : c ≠ 95 := fun h => by subst h; revert hBc; decide
            have HNA := Lib.hid hA
            generalize lowN c = l at *
            obtain ⟨a1, a2⟩ := hBc
            have b1 : (97 : Int) ≤ (l : Int) := by omega
            have b2 : (l : Int) ≤ 122 := by omega
            have b3 : ((c : Int) == 95) = false := by simp; omega
            clear hd h95 hA
            go_wp2_with (go_at_call 70; refine (HLO.out _).mono ?_; rintro r w' ⟨rfl, hw'⟩; obtain rfl := hw'.symm; clear hw')
            all_goals (try (exfalso; have := HNA.out; omega))
            · have hnx : nx = (2, 0) := by rw [HS.out, HD.out, if_pos (by omega)]
              refine bodyPost_ret (results_tmp2 rfl _ _ _) rfl ?_
              exact ⟨congrArg Ending.returned (puV_of (e := 2) (n := 0) (by rw [HBAD.out (by rw [hnx]; simp), hnx]) (by omega)).symm, HB1.out⟩
            · have hnx : nx = (1, 255) := by rw [HS.out, HD.out, if_neg (by omega), if_pos (by omega)]
              refine bodyPost_ret (results_tmp2 rfl _ _ _) rfl ?_
              exact ⟨congrArg Ending.returned (puV_of (e := 1) (n := 255) (by rw [HBAD.out (by rw [hnx]; simp), hnx]) (by omega)).symm, HB1.out⟩
            · have hnx : nx = (0, n * 16 + hexd c) := by rw [HS.out, if_neg (by rw [HD.out]; omega), if_neg (by rw [HD.out]; omega)]
              have hwr : wrap64 ((k : Int) + 1) = (k : Int) + 1 := IntWalk.wrap64_in _ (by have := HKL.out; have := HLS.out; omega)
              rw [hwr]
              refine ⟨⟨k + 1, by have := HKL.out; omega, by go_num, rfl, ?_, by rw [HNX.out, hnx], trivial⟩, ?_⟩
              · rw [HNX.out, hnx, HD.out]; go_num
              · have := HKL.out; simp [intOf]; omega
            · have hnx : nx = (2, 0) := by rw [HS.out, HD.out, if_pos (by omega)]
              refine bodyPost_ret (results_tmp2 rfl _ _ _) rfl ?_
              exact ⟨congrArg Ending.returned (puV_of (e := 2) (n := 0) (by rw [HBAD.out (by rw [hnx]; simp), hnx]) (by omega)).symm, HB1.out⟩
            · have hnx : nx = (1, 255) := by rw [HS.out, HD.out, if_neg (by omega), if_pos (by omega)]
              refine bodyPost_ret (results_tmp2 rfl _ _ _) rfl ?_
              exact ⟨congrArg Ending.returned (puV_of (e := 1) (n := 255) (by rw [HBAD.out (by rw [hnx]; simp), hnx]) (by omega)).symm, HB1.out⟩
            · have hnx : nx = (0, n * 16 + hexd c) := by rw [HS.out, if_neg (by rw [HD.out]; omega), if_neg (by rw [HD.out]; omega)]
              have hwr : wrap64 ((k : Int) + 1) = (k : Int) + 1 := IntWalk.wrap64_in _ (by have := HKL.out; have := HLS.out; omega)
              rw [hwr]
              refine ⟨⟨k + 1, by have := HKL.out; omega, by go_num, rfl, ?_, by rw [HNX.out, hnx], trivial⟩, ?_⟩
              · rw [HNX.out, hnx, HD.out]; go_num
              · have := HKL.out; simp [intOf]; omega
          · have hd : hexd c = 99 := by unfold hexd; rw [if_neg hA, if_neg hBc]
            have HD := Lib.hid hd
            have HNA := Lib.hid hA
            have HNB := Lib.hid hBc
            generalize lowN c = l at *
            clear hd hA hBc
            by_cases h95 : c = 95
            · subst h95
              go_wp2_with (go_at_call 70; refine (HLO.out _).mono ?_; rintro r w' ⟨rfl, hw'⟩; obtain rfl := hw'.symm; clear hw')
              all_goals (try (exfalso; have := HNA.out; have := HNB.out; omega))
              all_goals
                have hnx : nx = (2, 0) := by rw [HS.out, HD.out, if_pos (by omega)]
                refine bodyPost_ret (results_tmp2 rfl _ _ _) rfl ?_
                exact ⟨congrArg Ending.returned (puV_of (e := 2) (n := 0) (by rw [HBAD.out (by rw [hnx]; simp), hnx]) (by omega)).symm, HB1.out⟩
            · have b3 : ((c : Int) == 95) = false := by simp; omega
              clear h95
              go_wp2_with (go_at_call 70; refine (HLO.out _).mono ?_; rintro r w' ⟨rfl, hw'⟩; obtain rfl := hw'.symm; clear hw')
              all_goals (try (exfalso; have := HNA.out; have := HNB.out; omega))
              all_goals
                have hnx : nx = (2, 0) := by rw [HS.out, HD.out, if_pos (by omega)]
                refine bodyPost_ret (results_tmp2 rfl _ _ _) rfl ?_
                exact ⟨congrArg Ending.returned (puV_of (e := 2) (n := 0) (by rw [HBAD.out (by rw [hnx]; simp), hnx]) (by omega)).symm, HB1.out⟩
      · obtain rfl : k = L := by omega
        have hpp : puP s = (0, (puS s.data.toList k).2) := by rw [HP.out, ← hst]
        have hv := puV_ok hpp
        generalize (puS s.data.toList k).2 = n at *
        have HV := Lib.hid hv
        have i1 : ¬ (k : Int) < (k : Int) := by omega
        clear hk hkl hs h0 hx hne hgd hst hpp hv
        go_wp2
        refine bodyPost_ret (results_tmp2 rfl _ _ _) rfl ?_
        exact ⟨congrArg Ending.returned HV.out.symm, HB1.out⟩

end Go.Proofs.YtgblhcikffecfaaDoor

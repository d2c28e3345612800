/-
  The program's body of a frame.
-/
import Derived.Test.YtipegdfjpmlcbaaCF2
import Derived.Deep.Cut
namespace Go.Proofs.Ytipegdfjpmlcbaa
open Go.RowKit
set_option linter.unusedVariables false
set_option linter.unusedSimpArgs false

theorem put_own' (a : Option Addr) (n cap : Nat) (xs : List UInt8) (wd : Nat) (wi : Int) (hw : wi = (wd : Int)) (v : Nat) (w : World) (h : Rd w a n cap xs) (h1 : 1 ≤ wd) (h2 : wd ≤ 8) (hv : v < 18446744073709551616) (hn : n + 8 ≤ 140737488355328) :
    Calls Try.prog 17 #[.slice a n cap, .int .i64 wi, .int .u64 v] w fun e w' => ∃ g c, e = .returned (.slice (some ⟨g, 0, none⟩) (n + wd) c) ∧ w.heap.size ≤ g ∧ w'.ownsRow w.heap.size 5 1 (.slice (some ⟨g, 0, none⟩) (n + wd) c) (n + wd) (bvs (xs ++ enc v wd)) ∧ Below w.heap.size w w' := by
  subst hw
  exact put_own a n cap xs wd v w h h1 h2 hv hn
theorem owns_lowB {w : World} {B B' e size n : Nat} {v : Value} {xs : List Value} (h : w.ownsRow B e size v n xs) (hl : B' ≤ B) : w.ownsRow B' e size v n xs := by
  refine ⟨h.1, ?_⟩
  rcases h.2 with hn | ⟨g, cap, cur, rfl, hb, rest⟩
  · exact .inl hn
  · exact .inr ⟨g, cap, cur, rfl, by omega, rest⟩
theorem wrap_wv (x : Int) : IntKind.u64.wrap x = (wv x : Int) := by
  rw [IntKind.wrap_u64]; unfold wv; omega
theorem wv_lt (x : Int) : wv x < 18446744073709551616 := by unfold wv; omega

set_option maxRecDepth 20000 in
set_option maxHeartbeats 800000 in
theorem body_any (f : FR) (a : Option Addr) (n c : Nat) (w : World) (hT : Tx w a n c f.list) (hv : f.vol < 4294967296) (hd : f.data.length ≤ 1099511627776) (hl : ∀ k, ((f.list.take k).flatten).length ≤ 1099511627776) :
    Calls Try.prog 14 #[frV f (.slice a n c)] w fun e w' => ∃ a' m c', e = .returned (.slice a' m c') ∧ Rd w' a' m c' (bodyP f) ∧ Below w.heap.size w w' := by
  obtain ⟨kind, sess, ep, seq, vol, fn, ff, index, code, data, list⟩ := f
  dsimp only at hT hv hd hl
  unfold frV
  dsimp only
  have hcx : (c : Int) ≤ 9223372036854775807 := by have := hT.cm; unfold maxLen at this; omega
  have hln := hT.len
  have hle := hT.le
  obtain ⟨C, hC⟩ : ∃ C : Array Value, C = #[.int .i64 kind, .int .u64 (sess : Int), .int .u64 (ep : Int), .int .u32 (seq : Int), .int .u32 (vol : Int), .int .i64 fn, .int .i64 ff, .int .i64 index, .int .i64 code, strV data, .slice a n c] := ⟨_, rfl⟩
  have hal : Below w.heap.size w (w.alloc (.cells C 26)) := (Below.refl _ _).alloc (Nat.le_refl _) _
  have hnew := heap_alloc_new w (.cells C 26)
  have hT0 : Tx (w.alloc (.cells C 26)) a n c list := hT.later hal
  have hsz : (w.alloc (.cells C 26)).heap.size = w.heap.size + 1 := by simp
  obtain ⟨w0, hw0⟩ : ∃ w0, w0 = w.alloc (.cells C 26) := ⟨_, rfl⟩
  rw [← hw0] at hal hnew hT0 hsz
  have hcl : ∀ w', Below w0.heap.size w0 w' → ∀ i, w'.cell? ⟨w.heap.size, i, none⟩ = C[i]? := fun w' hb i => by rw [cell_of_blk ((hb.block w.heap.size (by omega)).trans hnew)]
  obtain ⟨DV, hDV⟩ : ∃ D : ByteArray, D = ⟨data.toArray⟩ := ⟨_, rfl⟩
  have hDs : DV.size = data.length := by rw [hDV]; exact List.size_toArray
  have hDl : DV.data.toList = data := by rw [hDV]
  have hDs9 : strV data = .string DV := by rw [hDV]; rfl
  have HCL := Lib.hid hcl
  have HC := Lib.hid hC
  have HT0 := Lib.hid hT0
  have HAL := Lib.hid hal
  have HW0 := Lib.hid hw0
  have HL := Lib.hid hl
  have HD := Lib.hid (And.intro hd (And.intro hDs (And.intro hDl hDs9)))
  have HLN := Lib.hid hln
  have hres : ∀ a' m c' wz xs, Below w0.heap.size w0 wz → Rd wz a' m c' xs → bodyP ⟨kind, sess, ep, seq, vol, fn, ff, index, code, data, list⟩ = xs → (∃ a'' m' c'', (Ending.returned (.slice a' m c') : Ending) = .returned (.slice a'' m' c'') ∧ Rd wz a'' m' c'' (bodyP ⟨kind, sess, ep, seq, vol, fn, ff, index, code, data, list⟩) ∧ Below w.heap.size w wz) := fun a' m c' wz xs hb hr he =>
    ⟨a', m, c', rfl, by rw [he]; exact hr, hal.trans (hb.mono hal.size)⟩
  have HRES := Lib.hid hres
  obtain ⟨i5, hi, hz0, hz1, hz2⟩ := info_parts Try.info5
  have hwc := wrap_wv
  have hwn := wv_lt
  have HWN := Lib.hid hwn
  have HVV := Lib.hid (wv_nat (show vol < 18446744073709551616 by omega))
  have k0 : w0.cell? ⟨w.heap.size, 0, none⟩ = some (.int .i64 kind) := by rw [hcl w0 (Below.refl _ _), hC]; rfl
  clear hcl hw0 hC hT0 hal hnew hsz hDV hDs hDl hDs9 hd hl hT hres hwn hln
  by_cases k1 : kind = 1
  · subst k1
    go_enter Try.func14, Try.ntmps14
    go_upto_region 2 with fail
    rw [← HC.out, ← HW0.out]
    have HB0 := Lib.hid (Below.refl w0.heap.size w0)
    have c1 : w0.cell? ⟨w.heap.size, 4, none⟩ = some (.int .u32 (vol : Int)) := by rw [HCL.out _ HB0.out, HC.out]; rfl
    have HP1 := Lib.hid (put_own' none 0 0 [] 4 4 rfl (wv vol) w0 (rd_nil _) (by omega) (by omega) (HWN.out _) (by omega))
    go_wp2_with fail
    with_reducible refine HP1.out.mono ?_
    rintro e w1 ⟨g1, d1, rfl, hg1, how1, hb1⟩
    have HB1 := Lib.hid (HB0.out.trans (hb1.mono HB0.out.size))
    have c2 : w1.cell? ⟨w.heap.size, 5, none⟩ = some (.int .i64 fn) := by rw [HCL.out _ HB1.out, HC.out]; rfl
    have HP2 := Lib.hid (put_own' (some ⟨g1, 0, none⟩) (0 + 4) d1 ([] ++ enc (wv vol) 4) 2 2 rfl (wv fn) w1 (rd_of_owns how1 (by omega)) (by omega) (by omega) (HWN.out _) (by omega))
    go_wp2_with fail
    with_reducible refine HP2.out.mono ?_
    rintro e w2 ⟨g2, d2, rfl, hg2, how2, hb2⟩
    have HB2 := Lib.hid (HB1.out.trans (hb2.mono HB1.out.size))
    have c3 : w2.cell? ⟨w.heap.size, 6, none⟩ = some (.int .i64 ff) := by rw [HCL.out _ HB2.out, HC.out]; rfl
    have HP3 := Lib.hid (put_own' (some ⟨g2, 0, none⟩) (0 + 4 + 2) d2 (([] ++ enc (wv vol) 4) ++ enc (wv fn) 2) 1 1 rfl (wv ff) w2 (rd_of_owns how2 (by omega)) (by omega) (by omega) (HWN.out _) (by omega))
    go_wp2_with fail
    with_reducible refine HP3.out.mono ?_
    rintro e w3 ⟨g3, d3, rfl, hg3, how3, hb3⟩
    have HB3 := Lib.hid (HB2.out.trans (hb3.mono HB2.out.size))
    have c9 : w3.cell? ⟨w.heap.size, 9, none⟩ = some (.string DV) := by rw [HCL.out _ HB3.out, HC.out]; exact congrArg some HD.out.2.2.2
    have hsz9 : DV.size ≤ 1099511627776 := by have := HD.out.1; have := HD.out.2.1; omega
    have HOW := Lib.hid how3
    clear how3
    go_wp2_with (at_builtin; refine wpList_append_s (o := ⟨some 28, _, _, _, _, _⟩) rfl (.tmp 25) (.tmp 27) 29 9 rfl w0.heap.size 5 i5 Try.underlying29 Try.underlying9 hi hz0 hz1 hz2 (.slice (some ⟨g3, 0, none⟩) (0 + 4 + 2 + 1) d3) (0 + 4 + 2 + 1) _ rfl (owns_lowB HOW.out HB2.out.size) (by simp) DV rfl (by omega) HB3.out.size ?_)
    intro v5 w5 how5 hg5 _
    obtain ⟨a5, c5, rfl, hrd5, _⟩ := owns_shape how5 (by omega)
    have hb5 : Below w0.heap.size w0 w5 := HB3.out.grown hg5 HB3.out.size (fun k e => by simp [Value.ownBlock] at e; have := HB2.out.size; omega)
    have HEND := Lib.hid (HRES.out _ _ _ _ _ hb5 hrd5 (by rw [HD.out.2.2.1]; unfold bodyP; simp [List.append_assoc, HVV.out]))
    clear how5 hg5 hrd5 hb5
    go_wp2
    go_ret
    exact HEND.out
  by_cases k2 : kind = 2
  · subst k2
    go_enter Try.func14, Try.ntmps14
    go_upto_region 2 with fail
    rw [← HC.out, ← HW0.out]
    have HB0 := Lib.hid (Below.refl w0.heap.size w0)
    have c1 : w0.cell? ⟨w.heap.size, 8, none⟩ = some (.int .i64 code) := by rw [HCL.out _ HB0.out, HC.out]; rfl
    have HP1 := Lib.hid (put_own' none 0 0 [] 1 1 rfl (wv code) w0 (rd_nil _) (by omega) (by omega) (HWN.out _) (by omega))
    go_wp2_with fail
    with_reducible refine HP1.out.mono ?_
    rintro e w1 ⟨g1, d1, rfl, hg1, how1, hb1⟩
    have HB1 := Lib.hid (HB0.out.trans (hb1.mono HB0.out.size))
    have hrd := rd_of_owns how1 (by omega)
    have HEND := Lib.hid (HRES.out _ _ _ _ _ HB1.out hrd (by unfold bodyP; simp [List.append_assoc, HVV.out]))
    go_wp2
    go_ret
    exact HEND.out
  by_cases k3 : kind = 3
  · subst k3
    go_enter Try.func14, Try.ntmps14
    go_upto_region 2 with fail
    rw [← HC.out, ← HW0.out]
    have HB0 := Lib.hid (Below.refl w0.heap.size w0)
    have c1 : w0.cell? ⟨w.heap.size, 7, none⟩ = some (.int .i64 index) := by rw [HCL.out _ HB0.out, HC.out]; rfl
    have HP1 := Lib.hid (put_own' none 0 0 [] 2 2 rfl (wv index) w0 (rd_nil _) (by omega) (by omega) (HWN.out _) (by omega))
    go_wp2_with fail
    with_reducible refine HP1.out.mono ?_
    rintro e w1 ⟨g1, d1, rfl, hg1, how1, hb1⟩
    have HB1 := Lib.hid (HB0.out.trans (hb1.mono HB0.out.size))
    have hrd := rd_of_owns how1 (by omega)
    have HEND := Lib.hid (HRES.out _ _ _ _ _ HB1.out hrd (by unfold bodyP; simp [List.append_assoc, HVV.out]))
    go_wp2
    go_ret
    exact HEND.out
  by_cases k5 : kind = 5
  · subst k5
    go_enter Try.func14, Try.ntmps14
    go_upto_region 2 with fail
    rw [← HC.out, ← HW0.out]
    have HB0 := Lib.hid (Below.refl w0.heap.size w0)
    have c1 : w0.cell? ⟨w.heap.size, 7, none⟩ = some (.int .i64 index) := by rw [HCL.out _ HB0.out, HC.out]; rfl
    have HP1 := Lib.hid (put_own' none 0 0 [] 2 2 rfl (wv index) w0 (rd_nil _) (by omega) (by omega) (HWN.out _) (by omega))
    go_wp2_with fail
    with_reducible refine HP1.out.mono ?_
    rintro e w1 ⟨g1, d1, rfl, hg1, how1, hb1⟩
    have HB1 := Lib.hid (HB0.out.trans (hb1.mono HB0.out.size))
    have hrd := rd_of_owns how1 (by omega)
    have HEND := Lib.hid (HRES.out _ _ _ _ _ HB1.out hrd (by unfold bodyP; simp [List.append_assoc, HVV.out]))
    go_wp2
    go_ret
    exact HEND.out
  by_cases k6 : kind = 6
  · subst k6
    go_enter Try.func14, Try.ntmps14
    go_upto_region 2 with fail
    rw [← HC.out, ← HW0.out]
    have HB0 := Lib.hid (Below.refl w0.heap.size w0)
    have c1 : w0.cell? ⟨w.heap.size, 7, none⟩ = some (.int .i64 index) := by rw [HCL.out _ HB0.out, HC.out]; rfl
    have HP1 := Lib.hid (put_own' none 0 0 [] 2 2 rfl (wv index) w0 (rd_nil _) (by omega) (by omega) (HWN.out _) (by omega))
    go_wp2_with fail
    with_reducible refine HP1.out.mono ?_
    rintro e w1 ⟨g1, d1, rfl, hg1, how1, hb1⟩
    have HB1 := Lib.hid (HB0.out.trans (hb1.mono HB0.out.size))
    have c9 : w1.cell? ⟨w.heap.size, 9, none⟩ = some (.string DV) := by rw [HCL.out _ HB1.out, HC.out]; exact congrArg some HD.out.2.2.2
    have hsz9 : DV.size ≤ 1099511627776 := by have := HD.out.1; have := HD.out.2.1; omega
    have HOW := Lib.hid how1
    clear how1
    go_wp2_with (at_builtin; refine wpList_append_s (o := ⟨some 78, _, _, _, _, _⟩) rfl (.tmp 75) (.tmp 77) 29 9 rfl w0.heap.size 5 i5 Try.underlying29 Try.underlying9 hi hz0 hz1 hz2 (.slice (some ⟨g1, 0, none⟩) (0 + 2) d1) (0 + 2) _ rfl (owns_lowB HOW.out HB0.out.size) (by simp) DV rfl (by omega) HB1.out.size ?_)
    intro v5 w5 how5 hg5 _
    obtain ⟨a5, c5, rfl, hrd5, _⟩ := owns_shape how5 (by omega)
    have hb5 : Below w0.heap.size w0 w5 := HB1.out.grown hg5 HB1.out.size (fun k e => by simp [Value.ownBlock] at e; have := HB0.out.size; omega)
    have HEND := Lib.hid (HRES.out _ _ _ _ _ hb5 hrd5 (by rw [HD.out.2.2.1]; unfold bodyP; simp [List.append_assoc, HVV.out]))
    clear how5 hg5 hrd5 hb5
    go_wp2
    go_ret
    exact HEND.out
  by_cases k4 : kind = 4
  · subst k4
    go_enter Try.func14, Try.ntmps14
    go_upto_region 2 with fail
    rw [← HC.out, ← HW0.out]
    have HB0 := Lib.hid (Below.refl w0.heap.size w0)
    have c1 : w0.cell? ⟨w.heap.size, 7, none⟩ = some (.int .i64 index) := by rw [HCL.out _ HB0.out, HC.out]; rfl
    have HP1 := Lib.hid (put_own' none 0 0 [] 2 2 rfl (wv index) w0 (rd_nil _) (by omega) (by omega) (HWN.out _) (by omega))
    go_wp2_with fail
    with_reducible refine HP1.out.mono ?_
    rintro e w1 ⟨g1, d1, rfl, hg1, how1, hb1⟩
    have HB1 := Lib.hid (HB0.out.trans (hb1.mono HB0.out.size))
    have c2 : w1.cell? ⟨w.heap.size, 10, none⟩ = some (.slice a n c) := by rw [HCL.out _ HB1.out, HC.out]; rfl
    have HP2 := Lib.hid (put_own' (some ⟨g1, 0, none⟩) (0 + 2) d1 ([] ++ enc (wv index) 2) 1 1 rfl (wv (n : Int)) w1 (rd_of_owns how1 (by omega)) (by omega) (by omega) (HWN.out _) (by omega))
    go_wp2_with fail
    with_reducible refine HP2.out.mono ?_
    rintro e w2 ⟨g2, d2, rfl, hg2, how2, hb2⟩
    have HB2 := Lib.hid (HB1.out.trans (hb2.mono HB1.out.size))
    have c10 : w2.cell? ⟨w.heap.size, 10, none⟩ = some (.slice a n c) := by rw [HCL.out _ HB2.out, HC.out]; rfl
    have HOW := Lib.hid how2
    clear how2
    go_wp2
    go_loopw [3, 60] (fun o i wr => ∃ k : Nat, k ≤ n ∧ i = .int .i64 k ∧ ∃ v N, o = v ∧ v ≠ .slice none 0 0 ∧ N = 3 + ((list.take k).flatten).length ∧ wr.ownsRow w0.heap.size 5 1 v N (bvs ((([] ++ enc (wv index) 2) ++ enc (wv (n : Int)) 1) ++ (list.take k).flatten)) ∧ Below w0.heap.size w0 wr) (fun _ i _ => n - (intOf i).toNat)
    case atStart => exact ⟨0, by omega, rfl, _, 3, rfl, by simp, by simp, by simpa using owns_lowB HOW.out HB1.out.size, HB2.out⟩
    case round =>
      obtain ⟨k, hk, rfl, v, N, rfl, hv, hN, hown, hB⟩ := hrel
      by_cases hlt : k < n
      · have i1 : (0 : Int) ≤ (k : Int) := by omega
        have i2 : (k : Int) < (n : Int) := by omega
        obtain ⟨tb, toff, rfl, htl, htc⟩ := (HT0.out.later hB).at0 (by omega)
        have d0 := htc k hlt
        obtain ⟨ds, hds⟩ : ∃ d : List UInt8, d = list[k]?.getD [] := ⟨_, rfl⟩
        rw [← hds] at d0
        obtain ⟨DS, hDS⟩ : ∃ D : ByteArray, D = ⟨ds.toArray⟩ := ⟨_, rfl⟩
        have hd0 : strV ds = .string DS := by rw [hDS]; rfl
        rw [hd0] at d0
        have hDl : DS.data.toList = ds := by rw [hDS]
        have hDz : DS.size = ds.length := by rw [hDS]; exact List.size_toArray
        have htk : (list.take (k + 1)).flatten = (list.take k).flatten ++ ds := by
          have hlk : k < list.length := by have := HLN.out; omega
          rw [List.take_add_one, hds, List.getElem?_eq_getElem hlk, List.flatten_append]
          simp only [Option.toList, Option.getD_some, List.flatten_cons, List.flatten_nil, List.append_nil]
        have hl1 := HL.out (k + 1)
        rw [htk, List.length_append] at hl1
        have HR := Lib.hid (And.intro htk (And.intro hDl (And.intro hDz hN)))
        have HO := Lib.hid hown
        have HV := Lib.hid hv
        have HB := Lib.hid hB
        obtain ⟨av, cv, rfl, _, _⟩ := owns_shape hown (by omega)
        clear hds hDS hd0 hDl htk hN hown hv hB htc
        go_wp2_with (at_builtin; refine wpList_append_s (o := ⟨some 66, _, _, _, _, _⟩) rfl (.tmp 64) (.tmp 65) 29 9 rfl w0.heap.size 5 i5 Try.underlying29 Try.underlying9 hi hz0 hz1 hz2 (.slice av N cv) N _ rfl HO.out HV.out DS rfl (by have := HR.out.2.2.2; omega) HB.out.size ?_)
        intro v5 w5 how5 hg5 hv5
        have hb5 : Below w0.heap.size w0 w5 := HB.out.grown hg5 HB.out.size (fun j e => (HO.out.lt j e).1)
        have hnew : N + DS.size = 3 + ((list.take (k + 1)).flatten).length := by have := HR.out.2.2.2; have := HR.out.2.2.1; rw [HR.out.1, List.length_append]; omega
        have hrow : w5.ownsRow w0.heap.size 5 1 v5 (N + DS.size) (bvs ((([] ++ enc (wv index) 2) ++ enc (wv (n : Int)) 1) ++ (list.take (k + 1)).flatten)) := by
          rw [HR.out.1]
          simp only [HR.out.2.1, List.nil_append, List.append_assoc] at how5 ⊢
          rw [HR.out.2.2.1]
          exact how5
        have HQ := Lib.hid (And.intro hv5 (And.intro hnew (And.intro hrow hb5)))
        clear how5 hg5 hv5 hb5 hnew hrow
        go_wp2
        go_roundw
        case rel => exact ⟨k + 1, by omega, by go_num, v5, N + DS.size, rfl, HQ.out.1, HQ.out.2.1, HQ.out.2.2.1, HQ.out.2.2.2⟩
        case measure => simp [intOf]; omega
      · obtain rfl : k = n := by omega
        have hl1 := HL.out k
        obtain ⟨a5, c5, rfl, hrd5, _⟩ := owns_shape hown (by omega)
        have hend := HRES.out _ _ _ _ _ hB hrd5 (by
          have e1 : list.take k = list := List.take_of_length_le (by have := HLN.out; omega)
          rw [e1]
          unfold bodyP
          have e2 : wv (k : Int) = list.length := by rw [HLN.out]; exact wv_nat (by omega)
          simp [List.append_assoc, e2])
        have HEND := Lib.hid hend
        clear hown hrd5 hB hend
        go_wp2
        go_ret
        exact HEND.out
  have hbz : bodyP ⟨kind, sess, ep, seq, vol, fn, ff, index, code, data, list⟩ = [] := by
    unfold bodyP
    simp only
    rw [if_neg k1, if_neg k2, if_neg (by omega), if_neg k4, if_neg k6]
  have HBZ := Lib.hid hbz
  have e1 : (kind == 1) = false := by simpa using k1
  have e2 : (kind == 2) = false := by simpa using k2
  have e3 : (kind == 3) = false := by simpa using k3
  have e4 : (kind == 4) = false := by simpa using k4
  have e5 : (kind == 5) = false := by simpa using k5
  have e6 : (kind == 6) = false := by simpa using k6
  clear hbz k1 k2 k3 k4 k5 k6 hwc
  go_enter Try.func14, Try.ntmps14
  go_upto_region 2 with fail
  rw [← HC.out, ← HW0.out]
  go_wp2
  go_ret
  exact HRES.out none 0 0 w0 [] (Below.refl _ _) (rd_nil _) HBZ.out
end Go.Proofs.Ytipegdfjpmlcbaa


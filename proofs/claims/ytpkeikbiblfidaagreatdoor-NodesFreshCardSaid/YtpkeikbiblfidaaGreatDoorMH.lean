/-
  Texts put together: H0, H1, H2, H3, H4, H5.
-/
import Derived.Test.YtpkeikbiblfidaaGreatDoorME2
import Derived.Test.YtpkeikbiblfidaaGreatDoorMR4
import Derived.Test.YtpkeikbiblfidaaGreatDoorMG3
import Derived.Test.YtpkeikbiblfidaaGreatDoorMA3
/-
  Get and Put of a node: the program's.
-/
namespace Go.Proofs.YtpkeikbiblfidaaGreatDoor
open Go.RowKit
set_option linter.unusedVariables false
set_option linter.unusedSimpArgs false

/-- What Get tells of a node. -/
def getB (node : Int) (o : List UInt8 × Nat) : List UInt8 × Int := if o.2 ≠ 0 then ([], (o.2 : Int)) else if (o.1.drop 2).length = 32 ∧ (numN (o.1.take 2) : Int) = node then (o.1.drop 2, 0) else ([], 6)
def getP (N F C U : Int) (S : DS) (node : Int) : List UInt8 × Int :=
  if nodeAt N F C U node < 0 then ([], 3) else if (S.read (nodeAt N F C U node)).2 ≠ 0 then ([], (S.read (nodeAt N F C U node)).2) else getB node (openP 6 (S.read (nodeAt N F C U node)).1.data.toList)

theorem node_has {N F C U node : Int} (h : ¬ nodeAt N F C U node < 0) : okG N F C U ∧ 0 ≤ node ∧ node < nodes N F C U ∧ nodeAt N F C U node = 6 + N + node := by
  unfold nodeAt at h ⊢
  by_cases hc : okG N F C U ∧ 0 ≤ node ∧ node < nodes N F C U
  · rw [if_pos hc]; exact ⟨hc.1, hc.2.1, hc.2.2, rfl⟩
  · rw [if_neg hc] at h; omega

set_option maxRecDepth 20000 in
theorem hright_any (s : ByteArray) (w : World) (hl : s.size ≤ 9223372036854775807) :
    Calls Tryz.prog 96 #[.string s] w fun e w' => e = .returned (.bool (decide (s.size = 32))) ∧ w' = w := by
  go_enter Tryz.func96, Tryz.ntmps96
  go_wp2
  go_ret
  refine ⟨?_, rfl⟩
  by_cases h : s.size = 32 <;> simp [h] <;> omega

set_option maxRecDepth 20000 in
set_option maxHeartbeats 400000 in
theorem hleft_any (p : Nat) (ys : List UInt8) (e : Int) (w : World) (h : RW w p ys e) :
    Calls Tryz.prog 95 #[.pointer (some ⟨p, 0, none⟩)] w fun r w' => r = .returned (.int .i64 (ys.length : Int)) ∧ w = w' := by
  obtain ⟨a, n, cap, hb, hr, hl⟩ := h.blk
  have hc : w.cell? ⟨p, 0, none⟩ = some (.slice a n cap) := cell_of_blk hb 0
  clear hb
  go_enter Tryz.func95, Tryz.ntmps95
  go_wp2
  go_ret
  exact ⟨by rw [hr.len]; rfl, rfl⟩

theorem rnum_two (ys : List UInt8) : ∃ v e, rnum ys 0 2 = (v, ys.drop 2, e) ∧ (rbytes (ys.drop 2) e ((ys.drop 2).length : Int)).1 = ys.drop 2 ∧ (2 ≤ ys.length → v = numN (ys.take 2)) ∧ v < 18446744073709551616 := by
  unfold rnum
  rw [if_neg (by simp), if_neg (by omega)]
  by_cases h : (ys.length : Int) < 2
  · rw [if_pos h]
    have e0 : ys.drop 2 = [] := List.drop_eq_nil_of_le (by omega)
    refine ⟨0, 7, by rw [e0], ?_, fun h2 => by omega, by omega⟩
    rw [e0]; rfl
  · rw [if_neg h]
    refine ⟨numN (ys.take 2), 0, rfl, ?_, fun _ => rfl, ?_⟩
    · unfold rbytes
      rw [if_neg (by simp), if_neg (by omega), if_neg (by omega)]
      dsimp only
      rw [Int.toNat_natCast, List.take_length]
    · have := numN_lt ys 2 (by omega)
      omega

set_option maxRecDepth 20000 in
set_option maxHeartbeats 4000000 in
theorem nget_any (B p : Nat) (v1 v2 : Value) (S : DS) (N F C U node : Int) (w : World) (h : PD w B p v1 v2 S) (M : Nat) (hok : S.ok M) (hM : M ≤ 1000000) :
    Calls Tryz.prog 43 #[.pointer (some ⟨p, 0, none⟩), geo N F C U, .int .i64 node] w fun e w' => e = .returned (.tuple #[strV (getP N F C U S node).1, .int .i64 (getP N F C U S node).2]) ∧ Below w.heap.size w w' := by
  have hn := fun w => node_any N F C U node w
  obtain ⟨W, hW⟩ : ∃ W, W = w.alloc (.cells #[.int .i64 N, .int .i64 F, .int .i64 C, .int .i64 U] 23) := ⟨_, rfl⟩
  have hb0 : Below w.heap.size w W := by rw [hW]; exact (Below.refl _ w).alloc (Nat.le_refl _) _
  have HB0 := Lib.hid hb0
  have HW := Lib.hid hW
  have HP := Lib.hid (h.below hb0)
  have hWl : S.W.length ≤ 1000000 := by have := hok.few; have := hok.did; omega
  have hLl : S.L.length ≤ 1000000 := by have := hok.len; omega
  obtain ⟨R, hR⟩ : ∃ R, R = getP N F C U S node := ⟨_, rfl⟩
  rw [← hR]
  unfold getP at hR
  obtain ⟨at', hat⟩ : ∃ a, a = nodeAt N F C U node := ⟨_, rfl⟩
  have hhas := @node_has N F C U node
  rw [← hat] at hn hR hhas
  have hrd := fun w' (hb : Below W.heap.size W w') => read_any B p v1 v2 S at' w' (HP.out.below hb) hWl hLl
  obtain ⟨d, q, hdq⟩ : ∃ d q, S.read at' = (d, q) := ⟨_, _, rfl⟩
  rw [hdq] at hR
  simp only [hdq] at hrd
  unfold two at hrd
  dsimp only at hR hrd
  have ho := fun w => open_any 6 d.data.toList w
  rw [show strV d.data.toList = Value.string d from by cases d; simp [strV]] at ho
  unfold geo at hn ⊢
  have HN := Lib.hid hn
  have HRD := Lib.hid hrd
  have HR := Lib.hid hR
  have HH := Lib.hid hhas
  clear hb0 hW hn hrd hR hat h hok hhas
  by_cases hneg : at' < 0
  · have hr := HR.out.trans (if_pos hneg)
    subst hr
    go_enter Tryz.func43, Tryz.ntmps43
    go_wp2_with fail
    rw [← HW.out]
    refine (HN.out _).mono ?_
    rintro e w1 ⟨rfl, hb⟩
    have HFIN := Lib.hid (HB0.out.trans (hb.mono HB0.out.size))
    clear hb ho
    go_wp2
    refine bodyPost_ret (results_tmp2 rfl _ _ _) rfl ?_
    exact ⟨rfl, HFIN.out⟩
  obtain ⟨ys, why, hoq⟩ : ∃ ys q, openP 6 d.data.toList = (ys, q) := ⟨_, _, rfl⟩
  rw [hoq] at ho
  have hR2 := HR.out
  rw [if_neg hneg, hoq] at hR2
  have HR2 := Lib.hid hR2
  unfold tupV at ho
  dsimp only at ho
  have hyl : why = 0 → ys.length ≤ 58 := fun e => by subst e; exact (make_kind (open_make hoq)).2.2.2
  have HY := Lib.hid hyl
  obtain ⟨V, hV⟩ : ∃ V, V = strV ys := ⟨_, rfl⟩
  rw [← hV] at ho
  have HV := Lib.hid hV
  have HO := Lib.hid ho
  clear ho hoq hR2 hyl hV HR
  go_enter Tryz.func43, Tryz.ntmps43
  go_wp2_with fail
  rw [← HW.out]
  refine (HN.out _).mono ?_
  rintro e w1 ⟨rfl, hb1⟩
  have h2 := HRD.out w1 hb1
  have H2 := Lib.hid h2
  have HB1 := Lib.hid (HB0.out.trans (hb1.mono HB0.out.size))
  clear hb1 h2
  go_wp2_with fail
  refine H2.out.mono ?_
  rintro e w2 ⟨rfl, hb2⟩
  have HB2 := Lib.hid (HB1.out.trans (hb2.mono HB1.out.size))
  clear hb2 H2
  by_cases hq : q = 0
  · subst hq
    have hr := HR2.out.trans (if_neg (by simp))
    have HR3 := Lib.hid hr
    clear hr HR2
    go_wp2_with fail
    refine (HO.out _).mono ?_
    rintro e w3 ⟨rfl, hb3⟩
    have HB3 := Lib.hid (HB2.out.trans (hb3.mono HB2.out.size))
    clear hb3 HO
    by_cases hw : why = 0
    · subst hw
      have hyl := HY.out rfl
      unfold getB at HR3
      obtain ⟨v, e2, hrn, hrb, hv, hvl⟩ := rnum_two ys
      obtain ⟨kk, w4, hcv, hrd4, hb4⟩ := cv_str ys (by omega) w3
      rw [← HV.out] at hcv
      have hnw := new_any _ _ _ _ w4 hrd4
      have HNW := Lib.hid hnw
      have HB4 := Lib.hid (HB3.out.trans (hb4.mono HB3.out.size))
      have HRN := Lib.hid (And.intro hrn (And.intro hrb (And.intro hv hvl)))
      have HYL := Lib.hid hyl
      obtain ⟨m, hm⟩ : ∃ m, m = ys.length := ⟨_, rfl⟩
      rw [← hm] at hcv HNW
      clear hrd4 hb4 hnw hrn hrb hv hvl hyl hm
      go_wp2_with fail
      refine HNW.out.mono ?_
      rintro e w5 ⟨p', rfl, hp', hrw, hb5⟩
      have hnm := num_any p' ys 0 2 w5 hrw
      rw [HRN.out.1] at hnm
      dsimp only at hnm
      have HNM := Lib.hid hnm
      have HB5 := Lib.hid (HB4.out.trans (hb5.mono HB4.out.size))
      have HPL := Lib.hid (show w.heap.size ≤ p' from Nat.le_trans HB4.out.size hp')
      clear hnm hrw hb5 hcv HNW hp'
      go_wp2_with fail
      refine HNM.out.mono ?_
      rintro e w6 ⟨rfl, hrw, hg⟩
      have hlf := hleft_any p' (ys.drop 2) e2 w6 hrw
      have hby := bytes_any p' (ys.drop 2) e2 ((ys.drop 2).length : Int) w6 hrw
      rw [HRN.out.2.1] at hby
      have HLF := Lib.hid hlf
      have HBY := Lib.hid hby
      have HB6 := Lib.hid (HB5.out.grown hg HB5.out.size (fun k e => by cases e; exact HPL.out))
      obtain ⟨rs, hrs⟩ : ∃ rs, rs = ys.drop 2 := ⟨_, rfl⟩
      have hrl : rs.length ≤ 58 := by rw [hrs]; have := HYL.out; simp; omega
      have HRS := Lib.hid hrs
      rw [← hrs] at HLF HBY
      obtain ⟨rl, hrl2⟩ : ∃ n : Int, n = (rs.length : Int) := ⟨_, rfl⟩
      rw [← hrl2] at HLF HBY
      have HRLN := Lib.hid hrl
      clear hlf hby hrw hg HNM hrs hrl hrl2
      go_wp2_with fail
      refine HLF.out.mono ?_
      rintro e w7 ⟨rfl, rfl⟩
      go_wp2_with fail
      refine HBY.out.mono ?_
      rintro e w8 ⟨ba, bn, bc, rfl, hrd8, _, hrw, hg⟩
      obtain ⟨VR, hVR⟩ : ∃ V : ByteArray, V = ⟨rs.toArray⟩ := ⟨_, rfl⟩
      have hcs : (convert 128 9 (.slice ba bn bc)).run Tryz.prog w8 = .ok (.string VR) w8 := by rw [hVR]; exact run_string_rd hrd8
      have hVs : VR.size = rs.length := by rw [hVR]; exact List.size_toArray
      have HB8 := Lib.hid (HB6.out.grown hg HB6.out.size (fun k e => by cases e; exact HPL.out))
      have hgt := fun w => hright_any VR w (by have := HRLN.out; omega)
      have hstr : strV rs = .string VR := by rw [hVR]; rfl
      obtain ⟨nd, hnd⟩ : ∃ nd : Nat, node = (nd : Int) := ⟨node.toNat, by have := (HH.out hneg).2.1; omega⟩
      have hnl : (nd : Int) ≤ 100000 := by have := (HH.out hneg).2.2.1; have := nodes_le N F C U; omega
      subst hnd
      have wrn : IntKind.u64.wrap (nd : Int) = (nd : Int) := IntWalk.u64_in _ (by omega)
      obtain ⟨r32, hr32⟩ : ∃ b, b = decide (VR.size = 32) := ⟨_, rfl⟩
      simp only [← hr32] at hgt
      have HGT := Lib.hid hgt
      have HX := Lib.hid (And.intro hr32 (And.intro hVs hstr))
      clear hrd8 hrw hg hVR hVs hgt hstr hr32 hnl HBY HLF
      go_wp2_with fail
      refine (HGT.out _).mono ?_
      rintro e w9 ⟨rfl, rfl⟩
      clear hcs
      cases r32 with
      | false =>
        have hr : R = ([], 6) := by
          rw [HR3.out, if_neg (by simp), if_neg]
          rintro ⟨h1, _⟩
          have h3 := HX.out.1
          have h4 := HX.out.2.1
          rw [← HRS.out] at h1
          simp at h3
          omega
        subst hr
        go_wp2
        refine bodyPost_ret (results_tmp2 rfl _ _ _) rfl ?_
        exact ⟨rfl, HB8.out⟩
      | true =>
        have h32 : rs.length = 32 := by have h3 := HX.out.1; have h4 := HX.out.2.1; simp at h3; omega
        have hrsl : rs.length = ys.length - 2 := by rw [HRS.out]; simp
        have hv2 : v = numN (ys.take 2) := HRN.out.2.2.1 (by omega)
        by_cases hvn : v = nd
        · have c1 : ((v : Int) == (nd : Int)) = true := by simp [hvn]
          have c2 : ((v : Int) != (nd : Int)) = false := by simp [hvn]
          have hr : R = (rs, 0) := by
            rw [HR3.out, if_neg (by simp), if_pos ⟨by rw [← HRS.out]; exact h32, by rw [← hv2, hvn]⟩, ← HRS.out]
          subst hr
          have HSV := Lib.hid (HX.out.2.2)
          clear hvn hv2 h32
          go_wp2
          refine bodyPost_ret (results_tmp2 rfl _ _ _) rfl ?_
          exact ⟨by rw [HSV.out]; rfl, HB8.out⟩
        · have c1 : ((v : Int) == (nd : Int)) = false := by simp; omega
          have c2 : ((v : Int) != (nd : Int)) = true := by simp; omega
          have hr : R = ([], 6) := by
            rw [HR3.out, if_neg (by simp), if_neg]
            rintro ⟨_, h1⟩
            rw [← hv2] at h1
            exact hvn (by omega)
          subst hr
          clear hvn hv2 h32
          go_wp2
          refine bodyPost_ret (results_tmp2 rfl _ _ _) rfl ?_
          exact ⟨rfl, HB8.out⟩
    · have he2 : ((why : Int) == 0) = false := by simp; omega
      have he3 : ((why : Int) != 0) = true := by simp; omega
      have hr : R = ([], (why : Int)) := by rw [HR3.out]; unfold getB; rw [if_pos hw]
      subst hr
      clear hw
      go_wp2
      refine bodyPost_ret (results_tmp2 rfl _ _ _) rfl ?_
      exact ⟨rfl, HB3.out⟩
  · have he2 : (q == 0) = false := by simpa using hq
    have he3 : (q != 0) = true := by simp [hq]
    have hr := HR2.out.trans (if_pos hq)
    subst hr
    clear hq HO
    go_wp2
    refine bodyPost_ret (results_tmp2 rfl _ _ _) rfl ?_
    exact ⟨rfl, HB2.out⟩
end Go.Proofs.YtpkeikbiblfidaaGreatDoor
/-
  Put of a node, the program's; Get and Put, the document's.
-/
namespace Go.Proofs.YtpkeikbiblfidaaGreatDoor
open Go.RowKit
set_option linter.unusedVariables false
set_option linter.unusedSimpArgs false

/-- A node's record. -/
def nodeRec (k : Nat) (hs : ByteArray) : ByteArray := ⟨(recL 6 (enc k 2 ++ hs.data.toList)).toArray⟩
def putNP (N F C U : Int) (S : DS) (node : Int) (hs : ByteArray) : Int × DS :=
  if nodeAt N F C U node < 0 then (3, S) else if hs.size ≠ 32 then (4, S) else S.write (nodeAt N F C U node) (nodeRec node.toNat hs)

theorem hpp_trans {w w1 w2 : World} {B p : Nat} {v1 v2 : Value} {S1 S2 : DS} (h : PP w B p v1 v2 S1 w1) (k : ∀ a b, PD w1 B p a b S1 → PP w1 B p a b S2 w2) : PP w B p v1 v2 S2 w2 := by
  obtain ⟨a, b, hp, hf, ht⟩ := h
  obtain ⟨c, d, hp2, hf2, ht2⟩ := k a b hp
  exact ⟨c, d, hp2, hf.trans hf2 fun i hi => ht i hi, fun i hi => by
    rcases ht2 i hi with h | h
    · exact ht i h
    · exact .inr (Nat.le_trans hf.size h)⟩
theorem hpp_below {w w1 w2 : World} {B p : Nat} {v1 v2 : Value} {S : DS} (hb : Below w.heap.size w w1) (h : PP w1 B p v1 v2 S w2) : PP w B p v1 v2 S w2 := by
  obtain ⟨a, b, hp, hf, ht⟩ := h
  exact ⟨a, b, hp, ⟨hf.os.trans hb.os, hf.tape.trans hb.tape, hf.output.trans hb.output, Nat.le_trans hb.size hf.size, fun k hk hn => (hf.block k (Nat.lt_of_lt_of_le hk hb.size) hn).trans (hb.block k hk)⟩, fun k hk => (ht k hk).elim .inl (fun h => .inr (Nat.le_trans hb.size h))⟩
theorem hpp_after {w w1 : World} {B p : Nat} {v1 v2 : Value} {S : DS} (h : PD w B p v1 v2 S) (hb : Below w.heap.size w w1) : PP w B p v1 v2 S w1 := hpp_below hb (PP.same (h.below hb))

set_option maxRecDepth 20000 in
set_option maxHeartbeats 4000000 in
theorem nput_any (B p : Nat) (v1 v2 : Value) (S : DS) (N F C U node : Int) (hs : ByteArray) (w : World) (h : PD w B p v1 v2 S) (hB : B ≤ w.heap.size) (M : Nat) (hok : S.ok M) (hM : M + 1 ≤ 1000000) (hl : hs.size ≤ 9223372036854775807) :
    Calls Tryz.prog 48 #[.pointer (some ⟨p, 0, none⟩), geo N F C U, .int .i64 node, .string hs] w fun e w' => e = .returned (.int .i64 (putNP N F C U S node hs).1) ∧ PP w B p v1 v2 (putNP N F C U S node hs).2 w' := by
  have hn := fun w => node_any N F C U node w
  obtain ⟨W, hW⟩ : ∃ W, W = w.alloc (.cells #[.int .i64 N, .int .i64 F, .int .i64 C, .int .i64 U] 23) := ⟨_, rfl⟩
  have hb0 : Below w.heap.size w W := by rw [hW]; exact (Below.refl _ w).alloc (Nat.le_refl _) _
  have HB0 := Lib.hid hb0
  have HW := Lib.hid hW
  have HP := Lib.hid h
  have HOK := Lib.hid hok
  obtain ⟨R, hR⟩ : ∃ R, R = putNP N F C U S node hs := ⟨_, rfl⟩
  rw [← hR]
  unfold putNP at hR
  obtain ⟨at', hat⟩ : ∃ a, a = nodeAt N F C U node := ⟨_, rfl⟩
  have hhas := @node_has N F C U node
  rw [← hat] at hn hR hhas
  unfold geo at hn ⊢
  have HN := Lib.hid hn
  have HR := Lib.hid hR
  have HH := Lib.hid hhas
  have hgt := fun w => hright_any hs w hl
  obtain ⟨r32, hr32⟩ : ∃ b, b = decide (hs.size = 32) := ⟨_, rfl⟩
  simp only [← hr32] at hgt
  have HGT := Lib.hid hgt
  have H32 := Lib.hid hr32
  clear hb0 hW hn hR hat h hok hhas hgt hr32
  by_cases hneg : at' < 0
  · have hr := HR.out.trans (if_pos hneg)
    subst hr
    go_enter Tryz.func48, Tryz.ntmps48
    go_wp2_with fail
    rw [← HW.out]
    refine (HN.out _).mono ?_
    rintro e w1 ⟨rfl, hb⟩
    have HFIN := Lib.hid (HB0.out.trans (hb.mono HB0.out.size))
    clear hb
    go_wp2
    go_ret
    exact ⟨rfl, hpp_after HP.out HFIN.out⟩
  have hr := HR.out.trans (if_neg hneg)
  have HR2 := Lib.hid hr
  clear hr HR
  go_enter Tryz.func48, Tryz.ntmps48
  go_wp2_with fail
  rw [← HW.out]
  refine (HN.out _).mono ?_
  rintro e w1 ⟨rfl, hb1⟩
  have HB1 := Lib.hid (HB0.out.trans (hb1.mono HB0.out.size))
  clear hb1
  cases r32 with
  | false =>
    have hr := HR2.out.trans (if_pos (by have := H32.out; simpa using this))
    subst hr
    go_wp2_with fail
    refine (HGT.out _).mono ?_
    rintro e w2 ⟨rfl, rfl⟩
    go_wp2
    go_ret
    exact ⟨rfl, hpp_after HP.out HB1.out⟩
  | true =>
    have h32 : hs.size = 32 := by have := H32.out; simpa using this
    have hr := HR2.out.trans (if_neg (by simpa using h32))
    have HR3 := Lib.hid hr
    obtain ⟨nd, hnd⟩ : ∃ nd : Nat, node = (nd : Int) := ⟨node.toNat, by have := (HH.out hneg).2.1; omega⟩
    have hnl : (nd : Int) ≤ 100000 := by have := (HH.out hneg).2.2.1; have := nodes_le N F C U; omega
    subst hnd
    rw [Int.toNat_natCast] at HR3
    have wrn : IntKind.u64.wrap (nd : Int) = (nd : Int) := IntWalk.u64_in _ (by omega)
    have hpt := fun w => put_ok none 0 0 [] 2 nd w (rd_nil w) (by omega) (by omega) (by omega) (by omega)
    simp only [Nat.zero_add, List.nil_append, show ((2 : Nat) : Int) = 2 from rfl] at hpt
    have hel : (enc nd 2).length = 2 := enc_length nd 2
    have hll : hs.data.toList.length = 32 := h32
    have had := fun w => add_texts (enc nd 2) hs.data.toList (by omega) w
    rw [show strV hs.data.toList = Value.string hs from by cases hs; simp [strV]] at had
    obtain ⟨BD, hBD⟩ : ∃ BD : ByteArray, BD = ⟨(enc nd 2 ++ hs.data.toList).toArray⟩ := ⟨_, rfl⟩
    have hbs : BD.size = 34 := by rw [hBD]; show (List.toArray _).size = 34; rw [List.size_toArray, List.length_append, hel, hll]
    have hmk := fun w => make_any 6 BD w (by omega)
    have hmp : makeP 6 BD.data.toList = (recL 6 (enc nd 2 ++ hs.data.toList), 0) := by
      rw [hBD]
      unfold makeP
      rw [if_neg (by omega), if_neg (by simp; omega)]
      simp
    rw [hmp] at hmk
    unfold tupV at hmk
    dsimp only at hmk
    rw [show strV (recL 6 (enc nd 2 ++ hs.data.toList)) = Value.string (nodeRec nd hs) from rfl] at hmk
    rw [show strV (enc nd 2 ++ hs.data.toList) = Value.string BD from by rw [hBD]; rfl] at had
    obtain ⟨NR, hNR⟩ : ∃ NR, NR = nodeRec nd hs := ⟨_, rfl⟩
    rw [← hNR] at hmk HR3
    obtain ⟨VE, hVE⟩ : ∃ V, V = strV (enc nd 2) := ⟨_, rfl⟩
    rw [← hVE] at had
    have HVE := Lib.hid hVE
    have HPT := Lib.hid hpt
    have HMK := Lib.hid hmk
    have hwr := fun w' (hb : Below w.heap.size w w') => write_any B p v1 v2 S at' NR w' (HP.out.below hb) (Nat.le_trans hB hb.size) M HOK.out (by omega)
    obtain ⟨E, T, hET⟩ : ∃ E T, S.write at' NR = (E, T) := ⟨_, _, rfl⟩
    rw [hET] at HR3
    simp only [hET] at hwr
    have HWR := Lib.hid hwr
    have hr2 := HR3.out
    subst hr2
    clear hr hnl hpt hel hll hBD hbs hmk hmp hNR hVE hwr hET HR2 HR3 h32
    go_wp2_with fail
    refine (HGT.out _).mono ?_
    rintro e w2 ⟨rfl, rfl⟩
    go_wp2_with fail
    refine (HPT.out _).mono ?_
    rintro e w3 ⟨g, c, rfl, _, hrd, hb3⟩
    have hcv := run_string_rd hrd
    rw [show Value.string ⟨(enc nd 2).toArray⟩ = VE from HVE.out.symm] at hcv
    have HB3 := Lib.hid (HB1.out.trans (hb3.mono HB1.out.size))
    clear hrd hb3 HPT HGT
    go_wp2_with fail
    refine (HMK.out _).mono ?_
    rintro e w4 ⟨rfl, hb4⟩
    have HB4 := Lib.hid (HB3.out.trans (hb4.mono HB3.out.size))
    have hw4 := HWR.out _ HB4.out
    have HW4 := Lib.hid hw4
    clear hb4 hcv hw4 HMK
    go_wp2_with fail
    refine HW4.out.mono ?_
    rintro e w5 ⟨rfl, hpp⟩
    have HPP := Lib.hid (hpp_below HB4.out hpp)
    clear hpp
    go_wp2
    go_ret
    exact ⟨rfl, HPP.out⟩
end Go.Proofs.YtpkeikbiblfidaaGreatDoor
/-
  Put of a node, the document's.
-/
namespace Go.Proofs.YtpkeikbiblfidaaGreatDoor
open Go.RowKit
set_option linter.unusedVariables false
set_option linter.unusedSimpArgs false

theorem hrp_below {w w1 w2 : World} {B p : Nat} {v1 v2 : Value} {S : DS} (hb : Below w.heap.size w w1) (h : RP w1 B p v1 v2 S w2) : RP w B p v1 v2 S w2 := by
  obtain ⟨a, b, hp, hf, ht⟩ := h
  exact ⟨a, b, hp, ⟨hf.os.trans hb.os, hf.tape.trans hb.tape, hf.output.trans hb.output, Nat.le_trans hb.size hf.size, fun k hk hn => (hf.block k (Nat.lt_of_lt_of_le hk hb.size) hn).trans (hb.block k hk)⟩, fun k hk => (ht k hk).elim .inl (fun h => .inr (Nat.le_trans hb.size h))⟩
theorem hrp_after {w w1 : World} {B p : Nat} {v1 v2 : Value} {S : DS} (h : RD w B p v1 v2 S) (hb : Below w.heap.size w w1) : RP w B p v1 v2 S w1 := hrp_below hb (RP.same (h.below hb))
set_option maxRecDepth 20000 in
theorem hrright_any (s : ByteArray) (w : World) (hl : s.size ≤ 9223372036854775807) :
    Calls Tryz.prog 105 #[.string s] w fun e w' => e = .returned (.bool (decide (s.size = 32))) ∧ w' = w := by
  go_enter Tryz.func105, Tryz.ntmps105
  go_wp2
  go_ret
  refine ⟨?_, rfl⟩
  by_cases h : s.size = 32 <;> simp [h] <;> omega

set_option maxRecDepth 20000 in
set_option maxHeartbeats 4000000 in
theorem rnput_any (B p : Nat) (v1 v2 : Value) (S : DS) (N F C U node : Int) (hs : ByteArray) (w : World) (h : RD w B p v1 v2 S) (hB : B ≤ w.heap.size) (M : Nat) (hok : S.ok M) (hM : M + 1 ≤ 1000000) (hl : hs.size ≤ 9223372036854775807) :
    Calls Tryz.prog 49 #[.pointer (some ⟨p, 0, none⟩), geo N F C U, .int .i64 node, .string hs] w fun e w' => e = .returned (.int .i64 (putNP N F C U S node hs).1) ∧ RP w B p v1 v2 (putNP N F C U S node hs).2 w' := by
  have hn := fun w => rnode_any N F C U node w
  obtain ⟨W, hW⟩ : ∃ W, W = w.alloc (.cells #[.int .i64 N, .int .i64 F, .int .i64 C, .int .i64 U] 23) := ⟨_, rfl⟩
  have hb0 : Below w.heap.size w W := by rw [hW]; exact (Below.refl _ w).alloc (Nat.le_refl _) _
  have HB0 := Lib.hid hb0
  have HW := Lib.hid hW
  have HP := Lib.hid h
  have HOK := Lib.hid hok
  obtain ⟨R, hR⟩ : ∃ R, R = putNP N F C U S node hs := ⟨_, rfl⟩
  rw [← hR]
  unfold putNP at hR
  obtain ⟨at', hat⟩ : ∃ a, a = nodeAt N F C U node := ⟨_, rfl⟩
  have hhas := @node_has N F C U node
  rw [← hat] at hn hR hhas
  unfold geo at hn ⊢
  have HN := Lib.hid hn
  have HR := Lib.hid hR
  have HH := Lib.hid hhas
  have hgt := fun w => hrright_any hs w hl
  obtain ⟨r32, hr32⟩ : ∃ b, b = decide (hs.size = 32) := ⟨_, rfl⟩
  simp only [← hr32] at hgt
  have HGT := Lib.hid hgt
  have H32 := Lib.hid hr32
  clear hb0 hW hn hR hat h hok hhas hgt hr32
  by_cases hneg : at' < 0
  · have hr := HR.out.trans (if_pos hneg)
    subst hr
    go_enter Tryz.func49, Tryz.ntmps49
    go_wp2_with fail
    rw [← HW.out]
    refine (HN.out _).mono ?_
    rintro e w1 ⟨rfl, hb⟩
    have HFIN := Lib.hid (HB0.out.trans (hb.mono HB0.out.size))
    clear hb
    go_wp2
    go_ret
    exact ⟨rfl, hrp_after HP.out HFIN.out⟩
  have hr := HR.out.trans (if_neg hneg)
  have HR2 := Lib.hid hr
  clear hr HR
  go_enter Tryz.func49, Tryz.ntmps49
  go_wp2_with fail
  rw [← HW.out]
  refine (HN.out _).mono ?_
  rintro e w1 ⟨rfl, hb1⟩
  have HB1 := Lib.hid (HB0.out.trans (hb1.mono HB0.out.size))
  clear hb1
  cases r32 with
  | false =>
    have hr := HR2.out.trans (if_pos (by have := H32.out; simpa using this))
    subst hr
    go_wp2_with fail
    refine (HGT.out _).mono ?_
    rintro e w2 ⟨rfl, rfl⟩
    go_wp2
    go_ret
    exact ⟨rfl, hrp_after HP.out HB1.out⟩
  | true =>
    have h32 : hs.size = 32 := by have := H32.out; simpa using this
    have hr := HR2.out.trans (if_neg (by simpa using h32))
    have HR3 := Lib.hid hr
    obtain ⟨nd, hnd⟩ : ∃ nd : Nat, node = (nd : Int) := ⟨node.toNat, by have := (HH.out hneg).2.1; omega⟩
    have hnl : (nd : Int) ≤ 100000 := by have := (HH.out hneg).2.2.1; have := nodes_le N F C U; omega
    subst hnd
    rw [Int.toNat_natCast] at HR3
    have wrn : IntKind.u64.wrap (nd : Int) = (nd : Int) := IntWalk.u64_in _ (by omega)
    have hpt := fun w => text_any 2 nd w (by omega) (by omega) (by omega)
    rw [show ((2 : Nat) : Int) = 2 from rfl] at hpt
    have hel : (enc nd 2).length = 2 := enc_length nd 2
    have hll : hs.data.toList.length = 32 := h32
    have had := fun w => add_texts (enc nd 2) hs.data.toList (by omega) w
    rw [show strV hs.data.toList = Value.string hs from by cases hs; simp [strV]] at had
    obtain ⟨BD, hBD⟩ : ∃ BD : ByteArray, BD = ⟨(enc nd 2 ++ hs.data.toList).toArray⟩ := ⟨_, rfl⟩
    have hbs : BD.size = 34 := by rw [hBD]; show (List.toArray _).size = 34; rw [List.size_toArray, List.length_append, hel, hll]
    have hmk := fun w => rmake_any 6 BD w (by omega)
    have hmp : makeP 6 BD.data.toList = (recL 6 (enc nd 2 ++ hs.data.toList), 0) := by
      rw [hBD]
      unfold makeP
      rw [if_neg (by omega), if_neg (by simp; omega)]
      simp
    rw [hmp] at hmk
    unfold tupV at hmk
    dsimp only at hmk
    rw [show strV (recL 6 (enc nd 2 ++ hs.data.toList)) = Value.string (nodeRec nd hs) from rfl] at hmk
    rw [show strV (enc nd 2 ++ hs.data.toList) = Value.string BD from by rw [hBD]; rfl] at had
    obtain ⟨NR, hNR⟩ : ∃ NR, NR = nodeRec nd hs := ⟨_, rfl⟩
    rw [← hNR] at hmk HR3
    obtain ⟨VE, hVE⟩ : ∃ V, V = strV (enc nd 2) := ⟨_, rfl⟩
    rw [← hVE] at had hpt
    have HVE := Lib.hid hVE
    have HPT := Lib.hid hpt
    have HMK := Lib.hid hmk
    have hwr := fun w' (hb : Below w.heap.size w w') => rwrite_any B p v1 v2 S at' NR w' (HP.out.below hb) (Nat.le_trans hB hb.size) M HOK.out (by omega)
    obtain ⟨E, T, hET⟩ : ∃ E T, S.write at' NR = (E, T) := ⟨_, _, rfl⟩
    rw [hET] at HR3
    simp only [hET] at hwr
    have HWR := Lib.hid hwr
    have hr2 := HR3.out
    subst hr2
    clear hr hnl hpt hel hll hBD hbs hmk hmp hNR hVE hwr hET HR2 HR3 h32
    go_wp2_with fail
    refine (HGT.out _).mono ?_
    rintro e w2 ⟨rfl, rfl⟩
    go_wp2_with fail
    refine (HPT.out _).mono ?_
    rintro e w3 ⟨rfl, hb3⟩
    have HB3 := Lib.hid (HB1.out.trans (hb3.mono HB1.out.size))
    clear hb3 HPT HGT
    go_wp2_with fail
    refine (HMK.out _).mono ?_
    rintro e w4 ⟨rfl, hb4⟩
    have HB4 := Lib.hid (HB3.out.trans (hb4.mono HB3.out.size))
    have hw4 := HWR.out _ HB4.out
    have HW4 := Lib.hid hw4
    clear hb4 hw4 HMK
    go_wp2_with fail
    refine HW4.out.mono ?_
    rintro e w5 ⟨rfl, hpp⟩
    have HPP := Lib.hid (hrp_below HB4.out hpp)
    clear hpp
    go_wp2
    go_ret
    exact ⟨rfl, HPP.out⟩
end Go.Proofs.YtpkeikbiblfidaaGreatDoor
/-
  Get of a node, the document's.
-/
namespace Go.Proofs.YtpkeikbiblfidaaGreatDoor
open Go.RowKit
set_option linter.unusedVariables false
set_option linter.unusedSimpArgs false

theorem hbyte_step (n x w : Nat) (hx : x < 256) : byteAt (n * 256 + x) (w + 1) = byteAt n w := by
  unfold byteAt
  rw [Nat.pow_succ', ← Nat.div_div_eq_div_mul, show (n * 256 + x) / 256 = n from by omega]
theorem henc_step (n x : Nat) (hx : x < 256) : ∀ w, enc (n * 256 + x) (w + 1) = enc n w ++ [UInt8.ofNat x]
  | 0 => by
    show [UInt8.ofNat ((n * 256 + x) / 256 ^ 0)] = [UInt8.ofNat x]
    rw [Nat.pow_zero, Nat.div_one]
    congr 1
    apply UInt8.toNat_inj.mp
    rw [UInt8.toNat_ofNat', UInt8.toNat_ofNat']
    omega
  | w + 1 => by
    have ih := henc_step n x hx w
    show byteAt (n * 256 + x) (w + 1) :: enc (n * 256 + x) (w + 1) = (byteAt n w :: enc n w) ++ [UInt8.ofNat x]
    rw [hbyte_step n x w hx, ih]; rfl
theorem henc_of : ∀ (w : Nat) (xs : List UInt8), xs.length = w → enc (numN xs) w = xs
  | 0, xs, h => by rw [List.eq_nil_of_length_eq_zero h]; rfl
  | w + 1, xs, h => by
    have hne : xs ≠ [] := fun e => by rw [e] at h; cases h
    have e := List.dropLast_concat_getLast hne
    have hl : xs.dropLast.length = w := by rw [List.length_dropLast]; omega
    have ih := henc_of w xs.dropLast hl
    rw [← e, numN_snoc, henc_step _ _ (UInt8.toNat_lt _), ih]
    simp

set_option maxRecDepth 20000 in
set_option maxHeartbeats 4000000 in
theorem rnget_any (B p : Nat) (v1 v2 : Value) (S : DS) (N F C U node : Int) (w : World) (h : RD w B p v1 v2 S) (M : Nat) (hok : S.ok M) (hM : M ≤ 1000000) :
    Calls Tryz.prog 47 #[.pointer (some ⟨p, 0, none⟩), geo N F C U, .int .i64 node] w fun e w' => e = .returned (.tuple #[strV (getP N F C U S node).1, .int .i64 (getP N F C U S node).2]) ∧ Below w.heap.size w w' := by
  have hn := fun w => rnode_any N F C U node w
  obtain ⟨W, hW⟩ : ∃ W, W = w.alloc (.cells #[.int .i64 N, .int .i64 F, .int .i64 C, .int .i64 U] 23) := ⟨_, rfl⟩
  have hb0 : Below w.heap.size w W := by rw [hW]; exact (Below.refl _ w).alloc (Nat.le_refl _) _
  have HB0 := Lib.hid hb0
  have HW := Lib.hid hW
  have HP := Lib.hid (h.below hb0)
  have hWl : S.W.length ≤ 1000000 := by have := hok.few; have := hok.did; omega
  have hLl : (S.L.length : Int) ≤ 1200 := by have := hok.len; omega
  obtain ⟨R, hR⟩ : ∃ R, R = getP N F C U S node := ⟨_, rfl⟩
  rw [← hR]
  unfold getP at hR
  obtain ⟨at', hat⟩ : ∃ a, a = nodeAt N F C U node := ⟨_, rfl⟩
  have hhas := @node_has N F C U node
  rw [← hat] at hn hR hhas
  have hrd := fun w' (hb : Below W.heap.size W w') => rread_any B p v1 v2 S at' w' (HP.out.below hb) hWl hLl
  obtain ⟨d, q, hdq⟩ : ∃ d q, S.read at' = (d, q) := ⟨_, _, rfl⟩
  rw [hdq] at hR
  simp only [hdq] at hrd
  unfold two at hrd
  dsimp only at hR hrd
  have ho := fun w => ropen_any 6 d.data.toList w
  rw [show strV d.data.toList = Value.string d from by cases d; simp [strV]] at ho
  unfold geo at hn ⊢
  have HN := Lib.hid hn
  have HRD := Lib.hid hrd
  have HR := Lib.hid hR
  have HH := Lib.hid hhas
  clear hb0 hW hn hrd hR hat h hok hhas
  by_cases hneg : at' < 0
  · have hr := HR.out.trans (if_pos hneg)
    subst hr
    go_enter Tryz.func47, Tryz.ntmps47
    go_wp2_with fail
    rw [← HW.out]
    refine (HN.out _).mono ?_
    rintro e w1 ⟨rfl, hb⟩
    have HFIN := Lib.hid (HB0.out.trans (hb.mono HB0.out.size))
    clear hb ho
    go_wp2
    refine bodyPost_ret (results_tmp2 rfl _ _ _) rfl ?_
    exact ⟨rfl, HFIN.out⟩
  obtain ⟨ys, why, hoq⟩ : ∃ ys q, openP 6 d.data.toList = (ys, q) := ⟨_, _, rfl⟩
  rw [hoq] at ho
  have hR2 := HR.out
  rw [if_neg hneg, hoq] at hR2
  have HR2 := Lib.hid hR2
  unfold tupV at ho
  dsimp only at ho
  have hyl : why = 0 → ys.length ≤ 58 := fun e => by subst e; exact (make_kind (open_make hoq)).2.2.2
  have HY := Lib.hid hyl
  obtain ⟨V, hV⟩ : ∃ V, V = strV ys := ⟨_, rfl⟩
  rw [← hV] at ho
  have HV := Lib.hid hV
  have HO := Lib.hid ho
  clear ho hoq hR2 hyl hV HR
  go_enter Tryz.func47, Tryz.ntmps47
  go_wp2_with fail
  rw [← HW.out]
  refine (HN.out _).mono ?_
  rintro e w1 ⟨rfl, hb1⟩
  have h2 := HRD.out w1 hb1
  have H2 := Lib.hid h2
  have HB1 := Lib.hid (HB0.out.trans (hb1.mono HB0.out.size))
  clear hb1 h2
  go_wp2_with fail
  refine H2.out.mono ?_
  rintro e w2 ⟨rfl, rfl⟩
  have HB2 := HB1
  clear H2
  by_cases hq : q = 0
  · subst hq
    have hr := HR2.out.trans (if_neg (by simp))
    have HR3 := Lib.hid hr
    clear hr HR2
    go_wp2_with fail
    refine (HO.out _).mono ?_
    rintro e w3 ⟨rfl, hb3⟩
    have HB3 := Lib.hid (HB2.out.trans (hb3.mono HB2.out.size))
    clear hb3 HO
    by_cases hw : why = 0
    · subst hw
      have hyl := HY.out rfl
      unfold getB at HR3
      obtain ⟨nd, hnd⟩ : ∃ nd : Nat, node = (nd : Int) := ⟨node.toNat, by have := (HH.out hneg).2.1; omega⟩
      have hnl : (nd : Int) ≤ 100000 := by have := (HH.out hneg).2.2.1; have := nodes_le N F C U; omega
      subst hnd
      have hn16 : nd < 65536 := by have := (HH.out hneg).2.2.1; have := nodes_le N F C U; omega
      have wrn : IntKind.u64.wrap (nd : Int) = (nd : Int) := IntWalk.u64_in _ (by omega)
      have te := fun w => text_any 2 nd w (by omega) (by omega) (by omega)
      rw [show ((2 : Nat) : Int) = 2 from rfl] at te
      obtain ⟨VB, hVB⟩ : ∃ V : ByteArray, V = ⟨ys.toArray⟩ := ⟨_, rfl⟩
      have hV2 : V = .string VB := by rw [HV.out, hVB]; rfl
      have hvs : VB.size = ys.length := by rw [hVB]; exact List.size_toArray
      have hx1 : VB.extract 0 2 = ⟨(ys.take 2).toArray⟩ := by rw [hVB, ext_list]; rfl
      have hx2 : VB.extract 2 VB.size = ⟨(ys.drop 2).toArray⟩ := by rw [hvs, hVB, ext_list, List.take_length]
      have hnq := fun w => neq_str (ys.take 2) (enc nd 2) w
      have hng := fun x y w => nguard_str (ys.take 2) (enc nd 2) x y w
      obtain ⟨rq, hrq⟩ : ∃ r, r = (!decide (ys.take 2 = enc nd 2)) := ⟨_, rfl⟩
      rw [← hrq] at hnq
      obtain ⟨VE, hVE⟩ : ∃ V, V = strV (enc nd 2) := ⟨_, rfl⟩
      simp only [← hVE] at hnq hng te
      rw [show strV (ys.take 2) = Value.string (VB.extract 0 2) from by rw [hx1]; rfl] at hnq hng
      have HRQ := Lib.hid hrq
      have TE := Lib.hid te
      have HX2 := Lib.hid (show strV (ys.drop 2) = Value.string (VB.extract 2 VB.size) from by rw [hx2]; rfl)
      have HYL := Lib.hid (And.intro hyl (And.intro hvs hn16))
      subst hV2
      clear te hrq hVE hx1 hx2 hyl hn16 hVB
      by_cases h34 : ys.length = 34
      · have j1 : (VB.size : Int) = 34 := by have := HYL.out.2.1; omega
        have j2 : ((VB.size : Int) != 34) = false := by simp [j1]
        have j3 : (2 : Int) ≤ (VB.size : Int) := by omega
        have j4 : (2 : Nat) ≤ VB.size := by omega
        have H34 := Lib.hid h34
        clear hvs h34
        cases rq with
        | true =>
          have hr : R = ([], 6) := by
            rw [HR3.out, if_neg (by simp), if_neg]
            rintro ⟨_, h1⟩
            dsimp only at h1
            have h2 := HRQ.out
            have h3 : ys.take 2 ≠ enc nd 2 := fun e => by simp [e] at h2
            have h5 : numN (ys.take 2) = nd := by omega
            exact h3 (by rw [← h5]; exact (henc_of 2 (ys.take 2) (by have := H34.out; rw [List.length_take]; omega)).symm)
          subst hr
          go_wp2_with fail
          go_region_held3 (fun _ : World => True) (exact trivial) (first | (go_at_call 102; refine (TE.out _).mono ?_; rintro e w4 ⟨rfl, hb4⟩))
          all_goals (
            rename_i hHeld
            clear hHeld
            have HB4 := Lib.hid (HB3.out.trans (Below.mono (show Below w3.heap.size w3 w4 from ⟨hb4.os, hb4.tape, hb4.output, hb4.size, hb4.block⟩) HB3.out.size))
            clear hb4 hnq hng
            go_wp2
            refine bodyPost_ret (results_tmp2 rfl _ _ _) rfl ?_
            exact ⟨rfl, HB4.out⟩)
        | false =>
          have hr : R = (ys.drop 2, 0) := by
            have h2 := HRQ.out
            have h3 : ys.take 2 = enc nd 2 := by simpa using h2
            rw [HR3.out, if_neg (by simp), if_pos]
            have h4 := H34.out
            refine ⟨by dsimp only; rw [List.length_drop]; omega, ?_⟩
            dsimp only
            rw [h3]
            have h5 := enc_num nd 2
            have h6 := HYL.out.2.2
            have h7 : nd % 256 ^ 2 = nd := Nat.mod_eq_of_lt (by omega)
            omega
          subst hr
          go_wp2_with fail
          go_region_held3 (fun _ : World => True) (exact trivial) (first | (go_at_call 102; refine (TE.out _).mono ?_; rintro e w4 ⟨rfl, hb4⟩))
          all_goals (
            rename_i hHeld
            clear hHeld
            have HB4 := Lib.hid (HB3.out.trans (Below.mono (show Below w3.heap.size w3 w4 from ⟨hb4.os, hb4.tape, hb4.output, hb4.size, hb4.block⟩) HB3.out.size))
            clear hb4 hnq hng
            go_wp2
            refine bodyPost_ret (results_tmp2 rfl _ _ _) rfl ?_
            exact ⟨by rw [HX2.out]; rfl, HB4.out⟩)
      · have j2 : ((VB.size : Int) != 34) = true := by have := HYL.out.2.1; simp; omega
        have j1 : ((VB.size : Int) == 34) = false := by have := HYL.out.2.1; simp; omega
        have hr : R = ([], 6) := by
          rw [HR3.out, if_neg (by simp), if_neg]
          rintro ⟨h1, _⟩
          dsimp only at h1
          rw [List.length_drop] at h1
          omega
        subst hr
        clear hvs h34
        go_wp2_with fail
        refine wp_region_held_drew (S := fun _ => True) (by kernel_rfl) (trivial) (fun hHeld => ?_)
        refine wpAnyH_take (i := 0) (oi := { dst := some 34, op := Op.move (Operand.tmp 11), type := 9, pos := "ref.go:28", after := #[], guard := none }) (v := ?_) rfl (by kernel_rfl) (by kernel_rfl) (by kernel_rfl) (fun _ _ _ h => h) (Or.inl ⟨by rfl, ?_⟩) (by assumption) ?_
        rotate_left
        · (intro w hSw; (try dsimp only at hSw); go_simp <;> with_reducible rfl)
        try simp only [Act.put, List.setIfInBounds_toArray, List.set_cons_zero, List.set_cons_succ]
        refine wpAnyH_take (i := 1) (oi := { dst := some 35, op := Op.call { callee := Callee.builtin Builtin.len, args := #[Operand.tmp 34], argTypes := #[9] }, type := 3, pos := "ref.go:28", after := #[{ on := 0, ground := Ground.data }], guard := none }) (v := ?_) rfl (by kernel_rfl) (by kernel_rfl) (by kernel_rfl) (fun _ _ _ h => h) (Or.inl ⟨by rfl, ?_⟩) (by assumption) ?_
        rotate_left
        · (intro w hSw; (try dsimp only at hSw); go_simp <;> with_reducible rfl)
        try simp only [Act.put, List.setIfInBounds_toArray, List.set_cons_zero, List.set_cons_succ]
        refine wpAnyH_take (i := 2) (oi := { dst := some 36, op := Op.binOp BinOp.neq 3 (Operand.tmp 35) (Operand.const (Value.int IntKind.i64 34)) 3, type := 4, pos := "ref.go:28", after := #[{ on := 1, ground := Ground.data }], guard := none }) (v := ?_) rfl (by kernel_rfl) (by kernel_rfl) (by kernel_rfl) (fun _ _ _ h => h) (Or.inl ⟨by rfl, ?_⟩) (by assumption) ?_
        rotate_left
        · (intro w hSw; (try dsimp only at hSw); go_simp <;> with_reducible rfl)
        try simp only [Act.put, List.setIfInBounds_toArray, List.set_cons_zero, List.set_cons_succ]
        refine wpAnyH_take (i := 3) (oi := { dst := some 37, op := Op.move (Operand.tmp 36), type := 4, pos := "ref.go:28", after := #[{ on := 2, ground := Ground.data }], guard := none }) (v := ?_) rfl (by kernel_rfl) (by kernel_rfl) (by kernel_rfl) (fun _ _ _ h => h) (Or.inl ⟨by rfl, ?_⟩) (by assumption) ?_
        rotate_left
        · (intro w hSw; (try dsimp only at hSw); go_simp <;> with_reducible rfl)
        try simp only [Act.put, List.setIfInBounds_toArray, List.set_cons_zero, List.set_cons_succ]
        refine wpAnyH_take (i := 4) (oi := { dst := some 38, op := Op.move (Operand.tmp 11), type := 9, pos := "ref.go:28", after := #[{ on := 3, ground := Ground.guard }], guard := some (3, false) }) (v := undef) rfl (by kernel_rfl) (by kernel_rfl) (by kernel_rfl) (fun _ _ _ h => h) (Or.inr ⟨by rfl, rfl⟩) (by assumption) ?_
        try simp only [Act.put, List.setIfInBounds_toArray, List.set_cons_zero, List.set_cons_succ]
        refine wpAnyH_take (i := 5) (oi := { dst := some 39, op := Op.slice 9 (Operand.tmp 38) none (some (Operand.const (Value.int IntKind.i64 2))) none, type := 9, pos := "ref.go:28", after := #[{ on := 4, ground := Ground.data }, { on := 3, ground := Ground.guard }], guard := some (3, false) }) (v := undef) rfl (by kernel_rfl) (by kernel_rfl) (by kernel_rfl) (fun _ _ _ h => h) (Or.inr ⟨by rfl, rfl⟩) (by assumption) ?_
        try simp only [Act.put, List.setIfInBounds_toArray, List.set_cons_zero, List.set_cons_succ]
        refine wpAnyH_take (i := 6) (oi := { dst := some 40, op := Op.move (Operand.tmp 2), type := 3, pos := "ref.go:28", after := #[{ on := 3, ground := Ground.guard }], guard := some (3, false) }) (v := undef) rfl (by kernel_rfl) (by kernel_rfl) (by kernel_rfl) (fun _ _ _ h => h) (Or.inr ⟨by rfl, rfl⟩) (by assumption) ?_
        try simp only [Act.put, List.setIfInBounds_toArray, List.set_cons_zero, List.set_cons_succ]
        refine wpAnyH_take (i := 7) (oi := { dst := some 41, op := Op.convert 3 129 (Operand.tmp 40), type := 129, pos := "ref.go:28", after := #[{ on := 6, ground := Ground.data }, { on := 3, ground := Ground.guard }], guard := some (3, false) }) (v := undef) rfl (by kernel_rfl) (by kernel_rfl) (by kernel_rfl) (fun _ _ _ h => h) (Or.inr ⟨by rfl, rfl⟩) (by assumption) ?_
        try simp only [Act.put, List.setIfInBounds_toArray, List.set_cons_zero, List.set_cons_succ]
        refine wpAnyH_take (i := 8) (oi := { dst := some 42, op := Op.call { callee := Callee.value (Operand.func 102), args := #[Operand.const (Value.int IntKind.i64 2), Operand.tmp 41], argTypes := #[3, 129] }, type := 9, pos := "ref.go:28", after := #[{ on := 7, ground := Ground.data }, { on := 3, ground := Ground.chain }, { on := 3, ground := Ground.guard }], guard := some (3, false) }) (v := undef) rfl (by kernel_rfl) (by kernel_rfl) (by kernel_rfl) (fun _ _ _ h => h) (Or.inr ⟨by rfl, rfl⟩) (by assumption) ?_
        try simp only [Act.put, List.setIfInBounds_toArray, List.set_cons_zero, List.set_cons_succ]
        refine wpAnyH_take (i := 9) (oi := { dst := some 43, op := Op.binOp BinOp.neq 9 (Operand.tmp 39) (Operand.tmp 42) 9, type := 4, pos := "ref.go:28", after := #[{ on := 5, ground := Ground.data }, { on := 8, ground := Ground.data }, { on := 3, ground := Ground.guard }], guard := some (3, false) }) (v := undef) rfl (by kernel_rfl) (by kernel_rfl) (by kernel_rfl) (fun _ _ _ h => h) (Or.inr ⟨by rfl, rfl⟩) (by assumption) ?_
        try simp only [Act.put, List.setIfInBounds_toArray, List.set_cons_zero, List.set_cons_succ]
        refine wpAnyH_take (i := 10) (oi := { dst := some 44, op := Op.pick (Operand.tmp 37) (Operand.const (Value.bool true)) (Operand.tmp 43), type := 4, pos := "ref.go:28", after := #[{ on := 3, ground := Ground.data }, { on := 9, ground := Ground.data }], guard := none }) (v := ?_) rfl (by kernel_rfl) (by kernel_rfl) (by kernel_rfl) (fun _ _ _ h => h) (Or.inl ⟨by rfl, ?_⟩) (by assumption) ?_
        rotate_left
        · (intro w hSw; (try dsimp only at hSw); go_simp <;> with_reducible rfl)
        try simp only [Act.put, List.setIfInBounds_toArray, List.set_cons_zero, List.set_cons_succ]
        refine wpAnyH_done (by kernel_rfl) ?_ _
        clear hHeld hnq hng
        go_wp2
        refine bodyPost_ret (results_tmp2 rfl _ _ _) rfl ?_
        exact ⟨rfl, HB3.out.drew⟩
    · have he2 : ((why : Int) == 0) = false := by simp; omega
      have he3 : ((why : Int) != 0) = true := by simp; omega
      have hr : R = ([], (why : Int)) := by rw [HR3.out]; unfold getB; rw [if_pos hw]
      subst hr
      clear hw
      go_wp2
      refine bodyPost_ret (results_tmp2 rfl _ _ _) rfl ?_
      exact ⟨rfl, HB3.out⟩
  · have he2 : (q == 0) = false := by simpa using hq
    have he3 : (q != 0) = true := by simp [hq]
    have hr := HR2.out.trans (if_pos hq)
    subst hr
    clear hq HO
    go_wp2
    refine bodyPost_ret (results_tmp2 rfl _ _ _) rfl ?_
    exact ⟨rfl, HB2.out⟩
end Go.Proofs.YtpkeikbiblfidaaGreatDoor
/-
  Marks: the nodes above some leaves, step by step.
-/
namespace Go.Proofs.YtpkeikbiblfidaaGreatDoor
open Go.RowKit
set_option linter.unusedVariables false
set_option linter.unusedSimpArgs false

/-- What is marked behind the first i nodes: a node's parent, where the node is. -/
def mkN (pr : Nat → Nat) (m : Nat → Bool) : Nat → Nat → Bool
  | 0 => m
  | i + 1 => fun k => mkN pr m i k || (mkN pr m i i && decide (k = pr i))
theorem mkN_mono {pr : Nat → Nat} {m : Nat → Bool} {k i : Nat} : ∀ {j : Nat}, i ≤ j → mkN pr m i k = true → mkN pr m j k = true
  | 0, h, hk => by obtain rfl : i = 0 := by omega
                   exact hk
  | j + 1, h, hk => by
    rcases Nat.lt_or_ge i (j + 1) with h1 | h1
    · show (mkN pr m j k || _) = true
      rw [mkN_mono (by omega) hk, Bool.true_or]
    · obtain rfl : i = j + 1 := by omega
      exact hk
/-- Each node of a path is marked, once all below it are gone over. -/
theorem mkN_full {pr : Nat → Nat} {m : Nat → Bool} {P : Nat → Nat} {h : Nat} (h0 : m (P 0) = true) (hs : ∀ j, j < h → P (j + 1) = pr (P j) ∧ P j < P (j + 1)) : ∀ j, j ≤ h → ∀ i, (∀ j', j = j' + 1 → P j' < i) → mkN pr m i (P j) = true
  | 0, _, i, _ => mkN_mono (Nat.zero_le i) h0
  | j + 1, hj, i, hi => by
    obtain ⟨e, hlt⟩ := hs j (by omega)
    have hji := hi j rfl
    have ih := mkN_full h0 hs j (by omega) (P j) (fun j' e' => by subst e'; exact (hs j' (by omega)).2)
    refine mkN_mono (i := P j + 1) (by omega) ?_
    show (mkN pr m (P j) (P (j + 1)) || (mkN pr m (P j) (P j) && decide (P (j + 1) = pr (P j)))) = true
    rw [ih, e]; simp
/-- Nothing else is. -/
theorem mkN_sound {pr : Nat → Nat} {m : Nat → Bool} {Q : Nat → Prop} {r : Nat} (h0 : ∀ k, m k = true → Q k) (hs : ∀ k, k < r → Q k → Q (pr k)) : ∀ i, i ≤ r → ∀ k, mkN pr m i k = true → Q k
  | 0, _, k, hk => h0 k hk
  | i + 1, hi, k, hk => by
    have ih := mkN_sound h0 hs i (by omega)
    have hk' : (mkN pr m i k || (mkN pr m i i && decide (k = pr i))) = true := hk
    rw [Bool.or_eq_true, Bool.and_eq_true, decide_eq_true_iff] at hk'
    rcases hk' with h | ⟨h, e⟩
    · exact ih k h
    · rw [e]; exact hs i (by omega) (ih i h)
/-- An array of 256 truths, by value. -/
def marksA (m : Nat → Bool) : Array Value := ((List.range 256).map fun i => Value.bool (m i)).toArray
theorem marksA_at (m : Nat → Bool) (i : Nat) (h : i < 256) : (marksA m)[i]? = some (.bool (m i)) := by
  unfold marksA
  rw [List.getElem?_toArray, List.getElem?_map, List.getElem?_range h]; rfl
theorem marksA_set (m : Nat → Bool) (i : Nat) (h : i < 256) (b : Bool) : (marksA m).setIfInBounds i (.bool b) = marksA (fun k => if k = i then b else m k) := by
  unfold marksA
  apply Array.ext
  · simp
  · intro k h1 h2
    simp at h1
    rw [Array.getElem_setIfInBounds (by simpa using h1)]
    simp
    by_cases e : k = i
    · rw [if_pos e.symm, if_pos e]
    · rw [if_neg (fun x => e x.symm), if_neg e]
end Go.Proofs.YtpkeikbiblfidaaGreatDoor
/-
  mark: the program's.
-/
namespace Go.Proofs.YtpkeikbiblfidaaGreatDoor
open Go.RowKit
set_option linter.unusedVariables false
set_option linter.unusedSimpArgs false

theorem zero_marks : Tryz.zeroCells106 = marksA (fun _ => false) := by kernel_rfl
end Go.Proofs.YtpkeikbiblfidaaGreatDoor

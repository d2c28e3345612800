/-
  'DigestHex' holds: for a digest and digits of at most 1,000 bytes each, the digits, the digest read back and the reason why not are what the document says, and what is told is read back; beyond 1,000 bytes the fixed calls alone are asked; the fixed calls come out as they must. The table of the rounds is tied to the program's text.
-/
import Derived.Test.YtangadeihfkhpaaDoorDL
import Derived.Test.YtangadeihfkhpaaDoorD9
import Derived.ProofKit
import Derived.OpenShut
import Derived.ShutString
import Derived.ChangeOld
import Derived.Below
import Derived.SizedLaws
namespace Go.Proofs.YtangadeihfkhpaaDoor.digestHex
open Go.ChangeShapes Go.WideShapes Go.ChangeAt Go.RowKit
open Go.ChangeMaps (open_string shut_string)
set_option linter.unusedVariables false

set_option maxHeartbeats 1000000 in
theorem walk (s0 s1 : ByteArray) (n0 : s0.size ≤ maxLen) (n1 : s1.size ≤ maxLen) (w : World) (hK : Kon w) :
    Calls Tryd.prog 4 #[.string s0, .string s1] w fun e w' => e = .returned (.bool true) ∧ Below w.heap.size w w' := by
  unfold maxLen at n0 n1
  by_cases h0 : (1000 : Int) < s0.size
  · go_enter Tryd.func4, Tryd.ntmps4
    go_wp2_with fail
    refine (known_true _ hK).mono ?_
    rintro e wk ⟨rfl, hbk⟩
    go_wp2
    go_ret
    exact ⟨rfl, hbk⟩
  · by_cases h1 : (1000 : Int) < s1.size
    · go_enter Tryd.func4, Tryd.ntmps4
      go_wp2_with fail
      refine (known_true _ hK).mono ?_
      rintro e wk ⟨rfl, hbk⟩
      go_wp2
      go_ret
      exact ⟨rfl, hbk⟩
    · obtain ⟨xl, hxl⟩ : ∃ xl, xl = if s0.size = 32 then hexL s0.data.toList else [] := ⟨_, rfl⟩
      have hX : hexV s0 = strV xl := by subst hxl; unfold hexV; split <;> rfl
      have l32 : xl.length ≤ 64 := by
        subst hxl; split
        · rename_i h; rw [hexL_length]; have : s0.data.toList.length = s0.size := rfl; omega
        · simp
      have hy32 : (backP s1.data.toList).1.length ≤ 32 := by
        unfold backP
        split
        · cases hu : unP s1.data.toList 32 with
          | none => simp
          | some o => simp [unP_length hu]
        · simp
      refine body (.string s0) (.string s1) (strV xl) (strV (backP s1.data.toList).1) (strV (backP xl).1) s0 s1 ⟨xl.toArray⟩ ⟨(backP s1.data.toList).1.toArray⟩ (backP s1.data.toList).2 (backP xl).2 (decide (s0.size = 32)) w hK (by omega) (by omega) (Lib.hid rfl) (Lib.hid rfl) (Lib.hid rfl) (Lib.hid rfl)
        (Lib.hid fun w => by rw [← hX]; exact hex_any s0 w (by omega))
        (Lib.hid fun w => back_any s1 w (by omega))
        (Lib.hid fun w => rback_any s1 w (by omega))
        (Lib.hid fun w => by rw [← hX]; exact rhex_any s0 w (by omega))
        (Lib.hid fun w => back_any ⟨xl.toArray⟩ w (by show xl.length ≤ _; omega))
        (Lib.hid fun w => rright_any s0 w (by omega))
        (Lib.hid fun hc w => ?_) ?_
      · have hh := hex_any ⟨(backP s1.data.toList).1.toArray⟩ w (by show (backP s1.data.toList).1.length ≤ _; omega)
        have e : hexV ⟨(backP s1.data.toList).1.toArray⟩ = .string s1 := by
          unfold backP at hc ⊢
          split at hc
          · rename_i h64
            rw [if_pos h64]
            cases hu : unP s1.data.toList 32 with
            | none => rw [hu] at hc; simp at hc
            | some o =>
              have hol := unP_length hu
              have hx := hex_unP s1.data.toList 32 o (by omega) hu
              rw [List.take_of_length_le (by omega)] at hx
              unfold hexV
              show (if o.length = 32 then strV (hexL o) else strV []) = _
              rw [if_pos hol, hx, strV_data]
          · simp at hc
        rw [← e]
        exact hh
      · intro hr
        have h32 : s0.size = 32 := by simpa using hr
        have hb : backP xl = (s0.data.toList, 0) := by
          subst hxl
          have hl : s0.data.toList.length = 32 := h32
          rw [if_pos h32]
          unfold backP
          rw [if_pos (by rw [hexL_length]; omega), unP_hex _ 32 (by omega), List.take_of_length_le (by omega)]
        rw [hb]
        exact ⟨strV_data s0, rfl⟩

theorem own : ownKnob Tryd.prog.godebug = none := by kernel_rfl
theorem laidOut : laidOutB Tryd.prog = true := by kernel_rfl

/-! ### THE ROW's STEP: WRITTEN OUT: LEAVE IT -/
set_option maxRecDepth 100000 in
theorem lifted (os : Os) (started : os.Started) (H : Type) (enc : TypeId × Value → H) :
    ReturnsInHanded {} Tryd.checked os 4 .any (fun w args => (Rows.digestHexSpec.pre enc Tryd.prog Tryd.f4 [] false w args ∧ laidMetH Tryd.prog laidR w) ∧ sizedMet enc Tryd.prog Tryd.f4 (OpenSpec.ofChange Rows.digestHexSpec) false w args) (Rows.digestHexSpec.post enc Tryd.prog Tryd.f4 false true false false) := by
  refine returnsInHanded_of_change_and (C := Tryd.checked) (X := fun w _ => laidMetH Tryd.prog laidR w) (fun _ _ _ hh h => h.of_heap hh) own started (by kernel_rfl) Tryd.func4
    (ChangeSpec.witness_shaped (enc := enc) (C := Tryd.checked) (os := os) (X := fun w _ => laidMetH Tryd.prog laidR w) false (World.doorLaid Tryd.prog 400 os) #[.string ByteArray.empty, .string ByteArray.empty] 8 rfl (World.shaped_of_RefB (by kernel_rfl) (by kernel_rfl)) (by kernel_rfl) (by kernel_rfl) (by kernel_rfl) (door_met os _)) ?_
  intro W base args ds gs before hval0 hW hcnd hsz0 hL _
  have hsz : (DataW.weightsEach Tryd.prog (Tryd.f4.params.toList ++ Rows.digestHexSpec.plain.varTypes Tryd.prog) (ds ++ gs)).all (· ≤ reachBytes) = true := hsz0
  clear hsz0
  have hval : ∀ (j : Nat) t v, Tryd.f4.params[j]? = some t → args[j]? = some v → Value.okWide Tryd.prog W .any base t v := hval0
  have hW' := hW
  obtain ⟨p, q, hA0, hV, rfl, hfz, hnd⟩ := hW
  have hA : DataW.TrodAll enc Tryd.prog W 0 (fun _ => true) true Tryd.f4.params.toList args.toList ds p := hA0
  rw [Tryd.params4] at hA hval hsz
  obtain ⟨v0, vs0, d0, ds0, p0, q0, hargs, rfl, rfl, h0, r0⟩ := trodAll_cons hA
  obtain ⟨v1, vs1, d1, ds1, p1, q1, rfl, rfl, rfl, h1, r1⟩ := trodAll_cons r0
  obtain ⟨rfl, rfl, rfl⟩ := trodAll_nil r1
  obtain rfl : args = #[v0, v1] := by cases args; simp_all
  obtain ⟨rfl, rfl⟩ := trodVars_none hV
  obtain ⟨a0, rfl, rfl, rfl, w0⟩ := open_string Tryd.underlying9 (hval 0 9 v0 rfl rfl) h0
  obtain ⟨a1, rfl, rfl, rfl, w1⟩ := open_string Tryd.underlying9 (hval 1 9 v1 rfl rfl) h1
  clear hA0 hval0
  simp only [List.append_nil] at hW'
  refine (walk a0 a1 w0 w1 W (of_laid hL)).mono fun e W' ⟨he, bel⟩ => ?_
  subst he
  exact ⟨_, rfl, _, _, _, [], _, [], hW', trodAll_mk1 (shut_bool Tryd.underlying4 _), (trodAll_cons_mk (shut_string Tryd.underlying9 w0) (trodAll_cons_mk (shut_string Tryd.underlying9 w1) trodAll_mk0)), rfl, bel.frame _, fun h => by cases h⟩

theorem over : Rows.digestHexRow.holds Tryd.pinned (OpenSpec.ofChange Rows.digestHexSpec) :=
  OpenClaim.holds_of_wide 4 Tryd.f4 rfl rfl rfl rfl rfl rfl rfl ⟨rfl, rfl, rfl, rfl, rfl⟩ rfl rfl rfl rfl rfl (by kernel_rfl) Tryd.func4 (by kernel_rfl)
    (of_decide_eq_true (by kernel_rfl)) (by unfold Func.isWrapper; first | (rw [if_pos (by decide +kernel)]; kernel_rfl) | (rw [if_neg (by decide +kernel)]; exact ⟨rfl, rfl⟩))
    (fun os started H enc _ => lifted os started H enc)

/-- ████ THE TIED CARD ████ -/
theorem proved : Rows.DigestHexCardSaid :=
  Claim7.holds_tied_plain_at .later [] [.data] true (true, "c08157254d8f066437196579e02dc9a6483336e8ab3557b7c69bd06d950ec897") false
    over (fun _ h => by cases h) (by kernel_rfl) (fun _ h => by cases h) digestHex_row_tie rfl ⟨rfl, rfl⟩ (by kernel_rfl) rfl
    (fun f fn hf hfn => by
      obtain rfl : f = 4 := Option.some.inj ((show Tryd.prog.funcNamed "pentimento/pentimentolaw04.DigestHex" = some 4 by kernel_rfl).symm.trans hf) |>.symm
      obtain rfl : fn = Tryd.f4 := (Option.some.inj (Tryd.func4.symm.trans hfn)).symm
      exact ⟨by kernel_rfl, fun j t ht => by
        rw [Tryd.params4] at ht
        have hm : t ∈ [9, 9] := by simpa using Array.mem_of_getElem? ht
        have hall : ([9, 9].all fun u => !Tryd.prog.wantsStandIn u) = true := by kernel_rfl
        exact (show Tryd.prog.wantsStandIn t = false by simpa using List.all_eq_true.1 hall t hm)⟩)
    (by kernel_rfl)
#print axioms proved
end Go.Proofs.YtangadeihfkhpaaDoor.digestHex

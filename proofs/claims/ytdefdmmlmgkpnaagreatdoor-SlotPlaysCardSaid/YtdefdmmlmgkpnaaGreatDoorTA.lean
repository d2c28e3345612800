/-
  The document's own Save.
-/
import Derived.Test.YtdefdmmlmgkpnaaGreatDoorT9
namespace Go.Proofs.YtdefdmmlmgkpnaaGreatDoor
open Go.RowKit
set_option linter.unusedVariables false
set_option linter.unusedSimpArgs false

theorem rp_below {w w1 w2 : World} {B p : Nat} {v1 v2 : Value} {S : DS} (hb : Below w.heap.size w w1) (h : RP w1 B p v1 v2 S w2) : RP w B p v1 v2 S w2 := by
  obtain ⟨a, b, hp, hf, ht⟩ := h
  refine ⟨a, b, hp, ⟨hf.os.trans hb.os, hf.tape.trans hb.tape, hf.output.trans hb.output, Nat.le_trans hb.size hf.size, fun i hi hn => (hf.block i (Nat.lt_of_lt_of_le hi hb.size) hn).trans (hb.block i hi)⟩, fun i hi => (ht i hi).elim .inl (fun h => .inr (Nat.le_trans hb.size h))⟩
theorem rp_after {w w1 : World} {B p : Nat} {v1 v2 : Value} {S : DS} (h : RD w B p v1 v2 S) (hb : Below w.heap.size w w1) : RP w B p v1 v2 S w1 := rp_below hb (RP.same (h.below hb))

set_option maxRecDepth 20000 in
set_option maxHeartbeats 4000000 in
theorem rsave_any (B p : Nat) (v1 v2 : Value) (S : DS) (at' kind : Int) (seq : Nat) (xs : List UInt8) (w : World) (h : RD w B p v1 v2 S) (hB : B ≤ w.heap.size) (N : Nat) (hok : S.ok N) (hN : N + 1 ≤ 1000000) (hs : seq < 18446744073709551616) (hx : xs.length ≤ 9223372036854775807) :
    Calls Tryz.prog 17 #[.pointer (some ⟨p, 0, none⟩), .int .i64 at', .int .i64 kind, .int .u64 seq, strV xs] w fun e w' => e = .returned (.int .i64 (saveP S at' kind seq xs).1) ∧ RP w B p v1 v2 (saveP S at' kind seq xs).2 w' := by
  have hln := fun w => len_str xs w
  unfold saveP
  obtain ⟨V, hV⟩ : ∃ V : Value, strV xs = V := ⟨_, rfl⟩
  have HP0 := Lib.hid (RP.same h)
  rw [hV] at hln ⊢
  by_cases ha : at' < 0 ∨ 1200 < at'
  · rw [if_pos ha]
    rcases ha with ha | ha
    · have hd : decide (at' < 0) = true := decide_eq_true ha
      clear h hok hN hs hx
      go_enter Tryz.func17, Tryz.ntmps17
      go_wp2
      go_ret
      exact ⟨rfl, HP0.out⟩
    · have hd : ¬ (at' < 0) := by omega
      clear h hok hN hs hx
      go_enter Tryz.func17, Tryz.ntmps17
      go_wp2
      go_ret
      exact ⟨rfl, HP0.out⟩
  · rw [if_neg ha]
    have a1 : ¬ (at' < 0) := by omega
    have a2 : ¬ (1200 < at') := by omega
    by_cases hl : 50 < xs.length
    · rw [if_pos hl]
      have hl2 : 50 < (xs.length : Int) := by omega
      generalize xs.length = l at *
      clear h hok hN hs hx ha hl
      go_enter Tryz.func17, Tryz.ntmps17
      go_wp2
      go_ret
      exact ⟨rfl, HP0.out⟩
    · rw [if_neg hl]
      have hl2 : ¬ 50 < (xs.length : Int) := by omega
      have hput := text_any 8 seq w (by omega) (by omega) hs
      have hadd := add_texts (enc seq 8) xs (by rw [enc_length]; omega)
      have hmk := fun w => rmake_any kind ⟨(enc seq 8 ++ xs).toArray⟩ w (by show (List.toArray (enc seq 8 ++ xs)).size ≤ _; simp [enc_length]; omega)
      have e1 : (⟨(enc seq 8 ++ xs).toArray⟩ : ByteArray).data.toList = enc seq 8 ++ xs := rfl
      simp only [e1] at hmk
      obtain ⟨ys, k, hmp⟩ : ∃ ys k, makeP kind (enc seq 8 ++ xs) = (ys, k) := ⟨_, _, rfl⟩
      rw [hmp] at hmk ⊢
      unfold tupV at hmk
      dsimp only at hmk ⊢
      obtain ⟨V1, hV1⟩ : ∃ V : Value, strV (enc seq 8) = V := ⟨_, rfl⟩
      obtain ⟨V2, hV2⟩ : ∃ V : Value, Value.string ⟨(enc seq 8 ++ xs).toArray⟩ = V := ⟨_, rfl⟩
      obtain ⟨V3, hV3⟩ : ∃ V : ByteArray, ⟨ys.toArray⟩ = V := ⟨_, rfl⟩
      change ∀ w, (binOp .add 9 (strV (enc seq 8)) (strV xs)).run Tryz.prog w = .ok (.string ⟨(enc seq 8 ++ xs).toArray⟩) w at hadd
      rw [hV2] at hadd hmk
      rw [hV1] at hput
      rw [hV1, hV] at hadd
      rw [show strV ys = .string V3 from by rw [← hV3]; rfl] at hmk
      rw [hV3]
      have HPUT := Lib.hid hput
      have HMK := Lib.hid hmk
      have HV1 := Lib.hid hV1
      have HS := Lib.hid (And.intro hs hx)
      have HA := Lib.hid ha
      have HW := Lib.hid (And.intro h hok)
      have HB := Lib.hid hB
      have HN := Lib.hid hN
      clear hput hmk hV1 hV2 hV3 hs hx hl hmp ha h hok e1 hB hN
      generalize xs.length = l at *
      by_cases hk : k = 0
      · subst hk
        rw [if_neg (by simp)]
        rw [show ((seq % 2 : Nat) : Int) = (seq : Int) % 2 from by omega]
        have hwt := fun w2 (hb : Below w.heap.size w w2) => rwrite_any B p v1 v2 S (at' + (seq : Int) % 2) V3 w2 (HW.out.1.below hb) (Nat.le_trans HB.out hb.size) N HW.out.2 (by have := HN.out; omega)
        have hwo := HW.out.2.write (at' + (seq : Int) % 2) V3
        obtain ⟨r, T, hrT⟩ : ∃ r T, S.write (at' + (seq : Int) % 2) V3 = (r, T) := ⟨_, _, rfl⟩
        rw [hrT] at hwt hwo ⊢
        dsimp only at hwt hwo ⊢
        have HWT := Lib.hid hwt
        have HWO := Lib.hid hwo
        clear hrT hwt hwo
        by_cases hr : r = 0
        · subst hr
          rw [if_neg (by simp)]
          have hfl := fun w3 a b (h3 : RD w3 B p a b T) (hB3 : B ≤ w3.heap.size) => rflush_any B p a b T w3 h3 hB3 (N + 1) HWO.out HN.out
          obtain ⟨r2, T2, hT2⟩ : ∃ r T', T.flush = (r, T') := ⟨_, _, rfl⟩
          rw [hT2] at hfl ⊢
          dsimp only at hfl ⊢
          have HFL := Lib.hid hfl
          clear hfl hT2
          go_enter Tryz.func17, Tryz.ntmps17
          go_wp2_with fail
          refine HPUT.out.mono ?_
          rintro e w1 ⟨rfl, hb⟩
          have HB1 := Lib.hid hb
          clear hb HPUT
          go_wp2_with fail
          refine (HMK.out _).mono ?_
          rintro e w2 ⟨rfl, hb⟩
          have HB2 := Lib.hid (HB1.out.trans (hb.mono HB1.out.size))
          clear hb HB1 HMK
          go_wp2_with fail
          refine (HWT.out w2 HB2.out).mono ?_
          rintro e w3 ⟨rfl, hpp⟩
          have HPP := Lib.hid (rp_below HB2.out hpp)
          clear hpp HWT
          go_wp2_with fail
          obtain ⟨a, b, hp3, hf3, ht3⟩ := HPP.out
          refine (HFL.out w3 a b hp3 (Nat.le_trans HB.out hf3.size)).mono ?_
          rintro e w4 ⟨rfl, hpp⟩
          have hfin : RP w B p v1 v2 T2 w4 := by
            obtain ⟨a2, b2, hp4, hf4, ht4⟩ := hpp
            exact ⟨a2, b2, hp4, hf3.trans hf4 (fun i hi => ht3 i hi), fun i hi => (ht4 i hi).elim (ht3 i) (fun h => .inr (Nat.le_trans hf3.size h))⟩
          have HFIN := Lib.hid hfin
          clear hp3 hf3 ht3 hpp hfin HFL HPP
          go_wp2
          go_ret
          exact ⟨rfl, HFIN.out⟩
        · have hr2 : (r == 0) = false := by simpa using hr
          have hr3 : (r != 0) = true := by simp [hr]
          rw [if_pos hr]
          dsimp only
          clear hr
          go_enter Tryz.func17, Tryz.ntmps17
          go_wp2_with fail
          refine HPUT.out.mono ?_
          rintro e w1 ⟨rfl, hb⟩
          have HB1 := Lib.hid hb
          clear hb HPUT
          go_wp2_with fail
          refine (HMK.out _).mono ?_
          rintro e w2 ⟨rfl, hb⟩
          have HB2 := Lib.hid (HB1.out.trans (hb.mono HB1.out.size))
          clear hb HB1 HMK
          go_wp2_with fail
          refine (HWT.out w2 HB2.out).mono ?_
          rintro e w3 ⟨rfl, hpp⟩
          have HPP := Lib.hid (rp_below HB2.out hpp)
          clear hpp HWT
          go_wp2
          go_ret
          exact ⟨rfl, HPP.out⟩
      · have hk2 : ((k : Int) == 0) = false := by simpa using hk
        have hk3 : ((k : Int) != 0) = true := by simp [hk]
        rw [if_pos hk]
        dsimp only
        clear hk
        go_enter Tryz.func17, Tryz.ntmps17
        go_wp2_with fail
        refine HPUT.out.mono ?_
        rintro e w1 ⟨rfl, hb⟩
        have HB1 := Lib.hid hb
        clear hb HPUT
        go_wp2_with fail
        refine (HMK.out _).mono ?_
        rintro e w2 ⟨rfl, hb⟩
        have HB2 := Lib.hid (HB1.out.trans (hb.mono HB1.out.size))
        clear hb HB1 HMK
        go_wp2
        go_ret
        exact ⟨rfl, rp_after HW.out.1 HB2.out⟩
end Go.Proofs.YtdefdmmlmgkpnaaGreatDoor


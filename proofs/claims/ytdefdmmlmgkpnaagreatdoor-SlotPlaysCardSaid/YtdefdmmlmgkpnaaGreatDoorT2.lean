/-
  A slot's record: the contract of slot.Load.
-/
import Derived.Test.YtdefdmmlmgkpnaaGreatDoorT1
namespace Go.Proofs.YtdefdmmlmgkpnaaGreatDoor
open Go.RowKit
set_option linter.unusedVariables false
set_option linter.unusedSimpArgs false

/-- A slot's record, or why there is none. -/
def loadP (S : DS) (at' kind : Int) : CT × Int :=
  if (readP S at' kind).2 ≠ 0 then (noCT, (readP S at' kind).2) else if (readP S (at' + 1) kind).2 ≠ 0 then (noCT, (readP S (at' + 1) kind).2) else
    if (laterP (readP S at' kind).1 (readP S (at' + 1) kind).1).no then (noCT, 10) else (laterP (readP S at' kind).1 (readP S (at' + 1) kind).1, 0)
def loadV (r : CT × Int) : Value := .tuple #[.int .u64 (r.1.n : Int), strV r.1.s, .int .i64 r.2]

theorem readP_has {S : DS} {at' kind : Int} (h : (readP S at' kind).2 = 0) : S.has at' := by
  have h1 : (S.read at').2 = 0 := by
    by_cases h2 : (S.read at').2 = 0
    · exact h2
    · unfold readP at h; rw [if_pos h2] at h; exact h
  by_cases hh : S.has at'
  · exact hh
  · unfold DS.read at h1
    by_cases ho : S.off = true
    · rw [if_pos ho] at h1; exact absurd h1 (by simp)
    · rw [if_neg ho, if_neg hh] at h1; exact absurd h1 (by simp)

set_option maxRecDepth 20000 in
set_option maxHeartbeats 4000000 in
theorem load_any (B p : Nat) (v1 v2 : Value) (S : DS) (at' kind : Int) (w : World) (h : PD w B p v1 v2 S) (hf : S.W.length ≤ 1000000) (hl : S.L.length ≤ 1200) :
    Calls Tryz.prog 14 #[.pointer (some ⟨p, 0, none⟩), .int .i64 at', .int .i64 kind] w fun e w' => e = .returned (loadV (loadP S at' kind)) ∧ Below w.heap.size w w' := by
  have h1 := sread_any B p v1 v2 S at' kind w h hf (by omega)
  have h2 := fun w' (hb : Below w.heap.size w w') => sread_any B p v1 v2 S (at' + 1) kind w' (h.below hb) hf (by omega)
  unfold loadP loadV
  have hh := fun e => readP_has (S := S) (at' := at') (kind := kind) e
  unfold DS.has at hh
  obtain ⟨a, k1, ha⟩ : ∃ a k1, readP S at' kind = (a, k1) := ⟨_, _, rfl⟩
  obtain ⟨b, k2, hb⟩ : ∃ b k2, readP S (at' + 1) kind = (b, k2) := ⟨_, _, rfl⟩
  rw [ha] at h1 hh ⊢
  rw [hb] at h2 ⊢
  dsimp only at h1 h2 hh ⊢
  clear ha hb h hf
  obtain ⟨V, hV⟩ : ∃ V : ByteArray, strV a.s = .string V := ⟨_, rfl⟩
  obtain ⟨V', hV'⟩ : ∃ V : ByteArray, strV b.s = .string V := ⟨_, rfl⟩
  have h0 : strV noCT.s = .string ⟨#[]⟩ := rfl
  by_cases hk : k1 = 0
  · have hh := hh hk
    subst hk
    rw [if_neg (by simp)]
    have hwr : IntKind.i64.wrap (at' + 1) = at' + 1 := IntWalk.i64_in _ (by omega)
    have H1 := Lib.hid h1
    have H2 := Lib.hid h2
    clear hh hl h1 h2
    by_cases hk : k2 = 0
    · subst hk
      rw [if_neg (by simp)]
      have hl := later_any a b
      have he := eql_no (laterP a b)
      have hg := guard_no (laterP a b)
      obtain ⟨c, hc⟩ : ∃ c, c = laterP a b := ⟨_, rfl⟩
      rw [← hc] at hl he hg ⊢
      obtain ⟨V2, hV2⟩ : ∃ V : ByteArray, strV c.s = .string V := ⟨_, rfl⟩
      unfold CT.val at hl he hg
      rw [hV2, hV, hV'] at hl
      rw [hV2] at he hg
      have HL := Lib.hid hl
      clear hl hc
      by_cases hno : c.no
      · rw [if_pos hno]
        dsimp only
        rw [h0]
        rw [decide_eq_true hno] at he
        clear hno
        go_enter Tryz.func14, Tryz.ntmps14
        go_wp2_with fail
        refine H1.out.mono ?_
        rintro r w1 ⟨rfl, hb⟩
        have HB := Lib.hid hb
        unfold CT.val
        rw [hV]
        have HB' := Lib.hid (hb.alloc hb.size (.cells #[.bool a.f, .int .u64 (a.n : Int), .string V] 65))
        clear hb H1
        go_wp2_with fail
        refine (H2.out _ HB'.out).mono ?_
        rintro r w2 ⟨rfl, hb⟩
        have HB2 := Lib.hid (HB'.out.trans (hb.mono HB'.out.size))
        have bA := ((Box3.new w1 65 (.bool a.f) (.int .u64 (a.n : Int)) (.string V)).below hb (Box3.new w1 65 (.bool a.f) (.int .u64 (a.n : Int)) (.string V)).lt).alloc (.cells #[.bool b.f, .int .u64 (b.n : Int), .string V'] 65)
        have HB2 := Lib.hid (HB2.out.alloc HB2.out.size (.cells #[.bool b.f, .int .u64 (b.n : Int), .string V'] 65))
        have c0 := bA.c0
        have c1 := bA.c1
        have c2 := bA.c2
        clear bA hb H2 HB' HB
        unfold CT.val
        rw [hV']
        go_wp2_with fail
        refine (HL.out _).mono ?_
        rintro r w3 ⟨rfl, hb⟩
        have HB3 := Lib.hid (HB2.out.trans (hb.mono HB2.out.size))
        have HB3 := Lib.hid (HB3.out.alloc HB3.out.size (.cells #[.bool c.f, .int .u64 (c.n : Int), .string V2] 65))
        clear hb HB2 HL c0 c1 c2
        go_wp2
        refine bodyPost_ret (by simp [results, Tryz.f14, go_sem]; try rfl) rfl ?_
        exact ⟨rfl, HB3.out⟩
      · rw [if_neg hno]
        dsimp only
        rw [hV2]
        rw [decide_eq_false hno] at he
        clear hno
        go_enter Tryz.func14, Tryz.ntmps14
        go_wp2_with fail
        refine H1.out.mono ?_
        rintro r w1 ⟨rfl, hb⟩
        have HB := Lib.hid hb
        unfold CT.val
        rw [hV]
        have HB' := Lib.hid (hb.alloc hb.size (.cells #[.bool a.f, .int .u64 (a.n : Int), .string V] 65))
        clear hb H1
        go_wp2_with fail
        refine (H2.out _ HB'.out).mono ?_
        rintro r w2 ⟨rfl, hb⟩
        have HB2 := Lib.hid (HB'.out.trans (hb.mono HB'.out.size))
        have bA := ((Box3.new w1 65 (.bool a.f) (.int .u64 (a.n : Int)) (.string V)).below hb (Box3.new w1 65 (.bool a.f) (.int .u64 (a.n : Int)) (.string V)).lt).alloc (.cells #[.bool b.f, .int .u64 (b.n : Int), .string V'] 65)
        have HB2 := Lib.hid (HB2.out.alloc HB2.out.size (.cells #[.bool b.f, .int .u64 (b.n : Int), .string V'] 65))
        have c0 := bA.c0
        have c1 := bA.c1
        have c2 := bA.c2
        clear bA hb H2 HB' HB
        unfold CT.val
        rw [hV']
        go_wp2_with fail
        refine (HL.out _).mono ?_
        rintro r w3 ⟨rfl, hb⟩
        have HB3 := Lib.hid (HB2.out.trans (hb.mono HB2.out.size))
        have HB3 := Lib.hid (HB3.out.alloc HB3.out.size (.cells #[.bool c.f, .int .u64 (c.n : Int), .string V2] 65))
        clear hb HB2 HL c0 c1 c2
        go_wp2_with fail
        go_region
        go_wp2
        refine bodyPost_ret (by simp [results, Tryz.f14, go_sem]; try rfl) rfl ?_
        exact ⟨rfl, HB3.out.drew⟩
    · have hk2 : (k2 == 0) = false := by simpa using hk
      have hk3 : (k2 != 0) = true := by simp [hk]
      rw [if_pos hk]
      dsimp only
      rw [h0]
      clear hk
      go_enter Tryz.func14, Tryz.ntmps14
      go_wp2_with fail
      refine H1.out.mono ?_
      rintro r w1 ⟨rfl, hb⟩
      have HB := Lib.hid hb
      unfold CT.val
      rw [hV]
      have HB' := Lib.hid (hb.alloc hb.size (.cells #[.bool a.f, .int .u64 (a.n : Int), .string V] 65))
      clear hb H1
      go_wp2_with fail
      refine (H2.out _ HB'.out).mono ?_
      rintro r w2 ⟨rfl, hb⟩
      have HB2 := Lib.hid (HB'.out.trans (hb.mono HB'.out.size))
      have bA := ((Box3.new w1 65 (.bool a.f) (.int .u64 (a.n : Int)) (.string V)).below hb (Box3.new w1 65 (.bool a.f) (.int .u64 (a.n : Int)) (.string V)).lt).alloc (.cells #[.bool b.f, .int .u64 (b.n : Int), .string V'] 65)
      have HB2 := Lib.hid (HB2.out.alloc HB2.out.size (.cells #[.bool b.f, .int .u64 (b.n : Int), .string V'] 65))
      have c0 := bA.c0
      have c1 := bA.c1
      have c2 := bA.c2
      clear bA hb H2 HB' HB
      unfold CT.val
      rw [hV']
      clear c0 c1 c2
      go_wp2
      refine bodyPost_ret (by simp [results, Tryz.f14, go_sem]; try rfl) rfl ?_
      exact ⟨rfl, HB2.out⟩
  · have hk2 : (k1 == 0) = false := by simpa using hk
    have hk3 : (k1 != 0) = true := by simp [hk]
    rw [if_pos hk]
    dsimp only
    rw [h0]
    have H1 := Lib.hid h1
    clear hk h1 h2 hh hl
    go_enter Tryz.func14, Tryz.ntmps14
    go_wp2_with fail
    refine H1.out.mono ?_
    rintro r w1 ⟨rfl, hb⟩
    have HB := Lib.hid hb
    have HB' := Lib.hid (hb.alloc hb.size (.cells #[.bool a.f, .int .u64 (a.n : Int), .string V] 65))
    unfold CT.val
    rw [hV]
    clear hb H1
    go_wp2
    refine bodyPost_ret (by simp [results, Tryz.f14, go_sem]; try rfl) rfl ?_
    exact ⟨rfl, HB'.out⟩
end Go.Proofs.YtdefdmmlmgkpnaaGreatDoor


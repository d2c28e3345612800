/-
  Contracts: both Of.
-/
import Derived.Test.YtodcdefmoliegaaIA
namespace Go.Proofs.Ytodcdefmoliegaa
open Go.RowKit
set_option linter.unusedVariables false
set_option linter.unusedSimpArgs false

/-- The set of the first k numbers. -/
def stA (xs : List Int) : Nat → Nat
  | 0 => 0
  | k + 1 => stA xs k ||| oneA (xs[k]?.getD 0)
def stB (xs : List Int) : Nat → Nat
  | 0 => 0
  | k + 1 => stB xs k ||| oneB (xs[k]?.getD 0)
theorem stA_lt (xs) : ∀ k, stA xs k < 18446744073709551616
  | 0 => by show 0 < _; omega
  | k + 1 => or_lt (stA_lt xs k) (oneA_lt _)
theorem stB_lt (xs) : ∀ k, stB xs k < 18446744073709551616
  | 0 => by show 0 < _; omega
  | k + 1 => or_lt (stB_lt xs k) (oneB_lt _)
def okK (xs : List Int) (k : Nat) : Prop := ∀ i, i < k → 0 ≤ xs[i]?.getD 0 ∧ xs[i]?.getD 0 < 128
instance (xs : List Int) (k : Nat) : Decidable (okK xs k) := by unfold okK; exact Nat.decidableBallLT k _
def ofP (xs : List Int) : (Nat × Nat) × Nat := if okK xs xs.length then ((stA xs xs.length, stB xs xs.length), 0) else ((0, 0), 3)
def ofV (xs : List Int) : Value := .tuple #[setV (ofP xs).1.1 (ofP xs).1.2, .int .i64 ((ofP xs).2 : Int)]

set_option maxRecDepth 20000 in
set_option maxHeartbeats 4000000 in
theorem of_any (v : Value) (xs : List Int) (w : World) (hl : Li w v xs) :
    Calls Try.prog 19 #[v] w fun e w' => e = .returned (ofV xs) ∧ Below w.heap.size w w' := by
  obtain ⟨a, n, cap, rfl, hr⟩ := hl
  have hn := hr.len
  have hbig := hr.big
  have hle := hr.le
  have hcm := hr.cm
  have hcc : (cap : Int) ≤ 9223372036854775807 := by unfold maxLen at hcm; omega
  have hlc : (n : Int) ≤ (cap : Int) := by omega
  have bR := (Box2.new w 27 (.int .u64 0) (.int .u64 0)).alloc (.cells #[.int .u64 0, .int .u64 0] 27)
  have bS := Box2.new (w.alloc (.cells #[.int .u64 0, .int .u64 0] 27)) 27 (.int .u64 0) (.int .u64 0)
  have hB0 := below2 w (.cells #[.int .u64 0, .int .u64 0] 27) (.cells #[.int .u64 0, .int .u64 0] 27)
  simp only [World.size_alloc] at bS
  have h1 := fun a b i w ha hb => with_any a b i w ha hb
  have HR := Lib.hid bR
  have HS := Lib.hid bS
  have HB0 := Lib.hid hB0
  have HRI := Lib.hid hr
  have HN := Lib.hid hn
  have H1 := Lib.hid h1
  clear bR bS hB0 hr hn h1 hcm
  go_enter Try.func19, Try.ntmps19
  go_wp2
  go_loopw [10] (fun i wr => ∃ k : Nat, k ≤ n ∧ okK xs k ∧ i = .int .i64 (k : Int) ∧ Box2 wr w.heap.size 27 (.int .u64 0) (.int .u64 0) ∧ Box2 wr (w.heap.size + 1) 27 (.int .u64 (stA xs k : Int)) (.int .u64 (stB xs k : Int)) ∧ Below w.heap.size w wr) (fun i _ => n - (intOf i).toNat)
  case atStart => exact ⟨0, by omega, fun i hi => by omega, rfl, HR.out, HS.out, HB0.out⟩
  case round =>
    clear HR HS HB0
    obtain ⟨k, hk, hok, rfl, hR, hS, hB⟩ := hrel
    have i2 : (0 : Int) ≤ (k : Int) := by omega
    by_cases hlt : k < n
    · have i1 : (k : Int) < (n : Int) := by omega
      obtain ⟨b, off, rfl, hbl, hc⟩ := HRI.out.at0 (by omega)
      have cx := (hB.cell (p := ⟨b, off + k, none⟩) hbl).trans (hc k hlt)
      have s0 := hS.c0
      have s1 := hS.c1
      obtain ⟨x, hx⟩ : ∃ x, x = xs[k]?.getD 0 := ⟨_, rfl⟩
      rw [← hx] at cx
      have hw := fun w => H1.out (stA xs k) (stB xs k) x w (stA_lt xs k) (stB_lt xs k)
      by_cases hxi : 0 ≤ x ∧ x < 128
      · have hv : withV (stA xs k) (stB xs k) x = .tuple #[setV (stA xs (k + 1)) (stB xs (k + 1)), .int .i64 0] := by
          unfold withV withP
          rw [if_pos hxi]
          show _ = Value.tuple #[setV (stA xs k ||| oneA (xs[k]?.getD 0)) (stB xs k ||| oneB (xs[k]?.getD 0)), .int .i64 0]
          rw [← hx]; rfl
        rw [hv] at hw
        have hok2 : okK xs (k + 1) := fun i hi => by
          by_cases he : i = k
          · subst he; rw [← hx]; exact hxi
          · exact hok i (by omega)
        unfold setV at hw
        have HW := Lib.hid hw
        have HOK := Lib.hid hok2
        have HR := Lib.hid hR
        have HS := Lib.hid hS
        have HB := Lib.hid hB
        clear hw hv hok hok2 hR hS hB hx hxi hc
        generalize stA xs k = p at *
        generalize stB xs k = q at *
        go_wp2_with fail
        refine (HW.out _).mono ?_
        rintro r w5 ⟨rfl, hb5⟩
        have hR5 := HR.out.below hb5 HR.out.lt
        have hS5 := HS.out.below hb5 HS.out.lt
        have hB5 := HB.out.trans (hb5.mono HB.out.size)
        have c0 := hS5.c0
        have c1 := hS5.c1
        have f0 := hS5.f0
        have f1 := hS5.f1
        have HR5 := Lib.hid hR5
        have HS5 := Lib.hid hS5
        have HB5 := Lib.hid hB5
        clear hR5 hS5 hB5 hb5
        go_wp2
        refine ⟨⟨k + 1, by omega, HOK.out, by go_num, (HR5.out.other 0 (by omega) _).other 1 (by omega) _, (HS5.out.set0 _).set1 _, below_set (below_set HB5.out (by omega)) (by omega)⟩, ?_⟩
        simp [intOf]; omega
      · have hv : withV (stA xs k) (stB xs k) x = .tuple #[setV 0 0, .int .i64 3] := by
          unfold withV withP
          rw [if_neg hxi]; rfl
        rw [hv] at hw
        have hres : ofV xs = .tuple #[setV 0 0, .int .i64 3] := by
          unfold ofV ofP
          rw [if_neg (fun h => hxi (by rw [hx]; exact h k (by rw [HN.out]; exact hlt)))]; rfl
        unfold setV at hw hres
        have HW := Lib.hid hw
        have HRES := Lib.hid hres
        have HR := Lib.hid hR
        have HB := Lib.hid hB
        have hSl := hS.lt
        have HS := Lib.hid hS
        clear hw hv hok hR hS hB hx hxi hc hres
        generalize stA xs k = p at *
        generalize stB xs k = q at *
        go_wp2_with fail
        refine (HW.out _).mono ?_
        rintro r w5 ⟨rfl, hb5⟩
        have hR5 := HR.out.below hb5 HR.out.lt
        have hS5 := HS.out.below hb5 HS.out.lt
        have hB5 := HB.out.trans (hb5.mono HB.out.size)
        have c0 := hS5.c0
        have c1 := hS5.c1
        have f0 := hS5.f0
        have f1 := hS5.f1
        have hR6 := (hR5.other (b' := w.heap.size + 1) 0 (by omega) (.int .u64 0)).other (b' := w.heap.size + 1) 1 (by omega) (.int .u64 0)
        have r0 := hR5.c0
        have r1 := hR5.c1
        have g0 := hR5.f0
        have g1 := hR5.f1
        have hR7 := (hR6.set0 (.int .u64 0)).set1 (.int .u64 0)
        have hB6 := below_set (b := w.heap.size + 1) (i := 1) (v := .int .u64 0) (below_set (b := w.heap.size + 1) (i := 0) (v := .int .u64 0) hB5 (by omega)) (by omega)
        have hB7 := below_set (b := w.heap.size) (i := 1) (v := .int .u64 0) (below_set (b := w.heap.size) (i := 0) (v := .int .u64 0) hB6 (by omega)) (by omega)
        have HB7 := Lib.hid hB7
        have HR7 := Lib.hid hR7
        clear hB5 hB6 hB7 hb5 hR5 hS5 hR6 hR7
        go_wp2
        refine bodyPost_ret (by simp [results, Try.f19, go_sem, HR7.out.c0, HR7.out.c1]; try rfl) rfl ?_
        exact ⟨by rw [HRES.out]; rfl, HB7.out⟩
    · obtain rfl : k = n := by omega
      have hres : ofV xs = .tuple #[setV (stA xs k) (stB xs k), .int .i64 0] := by
        unfold ofV ofP
        rw [HN.out, if_pos hok]; rfl
      unfold setV at hres
      generalize stA xs k = p at *
      generalize stB xs k = q at *
      have s0 := hS.c0
      have s1 := hS.c1
      have r0 := hR.c0
      have r1 := hR.c1
      have g0 := hR.f0
      have g1 := hR.f1
      have hR7 := (hR.set0 (.int .u64 (p : Int))).set1 (.int .u64 (q : Int))
      have hB7 := below_set (b := w.heap.size) (i := 1) (v := .int .u64 (q : Int)) (below_set (b := w.heap.size) (i := 0) (v := .int .u64 (p : Int)) hB (by omega)) (by omega)
      have HRES := Lib.hid hres
      have HB7 := Lib.hid hB7
      have HR7 := Lib.hid hR7
      clear hres hB hB7 hR hR7 hS hok
      go_wp2
      refine bodyPost_ret (by simp [results, Try.f19, go_sem, HR7.out.c0, HR7.out.c1]; try rfl) rfl ?_
      exact ⟨by rw [HRES.out], HB7.out⟩

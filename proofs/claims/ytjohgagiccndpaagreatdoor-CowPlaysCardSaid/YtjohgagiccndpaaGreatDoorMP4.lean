/-
  Texts put together: P4.
-/
import Derived.Test.YtjohgagiccndpaaGreatDoorMP3
import Derived.Deep.RegionHeld3
/-
  View, the program's and the document's; the document's Back.
-/
namespace Go.Proofs.YtjohgagiccndpaaGreatDoor
open Go.RowKit
set_option linter.unusedVariables false
set_option linter.unusedSimpArgs false

def viewP (S : DS) (X : List En) (place : Int) : ByteArray × Int :=
  if (S.read place).2 ≠ 0 then (noBytes, (S.read place).2) else match findE X place with
    | some s => (s, 0)
    | none => ((S.read place).1, 0)

set_option maxRecDepth 20000 in
set_option maxHeartbeats 2000000 in
theorem view_any (B p : Nat) (v1 v2 : Value) (S : DS) (a : Option Addr) (n cap : Nat) (X : List En) (place : Int) (w : World) (h : PD w B p v1 v2 S) (hf : S.W.length ≤ 1000000) (hl : S.L.length ≤ 1000000) (hX : Es w a n cap X) :
    Calls Tryz.prog 63 #[.pointer (some ⟨p, 0, none⟩), .slice a n cap, .int .i64 place] w fun e w' => e = .returned (two (viewP S X place)) ∧ Below w.heap.size w w' := by
  have hr := read_any B p v1 v2 S place w h hf hl
  have hfd := fun w' (hb : Below w.heap.size w w') => find_prog a n cap X place w' (hX.later hb)
  unfold viewP
  obtain ⟨x, k, hxk⟩ : ∃ x k, S.read place = (x, k) := ⟨_, _, rfl⟩
  rw [hxk] at hr ⊢
  unfold two at hr ⊢
  dsimp only at hr ⊢
  have HR := Lib.hid hr
  have HFD := Lib.hid hfd
  clear hr hfd hxk h hX
  by_cases hk : k = 0
  · subst hk
    rw [if_neg (by simp)]
    cases hfx : findE X place with
    | some s =>
      simp only [hfx] at HFD
      unfold findV at HFD
      dsimp only at HFD ⊢
      clear hfx
      go_enter Tryz.func63, Tryz.ntmps63
      go_wp2_with fail
      refine HR.out.mono ?_
      rintro e w1 ⟨rfl, hb⟩
      have HB1 := Lib.hid hb
      clear hb
      go_wp2_with fail
      refine (HFD.out _ HB1.out).mono ?_
      rintro e w2 ⟨rfl, hb⟩
      have HB2 := Lib.hid (HB1.out.trans (hb.mono HB1.out.size))
      clear hb HB1
      go_wp2
      refine bodyPost_ret (results_tmp2 rfl _ _ _) rfl ?_
      exact ⟨rfl, HB2.out⟩
    | none =>
      simp only [hfx] at HFD
      unfold findV at HFD
      dsimp only at HFD ⊢
      clear hfx
      go_enter Tryz.func63, Tryz.ntmps63
      go_wp2_with fail
      refine HR.out.mono ?_
      rintro e w1 ⟨rfl, hb⟩
      have HB1 := Lib.hid hb
      clear hb
      go_wp2_with fail
      refine (HFD.out _ HB1.out).mono ?_
      rintro e w2 ⟨rfl, hb⟩
      have HB2 := Lib.hid (HB1.out.trans (hb.mono HB1.out.size))
      clear hb HB1
      go_wp2
      refine bodyPost_ret (results_tmp2 rfl _ _ _) rfl ?_
      exact ⟨rfl, HB2.out⟩
  · have hr2 : (k == 0) = false := by simpa using hk
    have hr3 : (k != 0) = true := by simp [hk]
    rw [if_pos hk]
    clear hk
    go_enter Tryz.func63, Tryz.ntmps63
    go_wp2_with fail
    refine HR.out.mono ?_
    rintro e w1 ⟨rfl, hb⟩
    have HB1 := Lib.hid hb
    clear hb
    go_wp2
    refine bodyPost_ret (results_tmp2 rfl _ _ _) rfl ?_
    exact ⟨rfl, HB1.out⟩


/-- The document's disk under way, made since w: what it has got since lies behind w. -/
theorem rp_es {w w1 : World} {B p : Nat} {v1 v2 : Value} {S : DS} (h : RP w B p v1 v2 S w1) {a : Option Addr} {n cap : Nat} {X : List En} (hX : Es w a n cap X) (ha : ∀ b off, a = some ⟨b, off, none⟩ → 0 < n → ¬ foot p v1 v2 b) : Es w1 a n cap X := by
  obtain ⟨_, _, _, hF, _⟩ := h
  exact hX.fr hF fun b off e h0 => ha b off e h0
theorem rp_box {w w1 : World} {B p : Nat} {v1 v2 : Value} {S : DS} (h : RP w B p v1 v2 S w1) {b : Nat} {o : Obj} (hb : w.heap[b]? = some o) (hn : ¬ foot p v1 v2 b) : w1.heap[b]? = some o := (h.old b (lt_of_block hb) hn).trans hb
end Go.Proofs.YtjohgagiccndpaaGreatDoor

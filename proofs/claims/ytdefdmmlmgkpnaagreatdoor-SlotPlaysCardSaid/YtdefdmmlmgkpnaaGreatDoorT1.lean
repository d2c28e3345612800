/-
  The later one of two contents: contracts of slot.later and slot.Load.
-/
import Derived.Test.YtdefdmmlmgkpnaaGreatDoorT0
namespace Go.Proofs.YtdefdmmlmgkpnaaGreatDoor
open Go.RowKit
set_option linter.unusedVariables false
set_option linter.unusedSimpArgs false

theorem eql_ct (f f' : Bool) (n n' : Int) (s s' : List UInt8) (w : World) : (binOp .eql 65 (.agg #[.bool f, .int .u64 n, strV s]) (.agg #[.bool f', .int .u64 n', strV s'])).run Tryz.prog w = .ok (.bool (decide (f = f' ∧ n = n' ∧ s = s'))) w := by
  unfold strV
  go_simp
  by_cases h1 : f = f' <;> by_cases h2 : n = n' <;> by_cases h3 : s = s' <;> simp [h1, h2, h3]
theorem guard_ct (f f' : Bool) (n n' : Int) (s s' : List UInt8) (x y : Operand) (w : World) : (eqGuard .eql 65 x y (.agg #[.bool f, .int .u64 n, strV s]) (.agg #[.bool f', .int .u64 n', strV s'])).run Tryz.prog w = .ok () w := by
  unfold strV
  go_simp

def CT.no (c : CT) : Prop := c.f = false ∧ c.n = 0 ∧ c.s = []
instance (c : CT) : Decidable c.no := inferInstanceAs (Decidable (_ ∧ _))
def laterP (c d : CT) : CT := if c.no ∨ c.n < d.n then d else c

theorem eql_no (c : CT) (w : World) : (binOp .eql 65 c.val (.agg #[.bool false, .int .u64 0, .string ⟨#[]⟩])).run Tryz.prog w = .ok (.bool (decide c.no)) w := by
  unfold CT.val
  have h := eql_ct c.f false (c.n : Int) 0 c.s [] w
  unfold CT.no
  have e : (c.f = false ∧ (c.n : Int) = 0 ∧ c.s = []) ↔ (c.f = false ∧ c.n = 0 ∧ c.s = []) := by simp
  rw [decide_eq_decide.2 e] at h
  exact h
theorem guard_no (c : CT) (x y : Operand) (w : World) : (eqGuard .eql 65 x y c.val (.agg #[.bool false, .int .u64 0, .string ⟨#[]⟩])).run Tryz.prog w = .ok () w :=
  guard_ct c.f false (c.n : Int) 0 c.s [] x y w

set_option maxRecDepth 20000 in
set_option maxHeartbeats 2000000 in
theorem later_any (c d : CT) (w : World) :
    Calls Tryz.prog 32 #[c.val, d.val] w fun e w' => e = .returned (laterP c d).val ∧ Below w.heap.size w w' := by
  have he := eql_no c
  have hg := guard_no c
  unfold CT.val at he hg ⊢
  obtain ⟨f, n, s⟩ := c
  obtain ⟨f', n', s'⟩ := d
  dsimp only at he hg ⊢
  obtain ⟨V, hV⟩ : ∃ V : ByteArray, V = ⟨s.toArray⟩ := ⟨_, rfl⟩
  obtain ⟨V', hV'⟩ : ∃ V : ByteArray, V = ⟨s'.toArray⟩ := ⟨_, rfl⟩
  rw [show strV s = .string V from by rw [hV]; rfl] at he hg ⊢
  rw [show strV s' = .string V' from by rw [hV']; rfl]
  have HV := Lib.hid (And.intro hV hV')
  clear hV hV'
  have k0 := Below.refl w.heap.size w
  have k1 := k0.alloc k0.size (.cells #[.bool f, .int .u64 (n : Int), .string V] 65)
  have k2 := k1.alloc k1.size (.cells #[.bool f', .int .u64 (n' : Int), .string V'] 65)
  have HA := Lib.hid (k2.alloc k2.size (.cells #[.bool f, .int .u64 (n : Int), .string V] 65))
  have HB := Lib.hid (k2.alloc k2.size (.cells #[.bool f', .int .u64 (n' : Int), .string V'] 65))
  clear k0 k1 k2
  by_cases hno : (CT.mk f n s).no
  · have e : laterP ⟨f, n, s⟩ ⟨f', n', s'⟩ = ⟨f', n', s'⟩ := if_pos (.inl hno)
    rw [e]
    dsimp only
    rw [show strV s' = .string V' from by rw [HV.out.2]; rfl]
    rw [decide_eq_true hno] at he
    clear hno e
    go_enter Tryz.func32, Tryz.ntmps32
    go_wp2_with fail
    refine bodyPost_ret (by simp [results, Tryz.f32, go_sem]; try rfl) rfl ?_
    exact ⟨rfl, HB.out⟩
  · rw [decide_eq_false hno] at he
    by_cases hlt : n < n'
    · have e : laterP ⟨f, n, s⟩ ⟨f', n', s'⟩ = ⟨f', n', s'⟩ := if_pos (.inr hlt)
      rw [e]
      dsimp only
      rw [show strV s' = .string V' from by rw [HV.out.2]; rfl]
      have hd : decide ((n : Int) < (n' : Int)) = true := decide_eq_true (by omega)
      have hlt' : (n : Int) < (n' : Int) := by omega
      clear hno e
      go_enter Tryz.func32, Tryz.ntmps32
      go_wp2_with fail
      refine bodyPost_ret (by simp [results, Tryz.f32, go_sem]; try rfl) rfl ?_
      exact ⟨rfl, HB.out⟩
    · have e : laterP ⟨f, n, s⟩ ⟨f', n', s'⟩ = ⟨f, n, s⟩ := if_neg (by intro h; rcases h with h | h; exact hno h; exact hlt h)
      rw [e]
      dsimp only
      rw [show strV s = .string V from by rw [HV.out.1]; rfl]
      have hlt' : ¬ (n : Int) < (n' : Int) := by omega
      have hle : (n' : Int) ≤ (n : Int) := by omega
      clear hno e
      go_enter Tryz.func32, Tryz.ntmps32
      go_wp2_with fail
      refine bodyPost_ret (by simp [results, Tryz.f32, go_sem]; try rfl) rfl ?_
      exact ⟨rfl, HA.out⟩
end Go.Proofs.YtdefdmmlmgkpnaaGreatDoor


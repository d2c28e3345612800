/-
  Contracts of both Kind.
-/
import Derived.Test.YtodcdefmoliegaaGreatDoorR3
namespace Go.Proofs.YtodcdefmoliegaaGreatDoor
open Go.RowKit
set_option linter.unusedVariables false
set_option linter.unusedSimpArgs false

def kindV (p : Nat × Nat) : Value := .tuple #[.int .i64 (p.1 : Int), .int .i64 (p.2 : Int)]

theorem neq_str (xs ys : List UInt8) (w : World) : (binOp .neq 9 (strV xs) (strV ys)).run Tryz.prog w = .ok (.bool (!decide (xs = ys))) w := by
  unfold strV
  go_simp
  by_cases h : xs = ys <;> simp [h]

theorem eql_str (xs ys : List UInt8) (w : World) : (binOp .eql 9 (strV xs) (strV ys)).run Tryz.prog w = .ok (.bool (decide (xs = ys))) w := by
  unfold strV
  go_simp
  by_cases h : xs = ys <;> simp [h]

theorem nguard_str (xs ys : List UInt8) (x y : Operand) (w : World) : (eqGuard .neq 9 x y (strV xs) (strV ys)).run Tryz.prog w = .ok () w := by
  unfold strV
  go_simp
theorem eguard_str (xs ys : List UInt8) (x y : Operand) (w : World) : (eqGuard .eql 9 x y (strV xs) (strV ys)).run Tryz.prog w = .ok () w := by
  unfold strV
  go_simp

theorem keeps (p : UInt8 → Bool) (x : UInt8) (hx : p x = false) : ∀ l : List UInt8, x ∈ l → x ∈ l.dropWhile p
  | [], h => by cases h
  | y :: r, h => by
    rw [List.dropWhile_cons]
    split
    · rename_i hy
      rcases List.mem_cons.1 h with e | e
      · subst e; rw [hx] at hy; cases hy
      · exact keeps p x hx r e
    · exact h

theorem drop_all (p : UInt8 → Bool) : ∀ l : List UInt8, (∀ x ∈ l, p x = true) → l.dropWhile p = []
  | [], _ => rfl
  | y :: r, h => by
    rw [List.dropWhile_cons, if_pos (h y (.head _))]
    exact drop_all p r fun x hx => h x (.tail _ hx)

theorem trim_zero (l : List UInt8) : Lib.trimB l 0 = [] ↔ l.all (· == 0) = true := by
  unfold Lib.trimB Lib.trimLeftB Lib.trimRightB
  constructor
  · intro h
    rw [List.all_eq_true]
    intro x hx
    cases hp : (x == (0 : UInt8)) with
    | true => rfl
    | false =>
      have h1 := keeps (· == 0) x hp l.reverse (by simpa using hx)
      have h2 := keeps (· == 0) x hp (l.reverse.dropWhile (· == 0)).reverse (by simpa using h1)
      rw [h] at h2
      cases h2
  · intro h
    have h1 : l.reverse.dropWhile (· == (0 : UInt8)) = [] := by
      exact drop_all (· == 0) l.reverse fun x hx => List.all_eq_true.1 h x (by simpa using hx)
    rw [h1]; rfl

theorem idx_str (xs : List UInt8) (i : Nat) (h : i < xs.length) (w : World) : (Instr.index 9 (strV xs) (.int .i64 (i : Int))).run Tryz.prog w = .ok (.int .u8 (nb xs i : Int)) w := by
  have hs : (⟨xs.toArray⟩ : ByteArray).size = xs.length := by show (List.toArray xs).size = _; simp
  exact index_text ⟨xs.toArray⟩ i (by rw [hs]; exact h) w

set_option maxRecDepth 20000 in
set_option maxHeartbeats 400000 in
theorem bodyEnd_any (xs : List UInt8) (h : xs.length = 64) (w : World) :
    Calls Tryz.prog 53 #[strV xs] w fun e w' => e = .returned (.int .i64 ((2 + nb xs 1 : Nat) : Int)) ∧ w' = w := by
  have hx := idx_str xs 1 (by omega)
  have hb := nb_lt xs 1
  have hx' : ∀ w, (Instr.index 9 (strV xs) (.int .i64 1)).run Tryz.prog w = .ok (.int .u8 (nb xs 1 : Int)) w := hx
  generalize nb xs 1 = n at *
  generalize strV xs = V at *
  clear hx
  go_enter Tryz.func53, Tryz.ntmps53
  go_wp2
  go_ret
  exact ⟨by first | rfl | (refine congrArg (fun x => Ending.returned (Value.int .i64 x)) ?_; omega), rfl⟩

end Go.Proofs.YtodcdefmoliegaaGreatDoor


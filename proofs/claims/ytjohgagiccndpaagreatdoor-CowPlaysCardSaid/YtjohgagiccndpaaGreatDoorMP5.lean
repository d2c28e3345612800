/-
  Texts put together: P5, P6.
-/
import Derived.Test.YtjohgagiccndpaaGreatDoorMP0
import Derived.Test.YtjohgagiccndpaaGreatDoorMR
import Derived.Deep.RegionHeld3
import Derived.Test.YtjohgagiccndpaaGreatDoorMK
import Derived.Test.YtjohgagiccndpaaGreatDoorME
/-
  The program's Append, and what it calls.
-/
namespace Go.Proofs.YtjohgagiccndpaaGreatDoor
open Go.RowKit
set_option linter.unusedVariables false
set_option linter.unusedSimpArgs false

def mayP (N F C U : Int) (place : Int) : Prop := 6 ≤ place ∧ place < 6 + N + (nodes N F C U : Int)
instance (N F C U place : Int) : Decidable (mayP N F C U place) := by unfold mayP; infer_instance
theorem nodes_one {N F C U : Int} (h : okG N F C U) : 1 ≤ nodes N F C U := by
  unfold nodes
  rw [if_pos h]
  obtain ⟨n, f, rfl, rfl, ho⟩ := ok_of h
  have e : S n f (H n f + 1) = S n f (H n f) + q n f (H n f) := rfl
  have := q_pos ho (H n f)
  simp only [Int.toNat_natCast]
  omega
theorem nodes_few (N F C U : Int) : nodes N F C U ≤ 255 := by
  unfold nodes
  split
  · rename_i h
    obtain ⟨n, f, rfl, rfl, ho⟩ := ok_of h
    simp only [Int.toNat_natCast]
    exact S_le ho
  · omega

set_option maxRecDepth 20000 in
set_option maxHeartbeats 2000000 in
theorem undoable_any (N F C U place : Int) (w : World) (ho : okG N F C U) :
    Calls Tryz.prog 55 #[geo N F C U, .int .i64 place] w fun e w' => e = .returned (.bool (decide (mayP N F C U place))) ∧ Below w.heap.size w w' := by
  have hn1 := nodes_one ho
  have hnf := nodes_few N F C U
  have h1 := fun w => data_any N F C U 0 w
  have h2 := fun w => root_any N F C U w
  have h3 := fun w => node_any N F C U ((nodes N F C U - 1 : Nat) : Int) w
  have e1 : dataAt N F C U 0 = 6 := by unfold dataAt; rw [if_pos ⟨ho, by omega, by have := ho.1; omega⟩]; rfl
  have e3 : nodeAt N F C U ((nodes N F C U - 1 : Nat) : Int) = 6 + N + (nodes N F C U : Int) - 1 := by unfold nodeAt; rw [if_pos ⟨ho, by omega, by omega⟩]; omega
  rw [e3] at h3
  rw [e1] at h1
  unfold mayP
  obtain ⟨t, ht⟩ : ∃ t : Int, t = 6 + N + (nodes N F C U : Int) - 1 := ⟨_, rfl⟩
  obtain ⟨r, hr⟩ : ∃ r : Int, r = ((nodes N F C U - 1 : Nat) : Int) := ⟨_, rfl⟩
  rw [show (decide (6 ≤ place ∧ place < 6 + N + (nodes N F C U : Int))) = decide (6 ≤ place ∧ place ≤ t) from by congr 1; apply propext; constructor <;> (rintro ⟨x, y⟩; exact ⟨x, by omega⟩)]
  simp only [← hr] at h2 h3
  simp only [← ht] at h3
  unfold geo at h1 h2 h3 ⊢
  have H1 := Lib.hid h1
  have H2 := Lib.hid h2
  have H3 := Lib.hid h3
  have HC := Lib.hid (gb_cells w N F C U)
  unfold gbox at HC
  have HSZ := Lib.hid (World.size_alloc w (.cells #[.int .i64 N, .int .i64 F, .int .i64 C, .int .i64 U] 23))
  clear h1 h2 h3 e1 e3 ht hr hn1 hnf ho
  by_cases hp : 6 ≤ place
  · have hpt : place ≥ 6 := hp
    rw [show decide (6 ≤ place ∧ place ≤ t) = decide (place ≤ t) from by simp [hp]]
    go_enter Tryz.func55, Tryz.ntmps55
    go_upto_region 1 with fail
    have hG : Below (w.heap.size + 1) (w.alloc (.cells #[.int .i64 N, .int .i64 F, .int .i64 C, .int .i64 U] 23)) ((w.alloc (.cells #[.int .i64 N, .int .i64 F, .int .i64 C, .int .i64 U] 23)).drew) := (Below.refl _ _).drew
    go_region_held3 (fun w' => w'.cell? ⟨w.heap.size, 0, none⟩ = some (.int .i64 N) ∧ w'.cell? ⟨w.heap.size, 1, none⟩ = some (.int .i64 F) ∧ w'.cell? ⟨w.heap.size, 2, none⟩ = some (.int .i64 C) ∧ w'.cell? ⟨w.heap.size, 3, none⟩ = some (.int .i64 U))
      (exact HC.out _ hG)
      (first
      | (go_at_call 79; with_reducible refine (H1.out _).mono ?_; rintro r wk ⟨rfl, hb⟩; replace hG := hG.trans (hb.mono (by have := hG.size; have := HSZ.out; omega)); clear hb)
      | (go_at_call 98; with_reducible refine (H2.out _).mono ?_; rintro r wk ⟨rfl, hb⟩; replace hG := hG.trans (hb.mono (by have := hG.size; have := HSZ.out; omega)); clear hb)
      | (go_at_call 97; with_reducible refine (H3.out _).mono ?_; rintro r wk ⟨rfl, hb⟩; replace hG := hG.trans (hb.mono (by have := hG.size; have := HSZ.out; omega)); clear hb))
    all_goals (
      rename_i hHeld
      clear hHeld
      have HB := Lib.hid (((Below.refl _ w).alloc (Nat.le_refl _) (.cells #[.int .i64 N, .int .i64 F, .int .i64 C, .int .i64 U] 23)).trans (hG.mono (by omega)))
      clear hG
      go_wp2
      go_ret
      exact ⟨rfl, HB.out⟩)
  · have hge : ∀ w, (binOp .geq 3 (.int .i64 place) (.int .i64 6)).run Tryz.prog w = .ok (.bool false) w := fun w => by
      have e : decide (6 ≤ place) = false := decide_eq_false hp
      go_simp
      try simp [e]
    rw [decide_eq_false (show ¬ (6 ≤ place ∧ place ≤ t) from fun h => hp h.1)]
    obtain ⟨c0, c1, c2, c3⟩ := HC.out _ (Below.refl _ _)
    go_enter Tryz.func55, Tryz.ntmps55
    go_upto_region 1 with fail
    have hG : Below (w.heap.size + 1) (w.alloc (.cells #[.int .i64 N, .int .i64 F, .int .i64 C, .int .i64 U] 23)) ((w.alloc (.cells #[.int .i64 N, .int .i64 F, .int .i64 C, .int .i64 U] 23)).drew) := (Below.refl _ _).drew
    --BYHAND
    refine wp_region_held_drew (S := fun w' => w'.cell? ⟨w.heap.size, 0, none⟩ = some (.int .i64 N) ∧ w'.cell? ⟨w.heap.size, 1, none⟩ = some (.int .i64 F) ∧ w'.cell? ⟨w.heap.size, 2, none⟩ = some (.int .i64 C) ∧ w'.cell? ⟨w.heap.size, 3, none⟩ = some (.int .i64 U)) (by kernel_rfl) (HC.out _ hG) (fun hHeld => ?_)
    refine wpAnyH_take (i := 0) (oi := { dst := some 5, op := Op.move (Operand.tmp 1), type := 3, pos := "undo.go:114", after := #[], guard := none }) (v := ?_) rfl (by kernel_rfl) (by kernel_rfl) (by kernel_rfl) (fun _ _ _ h => h) (Or.inl ⟨by rfl, ?_⟩) (by assumption) ?_
    rotate_left
    · (intro w hSw; (try dsimp only at hSw); go_simp <;> with_reducible rfl)
    try simp only [Act.put, List.setIfInBounds_toArray, List.set_cons_zero, List.set_cons_succ]
    refine wpAnyH_take (i := 1) (oi := { dst := some 6, op := Op.load 23 (Operand.tmp 2), type := 23, pos := "undo.go:114", after := #[], guard := none }) (v := ?_) rfl (by kernel_rfl) (by kernel_rfl) (by kernel_rfl) (fun _ _ _ h => h) (Or.inl ⟨by rfl, ?_⟩) (by assumption) ?_
    rotate_left
    · (intro w hSw; (try dsimp only at hSw); go_simp <;> with_reducible rfl)
    try simp only [Act.put, List.setIfInBounds_toArray, List.set_cons_zero, List.set_cons_succ]
    refine wpAnyH_ready (rs := [2]) (by kernel_rfl) (by simp) ?_
    refine AllReadyH.cons (o := { dst := some 7, op := Op.call { callee := Callee.value (Operand.func 79), args := #[Operand.tmp 6, Operand.const (Value.int IntKind.i64 0)], argTypes := #[23, 3] }, type := 3, pos := "undo.go:114", after := #[{ on := 1, ground := Ground.data }], guard := none }) rfl (fun K hK => ?_) AllReadyH.nil
    go_simp
    go_at_call 79
    refine (H1.out _).mono ?_
    rintro r wk ⟨rfl, hb⟩
    replace hG := hG.trans (hb.mono (by have := hG.size; have := HSZ.out; omega))
    replace hK := Lib.hid hK
    refine hK.out _ _ (HC.out _ hG) (fun hHeld => ?_)
    clear hK K
    try simp only [Act.put, List.setIfInBounds_toArray, List.set_cons_zero, List.set_cons_succ]
    refine wpAnyH_take (i := 3) (oi := { dst := some 8, op := Op.binOp BinOp.geq 3 (Operand.tmp 5) (Operand.tmp 7) 3, type := 4, pos := "undo.go:114", after := #[{ on := 0, ground := Ground.data }, { on := 2, ground := Ground.data }], guard := none }) (v := ?_) rfl (by kernel_rfl) (by kernel_rfl) (by kernel_rfl) (fun _ _ _ h => h) (Or.inl ⟨by rfl, ?_⟩) (by assumption) ?_
    rotate_left
    · (intro w hSw; (try dsimp only at hSw); go_simp <;> with_reducible rfl)
    try simp only [Act.put, List.setIfInBounds_toArray, List.set_cons_zero, List.set_cons_succ]
    refine wpAnyH_take (i := 4) (oi := { dst := some 9, op := Op.move (Operand.tmp 8), type := 4, pos := "undo.go:114", after := #[{ on := 3, ground := Ground.data }, { on := 2, ground := Ground.chain }], guard := none }) (v := ?_) rfl (by kernel_rfl) (by kernel_rfl) (by kernel_rfl) (fun _ _ _ h => h) (Or.inl ⟨by rfl, ?_⟩) (by assumption) ?_
    rotate_left
    · (intro w hSw; (try dsimp only at hSw); go_simp <;> with_reducible rfl)
    try simp only [Act.put, List.setIfInBounds_toArray, List.set_cons_zero, List.set_cons_succ]
    refine wpAnyH_take (i := 5) (oi := { dst := some 10, op := Op.move (Operand.tmp 1), type := 3, pos := "undo.go:114", after := #[{ on := 4, ground := Ground.guard }], guard := some (4, true) }) (v := undef) rfl (by kernel_rfl) (by kernel_rfl) (by kernel_rfl) (fun _ _ _ h => h) (Or.inr ⟨by rfl, rfl⟩) (by assumption) ?_
    try simp only [Act.put, List.setIfInBounds_toArray, List.set_cons_zero, List.set_cons_succ]
    refine wpAnyH_take (i := 6) (oi := { dst := some 11, op := Op.load 23 (Operand.tmp 2), type := 23, pos := "undo.go:114", after := #[{ on := 4, ground := Ground.guard }], guard := some (4, true) }) (v := undef) rfl (by kernel_rfl) (by kernel_rfl) (by kernel_rfl) (fun _ _ _ h => h) (Or.inr ⟨by rfl, rfl⟩) (by assumption) ?_
    try simp only [Act.put, List.setIfInBounds_toArray, List.set_cons_zero, List.set_cons_succ]
    refine wpAnyH_take (i := 7) (oi := { dst := some 12, op := Op.load 23 (Operand.tmp 2), type := 23, pos := "undo.go:114", after := #[{ on := 4, ground := Ground.guard }], guard := some (4, true) }) (v := undef) rfl (by kernel_rfl) (by kernel_rfl) (by kernel_rfl) (fun _ _ _ h => h) (Or.inr ⟨by rfl, rfl⟩) (by assumption) ?_
    try simp only [Act.put, List.setIfInBounds_toArray, List.set_cons_zero, List.set_cons_succ]
    refine wpAnyH_take (i := 8) (oi := { dst := some 13, op := Op.call { callee := Callee.value (Operand.func 98), args := #[Operand.tmp 12], argTypes := #[23] }, type := 3, pos := "undo.go:114", after := #[{ on := 7, ground := Ground.data }, { on := 4, ground := Ground.chain }, { on := 4, ground := Ground.guard }], guard := some (4, true) }) (v := undef) rfl (by kernel_rfl) (by kernel_rfl) (by kernel_rfl) (fun _ _ _ h => h) (Or.inr ⟨by rfl, rfl⟩) (by assumption) ?_
    try simp only [Act.put, List.setIfInBounds_toArray, List.set_cons_zero, List.set_cons_succ]
    refine wpAnyH_take (i := 9) (oi := { dst := some 14, op := Op.call { callee := Callee.value (Operand.func 97), args := #[Operand.tmp 11, Operand.tmp 13], argTypes := #[23, 3] }, type := 3, pos := "undo.go:114", after := #[{ on := 6, ground := Ground.data }, { on := 8, ground := Ground.data }, { on := 8, ground := Ground.chain }, { on := 4, ground := Ground.guard }], guard := some (4, true) }) (v := undef) rfl (by kernel_rfl) (by kernel_rfl) (by kernel_rfl) (fun _ _ _ h => h) (Or.inr ⟨by rfl, rfl⟩) (by assumption) ?_
    try simp only [Act.put, List.setIfInBounds_toArray, List.set_cons_zero, List.set_cons_succ]
    refine wpAnyH_take (i := 10) (oi := { dst := some 15, op := Op.binOp BinOp.leq 3 (Operand.tmp 10) (Operand.tmp 14) 3, type := 4, pos := "undo.go:114", after := #[{ on := 5, ground := Ground.data }, { on := 9, ground := Ground.data }, { on := 4, ground := Ground.guard }], guard := some (4, true) }) (v := undef) rfl (by kernel_rfl) (by kernel_rfl) (by kernel_rfl) (fun _ _ _ h => h) (Or.inr ⟨by rfl, rfl⟩) (by assumption) ?_
    try simp only [Act.put, List.setIfInBounds_toArray, List.set_cons_zero, List.set_cons_succ]
    refine wpAnyH_take (i := 11) (oi := { dst := some 16, op := Op.pick (Operand.tmp 9) (Operand.tmp 15) (Operand.const (Value.bool false)), type := 4, pos := "undo.go:114", after := #[{ on := 4, ground := Ground.data }, { on := 10, ground := Ground.data }], guard := none }) (v := ?_) rfl (by kernel_rfl) (by kernel_rfl) (by kernel_rfl) (fun _ _ _ h => h) (Or.inl ⟨by rfl, ?_⟩) (by assumption) ?_
    rotate_left
    · (intro w hSw; (try dsimp only at hSw); go_simp <;> with_reducible rfl)
    try simp only [Act.put, List.setIfInBounds_toArray, List.set_cons_zero, List.set_cons_succ]
    refine wpAnyH_take (i := 12) (oi := { dst := some 4, op := Op.assign (Operand.tmp 16), type := 4, pos := "undo.go:114", after := #[{ on := 11, ground := Ground.data }, { on := 9, ground := Ground.chain }, { on := 0, ground := Ground.phase }, { on := 1, ground := Ground.phase }, { on := 2, ground := Ground.phase }, { on := 3, ground := Ground.phase }, { on := 4, ground := Ground.phase }, { on := 5, ground := Ground.phase }, { on := 6, ground := Ground.phase }, { on := 7, ground := Ground.phase }, { on := 8, ground := Ground.phase }, { on := 9, ground := Ground.phase }, { on := 10, ground := Ground.phase }, { on := 11, ground := Ground.phase }], guard := none }) (v := ?_) rfl (by kernel_rfl) (by kernel_rfl) (by kernel_rfl) (fun _ _ _ h => h) (Or.inl ⟨by rfl, ?_⟩) (by assumption) ?_
    rotate_left
    · (intro w hSw; (try dsimp only at hSw); go_simp <;> with_reducible rfl)
    try simp only [Act.put, List.setIfInBounds_toArray, List.set_cons_zero, List.set_cons_succ]
    refine wpAnyH_done (by kernel_rfl) ?_ _
    --BYHANDEND
    have HB := Lib.hid (((Below.refl _ w).alloc (Nat.le_refl _) (.cells #[.int .i64 N, .int .i64 F, .int .i64 C, .int .i64 U] 23)).trans (hG.mono (by omega)))
    clear hG
    go_wp2
    go_ret
    exact ⟨rfl, HB.out⟩

/-- A head as a value, and as a sector. -/
def headV (tag epoch k place sum : Nat) : Value := .agg #[.int .u64 (tag : Int), .int .u64 (epoch : Int), .int .i64 (k : Int), .int .i64 (place : Int), .int .u32 (sum : Int)]
def headL (tag epoch k place sum : Nat) : List UInt8 := enc tag 8 ++ enc epoch 8 ++ enc k 4 ++ enc place 4 ++ enc sum 4
theorem headL_length (tag epoch k place sum : Nat) : (headL tag epoch k place sum).length = 28 := by simp [headL, enc_length]
def headB (tag epoch k place sum : Nat) : ByteArray := ⟨(recL 7 (headL tag epoch k place sum)).toArray⟩
theorem headB_size (tag epoch k place sum : Nat) : (headB tag epoch k place sum).size = 64 := by
  show (List.toArray (recL 7 _)).size = 64
  rw [List.size_toArray, recL_length _ _ (by rw [headL_length]; omega)]
theorem make_head (tag epoch k place sum : Nat) : makeP 7 (headL tag epoch k place sum) = (recL 7 (headL tag epoch k place sum), 0) := by
  unfold makeP
  rw [if_neg (by omega), if_neg (by rw [headL_length]; omega)]
  rfl

set_option maxRecDepth 20000 in
set_option maxHeartbeats 2000000 in
theorem encode_any (tag epoch k place sum : Nat) (w : World) (h1 : tag < 18446744073709551616) (h2 : epoch < 18446744073709551616) (h3 : k < 4294967296) (h4 : place < 4294967296) (h5 : sum < 4294967296) :
    Calls Tryz.prog 59 #[headV tag epoch k place sum] w fun e w' => e = .returned (.string (headB tag epoch k place sum)) ∧ Below w.heap.size w w' := by
  have p1 := fun w => put_ok none 0 0 [] 8 tag w (rd_nil w) (by omega) (by omega) h1 (by omega)
  have p2 := fun g c w (h : Rd w (some ⟨g, 0, none⟩) 8 c (enc tag 8)) => put_ok (some ⟨g, 0, none⟩) 8 c _ 8 epoch w h (by omega) (by omega) h2 (by omega)
  have p3 := fun g c w (h : Rd w (some ⟨g, 0, none⟩) 16 c (enc tag 8 ++ enc epoch 8)) => put_ok (some ⟨g, 0, none⟩) 16 c _ 4 k w h (by omega) (by omega) (by omega) (by omega)
  have p4 := fun g c w (h : Rd w (some ⟨g, 0, none⟩) 20 c (enc tag 8 ++ enc epoch 8 ++ enc k 4)) => put_ok (some ⟨g, 0, none⟩) 20 c _ 4 place w h (by omega) (by omega) (by omega) (by omega)
  have p5 := fun g c w (h : Rd w (some ⟨g, 0, none⟩) 24 c (enc tag 8 ++ enc epoch 8 ++ enc k 4 ++ enc place 4)) => put_ok (some ⟨g, 0, none⟩) 24 c _ 4 sum w h (by omega) (by omega) (by omega) (by omega)
  simp only [Nat.zero_add, List.nil_append, Nat.reduceAdd] at p1 p2 p3 p4 p5
  have hmk := fun w => make_any 7 ⟨(headL tag epoch k place sum).toArray⟩ w (by show (List.toArray (headL tag epoch k place sum)).size ≤ _; rw [List.size_toArray, headL_length]; omega)
  rw [show (⟨(headL tag epoch k place sum).toArray⟩ : ByteArray).data.toList = headL tag epoch k place sum from rfl, make_head] at hmk
  unfold tupV at hmk
  dsimp only at hmk
  rw [show strV (recL 7 (headL tag epoch k place sum)) = Value.string (headB tag epoch k place sum) from rfl] at hmk
  obtain ⟨V2, hV2⟩ : ∃ V : Value, V = Value.string ⟨(headL tag epoch k place sum).toArray⟩ := ⟨_, rfl⟩
  rw [← hV2] at hmk
  obtain ⟨V3, hV3⟩ : ∃ V, V = headB tag epoch k place sum := ⟨_, rfl⟩
  rw [← hV3] at hmk ⊢
  have c1 : IntKind.u64.wrap (k : Int) = (k : Int) := IntWalk.u64_in _ (by omega)
  have c2 : IntKind.u64.wrap (place : Int) = (place : Int) := IntWalk.u64_in _ (by omega)
  have c3 : IntKind.u64.wrap (sum : Int) = (sum : Int) := IntWalk.u64_in _ (by omega)
  have hbx : ∀ w', Below (w.heap.size + 1) (w.alloc (.cells #[.int .u64 (tag : Int), .int .u64 (epoch : Int), .int .i64 (k : Int), .int .i64 (place : Int), .int .u32 (sum : Int)] 105)) w' → w'.cell? ⟨w.heap.size, 0, none⟩ = some (.int .u64 (tag : Int)) ∧ w'.cell? ⟨w.heap.size, 1, none⟩ = some (.int .u64 (epoch : Int)) ∧ w'.cell? ⟨w.heap.size, 2, none⟩ = some (.int .i64 (k : Int)) ∧ w'.cell? ⟨w.heap.size, 3, none⟩ = some (.int .i64 (place : Int)) ∧ w'.cell? ⟨w.heap.size, 4, none⟩ = some (.int .u32 (sum : Int)) := by
    intro w' hb
    have e := (hb.block w.heap.size (Nat.lt_succ_self _)).trans (heap_alloc_new w _)
    refine ⟨?_, ?_, ?_, ?_, ?_⟩ <;> (rw [cell_of_blk e]; rfl)
  have hsz := World.size_alloc w (.cells #[.int .u64 (tag : Int), .int .u64 (epoch : Int), .int .i64 (k : Int), .int .i64 (place : Int), .int .u32 (sum : Int)] 105)
  have hB0 : Below w.heap.size w (w.alloc (.cells #[.int .u64 (tag : Int), .int .u64 (epoch : Int), .int .i64 (k : Int), .int .i64 (place : Int), .int .u32 (sum : Int)] 105)) := (Below.refl _ w).alloc (Nat.le_refl _) _
  obtain ⟨W0, hW0⟩ : ∃ W0, W0 = w.alloc (.cells #[.int .u64 (tag : Int), .int .u64 (epoch : Int), .int .i64 (k : Int), .int .i64 (place : Int), .int .u32 (sum : Int)] 105) := ⟨_, rfl⟩
  rw [← hW0] at hbx hsz hB0
  have P1 := Lib.hid p1
  have P2 := Lib.hid p2
  have P3 := Lib.hid p3
  have P4 := Lib.hid p4
  have P5 := Lib.hid p5
  have HMK := Lib.hid hmk
  have HV2 := Lib.hid hV2
  have HBX := Lib.hid hbx
  have HSZ := Lib.hid hsz
  have HB0 := Lib.hid hB0
  have HW0 := Lib.hid hW0
  have s1 : (0 : Int) ≤ (sum : Int) := by omega
  have s2 : (sum : Int) < 4294967296 := by omega
  clear p1 p2 p3 p4 p5 hmk hV2 hV3 hbx hsz hB0 hW0 h1 h2 h3 h4 h5
  unfold headV
  go_enter Tryz.func59, Tryz.ntmps59
  obtain ⟨b0, b1, b2, b3, b4⟩ := HBX.out _ (Below.refl _ _)
  go_upto_region 1 with fail
  rw [← HW0.out]
  go_wp2_with fail
  refine (P1.out _).mono ?_
  rintro e w1 ⟨g1, c1', rfl, -, hrd, hb⟩
  have HX1 := Lib.hid (show Below (w.heap.size + 1) W0 w1 from hb.mono (by have := HSZ.out; omega))
  have hp := P2.out g1 c1' w1 hrd
  have HP := Lib.hid hp
  clear hrd hb hp P1 P2 b0 b1 b2 b3 b4
  obtain ⟨b0, b1, b2, b3, b4⟩ := HBX.out _ HX1.out
  go_wp2_with fail
  refine HP.out.mono ?_
  rintro e w2 ⟨g2, c2', rfl, -, hrd, hb⟩
  have HX2 := Lib.hid (HX1.out.trans (hb.mono (by have := HX1.out.size; have := HSZ.out; omega)))
  have hp := P3.out g2 c2' w2 hrd
  have HP3 := Lib.hid hp
  clear hrd hb hp HP P3 b0 b1 b2 b3 b4 HX1
  obtain ⟨b0, b1, b2, b3, b4⟩ := HBX.out _ HX2.out
  go_wp2_with fail
  refine HP3.out.mono ?_
  rintro e w3 ⟨g3, c3', rfl, -, hrd, hb⟩
  have HX3 := Lib.hid (HX2.out.trans (hb.mono (by have := HX2.out.size; have := HSZ.out; omega)))
  have hp := P4.out g3 c3' w3 hrd
  have HP4 := Lib.hid hp
  clear hrd hb hp HP3 P4 b0 b1 b2 b3 b4 HX2
  obtain ⟨b0, b1, b2, b3, b4⟩ := HBX.out _ HX3.out
  go_wp2_with fail
  refine HP4.out.mono ?_
  rintro e w4 ⟨g4, c4', rfl, -, hrd, hb⟩
  have HX4 := Lib.hid (HX3.out.trans (hb.mono (by have := HX3.out.size; have := HSZ.out; omega)))
  have hp := P5.out g4 c4' w4 hrd
  have HP5 := Lib.hid hp
  clear hrd hb hp HP4 P5 b0 b1 b2 b3 b4 HX3
  obtain ⟨b0, b1, b2, b3, b4⟩ := HBX.out _ HX4.out
  go_wp2_with fail
  refine HP5.out.mono ?_
  rintro e w5 ⟨g5, c5', rfl, -, hrd, hb⟩
  have HX5 := Lib.hid (HX4.out.trans (hb.mono (by have := HX4.out.size; have := HSZ.out; omega)))
  have hcv := rd_string hrd
  change _ = Result.ok (Value.string ⟨(headL tag epoch k place sum).toArray⟩) w5 at hcv
  rw [← HV2.out] at hcv
  clear hrd hb HP5 b0 b1 b2 b3 b4 HX4
  go_wp2_with fail
  refine (HMK.out _).mono ?_
  rintro e w6 ⟨rfl, hb⟩
  have HX6 := Lib.hid (HX5.out.trans (hb.mono (by have := HX5.out.size; have := HSZ.out; omega)))
  have HFIN := Lib.hid (HB0.out.trans (HX6.out.mono (by omega)))
  clear hb HMK hcv HX5
  go_wp2
  go_ret
  exact ⟨rfl, HFIN.out⟩

set_option maxRecDepth 20000 in
set_option maxHeartbeats 2000000 in
theorem uentry_any (tag epoch k place sum : Nat) (old : ByteArray) (w : World) :
    Calls Tryz.prog 60 #[headV tag epoch k place sum, .string old] w fun e w' => e = .returned (En.val ⟨tag, epoch, place, old⟩) ∧ Below w.heap.size w w' := by
  unfold headV En.val
  dsimp only
  generalize (tag : Int) = x0
  generalize (epoch : Int) = x1
  generalize (k : Int) = x2
  generalize (place : Int) = x3
  generalize (sum : Int) = x4
  have e1 := heap_alloc_new (w.alloc (.cells #[.int .u64 x0, .int .u64 x1, .int .i64 x2, .int .i64 x3, .int .u32 x4] 105)) (.cells #[.int .u64 x0, .int .u64 x1, .int .i64 x3, .string old] 55)
  rw [World.size_alloc] at e1
  have hb2 : Below w.heap.size w ((w.alloc (.cells #[.int .u64 x0, .int .u64 x1, .int .i64 x2, .int .i64 x3, .int .u32 x4] 105)).alloc (.cells #[.int .u64 x0, .int .u64 x1, .int .i64 x3, .string old] 55)) := ((Below.refl _ w).alloc (Nat.le_refl _) _).alloc (by simp) _
  have k0 := cell_of_blk e1 0
  have k1 := cell_of_blk e1 1
  have k2 := cell_of_blk e1 2
  have k3 := cell_of_blk e1 3
  have HB2 := Lib.hid hb2
  have HK := Lib.hid (And.intro k0 (And.intro k1 (And.intro k2 k3)))
  clear e1 hb2 k0 k1 k2 k3
  go_enter Tryz.func60, Tryz.ntmps60
  go_wp2
  obtain ⟨k0, k1, k2, k3⟩ := HK.out
  refine bodyPost_ret (by simp [results, Tryz.f60, go_sem, k0, k1, k2, k3]; try rfl) rfl ?_
  exact ⟨rfl, HB2.out⟩

/-- An entry that is appended: the answer, the entry, and the disk then. -/
structure ApR where
  why : Int
  en : En
  ds : DS
def sumN (s : ByteArray) : Nat := addN 0 s.data.toList
def ApR.val (r : ApR) : Value := .tuple #[r.en.val, .int .i64 r.why]
def appP (N F C U : Int) (S : DS) (k : Int) (tag epoch : Nat) (place : Int) : ApR :=
  if ¬ okG N F C U then ⟨12, noEn, S⟩ else if k < 0 ∨ U ≤ k then ⟨11, noEn, S⟩ else if ¬ mayP N F C U place then ⟨3, noEn, S⟩ else
    if (S.read place).2 ≠ 0 then ⟨(S.read place).2, noEn, S⟩ else
      if (storeP S (areaAt N F C U 1 (2 * k + 1)) (S.read place).1).1 ≠ 0 then ⟨(storeP S (areaAt N F C U 1 (2 * k + 1)) (S.read place).1).1, noEn, (storeP S (areaAt N F C U 1 (2 * k + 1)) (S.read place).1).2⟩ else
        if (storeP (storeP S (areaAt N F C U 1 (2 * k + 1)) (S.read place).1).2 (areaAt N F C U 1 (2 * k)) (headB tag epoch k.toNat place.toNat (sumN (S.read place).1))).1 ≠ 0 then
          ⟨(storeP (storeP S (areaAt N F C U 1 (2 * k + 1)) (S.read place).1).2 (areaAt N F C U 1 (2 * k)) (headB tag epoch k.toNat place.toNat (sumN (S.read place).1))).1, noEn, (storeP (storeP S (areaAt N F C U 1 (2 * k + 1)) (S.read place).1).2 (areaAt N F C U 1 (2 * k)) (headB tag epoch k.toNat place.toNat (sumN (S.read place).1))).2⟩
        else ⟨0, ⟨tag, epoch, place, (S.read place).1⟩, (storeP (storeP S (areaAt N F C U 1 (2 * k + 1)) (S.read place).1).2 (areaAt N F C U 1 (2 * k)) (headB tag epoch k.toNat place.toNat (sumN (S.read place).1))).2⟩
theorem appP_ok {N F C U : Int} {S : DS} {M : Nat} (h : S.ok M) (k : Int) (tag epoch : Nat) (place : Int) : (appP N F C U S k tag epoch place).ds.ok (M + 4) := by
  unfold appP
  split
  · exact h.mono (by omega)
  · split
    · exact h.mono (by omega)
    · split
      · exact h.mono (by omega)
      · split
        · exact h.mono (by omega)
        · split
          · exact (storeP_ok h _ _).mono (by omega)
          · split
            · exact storeP_ok (storeP_ok h _ _) _ _
            · exact storeP_ok (storeP_ok h _ _) _ _
end Go.Proofs.YtjohgagiccndpaaGreatDoor
/-
  The program's Append, whole.
-/
namespace Go.Proofs.YtjohgagiccndpaaGreatDoor
open Go.RowKit
set_option linter.unusedVariables false
set_option linter.unusedSimpArgs false

/-- A box of four cells. -/
def Box4 (W : World) (p : Nat) (t : TypeId) (a b c d : Value) : Prop := W.heap[p]? = some (.cells #[a, b, c, d] t (0, 0))
theorem Box4.c0 {W p t a b c d} (h : Box4 W p t a b c d) : W.cell? ⟨p, 0, none⟩ = some a := by rw [cell_of_blk h]; rfl
theorem Box4.c1 {W p t a b c d} (h : Box4 W p t a b c d) : W.cell? ⟨p, 1, none⟩ = some b := by rw [cell_of_blk h]; rfl
theorem Box4.c2 {W p t a b c d} (h : Box4 W p t a b c d) : W.cell? ⟨p, 2, none⟩ = some c := by rw [cell_of_blk h]; rfl
theorem Box4.c3 {W p t a b c d} (h : Box4 W p t a b c d) : W.cell? ⟨p, 3, none⟩ = some d := by rw [cell_of_blk h]; rfl
theorem Box4.fr {W p t a b c d} (h : Box4 W p t a b c d) (i : Nat) : W.frozen? ⟨p, i, none⟩ = false := free_of_blk h i
theorem Box4.set {W p t a b c d} (h : Box4 W p t a b c d) (a' b' c' d' : Value) :
    Box4 ((((W.setCell ⟨p, 0, none⟩ a').setCell ⟨p, 1, none⟩ b').setCell ⟨p, 2, none⟩ c').setCell ⟨p, 3, none⟩ d') p t a' b' c' d' :=
  blk_setCell (blk_setCell (blk_setCell (blk_setCell h)))
theorem below_set4 {W W' : World} {n p : Nat} {a b c d : Value} (h : Below n W W') (hp : n ≤ p) : Below n W ((((W'.setCell ⟨p, 0, none⟩ a).setCell ⟨p, 1, none⟩ b).setCell ⟨p, 2, none⟩ c).setCell ⟨p, 3, none⟩ d) :=
  (((h.setCell (p := ⟨p, 0, none⟩) hp _).setCell (p := ⟨p, 1, none⟩) hp _).setCell (p := ⟨p, 2, none⟩) hp _).setCell (p := ⟨p, 3, none⟩) hp _
theorem pp_set4 {w w1 : World} {B p q : Nat} {v1 v2 : Value} {S : DS} {a b c d : Value} (h : PP w B p v1 v2 S w1) (hq : w.heap.size ≤ q → False) (hn : ¬ foot p v1 v2 q) (hlt : q < w.heap.size) (w0 : World) (h0 : Below w0.heap.size w0 w) (hv : ∀ k, foot p v1 v2 k → k < w0.heap.size) (hq0 : w0.heap.size ≤ q) :
    PP w0 B p v1 v2 S ((((w1.setCell ⟨q, 0, none⟩ a).setCell ⟨q, 1, none⟩ b).setCell ⟨q, 2, none⟩ c).setCell ⟨q, 3, none⟩ d) := by
  obtain ⟨a1, a2, hp, hF, hN⟩ := h
  have hne : ∀ k, foot p a1 a2 k → k ≠ q := fun k hk e => by
    subst e
    rcases hN _ hk with h1 | h1
    · exact hn h1
    · omega
  have hset : ∀ (W : World) (i : Nat) (u : Value) (k : Nat), k ≠ q → (W.setCell ⟨q, i, none⟩ u).heap[k]? = W.heap[k]? := fun W i u k hk => Below.heap_setCell _ _ _ _ (fun e => hk (by simpa using e))
  refine ⟨a1, a2, hp.kept fun k hk => ?_, ?_, fun k hk => (hN k hk).elim .inl (fun h => .inr (Nat.le_trans h0.size h))⟩
  · rw [hset _ _ _ _ (hne k hk), hset _ _ _ _ (hne k hk), hset _ _ _ _ (hne k hk), hset _ _ _ _ (hne k hk)]
  · have hf0 : Fr (foot p v1 v2) w0 w1 := ⟨hF.os.trans h0.os, hF.tape.trans h0.tape, hF.output.trans h0.output, Nat.le_trans h0.size hF.size, fun i hi hn => (hF.block i (Nat.lt_of_lt_of_le hi h0.size) hn).trans (h0.block i hi)⟩
    exact (((hf0.set (.inr hq0)).set (.inr hq0)).set (.inr hq0)).set (.inr hq0)

set_option maxRecDepth 20000 in
set_option maxHeartbeats 4000000 in
theorem append_any (B p : Nat) (v1 v2 : Value) (S : DS) (N F C U k : Int) (tag epoch : Nat) (place : Int) (w : World) (h : PD w B p v1 v2 S) (hB : B ≤ w.heap.size) (M : Nat) (hok : S.ok M) (hM : M + 4 ≤ 1000000) (ht : tag < 18446744073709551616) (he : epoch < 18446744073709551616) (hsz : ∀ (T : DS) (x : Int), T = S → (T.read x).1.size ≤ 140737488355328) :
    Calls Tryz.prog 18 #[.pointer (some ⟨p, 0, none⟩), geo N F C U, .int .i64 k, .int .u64 (tag : Int), .int .u64 (epoch : Int), .int .i64 place] w fun e w' => e = .returned (appP N F C U S k tag epoch place).val ∧ PP w B p v1 v2 (appP N F C U S k tag epoch place).ds w' := by
  have HOLD := Lib.hid hsz
  have hv := fun k hk => (h.foot_low k hk).2
  have hr := fun w => gright_any N F C U w
  -- the two boxes
  have hg0 : ((w.alloc (.cells #[.int .i64 N, .int .i64 F, .int .i64 C, .int .i64 U] 23)).alloc (.cells #[.int .u64 0, .int .u64 0, .int .i64 0, .string ⟨#[]⟩] 55)).heap[w.heap.size]? = some (.cells #[.int .i64 N, .int .i64 F, .int .i64 C, .int .i64 U] 23 (0, 0)) := (Below.heap_alloc _ _ _ (by simp)).trans (heap_alloc_new w _)
  have hq0 : Box4 ((w.alloc (.cells #[.int .i64 N, .int .i64 F, .int .i64 C, .int .i64 U] 23)).alloc (.cells #[.int .u64 0, .int .u64 0, .int .i64 0, .string ⟨#[]⟩] 55)) (w.heap.size + 1) 55 (.int .u64 0) (.int .u64 0) (.int .i64 0) (.string ⟨#[]⟩) := by
    have e := heap_alloc_new (w.alloc (.cells #[.int .i64 N, .int .i64 F, .int .i64 C, .int .i64 U] 23)) (.cells #[.int .u64 0, .int .u64 0, .int .i64 0, .string ⟨#[]⟩] 55)
    rw [World.size_alloc] at e
    exact e
  have hb0 : Below w.heap.size w ((w.alloc (.cells #[.int .i64 N, .int .i64 F, .int .i64 C, .int .i64 U] 23)).alloc (.cells #[.int .u64 0, .int .u64 0, .int .i64 0, .string ⟨#[]⟩] 55)) := ((Below.refl _ w).alloc (Nat.le_refl _) _).alloc (by simp) _
  have hs0 : ((w.alloc (.cells #[.int .i64 N, .int .i64 F, .int .i64 C, .int .i64 U] 23)).alloc (.cells #[.int .u64 0, .int .u64 0, .int .i64 0, .string ⟨#[]⟩] 55)).heap.size = w.heap.size + 2 := by simp
  obtain ⟨W, hW⟩ : ∃ W, W = ((w.alloc (.cells #[.int .i64 N, .int .i64 F, .int .i64 C, .int .i64 U] 23)).alloc (.cells #[.int .u64 0, .int .u64 0, .int .i64 0, .string ⟨#[]⟩] 55)) := ⟨_, rfl⟩
  rw [← hW] at hg0 hq0 hb0 hs0
  have hgc : ∀ w', Below W.heap.size W w' → w'.cell? ⟨w.heap.size, 0, none⟩ = some (.int .i64 N) ∧ w'.cell? ⟨w.heap.size, 1, none⟩ = some (.int .i64 F) ∧ w'.cell? ⟨w.heap.size, 2, none⟩ = some (.int .i64 C) ∧ w'.cell? ⟨w.heap.size, 3, none⟩ = some (.int .i64 U) := fun w' hb => by
    have e := (hb.block _ (lt_of_block hg0)).trans hg0
    refine ⟨?_, ?_, ?_, ?_⟩ <;> (rw [cell_of_blk e]; rfl)
  have hqc : ∀ w', Below W.heap.size W w' → Box4 w' (w.heap.size + 1) 55 (.int .u64 0) (.int .u64 0) (.int .i64 0) (.string ⟨#[]⟩) := fun w' hb => (hb.block _ (lt_of_block hq0)).trans hq0
  have hpd := h.below hb0
  obtain ⟨AR, hAR⟩ : ∃ r, r = appP N F C U S k tag epoch place := ⟨_, rfl⟩
  rw [← hAR]
  have HAR := Lib.hid hAR
  have HGC := Lib.hid hgc
  have HQC := Lib.hid hqc
  have HPD := Lib.hid hpd
  have HB0 := Lib.hid hb0
  have HS0 := Lib.hid hs0
  have HW := Lib.hid hW
  have HN := Lib.hid (show noEn.val = .agg #[.int .u64 0, .int .u64 0, .int .i64 0, .string ⟨#[]⟩] from rfl)
  unfold geo at hr ⊢
  clear hAR hgc hqc hpd hb0 hs0 hW hg0 hq0
  by_cases ho : okG N F C U
  · rw [decide_eq_true ho] at hr
    have HR := Lib.hid hr
    clear hr
    by_cases hk : k < 0 ∨ U ≤ k
    · have hap : AR = ⟨11, noEn, S⟩ := by rw [HAR.out]; unfold appP; rw [if_neg (fun h => h ho), if_pos hk]
      rcases hk with hk | hk
      · have q1 : decide (k < 0) = true := decide_eq_true hk
        go_enter Tryz.func18, Tryz.ntmps18
        go_wp2_with fail
        rw [← HW.out]
        refine (HR.out _).mono ?_
        rintro e w1 ⟨rfl, hb⟩
        have HB1 := Lib.hid hb
        clear hb HR
        obtain ⟨c0, c1, c2, c3⟩ := HGC.out _ HB1.out
        have hq := HQC.out _ HB1.out
        have d0 := hq.c0
        have d1 := hq.c1
        have d2 := hq.c2
        have d3 := hq.c3
        have f0 := hq.fr 0
        have f1 := hq.fr 1
        have f2 := hq.fr 2
        have f3 := hq.fr 3
        have HQ1 := Lib.hid (hq.set (.int .u64 0) (.int .u64 0) (.int .i64 0) (.string ⟨#[]⟩))
        have HE := Lib.hid (below_set4 (a := .int .u64 0) (b := .int .u64 0) (c := .int .i64 0) (d := .string ⟨#[]⟩) (HB0.out.trans (HB1.out.mono HB0.out.size)) (show w.heap.size ≤ w.heap.size + 1 by omega))
        clear hq
        go_wp2
        refine bodyPost_ret (by have k0 := HQ1.out.c0; have k1 := HQ1.out.c1; have k2 := HQ1.out.c2; have k3 := HQ1.out.c3; simp [results, Tryz.f18, go_sem, k0, k1, k2, k3]; try rfl) rfl ?_
        rw [hap]
        exact ⟨by unfold ApR.val; rw [HN.out], pp_after h HE.out⟩
      · have q1 : ¬ k < 0 := by have := ho.2.2.2.2.2.2.1; omega
        have q2 : U ≤ k := hk
        go_enter Tryz.func18, Tryz.ntmps18
        go_wp2_with fail
        rw [← HW.out]
        refine (HR.out _).mono ?_
        rintro e w1 ⟨rfl, hb⟩
        have HB1 := Lib.hid hb
        clear hb HR
        obtain ⟨c0, c1, c2, c3⟩ := HGC.out _ HB1.out
        have hq := HQC.out _ HB1.out
        have d0 := hq.c0
        have d1 := hq.c1
        have d2 := hq.c2
        have d3 := hq.c3
        have f0 := hq.fr 0
        have f1 := hq.fr 1
        have f2 := hq.fr 2
        have f3 := hq.fr 3
        have HQ1 := Lib.hid (hq.set (.int .u64 0) (.int .u64 0) (.int .i64 0) (.string ⟨#[]⟩))
        have HE := Lib.hid (below_set4 (a := .int .u64 0) (b := .int .u64 0) (c := .int .i64 0) (d := .string ⟨#[]⟩) (HB0.out.trans (HB1.out.mono HB0.out.size)) (show w.heap.size ≤ w.heap.size + 1 by omega))
        clear hq
        go_wp2
        refine bodyPost_ret (by have k0 := HQ1.out.c0; have k1 := HQ1.out.c1; have k2 := HQ1.out.c2; have k3 := HQ1.out.c3; simp [results, Tryz.f18, go_sem, k0, k1, k2, k3]; try rfl) rfl ?_
        rw [hap]
        exact ⟨by unfold ApR.val; rw [HN.out], pp_after h HE.out⟩
    · have k1 : ¬ k < 0 := by omega
      have k2 : ¬ U ≤ k := by omega
      have hu := fun w => undoable_any N F C U place w ho
      unfold geo at hu
      by_cases hm : mayP N F C U place
      · rw [decide_eq_true hm] at hu
        have HU := Lib.hid hu
        clear hu
        have hrd := fun w' (hb : Below W.heap.size W w') => read_any B p v1 v2 S place w' (HPD.out.below hb) (by have := hok.few; have := hok.did; omega) (by have := hok.len; omega)
        obtain ⟨old, re, hre⟩ : ∃ x k, S.read place = (x, k) := ⟨_, _, rfl⟩
        rw [hre] at hrd
        unfold two at hrd
        dsimp only at hrd
        have HRD := Lib.hid hrd
        have HRE := Lib.hid hre
        clear hrd hre
        by_cases hr0 : re = 0
        · subst hr0
          obtain ⟨kn, rfl⟩ : ∃ kn : Nat, k = (kn : Int) := ⟨k.toNat, by omega⟩
          obtain ⟨pn, rfl⟩ : ∃ pn : Nat, place = (pn : Int) := ⟨place.toNat, by have := hm.1; omega⟩
          have hkn : kn < 320 := by have := ho.2.2.2.2.2.2.2; omega
          have hpn : pn < 1000 := by have := hm.2; have := nodes_few N F C U; have := ho.2.1; omega
          have hap : AR = (if (storeP S (areaAt N F C U 1 (2 * kn + 1)) old).1 ≠ 0 then ⟨(storeP S (areaAt N F C U 1 (2 * kn + 1)) old).1, noEn, (storeP S (areaAt N F C U 1 (2 * kn + 1)) old).2⟩ else
                  if (storeP (storeP S (areaAt N F C U 1 (2 * kn + 1)) old).2 (areaAt N F C U 1 (2 * kn)) (headB tag epoch kn pn (sumN old))).1 ≠ 0 then
                    ⟨(storeP (storeP S (areaAt N F C U 1 (2 * kn + 1)) old).2 (areaAt N F C U 1 (2 * kn)) (headB tag epoch kn pn (sumN old))).1, noEn, (storeP (storeP S (areaAt N F C U 1 (2 * kn + 1)) old).2 (areaAt N F C U 1 (2 * kn)) (headB tag epoch kn pn (sumN old))).2⟩
                  else ⟨0, ⟨tag, epoch, pn, old⟩, (storeP (storeP S (areaAt N F C U 1 (2 * kn + 1)) old).2 (areaAt N F C U 1 (2 * kn)) (headB tag epoch kn pn (sumN old))).2⟩) := by
            rw [HAR.out]; unfold appP
            rw [if_neg (fun h => h ho), if_neg hk, if_neg (fun h => h hm), HRE.out]
            simp only [ne_eq, not_true_eq_false, if_false, Int.toNat_natCast]
          have hol : old.size ≤ 140737488355328 := by
            have h64 := HOLD.out S (pn : Int) rfl
            rw [HRE.out] at h64
            exact h64
          obtain ⟨cc, hcv⟩ : ∃ cc : World → Nat, ∀ w, ∃ w', (convert 9 103 (.string old)).run Tryz.prog w = .ok (.slice (some ⟨w.heap.size, 0, none⟩) old.size (cc w)) w' ∧ Rd w' (some ⟨w.heap.size, 0, none⟩) old.size (cc w) old.data.toList ∧ Below w.heap.size w w' := ⟨fun w => (cv_rd old hol w).choose, fun w => (cv_rd old hol w).choose_spec⟩
          have hlo := fun w => locations_any N F C U kn (by omega) w
          have hsum : sumN old < 4294967296 := addN_lt _ _
          obtain ⟨sm, hsm⟩ : ∃ sm, sm = sumN old := ⟨_, rfl⟩
          rw [← hsm] at hap hsum
          have hen := fun w => encode_any tag epoch kn pn sm w ht he (by omega) (by omega) hsum
          have hey := fun w => uentry_any tag epoch kn pn sm old w
          have hst1 := fun w' (hp : PD w' B p v1 v2 S) (hb : B ≤ w'.heap.size) => store_any B p v1 v2 S (areaAt N F C U 1 (2 * kn + 1)) old w' hp hb M hok (by omega)
          have hok1 := storeP_ok hok (areaAt N F C U 1 (2 * kn + 1)) old
          obtain ⟨A1, hA1⟩ : ∃ A, A = areaAt N F C U 1 (2 * kn) := ⟨_, rfl⟩
          obtain ⟨A2, hA2⟩ : ∃ A, A = areaAt N F C U 1 (2 * kn + 1) := ⟨_, rfl⟩
          rw [← hA2] at hok1
          simp only [← hA1, ← hA2] at hlo hap
          simp only [← hA2] at hst1
          obtain ⟨R1, T1, hRT1⟩ : ∃ r T, storeP S A2 old = (r, T) := ⟨_, _, rfl⟩
          rw [hRT1] at hap hok1
          simp only [hRT1] at hst1
          dsimp only at hap hok1
          have hst2 := fun w' a1 a2 (hp : PD w' B p a1 a2 T1) (hb : B ≤ w'.heap.size) => store_any B p a1 a2 T1 A1 (headB tag epoch kn pn sm) w' hp hb (M + 2) hok1 (by omega)
          obtain ⟨R2, T2, hRT2⟩ : ∃ r T, storeP T1 A1 (headB tag epoch kn pn sm) = (r, T) := ⟨_, _, rfl⟩
          rw [hRT2] at hap
          simp only [hRT2] at hst2
          dsimp only at hap
          obtain ⟨HD, hHD⟩ : ∃ HD, HD = headB tag epoch kn pn sm := ⟨_, rfl⟩
          simp only [← hHD] at hen hst2
          unfold geo at hlo
          unfold headV at hen hey
          have HLO := Lib.hid hlo
          have HEN := Lib.hid hen
          have HEY := Lib.hid hey
          have HS1 := Lib.hid hst1
          have HS2 := Lib.hid hst2
          have HAP := Lib.hid hap
          have HSM := Lib.hid hsm
          have HCV := Lib.hid hcv
          clear hlo hen hey hst1 hst2 hap hok1 hRT1 hRT2 hA1 hA2 hHD hsm hcv hsum
          go_enter Tryz.func18, Tryz.ntmps18
          go_wp2_with fail
          rw [← HW.out]
          refine (HR.out _).mono ?_
          rintro e w1 ⟨rfl, hb⟩
          have HB1 := Lib.hid hb
          clear hb HR
          obtain ⟨c0, c1, c2, c3⟩ := HGC.out _ HB1.out
          go_wp2_with fail
          refine (HU.out _).mono ?_
          rintro e w2 ⟨rfl, hb⟩
          have HB2 := Lib.hid (HB1.out.trans (hb.mono HB1.out.size))
          clear hb HB1 HU c0 c1 c2 c3
          obtain ⟨c0, c1, c2, c3⟩ := HGC.out _ HB2.out
          go_wp2_with fail
          refine (HRD.out _ HB2.out).mono ?_
          rintro e w3 ⟨rfl, hb⟩
          have HB3 := Lib.hid (HB2.out.trans (hb.mono HB2.out.size))
          clear hb HB2 HRD c0 c1 c2 c3
          obtain ⟨c0, c1, c2, c3⟩ := HGC.out _ HB3.out
          obtain ⟨w4, hcv, hrd4, hb4⟩ := HCV.out w3
          have hsu := sum_any _ _ _ _ w4 hrd4
          rw [show addN 0 old.data.toList = sm from HSM.out.symm] at hsu
          have HSU := Lib.hid hsu
          have HB4 := Lib.hid (HB3.out.trans (hb4.mono HB3.out.size))
          clear hsu hrd4 hb4 HB3 HCV
          obtain ⟨c0, c1, c2, c3⟩ := HGC.out _ HB4.out
          go_wp2_with fail
          refine HSU.out.mono ?_
          rintro e w5 ⟨rfl, hb⟩
          have HB5 := Lib.hid (HB4.out.trans (hb.mono HB4.out.size))
          clear hb HB4 HSU hcv c0 c1 c2 c3
          -- the head's box
          have hx5 := heap_alloc_new w5 (.cells #[.int .u64 (tag : Int), .int .u64 (epoch : Int), .int .i64 (kn : Int), .int .i64 (pn : Int), .int .u32 (sm : Int)] 105)
          have HX5 := Lib.hid (HB5.out.alloc HB5.out.size (.cells #[.int .u64 (tag : Int), .int .u64 (epoch : Int), .int .i64 (kn : Int), .int .i64 (pn : Int), .int .u32 (sm : Int)] 105))
          have hxs : (w5.alloc (.cells #[.int .u64 (tag : Int), .int .u64 (epoch : Int), .int .i64 (kn : Int), .int .i64 (pn : Int), .int .u32 (sm : Int)] 105)).heap.size = w5.heap.size + 1 := World.size_alloc _ _
          have hw5 : W.heap.size ≤ w5.heap.size := HB5.out.size
          obtain ⟨X, hX⟩ : ∃ X, X = w5.alloc (.cells #[.int .u64 (tag : Int), .int .u64 (epoch : Int), .int .i64 (kn : Int), .int .i64 (pn : Int), .int .u32 (sm : Int)] 105) := ⟨_, rfl⟩
          obtain ⟨hb5, hhb5⟩ : ∃ b, b = w5.heap.size := ⟨_, rfl⟩
          rw [← hX] at hx5 HX5 hxs
          rw [← hhb5] at hx5 hxs hw5
          have HHX := Lib.hid (And.intro hx5 (And.intro hxs hw5))
          obtain ⟨c0, c1, c2, c3⟩ := HGC.out _ HX5.out
          clear hx5 hxs hw5 HB5
          go_upto_region 11 with fail
          rw [← hX, ← hhb5]
          clear hX hhb5
          go_wp2_with fail
          refine (HLO.out _).mono ?_
          rintro e w6 ⟨rfl, hb⟩
          have HXB := Lib.hid hb
          have HB6 := Lib.hid (HX5.out.trans (hb.mono HX5.out.size))
          clear hb HLO c0 c1 c2 c3
          have hp6 := HPD.out.below HB6.out
          have hst := HS1.out w6 hp6 (Nat.le_trans hB (Nat.le_trans HB0.out.size HB6.out.size))
          have HST := Lib.hid hst
          clear hst hp6 HS1
          go_wp2_with fail
          refine HST.out.mono ?_
          rintro e w7 ⟨rfl, hx⟩
          have HP7 := Lib.hid (pp_below HXB.out hx)
          clear hx HST
          by_cases hR1 : R1 = 0
          · subst hR1
            have e5 := (HP7.out.old hb5 (by have := HHX.out.2.1; omega) (fun hf => by have := hv _ hf; have := HHX.out.2.2; have := HS0.out; omega)).trans HHX.out.1
            have b0 : w7.cell? ⟨hb5, 0, none⟩ = some (.int .u64 (tag : Int)) := by rw [cell_of_blk e5]; rfl
            have b1 : w7.cell? ⟨hb5, 1, none⟩ = some (.int .u64 (epoch : Int)) := by rw [cell_of_blk e5]; rfl
            have b2 : w7.cell? ⟨hb5, 2, none⟩ = some (.int .i64 (kn : Int)) := by rw [cell_of_blk e5]; rfl
            have b3 : w7.cell? ⟨hb5, 3, none⟩ = some (.int .i64 (pn : Int)) := by rw [cell_of_blk e5]; rfl
            have b4 : w7.cell? ⟨hb5, 4, none⟩ = some (.int .u32 (sm : Int)) := by rw [cell_of_blk e5]; rfl
            clear e5
            go_wp2_with fail
            refine (HEN.out _).mono ?_
            rintro e w8 ⟨rfl, hb⟩
            have HP8 := Lib.hid (pp_then HP7.out hb)
            clear hb HEN HP7 b0 b1 b2 b3 b4
            obtain ⟨a1, a2, hp8, hF8, hN8⟩ := HP8.out
            have hst2 := HS2.out w8 a1 a2 hp8 (Nat.le_trans hB (Nat.le_trans HB0.out.size (Nat.le_trans HX5.out.size hF8.size)))
            have HST2 := Lib.hid hst2
            have HTR := Lib.hid (show ∀ w9, PP w8 B p a1 a2 T2 w9 → PP X B p v1 v2 T2 w9 from fun w9 hx => by
              obtain ⟨b1, b2, hp', hF', hN'⟩ := hx
              exact ⟨b1, b2, hp', hF8.trans hF' (fun i hi => hN8 i hi), fun i hi => (hN' i hi).elim (hN8 i) (fun h => .inr (Nat.le_trans hF8.size h))⟩)
            clear hst2 hp8 hF8 hN8 HS2
            go_wp2_with fail
            refine HST2.out.mono ?_
            rintro e w9 ⟨rfl, hx⟩
            have HP9 := Lib.hid (HTR.out _ hx)
            clear hx HTR HST2 HP8
            by_cases hR2 : R2 = 0
            · subst hR2
              have hap : AR = ⟨0, ⟨tag, epoch, pn, old⟩, T2⟩ := HAP.out.trans (by simp)
              have e5 := (HP9.out.old hb5 (by have := HHX.out.2.1; omega) (fun hf => by have := hv _ hf; have := HHX.out.2.2; have := HS0.out; omega)).trans HHX.out.1
              have b0 : w9.cell? ⟨hb5, 0, none⟩ = some (.int .u64 (tag : Int)) := by rw [cell_of_blk e5]; rfl
              have b1 : w9.cell? ⟨hb5, 1, none⟩ = some (.int .u64 (epoch : Int)) := by rw [cell_of_blk e5]; rfl
              have b2 : w9.cell? ⟨hb5, 2, none⟩ = some (.int .i64 (kn : Int)) := by rw [cell_of_blk e5]; rfl
              have b3 : w9.cell? ⟨hb5, 3, none⟩ = some (.int .i64 (pn : Int)) := by rw [cell_of_blk e5]; rfl
              have b4 : w9.cell? ⟨hb5, 4, none⟩ = some (.int .u32 (sm : Int)) := by rw [cell_of_blk e5]; rfl
              clear e5
              unfold En.val at HEY
              dsimp only at HEY
              go_wp2_with fail
              refine (HEY.out _).mono ?_
              rintro e w10 ⟨rfl, hb⟩
              have HP10 := Lib.hid (pp_then HP9.out hb)
              clear hb HP9 HEY b0 b1 b2 b3 b4
              have hxx := HHX.out
              have hq : Box4 w10 (w.heap.size + 1) 55 (.int .u64 0) (.int .u64 0) (.int .i64 0) (.string ⟨#[]⟩) := (HP10.out.old (w.heap.size + 1) (by have := HS0.out; omega) (fun hf => by have := hv _ hf; omega)).trans (HQC.out _ HX5.out)
              have d0 := hq.c0
              have d1 := hq.c1
              have d2 := hq.c2
              have d3 := hq.c3
              have f0 := hq.fr 0
              have f1 := hq.fr 1
              have f2 := hq.fr 2
              have f3 := hq.fr 3
              have HQ1 := Lib.hid (hq.set (.int .u64 (tag : Int)) (.int .u64 (epoch : Int)) (.int .i64 (pn : Int)) (.string old))
              have HE := Lib.hid (pp_set4 (a := .int .u64 (tag : Int)) (b := .int .u64 (epoch : Int)) (c := .int .i64 (pn : Int)) (d := .string old) HP10.out (q := w.heap.size + 1) (fun h => by have := HS0.out; omega) (fun hf => by have := hv _ hf; omega) (by have := HS0.out; omega) w (HB0.out.trans (HX5.out.mono HB0.out.size)) hv (by omega))
              clear hq hxx
              go_wp2
              refine bodyPost_ret (by have k0 := HQ1.out.c0; have k1 := HQ1.out.c1; have k2 := HQ1.out.c2; have k3 := HQ1.out.c3; simp [results, Tryz.f18, go_sem, k0, k1, k2, k3]; try rfl) rfl ?_
              rw [hap]
              exact ⟨rfl, HE.out⟩
            · have hr2 : (R2 == 0) = false := by simpa using hR2
              have hr3 : (R2 != 0) = true := by simp [hR2]
              have hap : AR = ⟨R2, noEn, T2⟩ := HAP.out.trans (by simp [hR2])
              clear HEY
              have hxx := HHX.out
              have hq : Box4 w9 (w.heap.size + 1) 55 (.int .u64 0) (.int .u64 0) (.int .i64 0) (.string ⟨#[]⟩) := (HP9.out.old (w.heap.size + 1) (by have := HS0.out; omega) (fun hf => by have := hv _ hf; omega)).trans (HQC.out _ HX5.out)
              have d0 := hq.c0
              have d1 := hq.c1
              have d2 := hq.c2
              have d3 := hq.c3
              have f0 := hq.fr 0
              have f1 := hq.fr 1
              have f2 := hq.fr 2
              have f3 := hq.fr 3
              have HQ1 := Lib.hid (hq.set (.int .u64 0) (.int .u64 0) (.int .i64 0) (.string ⟨#[]⟩))
              have HE := Lib.hid (pp_set4 (a := .int .u64 0) (b := .int .u64 0) (c := .int .i64 0) (d := .string ⟨#[]⟩) HP9.out (q := w.heap.size + 1) (fun h => by have := HS0.out; omega) (fun hf => by have := hv _ hf; omega) (by have := HS0.out; omega) w (HB0.out.trans (HX5.out.mono HB0.out.size)) hv (by omega))
              clear hq hxx
              go_wp2
              refine bodyPost_ret (by have k0 := HQ1.out.c0; have k1 := HQ1.out.c1; have k2 := HQ1.out.c2; have k3 := HQ1.out.c3; simp [results, Tryz.f18, go_sem, k0, k1, k2, k3]; try rfl) rfl ?_
              rw [hap]
              exact ⟨by unfold ApR.val; rw [HN.out], HE.out⟩
          · have hr2 : (R1 == 0) = false := by simpa using hR1
            have hr3 : (R1 != 0) = true := by simp [hR1]
            have hap : AR = ⟨R1, noEn, T1⟩ := HAP.out.trans (by simp [hR1])
            clear HEY HEN HS2
            have hxx := HHX.out
            have hq : Box4 w7 (w.heap.size + 1) 55 (.int .u64 0) (.int .u64 0) (.int .i64 0) (.string ⟨#[]⟩) := (HP7.out.old (w.heap.size + 1) (by have := HS0.out; omega) (fun hf => by have := hv _ hf; omega)).trans (HQC.out _ HX5.out)
            have d0 := hq.c0
            have d1 := hq.c1
            have d2 := hq.c2
            have d3 := hq.c3
            have f0 := hq.fr 0
            have f1 := hq.fr 1
            have f2 := hq.fr 2
            have f3 := hq.fr 3
            have HQ1 := Lib.hid (hq.set (.int .u64 0) (.int .u64 0) (.int .i64 0) (.string ⟨#[]⟩))
            have HE := Lib.hid (pp_set4 (a := .int .u64 0) (b := .int .u64 0) (c := .int .i64 0) (d := .string ⟨#[]⟩) HP7.out (q := w.heap.size + 1) (fun h => by have := HS0.out; omega) (fun hf => by have := hv _ hf; omega) (by have := HS0.out; omega) w (HB0.out.trans (HX5.out.mono HB0.out.size)) hv (by omega))
            clear hq hxx
            go_wp2
            refine bodyPost_ret (by have k0 := HQ1.out.c0; have k1 := HQ1.out.c1; have k2 := HQ1.out.c2; have k3 := HQ1.out.c3; simp [results, Tryz.f18, go_sem, k0, k1, k2, k3]; try rfl) rfl ?_
            rw [hap]
            exact ⟨by unfold ApR.val; rw [HN.out], HE.out⟩
        · have hr2 : (re == 0) = false := by simpa using hr0
          have hr3 : (re != 0) = true := by simp [hr0]
          have hap : AR = ⟨re, noEn, S⟩ := by rw [HAR.out]; unfold appP; rw [if_neg (fun h => h ho), if_neg hk, if_neg (fun h => h hm), if_pos (by rw [HRE.out]; exact hr0), HRE.out]
          go_enter Tryz.func18, Tryz.ntmps18
          go_wp2_with fail
          rw [← HW.out]
          refine (HR.out _).mono ?_
          rintro e w1 ⟨rfl, hb⟩
          have HB1 := Lib.hid hb
          clear hb HR
          obtain ⟨c0, c1, c2, c3⟩ := HGC.out _ HB1.out
          go_wp2_with fail
          refine (HU.out _).mono ?_
          rintro e w2 ⟨rfl, hb⟩
          have HB2 := Lib.hid (HB1.out.trans (hb.mono HB1.out.size))
          clear hb HB1 HU c0 c1 c2 c3
          obtain ⟨c0, c1, c2, c3⟩ := HGC.out _ HB2.out
          go_wp2_with fail
          refine (HRD.out _ HB2.out).mono ?_
          rintro e w3 ⟨rfl, hb⟩
          have HB3 := Lib.hid (HB2.out.trans (hb.mono HB2.out.size))
          clear hb HB2 HRD c0 c1 c2 c3
          obtain ⟨c0, c1, c2, c3⟩ := HGC.out _ HB3.out
          have hq := HQC.out _ HB3.out
          have d0 := hq.c0
          have d1 := hq.c1
          have d2 := hq.c2
          have d3 := hq.c3
          have f0 := hq.fr 0
          have f1 := hq.fr 1
          have f2 := hq.fr 2
          have f3 := hq.fr 3
          have HQ1 := Lib.hid (hq.set (.int .u64 0) (.int .u64 0) (.int .i64 0) (.string ⟨#[]⟩))
          have HE := Lib.hid (below_set4 (a := .int .u64 0) (b := .int .u64 0) (c := .int .i64 0) (d := .string ⟨#[]⟩) (HB0.out.trans (HB3.out.mono HB0.out.size)) (show w.heap.size ≤ w.heap.size + 1 by omega))
          clear hq
          go_wp2
          refine bodyPost_ret (by have k0 := HQ1.out.c0; have k1 := HQ1.out.c1; have k2 := HQ1.out.c2; have k3 := HQ1.out.c3; simp [results, Tryz.f18, go_sem, k0, k1, k2, k3]; try rfl) rfl ?_
          rw [hap]
          exact ⟨by unfold ApR.val; rw [HN.out], pp_after h HE.out⟩
      · have hap : AR = ⟨3, noEn, S⟩ := by rw [HAR.out]; unfold appP; rw [if_neg (fun h => h ho), if_neg hk, if_pos hm]
        rw [decide_eq_false hm] at hu
        have HU := Lib.hid hu
        clear hu
        go_enter Tryz.func18, Tryz.ntmps18
        go_wp2_with fail
        rw [← HW.out]
        refine (HR.out _).mono ?_
        rintro e w1 ⟨rfl, hb⟩
        have HB1 := Lib.hid hb
        clear hb HR
        obtain ⟨c0, c1, c2, c3⟩ := HGC.out _ HB1.out
        go_wp2_with fail
        refine (HU.out _).mono ?_
        rintro e w2 ⟨rfl, hb⟩
        have HB2 := Lib.hid (HB1.out.trans (hb.mono HB1.out.size))
        clear hb HB1 HU c0 c1 c2 c3
        obtain ⟨c0, c1, c2, c3⟩ := HGC.out _ HB2.out
        have hq := HQC.out _ HB2.out
        have d0 := hq.c0
        have d1 := hq.c1
        have d2 := hq.c2
        have d3 := hq.c3
        have f0 := hq.fr 0
        have f1 := hq.fr 1
        have f2 := hq.fr 2
        have f3 := hq.fr 3
        have HQ1 := Lib.hid (hq.set (.int .u64 0) (.int .u64 0) (.int .i64 0) (.string ⟨#[]⟩))
        have HE := Lib.hid (below_set4 (a := .int .u64 0) (b := .int .u64 0) (c := .int .i64 0) (d := .string ⟨#[]⟩) (HB0.out.trans (HB2.out.mono HB0.out.size)) (show w.heap.size ≤ w.heap.size + 1 by omega))
        clear hq
        go_wp2
        refine bodyPost_ret (by have k0 := HQ1.out.c0; have k1 := HQ1.out.c1; have k2 := HQ1.out.c2; have k3 := HQ1.out.c3; simp [results, Tryz.f18, go_sem, k0, k1, k2, k3]; try rfl) rfl ?_
        rw [hap]
        exact ⟨by unfold ApR.val; rw [HN.out], pp_after h HE.out⟩
  · have hap : AR = ⟨12, noEn, S⟩ := by rw [HAR.out]; unfold appP; rw [if_pos ho]
    rw [decide_eq_false ho] at hr
    have HR := Lib.hid hr
    clear hr
    go_enter Tryz.func18, Tryz.ntmps18
    go_wp2_with fail
    rw [← HW.out]
    refine (HR.out _).mono ?_
    rintro e w1 ⟨rfl, hb⟩
    have HB1 := Lib.hid hb
    clear hb HR
    obtain ⟨c0, c1, c2, c3⟩ := HGC.out _ HB1.out
    have hq := HQC.out _ HB1.out
    have d0 := hq.c0
    have d1 := hq.c1
    have d2 := hq.c2
    have d3 := hq.c3
    have f0 := hq.fr 0
    have f1 := hq.fr 1
    have f2 := hq.fr 2
    have f3 := hq.fr 3
    have HQ1 := Lib.hid (hq.set (.int .u64 0) (.int .u64 0) (.int .i64 0) (.string ⟨#[]⟩))
    have HE := Lib.hid (below_set4 (a := .int .u64 0) (b := .int .u64 0) (c := .int .i64 0) (d := .string ⟨#[]⟩) (HB0.out.trans (HB1.out.mono HB0.out.size)) (show w.heap.size ≤ w.heap.size + 1 by omega))
    clear hq
    go_wp2
    refine bodyPost_ret (by have k0 := HQ1.out.c0; have k1 := HQ1.out.c1; have k2 := HQ1.out.c2; have k3 := HQ1.out.c3; simp [results, Tryz.f18, go_sem, k0, k1, k2, k3]; try rfl) rfl ?_
    rw [hap]
    exact ⟨by unfold ApR.val; rw [HN.out], pp_after h HE.out⟩
end Go.Proofs.YtjohgagiccndpaaGreatDoor

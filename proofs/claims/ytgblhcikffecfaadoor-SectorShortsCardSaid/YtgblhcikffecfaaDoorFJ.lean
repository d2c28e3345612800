/-
  Contracts: strings.SplitSeq at a blank: the iterator (it writes what is left of the text into its box ahead of the next round).
-/
import Derived.Test.YtgblhcikffecfaaDoorFI
import Derived.RangeFuncNested
import Derived.RangeFuncBound
import Derived.RangeFuncCalls
import Derived.RangeFuncLeaves
import Derived.Shelf.Abstract
import Derived.Shelf.RegionOpen
import Derived.WalkKit
import Derived.OwnWalkIn
import Derived.TacticsInMore
import Derived.LoopNIn
import Derived.LoopIn
import Derived.BigRegionIn
import Derived.RegionIn
namespace Go.Proofs.YtgblhcikffecfaaDoor
open Go.RowKit Go.Shelf
set_option linter.unusedVariables false
set_option linter.unusedSimpArgs false
attribute [local go_sem] Oper.semAt_some

theorem take_cut (s : ByteArray) (k : Nat) (h : k ≤ s.size) (w : World) : (Instr.sliceAt 9 (.string s) none (some (.int .i64 (k : Int))) none).run Tryd.prog w = .ok (strV (s.data.toList.take k)) w := by
  rw [run_sliceAt_string _ _ _ _ _ _ Tryd.underlying9, run_slice_string_h (ht := Tryd.underlying9) (h0 := by omega) (h2 := by omega)]
  have e : s.extract 0 (k : Int).toNat = ⟨(s.data.toList.take k).toArray⟩ := by
    apply ByteArray.ext
    rw [ByteArray.data_extract]
    apply Array.toList_inj.mp
    rw [Array.toList_extract]
    simp [List.extract]
  rw [e]; rfl
theorem drop_cut (s : ByteArray) (k : Nat) (h : k ≤ s.size) (w : World) : (Instr.sliceAt 9 (.string s) (some (.int .i64 (k : Int))) none none).run Tryd.prog w = .ok (strV (s.data.toList.drop k)) w := by
  rw [run_sliceAt_string _ _ _ _ _ _ Tryd.underlying9, run_slice_string_l (ht := Tryd.underlying9) (h0 := by omega) (h1 := by omega)]
  have e : s.extract (k : Int).toNat s.size = ⟨(s.data.toList.drop k).toArray⟩ := by
    apply ByteArray.ext
    rw [ByteArray.data_extract]
    apply Array.toList_inj.mp
    rw [Array.toList_extract]
    have e1 : s.size = s.data.toList.length := rfl
    simp [List.extract]
    exact List.take_of_length_le (by rw [List.length_drop]; omega)
  rw [e]; rfl

/-- How long the text in a cell is. -/
def leftN (v : Option Value) : Nat := match v with
  | some (.string s) => s.size
  | _ => 0
theorem leftN_str (s : ByteArray) : leftN (some (.string s)) = s.size := rfl

/-- The cells that the iterator reads. -/
structure Spl (Bs : Nat) (m : Int) (r : ByteArray) (W : World) : Prop where
  zero : W.cell? ⟨0, 0, none⟩ = some (.int .i64 m)
  rest : W.heap[Bs]? = some (.cells #[.string r] 9 (0, 0))
  sep : W.cell? ⟨Bs + 1, 0, none⟩ = some (.string ⟨#[32]⟩)
  save : W.cell? ⟨Bs + 2, 0, none⟩ = some (.int .i64 0)
/-- What a round keeps for it. -/
def KeepS (Bs : Nat) (W W' : World) : Prop := W'.cell? ⟨0, 0, none⟩ = W.cell? ⟨0, 0, none⟩ ∧ (∀ o, W.heap[Bs]? = some o → o.isCells = true → W'.heap[Bs]? = some o) ∧ W'.cell? ⟨Bs + 1, 0, none⟩ = W.cell? ⟨Bs + 1, 0, none⟩ ∧ W'.cell? ⟨Bs + 2, 0, none⟩ = W.cell? ⟨Bs + 2, 0, none⟩
theorem KeepS.trans {Bs : Nat} {A B C : World} (h : KeepS Bs A B) (k : KeepS Bs B C) : KeepS Bs A C :=
  ⟨k.1.trans h.1, fun o ho hc => k.2.1 o (h.2.1 o ho hc) hc, k.2.2.1.trans h.2.2.1, k.2.2.2.trans h.2.2.2⟩
theorem Spl.kept {Bs : Nat} {m r W W'} (h : Spl Bs m r W) (k : KeepS Bs W W') : Spl Bs m r W' :=
  ⟨k.1.trans h.zero, k.2.1 _ h.rest rfl, k.2.2.1.trans h.sep, k.2.2.2.trans h.save⟩
theorem Spl.set {Bs : Nat} {m r W} (h : Spl Bs m r W) (hB : 0 < Bs) (r' : ByteArray) : Spl Bs m r' (W.setCell ⟨Bs, 0, none⟩ (.string r')) := by
  have e : ∀ b, b ≠ Bs → (W.setCell ⟨Bs, 0, none⟩ (.string r')).cell? ⟨b, 0, none⟩ = W.cell? ⟨b, 0, none⟩ := fun b hb => World.cell?_setCell_other _ _ _ _ (fun e => hb (congrArg Addr.block e).symm)
  exact ⟨(e 0 (by omega)).trans h.zero, blk_setCell h.rest, (e _ (by omega)).trans h.sep, (e _ (by omega)).trans h.save⟩
theorem keepS_b {Bs : Nat} {w : World} (hb : Bs + 2 < w.heap.size) : ∀ (W : World) (l : Nat) (o o' : Obj), w.heap.size ≤ l → W.heap[l]? = some o → o.isCells = false → o.isWalk = false → KeepS Bs W (W.putObj l o') := by
  intro W l o o' h1 h2 h3 h4
  have B := belowK_b (w := w) (n₀ := w.heap.size) (Nat.le_refl _) W l o o' h1 h2 h3 h4
  exact ⟨B.cell (p := ⟨0, 0, none⟩) (by show 0 < _; omega), fun o ho _ => (B.block Bs (by omega)).trans ho, B.cell (p := ⟨Bs + 1, 0, none⟩) (by show Bs + 1 < _; omega), B.cell (p := ⟨Bs + 2, 0, none⟩) (by show Bs + 2 < _; omega)⟩

set_option maxRecDepth 100000 in
set_option maxHeartbeats 2000000 in
theorem split1_in (n : Nat) (hn : 2 ≤ n) (l Bs : Nat) (hB : 0 < Bs) (s : ByteArray) (hN : s.size ≤ 1000) (m : Int) (J Jx : List (List UInt8) → World → Prop) (hJ : Abides Bs J) (hX : Abides Bs Jx)
    (hY : ∀ pre x W1, J pre W1 → (∃ more, parts s.data.toList = (pre ++ [x]) ++ more) → YieldAt Fence.wide (n - 1) Tryd.prog l #[strV x] W1 fun e W' =>
      (e = .returned (.bool true) ∧ J (pre ++ [x]) W' ∧ KeepS Bs W1 W') ∨ (e = .returned (.bool false) ∧ Jx (pre ++ [x]) W'))
    (W : World) (hP : Spl Bs m s W) (h0 : J [] W) :
    CallsIn Fence.wide n Tryd.prog 58 #[.func (.yield l) #[] #[], .pointer (some ⟨Bs + 1, 0, none⟩), .pointer (some ⟨Bs, 0, none⟩), .pointer (some ⟨Bs + 2, 0, none⟩)] W fun e W' => (∃ v, e = .returned v) ∧
      (J (parts s.data.toList) W' ∨ ∃ pre, (∃ more, parts s.data.toList = pre ++ more) ∧ Jx pre W') := by
  refine callsIn_of_wp Tryd.func58 rfl trivial ?_ rfl
  simp only [Tryd.ntmps58, List.size_toArray, List.length_cons, List.length_nil, Nat.reduceAdd, Nat.reduceSub, Array.replicate_succ, Array.replicate_zero, List.push_toArray, List.append_toArray, List.nil_append, List.cons_append]
  have hs := hP.sep
  have HP := Lib.hid hP
  have H0 := Lib.hid h0
  clear hP h0
  gi_wp2
  clear hs
  gi_loopw [] (fun wr => ∃ (pre : List (List UInt8)) (r : ByteArray), parts s.data.toList = pre ++ parts r.data.toList ∧ r.size ≤ 1000 ∧ J pre wr ∧ Spl Bs m r wr) (fun wr => leftN (wr.cell? ⟨Bs, 0, none⟩))
  case atStart => exact ⟨[], s, rfl, hN, H0.out, HP.out⟩
  case round =>
    clear HP H0
    obtain ⟨pre, r, hpr, hr, hJ0, hP⟩ := hrel
    have hcr : wr.cell? ⟨Bs, 0, none⟩ = some (.string r) := by have := cell_of_blk hP.rest 0; simpa using this
    have hse := hP.sep
    have hsa := hP.save
    have hix := (callsIn_wide (n := n - 1)).2 (Tryd.strings_Index r ⟨#[32]⟩ m wr (by omega) hP.zero)
    change CallsIn _ _ _ _ _ _ (fun e w' => e = .returned (.int .i64 (Lib.index r.data.toList [32])) ∧ w' = wr) at hix
    rcases index_blank r.data.toList with ⟨h1, h2⟩ | ⟨h1, h2, h3⟩
    · rw [h1] at hix
      rw [h2] at hpr
      obtain ⟨fn, tmps, assign, body, hy, hR⟩ := hY pre r.data.toList wr hJ0 ⟨[], by rw [hpr]; simp⟩
      rw [← hpr] at hR
      have HIX := Lib.hid hix
      have HR := Lib.hid hR
      have HPR := Lib.hid hpr
      have HP := Lib.hid hP
      change (Instr.yield l #[.string r]).run _ _ = _ at hy
      clear hix hR hpr hP hY hJ0 h1 h2
      gi_wp2_with fail
      refine ⟨trivial, fun _ => by omega, HIX.out.mono ?_⟩
      rintro e w1 ⟨rfl, hw1⟩
      obtain rfl := hw1.symm
      clear hw1
      gi_wp2
      refine ⟨fun _ => by omega, HR.out.mono ?_⟩
      rintro e W3 (⟨rfl, hJ3, hk3⟩ | ⟨rfl, hJx3⟩)
      · clear hy hcr hse hsa
        gi_wp2
        go_end0
        exact ⟨⟨_, rfl⟩, .inl hJ3⟩
      · clear hy hcr hse hsa
        gi_wp2
        go_end0
        exact ⟨⟨_, rfl⟩, .inr ⟨_, ⟨[], (List.append_nil _).symm⟩, hJx3⟩⟩
    · obtain ⟨k, hk⟩ : ∃ k : Nat, Lib.index r.data.toList [32] = (k : Int) := ⟨_, (Int.toNat_of_nonneg h1).symm⟩
      rw [hk] at hix h2 h3
      have hkl : k < r.size := h2
      rw [h3] at hpr
      change parts s.data.toList = pre ++ (r.data.toList.take k :: parts (r.data.toList.drop (k + 1))) at hpr
      obtain ⟨fn, tmps, assign, body, hy, hR⟩ := hY pre (r.data.toList.take k) wr hJ0 ⟨parts (r.data.toList.drop (k + 1)), by rw [hpr]; simp⟩
      have htk := take_cut r k (by omega)
      have hdr := drop_cut r (k + 1) (by omega)
      rw [show ((k + 1 : Nat) : Int) = (k : Int) + 1 from by omega] at hdr
      have i1 : (0 : Int) ≤ (k : Int) := by omega
      have i2 : (k : Int) < 1000 := by omega
      have hdrl : (r.data.toList.drop (k + 1)).length = r.size - (k + 1) := by rw [List.length_drop]; rfl
      obtain ⟨r', hr'⟩ : ∃ r' : ByteArray, r' = ⟨(r.data.toList.drop (k + 1)).toArray⟩ := ⟨_, rfl⟩
      have hrl : r'.data.toList = r.data.toList.drop (k + 1) := by rw [hr']
      have hrs : r'.size < r.size := by show r'.data.toList.length < _; rw [hrl, hdrl]; omega
      change ∀ w, _ = Result.ok (Value.string ⟨(r.data.toList.drop (k + 1)).toArray⟩) w at hdr
      rw [← hr'] at hdr
      rw [← hrl] at hpr
      have HIX := Lib.hid hix
      have HR := Lib.hid hR
      have HPR := Lib.hid hpr
      have HPS := Lib.hid hP
      have HRS := Lib.hid hrs
      have HR0 := Lib.hid hr
      have HL := Lib.hid (leftN_str r)
      clear hix hR hpr hP hY hJ0 h1 h2 h3 hk hr' hrl hdrl hkl hrs hr
      generalize strV (r.data.toList.take k) = V at hy htk
      gi_wp2_with fail
      refine ⟨trivial, fun _ => by omega, HIX.out.mono ?_⟩
      rintro e w1 ⟨rfl, hw1⟩
      obtain rfl := hw1.symm
      clear hw1
      gi_wp2
      refine ⟨fun _ => by omega, HR.out.mono ?_⟩
      rintro e W3 (⟨rfl, hJ3, hk3⟩ | ⟨rfl, hJx3⟩)
      · have hP3 := HPS.out.kept hk3
        have hcr3 : W3.cell? ⟨Bs, 0, none⟩ = some (.string r) := by have := cell_of_blk hP3.rest 0; simpa using this
        have hfz := free_of_blk hP3.rest 0
        have hse3 := hP3.sep
        have hnew := hP3.set hB r'
        have hJ4 := hJ _ _ _ _ hJ3 (grownBy_setCell' W3 Bs (.string r')) (fun r e => by cases e; rfl)
        have HN := Lib.hid hnew
        have HJ4 := Lib.hid hJ4
        clear hP3 hnew hJ4 hJ3 hk3 hy hcr hse hsa
        gi_wp2
        go_roundw
        case rel => exact ⟨_, r', by rw [HPR.out]; simp, by have := HRS.out; have := HR0.out; omega, HJ4.out, HN.out⟩
        case measure =>
          have e1 : (W3.setCell ⟨Bs, 0, none⟩ (.string r')).cell? ⟨Bs, 0, none⟩ = some (.string r') := by have := cell_of_blk HN.out.rest 0; simpa using this
          have e2 : wr.cell? ⟨Bs, 0, none⟩ = some (.string r) := by have := cell_of_blk HPS.out.rest 0; simpa using this
          rw [e1, e2]
          exact HRS.out
      · clear hy hcr hse hsa
        gi_wp2
        refine bodyPost_ret (results_none rfl _ _ _) rfl ?_
        exact ⟨⟨_, rfl⟩, .inr ⟨_, ⟨parts r'.data.toList, by rw [HPR.out]; simp⟩, hJx3⟩⟩

theorem split1_gives (n : Nat) (hn : 2 ≤ n) (Bs : Nat) (hB : 0 < Bs) (s : ByteArray) (hN : s.size ≤ 1000) (m : Int) (w : World) (hb : Bs + 2 < w.heap.size) (hP : Spl Bs m s w) :
    Gives Fence.wide n Tryd.prog 58 #[.pointer (some ⟨Bs + 1, 0, none⟩), .pointer (some ⟨Bs, 0, none⟩), .pointer (some ⟨Bs + 2, 0, none⟩)] Bs (KeepS Bs) (fun pre => ∃ more, parts s.data.toList = pre ++ more) (parts s.data.toList) w := fun l J Jx W hW hJ hX hY h0 =>
  split1_in n hn l Bs hB s hN m J Jx hJ hX hY W (hP.kept ⟨hW.cell (p := ⟨0, 0, none⟩) (by show 0 < _; omega), fun o ho _ => (hW.block Bs (by omega)).trans ho, hW.cell (p := ⟨Bs + 1, 0, none⟩) (by show Bs + 1 < _; omega), hW.cell (p := ⟨Bs + 2, 0, none⟩) (by show Bs + 2 < _; omega)⟩) h0

/-- Three boxes of the call's own. -/
def splW (w : World) (s : ByteArray) : World := ((w.alloc (.cells #[.string s] 9)).alloc (.cells #[.string ⟨#[32]⟩] 9)).alloc (.cells #[.int .i64 0] 3)
theorem splW_size (w : World) (s : ByteArray) : (splW w s).heap.size = w.heap.size + 3 := by simp [splW]
theorem splW_below (w : World) (s : ByteArray) : Below w.heap.size w (splW w s) := (((Below.refl _ w).alloc (Nat.le_refl _) _).alloc (by simp) _).alloc (by simp; omega) _
theorem splW_spl (w : World) (s : ByteArray) (m : Int) (hm : w.cell? ⟨0, 0, none⟩ = some (.int .i64 m)) (h0 : 0 < w.heap.size) : Spl w.heap.size m s (splW w s) := by
  have b0 : Boxed (splW w s) w.heap.size 9 (.string s) := ((Boxed.new w 9 (.string s)).alloc _).alloc _
  have b1 : Boxed (splW w s) (w.heap.size + 1) 9 (.string ⟨#[32]⟩) := by
    have := (Boxed.new (w.alloc (.cells #[.string s] 9)) 9 (.string ⟨#[32]⟩)).alloc (.cells #[.int .i64 0] 3)
    unfold splW
    simpa only [World.size_alloc] using this
  have b2 : Boxed (splW w s) (w.heap.size + 2) 3 (.int .i64 0) := by
    have := Boxed.new ((w.alloc (.cells #[.string s] 9)).alloc (.cells #[.string ⟨#[32]⟩] 9)) 3 (.int .i64 0)
    unfold splW
    simpa only [World.size_alloc, Nat.add_assoc] using this
  exact ⟨((splW_below w s).cell (p := ⟨0, 0, none⟩) h0).trans hm, b0, b1.cell, b2.cell⟩

set_option maxHeartbeats 1000000 in
theorem split0_in (n : Nat) (s : ByteArray) (w : World) :
    CallsIn Fence.wide n Tryd.prog 47 #[.string s, .string ⟨#[32]⟩, .int .i64 0] w fun e w' => e = .returned (.func (.func 58) #[] #[.pointer (some ⟨w.heap.size + 1, 0, none⟩), .pointer (some ⟨w.heap.size, 0, none⟩), .pointer (some ⟨w.heap.size + 2, 0, none⟩)]) ∧ w' = splW w s := by
  refine callsIn_of_wp Tryd.func47 rfl trivial ?_ rfl
  simp only [Tryd.ntmps47, List.size_toArray, List.length_cons, List.length_nil, Nat.reduceAdd, Nat.reduceSub, Array.replicate_succ, Array.replicate_zero, List.push_toArray, List.append_toArray, List.nil_append, List.cons_append]
  gi_wp2
  go_ret
  exact ⟨rfl, rfl⟩
set_option maxHeartbeats 1000000 in
theorem split_in (n : Nat) (hn : 1 ≤ n) (s : ByteArray) (w : World) :
    CallsIn Fence.wide n Tryd.prog 30 #[.string s, .string ⟨#[32]⟩] w fun e w' => e = .returned (.func (.func 58) #[] #[.pointer (some ⟨w.heap.size + 1, 0, none⟩), .pointer (some ⟨w.heap.size, 0, none⟩), .pointer (some ⟨w.heap.size + 2, 0, none⟩)]) ∧ w' = splW w s := by
  have h := split0_in (n - 1) s w
  have H := Lib.hid h
  clear h
  refine callsIn_of_wp Tryd.func30 rfl trivial ?_ rfl
  simp only [Tryd.ntmps30, List.size_toArray, List.length_cons, List.length_nil, Nat.reduceAdd, Nat.reduceSub, Array.replicate_succ, Array.replicate_zero, List.push_toArray, List.append_toArray, List.nil_append, List.cons_append]
  gi_wp2_with fail
  refine ⟨trivial, H.out.mono ?_⟩
  rintro e w1 ⟨rfl, rfl⟩
  gi_wp2
  go_ret
  exact ⟨rfl, rfl⟩

end Go.Proofs.YtgblhcikffecfaaDoor

/-
  What a sector has: contracts of slot.read.
-/
import Derived.Test.YtdefdmmlmgkpnaaGreatDoorA4
import Derived.Test.YtdefdmmlmgkpnaaGreatDoorE5
import Derived.Test.YtdefdmmlmgkpnaaGreatDoorR7
namespace Go.Proofs.YtdefdmmlmgkpnaaGreatDoor
open Go.RowKit
set_option linter.unusedVariables false
set_option linter.unusedSimpArgs false

/-- A box of three cells. -/
def Box3 (W : World) (b : Nat) (t : TypeId) (x y z : Value) : Prop := W.heap[b]? = some (.cells #[x, y, z] t (0, 0))
theorem Box3.c0 {W b t x y z} (h : Box3 W b t x y z) : W.cell? ⟨b, 0, none⟩ = some x := by rw [cell_of_blk h]; rfl
theorem Box3.c1 {W b t x y z} (h : Box3 W b t x y z) : W.cell? ⟨b, 1, none⟩ = some y := by rw [cell_of_blk h]; rfl
theorem Box3.c2 {W b t x y z} (h : Box3 W b t x y z) : W.cell? ⟨b, 2, none⟩ = some z := by rw [cell_of_blk h]; rfl
theorem Box3.f0 {W b t x y z} (h : Box3 W b t x y z) : W.frozen? ⟨b, 0, none⟩ = false := free_of_blk h 0
theorem Box3.f1 {W b t x y z} (h : Box3 W b t x y z) : W.frozen? ⟨b, 1, none⟩ = false := free_of_blk h 1
theorem Box3.f2 {W b t x y z} (h : Box3 W b t x y z) : W.frozen? ⟨b, 2, none⟩ = false := free_of_blk h 2
theorem Box3.lt {W b t x y z} (h : Box3 W b t x y z) : b < W.heap.size := lt_of_block h
theorem Box3.new (W : World) (t : TypeId) (x y z : Value) : Box3 (W.alloc (.cells #[x, y, z] t)) W.heap.size t x y z := heap_alloc_new W _
theorem Box3.alloc {W b t x y z} (h : Box3 W b t x y z) (o : Obj) : Box3 (W.alloc o) b t x y z := (Below.heap_alloc _ _ _ h.lt).trans h
theorem Box3.set0 {W b t x y z} (h : Box3 W b t x y z) (v : Value) : Box3 (W.setCell ⟨b, 0, none⟩ v) b t v y z := blk_setCell h
theorem Box3.set1 {W b t x y z} (h : Box3 W b t x y z) (v : Value) : Box3 (W.setCell ⟨b, 1, none⟩ v) b t x v z := blk_setCell h
theorem Box3.set2 {W b t x y z} (h : Box3 W b t x y z) (v : Value) : Box3 (W.setCell ⟨b, 2, none⟩ v) b t x y v := blk_setCell h
theorem Box3.below {W W' b t x y z n} (h : Box3 W b t x y z) (hb : Below n W W') (hl : b < n) : Box3 W' b t x y z := (hb.block b hl).trans h
theorem Box3.grown {W W' b t x y z row} (h : Box3 W b t x y z) (hg : W.grownBy W' row) (hne : row ≠ some b) : Box3 W' b t x y z := (hg.block b h.lt (fun e => hne e.symm)).trans h
theorem below_set3 {W W' : World} {n b i : Nat} {v : Value} (h : Below n W W') (hl : n ≤ b) : Below n W (W'.setCell ⟨b, i, none⟩ v) := h.setCell (p := ⟨b, i, none⟩) hl v

structure CT where
  f : Bool
  n : Nat
  s : List UInt8
def noCT : CT := ⟨false, 0, []⟩
def CT.val (c : CT) : Value := .agg #[.bool c.f, .int .u64 (c.n : Int), strV c.s]
/-- What a sector's text is as a slot's record. -/
def slotP (kind : Int) (xs : List UInt8) : CT :=
  if (openP kind xs).2 = 0 ∧ 8 ≤ (openP kind xs).1.length then ⟨true, numN ((openP kind xs).1.take 8), (openP kind xs).1.drop 8⟩ else noCT
def readP (S : DS) (at' kind : Int) : CT × Int := if (S.read at').2 ≠ 0 then (noCT, (S.read at').2) else (slotP kind (S.read at').1.data.toList, 0)

theorem bytes_of (s : ByteArray) : ∃ xs : List UInt8, s = ⟨xs.toArray⟩ ∧ s.data.toList = xs := ⟨s.data.toList, by cases s; simp, rfl⟩

/-- The result's box with a content stored. -/
theorem box_ct {W b t x y z} (h : Box3 W b t x y z) (u v r : Value) : Box3 (((W.setCell ⟨b, 0, none⟩ u).setCell ⟨b, 1, none⟩ v).setCell ⟨b, 2, none⟩ r) b t u v r := ((h.set0 u).set1 v).set2 r
theorem below_ct {W W' : World} {n b : Nat} {u v r : Value} (h : Below n W W') (hl : n ≤ b) : Below n W (((W'.setCell ⟨b, 0, none⟩ u).setCell ⟨b, 1, none⟩ v).setCell ⟨b, 2, none⟩ r) :=
  below_set3 (below_set3 (below_set3 h hl) hl) hl

theorem rnum_eight (ys : List UInt8) (h : 8 ≤ ys.length) : rnum ys 0 8 = (numN (ys.take 8), ys.drop 8, 0) := by
  unfold rnum
  rw [if_neg (by simp), if_neg (by omega), if_neg (by omega)]
  rfl

set_option maxRecDepth 20000 in
set_option maxHeartbeats 4000000 in
theorem sread_any (B p : Nat) (v1 v2 : Value) (S : DS) (at' kind : Int) (w : World) (h : PD w B p v1 v2 S) (hf : S.W.length ≤ 1000000) (hl : S.L.length ≤ 1000000) :
    Calls Tryz.prog 31 #[.pointer (some ⟨p, 0, none⟩), .int .i64 at', .int .i64 kind] w fun e w' => e = .returned (.tuple #[(readP S at' kind).1.val, .int .i64 (readP S at' kind).2]) ∧ Below w.heap.size w w' := by
  have bR := Box3.new w 65 (.bool false) (.int .u64 0) (.string noBytes)
  have hB0 : Below w.heap.size w (w.alloc (.cells #[.bool false, .int .u64 0, .string noBytes] 65)) := (Below.refl _ w).alloc (Nat.le_refl _) _
  have hr := read_any B p v1 v2 S at' _ (h.below hB0) hf hl
  unfold two at hr
  obtain ⟨xs, hxs, hxl⟩ := bytes_of (S.read at').1
  obtain ⟨k, hk⟩ : ∃ k, k = (S.read at').2 := ⟨_, rfl⟩
  unfold readP
  rw [hxs, ← hk] at hr
  rw [hxl, ← hk]
  change Calls _ _ _ _ (fun e w' => e = .returned (.tuple #[strV xs, .int .i64 k]) ∧ _) at hr
  have HR := Lib.hid hr
  have HB0 := Lib.hid hB0
  have HBR := Lib.hid bR
  have ho := fun w => open_any kind xs w
  clear hr hxs hxl hk hB0 bR h hf hl
  unfold noBytes at HB0 HBR HR
  by_cases hk : k = 0
  · subst hk
    rw [if_neg (by simp)]
    unfold slotP
    obtain ⟨ys, q, hoq⟩ : ∃ ys q, openP kind xs = (ys, q) := ⟨_, _, rfl⟩
    have hyl : q = 0 → ys.length ≤ 58 := fun e => by subst e; exact (make_kind (open_make hoq)).2.2.2
    rw [hoq] at ho ⊢
    unfold tupV at ho
    dsimp only at ho ⊢
    have HO := Lib.hid ho
    clear ho hoq
    by_cases hq : q = 0
    · subst hq
      have hyl := hyl rfl
      by_cases h8 : 8 ≤ ys.length
      · rw [if_pos ⟨rfl, h8⟩]
        unfold CT.val
        dsimp only
        obtain ⟨n, hnn⟩ : ∃ n, n = numN (ys.take 8) := ⟨_, rfl⟩
        obtain ⟨zs, hzz⟩ : ∃ zs, zs = ys.drop 8 := ⟨_, rfl⟩
        rw [← hnn, ← hzz]
        obtain ⟨V, hV⟩ : ∃ V : ByteArray, V = ⟨zs.toArray⟩ := ⟨_, rfl⟩
        rw [show strV zs = .string V from by rw [hV]; rfl]
        have HNN := Lib.hid (And.intro hnn hzz)
        have HV := Lib.hid hV
        have H8 := Lib.hid h8
        clear hnn hzz hV h8
        go_enter Tryz.func31, Tryz.ntmps31
        go_wp2_with fail
        refine HR.out.mono ?_
        rintro r w1 ⟨rfl, hb⟩
        have b1 := HBR.out.below hb HBR.out.lt
        have hB1 := HB0.out.trans (hb.mono HB0.out.size)
        have HB1 := Lib.hid hB1
        have HR1 := Lib.hid b1
        clear hb b1 hB1 HR HB0 HBR
        go_wp2_with fail
        refine (HO.out _).mono ?_
        rintro r w2 ⟨rfl, hb⟩
        have b2 := HR1.out.below hb HR1.out.lt
        have hB2 := HB1.out.trans (hb.mono HB1.out.size)
        obtain ⟨c, w3, hcv, hrd, hb3⟩ := cv_str ys (by omega) w2
        have b3 := b2.below hb3 b2.lt
        have hB3 := hB2.trans (hb3.mono hB2.size)
        obtain ⟨g, hg⟩ : ∃ g, g = w2.heap.size := ⟨_, rfl⟩
        rw [← hg] at hcv hrd
        have hn := new_any (some ⟨g, 0, none⟩) ys.length c ys w3 hrd
        have HN := Lib.hid hn
        have HR3 := Lib.hid b3
        have HB3 := Lib.hid hB3
        have HCV := Lib.hid hcv
        clear hb b2 hB2 hrd hb3 b3 hB3 hg hn HR1 HB1 HO hcv
        have hcv := HCV.out
        go_wp2_with fail
        refine HN.out.mono ?_
        rintro r w4 ⟨p', rfl, hp, hrw, hb⟩
        have b4 := HR3.out.below hb HR3.out.lt
        have hB4 := HB3.out.trans (hb.mono HB3.out.size)
        have hne : w.heap.size < p' := Nat.lt_of_lt_of_le HR3.out.lt hp
        have hnum := num_any p' ys 0 8 w4 hrw
        have HNE := Lib.hid hne
        have HR4 := Lib.hid b4
        have HB4 := Lib.hid hB4
        clear hb hp hrw b4 hB4 hne hcv HCV HN HR3 HB3
        rw [rnum_eight ys H8.out, ← HNN.out.1, ← HNN.out.2] at hnum
        dsimp only at hnum
        have HNUM := Lib.hid hnum
        clear hnum
        go_wp2_with fail
        refine HNUM.out.mono ?_
        rintro r w5 ⟨rfl, hrw5, hg5⟩
        have b5 := HR4.out.grown hg5 (by intro e; cases e; have := HNE.out; omega)
        have hB5 := HB4.out.grown hg5 HB4.out.size (fun k e => by cases e; have := HNE.out; omega)
        have hleft := left_any p' zs 0 w5 hrw5
        have hby := bytes_any p' zs 0 (zs.length : Int) w5 hrw5
        have hrb : rbytes zs 0 (zs.length : Int) = (zs, [], 0) := by
          unfold rbytes
          rw [if_neg (by simp), if_neg (by omega), if_neg (by omega)]
          simp
        rw [hrb] at hby
        dsimp only at hby
        have HR5 := Lib.hid b5
        have HB5 := Lib.hid hB5
        have HL := Lib.hid hleft
        have HBY := Lib.hid hby
        clear hrw5 hg5 b5 hB5 hleft hby hrb HR4 HB4 HNUM
        go_wp2_with fail
        refine HL.out.mono ?_
        rintro r w5' ⟨rfl, rfl⟩
        go_wp2_with fail
        refine HBY.out.mono ?_
        rintro r w6 ⟨a6, n6, c6, rfl, hrd6, _, hrw6, hg6⟩
        have b6 := HR5.out.grown hg6 (by intro e; cases e; have := HNE.out; omega)
        have hB6 := HB5.out.grown hg6 HB5.out.size (fun k e => by cases e; have := HNE.out; omega)
        have hwhy := why_any p' [] 0 w6 hrw6
        have hcv := rd_string hrd6
        have HR6 := Lib.hid b6
        have HB6 := Lib.hid hB6
        have HWHY := Lib.hid hwhy
        change _ = Result.ok (strV zs) w6 at hcv
        have HCV := Lib.hid hcv
        clear hrd6 hrw6 hg6 b6 hB6 hwhy hcv HR5 HB5 HL HBY
        go_wp2_with fail
        refine HWHY.out.mono ?_
        rintro r w6' ⟨rfl, rfl⟩
        have hcv := HCV.out
        rw [show strV zs = .string V from by rw [HV.out]; rfl] at hcv
        clear HCV
        have r0 := HR6.out.c0
        have r1 := HR6.out.c1
        have r2 := HR6.out.c2
        have g0 := HR6.out.f0
        have g1 := HR6.out.f1
        have g2 := HR6.out.f2
        have hR7 := box_ct HR6.out (.bool true) (.int .u64 (n : Int)) (.string V)
        have hB7 := below_ct (b := w.heap.size) (u := .bool true) (v := .int .u64 (n : Int)) (r := .string V) HB6.out (Nat.le_refl _)
        have HR7 := Lib.hid hR7
        have HB7 := Lib.hid hB7
        clear hR7 hB7
        go_wp2
        refine bodyPost_ret (by simp [results, Tryz.f31, go_sem, HR7.out.c0, HR7.out.c1, HR7.out.c2]; try rfl) rfl ?_
        exact ⟨rfl, HB7.out⟩
      · rw [if_neg (by omega)]
        have H8 := Lib.hid h8
        clear h8
        go_enter Tryz.func31, Tryz.ntmps31
        go_wp2_with fail
        refine HR.out.mono ?_
        rintro r w1 ⟨rfl, hb⟩
        have b1 := HBR.out.below hb HBR.out.lt
        have hB1 := HB0.out.trans (hb.mono HB0.out.size)
        have HB1 := Lib.hid hB1
        have HR1 := Lib.hid b1
        clear hb b1 hB1 HR HB0 HBR
        go_wp2_with fail
        refine (HO.out _).mono ?_
        rintro r w2 ⟨rfl, hb⟩
        have b2 := HR1.out.below hb HR1.out.lt
        have hB2 := HB1.out.trans (hb.mono HB1.out.size)
        obtain ⟨c, w3, hcv, hrd, hb3⟩ := cv_str ys (by omega) w2
        have b3 := b2.below hb3 b2.lt
        have hB3 := hB2.trans (hb3.mono hB2.size)
        obtain ⟨g, hg⟩ : ∃ g, g = w2.heap.size := ⟨_, rfl⟩
        rw [← hg] at hcv hrd
        have hn := new_any (some ⟨g, 0, none⟩) ys.length c ys w3 hrd
        have HN := Lib.hid hn
        have HR3 := Lib.hid b3
        have HB3 := Lib.hid hB3
        have HCV := Lib.hid hcv
        clear hb b2 hB2 hrd hb3 b3 hB3 hg hn HR1 HB1 HO hcv
        have hcv := HCV.out
        go_wp2_with fail
        refine HN.out.mono ?_
        rintro r w4 ⟨p', rfl, hp, hrw, hb⟩
        have b4 := HR3.out.below hb HR3.out.lt
        have hB4 := HB3.out.trans (hb.mono HB3.out.size)
        have hne : w.heap.size < p' := Nat.lt_of_lt_of_le HR3.out.lt hp
        have hnum := num_any p' ys 0 8 w4 hrw
        have HNE := Lib.hid hne
        have HR4 := Lib.hid b4
        have HB4 := Lib.hid hB4
        clear hb hp hrw b4 hB4 hne hcv HCV HN HR3 HB3
        have hr : rnum ys 0 8 = (0, [], 7) := by
          unfold rnum
          rw [if_neg (by simp), if_neg (by omega), if_pos (by have := H8.out; omega)]
        rw [hr] at hnum
        dsimp only at hnum
        have HNUM := Lib.hid hnum
        clear hnum hr
        go_wp2_with fail
        refine HNUM.out.mono ?_
        rintro r w5 ⟨rfl, hrw5, hg5⟩
        have b5 := HR4.out.grown hg5 (by intro e; cases e; have := HNE.out; omega)
        have hB5 := HB4.out.grown hg5 HB4.out.size (fun k e => by cases e; have := HNE.out; omega)
        have hleft := left_any p' [] 7 w5 hrw5
        have hby := bytes_any p' [] 7 0 w5 hrw5
        have hrb : rbytes [] 7 0 = ([], [], 7) := by
          unfold rbytes
          rw [if_pos (by decide)]
        rw [hrb] at hby
        dsimp only at hby
        have HR5 := Lib.hid b5
        have HB5 := Lib.hid hB5
        have HL := Lib.hid (show Calls Tryz.prog 54 #[.pointer (some ⟨p', 0, none⟩)] w5 fun r w' => r = .returned (.int .i64 0) ∧ w5 = w' from hleft)
        have HBY := Lib.hid hby
        clear hrw5 hg5 b5 hB5 hleft hby hrb HR4 HB4 HNUM
        go_wp2_with fail
        refine HL.out.mono ?_
        rintro r w5' ⟨rfl, rfl⟩
        go_wp2_with fail
        refine HBY.out.mono ?_
        rintro r w6 ⟨a6, n6, c6, rfl, hrd6, _, hrw6, hg6⟩
        have b6 := HR5.out.grown hg6 (by intro e; cases e; have := HNE.out; omega)
        have hB6 := HB5.out.grown hg6 HB5.out.size (fun k e => by cases e; have := HNE.out; omega)
        have hwhy := why_any p' [] 7 w6 hrw6
        have HR6 := Lib.hid b6
        have HB6 := Lib.hid hB6
        have HWHY := Lib.hid hwhy
        clear hrd6 hrw6 hg6 b6 hB6 hwhy HR5 HB5 HL HBY
        go_wp2_with fail
        refine HWHY.out.mono ?_
        rintro r w6' ⟨rfl, rfl⟩
        have r0 := HR6.out.c0
        have r1 := HR6.out.c1
        have r2 := HR6.out.c2
        have g0 := HR6.out.f0
        have g1 := HR6.out.f1
        have g2 := HR6.out.f2
        have hR7 := box_ct HR6.out (.bool false) (.int .u64 0) (.string ⟨#[]⟩)
        have hB7 := below_ct (b := w.heap.size) (u := .bool false) (v := .int .u64 0) (r := .string ⟨#[]⟩) HB6.out (Nat.le_refl _)
        have HR7 := Lib.hid hR7
        have HB7 := Lib.hid hB7
        clear hR7 hB7
        go_wp2
        refine bodyPost_ret (by simp [results, Tryz.f31, go_sem, HR7.out.c0, HR7.out.c1, HR7.out.c2]; try rfl) rfl ?_
        exact ⟨rfl, HB7.out⟩
    · have hq2 : ((q : Int) == 0) = false := by simpa using hq
      have hq3 : ((q : Int) != 0) = true := by simp [hq]
      rw [if_neg (by omega)]
      clear hq
      go_enter Tryz.func31, Tryz.ntmps31
      go_wp2_with fail
      refine HR.out.mono ?_
      rintro r w1 ⟨rfl, hb⟩
      have b1 := HBR.out.below hb HBR.out.lt
      have hB1 := HB0.out.trans (hb.mono HB0.out.size)
      have HB1 := Lib.hid hB1
      have HR1 := Lib.hid b1
      clear hb b1 hB1 HR HB0 HBR
      go_wp2_with fail
      refine (HO.out _).mono ?_
      rintro r w2 ⟨rfl, hb⟩
      have b2 := HR1.out.below hb HR1.out.lt
      have hB2 := HB1.out.trans (hb.mono HB1.out.size)
      have HR2 := Lib.hid b2
      have HB2 := Lib.hid hB2
      clear hb b2 hB2 HR1 HB1
      have r0 := HR2.out.c0
      have r1 := HR2.out.c1
      have r2 := HR2.out.c2
      have g0 := HR2.out.f0
      have g1 := HR2.out.f1
      have g2 := HR2.out.f2
      have hR7 := box_ct HR2.out (.bool false) (.int .u64 0) (.string ⟨#[]⟩)
      have hB7 := below_ct (b := w.heap.size) (u := .bool false) (v := .int .u64 0) (r := .string ⟨#[]⟩) HB2.out (Nat.le_refl _)
      have HR7 := Lib.hid hR7
      have HB7 := Lib.hid hB7
      clear hR7 hB7
      go_wp2
      refine bodyPost_ret (by simp [results, Tryz.f31, go_sem, HR7.out.c0, HR7.out.c1, HR7.out.c2]; try rfl) rfl ?_
      exact ⟨rfl, HB7.out⟩
  · have hk2 : (k == 0) = false := by simpa using hk
    have hk3 : (k != 0) = true := by simp [hk]
    rw [if_pos hk]
    clear hk ho
    go_enter Tryz.func31, Tryz.ntmps31
    go_wp2_with fail
    refine HR.out.mono ?_
    rintro r w1 ⟨rfl, hb⟩
    have b1 := HBR.out.below hb HBR.out.lt
    have hB1 := HB0.out.trans (hb.mono HB0.out.size)
    have HB1 := Lib.hid hB1
    have HR1 := Lib.hid b1
    clear hb b1 hB1 HR HB0 HBR
    have r0 := HR1.out.c0
    have r1 := HR1.out.c1
    have r2 := HR1.out.c2
    have g0 := HR1.out.f0
    have g1 := HR1.out.f1
    have g2 := HR1.out.f2
    have hR7 := box_ct HR1.out (.bool false) (.int .u64 0) (.string ⟨#[]⟩)
    have hB7 := below_ct (b := w.heap.size) (u := .bool false) (v := .int .u64 0) (r := .string ⟨#[]⟩) HB1.out (Nat.le_refl _)
    have HR7 := Lib.hid hR7
    have HB7 := Lib.hid hB7
    clear hR7 hB7
    go_wp2
    refine bodyPost_ret (by simp [results, Tryz.f31, go_sem, HR7.out.c0, HR7.out.c1, HR7.out.c2]; try rfl) rfl ?_
    exact ⟨rfl, HB7.out⟩
end Go.Proofs.YtdefdmmlmgkpnaaGreatDoor


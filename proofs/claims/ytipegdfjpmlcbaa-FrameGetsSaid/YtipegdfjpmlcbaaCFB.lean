/-
  A frame is opened: the kind with digests in it: the walk.
-/
import Derived.Test.YtipegdfjpmlcbaaCFA
import Derived.Deep.RegionLaw
namespace Go.Proofs.Ytipegdfjpmlcbaa
open Go.RowKit
set_option linter.unusedVariables false
set_option linter.unusedSimpArgs false

theorem step_append_at {P : Program} {w : World} {ops : Array Oper} {o : Oper} {a : Act} {K : Act → World → Prop} {Q : Exit → Act → World → Prop} {E : Prop} (hgd : o.guard = none) (s x : Operand) (t : TypeId)
    (ho : o.op = .call { callee := .builtin .append, args := #[s, x], argTypes := #[t, t] }) (base : Nat) (e : TypeId) (i : TypeInfo) (z : Value) (size bytes : Nat) (ht : P.underlying t = some (.slice e)) (hi : P.info? e = some i) (hz : i.zero = some z) (hsize : i.size = size) (hby : i.bytes = bytes) (hzs : z.cells.size = size) (hsz : 0 < size)
    (v : Value) (n : Nat) (xs : List Value) (hs : a.eval s = v) (hown : w.ownsRow base e size v n xs) (ad : Addr) (m c : Nat) (news : List Value) (hx : a.eval x = .slice (some ad) m c) (hl : news.length = m * size)
    (hnews : ∀ j u, news[j]? = some u → w.cell? (ad.add j) = some u) (h1 : ∀ u ∈ news, u.oneCell' = true) (h63 : n + m ≤ maxLen) (hbytes : (n + m) * bytes ≤ 140737488355328) (hbase : base ≤ w.heap.size)
    (h : ∀ v' w', w'.ownsRow base e size v' (n + m) (xs ++ news) → w.grownBy w' v.ownBlock → (v'.ownBlock = v.ownBlock ∨ v'.ownBlock = some w.heap.size) → K (a.put o.dst v') w') :
    if Region.wanted o (yielded ops a.tmps) = true then Oper.wp P o a w K Q else E := by
  have hw : Region.wanted o (yielded ops a.tmps) = true := by simp [Region.wanted, hgd]
  rw [if_pos hw]
  obtain ⟨v', w', hr, h2, h3, h4, h5⟩ := run_append_own_at (P := P) w base t o.type e i z size bytes ht hi hz hsize hby hzs hsz v n xs hown ad m c news hl hnews h1 h63 hbytes hbase
  unfold Oper.wp execOp
  simp only [ho, resolve, invoke, builtin, Sem.run_bind, Sem.run_pure, Result.andThen_ok, List.map_toArray, List.map_cons, List.map_nil, hs, hx, hr]
  exact h v' w' h2 h3 h5

theorem OP.drew {w0 w : World} {p : Nat} {f : FR} {lv : Value} {ys : List UInt8} {e : Int} (h : OP w0 w p f lv ys e) : OP w0 w.drew p f lv ys e where
  box := h.box
  res := h.res
  rd := by
    obtain ⟨a, n, cap, hb, hr, hl⟩ := h.rd.blk
    exact ⟨a, n, cap, hb, hr.drew, hl⟩
  far := h.far
  own := h.own
  bel := h.bel.drew
/-- A digest more. -/
theorem op_app {w0 wb w5 : World} {p : Nat} {f f' : FR} {lv v5 : Value} {ys : List UInt8} {e : Int} {ob : Obj} {b : List UInt8} (h : OP w0 wb p f lv ys e) (hpl : ∀ g, lv.ownBlock = some g → p < g)
    (how5 : w5.ownsRow w0.heap.size 9 1 v5 (f.list.length + 1) (tvs f.list ++ [strV b])) (hg5 : (wb.alloc ob).grownBy w5 lv.ownBlock) (hat5 : v5.ownBlock = lv.ownBlock ∨ v5.ownBlock = some (wb.alloc ob).heap.size)
    (hs : (frC f lv).setIfInBounds 10 v5 = frC f' v5) (hl : f'.list = f.list ++ [b]) :
    (w5.cell? ⟨w0.heap.size, 10, none⟩ = some lv ∧ w5.frozen? ⟨w0.heap.size, 10, none⟩ = false) ∧ OP w0 (w5.setCell ⟨w0.heap.size, 10, none⟩ v5) p f' v5 ys e ∧ ∀ g, v5.ownBlock = some g → p < g := by
  have hlt := h.lt
  have hplt := h.rd.lt
  have hold : ∀ k, k < wb.heap.size → lv.ownBlock ≠ some k → w5.heap[k]? = wb.heap[k]? := fun k h1 h2 => (hg5.block k (by simp; omega) (fun e2 => h2 e2.symm)).trans (heap_alloc_old _ _ h1)
  have hbox : w5.heap[w0.heap.size]? = some (.cells (frC f lv) 26 (0, 0)) := (hold _ (by omega) h.ne_box).trans h.box
  have hres : w5.heap[w0.heap.size + 1]? = some (.cells (frC fr0 (.slice none 0 0)) 26 (0, 0)) := (hold _ hlt h.ne_res).trans h.res
  have hne : v5.ownBlock ≠ some w0.heap.size := by
    rcases hat5 with h1 | h1
    · rw [h1]; exact h.ne_box
    · rw [h1]; simp; omega
  have hfar := h.far
  refine ⟨⟨by rw [cell_of_blk hbox]; rfl, free_of_blk hbox 10⟩, ⟨?_, ?_, ?_, hfar, ?_, ?_⟩, ?_⟩
  · exact (blk_setCell hbox).trans (by rw [hs])
  · exact (Below.heap_setCell _ _ _ _ (by simp)).trans hres
  · obtain ⟨a, n, cap, hb, hr, hlow⟩ := h.rd.blk
    refine ⟨a, n, cap, (Below.heap_setCell _ _ _ _ (by simp; omega)).trans ((hold p hplt (fun e2 => absurd (hpl p e2) (Nat.lt_irrefl p))).trans hb), hr.kept0 ?_ (fun b' off e2 h0 => ?_), hlow⟩
    · have h1 := hg5.size
      simp [World.setCell] at h1 ⊢
      omega
    · obtain ⟨b1, off1, e4, hlt1, hc⟩ := hr.at0 h0
      rw [e2] at e4
      cases e4
      have hbp : b' < p := hlow ⟨b', off, none⟩ e2
      refine (Below.heap_setCell _ _ _ _ (fun e3 => ?_)).trans (hold b' (by omega) (fun e2 => absurd (hpl b' e2) (by omega)))
      have h1 := hc 0 h0
      simp at e3
      subst e3
      rw [cell_of_blk h.box] at h1
      rcases h.own.2 with ⟨rfl, _⟩ | ⟨g, cap', cur, rfl, _⟩
      · exact frC_no_byte _ _ _ _ _ _ h1
      · exact frC_no_byte _ _ _ _ _ _ h1
  · rw [hl]
    have := how5.kept (gb_setCell (World.grownBy.refl _ _) (i := 10) (u := v5) (p := w0.heap.size)) (.inr hne)
    simpa [tvs] using this
  · exact Below.setCell ((h.bel.alloc h.bel.size _).grown hg5 (by have := h.bel.size; simp; omega) (fun k e2 => (h.own.lt k e2).1)) (show w0.heap.size ≤ (⟨w0.heap.size, 10, none⟩ : Addr).block from Nat.le_refl _) v5
  · intro g hg
    rcases hat5 with h1 | h1
    · exact hpl g (h1 ▸ hg)
    · rw [h1] at hg; simp at hg; omega
theorem str_cell (w : World) (s : ByteArray) : ∀ (j : Nat) (u : Value), [Value.string s][j]? = some u → (w.alloc (.cells #[.string s] 9)).cell? ((⟨w.heap.size, 0, none⟩ : Addr).add j) = some u := by
  intro j u h
  match j with
  | 0 =>
    simp at h
    subst h
    rw [Addr.add_none, cell_of_blk (heap_alloc_new w (.cells #[.string s] 9)) 0]
    rfl
  | j + 1 => simp at h
theorem chunk_length (ys : List UInt8) (e : Int) : ∀ k, (chunk ys e k).1.length = k
  | 0 => rfl
  | k + 1 => by rw [chunk_succ]; simp [chunk_length ys e k]
theorem infoStr : (Try.prog.info? 9).map (fun i => (i.zero, i.size, i.bytes)) = some (some (.string ⟨#[]⟩), 1, 16) := by kernel_rfl
theorem own_slice {w : World} {B e size n : Nat} {v : Value} {xs : List Value} (h : w.ownsRow B e size v n xs) : ∃ a m c, v = .slice a m c := by
  rcases h.2 with ⟨rfl, _⟩ | ⟨g, cap, cur, rfl, _⟩
  · exact ⟨_, _, _, rfl⟩
  · exact ⟨_, _, _, rfl⟩

set_option maxRecDepth 20000 in
set_option maxHeartbeats 1000000 in
theorem open_4 (h : FR) (hh : h = h.head) (hk : h.kind = 4) (a : Option Addr) (n c : Nat) (xs : List UInt8) (w : World) (hrd : Rd w a n c xs) :
    Calls Try.prog 15 #[frV h (.slice none 0 0), .slice a n c] w fun e w' => OpenR h xs w e w' := by
  have hl0 : h.list = [] := by rw [hh]; rfl
  have hal : Below w.heap.size w ((w.alloc (.cells (frC h (.slice none 0 0)) 26)).alloc (.cells (frC fr0 (.slice none 0 0)) 26)) := ((Below.refl _ _).alloc (Nat.le_refl _) _).alloc (by simp) _
  have hnw := new_any a n c xs _ (hrd.later hal)
  have HNW := Lib.hid hnw
  have HRD := Lib.hid hrd
  have HL0 := Lib.hid hl0
  have HH := Lib.hid hh
  have HKK := Lib.hid hk
  have HBG := Lib.hid (fun w2 p hp hr hb => op_begin h hl0 a n c xs w w2 p hrd hp hr hb)
  have hi0 : (Try.prog.info? 26).map (·.size) = some frZ.size := by kernel_rfl
  have ho0 : frZ.all (·.oneCell') = true := by simp [frZ, Value.oneCell']
  clear hnw hal hrd hl0 hh hk
  simp only [frC, fr0, strV, List.map_nil] at HNW
  unfold frV
  go_enter Try.func15, Try.ntmps15
  go_wp2
  refine wp_scope_once 0 rfl ?_
  go_wp2_with fail
  refine HNW.out.mono ?_
  rintro e w2 ⟨p, rfl, hp, hr, hb⟩
  have hop := HBG.out w2 p hp hr hb
  obtain ⟨f0, hf0⟩ : ∃ f, f = h := ⟨_, rfl⟩
  have HF0 := Lib.hid hf0
  have HOP0 := Lib.hid hop
  clear hp hr hb HBG HNW HRD hop hf0
  have k0 : w2.cell? ⟨w.heap.size, 0, none⟩ = some (.int .i64 4) := by rw [HOP0.out.cell 0, ← HKK.out]; rfl
  go_wp2_with fail
  obtain ⟨v1, ys1, e1, hr1⟩ : ∃ v y e, rnum xs 0 2 = (v, y, e) := ⟨_, _, _, rfl⟩
  have hv1 : v1 < 256 ^ 2 := by have := rnum_lt xs 0 2 2 rfl; rw [hr1] at this; exact this
  have HN1 := Lib.hid (op_num HOP0.out 2)
  rw [hr1] at HN1
  have HR1 := Lib.hid hr1
  have HV1 := Lib.hid hv1
  clear hr1 hv1
  refine HN1.out.mono ?_
  rintro r1 wa1 ⟨rfl, hop⟩
  have HA1 := Lib.hid hop
  have c1 : wa1.cell? ⟨w.heap.size, 7, none⟩ = some (.int .i64 h.index) := by rw [hop.cell 7]; rfl
  have fr1 : wa1.frozen? ⟨w.heap.size, 7, none⟩ = false := hop.free 7
  have wr1 : IntKind.i64.wrap ((v1 : Nat) : Int) = (v1 : Int) := by have := HV1.out; exact wrap_small _ (by omega) (by omega)
  have HOP1 := Lib.hid (hop.set 7 (.int .i64 (v1 : Int)) (f' := (⟨h.kind, h.sess, h.ep, h.seq, h.vol, h.n, h.f, (v1 : Int), h.code, h.data, h.list⟩ : FR)) rfl rfl)
  clear hop
  obtain ⟨wb1, hwb1⟩ : ∃ x, x = wa1.setCell ⟨w.heap.size, 7, none⟩ (.int .i64 (v1 : Int)) := ⟨_, rfl⟩
  rw [← hwb1] at HOP1
  have HWB1 := Lib.hid hwb1
  clear hwb1
  go_wp2_with fail
  rw [← HWB1.out]
  obtain ⟨v2, ys2, e2, hr2⟩ : ∃ v y e, rnum ys1 e1 1 = (v, y, e) := ⟨_, _, _, rfl⟩
  have hv2 : v2 < 256 ^ 1 := by have := rnum_lt ys1 e1 1 1 rfl; rw [hr2] at this; exact this
  have HN2 := Lib.hid (op_num HOP1.out 1)
  rw [hr2] at HN2
  have HR2 := Lib.hid hr2
  refine HN2.out.mono ?_
  rintro r1 w4 ⟨rfl, hop⟩
  have HOP2 := Lib.hid hop
  have wr2 : IntKind.i64.wrap ((v2 : Nat) : Int) = (v2 : Int) := wrap_small _ (by omega) (by omega)
  have HV2 := Lib.hid hv2
  clear hop hr2 hv2
  by_cases hm : 4 < v2
  · have c4 : (4 : Int) < (v2 : Int) := by omega
    have HNO := Lib.hid (open4_many HKK.out HR1.out HR2.out hm)
    obtain ⟨hw5, hb5, _⟩ := op_row HOP2.out frZ
    have hrs := HOP2.out.res
    rw [frZ_eq] at hrs
    have HB5 := Lib.hid hb5
    clear hb5 hm
    go_wp2
    go_step3
    refine ⟨rfl, ?_⟩
    go_wp2_with (with_reducible refine wpList_store_row (o := ⟨none, _, _, _, _, _⟩) rfl 26 (.tmp 4) (.tmp 99) rfl (w.heap.size + 1) frZ rfl rfl 26 frZ hrs hi0 rfl ho0 ?_)
    rw [Exit.noGoto_ret]
    refine bodyPost_ret (results_row_tmp (p := 4) (u := 5) (ty := 26) rfl _ _ (w.heap.size + 1) 26 frZ (0, 0) _ rfl hw5 Try.underlying26 rfl hi0) rfl ?_
    exact open_bad HNO.out rfl HB5.out
  · have c4 : ¬ (4 : Int) < (v2 : Int) := by omega
    have HM := Lib.hid hm
    clear hm
    go_wp2
    go_loopw [61] (fun i wr => ∃ k : Nat, k ≤ v2 ∧ i = .int .i64 k ∧ ∃ L Y E lv, chunk ys2 e2 k = (L, Y, E) ∧ OP w wr p (⟨h.kind, h.sess, h.ep, h.seq, h.vol, h.n, h.f, (v1 : Int), h.code, h.data, L⟩ : FR) lv Y E ∧ (∀ g, lv.ownBlock = some g → p < g)) (fun i _ => v2 - (intOf i).toNat)
    case atStart => exact ⟨0, by omega, rfl, [], ys2, e2, .slice none 0 0, rfl, by have := HOP2.out; rw [HL0.out] at this; exact this, by simp [Value.ownBlock]⟩
    case round =>
      obtain ⟨k, hk, rfl, L, Y, E, lv, hch, hop, hpl⟩ := hrel
      have hLk : L.length = k := by have := chunk_length ys2 e2 k; rw [hch] at this; exact this
      by_cases hlt : k < v2
      · have i2 : (k : Int) < (v2 : Int) := by omega
        obtain ⟨b, Y', E', hrb⟩ : ∃ b y e, rbytes Y E 32 = (b, y, e) := ⟨_, _, _, rfl⟩
        have HCH2 := Lib.hid (show chunk ys2 e2 (k + 1) = (L ++ [b], Y', E') by rw [chunk_succ, hch]; simp only [hrb])
        have HBY := Lib.hid (op_bytes hop.drew 32)
        rw [hrb] at HBY
        have c10 : wr.cell? ⟨w.heap.size, 10, none⟩ = some lv := by rw [hop.cell 10]; rfl
        have HPL := Lib.hid hpl
        have HLK := Lib.hid hLk
        have HV3 := Lib.hid (show v2 < 256 from HV2.out)
        obtain ⟨i9, hi9, hz9, hs9, hb9⟩ := info_parts infoStr
        clear hrb hpl hop hLk hch
        go_wp2_with fail
        go_region_law (first
          | (refine step_append_at (P := Try.prog) (o := ⟨some 69, _, _, _, _, _⟩) rfl (.tmp 64) (.tmp 68) 24 rfl w.heap.size 9 i9 _ 1 16 Try.underlying24 hi9 hz9 hs9 hb9 rfl (by omega) lv L.length (tvs L) (by rfl) (HOP9.out.own.alloc _) ⟨wb.heap.size, 0, none⟩ 1 1 [.string sz] (by rfl) rfl (str_cell wb sz) (by simp [Value.oneCell']) (by unfold maxLen; have := HLK.out; have := HV3.out; omega) (by have := HLK.out; have := HV3.out; omega) (by have := HOP9.out.bel.size; simp; omega) ?_; intro v5 w5 how5 hg5 hat5; obtain ⟨a5, m5, cc5, rfl⟩ := own_slice how5; obtain ⟨⟨k5, f5⟩, hend, hpl5⟩ := op_app (f' := (⟨h.kind, h.sess, h.ep, h.seq, h.vol, h.n, h.f, (v1 : Int), h.code, h.data, L ++ [b]⟩ : FR)) (b := b) HOP9.out HPL.out (by rw [HSZ.out]; exact how5) hg5 hat5 rfl rfl; have HEND := Lib.hid hend; have HPL5 := Lib.hid hpl5; clear how5 hg5 hat5 hend hpl5)
          | (go_simp; go_at_call 30; refine HBY.out.mono ?_; rintro r wb ⟨a9, n9, c9, rfl, hrd9, hop9⟩; obtain ⟨sz, hsz⟩ : ∃ s : ByteArray, s = ⟨b.toArray⟩ := ⟨_, rfl⟩; have hcv : (convert 29 9 (.slice a9 n9 c9)).run Try.prog wb = .ok (.string sz) wb := (by rw [hsz]; exact rd_string hrd9); have HOP9 := Lib.hid hop9; have HSZ := Lib.hid (show strV b = .string sz by rw [hsz]; rfl); have c10b : wb.cell? ⟨w.heap.size, 10, none⟩ = some lv := (by rw [hop9.cell 10]; rfl); have c10c : (wb.alloc (.cells #[.string sz] 9)).cell? ⟨w.heap.size, 10, none⟩ = some lv := (by rw [cell_of_blk ((heap_alloc_old _ _ (by have := hop9.lt; omega)).trans hop9.box) 10]; rfl); clear hrd9 hop9 hsz))
        all_goals (
          go_wp2
          go_roundw
          case rel => exact ⟨k + 1, by omega, by go_num, L ++ [b], Y', E', _, HCH2.out, HEND.out, HPL5.out⟩
          case measure => simp [intOf]; omega)
      · obtain rfl : k = v2 := by omega
        obtain ⟨a7, n7, c7, rfl⟩ := own_slice hop.own
        have HOPE := Lib.hid hop
        have HCHE := Lib.hid hch
        have HM4 := Lib.hid (show k ≤ 4 by have := HM.out; omega)
        have i3 : ¬ (k : Int) < (k : Int) := by omega
        clear hop hch hpl hLk hlt
        go_wp2_with fail
        have HW1 := Lib.hid (op_why HOPE.out)
        have HL1 := Lib.hid (op_left HOPE.out)
        obtain ⟨en, hen⟩ : ∃ l : Int, l = E := ⟨_, rfl⟩
        obtain ⟨ln, hln⟩ : ∃ l : Int, l = ((Y).length : Int) := ⟨_, rfl⟩
        rw [← hln] at HL1
        rw [← hen] at HW1
        have HEL := Lib.hid (And.intro hen hln)
        have hrs := HOPE.out.res
        rw [frZ_eq] at hrs
        clear hen hln
        by_cases hz : en = 0
        · by_cases hz2 : 0 < ln
          · have HNO := Lib.hid (show openP h xs = none from (open4_bad HKK.out HR1.out HR2.out HCHE.out (.inr fun h9 => by have h5 := HEL.out.2; rw [h9] at h5; simp at h5; omega)))
            obtain ⟨hw5, hb5, _⟩ := op_row HOPE.out frZ
            have HB5 := Lib.hid hb5
            clear hb5
            subst hz
            refine HW1.out.mono ?_
            rintro r9 w3 ⟨rfl, hw1⟩; obtain rfl := hw1.symm; clear hw1
            go_wp2_with fail
            refine HL1.out.mono ?_
            rintro r9 w3 ⟨rfl, hw1⟩; obtain rfl := hw1.symm; clear hw1
            go_wp2
            go_step3
            refine ⟨rfl, ?_⟩
            go_wp2_with (with_reducible refine wpList_store_row (o := ⟨none, _, _, _, _, _⟩) rfl 26 (.tmp 4) (.tmp 99) rfl (w.heap.size + 1) frZ rfl rfl 26 frZ hrs hi0 rfl ho0 ?_)
            rw [Exit.noGoto_ret]
            refine bodyPost_ret (results_row_tmp (p := 4) (u := 5) (ty := 26) rfl _ _ (w.heap.size + 1) 26 frZ (0, 0) _ rfl hw5 Try.underlying26 rfl hi0) rfl ?_
            exact open_bad HNO.out rfl HB5.out
          · have HSO := Lib.hid (show openP h xs = some (⟨h.kind, h.sess, h.ep, h.seq, h.vol, h.n, h.f, (v1 : Int), h.code, h.data, L⟩ : FR) from (by obtain rfl : E = 0 := HEL.out.1.symm.trans hz; have h5 := HEL.out.2; obtain rfl : Y = [] := List.eq_nil_of_length_eq_zero (by omega); exact open4_good HKK.out HR1.out HR2.out HCHE.out HM4.out))
            obtain ⟨hw5, hb5, hfm⟩ := op_row HOPE.out (frC (⟨h.kind, h.sess, h.ep, h.seq, h.vol, h.n, h.f, (v1 : Int), h.code, h.data, L⟩ : FR) (.slice a7 n7 c7))
            have HB5 := Lib.hid hb5
            have HFM := Lib.hid hfm
            have hbx := HOPE.out.box
            have ho1 : (frC (⟨h.kind, h.sess, h.ep, h.seq, h.vol, h.n, h.f, (v1 : Int), h.code, h.data, L⟩ : FR) (.slice a7 n7 c7)).all (·.oneCell') = true := frC_one _ _ _ _
            have hi1 : (Try.prog.info? 26).map (·.size) = some (frC (⟨h.kind, h.sess, h.ep, h.seq, h.vol, h.n, h.f, (v1 : Int), h.code, h.data, L⟩ : FR) (.slice a7 n7 c7)).size := by kernel_rfl
            have hs1 : frZ.size = (frC (⟨h.kind, h.sess, h.ep, h.seq, h.vol, h.n, h.f, (v1 : Int), h.code, h.data, L⟩ : FR) (.slice a7 n7 c7)).size := rfl
            clear hb5 hfm
            obtain ⟨Y, hY⟩ : ∃ Y, Y = frC (⟨h.kind, h.sess, h.ep, h.seq, h.vol, h.n, h.f, (v1 : Int), h.code, h.data, L⟩ : FR) (.slice a7 n7 c7) := ⟨_, rfl⟩
            rw [← hY] at hbx ho1 hi1 hw5 hs1
            have HB6 : Hid (Below w.heap.size w (wr.setRow (w.heap.size + 1) Y)) := Lib.hid (by rw [hY]; exact HB5.out)
            have HF6 : Hid (Frm (wr.setRow (w.heap.size + 1) Y) (⟨h.kind, h.sess, h.ep, h.seq, h.vol, h.n, h.f, (v1 : Int), h.code, h.data, L⟩ : FR) (frV (⟨h.kind, h.sess, h.ep, h.seq, h.vol, h.n, h.f, (v1 : Int), h.code, h.data, L⟩ : FR) (.slice a7 n7 c7))) := Lib.hid (by rw [hY]; exact HFM.out)
            have HY := Lib.hid hY
            have HS1 := Lib.hid hs1
            clear hY HB5 HFM hs1
            subst hz
            have e3 : decide (0 < ln) = false := by simpa using hz2
            refine HW1.out.mono ?_
            rintro r9 w3 ⟨rfl, hw1⟩; obtain rfl := hw1.symm; clear hw1
            go_wp2_with fail
            refine HL1.out.mono ?_
            rintro r9 w3 ⟨rfl, hw1⟩; obtain rfl := hw1.symm; clear hw1
            go_wp2_with (first | (with_reducible refine wpList_load_row (o := ⟨some 98, _, _, _, _, _⟩) rfl 26 (.tmp 2) rfl w.heap.size rfl 26 Y (0, 0) _ hbx Try.underlying26 rfl hi1 ?_) | (with_reducible refine wpList_store_row (o := ⟨none, _, _, _, _, _⟩) rfl 26 (.tmp 4) (.tmp 98) rfl (w.heap.size + 1) Y rfl rfl 26 frZ hrs hi1 HS1.out ho1 ?_))
            refine bodyPost_ret (results_row_tmp (p := 4) (u := 5) (ty := 26) rfl _ _ (w.heap.size + 1) 26 Y (0, 0) _ rfl hw5 Try.underlying26 rfl hi1) rfl ?_
            exact open_good' HSO.out (by rw [HY.out]; rfl) HF6.out HB6.out
        · have HNO := Lib.hid (show openP h xs = none from (open4_bad HKK.out HR1.out HR2.out HCHE.out (.inl fun h9 => hz (HEL.out.1.trans h9))))
          obtain ⟨hw5, hb5, _⟩ := op_row HOPE.out frZ
          have HB5 := Lib.hid hb5
          clear hb5
          have e1x : (en == 0) = false := by simpa using hz
          have e2x : (en != 0) = true := by simpa using hz
          refine HW1.out.mono ?_
          rintro r9 w3 ⟨rfl, hw1⟩; obtain rfl := hw1.symm; clear hw1
          go_wp2
          go_step3
          refine ⟨rfl, ?_⟩
          go_wp2_with (with_reducible refine wpList_store_row (o := ⟨none, _, _, _, _, _⟩) rfl 26 (.tmp 4) (.tmp 99) rfl (w.heap.size + 1) frZ rfl rfl 26 frZ hrs hi0 rfl ho0 ?_)
          rw [Exit.noGoto_ret]
          refine bodyPost_ret (results_row_tmp (p := 4) (u := 5) (ty := 26) rfl _ _ (w.heap.size + 1) 26 frZ (0, 0) _ rfl hw5 Try.underlying26 rfl hi0) rfl ?_
          exact open_bad HNO.out rfl HB5.out

end Go.Proofs.Ytipegdfjpmlcbaa


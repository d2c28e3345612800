/-
  Texts put together: U0, U1.
-/
import Derived.Test.YtpkeikbiblfidaaGreatDoorMD
import Derived.Test.YtpkeikbiblfidaaGreatDoorMG4
import Derived.Test.YtpkeikbiblfidaaGreatDoorME
/-
  Lists of texts; digests of sectors and of children; the document's Above.
-/
namespace Go.Proofs.YtpkeikbiblfidaaGreatDoor
open Go.RowKit Dg
set_option linter.unusedVariables false
set_option linter.unusedSimpArgs false

/-- The slice value reads as the texts L. -/
structure Rs (w : World) (a : Option Addr) (n cap : Nat) (L : List ByteArray) : Prop where
  len : L.length = n
  le : n ≤ cap
  cm : cap ≤ maxLen
  at0 : 0 < n → ∃ b off, a = some ⟨b, off, none⟩ ∧ b < w.heap.size ∧ ∀ i, i < n → w.cell? ⟨b, off + i, none⟩ = some (.string (lAt L i))

theorem Rs.later {w w' : World} {a : Option Addr} {n cap : Nat} {L : List ByteArray} (h : Rs w a n cap L) (hb : Below w.heap.size w w') : Rs w' a n cap L where
  len := h.len
  le := h.le
  cm := h.cm
  at0 := fun h0 => by
    obtain ⟨b, off, ha, hlt, hc⟩ := h.at0 h0
    exact ⟨b, off, ha, Nat.lt_of_lt_of_le hlt hb.size, fun i hi => by rw [hb.cell (by exact hlt)]; exact hc i hi⟩
theorem Rs.strs {w : World} {a : Option Addr} {n cap : Nat} {L : List ByteArray} (h : Rs w a n cap L) : Strs w a n (lAt L) := ⟨h.at0⟩

theorem rs_nil (w : World) : Rs w none 0 0 [] := ⟨rfl, Nat.le_refl _, by unfold maxLen; omega, fun h => by omega⟩

theorem towns_shape {w : World} {B n : Nat} {v : Value} {L : List ByteArray} (h : w.ownsRow B 9 1 v n (strs L)) :
    ∃ a c, v = .slice a n c ∧ Rs w a n c L ∧ ∀ b off sp, a = some ⟨b, off, sp⟩ → B ≤ b ∧ v.ownBlock = some b ∧ off = 0 := by
  have H := h
  have hl : L.length = n := by have := h.1; simpa [strs_length] using this
  obtain ⟨_, h2⟩ := h
  rcases h2 with ⟨rfl, rfl⟩ | ⟨g, cap, cur, rfl, hB, hh, hle, hm, _, _⟩
  · exact ⟨none, 0, rfl, ⟨hl, Nat.le_refl _, by unfold maxLen; omega, fun h => by omega⟩, fun _ _ _ e => by cases e⟩
  · have hlt := (H.lt g rfl).2
    refine ⟨_, _, rfl, ⟨hl, hle, hm, fun _ => ⟨g, 0, rfl, hlt, fun i hi => ?_⟩⟩, fun b off sp e => by cases e; exact ⟨hB, rfl, rfl⟩⟩
    rw [Nat.zero_add]
    have := World.ownsRow.cellAt H i (by omega)
    rw [this, strs_at (by omega)]

theorem one_scell (w : World) (s : ByteArray) : ∀ (j : Nat) (u : Value), (strs [s])[j]? = some u → (w.alloc (.cells #[.string s] 9)).cell? ((⟨w.heap.size, 0, none⟩ : Addr).add j) = some u := by
  intro j u hj
  rw [Addr.add_none, cell_of_blk (heap_alloc_new w _), Nat.zero_add]
  simpa [strs] using hj
theorem tstrs_append (L M) : strs (L ++ M) = strs L ++ strs M := by simp [strs]

/-- 'append(out, s)': out the call's own (or nil), s in a new block. -/
theorem wpList_append_s {P : Program} {w w0 : World} {ops : Array Oper} {rest : List Oper} {o : Oper} {a : Act} {Q : Exit → Act → World → Prop} (hgd : o.guard = none) (s x : Operand) (t : TypeId)
    (ho : o.op = .call { callee := .builtin .append, args := #[s, x], argTypes := #[t, t] })
    (base : Nat) (i : TypeInfo) (ht : P.underlying t = some (.slice 9)) (hi : P.info? 9 = some i) (hz : i.zero = some (.string noBytes))
    (hsize : i.size = 1) (hby : i.bytes = 16)
    (v : Value) (n : Nat) (xs : List ByteArray) (hs : a.eval s = v) (hown : w.ownsRow base 9 1 v n (strs xs))
    (y : ByteArray) (hx : a.eval x = .slice (some ⟨w0.heap.size, 0, none⟩) 1 1) (hw : w = w0.alloc (.cells #[.string y] 9))
    (hbytes : n < 1000000) (hbase : base ≤ w.heap.size)
    (h : ∀ v' w', w'.ownsRow base 9 1 v' (n + 1) (strs (xs ++ [y])) → w.grownBy w' v.ownBlock → (v'.ownBlock = v.ownBlock ∨ v'.ownBlock = some w.heap.size) → wpList P ops Q rest (a.put o.dst v') w') : wpList P ops Q (o :: rest) a w := by
  subst hw
  refine wpList_append_own_at (w := w0.alloc (.cells #[.string y] 9)) hgd s x t ho base 9 i (.string noBytes) 1 16 ht hi hz hsize hby rfl (by omega) v n (strs xs) hs hown ⟨w0.heap.size, 0, none⟩ 1 1 (strs [y]) hx rfl ?_ (strs_one _) (by unfold maxLen; omega) (by omega) hbase (fun v' w' h1 h2 _ h4 => h v' w' (by rw [tstrs_append]; exact h1) h2 h4)
  exact one_scell w0 y

/-- The texts of some nodes. -/
def kids (L : List ByteArray) (ks : List Int) : List ByteArray := ks.map fun c => lAt L c.toNat
theorem kids_length (L ks) : (kids L ks).length = ks.length := by simp [kids]
theorem kids_take {L : List ByteArray} {ks : List Int} {k : Nat} (h : k < ks.length) : kids L (ks.take (k + 1)) = kids L (ks.take k) ++ [lAt L (ks[k]?.getD 0).toNat] := by
  unfold kids
  rw [List.take_add_one, List.map_append]
  congr 1
  rw [List.getElem?_eq_getElem h]
  rfl
/-- The digest of a sector; the digest of a node with these children. -/
def leafB (s : ByteArray) : ByteArray := ⟨(dig (0 :: s.data.toList)).toArray⟩
def nodeB (K : List ByteArray) : ByteArray := ⟨(dig (1 :: jn (lAt K) K.length)).toArray⟩
theorem dig_length (xs : List UInt8) : (dig xs).length = 32 := by
  unfold dig
  exact outS_length _

theorem children_mem {N F C U : Int} {k : Nat} {c : Int} (hc : c ∈ children N F C U k) : ∃ j : Nat, c = j ∧ j < k := by
  unfold children at hc
  split at hc
  · rename_i h
    obtain ⟨hok, h0, h1⟩ := h
    obtain ⟨n, f, rfl, rfl, ho⟩ := ok_of hok
    have hx : k < S n f (H n f + 1) := by simpa using h1
    obtain ⟨_, l1, _⟩ := lvl_spec hx
    simp only [Int.toNat_natCast, ch, List.mem_map, List.mem_range] at hc
    obtain ⟨j, hj, rfl⟩ := hc
    refine ⟨_, rfl, ?_⟩
    unfold chNG at hj
    split at hj
    · omega
    · omega
  · simp at hc
end Go.Proofs.YtpkeikbiblfidaaGreatDoor
/-
  The document's Above.
-/
namespace Go.Proofs.YtpkeikbiblfidaaGreatDoor
open Go.RowKit Dg
set_option linter.unusedVariables false
set_option linter.unusedSimpArgs false

theorem jn_small (K : List ByteArray) (B : Nat) (h : ∀ i, i < K.length → (lAt K i).size ≤ B) : ∀ l, l ≤ K.length → (jn (lAt K) l).length ≤ l * B
  | 0, _ => by simp [jn]
  | l + 1, hl => by
    have h1 := jn_small K B h l (by omega)
    have h2 := h l (by omega)
    have h3 : (lAt K l).data.toList.length = (lAt K l).size := rfl
    simp only [jn, List.length_append]
    have e : (l + 1) * B = l * B + B := by rw [Nat.add_mul, Nat.one_mul]
    omega

set_option maxRecDepth 20000 in
set_option maxHeartbeats 2000000 in
theorem rabove_any (N F C U : Int) (a : Option Addr) (l cap : Nat) (L : List ByteArray) (k : Nat) (w : World) (hP : Rs w a l cap L) (hk : ∀ c ∈ children N F C U k, ∃ j : Nat, c = j ∧ j < l) (h32 : ∀ i, i < l → (lAt L i).size ≤ 1000) :
    Calls Tryz.prog 77 #[geo N F C U, .slice a l cap, .int .i64 k] w fun e w' => e = .returned (.string (nodeB (kids L (children N F C U k)))) ∧ Below w.heap.size w w' := by
  obtain ⟨i0, hi, hz0, hz1, hz2⟩ := info_parts Tryz.info9
  have hb0 := (Below.refl w.heap.size w).alloc (Nat.le_refl _) (gbox N F C U)
  have hch := rchildren_any N F C U k (w.alloc (gbox N F C U))
  have hlen := children_len N F C U k
  obtain ⟨ks, hks⟩ : ∃ ks, ks = children N F C U k := ⟨_, rfl⟩
  rw [← hks] at hch hlen hk ⊢
  have hPw := hP.later hb0
  have HP := Lib.hid hPw
  have HK := Lib.hid hk
  have H32 := Lib.hid h32
  have HCH := Lib.hid hch
  have HB0 := Lib.hid hb0
  have hcx : (cap : Int) ≤ 9223372036854775807 := by have := hP.cm; unfold maxLen at this; omega
  clear hks hch hPw hk h32 hb0 hP
  unfold geo at *
  unfold gbox at HB0 HCH HP
  go_enter Tryz.func77, Tryz.ntmps77
  go_wp2_with fail
  refine HCH.out.mono ?_
  rintro e w1 ⟨⟨v, rfl, ac, nc, cc, rfl, hri, hlow⟩, hb1⟩
  have hB1 := HB0.out.trans (hb1.mono HB0.out.size)
  have hnc := hri.len
  subst hnc
  have HR := Lib.hid hri
  have HB1 := Lib.hid hB1
  have HP1 := Lib.hid (HP.out.later hb1)
  clear hri hlow hb1 hB1 HP HB0 HCH
  go_wp2
  go_loopw [7, 9] (fun s i wr => ∃ j : Nat, j ≤ ks.length ∧ i = .int .i64 j ∧ wr.ownsRow w1.heap.size 9 1 s j (strs (kids L (ks.take j))) ∧ Below w1.heap.size w1 wr) (fun _ i _ => ks.length - (intOf i).toNat)
  case atStart => exact ⟨0, by omega, rfl, World.ownsRow_nil _ _ _ _, Below.refl _ _⟩
  case round =>
    obtain ⟨j, hj, rfl, ho, hB⟩ := hrel
    by_cases hlt : j < ks.length
    · have i0' : (0 : Int) ≤ (j : Int) := by omega
      have i1 : (j : Int) < (ks.length : Int) := by omega
      obtain ⟨b, off, rfl, hbl, hc⟩ := (HR.out.later hB).at0 (by omega)
      have c1 := hc j hlt
      obtain ⟨x, hx, hxl⟩ := HK.out _ (List.getElem_mem hlt)
      have hx' : ks[j]?.getD 0 = (x : Int) := by rw [List.getElem?_eq_getElem hlt]; exact hx
      rw [hx'] at c1
      obtain ⟨b2, off2, rfl, hbl2, hc2⟩ := (HP1.out.later hB).at0 (by omega)
      have c2 := hc2 x hxl
      have x0 : (0 : Int) ≤ (x : Int) := by omega
      have x1 : (x : Int) < (l : Int) := by omega
      obtain ⟨sx, hsx⟩ : ∃ s, s = lAt L x := ⟨_, rfl⟩
      rw [← hsx] at c2
      have htk := kids_take (L := L) hlt
      rw [hx'] at htk
      simp only [Int.toNat_natCast] at htk
      rw [← hsx] at htk
      have HTK := Lib.hid htk
      have HBB := Lib.hid hB
      have HS1 := Lib.hid hB.size
      clear hc hc2 hx hx' hxl hsx htk hB
      go_wp2_with (at_builtin; refine wpList_append_s (o := ⟨some 28, _, _, _, _, _⟩) rfl (.tmp 19) (.tmp 27) 49 rfl w1.heap.size i0 Tryz.underlying49 hi hz0 hz1 hz2 _ j _ rfl (ho.alloc _) _ rfl rfl (by omega) (by have := HS1.out; simp; omega) ?_)
      intro v5 w5 h1 h2 _
      rw [← HTK.out] at h1
      have hB5 := (HBB.out.alloc HBB.out.size (.cells #[.string sx] 9)).grown h2 (HBB.out.alloc HBB.out.size (.cells #[.string sx] 9)).size (fun x e => (ho.lt x e).1)
      obtain ⟨a5, c5, rfl, _, _⟩ := towns_shape h1
      have HO5 := Lib.hid h1
      have HB5 := Lib.hid hB5
      clear h1 h2 hB5 ho c1 c2
      go_wp2
      go_roundw
      case rel => exact ⟨j + 1, by omega, by go_num, HO5.out, HB5.out⟩
      case measure => simp [intOf]; omega
    · obtain rfl : j = ks.length := by omega
      rw [List.take_length] at ho
      obtain ⟨a5, c5, rfl, hrs, _⟩ := towns_shape ho
      have hkl := kids_length L ks
      have hks : ∀ i, i < (kids L ks).length → (lAt (kids L ks) i).size ≤ 1000 := by
        intro i hi
        rw [hkl] at hi
        have e : lAt (kids L ks) i = lAt L (ks[i]'hi).toNat := by
          unfold lAt kids
          rw [List.getElem?_map, List.getElem?_eq_getElem hi]
          rfl
        obtain ⟨x, hx, hxl⟩ := HK.out _ (List.getElem_mem hi)
        rw [e, hx]
        exact H32.out x hxl
      have hsm := jn_small (kids L ks) 1000 hks ks.length (by rw [hkl]; exact Nat.le_refl _)
      have hnd := Dg.rnode_any a5 ks.length c5 (lAt (kids L ks)) wr hrs.strs (by omega) (by omega)
      have hres : Value.string (nodeB (kids L ks)) = strV (dig (1 :: jn (lAt (kids L ks)) ks.length)) := by unfold nodeB; rw [hkl]; rfl
      have HRES := Lib.hid hres
      have HND := Lib.hid hnd
      have HBB := Lib.hid (HB1.out.trans (hB.mono HB1.out.size))
      clear hsm hnd hks hrs hkl ho hB hres
      have i1 : ¬ ((ks.length : Nat) : Int) < ((ks.length : Nat) : Int) := by omega
      go_wp2_with fail
      refine HND.out.mono ?_
      rintro e w6 ⟨rfl, hb6⟩
      have HB6 := Lib.hid (HBB.out.trans (hb6.mono HBB.out.size))
      clear hb6
      go_wp2
      go_ret
      exact ⟨by rw [HRES.out]; rfl, HB6.out⟩
end Go.Proofs.YtpkeikbiblfidaaGreatDoor

/-
  Lists of texts; digests of sectors and of children; the document's Above.
-/
import Derived.Test.YtlockgfokfhokaaDoorDA
import Derived.Test.YtlockgfokfhokaaDoorGI
import Derived.Test.YtlockgfokfhokaaDoorE1
namespace Go.Proofs.YtlockgfokfhokaaDoor
open Go.RowKit
set_option linter.unusedVariables false
set_option linter.unusedSimpArgs false

/-- The slice value reads as the texts L. -/
structure Rs (w : World) (a : Option Addr) (n cap : Nat) (L : List ByteArray) : Prop where
  len : L.length = n
  le : n ≤ cap
  cm : cap ≤ maxLen
  at0 : 0 < n → ∃ b off, a = some ⟨b, off, none⟩ ∧ b < w.heap.size ∧ ∀ i, i < n → w.cell? ⟨b, off + i, none⟩ = some (.string (lAt L i))

theorem Rs.later {w w' : World} {a : Option Addr} {n cap : Nat} {L : List ByteArray} (h : Rs w a n cap L) (hb : Below w.heap.size w w') : Rs w' a n cap L where
  len := h.len
  le := h.le
  cm := h.cm
  at0 := fun h0 => by
    obtain ⟨b, off, ha, hlt, hc⟩ := h.at0 h0
    exact ⟨b, off, ha, Nat.lt_of_lt_of_le hlt hb.size, fun i hi => by rw [hb.cell (by exact hlt)]; exact hc i hi⟩
theorem Rs.strs {w : World} {a : Option Addr} {n cap : Nat} {L : List ByteArray} (h : Rs w a n cap L) : Strs w a n (lAt L) := ⟨h.at0⟩

theorem rs_nil (w : World) : Rs w none 0 0 [] := ⟨rfl, Nat.le_refl _, by unfold maxLen; omega, fun h => by omega⟩

theorem towns_shape {w : World} {B n : Nat} {v : Value} {L : List ByteArray} (h : w.ownsRow B 9 1 v n (strs L)) :
    ∃ a c, v = .slice a n c ∧ Rs w a n c L ∧ ∀ b off sp, a = some ⟨b, off, sp⟩ → B ≤ b ∧ v.ownBlock = some b ∧ off = 0 := by
  have H := h
  have hl : L.length = n := by have := h.1; simpa [strs_length] using this
  obtain ⟨_, h2⟩ := h
  rcases h2 with ⟨rfl, rfl⟩ | ⟨g, cap, cur, rfl, hB, hh, hle, hm, _, _⟩
  · exact ⟨none, 0, rfl, ⟨hl, Nat.le_refl _, by unfold maxLen; omega, fun h => by omega⟩, fun _ _ _ e => by cases e⟩
  · have hlt := (H.lt g rfl).2
    refine ⟨_, _, rfl, ⟨hl, hle, hm, fun _ => ⟨g, 0, rfl, hlt, fun i hi => ?_⟩⟩, fun b off sp e => by cases e; exact ⟨hB, rfl, rfl⟩⟩
    rw [Nat.zero_add]
    have := World.ownsRow.cellAt H i (by omega)
    rw [this, strs_at (by omega)]

theorem one_scell (w : World) (s : ByteArray) : ∀ (j : Nat) (u : Value), (strs [s])[j]? = some u → (w.alloc (.cells #[.string s] 9)).cell? ((⟨w.heap.size, 0, none⟩ : Addr).add j) = some u := by
  intro j u hj
  rw [Addr.add_none, cell_of_blk (heap_alloc_new w _), Nat.zero_add]
  simpa [strs] using hj
theorem tstrs_append (L M) : strs (L ++ M) = strs L ++ strs M := by simp [strs]

/-- 'append(out, s)': out the call's own (or nil), s in a new block. -/
theorem wpList_append_s {P : Program} {w w0 : World} {ops : Array Oper} {rest : List Oper} {o : Oper} {a : Act} {Q : Exit → Act → World → Prop} (hgd : o.guard = none) (s x : Operand) (t : TypeId)
    (ho : o.op = .call { callee := .builtin .append, args := #[s, x], argTypes := #[t, t] })
    (base : Nat) (i : TypeInfo) (ht : P.underlying t = some (.slice 9)) (hi : P.info? 9 = some i) (hz : i.zero = some (.string noBytes))
    (hsize : i.size = 1) (hby : i.bytes = 16)
    (v : Value) (n : Nat) (xs : List ByteArray) (hs : a.eval s = v) (hown : w.ownsRow base 9 1 v n (strs xs))
    (y : ByteArray) (hx : a.eval x = .slice (some ⟨w0.heap.size, 0, none⟩) 1 1) (hw : w = w0.alloc (.cells #[.string y] 9))
    (hbytes : n < 1000000) (hbase : base ≤ w.heap.size)
    (h : ∀ v' w', w'.ownsRow base 9 1 v' (n + 1) (strs (xs ++ [y])) → w.grownBy w' v.ownBlock → (v'.ownBlock = v.ownBlock ∨ v'.ownBlock = some w.heap.size) → wpList P ops Q rest (a.put o.dst v') w') : wpList P ops Q (o :: rest) a w := by
  subst hw
  refine wpList_append_own_at (w := w0.alloc (.cells #[.string y] 9)) hgd s x t ho base 9 i (.string noBytes) 1 16 ht hi hz hsize hby rfl (by omega) v n (strs xs) hs hown ⟨w0.heap.size, 0, none⟩ 1 1 (strs [y]) hx rfl ?_ (strs_one _) (by unfold maxLen; omega) (by omega) hbase (fun v' w' h1 h2 _ h4 => h v' w' (by rw [tstrs_append]; exact h1) h2 h4)
  exact one_scell w0 y

/-- The texts of some nodes. -/
def kids (L : List ByteArray) (ks : List Int) : List ByteArray := ks.map fun c => lAt L c.toNat
theorem kids_length (L ks) : (kids L ks).length = ks.length := by simp [kids]
theorem kids_take {L : List ByteArray} {ks : List Int} {k : Nat} (h : k < ks.length) : kids L (ks.take (k + 1)) = kids L (ks.take k) ++ [lAt L (ks[k]?.getD 0).toNat] := by
  unfold kids
  rw [List.take_add_one, List.map_append]
  congr 1
  rw [List.getElem?_eq_getElem h]
  rfl
/-- The digest of a sector; the digest of a node with these children. -/
def leafB (s : ByteArray) : ByteArray := ⟨(dig (0 :: s.data.toList)).toArray⟩
def nodeB (K : List ByteArray) : ByteArray := ⟨(dig (1 :: jn (lAt K) K.length)).toArray⟩
theorem dig_length (xs : List UInt8) : (dig xs).length = 32 := by
  unfold dig
  exact outS_length _

theorem children_mem {N F C U : Int} {k : Nat} {c : Int} (hc : c ∈ children N F C U k) : ∃ j : Nat, c = j ∧ j < k := by
  unfold children at hc
  split at hc
  · rename_i h
    obtain ⟨hok, h0, h1⟩ := h
    obtain ⟨n, f, rfl, rfl, ho⟩ := ok_of hok
    have hx : k < S n f (H n f + 1) := by simpa using h1
    obtain ⟨_, l1, _⟩ := lvl_spec hx
    simp only [Int.toNat_natCast, ch, List.mem_map, List.mem_range] at hc
    obtain ⟨j, hj, rfl⟩ := hc
    refine ⟨_, rfl, ?_⟩
    unfold chNG at hj
    split at hj
    · omega
    · omega
  · simp at hc
end Go.Proofs.YtlockgfokfhokaaDoor


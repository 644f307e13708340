/-
  Texts joined: Open, Addr, ShAddr, PureHex, OctHex, Ad1.
-/
import Derived.Test.YtgpccgcppbdlpaaGreatMg00
import Derived.OpenShut
import Derived.Deep.Slices
import Derived.Below
import Derived.Test.YtgpccgcppbdlpaaGreatChecked
import Derived.Deep.MidRow
import Derived.ChangeShapes
import Derived.Deep.RegionLaw
import Derived.Deep.AppendLies
import Derived.Deep.RegionHeld3
import Derived.Laws.Cover3
import Derived.Deep.Cut
import Derived.Lib.Hide
/-
  Shapes: how the cells of a value that came in read as plain data: numbers, bools, texts, rows of bytes, structs and slices of any of these, one in another. Nothing of the program.
-/
namespace Go.Proofs.YtgpccgcppbdlpaaGreat
open Go.RowKit
set_option linter.unusedVariables false

/-- What some cells are, in a world. -/
abbrev Shape (α : Type) := World → List Value → α → Prop
def intS (k : IntKind) : Shape Int := fun _ cs n => cs = [.int k n] ∧ (Lit.int k n).wf = true
def boolS : Shape Bool := fun _ cs b => cs = [.bool b]
/-- A row of n bytes by value. -/
def bytesS (n : Nat) : Shape (List UInt8) := fun _ cs l => cs = B8 l ∧ l.length = n
def unitS : Shape Unit := fun _ cs _ => cs = []
/-- One behind another, the first of k cells. -/
def pairS {α β : Type} (k : Nat) (R : Shape α) (Q : Shape β) : Shape (α × β) := fun w cs x => ∃ c d, cs = c ++ d ∧ c.length = k ∧ R w c x.1 ∧ Q w d x.2
/-- A slice: nil, or its cells, k for each element. -/
def sliceS {α : Type} (k : Nat) (R : Shape α) : Shape (List α) := fun w cs xs =>
  (cs = [.slice none 0 0] ∧ xs = []) ∨ ∃ (a : Addr) (cap : Nat), cs = [.slice (some a) xs.length cap] ∧ xs.length ≤ cap ∧ cap ≤ maxLen ∧
    (xs ≠ [] → a.spot = none ∧ a.block < w.heap.size) ∧
    ∀ i x, xs[i]? = some x → ∃ c, c.length = k ∧ (∀ j, j < k → w.cell? ⟨a.block, a.off + (i * k + j), none⟩ = c[j]?) ∧ R w c x

/-- Whatever was there at first is read later, too. -/
def Stable {α : Type} (R : Shape α) : Prop := ∀ (w w' : World) (cs : List Value) (x : α), (∀ b o, b < w.heap.size → w'.cell? ⟨b, o, none⟩ = w.cell? ⟨b, o, none⟩) → w.heap.size ≤ w'.heap.size → R w cs x → R w' cs x
theorem Stable.below {α : Type} {R : Shape α} (h : Stable R) {w w' : World} {cs : List Value} {x : α} (hb : Below w.heap.size w w') (hx : R w cs x) : R w' cs x :=
  h w w' cs x (fun b o hlt => hb.cell (p := ⟨b, o, none⟩) hlt) hb.size hx

/-- A type's cells that are read are of a shape. -/
def Opens {α : Type} (P : Program) (t : TypeId) (R : Shape α) : Prop :=
  ∀ {H : Type} {enc : TypeId × Value → H} {w : World} {base : Nat} {sp : Nat → Bool} {held : Bool} {fuel : Nat} {cs : List Value} {y : DataW H × List MemPlace},
    DataW.trod enc P w base sp held fuel t cs = some y → ∃ x, R w cs x
theorem opens_int {P : Program} {t : TypeId} {k : IntKind} (ht : P.underlying t = some (.int k)) : Opens P t (intS k) := fun h => by
  obtain ⟨n, e, _, wf⟩ := DataW.trod_int ht h; exact ⟨n, e, wf⟩
theorem opens_bool {P : Program} {t : TypeId} (ht : P.underlying t = some .bool) : Opens P t boolS := fun h => by
  obtain ⟨b, e, _⟩ := DataW.trod_bool ht h; exact ⟨b, e⟩
/-- The fields from one on. -/
def OpensFrom {α : Type} (P : Program) (t : TypeId) (fs : List Field) (off : Nat) (R : Shape α) : Prop :=
  ∀ {H : Type} {enc : TypeId × Value → H} {w : World} {base : Nat} {sp : Nat → Bool} {held : Bool} {n : Nat} {cs : List Value}, cs.length = P.cellsOf t →
    (∀ f ∈ fs, ∃ y, DataW.trod enc P w base sp held n f.type ((cs.drop f.offset).take (P.cellsOf f.type)) = some y) → ∃ x, R w (cs.drop off) x
theorem opens_nil {P : Program} {t : TypeId} {off : Nat} (h : P.cellsOf t = off) : OpensFrom P t [] off unitS := fun hl _ => ⟨(), by
  unfold unitS; exact List.drop_eq_nil_of_le (by omega)⟩
theorem opens_cons {α β : Type} {P : Program} {t : TypeId} {f : Field} {fs : List Field} {off k : Nat} {R : Shape α} {Q : Shape β} (ho : f.offset = off) (hk : P.cellsOf f.type = k) (hfit : off + k ≤ P.cellsOf t)
    (h0 : Opens P f.type R) (hs : OpensFrom P t fs (off + k) Q) : OpensFrom P t (f :: fs) off (pairS k R Q) := fun {H enc w base sp held n cs} hl hf => by
  obtain ⟨y, hy⟩ := hf f (by simp)
  obtain ⟨x, hx⟩ := h0 hy
  obtain ⟨z, hz⟩ := hs hl (fun g hg => hf g (by simp [hg]))
  rw [ho, hk] at hx
  refine ⟨(x, z), (cs.drop off).take k, (cs.drop off).drop k, (List.take_append_drop _ _).symm, ?_, hx, ?_⟩
  · rw [List.length_take, List.length_drop]; omega
  · rw [List.drop_drop]; exact hz
theorem opens_struct {α : Type} {P : Program} {t : TypeId} {fs : Array Field} {R : Shape α} (ht : P.underlying t = some (.struct fs)) (h : OpensFrom P t fs.toList 0 R) : Opens P t R := fun {H enc w base sp held fuel cs y} hy => by
  obtain ⟨xs, n, _, _, hl, hlen, hf⟩ := DataW.trod_struct ht hy
  have := h (cs := cs) (n := n) (enc := enc) (w := w) (base := base) (sp := sp) (held := held) hl (fun f hf' => by
    obtain ⟨i, hi⟩ := List.getElem?_of_mem hf'
    have hi' : fs[i]? = some f := by simpa using hi
    have hlt : i < xs.length := by rw [hlen]; exact (Array.getElem?_eq_some_iff.1 hi').1
    exact ⟨xs[i], by rw [hf i f hi', List.getElem?_eq_getElem hlt]⟩)
  simpa using this
theorem opens_bytes {P : Program} {t e : TypeId} {n : Nat} (ht : P.underlying t = some (.array n e)) (he : P.underlying e = some (.int .u8)) (hc : P.cellsOf e = 1) (hn : P.cellsOf t = n) : Opens P t (bytesS n) := fun {H enc w base sp held fuel cs y} hy => by
  obtain ⟨xs, m, _, _, hl, hlen, hx⟩ := DataW.trod_array ht hy
  rw [hc] at hx
  have each : ∀ i, i < n → ∃ b : UInt8, cs[i]? = some (.int .u8 (b.toNat : Int)) := fun i hi => by
    have h := hx i hi
    rw [List.getElem?_eq_getElem (by omega)] at h
    obtain ⟨q, e1, _, wf⟩ := DataW.trod_int he h
    obtain ⟨b0, b1⟩ := bounds_u8 wf
    refine ⟨UInt8.ofNat q.toNat, ?_⟩
    have e2 : cs[i]? = ((cs.drop (i * 1)).take 1)[0]? := by simp
    rw [e2, e1]
    simp [UInt8.toNat_ofNat']
    omega
  refine ⟨cs.map (fun v => match v with | .int _ q => UInt8.ofNat q.toNat | _ => 0), ?_, by simp; omega⟩
  apply List.ext_getElem?
  intro i
  by_cases hi : i < n
  · obtain ⟨b, hb⟩ := each i hi
    simp [B8, hb]
  · rw [List.getElem?_eq_none (by omega), List.getElem?_eq_none (by simp [B8_length]; omega)]
theorem opens_slice {α : Type} {P : Program} {t e : TypeId} {k : Nat} {R : Shape α} (ht : P.underlying t = some (.slice e)) (hk : P.cellsOf e = k) (hpos : 0 < k) (h0 : Opens P e R) : Opens P t (sliceS k R) := fun {H enc w base sp held fuel cs y} hy => by
  rcases Go.Deep.open_slice ht hy with ⟨hcs, _⟩ | ⟨a, len, cap, m, n, D, Pl, hcs, _, hl, hm, hmm, _, hx⟩
  · exact ⟨[], .inl ⟨hcs, rfl⟩⟩
  · have hlm : len ≤ m := by rw [hmm]; split <;> omega
    rw [hk] at hx
    have each : ∀ i, i < len → ∃ x : α, ∃ c, c.length = k ∧ (∀ j, j < k → w.cell? ((a.add (i * k)).add j) = c[j]?) ∧ R w c x := fun i hi => by
      obtain ⟨c, hc, hd⟩ := hx i (by omega)
      obtain ⟨x, hR⟩ := h0 hd
      obtain ⟨_, h2, h3⟩ := World.cells?_some hc
      exact ⟨x, c, h2, fun j hj => h3 j hj, hR⟩
    rcases Nat.eq_zero_or_pos len with rfl | hlen0
    · exact ⟨[], .inr ⟨a, cap, by simpa using hcs, by simp, hm, fun hne => absurd rfl hne, fun i x hi => by simp at hi⟩⟩
    haveI : Inhabited α := ⟨(each 0 hlen0).choose⟩
    obtain ⟨X, hX⟩ := Go.Deep.choose_lt each
    have spots : a.spot = none ∧ a.block < w.heap.size := by
      obtain ⟨c, h1, h2, _⟩ := hX 0 hlen0
      have h := h2 0 hpos
      rw [List.getElem?_eq_getElem (by omega)] at h
      exact ⟨by simpa [Addr.add] using World.cell?_spot h, by simpa [Addr.add] using World.block_lt_of_cell? w _ h⟩
    refine ⟨(List.range len).map X, .inr ⟨a, cap, by simpa using hcs, by simpa using hl, hm, fun hne => ?_, fun i x hi => ?_⟩⟩
    · exact spots
    · have hlt : i < len := by
        have := (List.getElem?_eq_some_iff.1 hi).1
        simpa using this
      obtain ⟨c, h1, h2, h3⟩ := hX i hlt
      have ex : x = X i := by simpa [List.getElem?_range, hlt] using hi.symm
      subst ex
      refine ⟨c, h1, fun j hj => ?_, h3⟩
      have hs := spots.1
      rw [← h2 j hj]
      obtain ⟨ab, ao, asp⟩ := a
      simp only at hs
      subst hs
      congr 1
      unfold Addr.add
      split <;> split <;> simp_all [Nat.add_assoc]
end Go.Proofs.YtgpccgcppbdlpaaGreat

/-
  Addresses by value: their cells; rows of bytes within a block; the turn of such a row into a text.
-/
namespace Go.Proofs.YtgpccgcppbdlpaaGreat
open Go.RowKit
set_option linter.unusedVariables false

/-- An address's cells. -/
def addrC (v : Bool) (l : List UInt8) : List Value := .bool v :: B8 l
theorem addrC_length (v : Bool) (l : List UInt8) : (addrC v l).length = l.length + 1 := by simp [addrC, B8_length]
/-- Bytes in a block from an offset on. -/
def RowAt (w : World) (b o : Nat) (l : List UInt8) : Prop := ∀ i (h : i < l.length), w.cell? ⟨b, o + i, none⟩ = some (.int .u8 ((l[i]).toNat : Int))
theorem RowAt.below {w w' : World} {b o : Nat} {l : List UInt8} {B : Nat} (hr : RowAt w b o l) (hB : b < B) (h : Below B w w') : RowAt w' b o l := fun i hi => by
  rw [h.cell (p := ⟨b, o + i, none⟩) hB]; exact hr i hi
theorem RowAt.drew {w : World} {b o : Nat} {l : List UInt8} (hr : RowAt w b o l) : RowAt w.drew b o l := hr
theorem RowAt.drewN {w : World} {b o : Nat} {l : List UInt8} (hr : RowAt w b o l) (n : Nat) : RowAt (w.drewN n) b o l := hr
/-- 'string(b[:n])' of such a row: a rule for the walk. -/
theorem run_string_row {P : Program} {w : World} (src dst e : TypeId) (hs : P.underlying src = some (.slice e)) (he : P.underlying e = some (.int .u8)) (hd : P.underlying dst = some .string)
    {b o : Nat} {l : List UInt8} (hr : RowAt w b o l) (n cap : Nat) (hn : n ≤ l.length) : (convert src dst (.slice (some ⟨b, o, none⟩) n cap)).run P w = .ok (.string (Str (l.take n))) w := by
  rw [run_convert_bytes_arg (P := P) w src e hs he b o n cap ((l.take n).map fun b => (b.toNat : Int)) (by simp; omega) ?_ dst hd, strOfNums_B8]
  intro i hi
  rw [hr i (by omega)]
  have : i < l.length := by omega
  simp [hi, this]
theorem rowAt_box (w : World) (v : Bool) (l : List UInt8) (t : TypeId) (fr : Nat × Nat) (n : Nat) (hn : n = w.heap.size) : RowAt (w.alloc (.cells (addrC v l).toArray t fr)) n 1 l := fun i hi => by
  subst hn
  rw [World.cell?_alloc_mark]
  simp [addrC, Nat.add_comm 1 i, B8, List.getElem?_eq_getElem hi]
end Go.Proofs.YtgpccgcppbdlpaaGreat

/-
  The shape of an address that came in.
-/
namespace Go.Proofs.YtgpccgcppbdlpaaGreat
open Go.RowKit
set_option linter.unusedVariables false

def addrS : Shape (Bool × (List UInt8 × Unit)) := pairS 1 boolS (pairS 16 (bytesS 16) unitS)
theorem opens_addrS : Opens Tryz.prog 24 addrS :=
  opens_struct Tryz.underlying24 (opens_cons rfl (by kernel_rfl) (of_decide_eq_true (by kernel_rfl)) (opens_bool Tryz.underlying4) (opens_cons rfl (by kernel_rfl) (of_decide_eq_true (by kernel_rfl)) (opens_bytes Tryz.underlying22 Tryz.underlying5 (by kernel_rfl) (by kernel_rfl)) (opens_nil (by kernel_rfl))))
theorem addrS_cells {w : World} {cs : List Value} {x : Bool × (List UInt8 × Unit)} (h : addrS w cs x) : cs = addrC x.1 x.2.1 ∧ x.2.1.length = 16 := by
  obtain ⟨c, d, rfl, _, h1, c', d', rfl, _, h2, h3⟩ := h
  obtain ⟨h4, h5⟩ := h2
  have h1' : c = [.bool x.1] := h1
  have h3' : d' = [] := h3
  subst h1' h3' h4
  exact ⟨by simp [addrC], h5⟩

/-- The cells that lie in a block from an offset on. -/
def row? (w : World) (b o n : Nat) : Option (List Value) := w.cells? 0 ⟨b, o, none⟩ n
theorem row?_of {w : World} {b o : Nat} {cs : List Value} (h : w.rangeAt b o cs) : row? w b o cs.length = some cs := by
  unfold row?
  exact Go.ChangeShapes.cells?_of (Nat.zero_le _) rfl (fun i hi => by rw [h i cs[i] (List.getElem?_eq_getElem hi), List.getElem?_eq_getElem hi])
theorem rangeAt_of_row? {w : World} {b o n : Nat} {cs : List Value} (h : row? w b o n = some cs) : w.rangeAt b o cs ∧ cs.length = n := by
  obtain ⟨_, h1, h2⟩ := World.cells?_some h
  refine ⟨fun j v hv => ?_, h1⟩
  have hlt := (List.getElem?_eq_some_iff.1 hv).1
  have := h2 j (by omega)
  rw [Addr.add_mid] at this
  rw [this, hv]
theorem row?_below {w w' : World} {b o n B : Nat} {cs : List Value} (h : row? w b o n = some cs) (hB : b < B) (hb : Below B w w') : row? w' b o n = some cs := by
  obtain ⟨h1, h2⟩ := rangeAt_of_row? h
  subst h2
  exact row?_of (fun j v hv => by rw [hb.cell (p := ⟨b, o + j, none⟩) hB]; exact h1 j v hv)
end Go.Proofs.YtgpccgcppbdlpaaGreat

/-
  Plain lemmas on hexadecimal digits; nothing of the program.
-/
namespace Go.Proofs.YtgpccgcppbdlpaaGreat
open Go.RowKit
set_option linter.unusedVariables false

theorem Str_append (l m : List UInt8) : Str l ++ Str m = Str (l ++ m) := by
  apply ByteArray.ext; simp [Str]

/-- '+' of two texts: a rule for the walk. -/
theorem run_cat {P : Program} (x y : List UInt8) (h : x.length + y.length ≤ 9223372036854775807) (w : World) : (Op.stringOp .add (Str x) (Str y)).run P w = .ok (.string (Str (x ++ y))) w := by
  rw [run_string_add_sum w _ _ (by rw [Str_size, Str_size]; exact h), Str_append]
end Go.Proofs.YtgpccgcppbdlpaaGreat

/-
  The contract of octet.Hex, and of the statements' small living call.
-/
namespace Go.Proofs.YtgpccgcppbdlpaaGreat
open Go.RowKit
set_option linter.unusedVariables false

end Go.Proofs.YtgpccgcppbdlpaaGreat

/-
  Contracts of addr: small functions on one address.
-/
namespace Go.Proofs.YtgpccgcppbdlpaaGreat
open Go.RowKit
set_option linter.unusedVariables false

theorem list16 {l : List UInt8} (h : l.length = 16) : ∃ b0 b1 b2 b3 b4 b5 b6 b7 b8 b9 ba bb bc bd be bf, l = [b0, b1, b2, b3, b4, b5, b6, b7, b8, b9, ba, bb, bc, bd, be, bf] := by
  match l, h with
  | [b0, b1, b2, b3, b4, b5, b6, b7, b8, b9, ba, bb, bc, bd, be, bf], _ => exact ⟨b0, b1, b2, b3, b4, b5, b6, b7, b8, b9, ba, bb, bc, bd, be, bf, rfl⟩
/-- A byte of an address. -/
def bN (l : List UInt8) (i : Nat) : Int := ((l.getD i 0).toNat : Int)
/-- Whether it is a group's. -/
def grpV (v : Bool) (l : List UInt8) : Bool := if v then (bN l 0 == 255) else (decide (224 ≤ bN l 0) && decide (bN l 0 ≤ 239))
theorem ret_bool {a b : Bool} (h : a = b) : Ending.returned (.bool a) = .returned (.bool b) := by rw [h]

set_option maxRecDepth 100000 in
set_option maxHeartbeats 1000000 in
theorem group_any (v : Bool) (l : List UInt8) (hl : l.length = 16) (w : World) : Calls Tryz.prog 69 #[.agg (addrC v l).toArray] w fun e w' => e = .returned (.bool (grpV v l)) ∧ Below w.heap.size w w' := by
  obtain ⟨b0, b1, b2, b3, b4, b5, b6, b7, b8, b9, ba, bb, bc, bd, be, bf, rfl⟩ := list16 hl
  clear hl
  show Calls Tryz.prog 69 #[.agg #[.bool v, .int .u8 b0.toNat, .int .u8 b1.toNat, .int .u8 b2.toNat, .int .u8 b3.toNat, .int .u8 b4.toNat, .int .u8 b5.toNat, .int .u8 b6.toNat, .int .u8 b7.toNat, .int .u8 b8.toNat, .int .u8 b9.toNat, .int .u8 ba.toNat, .int .u8 bb.toNat, .int .u8 bc.toNat, .int .u8 bd.toNat, .int .u8 be.toNat, .int .u8 bf.toNat]] w _
  cases v <;>
  · go_enter Tryz.func69, Tryz.ntmps69
    go_wp2
    all_goals
      go_ret
      exact ⟨ret_bool (by simp_all [grpV, bN] <;> omega), (Below.refl _ _).alloc (Nat.le_refl _) _⟩

theorem row_box (w : World) (v : Bool) (l : List UInt8) (hl : l.length = 16) (t : TypeId) : row? (w.alloc (.cells (addrC v l).toArray t)) w.heap.size 0 17 = some (addrC v l) := by
  have h := row?_of (w := w.alloc (.cells (addrC v l).toArray t)) (b := w.heap.size) (o := 0) (cs := addrC v l) (fun j x hj => by rw [World.cell?_alloc_mark]; simpa using hj)
  rwa [addrC_length, hl] at h

/-- All that is known of a boxed address. -/
def BoxAt (w W : World) (v : Bool) (l : List UInt8) : Prop := W.cell? ⟨w.heap.size, 0, none⟩ = some (.bool v) ∧ RowAt W w.heap.size 1 l ∧ row? W w.heap.size 0 17 = some (addrC v l) ∧ w.heap.size < W.heap.size ∧ Below w.heap.size w W
theorem BoxAt.made (w : World) (v : Bool) (l : List UInt8) (hl : l.length = 16) (t : TypeId) : BoxAt w (w.alloc (.cells (addrC v l).toArray t)) v l :=
  ⟨by simp [addrC], rowAt_box w v l t (0, 0) _ rfl, row_box w v l hl t, by simp, (Below.refl _ _).alloc (Nat.le_refl _) _⟩
theorem BoxAt.keep {w W W' : World} {v : Bool} {l : List UInt8} (h : BoxAt w W v l) (hb : Below W.heap.size W W') : BoxAt w W' v l :=
  ⟨by rw [hb.cell (p := ⟨w.heap.size, 0, none⟩) h.2.2.2.1]; exact h.1, h.2.1.below h.2.2.2.1 hb, row?_below h.2.2.1 h.2.2.2.1 hb, Nat.lt_of_lt_of_le h.2.2.2.1 hb.size, bstep h.2.2.2.2 hb⟩
theorem BoxAt.drewN {w W : World} {v : Bool} {l : List UInt8} (h : BoxAt w W v l) (n : Nat) : BoxAt w (W.drewN n) v l := h.keep (bdrewN (Below.refl _ _) n)
theorem BoxAt.alloc {w W : World} {v : Bool} {l : List UInt8} (h : BoxAt w W v l) (o : Obj) : BoxAt w (W.alloc o) v l := h.keep ((Below.refl _ _).alloc (Nat.le_refl _) _)
theorem BoxAt.at {w W : World} {v : Bool} {l : List UInt8} (h : BoxAt w W v l) (i : Nat) (hi : i < l.length) : W.cell? ⟨w.heap.size, 1 + i, none⟩ = some (.int .u8 ((l[i]).toNat : Int)) := h.2.1 i hi

end Go.Proofs.YtgpccgcppbdlpaaGreat


/-
  Texts joined: EqB, Open, Addr, ShAddr.
-/
import Derived.Test.YtalnfjnfcloonaaGreatDoorBase
import Derived.ChangeKeysEq
import Derived.OpenShut
import Derived.Deep.Slices
import Derived.Below
import Derived.Test.YtalnfjnfcloonaaGreatDoorChecked
import Derived.Deep.MidRow
import Derived.ChangeShapes
/-
  Two arrays of bytes are held against each other: a rule for the walk.
-/
namespace Go.Proofs.YtalnfjnfcloonaaGreatDoor
open Go.RowKit
set_option linter.unusedVariables false

theorem eqItems_bytes {P : Program} {e : TypeId} (he : P.underlying e = some (.int .u8)) (hp : P.plainKey e = true) (d : Nat) (l m : List UInt8) (w : World) :
    ∀ is : List Nat, (∀ i ∈ is, i < l.length ∧ i < m.length) → (Op.eqItems (d + 1) e 1 (B8 l).toArray (B8 m).toArray is).run P w = .ok (is.all fun i => l.getD i 0 == m.getD i 0) w
  | [], _ => by simp [Op.eqItems]
  | i :: is, h => by
    obtain ⟨h1, h2⟩ := h i (by simp)
    have ih := eqItems_bytes he hp d l m w is (fun j hj => h j (by simp [hj]))
    have p1 : (part e (B8 l).toArray (i * 1)).run P w = .ok (.int .u8 ((l.getD i 0).toNat : Int)) w := run_part_plain w hp (by simp [B8_get, h1])
    have p2 : (part e (B8 m).toArray (i * 1)).run P w = .ok (.int .u8 ((m.getD i 0).toNat : Int)) w := run_part_plain w hp (by simp [B8_get, h2])
    have p3 : (Op.equalIn (d + 1) e (.int .u8 ((l.getD i 0).toNat : Int)) (.int .u8 ((m.getD i 0).toNat : Int))).run P w = .ok (l.getD i 0 == m.getD i 0) w := by
      have hq : (((l.getD i 0).toNat : Int) == ((m.getD i 0).toNat : Int)) = (l.getD i 0 == m.getD i 0) := by
        generalize l.getD i 0 = x; generalize m.getD i 0 = y
        rw [Bool.eq_iff_iff, beq_iff_eq, beq_iff_eq, ← UInt8.toNat_inj]; omega
      generalize l.getD i 0 = x at hq ⊢; generalize m.getD i 0 = y at hq ⊢
      simp [Op.equalIn, run_underlying he, hq]
    simp only [Op.eqItems, Sem.run_bind, p1, p2, p3, Result.andThen_ok, List.all_cons]
    cases l.getD i 0 == m.getD i 0
    · simp
    · simpa using ih
theorem all_range_eq (l m : List UInt8) (h : l.length = m.length) : ((List.range l.length).all fun i => l.getD i 0 == m.getD i 0) = decide (l = m) := by
  rw [Bool.eq_iff_iff]
  simp only [List.all_eq_true, List.mem_range, beq_iff_eq, decide_eq_true_eq]
  constructor
  · intro ha
    apply List.ext_getElem h
    intro i h1 h2
    have := ha i h1
    simpa [List.getD, h1, h2] using this
  · rintro rfl i _; rfl
theorem info_of {P : Program} {e : TypeId} {k : TypeDesc} (h : P.underlying e = some k) : ∃ i, P.info? e = some i := info_of_underlying h
end Go.Proofs.YtalnfjnfcloonaaGreatDoor

/-
  Shapes: how the cells of a value that came in read as plain data: numbers, bools, texts, rows of bytes, structs and slices of any of these, one in another. Nothing of the program.
-/
namespace Go.Proofs.YtalnfjnfcloonaaGreatDoor
open Go.RowKit
set_option linter.unusedVariables false

/-- What some cells are, in a world. -/
abbrev Shape (α : Type) := World → List Value → α → Prop
def intS (k : IntKind) : Shape Int := fun _ cs n => cs = [.int k n] ∧ (Lit.int k n).wf = true
def boolS : Shape Bool := fun _ cs b => cs = [.bool b]
/-- A row of n bytes by value. -/
def bytesS (n : Nat) : Shape (List UInt8) := fun _ cs l => cs = B8 l ∧ l.length = n
def unitS : Shape Unit := fun _ cs _ => cs = []
/-- One behind another, the first of k cells. -/
def pairS {α β : Type} (k : Nat) (R : Shape α) (Q : Shape β) : Shape (α × β) := fun w cs x => ∃ c d, cs = c ++ d ∧ c.length = k ∧ R w c x.1 ∧ Q w d x.2
/-- A slice: nil, or its cells, k for each element. -/
def sliceS {α : Type} (k : Nat) (R : Shape α) : Shape (List α) := fun w cs xs =>
  (cs = [.slice none 0 0] ∧ xs = []) ∨ ∃ (a : Addr) (cap : Nat), cs = [.slice (some a) xs.length cap] ∧ xs.length ≤ cap ∧ cap ≤ maxLen ∧
    (xs ≠ [] → a.spot = none ∧ a.block < w.heap.size) ∧
    ∀ i x, xs[i]? = some x → ∃ c, c.length = k ∧ (∀ j, j < k → w.cell? ⟨a.block, a.off + (i * k + j), none⟩ = c[j]?) ∧ R w c x

/-- Whatever was there at first is read later, too. -/
def Stable {α : Type} (R : Shape α) : Prop := ∀ (w w' : World) (cs : List Value) (x : α), (∀ b o, b < w.heap.size → w'.cell? ⟨b, o, none⟩ = w.cell? ⟨b, o, none⟩) → w.heap.size ≤ w'.heap.size → R w cs x → R w' cs x
theorem Stable.below {α : Type} {R : Shape α} (h : Stable R) {w w' : World} {cs : List Value} {x : α} (hb : Below w.heap.size w w') (hx : R w cs x) : R w' cs x :=
  h w w' cs x (fun b o hlt => hb.cell (p := ⟨b, o, none⟩) hlt) hb.size hx

/-- A type's cells that are read are of a shape. -/
def Opens {α : Type} (P : Program) (t : TypeId) (R : Shape α) : Prop :=
  ∀ {H : Type} {enc : TypeId × Value → H} {w : World} {base : Nat} {sp : Nat → Bool} {held : Bool} {fuel : Nat} {cs : List Value} {y : DataW H × List MemPlace},
    DataW.trod enc P w base sp held fuel t cs = some y → ∃ x, R w cs x
theorem opens_bool {P : Program} {t : TypeId} (ht : P.underlying t = some .bool) : Opens P t boolS := fun h => by
  obtain ⟨b, e, _⟩ := DataW.trod_bool ht h; exact ⟨b, e⟩
/-- The fields from one on. -/
def OpensFrom {α : Type} (P : Program) (t : TypeId) (fs : List Field) (off : Nat) (R : Shape α) : Prop :=
  ∀ {H : Type} {enc : TypeId × Value → H} {w : World} {base : Nat} {sp : Nat → Bool} {held : Bool} {n : Nat} {cs : List Value}, cs.length = P.cellsOf t →
    (∀ f ∈ fs, ∃ y, DataW.trod enc P w base sp held n f.type ((cs.drop f.offset).take (P.cellsOf f.type)) = some y) → ∃ x, R w (cs.drop off) x
theorem opens_nil {P : Program} {t : TypeId} {off : Nat} (h : P.cellsOf t = off) : OpensFrom P t [] off unitS := fun hl _ => ⟨(), by
  unfold unitS; exact List.drop_eq_nil_of_le (by omega)⟩
theorem opens_cons {α β : Type} {P : Program} {t : TypeId} {f : Field} {fs : List Field} {off k : Nat} {R : Shape α} {Q : Shape β} (ho : f.offset = off) (hk : P.cellsOf f.type = k) (hfit : off + k ≤ P.cellsOf t)
    (h0 : Opens P f.type R) (hs : OpensFrom P t fs (off + k) Q) : OpensFrom P t (f :: fs) off (pairS k R Q) := fun {H enc w base sp held n cs} hl hf => by
  obtain ⟨y, hy⟩ := hf f (by simp)
  obtain ⟨x, hx⟩ := h0 hy
  obtain ⟨z, hz⟩ := hs hl (fun g hg => hf g (by simp [hg]))
  rw [ho, hk] at hx
  refine ⟨(x, z), (cs.drop off).take k, (cs.drop off).drop k, (List.take_append_drop _ _).symm, ?_, hx, ?_⟩
  · rw [List.length_take, List.length_drop]; omega
  · rw [List.drop_drop]; exact hz
theorem opens_struct {α : Type} {P : Program} {t : TypeId} {fs : Array Field} {R : Shape α} (ht : P.underlying t = some (.struct fs)) (h : OpensFrom P t fs.toList 0 R) : Opens P t R := fun {H enc w base sp held fuel cs y} hy => by
  obtain ⟨xs, n, _, _, hl, hlen, hf⟩ := DataW.trod_struct ht hy
  have := h (cs := cs) (n := n) (enc := enc) (w := w) (base := base) (sp := sp) (held := held) hl (fun f hf' => by
    obtain ⟨i, hi⟩ := List.getElem?_of_mem hf'
    have hi' : fs[i]? = some f := by simpa using hi
    have hlt : i < xs.length := by rw [hlen]; exact (Array.getElem?_eq_some_iff.1 hi').1
    exact ⟨xs[i], by rw [hf i f hi', List.getElem?_eq_getElem hlt]⟩)
  simpa using this
theorem opens_bytes {P : Program} {t e : TypeId} {n : Nat} (ht : P.underlying t = some (.array n e)) (he : P.underlying e = some (.int .u8)) (hc : P.cellsOf e = 1) (hn : P.cellsOf t = n) : Opens P t (bytesS n) := fun {H enc w base sp held fuel cs y} hy => by
  obtain ⟨xs, m, _, _, hl, hlen, hx⟩ := DataW.trod_array ht hy
  rw [hc] at hx
  have each : ∀ i, i < n → ∃ b : UInt8, cs[i]? = some (.int .u8 (b.toNat : Int)) := fun i hi => by
    have h := hx i hi
    rw [List.getElem?_eq_getElem (by omega)] at h
    obtain ⟨q, e1, _, wf⟩ := DataW.trod_int he h
    obtain ⟨b0, b1⟩ := bounds_u8 wf
    refine ⟨UInt8.ofNat q.toNat, ?_⟩
    have e2 : cs[i]? = ((cs.drop (i * 1)).take 1)[0]? := by simp
    rw [e2, e1]
    simp [UInt8.toNat_ofNat']
    omega
  refine ⟨cs.map (fun v => match v with | .int _ q => UInt8.ofNat q.toNat | _ => 0), ?_, by simp; omega⟩
  apply List.ext_getElem?
  intro i
  by_cases hi : i < n
  · obtain ⟨b, hb⟩ := each i hi
    simp [B8, hb]
  · rw [List.getElem?_eq_none (by omega), List.getElem?_eq_none (by simp [B8_length]; omega)]
theorem opens_slice {α : Type} {P : Program} {t e : TypeId} {k : Nat} {R : Shape α} (ht : P.underlying t = some (.slice e)) (hk : P.cellsOf e = k) (hpos : 0 < k) (h0 : Opens P e R) : Opens P t (sliceS k R) := fun {H enc w base sp held fuel cs y} hy => by
  rcases Go.Deep.open_slice ht hy with ⟨hcs, _⟩ | ⟨a, len, cap, m, n, D, Pl, hcs, _, hl, hm, hmm, _, hx⟩
  · exact ⟨[], .inl ⟨hcs, rfl⟩⟩
  · have hlm : len ≤ m := by rw [hmm]; split <;> omega
    rw [hk] at hx
    have each : ∀ i, i < len → ∃ x : α, ∃ c, c.length = k ∧ (∀ j, j < k → w.cell? ((a.add (i * k)).add j) = c[j]?) ∧ R w c x := fun i hi => by
      obtain ⟨c, hc, hd⟩ := hx i (by omega)
      obtain ⟨x, hR⟩ := h0 hd
      obtain ⟨_, h2, h3⟩ := World.cells?_some hc
      exact ⟨x, c, h2, fun j hj => h3 j hj, hR⟩
    rcases Nat.eq_zero_or_pos len with rfl | hlen0
    · exact ⟨[], .inr ⟨a, cap, by simpa using hcs, by simp, hm, fun hne => absurd rfl hne, fun i x hi => by simp at hi⟩⟩
    haveI : Inhabited α := ⟨(each 0 hlen0).choose⟩
    obtain ⟨X, hX⟩ := Go.Deep.choose_lt each
    have spots : a.spot = none ∧ a.block < w.heap.size := by
      obtain ⟨c, h1, h2, _⟩ := hX 0 hlen0
      have h := h2 0 hpos
      rw [List.getElem?_eq_getElem (by omega)] at h
      exact ⟨by simpa [Addr.add] using World.cell?_spot h, by simpa [Addr.add] using World.block_lt_of_cell? w _ h⟩
    refine ⟨(List.range len).map X, .inr ⟨a, cap, by simpa using hcs, by simpa using hl, hm, fun hne => ?_, fun i x hi => ?_⟩⟩
    · exact spots
    · have hlt : i < len := by
        have := (List.getElem?_eq_some_iff.1 hi).1
        simpa using this
      obtain ⟨c, h1, h2, h3⟩ := hX i hlt
      have ex : x = X i := by simpa [List.getElem?_range, hlt] using hi.symm
      subst ex
      refine ⟨c, h1, fun j hj => ?_, h3⟩
      have hs := spots.1
      rw [← h2 j hj]
      obtain ⟨ab, ao, asp⟩ := a
      simp only at hs
      subst hs
      congr 1
      unfold Addr.add
      split <;> split <;> simp_all [Nat.add_assoc]
end Go.Proofs.YtalnfjnfcloonaaGreatDoor

/-
  Addresses by value: their cells; rows of bytes within a block; the turn of such a row into a text.
-/
namespace Go.Proofs.YtalnfjnfcloonaaGreatDoor
open Go.RowKit
set_option linter.unusedVariables false

/-- An address's cells. -/
def addrC (v : Bool) (l : List UInt8) : List Value := .bool v :: B8 l
theorem addrC_length (v : Bool) (l : List UInt8) : (addrC v l).length = l.length + 1 := by simp [addrC, B8_length]
/-- Bytes in a block from an offset on. -/
def RowAt (w : World) (b o : Nat) (l : List UInt8) : Prop := ∀ i (h : i < l.length), w.cell? ⟨b, o + i, none⟩ = some (.int .u8 ((l[i]).toNat : Int))
theorem RowAt.below {w w' : World} {b o : Nat} {l : List UInt8} {B : Nat} (hr : RowAt w b o l) (hB : b < B) (h : Below B w w') : RowAt w' b o l := fun i hi => by
  rw [h.cell (p := ⟨b, o + i, none⟩) hB]; exact hr i hi
theorem RowAt.drew {w : World} {b o : Nat} {l : List UInt8} (hr : RowAt w b o l) : RowAt w.drew b o l := hr
theorem RowAt.drewN {w : World} {b o : Nat} {l : List UInt8} (hr : RowAt w b o l) (n : Nat) : RowAt (w.drewN n) b o l := hr
/-- 'string(b[:n])' of such a row: a rule for the walk. -/
theorem run_string_row {P : Program} {w : World} (src dst e : TypeId) (hs : P.underlying src = some (.slice e)) (he : P.underlying e = some (.int .u8)) (hd : P.underlying dst = some .string)
    {b o : Nat} {l : List UInt8} (hr : RowAt w b o l) (n cap : Nat) (hn : n ≤ l.length) : (convert src dst (.slice (some ⟨b, o, none⟩) n cap)).run P w = .ok (.string (Str (l.take n))) w := by
  rw [run_convert_bytes_arg (P := P) w src e hs he b o n cap ((l.take n).map fun b => (b.toNat : Int)) (by simp; omega) ?_ dst hd, strOfNums_B8]
  intro i hi
  rw [hr i (by omega)]
  have : i < l.length := by omega
  simp [hi, this]
theorem rowAt_box (w : World) (v : Bool) (l : List UInt8) (t : TypeId) (fr : Nat × Nat) (n : Nat) (hn : n = w.heap.size) : RowAt (w.alloc (.cells (addrC v l).toArray t fr)) n 1 l := fun i hi => by
  subst hn
  rw [World.cell?_alloc_mark]
  simp [addrC, Nat.add_comm 1 i, B8, List.getElem?_eq_getElem hi]
end Go.Proofs.YtalnfjnfcloonaaGreatDoor

/-
  The shape of an address that came in.
-/
namespace Go.Proofs.YtalnfjnfcloonaaGreatDoor
open Go.RowKit
set_option linter.unusedVariables false

def addrS : Shape (Bool × (List UInt8 × Unit)) := pairS 1 boolS (pairS 16 (bytesS 16) unitS)
theorem opens_addrS : Opens Tryz.prog 36 addrS :=
  opens_struct Tryz.underlying36 (opens_cons rfl (by kernel_rfl) (of_decide_eq_true (by kernel_rfl)) (opens_bool Tryz.underlying4) (opens_cons rfl (by kernel_rfl) (of_decide_eq_true (by kernel_rfl)) (opens_bytes Tryz.underlying34 Tryz.underlying5 (by kernel_rfl) (by kernel_rfl)) (opens_nil (by kernel_rfl))))
theorem addrS_cells {w : World} {cs : List Value} {x : Bool × (List UInt8 × Unit)} (h : addrS w cs x) : cs = addrC x.1 x.2.1 ∧ x.2.1.length = 16 := by
  obtain ⟨c, d, rfl, _, h1, c', d', rfl, _, h2, h3⟩ := h
  obtain ⟨h4, h5⟩ := h2
  have h1' : c = [.bool x.1] := h1
  have h3' : d' = [] := h3
  subst h1' h3' h4
  exact ⟨by simp [addrC], h5⟩

/-- The cells that lie in a block from an offset on. -/
def row? (w : World) (b o n : Nat) : Option (List Value) := w.cells? 0 ⟨b, o, none⟩ n
theorem row?_of {w : World} {b o : Nat} {cs : List Value} (h : w.rangeAt b o cs) : row? w b o cs.length = some cs := by
  unfold row?
  exact Go.ChangeShapes.cells?_of (Nat.zero_le _) rfl (fun i hi => by rw [h i cs[i] (List.getElem?_eq_getElem hi), List.getElem?_eq_getElem hi])
theorem rangeAt_of_row? {w : World} {b o n : Nat} {cs : List Value} (h : row? w b o n = some cs) : w.rangeAt b o cs ∧ cs.length = n := by
  obtain ⟨_, h1, h2⟩ := World.cells?_some h
  refine ⟨fun j v hv => ?_, h1⟩
  have hlt := (List.getElem?_eq_some_iff.1 hv).1
  have := h2 j (by omega)
  rw [Addr.add_mid] at this
  rw [this, hv]
theorem row?_below {w w' : World} {b o n B : Nat} {cs : List Value} (h : row? w b o n = some cs) (hB : b < B) (hb : Below B w w') : row? w' b o n = some cs := by
  obtain ⟨h1, h2⟩ := rangeAt_of_row? h
  subst h2
  exact row?_of (fun j v hv => by rw [hb.cell (p := ⟨b, o + j, none⟩) hB]; exact h1 j v hv)
end Go.Proofs.YtalnfjnfcloonaaGreatDoor


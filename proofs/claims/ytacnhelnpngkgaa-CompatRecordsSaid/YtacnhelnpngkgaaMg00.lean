/-
  Texts joined: Base, EqB, Open.
-/
import Derived.WalkKit
import Derived.ProofKit
import Derived.Handy
import Derived.Lib.Hide
import Derived.Laws.BytesArg
import Derived.Laws.OwnMore
import Derived.Deep.QuietTactic
import Derived.ChangeKeysEq
import Derived.OpenShut
import Derived.Deep.Slices
import Derived.Below
/-
  Plain words and laws that all texts of this seat share: bytes as cells, numbers as bytes, the turn of an owned row of bytes into a string. Nothing of the program is named here.
-/
namespace Go.Proofs.Ytacnhelnpngkgaa
open Go.RowKit
set_option linter.unusedVariables false

/-- Bytes as the cells of a slice of bytes. -/
def B8 (l : List UInt8) : List Value := l.map (fun b => Value.int .u8 (b.toNat : Int))
theorem B8_length (l : List UInt8) : (B8 l).length = l.length := by simp [B8]
theorem B8_get (l : List UInt8) (j : Nat) : (B8 l)[j]? = (l[j]?).map (fun b => Value.int .u8 (b.toNat : Int)) := by simp [B8]
theorem B8_one (l : List UInt8) : ∀ u ∈ B8 l, u.oneCell' = true := by
  intro u hu
  simp only [B8, List.mem_map] at hu
  obtain ⟨b, _, rfl⟩ := hu
  rfl
/-- The string of some bytes. -/
def Str (l : List UInt8) : ByteArray := ⟨l.toArray⟩
/-- The number that bytes hold, in 64 bits. -/
def num (l : List UInt8) : Nat := l.foldl (fun n b => (n * 256 + b.toNat) % 18446744073709551616) 0
/-- The lowest bytes of n, w of them, the highest first. -/
def putL (n : Nat) : Nat → List UInt8
  | 0 => []
  | i + 1 => UInt8.ofNat (n / 256 ^ i) :: putL n i
/-- A number held between 0 and another one. -/
def clampN (n : Int) (m : Nat) : Nat := if (m : Int) < n then m else n.toNat
theorem clampN_le (n : Int) (m : Nat) : clampN n m ≤ m := by unfold clampN; split <;> omega

theorem ret_int {k : IntKind} {a b : Int} (h : a = b) : Ending.returned (.int k a) = .returned (.int k b) := by rw [h]
/-- One call behind another: below what there was at the first, nothing has turned. -/
theorem bstep {w a b : World} (h : Below w.heap.size w a) (k : Below a.heap.size a b) : Below w.heap.size w b := h.trans (k.mono h.size)
theorem bdrewN {B : Nat} {a w : World} (h : Below B a w) (n : Nat) : Below B a (w.drewN n) := h.trans ⟨rfl, rfl, rfl, Nat.le_refl _, fun _ _ => rfl⟩
end Go.Proofs.Ytacnhelnpngkgaa

/-
  Two arrays of bytes are held against each other: a rule for the walk.
-/
namespace Go.Proofs.Ytacnhelnpngkgaa
open Go.RowKit
set_option linter.unusedVariables false

theorem eqItems_bytes {P : Program} {e : TypeId} (he : P.underlying e = some (.int .u8)) (hp : P.plainKey e = true) (d : Nat) (l m : List UInt8) (w : World) :
    ∀ is : List Nat, (∀ i ∈ is, i < l.length ∧ i < m.length) → (Op.eqItems (d + 1) e 1 (B8 l).toArray (B8 m).toArray is).run P w = .ok (is.all fun i => l.getD i 0 == m.getD i 0) w
  | [], _ => by simp [Op.eqItems]
  | i :: is, h => by
    obtain ⟨h1, h2⟩ := h i (by simp)
    have ih := eqItems_bytes he hp d l m w is (fun j hj => h j (by simp [hj]))
    have p1 : (part e (B8 l).toArray (i * 1)).run P w = .ok (.int .u8 ((l.getD i 0).toNat : Int)) w := run_part_plain w hp (by simp [B8_get, h1])
    have p2 : (part e (B8 m).toArray (i * 1)).run P w = .ok (.int .u8 ((m.getD i 0).toNat : Int)) w := run_part_plain w hp (by simp [B8_get, h2])
    have p3 : (Op.equalIn (d + 1) e (.int .u8 ((l.getD i 0).toNat : Int)) (.int .u8 ((m.getD i 0).toNat : Int))).run P w = .ok (l.getD i 0 == m.getD i 0) w := by
      have hq : (((l.getD i 0).toNat : Int) == ((m.getD i 0).toNat : Int)) = (l.getD i 0 == m.getD i 0) := by
        generalize l.getD i 0 = x; generalize m.getD i 0 = y
        rw [Bool.eq_iff_iff, beq_iff_eq, beq_iff_eq, ← UInt8.toNat_inj]; omega
      generalize l.getD i 0 = x at hq ⊢; generalize m.getD i 0 = y at hq ⊢
      simp [Op.equalIn, run_underlying he, hq]
    simp only [Op.eqItems, Sem.run_bind, p1, p2, p3, Result.andThen_ok, List.all_cons]
    cases l.getD i 0 == m.getD i 0
    · simp
    · simpa using ih
theorem all_range_eq (l m : List UInt8) (h : l.length = m.length) : ((List.range l.length).all fun i => l.getD i 0 == m.getD i 0) = decide (l = m) := by
  rw [Bool.eq_iff_iff]
  simp only [List.all_eq_true, List.mem_range, beq_iff_eq, decide_eq_true_eq]
  constructor
  · intro ha
    apply List.ext_getElem h
    intro i h1 h2
    have := ha i h1
    simpa [List.getD, h1, h2] using this
  · rintro rfl i _; rfl
theorem info_of {P : Program} {e : TypeId} {k : TypeDesc} (h : P.underlying e = some k) : ∃ i, P.info? e = some i := info_of_underlying h
end Go.Proofs.Ytacnhelnpngkgaa

/-
  Shapes: how the cells of a value that came in read as plain data: numbers, bools, texts, rows of bytes, structs and slices of any of these, one in another. Nothing of the program.
-/
namespace Go.Proofs.Ytacnhelnpngkgaa
open Go.RowKit
set_option linter.unusedVariables false

/-- What some cells are, in a world. -/
abbrev Shape (α : Type) := World → List Value → α → Prop
def intS (k : IntKind) : Shape Int := fun _ cs n => cs = [.int k n] ∧ (Lit.int k n).wf = true
def boolS : Shape Bool := fun _ cs b => cs = [.bool b]
/-- A row of n bytes by value. -/
def bytesS (n : Nat) : Shape (List UInt8) := fun _ cs l => cs = B8 l ∧ l.length = n
def unitS : Shape Unit := fun _ cs _ => cs = []
/-- One behind another, the first of k cells. -/
def pairS {α β : Type} (k : Nat) (R : Shape α) (Q : Shape β) : Shape (α × β) := fun w cs x => ∃ c d, cs = c ++ d ∧ c.length = k ∧ R w c x.1 ∧ Q w d x.2
/-- A slice: nil, or its cells, k for each element. -/
def sliceS {α : Type} (k : Nat) (R : Shape α) : Shape (List α) := fun w cs xs =>
  (cs = [.slice none 0 0] ∧ xs = []) ∨ ∃ (a : Addr) (cap : Nat), cs = [.slice (some a) xs.length cap] ∧ xs.length ≤ cap ∧ cap ≤ maxLen ∧
    (xs ≠ [] → a.spot = none ∧ a.block < w.heap.size) ∧
    ∀ i x, xs[i]? = some x → ∃ c, c.length = k ∧ (∀ j, j < k → w.cell? ⟨a.block, a.off + (i * k + j), none⟩ = c[j]?) ∧ R w c x

/-- Whatever was there at first is read later, too. -/
def Stable {α : Type} (R : Shape α) : Prop := ∀ (w w' : World) (cs : List Value) (x : α), (∀ b o, b < w.heap.size → w'.cell? ⟨b, o, none⟩ = w.cell? ⟨b, o, none⟩) → w.heap.size ≤ w'.heap.size → R w cs x → R w' cs x
theorem Stable.below {α : Type} {R : Shape α} (h : Stable R) {w w' : World} {cs : List Value} {x : α} (hb : Below w.heap.size w w') (hx : R w cs x) : R w' cs x :=
  h w w' cs x (fun b o hlt => hb.cell (p := ⟨b, o, none⟩) hlt) hb.size hx

/-- A type's cells that are read are of a shape. -/
def Opens {α : Type} (P : Program) (t : TypeId) (R : Shape α) : Prop :=
  ∀ {H : Type} {enc : TypeId × Value → H} {w : World} {base : Nat} {sp : Nat → Bool} {held : Bool} {fuel : Nat} {cs : List Value} {y : DataW H × List MemPlace},
    DataW.trod enc P w base sp held fuel t cs = some y → ∃ x, R w cs x
theorem opens_int {P : Program} {t : TypeId} {k : IntKind} (ht : P.underlying t = some (.int k)) : Opens P t (intS k) := fun h => by
  obtain ⟨n, e, _, wf⟩ := DataW.trod_int ht h; exact ⟨n, e, wf⟩
theorem opens_bool {P : Program} {t : TypeId} (ht : P.underlying t = some .bool) : Opens P t boolS := fun h => by
  obtain ⟨b, e, _⟩ := DataW.trod_bool ht h; exact ⟨b, e⟩
/-- The fields from one on. -/
def OpensFrom {α : Type} (P : Program) (t : TypeId) (fs : List Field) (off : Nat) (R : Shape α) : Prop :=
  ∀ {H : Type} {enc : TypeId × Value → H} {w : World} {base : Nat} {sp : Nat → Bool} {held : Bool} {n : Nat} {cs : List Value}, cs.length = P.cellsOf t →
    (∀ f ∈ fs, ∃ y, DataW.trod enc P w base sp held n f.type ((cs.drop f.offset).take (P.cellsOf f.type)) = some y) → ∃ x, R w (cs.drop off) x
theorem opens_nil {P : Program} {t : TypeId} {off : Nat} (h : P.cellsOf t = off) : OpensFrom P t [] off unitS := fun hl _ => ⟨(), by
  unfold unitS; exact List.drop_eq_nil_of_le (by omega)⟩
theorem opens_cons {α β : Type} {P : Program} {t : TypeId} {f : Field} {fs : List Field} {off k : Nat} {R : Shape α} {Q : Shape β} (ho : f.offset = off) (hk : P.cellsOf f.type = k) (hfit : off + k ≤ P.cellsOf t)
    (h0 : Opens P f.type R) (hs : OpensFrom P t fs (off + k) Q) : OpensFrom P t (f :: fs) off (pairS k R Q) := fun {H enc w base sp held n cs} hl hf => by
  obtain ⟨y, hy⟩ := hf f (by simp)
  obtain ⟨x, hx⟩ := h0 hy
  obtain ⟨z, hz⟩ := hs hl (fun g hg => hf g (by simp [hg]))
  rw [ho, hk] at hx
  refine ⟨(x, z), (cs.drop off).take k, (cs.drop off).drop k, (List.take_append_drop _ _).symm, ?_, hx, ?_⟩
  · rw [List.length_take, List.length_drop]; omega
  · rw [List.drop_drop]; exact hz
theorem opens_struct {α : Type} {P : Program} {t : TypeId} {fs : Array Field} {R : Shape α} (ht : P.underlying t = some (.struct fs)) (h : OpensFrom P t fs.toList 0 R) : Opens P t R := fun {H enc w base sp held fuel cs y} hy => by
  obtain ⟨xs, n, _, _, hl, hlen, hf⟩ := DataW.trod_struct ht hy
  have := h (cs := cs) (n := n) (enc := enc) (w := w) (base := base) (sp := sp) (held := held) hl (fun f hf' => by
    obtain ⟨i, hi⟩ := List.getElem?_of_mem hf'
    have hi' : fs[i]? = some f := by simpa using hi
    have hlt : i < xs.length := by rw [hlen]; exact (Array.getElem?_eq_some_iff.1 hi').1
    exact ⟨xs[i], by rw [hf i f hi', List.getElem?_eq_getElem hlt]⟩)
  simpa using this
theorem opens_bytes {P : Program} {t e : TypeId} {n : Nat} (ht : P.underlying t = some (.array n e)) (he : P.underlying e = some (.int .u8)) (hc : P.cellsOf e = 1) (hn : P.cellsOf t = n) : Opens P t (bytesS n) := fun {H enc w base sp held fuel cs y} hy => by
  obtain ⟨xs, m, _, _, hl, hlen, hx⟩ := DataW.trod_array ht hy
  rw [hc] at hx
  have each : ∀ i, i < n → ∃ b : UInt8, cs[i]? = some (.int .u8 (b.toNat : Int)) := fun i hi => by
    have h := hx i hi
    rw [List.getElem?_eq_getElem (by omega)] at h
    obtain ⟨q, e1, _, wf⟩ := DataW.trod_int he h
    obtain ⟨b0, b1⟩ := bounds_u8 wf
    refine ⟨UInt8.ofNat q.toNat, ?_⟩
    have e2 : cs[i]? = ((cs.drop (i * 1)).take 1)[0]? := by simp
    rw [e2, e1]
    simp [UInt8.toNat_ofNat']
    omega
  refine ⟨cs.map (fun v => match v with | .int _ q => UInt8.ofNat q.toNat | _ => 0), ?_, by simp; omega⟩
  apply List.ext_getElem?
  intro i
  by_cases hi : i < n
  · obtain ⟨b, hb⟩ := each i hi
    simp [B8, hb]
  · rw [List.getElem?_eq_none (by omega), List.getElem?_eq_none (by simp [B8_length]; omega)]
theorem opens_slice {α : Type} {P : Program} {t e : TypeId} {k : Nat} {R : Shape α} (ht : P.underlying t = some (.slice e)) (hk : P.cellsOf e = k) (hpos : 0 < k) (h0 : Opens P e R) : Opens P t (sliceS k R) := fun {H enc w base sp held fuel cs y} hy => by
  rcases Go.Deep.open_slice ht hy with ⟨hcs, _⟩ | ⟨a, len, cap, m, n, D, Pl, hcs, _, hl, hm, hmm, _, hx⟩
  · exact ⟨[], .inl ⟨hcs, rfl⟩⟩
  · have hlm : len ≤ m := by rw [hmm]; split <;> omega
    rw [hk] at hx
    have each : ∀ i, i < len → ∃ x : α, ∃ c, c.length = k ∧ (∀ j, j < k → w.cell? ((a.add (i * k)).add j) = c[j]?) ∧ R w c x := fun i hi => by
      obtain ⟨c, hc, hd⟩ := hx i (by omega)
      obtain ⟨x, hR⟩ := h0 hd
      obtain ⟨_, h2, h3⟩ := World.cells?_some hc
      exact ⟨x, c, h2, fun j hj => h3 j hj, hR⟩
    rcases Nat.eq_zero_or_pos len with rfl | hlen0
    · exact ⟨[], .inr ⟨a, cap, by simpa using hcs, by simp, hm, fun hne => absurd rfl hne, fun i x hi => by simp at hi⟩⟩
    haveI : Inhabited α := ⟨(each 0 hlen0).choose⟩
    obtain ⟨X, hX⟩ := Go.Deep.choose_lt each
    have spots : a.spot = none ∧ a.block < w.heap.size := by
      obtain ⟨c, h1, h2, _⟩ := hX 0 hlen0
      have h := h2 0 hpos
      rw [List.getElem?_eq_getElem (by omega)] at h
      exact ⟨by simpa [Addr.add] using World.cell?_spot h, by simpa [Addr.add] using World.block_lt_of_cell? w _ h⟩
    refine ⟨(List.range len).map X, .inr ⟨a, cap, by simpa using hcs, by simpa using hl, hm, fun hne => ?_, fun i x hi => ?_⟩⟩
    · exact spots
    · have hlt : i < len := by
        have := (List.getElem?_eq_some_iff.1 hi).1
        simpa using this
      obtain ⟨c, h1, h2, h3⟩ := hX i hlt
      have ex : x = X i := by simpa [List.getElem?_range, hlt] using hi.symm
      subst ex
      refine ⟨c, h1, fun j hj => ?_, h3⟩
      have hs := spots.1
      rw [← h2 j hj]
      obtain ⟨ab, ao, asp⟩ := a
      simp only at hs
      subst hs
      congr 1
      unfold Addr.add
      split <;> split <;> simp_all [Nat.add_assoc]
end Go.Proofs.Ytacnhelnpngkgaa


/-
  Shapes: how the cells of a value that came in read as plain data: numbers, bools, texts, rows of bytes, structs and slices of any of these, one in another. Nothing of the program.
-/
import Derived.Test.YtdhjcjofdfjfgaaBase
import Derived.OpenShut
import Derived.Deep.Slices
import Derived.Below
namespace Go.Proofs.Ytdhjcjofdfjfgaa
open Go.RowKit
set_option linter.unusedVariables false

/-- What some cells are, in a world. -/
abbrev Shape (α : Type) := World → List Value → α → Prop
def intS (k : IntKind) : Shape Int := fun _ cs n => cs = [.int k n] ∧ (Lit.int k n).wf = true
/-- A slice: nil, or its cells, k for each element. -/
def sliceS {α : Type} (k : Nat) (R : Shape α) : Shape (List α) := fun w cs xs =>
  (cs = [.slice none 0 0] ∧ xs = []) ∨ ∃ (a : Addr) (cap : Nat), cs = [.slice (some a) xs.length cap] ∧ xs.length ≤ cap ∧ cap ≤ maxLen ∧
    (xs ≠ [] → a.spot = none ∧ a.block < w.heap.size) ∧
    ∀ i x, xs[i]? = some x → ∃ c, c.length = k ∧ (∀ j, j < k → w.cell? ⟨a.block, a.off + (i * k + j), none⟩ = c[j]?) ∧ R w c x

/-- Whatever was there at first is read later, too. -/
def Stable {α : Type} (R : Shape α) : Prop := ∀ (w w' : World) (cs : List Value) (x : α), (∀ b o, b < w.heap.size → w'.cell? ⟨b, o, none⟩ = w.cell? ⟨b, o, none⟩) → w.heap.size ≤ w'.heap.size → R w cs x → R w' cs x
theorem Stable.below {α : Type} {R : Shape α} (h : Stable R) {w w' : World} {cs : List Value} {x : α} (hb : Below w.heap.size w w') (hx : R w cs x) : R w' cs x :=
  h w w' cs x (fun b o hlt => hb.cell (p := ⟨b, o, none⟩) hlt) hb.size hx

/-- A type's cells that are read are of a shape. -/
def Opens {α : Type} (P : Program) (t : TypeId) (R : Shape α) : Prop :=
  ∀ {H : Type} {enc : TypeId × Value → H} {w : World} {base : Nat} {sp : Nat → Bool} {held : Bool} {fuel : Nat} {cs : List Value} {y : DataW H × List MemPlace},
    DataW.trod enc P w base sp held fuel t cs = some y → ∃ x, R w cs x
theorem opens_int {P : Program} {t : TypeId} {k : IntKind} (ht : P.underlying t = some (.int k)) : Opens P t (intS k) := fun h => by
  obtain ⟨n, e, _, wf⟩ := DataW.trod_int ht h; exact ⟨n, e, wf⟩
theorem opens_slice {α : Type} {P : Program} {t e : TypeId} {k : Nat} {R : Shape α} (ht : P.underlying t = some (.slice e)) (hk : P.cellsOf e = k) (hpos : 0 < k) (h0 : Opens P e R) : Opens P t (sliceS k R) := fun {H enc w base sp held fuel cs y} hy => by
  rcases Go.Deep.open_slice ht hy with ⟨hcs, _⟩ | ⟨a, len, cap, m, n, D, Pl, hcs, _, hl, hm, hmm, _, hx⟩
  · exact ⟨[], .inl ⟨hcs, rfl⟩⟩
  · have hlm : len ≤ m := by rw [hmm]; split <;> omega
    rw [hk] at hx
    have each : ∀ i, i < len → ∃ x : α, ∃ c, c.length = k ∧ (∀ j, j < k → w.cell? ((a.add (i * k)).add j) = c[j]?) ∧ R w c x := fun i hi => by
      obtain ⟨c, hc, hd⟩ := hx i (by omega)
      obtain ⟨x, hR⟩ := h0 hd
      obtain ⟨_, h2, h3⟩ := World.cells?_some hc
      exact ⟨x, c, h2, fun j hj => h3 j hj, hR⟩
    rcases Nat.eq_zero_or_pos len with rfl | hlen0
    · exact ⟨[], .inr ⟨a, cap, by simpa using hcs, by simp, hm, fun hne => absurd rfl hne, fun i x hi => by simp at hi⟩⟩
    haveI : Inhabited α := ⟨(each 0 hlen0).choose⟩
    obtain ⟨X, hX⟩ := Go.Deep.choose_lt each
    have spots : a.spot = none ∧ a.block < w.heap.size := by
      obtain ⟨c, h1, h2, _⟩ := hX 0 hlen0
      have h := h2 0 hpos
      rw [List.getElem?_eq_getElem (by omega)] at h
      exact ⟨by simpa [Addr.add] using World.cell?_spot h, by simpa [Addr.add] using World.block_lt_of_cell? w _ h⟩
    refine ⟨(List.range len).map X, .inr ⟨a, cap, by simpa using hcs, by simpa using hl, hm, fun hne => ?_, fun i x hi => ?_⟩⟩
    · exact spots
    · have hlt : i < len := by
        have := (List.getElem?_eq_some_iff.1 hi).1
        simpa using this
      obtain ⟨c, h1, h2, h3⟩ := hX i hlt
      have ex : x = X i := by simpa [List.getElem?_range, hlt] using hi.symm
      subst ex
      refine ⟨c, h1, fun j hj => ?_, h3⟩
      have hs := spots.1
      rw [← h2 j hj]
      obtain ⟨ab, ao, asp⟩ := a
      simp only at hs
      subst hs
      congr 1
      unfold Addr.add
      split <;> split <;> simp_all [Nat.add_assoc]
end Go.Proofs.Ytdhjcjofdfjfgaa

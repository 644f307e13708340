/-
  The shape of an address that came in.
-/
import Derived.Test.YtdhjcjofdfjfgaaAddr
import Derived.Test.YtdhjcjofdfjfgaaChecked
import Derived.Deep.MidRow
import Derived.ChangeShapes
namespace Go.Proofs.Ytdhjcjofdfjfgaa
open Go.RowKit
set_option linter.unusedVariables false

/-- The cells that lie in a block from an offset on. -/
def row? (w : World) (b o n : Nat) : Option (List Value) := w.cells? 0 ⟨b, o, none⟩ n
theorem row?_of {w : World} {b o : Nat} {cs : List Value} (h : w.rangeAt b o cs) : row? w b o cs.length = some cs := by
  unfold row?
  exact Go.ChangeShapes.cells?_of (Nat.zero_le _) rfl (fun i hi => by rw [h i cs[i] (List.getElem?_eq_getElem hi), List.getElem?_eq_getElem hi])
theorem rangeAt_of_row? {w : World} {b o n : Nat} {cs : List Value} (h : row? w b o n = some cs) : w.rangeAt b o cs ∧ cs.length = n := by
  obtain ⟨_, h1, h2⟩ := World.cells?_some h
  refine ⟨fun j v hv => ?_, h1⟩
  have hlt := (List.getElem?_eq_some_iff.1 hv).1
  have := h2 j (by omega)
  rw [Addr.add_mid] at this
  rw [this, hv]
theorem row?_below {w w' : World} {b o n B : Nat} {cs : List Value} (h : row? w b o n = some cs) (hB : b < B) (hb : Below B w w') : row? w' b o n = some cs := by
  obtain ⟨h1, h2⟩ := rangeAt_of_row? h
  subst h2
  exact row?_of (fun j v hv => by rw [hb.cell (p := ⟨b, o + j, none⟩) hB]; exact h1 j v hv)
end Go.Proofs.Ytdhjcjofdfjfgaa

/-
  Addresses by value: their cells; rows of bytes within a block; the turn of such a row into a text.
-/
import Derived.Test.YtdhjcjofdfjfgaaBase
import Derived.Test.YtdhjcjofdfjfgaaOpen
namespace Go.Proofs.Ytdhjcjofdfjfgaa
open Go.RowKit
set_option linter.unusedVariables false

/-- Bytes in a block from an offset on. -/
def RowAt (w : World) (b o : Nat) (l : List UInt8) : Prop := ∀ i (h : i < l.length), w.cell? ⟨b, o + i, none⟩ = some (.int .u8 ((l[i]).toNat : Int))
theorem RowAt.below {w w' : World} {b o : Nat} {l : List UInt8} {B : Nat} (hr : RowAt w b o l) (hB : b < B) (h : Below B w w') : RowAt w' b o l := fun i hi => by
  rw [h.cell (p := ⟨b, o + i, none⟩) hB]; exact hr i hi
end Go.Proofs.Ytdhjcjofdfjfgaa

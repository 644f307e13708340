/-
  Structs and arrays of several cells are loaded and stored whole: rules for the walk.
-/
import Derived.Test.YtdhjcjofdfjfgaaShAddr
import Derived.Test.YtdhjcjofdfjfgaaObj
import Derived.Deep.MidRow
import Derived.Lib.LazyBuf
import Derived.Laws.CopyRow
namespace Go.Proofs.Ytdhjcjofdfjfgaa
open Go.RowKit
set_option linter.unusedVariables false

/-- Cells laid over others from a place on. -/
def over (L : List Value) (o : Nat) (cs : List Value) : List Value := L.take o ++ (cs ++ L.drop (o + cs.length))
end Go.Proofs.Ytdhjcjofdfjfgaa

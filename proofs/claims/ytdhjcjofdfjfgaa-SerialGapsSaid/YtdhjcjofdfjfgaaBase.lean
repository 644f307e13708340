/-
  Plain words and laws that all texts of this seat share: bytes as cells, numbers as bytes, the turn of an owned row of bytes into a string. Nothing of the program is named here.
-/
import Derived.WalkKit
import Derived.ProofKit
import Derived.Handy
import Derived.Lib.Hide
import Derived.Laws.BytesArg
import Derived.Laws.OwnMore
import Derived.Deep.QuietTactic
namespace Go.Proofs.Ytdhjcjofdfjfgaa
open Go.RowKit
set_option linter.unusedVariables false

end Go.Proofs.Ytdhjcjofdfjfgaa

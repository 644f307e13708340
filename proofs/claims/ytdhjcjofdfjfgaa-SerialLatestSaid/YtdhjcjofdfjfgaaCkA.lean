/-
  The document's answers of layer 12: Find, Due, Same, Keys, Cut.
-/
import Derived.Test.YtdhjcjofdfjfgaaVec
import Derived.Test.YtdhjcjofdfjfgaaPureCk
import Derived.Sort.Walk0
import Derived.Deep.RegionHeld3
import Derived.Deep.Cut
import Derived.BigQuiet
import Derived.LoopTactic
import Derived.Deep.QuietTactic
namespace Go.Proofs.Ytdhjcjofdfjfgaa
open Go.RowKit
set_option linter.unusedVariables false
set_option linter.unusedSimpArgs false

end Go.Proofs.Ytdhjcjofdfjfgaa

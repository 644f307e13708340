/-
  The contracts of the document's own answers of layer 1: Within, Bit, power, Put, Bits.
-/
import Derived.Test.YtdhjcjofdfjfgaaBase
import Derived.Test.YtdhjcjofdfjfgaaChecked
import Derived.WalkLawsBesides
import Derived.WalkSpells
import Derived.BigQuiet
import Derived.Deep.QuietTactic
import Derived.LoopTactic
import Derived.Deep.AppendLies
namespace Go.Proofs.Ytdhjcjofdfjfgaa
open Go.RowKit
set_option linter.unusedVariables false

end Go.Proofs.Ytdhjcjofdfjfgaa

/-
  The contracts of the document's own answers of layer 7: value, Value8, Value16, code, Code8, Code16.
-/
import Derived.Test.YtiegeejbnplhdaaRefa
import Derived.Test.YtiegeejbnplhdaaPureCode
namespace Go.Proofs.Ytiegeejbnplhdaa
open Go.RowKit
set_option linter.unusedVariables false

end Go.Proofs.Ytiegeejbnplhdaa

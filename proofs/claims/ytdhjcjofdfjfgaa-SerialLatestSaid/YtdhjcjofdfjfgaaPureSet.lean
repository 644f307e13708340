/-
  Sets as lists in order, plain: a list as a set, and that what is in order and has the same elements is the same; the order of addresses.
-/
import Derived.Test.YtdhjcjofdfjfgaaBase
import Derived.Lib.Bytealg
namespace Go.Proofs.Ytdhjcjofdfjfgaa
set_option linter.unusedVariables false
set_option linter.unusedSectionVars false

def Sorted {α : Type} (lt : α → α → Bool) (l : List α) : Prop := l.Pairwise (fun x y => lt x y = true)
variable {α : Type} [DecidableEq α] {lt : α → α → Bool} {good : α → Bool}
end Go.Proofs.Ytdhjcjofdfjfgaa

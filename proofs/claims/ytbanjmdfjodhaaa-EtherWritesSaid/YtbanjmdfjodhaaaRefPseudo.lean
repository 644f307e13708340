/-
  The contract of the document's own pseudo header.
-/
import Derived.Test.YtbanjmdfjodhaaaRefb
import Derived.Test.YtbanjmdfjodhaaaPseudo
namespace Go.Proofs.Ytbanjmdfjodhaaa
open Go.RowKit
set_option linter.unusedVariables false

theorem putL_byte (b : UInt8) : putL b.toNat 1 = [b] := by simp [putL]
theorem take_step (f : List UInt8) (l : List UInt8) (k : Nat) (h : k < l.length) : f ++ l.take k ++ [l[k]] = f ++ l.take (k + 1) := by
  rw [List.take_succ_eq_append_getElem h, List.append_assoc]




theorem take_snoc_l (l : List UInt8) (k : Nat) (h : k < l.length) : l.take k ++ [l[k]] = l.take (k + 1) := (List.take_succ_eq_append_getElem h).symm




end Go.Proofs.Ytbanjmdfjodhaaa

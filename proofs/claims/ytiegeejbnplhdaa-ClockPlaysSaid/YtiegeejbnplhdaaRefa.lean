/-
  The contracts of the document's own answers of layer 1: Within, Bit, power, Put, Bits.
-/
import Derived.Test.YtiegeejbnplhdaaBase
import Derived.Test.YtiegeejbnplhdaaChecked
import Derived.WalkLawsBesides
import Derived.WalkSpells
import Derived.BigQuiet
import Derived.Deep.QuietTactic
import Derived.LoopTactic
import Derived.Deep.AppendLies
namespace Go.Proofs.Ytiegeejbnplhdaa
open Go.RowKit
set_option linter.unusedVariables false

/-- What Cut leaves of a text. -/
def cutB (s : ByteArray) (m : Nat) : ByteArray := if s.size ≤ m then s else s.extract 0 m
theorem cut_any (s : ByteArray) (hs : s.size ≤ maxLen) (m : Nat) (hm : m ≤ 1000000) (w : World) : Calls Try.prog 7 #[.string s, .int .i64 m] w fun e w' => e = .returned (.string (cutB s m)) ∧ w = w' := by
  unfold maxLen at hs
  by_cases h : s.size ≤ m
  · have HC := Lib.hid (show cutB s m = s by unfold cutB; rw [if_pos h])
    go_enter Try.func7, Try.ntmps7
    go_wp2
    go_ret
    exact ⟨by rw [HC.out]; rfl, rfl⟩
  · have HC := Lib.hid (show cutB s m = s.extract 0 m by unfold cutB; rw [if_neg h])
    go_enter Try.func7, Try.ntmps7
    go_wp2
    go_ret
    exact ⟨by rw [HC.out]; rfl, rfl⟩
end Go.Proofs.Ytiegeejbnplhdaa

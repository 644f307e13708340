/-
  Two addresses of Ethernet are held against each other.
-/
import Derived.Test.YtmpikhpnkfnnoaaGreatDoorEqA
namespace Go.Proofs.YtmpikhpnkfnnoaaGreatDoor
open Go.RowKit
set_option linter.unusedVariables false

theorem eq_mac (m m' : List UInt8) (hm : m.length = 6) (hm' : m'.length = 6) (w : World) :
    (Op.equalIn 10000 28 (.agg (B8 m).toArray) (.agg (B8 m').toArray)).run Tryz.prog w = .ok (decide (m = m')) w := by
  obtain ⟨i8, hi8⟩ := info_of Tryz.underlying5
  exact run_eq_bytes_d (P := Tryz.prog) Tryz.underlying28 Tryz.underlying5 (by kernel_rfl) hi8 (by kernel_rfl) m m' hm hm' 9998 w
end Go.Proofs.YtmpikhpnkfnnoaaGreatDoor

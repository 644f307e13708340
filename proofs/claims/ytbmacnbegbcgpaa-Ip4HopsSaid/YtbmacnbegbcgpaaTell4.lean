/-
  addr.Ssm.
-/
import Derived.Test.YtbmacnbegbcgpaaTell3
namespace Go.Proofs.Ytbmacnbegbcgpaa
open Go.RowKit
set_option linter.unusedVariables false
attribute [local go_sem ↓] ld_addr
attribute [local go_sem] ldr_addr

theorem two_zero (a b : UInt8) : decide ([a, b] = [0, 0]) = decide ((a.toNat : Int) = 0 ∧ (b.toNat : Int) = 0) := by
  rw [Bool.eq_iff_iff]
  simp [← UInt8.toNat_inj]
end Go.Proofs.Ytbmacnbegbcgpaa

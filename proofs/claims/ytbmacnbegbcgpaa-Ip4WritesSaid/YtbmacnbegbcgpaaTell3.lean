/-
  The document's own Local; addr.Many; addr.Ssm.
-/
import Derived.Test.YtbmacnbegbcgpaaTell2
namespace Go.Proofs.Ytbmacnbegbcgpaa
open Go.RowKit
set_option linter.unusedVariables false
attribute [local go_sem ↓] ld_addr ld_b16 bld_b16
attribute [local go_sem] ldr_addr ldr_b16

theorem local_both (v : Bool) (l : List UInt8) : (grpV v l && decide (scpV v l < 3)) = locV v l := by
  cases v
  · rw [Bool.eq_iff_iff]
    unfold locV scpV linkV grpV
    simp only [Bool.false_eq_true, if_false, Bool.and_eq_true, decide_eq_true_eq]
    constructor
    · rintro ⟨⟨h1, h2⟩, h3⟩
      rw [if_neg (by simp [h1, h2])] at h3
      split at h3
      · assumption
      · split at h3
        · omega
        · split at h3 <;> omega
    · rintro ⟨h1, h2, h3⟩
      refine ⟨⟨by omega, by omega⟩, ?_⟩
      rw [if_neg (by simp [h1]), if_pos ⟨h1, h2, h3⟩]
      omega
  · rw [Bool.eq_iff_iff]
    unfold locV
    simp only [if_true, Bool.and_eq_true, decide_eq_true_eq]
    constructor <;> rintro ⟨h1, h2⟩ <;> exact ⟨h1, by omega⟩

/-- Whether it is several nodes'. -/
def manyV (m : List UInt8) : Bool := decide ((m.getD 0 0).toNat % 2 = 1)
theorem and_one : ∀ n : Fin 256, (bits BinOp.and IntKind.u8 (n.val : Int) 1 == 1) = decide (n.val % 2 = 1) := by decide +kernel
end Go.Proofs.Ytbmacnbegbcgpaa

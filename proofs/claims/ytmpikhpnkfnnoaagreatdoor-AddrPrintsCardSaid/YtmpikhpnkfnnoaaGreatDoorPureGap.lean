/-
  The longest run of zeros: plain mathematics.
-/
import Derived.Test.YtmpikhpnkfnnoaaGreatDoorBase
namespace Go.Proofs.YtmpikhpnkfnnoaaGreatDoor
open Go.RowKit
set_option linter.unusedVariables false

/-- One number more: where the longest run begins, how long it is, and how long the run is that ends here. -/
def gapSt (i n : Nat) (st : Nat × Nat × Nat) : Nat × Nat × Nat :=
  let run := if n = 0 then st.2.2 + 1 else 0
  if st.2.1 < run then (i + 1 - run, run, run) else (st.1, st.2.1, run)
def gapK (ws : List Nat) : Nat → Nat × Nat × Nat
  | 0 => (0, 0, 0)
  | k + 1 => gapSt k (ws.getD k 1) (gapK ws k)
theorem gapK_le (ws : List Nat) : ∀ k, (gapK ws k).2.1 ≤ k ∧ (gapK ws k).2.2 ≤ k ∧ (gapK ws k).1 + (gapK ws k).2.1 ≤ k
  | 0 => by simp [gapK]
  | k + 1 => by
    obtain ⟨h1, h2, h3⟩ := gapK_le ws k
    simp only [gapK, gapSt]
    generalize gapK ws k = st at *
    by_cases hz : ws.getD k 1 = 0
    · simp only [hz, if_true]
      split
      · simp only; omega
      · simp only; omega
    · simp only [hz, if_false]
      split
      · simp only; omega
      · simp only; omega
end Go.Proofs.YtmpikhpnkfnnoaaGreatDoor

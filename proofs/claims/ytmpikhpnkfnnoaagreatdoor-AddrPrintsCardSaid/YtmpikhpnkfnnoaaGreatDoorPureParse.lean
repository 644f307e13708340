/-
  What is read of a text is printed so, and is good.
-/
import Derived.Test.YtmpikhpnkfnnoaaGreatDoorParse
import Derived.Test.YtmpikhpnkfnnoaaGreatDoorGood
namespace Go.Proofs.YtmpikhpnkfnnoaaGreatDoor
open Go.RowKit
set_option linter.unusedVariables false

theorem readV_good (r : List UInt8) (h : r.length = 4 ∨ r.length = 16) : goodV (decide (r.length = 16)) (readV r) = true := by
  rcases h with h | h
  · have e : decide (r.length = 16) = false := by simp [h]
    rw [e]
    unfold goodV
    rw [Bool.false_or, decide_eq_true_eq]
    simp only [ownV, ownK, readV, Bool.false_eq_true, if_false, h]
    rw [List.drop_of_length_le (by simp; omega), List.append_nil, List.take_left' h]
  · simp [goodV, h]
theorem parseV_some {s : List UInt8} {v : Bool} {l : List UInt8} (h : parseV s = some (v, l)) : l.length = 16 ∧ prtV v l = s ∧ goodV v l = true := by
  unfold parseV at h
  split at h
  · simp at h
  · split at h
    · rename_i hlen
      split at h
      · rename_i hp
        simp only [Option.some.injEq, Prod.mk.injEq] at h
        obtain ⟨rfl, rfl⟩ := h
        exact ⟨readV_length _ (by omega), hp, readV_good _ hlen⟩
      · simp at h
    · simp at h
end Go.Proofs.YtmpikhpnkfnnoaaGreatDoor

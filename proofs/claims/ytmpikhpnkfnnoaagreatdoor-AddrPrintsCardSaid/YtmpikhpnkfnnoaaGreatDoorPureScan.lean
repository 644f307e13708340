/-
  The longest run of zeros, looked for in two ways: plain mathematics.
-/
import Derived.Test.YtmpikhpnkfnnoaaGreatDoorPureGap
namespace Go.Proofs.YtmpikhpnkfnnoaaGreatDoor
open Go.RowKit
set_option linter.unusedVariables false

/-- How many zeros a list begins with. -/
def runZ : List Nat → Nat
  | [] => 0
  | n :: r => if n = 0 then runZ r + 1 else 0
theorem runZ_le : ∀ L : List Nat, runZ L ≤ L.length
  | [] => Nat.le_refl _
  | n :: r => by
    have := runZ_le r
    unfold runZ
    split
    · simp; omega
    · simp
theorem runZ_step : ∀ (L : List Nat) (k : Nat), k ≤ runZ L → L[k]? = some 0 → k + 1 ≤ runZ L
  | [], k, _, h => by simp at h
  | n :: r, 0, _, h => by
    simp at h
    unfold runZ
    rw [if_pos h]; omega
  | n :: r, k + 1, hk, h => by
    unfold runZ at hk ⊢
    split at hk
    · rename_i hn
      rw [if_pos hn]
      have := runZ_step r k (by omega) (by simpa using h)
      omega
    · omega
theorem runZ_stop : ∀ (L : List Nat) (k : Nat), k ≤ runZ L → L[k]? ≠ some 0 → k = runZ L
  | [], k, h, _ => by unfold runZ at h ⊢; omega
  | n :: r, 0, _, h => by
    simp at h
    unfold runZ
    rw [if_neg h]
  | n :: r, k + 1, hk, h => by
    unfold runZ at hk ⊢
    split at hk
    · rename_i hn
      rw [if_pos hn]
      have := runZ_stop r k (by omega) (by simpa using h)
      omega
    · omega
/-- What the document looks for: where the longest run begins, if one is of two at the least, and how long it is. -/
def scanZ (ws : List Nat) : Nat → Int × Nat
  | 0 => (-1, 1)
  | i + 1 => if (scanZ ws i).2 < runZ (ws.drop i) then ((i : Int), runZ (ws.drop i)) else scanZ ws i

/-! The same over the pattern of zeros. -/
def runB : List Bool → Nat
  | [] => 0
  | n :: r => if n then runB r + 1 else 0
def scanB (ws : List Bool) : Nat → Int × Nat
  | 0 => (-1, 1)
  | i + 1 => if (scanB ws i).2 < runB (ws.drop i) then ((i : Int), runB (ws.drop i)) else scanB ws i
def gapBst (i : Nat) (n : Bool) (st : Nat × Nat × Nat) : Nat × Nat × Nat :=
  let run := if n then st.2.2 + 1 else 0
  if st.2.1 < run then (i + 1 - run, run, run) else (st.1, st.2.1, run)
def gapB (ws : List Bool) : Nat → Nat × Nat × Nat
  | 0 => (0, 0, 0)
  | k + 1 => gapBst k (ws.getD k false) (gapB ws k)
def zsB (ws : List Nat) : List Bool := ws.map fun n => decide (n = 0)
theorem runZ_B : ∀ L : List Nat, runZ L = runB (zsB L)
  | [] => rfl
  | n :: r => by
    have ih := runZ_B r
    unfold zsB at ih ⊢
    by_cases h : n = 0 <;> simp [runZ, runB, h, ih]
theorem scanZ_B (ws : List Nat) : ∀ i, scanZ ws i = scanB (zsB ws) i
  | 0 => rfl
  | i + 1 => by
    have ih := scanZ_B ws i
    have e : runZ (ws.drop i) = runB ((zsB ws).drop i) := by rw [runZ_B]; unfold zsB; rw [List.map_drop]
    simp only [scanZ, scanB, ih, e]
theorem gapK_B (ws : List Nat) : ∀ k, gapK ws k = gapB (zsB ws) k
  | 0 => rfl
  | k + 1 => by
    have ih := gapK_B ws k
    have e : ((zsB ws).getD k false) = decide (ws.getD k 1 = 0) := by
      unfold zsB
      rw [List.getD_eq_getElem?_getD, List.getD_eq_getElem?_getD, List.getElem?_map]
      cases ws[k]? <;> simp
    simp only [gapK, gapB, gapSt, gapBst, ih, e, decide_eq_true_eq]
theorem list8 {α : Type} {l : List α} (h : l.length = 8) : ∃ b0 b1 b2 b3 b4 b5 b6 b7, l = [b0, b1, b2, b3, b4, b5, b6, b7] := by
  match l, h with
  | [b0, b1, b2, b3, b4, b5, b6, b7], _ => exact ⟨b0, b1, b2, b3, b4, b5, b6, b7, rfl⟩
def agree (ws : List Bool) : Bool := if (gapB ws 8).2.1 < 2 then decide (scanB ws 8 = (-1, 1)) else decide (scanB ws 8 = ((((gapB ws 8).1 : Nat) : Int), (gapB ws 8).2.1) ∧ (gapB ws 8).1 + (gapB ws 8).2.1 ≤ 8)
theorem agree_all (b0 b1 b2 b3 b4 b5 b6 b7 : Bool) : agree [b0, b1, b2, b3, b4, b5, b6, b7] = true := by
  revert b0 b1 b2 b3 b4 b5 b6 b7
  decide +kernel
theorem scan_gap (ws : List Nat) (h : ws.length = 8) : ((gapK ws 8).2.1 < 2 ∧ scanZ ws 8 = (-1, 1)) ∨ (2 ≤ (gapK ws 8).2.1 ∧ scanZ ws 8 = (((gapK ws 8).1 : Int), (gapK ws 8).2.1) ∧ (gapK ws 8).1 + (gapK ws 8).2.1 ≤ 8) := by
  rw [gapK_B, scanZ_B]
  obtain ⟨b0, b1, b2, b3, b4, b5, b6, b7, e⟩ := list8 (l := zsB ws) (by unfold zsB; rw [List.length_map, h])
  rw [e]
  have ha := agree_all b0 b1 b2 b3 b4 b5 b6 b7
  unfold agree at ha
  generalize gapB [b0, b1, b2, b3, b4, b5, b6, b7] 8 = G at *
  generalize scanB [b0, b1, b2, b3, b4, b5, b6, b7] 8 = S at *
  split at ha
  · rename_i h2
    exact .inl ⟨h2, by simpa using ha⟩
  · rename_i h2
    rw [decide_eq_true_eq] at ha
    exact .inr ⟨by omega, ha.1, ha.2⟩
end Go.Proofs.YtmpikhpnkfnnoaaGreatDoor

/-
  Packets of IPv6 as plain data: options, what is wrong of bytes, their parts. Nothing of the program.
-/
import Derived.Test.YtkmnnkklbgnfpaaPureIp
namespace Go.Proofs.Ytkmnnkklbgnfpaa
open Go.RowKit
set_option linter.unusedVariables false

/-- Whether the first option is an alert. -/
def al6 (l : List UInt8) : Bool := decide (by8 l 0 = 5 ∧ by8 l 1 = 2 ∧ by8 l 2 = 0 ∧ by8 l 3 = 0)
/-- What options tell: whether there is an alert among them, and what is wrong; so many at most. -/
def optW : Nat → Bool → List UInt8 → Bool × Int
  | 0, is, _ => (is, 0)
  | f + 1, is, l =>
    if l.length = 0 then (is, 0)
    else if by8 l 0 = 0 then optW f is (l.drop 1)
    else if l.length < 2 ∨ l.length < by8 l 1 + 2 then (false, 2)
    else if by8 l 0 ≠ 1 ∧ by8 l 0 ≠ 5 ∧ 63 < by8 l 0 then (false, 5)
    else optW f (is || al6 l) (l.drop (by8 l 1 + 2))
def optQ (is : Bool) (l : List UInt8) : Bool × Int := optW l.length is l
theorem optW_enough : ∀ (f g : Nat) (is : Bool) (l : List UInt8), l.length ≤ f → l.length ≤ g → optW f is l = optW g is l := by
  intro f
  induction f with
  | zero =>
    intro g is l h1 h2
    cases g with
    | zero => rfl
    | succ g => unfold optW; rw [if_pos (by omega)]
  | succ f ih =>
    intro g is l h1 h2
    cases g with
    | zero => unfold optW; rw [if_pos (by omega)]
    | succ g =>
      unfold optW
      split
      · rfl
      split
      · exact ih g is _ (by simp; omega) (by simp; omega)
      split
      · rfl
      split
      · rfl
      · exact ih g _ _ (by simp; omega) (by simp; omega)
theorem optQ_nil (is : Bool) (l : List UInt8) (h : l.length = 0) : optQ is l = (is, 0) := by unfold optQ; rw [h]; rfl
theorem optQ_unfold (is : Bool) (l : List UInt8) (h : 0 < l.length) : optQ is l =
    if by8 l 0 = 0 then optQ is (l.drop 1)
    else if l.length < 2 ∨ l.length < by8 l 1 + 2 then (false, 2)
    else if by8 l 0 ≠ 1 ∧ by8 l 0 ≠ 5 ∧ 63 < by8 l 0 then (false, 5)
    else optQ (is || al6 l) (l.drop (by8 l 1 + 2)) := by
  unfold optQ
  obtain ⟨f, hf⟩ : ∃ f, l.length = f + 1 := ⟨l.length - 1, by omega⟩
  rw [hf]
  conv => lhs; unfold optW
  rw [if_neg (by omega), hf]
  split
  · exact optW_enough _ _ _ _ (by simp; omega) (by simp)
  split
  · rfl
  split
  · rfl
  · exact optW_enough _ _ _ _ (by simp; omega) (by simp)
theorem optQ_pad (is : Bool) (l : List UInt8) (h : 0 < l.length) (h0 : by8 l 0 = 0) : optQ is l = optQ is (l.drop 1) := by rw [optQ_unfold is l h, if_pos h0]
theorem optQ_end (is : Bool) (l : List UInt8) (h : 0 < l.length) (h0 : by8 l 0 ≠ 0) (h1 : l.length < 2 ∨ l.length < by8 l 1 + 2) : optQ is l = (false, 2) := by rw [optQ_unfold is l h, if_neg h0, if_pos h1]
theorem optQ_kind (is : Bool) (l : List UInt8) (h : 0 < l.length) (h0 : by8 l 0 ≠ 0) (h1 : ¬ (l.length < 2 ∨ l.length < by8 l 1 + 2)) (h2 : by8 l 0 ≠ 1 ∧ by8 l 0 ≠ 5 ∧ 63 < by8 l 0) : optQ is l = (false, 5) := by rw [optQ_unfold is l h, if_neg h0, if_neg h1, if_pos h2]
theorem optQ_step (is : Bool) (l : List UInt8) (h : 0 < l.length) (h0 : by8 l 0 ≠ 0) (h1 : ¬ (l.length < 2 ∨ l.length < by8 l 1 + 2)) (h2 : ¬ (by8 l 0 ≠ 1 ∧ by8 l 0 ≠ 5 ∧ 63 < by8 l 0)) : optQ is l = optQ (is || al6 l) (l.drop (by8 l 1 + 2)) := by rw [optQ_unfold is l h, if_neg h0, if_neg h1, if_neg h2]

/-- What was announced. -/
def bd6 (s : List UInt8) : List UInt8 := (s.drop 40).take (wd s 4)
/-- The size of the options that begin it. -/
def hb6 (s : List UInt8) : Nat := 8 * by8 (bd6 s) 1 + 8
def opt6 (s : List UInt8) : Bool × Int := optQ false (((bd6 s).take (hb6 s)).drop 2)
/-- What is wrong ahead of the options, of them, and behind. -/
def hdE6 (s : List UInt8) : Int := if s.length < 40 then 3 else if by8 s 0 / 16 ≠ 6 then 5 else if s.length < wd s 4 + 40 then 3 else 0
def opE6 (s : List UInt8) : Int :=
  if (bd6 s).length < 8 ∨ (bd6 s).length < hb6 s then 2
  else if (opt6 s).2 ≠ 0 then (opt6 s).2
  else if by8 (bd6 s) 0 = 0 then 2
  else if 1400 < (bd6 s).length - hb6 s then 6
  else 0
def why6 (s : List UInt8) : Int := if hdE6 s ≠ 0 then hdE6 s else if by8 s 6 = 0 then opE6 s else if 1400 < (bd6 s).length then 6 else 0
theorem hdE6_zero {s : List UInt8} (h : hdE6 s = 0) : 40 ≤ s.length ∧ by8 s 0 / 16 = 6 ∧ wd s 4 + 40 ≤ s.length ∧ (bd6 s).length = wd s 4 := by
  unfold hdE6 at h
  split at h
  · omega
  split at h
  · omega
  split at h
  · omega
  rename_i h1 h2 h3
  exact ⟨by omega, by omega, by omega, by unfold bd6; simp; omega⟩
theorem hdE6_of {s : List UInt8} (h1 : 40 ≤ s.length) (h2 : by8 s 0 / 16 = 6) (h3 : wd s 4 + 40 ≤ s.length) : hdE6 s = 0 := by
  unfold hdE6; rw [if_neg (by omega), if_neg (by omega), if_neg (by omega)]
theorem opE6_zero {s : List UInt8} (h : opE6 s = 0) : 8 ≤ (bd6 s).length ∧ hb6 s ≤ (bd6 s).length ∧ (opt6 s).2 = 0 ∧ by8 (bd6 s) 0 ≠ 0 ∧ (bd6 s).length - hb6 s ≤ 1400 := by
  unfold opE6 at h
  split at h
  · omega
  split at h
  · rename_i h1; exact absurd h h1
  split at h
  · omega
  split at h
  · omega
  rename_i h1 h2 h3 h4
  exact ⟨by omega, by omega, Decidable.byContradiction h2, h3, by omega⟩
theorem why6_bad {s : List UInt8} (h : hdE6 s ≠ 0) : why6 s = hdE6 s := by unfold why6; rw [if_pos h]
theorem why6_opt {s : List UInt8} (h : hdE6 s = 0) (h6 : by8 s 6 = 0) : why6 s = opE6 s := by unfold why6; rw [if_neg (by simp [h]), if_pos h6]
theorem why6_no {s : List UInt8} (h : hdE6 s = 0) (h6 : by8 s 6 ≠ 0) : why6 s = if 1400 < (bd6 s).length then 6 else 0 := by unfold why6; rw [if_neg (by simp [h]), if_neg h6]
/-- Numbers in the first four bytes. -/
theorem num4 (a b c d : UInt8) : num [a, b, c, d] = ((a.toNat * 256 + b.toNat) * 256 + c.toNat) * 256 + d.toNat := by
  have h1 := a.toNat_lt; have h2 := b.toNat_lt; have h3 := c.toNat_lt; have h4 := d.toNat_lt
  simp [num]; omega
theorem num1 (a : UInt8) : num [a] = a.toNat := by
  have h1 := a.toNat_lt
  simp [num]
end Go.Proofs.Ytkmnnkklbgnfpaa

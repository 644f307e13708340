/-
  Plain lemmas on Internet checksums; nothing of the program.
-/
import Derived.Test.YtkmnnkklbgnfpaaBase
namespace Go.Proofs.Ytkmnnkklbgnfpaa
open Go.RowKit
set_option linter.unusedVariables false

/-- A number's words added up, carries and all. -/
def foldN (n : Nat) : Nat := if n = 0 then 0 else (n - 1) % 65535 + 1
theorem foldN_zero : foldN 0 = 0 := rfl
theorem foldN_pos {n : Nat} (h : 0 < n) : foldN n = (n - 1) % 65535 + 1 := by unfold foldN; rw [if_neg (by omega)]
theorem foldN_le (n : Nat) : foldN n ≤ 65535 := by unfold foldN; split <;> omega
theorem foldN_small {n : Nat} (h : n ≤ 65535) : foldN n = n := by unfold foldN; split <;> omega
theorem foldN_eq_zero {n : Nat} : foldN n = 0 ↔ n = 0 := by unfold foldN; split <;> omega
theorem foldN_more (y k : Nat) (h : 0 < y) : foldN (y + 65535 * k) = foldN y := by
  rw [foldN_pos (by omega), foldN_pos h]; omega
/-- The four words of a number. -/
def words4 (n : Nat) : Nat := n % 65536 + n / 65536 % 65536 + n / 4294967296 % 65536 + n / 281474976710656 % 65536
theorem words4_spec (n : Nat) (h : n < 18446744073709551616) : ∃ k, n = words4 n + 65535 * k ∧ (0 < n → 0 < words4 n) ∧ (65535 < n → 0 < k) := by
  unfold words4
  have e1 : n / 4294967296 = n / 65536 / 65536 := by omega
  have e2 : n / 281474976710656 = n / 65536 / 65536 / 65536 := by omega
  rw [e1, e2]
  clear e1 e2
  generalize ha : n / 65536 = a
  generalize hb : a / 65536 = b
  generalize hc : b / 65536 = c
  have hc2 : c < 65536 := by omega
  rw [Nat.mod_eq_of_lt hc2]
  have ha2 := Nat.div_add_mod n 65536
  have hb2 := Nat.div_add_mod a 65536
  have hc3 := Nat.div_add_mod b 65536
  rw [ha] at ha2
  rw [hb] at hb2
  rw [hc] at hc3
  have hr := Nat.mod_lt n (show 65536 > 0 by omega)
  clear ha hb hc
  generalize n % 65536 = r0 at *
  generalize a % 65536 = r1 at *
  generalize b % 65536 = r2 at *
  refine ⟨a + b + c, by omega, fun hp => ?_, by omega⟩
  omega
theorem words4_lt (n : Nat) (h : n < 18446744073709551616) (h2 : 65535 < n) : words4 n < n := by
  obtain ⟨k, h1, _, h3⟩ := words4_spec n h
  have := h3 h2
  omega
theorem foldN_words4 (n : Nat) (h : n < 18446744073709551616) : foldN (words4 n) = foldN n := by
  obtain ⟨k, h1, h2, _⟩ := words4_spec n h
  rcases Nat.eq_zero_or_pos n with rfl | hp
  · rfl
  · conv => rhs; rw [h1]
    rw [foldN_more _ _ (h2 hp)]
/-- The first words of a number. -/
def wpart (n : Nat) : Nat → Nat
  | 0 => 0
  | k + 1 => wpart n k + n / 2 ^ (16 * k) % 65536
theorem wpart_four (n : Nat) : wpart n 4 = words4 n := by
  simp [wpart, words4]
theorem wpart_le (n k : Nat) : wpart n k ≤ 65535 * k := by
  induction k with
  | zero => simp [wpart]
  | succ k ih => simp only [wpart]; have := Nat.mod_lt (n / 2 ^ (16 * k)) (show 65536 > 0 by omega); omega

/-- What is summed so far, and how far the next byte is shifted. -/
def wstep (p : Nat × Nat) (b : UInt8) : Nat × Nat := (p.1 + b.toNat * 2 ^ p.2, 8 - p.2)
def wst (l : List UInt8) : Nat × Nat := l.foldl wstep (0, 8)
/-- The words of a text added up. -/
def wsum (l : List UInt8) : Nat := (wst l).1
theorem wst_nil : wst [] = (0, 8) := rfl
theorem wst_snoc (l : List UInt8) (b : UInt8) : wst (l ++ [b]) = wstep (wst l) b := by simp [wst, List.foldl_append]
theorem wst_from (l : List UInt8) : ∀ a s, l.foldl wstep (a, s) = (a + (l.foldl wstep (0, s)).1, (l.foldl wstep (0, s)).2) := by
  induction l with
  | nil => intro a s; rfl
  | cons b l ih =>
    intro a s
    rw [List.foldl_cons, List.foldl_cons]
    simp only [wstep]
    rw [ih (a + _) _, ih (0 + _) _]
    simp only [Nat.zero_add, Nat.add_assoc]
theorem wst_two (l : List UInt8) : (wst l).2 = if l.length % 2 = 0 then 8 else 0 := by
  suffices h : ∀ (l : List UInt8) a s, (s = 8 ∨ s = 0) → (l.foldl wstep (a, s)).2 = if l.length % 2 = 0 then s else 8 - s from h l 0 8 (.inl rfl)
  intro l
  induction l with
  | nil => intro a s _; rfl
  | cons b l ih =>
    intro a s hs
    rw [List.foldl_cons]
    simp only [wstep]
    rw [ih _ _ (by omega), List.length_cons]
    rcases hs with rfl | rfl <;> split <;> split <;> omega
theorem wst_even (l : List UInt8) (h : l.length % 2 = 0) : wst l = (wsum l, 8) := by
  have := wst_two l
  rw [if_pos h] at this
  unfold wsum
  rw [← this]
theorem wst_append (l m : List UInt8) (h : l.length % 2 = 0) : wst (l ++ m) = (wsum l + wsum m, (wst m).2) := by
  unfold wsum
  rw [wst, List.foldl_append, show l.foldl wstep (0, 8) = ((wst l).1, 8) by have := wst_even l h; rw [wst] at this; rw [this]; rfl, wst_from]
  rfl
theorem wsum_append (l m : List UInt8) (h : l.length % 2 = 0) : wsum (l ++ m) = wsum l + wsum m := by
  conv => lhs; unfold wsum
  rw [wst_append l m h]
theorem wst_le (l : List UInt8) : (wst l).1 ≤ 65280 * l.length ∧ ((wst l).2 = 8 ∨ (wst l).2 = 0) := by
  suffices h : ∀ (l : List UInt8) a s, (s = 8 ∨ s = 0) → (l.foldl wstep (a, s)).1 ≤ a + 65280 * l.length ∧ ((l.foldl wstep (a, s)).2 = 8 ∨ (l.foldl wstep (a, s)).2 = 0) by
    have := h l 0 8 (.inl rfl); unfold wst; omega
  intro l
  induction l with
  | nil => intro a s hs; exact ⟨by simp, hs⟩
  | cons b l ih =>
    intro a s hs
    have hb := b.toNat_lt
    rw [List.foldl_cons]
    simp only [wstep]
    obtain ⟨i1, i2⟩ := ih (a + b.toNat * 2 ^ s) (8 - s) (by omega)
    refine ⟨Nat.le_trans i1 ?_, i2⟩
    rw [List.length_cons]
    rcases hs with rfl | rfl
    · rw [show (2 : Nat) ^ 8 = 256 from rfl]; omega
    · rw [show (2 : Nat) ^ 0 = 1 from rfl]; omega
theorem wsum_le (l : List UInt8) : wsum l ≤ 65280 * l.length := (wst_le l).1
theorem wsum_two (a b : UInt8) : wsum [a, b] = 256 * a.toNat + b.toNat := by
  simp [wsum, wst, wstep]; omega
theorem wsum_two_snoc (l : List UInt8) (a b : UInt8) (h : l.length % 2 = 0) : wsum (l ++ [a, b]) = wsum l + (256 * a.toNat + b.toNat) := by
  rw [wsum_append l _ h, wsum_two]
theorem wsum_pad (l : List UInt8) : wsum (l ++ [0]) = wsum l := by
  unfold wsum; rw [wst_snoc]; simp [wstep]
end Go.Proofs.Ytkmnnkklbgnfpaa

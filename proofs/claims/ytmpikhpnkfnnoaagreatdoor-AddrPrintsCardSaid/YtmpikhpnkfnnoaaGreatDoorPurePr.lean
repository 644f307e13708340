/-
  Numbers in digits with colons between, and a run of zeros left out: plain mathematics.
-/
import Derived.Test.YtmpikhpnkfnnoaaGreatDoorPureScan
import Derived.Lib.Join
namespace Go.Proofs.YtmpikhpnkfnnoaaGreatDoor
open Go.RowKit
set_option linter.unusedVariables false

def jnD (D : Nat → List UInt8) (ws : List Nat) : List UInt8 := Lib.join (ws.map D) [58]
theorem jnD_cons2 (D : Nat → List UInt8) (a b : Nat) (r : List Nat) : jnD D (a :: b :: r) = D a ++ (58 :: jnD D (b :: r)) := by simp [jnD, Lib.join, List.intercalate]
theorem jnD_one (D : Nat → List UInt8) (a : Nat) : jnD D [a] = D a := by simp [jnD, Lib.join_one]
theorem jnD_snoc (D : Nat → List UInt8) (y : Nat) : ∀ xs : List Nat, xs ≠ [] → jnD D (xs ++ [y]) = jnD D xs ++ (58 :: D y)
  | [], h => absurd rfl h
  | [x], _ => by rw [jnD_one]; exact (jnD_cons2 D x y []).trans (by rw [jnD_one])
  | x :: z :: r, _ => by
    have ih := jnD_snoc D y (z :: r) (by simp)
    rw [List.cons_append, List.cons_append, jnD_cons2, ← List.cons_append, ih, jnD_cons2]
    simp
theorem jnD_len (D : Nat → List UInt8) (hD : ∀ n, (D n).length ≤ 5) : ∀ ws : List Nat, (jnD D ws).length ≤ 6 * ws.length
  | [] => by simp [jnD, Lib.join_nil]
  | [a] => by rw [jnD_one]; have := hD a; simp; omega
  | a :: b :: r => by
    have ih := jnD_len D hD (b :: r)
    have := hD a
    rw [jnD_cons2]
    simp at ih ⊢
    omega
/-- It ends in a byte that is no colon. -/
def Ends (s : List UInt8) : Prop := ∃ p c, s = p ++ [c] ∧ c ≠ 58
theorem Ends.pre {s : List UInt8} (h : Ends s) (t : List UInt8) : Ends (t ++ s) := by
  obtain ⟨p, c, rfl, hc⟩ := h
  exact ⟨t ++ p, c, by simp, hc⟩
theorem jnD_ends (D : Nat → List UInt8) (hD : ∀ n, Ends (D n)) : ∀ ws : List Nat, ws ≠ [] → Ends (jnD D ws)
  | [], h => absurd rfl h
  | [a], _ => by rw [jnD_one]; exact hD a
  | a :: b :: r, _ => by
    have ih := jnD_ends D hD (b :: r) (by simp)
    rw [jnD_cons2]
    exact (ih.pre [58]).pre _
/-- What stands there behind so many numbers. -/
def PrS (D : Nat → List UInt8) (ws : List Nat) (a n i : Nat) (s : List UInt8) : Prop :=
  (i ≤ a ∧ s = jnD D (ws.take i)) ∨ (a < i ∧ a + n ≤ i ∧ s = jnD D (ws.take a) ++ (58 :: 58 :: jnD D ((ws.drop (a + n)).take (i - (a + n)))))
theorem PrS.len {D : Nat → List UInt8} {ws : List Nat} {a n i : Nat} {s : List UInt8} (h : PrS D ws a n i s) (hD : ∀ n, (D n).length ≤ 5) (hw : ws.length = 8) : s.length ≤ 120 := by
  rcases h with ⟨_, rfl⟩ | ⟨_, _, rfl⟩
  · have := jnD_len D hD (ws.take i)
    rw [List.length_take] at this
    omega
  · have h1 := jnD_len D hD (ws.take a)
    have h2 := jnD_len D hD ((ws.drop (a + n)).take (i - (a + n)))
    rw [List.length_take] at h1 h2
    rw [List.length_drop] at h2
    simp
    omega
theorem PrS.skip {D : Nat → List UInt8} {ws : List Nat} {a n : Nat} {s : List UInt8} (h : PrS D ws a n a s) (hn : 1 ≤ n) : PrS D ws a n (a + n) (s ++ [58, 58]) := by
  rcases h with ⟨_, rfl⟩ | ⟨h, _⟩
  · refine .inr ⟨by omega, Nat.le_refl _, ?_⟩
    rw [Nat.sub_self, List.take_zero]
    simp [jnD, Lib.join_nil]
  · omega
theorem take_next {ws : List Nat} {i : Nat} (h : i < ws.length) : ws.take (i + 1) = ws.take i ++ [ws.getD i 0] := by
  rw [List.take_succ_eq_append_getElem h, List.getD_eq_getElem?_getD, List.getElem?_eq_getElem h]; rfl
theorem PrS.next {D : Nat → List UInt8} {ws : List Nat} {a n i : Nat} {s : List UInt8} (h : PrS D ws a n i s) (hD : ∀ n, Ends (D n)) (hi : i < ws.length) (ha : i ≠ a) :
    (s = [] ∧ PrS D ws a n (i + 1) (D (ws.getD i 0))) ∨ (∃ p, s = p ++ [58] ∧ PrS D ws a n (i + 1) (s ++ D (ws.getD i 0))) ∨ (∃ p c, s = p ++ [c] ∧ c ≠ 58 ∧ PrS D ws a n (i + 1) (s ++ (58 :: D (ws.getD i 0)))) := by
  rcases h with ⟨h1, rfl⟩ | ⟨h0, h1, rfl⟩
  · rcases Nat.eq_zero_or_pos i with rfl | hp
    · exact .inl ⟨by simp [jnD, Lib.join_nil], .inl ⟨by omega, by rw [take_next hi, List.take_zero, List.nil_append, jnD_one]⟩⟩
    · have hne : ws.take i ≠ [] := by
        intro e
        have := congrArg List.length e
        rw [List.length_take, List.length_nil] at this
        omega
      obtain ⟨p, c, e, hc⟩ := jnD_ends D hD _ hne
      exact .inr (.inr ⟨p, c, e, hc, .inl ⟨by omega, by rw [take_next hi, jnD_snoc D _ _ hne]⟩⟩)
  · have hg : (ws.drop (a + n)).getD (i - (a + n)) 0 = ws.getD i 0 := by
      rw [List.getD_eq_getElem?_getD, List.getD_eq_getElem?_getD, List.getElem?_drop, show a + n + (i - (a + n)) = i by omega]
    have hl : i - (a + n) < (ws.drop (a + n)).length := by rw [List.length_drop]; omega
    have hs : i + 1 - (a + n) = i - (a + n) + 1 := by omega
    rcases Nat.eq_zero_or_pos (i - (a + n)) with h2 | hp
    · refine .inr (.inl ⟨jnD D (ws.take a) ++ [58], by rw [h2, List.take_zero]; simp [jnD, Lib.join_nil], .inr ⟨by omega, by omega, ?_⟩⟩)
      rw [hs, take_next hl, hg, h2, List.take_zero, List.nil_append, jnD_one]
      simp [jnD, Lib.join_nil]
    · have hne : (ws.drop (a + n)).take (i - (a + n)) ≠ [] := by
        intro e
        have := congrArg List.length e
        rw [List.length_take, List.length_nil] at this
        omega
      obtain ⟨p, c, e, hc⟩ := ((jnD_ends D hD _ hne).pre [58, 58]).pre (jnD D (ws.take a))
      refine .inr (.inr ⟨p, c, by simpa using e, hc, .inr ⟨by omega, by omega, ?_⟩⟩)
      rw [hs, take_next hl, hg, jnD_snoc D _ _ hne]
      simp
theorem PrS.done {D : Nat → List UInt8} {ws : List Nat} {a n : Nat} {s : List UInt8} (h : PrS D ws a n 8 s) (hw : ws.length = 8) : (8 ≤ a → s = jnD D ws) ∧ (a < 8 → s = jnD D (ws.take a) ++ (58 :: 58 :: jnD D (ws.drop (a + n)))) := by
  rcases h with ⟨h1, rfl⟩ | ⟨h0, h1, rfl⟩
  · exact ⟨fun _ => by rw [List.take_of_length_le (by omega)], fun h => absurd h (by omega)⟩
  · refine ⟨fun h => absurd h (by omega), fun _ => ?_⟩
    rw [List.take_of_length_le (l := ws.drop (a + n)) (by rw [List.length_drop]; omega)]
theorem PrS.start (D : Nat → List UInt8) (ws : List Nat) (a n : Nat) : PrS D ws a n 0 [] := .inl ⟨Nat.zero_le _, by simp [jnD, Lib.join_nil]⟩
end Go.Proofs.YtmpikhpnkfnnoaaGreatDoor

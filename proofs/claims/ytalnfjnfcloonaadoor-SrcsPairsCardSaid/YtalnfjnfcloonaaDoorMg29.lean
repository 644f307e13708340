/-
  Texts joined: OctUn, PureNum, Numr.
-/
import Derived.Test.YtalnfjnfcloonaaDoorMg08
import Derived.Test.YtalnfjnfcloonaaDoorMg05
import Derived.LoopTactic
import Derived.WalkLawsBesides
import Derived.Deep.Cut
import Derived.Deep.RegionHeld3
/-
  The contracts of octet.Unhex, and of the document's answers Sign, Hex, digit, Unhex.
-/
namespace Go.Proofs.YtalnfjnfcloonaaDoor
open Go.RowKit
set_option linter.unusedVariables false

end Go.Proofs.YtalnfjnfcloonaaDoor

/-
  Numbers in digits: plain mathematics.
-/
namespace Go.Proofs.YtalnfjnfcloonaaDoor
open Go.RowKit
set_option linter.unusedVariables false

/-- The digits of n to the base b, the greatest first. -/
def digs (b : Nat) : Nat → Nat → List UInt8
  | 0, _ => []
  | f + 1, n => if n < b then [digL n] else digs b f (n / b) ++ [digL (n % b)]
def numD (b n : Nat) : List UInt8 := digs b 5 n
theorem digs_more (b : Nat) (hb : 2 ≤ b) : ∀ (f n : Nat), n < b ^ (f + 1) → digs b (f + 2) n = digs b (f + 1) n
  | 0, n, h => by
    have h' : n < b := by simpa using h
    simp [digs, h']
  | f + 1, n, h => by
    by_cases hn : n < b
    · simp [digs, hn]
    · have ih := digs_more b hb f (n / b) (by rw [Nat.div_lt_iff_lt_mul (by omega), ← Nat.pow_succ]; exact h)
      rw [show digs b (f + 1 + 2) n = digs b (f + 2) (n / b) ++ [digL (n % b)] by rw [digs, if_neg hn], show digs b (f + 1 + 1) n = digs b (f + 1) (n / b) ++ [digL (n % b)] by rw [digs, if_neg hn], ih]
theorem numD_small (b n : Nat) (h : n < b) : numD b n = [digL n] := by simp [numD, digs, h]
theorem numD_step (b n : Nat) (hb : 2 ≤ b) (h : b ≤ n) (hn : n < b ^ 5) : numD b n = numD b (n / b) ++ [digL (n % b)] := by
  have h1 : n / b < b ^ 4 := by rw [Nat.div_lt_iff_lt_mul (by omega), ← Nat.pow_succ]; exact hn
  unfold numD
  rw [digs_more b hb 3 (n / b) h1, show digs b 5 n = digs b 4 (n / b) ++ [digL (n % b)] by rw [digs, if_neg (by omega)]]
theorem numD_length (b n : Nat) : (numD b n).length ≤ 5 := by
  have : ∀ f n, (digs b f n).length ≤ f := by
    intro f
    induction f with
    | zero => intro n; simp [digs]
    | succ f ih =>
      intro n
      unfold digs
      split
      · simp
      · have := ih (n / b); simp; omega
  exact this 5 n
theorem set_row (m : Nat) (ds : List UInt8) (c : UInt8) : (List.replicate (m + 1) (0 : UInt8) ++ ds).set m c = List.replicate m 0 ++ c :: ds := by
  induction m with
  | zero => simp
  | succ m ih =>
    rw [List.replicate_succ, List.cons_append, List.set_cons_succ, ih, List.replicate_succ, List.cons_append]
theorem digit36 : ∀ x : Fin 16, (⟨#[48, 49, 50, 51, 52, 53, 54, 55, 56, 57, 97, 98, 99, 100, 101, 102, 103, 104, 105, 106, 107, 108, 109, 110, 111, 112, 113, 114, 115, 116, 117, 118, 119, 120, 121, 122]⟩ : ByteArray)[x.val]'(Nat.lt_trans x.isLt (by decide)) = digL x.val := by decide
theorem digit36' (x : Int) (n : Nat) (hx : x = n) (hn : n < 16) (h : x.toNat < (⟨#[48, 49, 50, 51, 52, 53, 54, 55, 56, 57, 97, 98, 99, 100, 101, 102, 103, 104, 105, 106, 107, 108, 109, 110, 111, 112, 113, 114, 115, 116, 117, 118, 119, 120, 121, 122]⟩ : ByteArray).size) :
    (⟨#[48, 49, 50, 51, 52, 53, 54, 55, 56, 57, 97, 98, 99, 100, 101, 102, 103, 104, 105, 106, 107, 108, 109, 110, 111, 112, 113, 114, 115, 116, 117, 118, 119, 120, 121, 122]⟩ : ByteArray)[x.toNat]'h = digL n := by
  subst hx
  exact digit36 ⟨n, hn⟩
end Go.Proofs.YtalnfjnfcloonaaDoor

/-
  The document's own digits of a number.
-/
namespace Go.Proofs.YtalnfjnfcloonaaDoor
open Go.RowKit
set_option linter.unusedVariables false

/-- What the digits that are there already, and the number that is left, come to. -/
def NumSt (b n m : Nat) (s : List UInt8) : Prop := m ≤ n ∧ s.length ≤ 100 ∧ ((s = [] ∧ m = n) ∨ (s ≠ [] ∧ numD b n = (if m = 0 then [] else numD b m) ++ s))
theorem NumSt.step {b n m : Nat} {s : List UInt8} (h : NumSt b n m s) (hb : 2 ≤ b) (hn : n < b ^ 5) (hs : s = [] ∨ 0 < m) (hl : s.length ≤ 99) : NumSt b n (m / b) (digL (m % b) :: s) := by
  obtain ⟨h1, _, h2⟩ := h
  have hdm : m / b ≤ m := Nat.div_le_self _ _
  refine ⟨by omega, by simp; omega, .inr ⟨by simp, ?_⟩⟩
  have hm : numD b n = numD b m ++ s := by
    rcases h2 with ⟨rfl, rfl⟩ | ⟨h3, h4⟩
    · simp
    · have : m ≠ 0 := by
        rcases hs with hs | hs
        · exact absurd hs h3
        · omega
      rw [if_neg this] at h4
      exact h4
  by_cases hlt : m < b
  · rw [hm, numD_small b m hlt, Nat.div_eq_of_lt hlt, if_pos rfl, Nat.mod_eq_of_lt hlt]; rfl
  · have h0 : m / b ≠ 0 := by
      have := Nat.div_pos (show b ≤ m by omega) (show 0 < b by omega)
      omega
    rw [hm, numD_step b m hb (by omega) (by omega), if_neg h0]
    simp
theorem NumSt.done {b n : Nat} {s : List UInt8} (h : NumSt b n 0 s) (hs : s ≠ []) : numD b n = s := by
  rcases h.2.2 with ⟨h1, _⟩ | ⟨_, h2⟩
  · exact absurd h1 hs
  · simpa using h2
theorem NumSt.len {b n m : Nat} {s : List UInt8} (h : NumSt b n m s) : s.length ≤ 5 := by
  have hl := numD_length b n
  rcases h.2.2 with ⟨rfl, _⟩ | ⟨_, h2⟩
  · simp
  · rw [h2, List.length_append] at hl; omega

end Go.Proofs.YtalnfjnfcloonaaDoor


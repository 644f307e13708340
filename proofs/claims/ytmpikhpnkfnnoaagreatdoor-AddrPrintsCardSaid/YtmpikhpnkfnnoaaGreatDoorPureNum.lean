/-
  Numbers in digits: plain mathematics.
-/
import Derived.Test.YtmpikhpnkfnnoaaGreatDoorPureHex
namespace Go.Proofs.YtmpikhpnkfnnoaaGreatDoor
open Go.RowKit
set_option linter.unusedVariables false

/-- The digits of n to the base b, the greatest first. -/
def digs (b : Nat) : Nat → Nat → List UInt8
  | 0, _ => []
  | f + 1, n => if n < b then [digL n] else digs b f (n / b) ++ [digL (n % b)]
def numD (b n : Nat) : List UInt8 := digs b 5 n
theorem digs_more (b : Nat) (hb : 2 ≤ b) : ∀ (f n : Nat), n < b ^ (f + 1) → digs b (f + 2) n = digs b (f + 1) n
  | 0, n, h => by
    have h' : n < b := by simpa using h
    simp [digs, h']
  | f + 1, n, h => by
    by_cases hn : n < b
    · simp [digs, hn]
    · have ih := digs_more b hb f (n / b) (by rw [Nat.div_lt_iff_lt_mul (by omega), ← Nat.pow_succ]; exact h)
      rw [show digs b (f + 1 + 2) n = digs b (f + 2) (n / b) ++ [digL (n % b)] by rw [digs, if_neg hn], show digs b (f + 1 + 1) n = digs b (f + 1) (n / b) ++ [digL (n % b)] by rw [digs, if_neg hn], ih]
theorem numD_small (b n : Nat) (h : n < b) : numD b n = [digL n] := by simp [numD, digs, h]
theorem numD_step (b n : Nat) (hb : 2 ≤ b) (h : b ≤ n) (hn : n < b ^ 5) : numD b n = numD b (n / b) ++ [digL (n % b)] := by
  have h1 : n / b < b ^ 4 := by rw [Nat.div_lt_iff_lt_mul (by omega), ← Nat.pow_succ]; exact hn
  unfold numD
  rw [digs_more b hb 3 (n / b) h1, show digs b 5 n = digs b 4 (n / b) ++ [digL (n % b)] by rw [digs, if_neg (by omega)]]
theorem numD_length (b n : Nat) : (numD b n).length ≤ 5 := by
  have : ∀ f n, (digs b f n).length ≤ f := by
    intro f
    induction f with
    | zero => intro n; simp [digs]
    | succ f ih =>
      intro n
      unfold digs
      split
      · simp
      · have := ih (n / b); simp; omega
  exact this 5 n
theorem set_row (m : Nat) (ds : List UInt8) (c : UInt8) : (List.replicate (m + 1) (0 : UInt8) ++ ds).set m c = List.replicate m 0 ++ c :: ds := by
  induction m with
  | zero => simp
  | succ m ih =>
    rw [List.replicate_succ, List.cons_append, List.set_cons_succ, ih, List.replicate_succ, List.cons_append]
theorem digit36 : ∀ x : Fin 16, (⟨#[48, 49, 50, 51, 52, 53, 54, 55, 56, 57, 97, 98, 99, 100, 101, 102, 103, 104, 105, 106, 107, 108, 109, 110, 111, 112, 113, 114, 115, 116, 117, 118, 119, 120, 121, 122]⟩ : ByteArray)[x.val]'(Nat.lt_trans x.isLt (by decide)) = digL x.val := by decide
theorem digit36' (x : Int) (n : Nat) (hx : x = n) (hn : n < 16) (h : x.toNat < (⟨#[48, 49, 50, 51, 52, 53, 54, 55, 56, 57, 97, 98, 99, 100, 101, 102, 103, 104, 105, 106, 107, 108, 109, 110, 111, 112, 113, 114, 115, 116, 117, 118, 119, 120, 121, 122]⟩ : ByteArray).size) :
    (⟨#[48, 49, 50, 51, 52, 53, 54, 55, 56, 57, 97, 98, 99, 100, 101, 102, 103, 104, 105, 106, 107, 108, 109, 110, 111, 112, 113, 114, 115, 116, 117, 118, 119, 120, 121, 122]⟩ : ByteArray)[x.toNat]'h = digL n := by
  subst hx
  exact digit36 ⟨n, hn⟩
end Go.Proofs.YtmpikhpnkfnnoaaGreatDoor

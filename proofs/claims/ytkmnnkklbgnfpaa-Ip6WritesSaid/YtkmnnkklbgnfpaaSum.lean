/-
  The contracts of package sum: Fold, Sum, Check, Good, Update.
-/
import Derived.Test.YtkmnnkklbgnfpaaOct
import Derived.Test.YtkmnnkklbgnfpaaOctBits
import Derived.Test.YtkmnnkklbgnfpaaPureSum
import Derived.Test.YtkmnnkklbgnfpaaPureHex
import Derived.Lib.SmallJoins
namespace Go.Proofs.Ytkmnnkklbgnfpaa
open Go.RowKit
set_option linter.unusedVariables false

theorem bitsN_word (n k : Nat) (hk : k ≤ 3) : bitsN n (16 * (k : Int)) 16 = n / 2 ^ (16 * k) % 65536 := by
  unfold bitsN
  have e1 : clampN (16 * (k : Int)) 64 = 16 * k := by unfold clampN; split <;> omega
  rw [e1, show clampN 16 64 = 16 from rfl]

/-- Texts as the cells of a slice of texts. -/
def BS (L : List (List UInt8)) : List Value := L.map (fun l => Value.string (Str l))
theorem BS_length (L : List (List UInt8)) : (BS L).length = L.length := by simp [BS]
theorem BS_get (L : List (List UInt8)) (j : Nat) (h : j < L.length) : (BS L)[j]? = some (.string (Str L[j])) := by
  simp [BS, List.getElem?_eq_getElem h]
theorem BS_append (L M : List (List UInt8)) : BS (L ++ M) = BS L ++ BS M := by simp [BS]
theorem flat_snoc (L : List (List UInt8)) (j : Nat) (h : j < L.length) : (L.take (j + 1)).flatten = (L.take j).flatten ++ L[j] := by
  rw [List.take_succ_eq_append_getElem h, List.flatten_append]; simp
theorem flat_len (L : List (List UInt8)) (j : Nat) : (L.take j).flatten.length ≤ L.flatten.length := by
  conv => rhs; rw [← List.take_append_drop j L, List.flatten_append, List.length_append]
  omega
theorem Str_get (l : List UInt8) (k : Nat) (h : k < (Str l).size) : (Str l)[k] = l[k]'(by rw [Str_size] at h; exact h) := rfl

theorem add_shl8 (t b : Nat) (ht : t ≤ 1152921504606846976) (hb : b < 256) : IntKind.u64.wrap ((t : Int) + IntKind.u64.wrap (IntKind.u64.wrap (b : Int) * 256)) = ((t + b * 2 ^ 8 : Nat) : Int) := by
  simp only [IntKind.wrap_u64]; omega
theorem add_shl0 (t b : Nat) (ht : t ≤ 1152921504606846976) (hb : b < 256) : IntKind.u64.wrap ((t : Int) + IntKind.u64.wrap (IntKind.u64.wrap (b : Int))) = ((t + b * 2 ^ 0 : Nat) : Int) := by
  simp only [IntKind.wrap_u64]; omega

/-- What Update tells. -/
def updN (c o n : Nat) : Nat := 65535 - foldN ((65535 - c) + (65535 - o) + n)
end Go.Proofs.Ytkmnnkklbgnfpaa

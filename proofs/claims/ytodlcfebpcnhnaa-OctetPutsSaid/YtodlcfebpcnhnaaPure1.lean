/-
  Plain lemmas on numbers and their bytes; nothing of the program.
-/
import Derived.Test.YtodlcfebpcnhnaaBase
namespace Go.Proofs.Ytodlcfebpcnhnaa
open Go.RowKit

theorem fold_putL (n : Nat) : ∀ (w acc : Nat), (putL n w).foldl (fun n b => (n * 256 + b.toNat) % 18446744073709551616) acc % 18446744073709551616 = (acc * 256 ^ w + n % 256 ^ w) % 18446744073709551616
  | 0, acc => by simp [putL, Nat.mod_one]
  | w + 1, acc => by
    have e1 : n % 256 ^ (w + 1) = n % 256 ^ w + 256 ^ w * (n / 256 ^ w % 256) := by rw [Nat.pow_succ, Nat.mod_mul]
    rw [putL, List.foldl_cons, fold_putL n w, UInt8.toNat_ofNat', e1, show (2 : Nat) ^ 8 = 256 from rfl, show (256 : Nat) ^ (w + 1) = 256 ^ w * 256 from Nat.pow_succ _ _]
    generalize 256 ^ w = p
    generalize n % p = x
    generalize n / p % 256 = b
    have e2 : (acc * 256 + b) % 18446744073709551616 * p % 18446744073709551616 = (acc * 256 + b) * p % 18446744073709551616 := Nat.mod_mul_mod _ _ _
    rw [Nat.add_mod, e2, ← Nat.add_mod]
    congr 1
    rw [Nat.add_mul, Nat.mul_comm p b, Nat.mul_assoc, Nat.mul_comm 256 p]
    omega
theorem num_putL (n w : Nat) (h : n % 256 ^ w < 18446744073709551616) : num (putL n w) = n % 256 ^ w := by
  have e := fold_putL n w 0
  have l := num_lt (putL n w)
  unfold num at *
  rw [Nat.mod_eq_of_lt l] at e
  rw [e, Nat.zero_mul, Nat.zero_add, Nat.mod_eq_of_lt h]
end Go.Proofs.Ytodlcfebpcnhnaa

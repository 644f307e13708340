/-
  Plain lemmas on numbers and their bytes; nothing of the program.
-/
import Derived.Test.YtkmnnkklbgnfpaaBase
namespace Go.Proofs.Ytkmnnkklbgnfpaa
open Go.RowKit
set_option linter.unusedVariables false

theorem fold_putL (n : Nat) : ∀ (w acc : Nat), (putL n w).foldl (fun n b => (n * 256 + b.toNat) % 18446744073709551616) acc % 18446744073709551616 = (acc * 256 ^ w + n % 256 ^ w) % 18446744073709551616
  | 0, acc => by simp [putL, Nat.mod_one]
  | w + 1, acc => by
    have e1 : n % 256 ^ (w + 1) = n % 256 ^ w + 256 ^ w * (n / 256 ^ w % 256) := by rw [Nat.pow_succ, Nat.mod_mul]
    rw [putL, List.foldl_cons, fold_putL n w, UInt8.toNat_ofNat', e1, show (2 : Nat) ^ 8 = 256 from rfl, show (256 : Nat) ^ (w + 1) = 256 ^ w * 256 from Nat.pow_succ _ _]
    generalize 256 ^ w = p
    generalize n % p = x
    generalize n / p % 256 = b
    have e2 : (acc * 256 + b) % 18446744073709551616 * p % 18446744073709551616 = (acc * 256 + b) * p % 18446744073709551616 := Nat.mod_mul_mod _ _ _
    rw [Nat.add_mod, e2, ← Nat.add_mod]
    congr 1
    rw [Nat.add_mul, Nat.mul_comm p b, Nat.mul_assoc, Nat.mul_comm 256 p]
    omega
theorem num_putL (n w : Nat) (h : n % 256 ^ w < 18446744073709551616) : num (putL n w) = n % 256 ^ w := by
  have e := fold_putL n w 0
  have l := num_lt (putL n w)
  unfold num at *
  rw [Nat.mod_eq_of_lt l] at e
  rw [e, Nat.zero_mul, Nat.zero_add, Nat.mod_eq_of_lt h]

def M64 : Nat := 18446744073709551616
theorem pow64 : (2 : Nat) ^ 64 = M64 := rfl

theorem wrap_ones (W : Nat) (h : W ≤ 64) : IntKind.u64.wrap (IntKind.u64.wrap ((2 : Int) ^ W) - 1) = ((2 ^ W - 1 : Nat) : Int) := by
  have e : (2 : Int) ^ W = ((2 ^ W : Nat) : Int) := by simp
  have hp : 0 < 2 ^ W := Nat.pow_pos (by omega)
  have hq : 2 ^ W ≤ 2 ^ 64 := Nat.pow_le_pow_right (by omega) h
  rw [e]
  generalize 2 ^ W = p at *
  simp only [IntKind.wrap_u64]
  omega

theorem toNat_ofInt64 (a : Nat) (ha : a < 18446744073709551616) : (BitVec.ofInt 64 (a : Int)).toNat = a := by
  rw [BitVec.ofInt_natCast, BitVec.toNat_ofNat]; exact Nat.mod_eq_of_lt (by omega)
theorem bits_and_u64_nat (a b : Nat) (ha : a < 18446744073709551616) (hb : b < 18446744073709551616) :
    bits .and .u64 (a : Int) (b : Int) = ((a &&& b : Nat) : Int) := by
  have hx : a &&& b ≤ a := Nat.and_le_left
  show IntKind.u64.wrap ((BitVec.ofInt 64 (a : Int) &&& BitVec.ofInt 64 (b : Int)).toNat : Int) = _
  rw [BitVec.toNat_and, toNat_ofInt64 a ha, toNat_ofInt64 b hb, IntKind.wrap_u64]
  omega
/-- The bits of a that b lacks, in 64 bits. -/
def andNotN (a b : Nat) : Nat := a &&& (18446744073709551615 - b)
theorem bits_andNot_u64_nat (a b : Nat) (ha : a < 18446744073709551616) (hb : b < 18446744073709551616) :
    bits .andNot .u64 (a : Int) (b : Int) = ((andNotN a b : Nat) : Int) := by
  have hx : a &&& (18446744073709551615 - b) ≤ a := Nat.and_le_left
  show IntKind.u64.wrap ((BitVec.ofInt 64 (a : Int) &&& ~~~ BitVec.ofInt 64 (b : Int)).toNat : Int) = _
  rw [BitVec.toNat_and, BitVec.toNat_not, toNat_ofInt64 a ha, toNat_ofInt64 b hb, IntKind.wrap_u64]
  unfold andNotN
  rw [show 2 ^ 64 - 1 - b = 18446744073709551615 - b from rfl]
  omega
theorem testBit_andNotN (a b i : Nat) (hb : b < 18446744073709551616) (hi : i < 64) : (andNotN a b).testBit i = (a.testBit i && !b.testBit i) := by
  unfold andNotN
  rw [Nat.testBit_and, show 18446744073709551615 - b = 2 ^ 64 - (b + 1) from by omega, Nat.testBit_two_pow_sub_succ (by omega)]
  simp [hi]

/-- The mask of w bits from f on. -/
def maskN (f w : Nat) : Nat := (2 ^ w - 1) * 2 ^ f % 18446744073709551616
theorem testBit_maskN (f w i : Nat) (hi : i < 64) : (maskN f w).testBit i = (decide (f ≤ i) && decide (i < f + w)) := by
  unfold maskN
  rw [show 18446744073709551616 = 2 ^ 64 from rfl, Nat.testBit_mod_two_pow, Nat.testBit_mul_two_pow, Nat.testBit_two_pow_sub_one]
  by_cases h : f ≤ i
  · simp [hi, h]; omega
  · simp [h]
/-- n with the bits of v in place of w of its own from f on. -/
def setN (n f w v : Nat) : Nat := andNotN n (maskN f w) ||| ((v * 2 ^ f % 18446744073709551616) &&& maskN f w)
theorem maskN_lt (f w : Nat) : maskN f w < 18446744073709551616 := Nat.mod_lt _ (by omega)
theorem setN_lt (n f w v : Nat) (hn : n < 18446744073709551616) : setN n f w v < 18446744073709551616 := by
  have h1 : andNotN n (maskN f w) < 2 ^ 64 := Nat.lt_of_le_of_lt Nat.and_le_left (by omega)
  have h2 : (v * 2 ^ f % 18446744073709551616) &&& maskN f w < 2 ^ 64 := Nat.lt_of_le_of_lt Nat.and_le_right (by have := maskN_lt f w; omega)
  exact Nat.or_lt_two_pow h1 h2
theorem testBit_setN (n f w v i : Nat) (hi : i < 64) : (setN n f w v).testBit i = if f ≤ i ∧ i - f < w then v.testBit (i - f) else n.testBit i := by
  unfold setN
  rw [Nat.testBit_or, testBit_andNotN _ _ _ (maskN_lt f w) hi, Nat.testBit_and, testBit_maskN _ _ _ hi, show 18446744073709551616 = 2 ^ 64 from rfl, Nat.testBit_mod_two_pow, Nat.testBit_mul_two_pow]
  by_cases h : f ≤ i
  · by_cases h2 : i < f + w
    · rw [if_pos ⟨h, by omega⟩]; simp [h, h2, hi]
    · rw [if_neg (by omega)]; simp [h, h2]
  · rw [if_neg (by omega)]; simp [h]
theorem setN_bit (n f w v k : Nat) (hk : k < 64) : setN n f w v / 2 ^ k % 2 = if f ≤ k ∧ k - f < w then v / 2 ^ (k - f) % 2 else n / 2 ^ k % 2 := by
  rw [← Nat.toNat_testBit, testBit_setN _ _ _ _ _ hk]
  split <;> rw [Nat.toNat_testBit]
theorem mod_pow_step (x k : Nat) : x % 2 ^ (k + 1) = x % 2 ^ k + x / 2 ^ k % 2 * 2 ^ k := by
  rw [Nat.pow_succ, Nat.mod_mul, Nat.mul_comm (2 ^ k)]
end Go.Proofs.Ytkmnnkklbgnfpaa

/-
  Texts joined: Pure1, OctBits, PureSum.
-/
import Derived.Test.YtchbkamjmkfikaaMg00
import Derived.Test.YtchbkamjmkfikaaMg05
import Derived.Test.YtchbkamjmkfikaaMg07
/-
  Plain lemmas on numbers and their bytes; nothing of the program.
-/
namespace Go.Proofs.Ytchbkamjmkfikaa
open Go.RowKit
set_option linter.unusedVariables false

theorem fold_putL (n : Nat) : ∀ (w acc : Nat), (putL n w).foldl (fun n b => (n * 256 + b.toNat) % 18446744073709551616) acc % 18446744073709551616 = (acc * 256 ^ w + n % 256 ^ w) % 18446744073709551616
  | 0, acc => by simp [putL, Nat.mod_one]
  | w + 1, acc => by
    have e1 : n % 256 ^ (w + 1) = n % 256 ^ w + 256 ^ w * (n / 256 ^ w % 256) := by rw [Nat.pow_succ, Nat.mod_mul]
    rw [putL, List.foldl_cons, fold_putL n w, UInt8.toNat_ofNat', e1, show (2 : Nat) ^ 8 = 256 from rfl, show (256 : Nat) ^ (w + 1) = 256 ^ w * 256 from Nat.pow_succ _ _]
    generalize 256 ^ w = p
    generalize n % p = x
    generalize n / p % 256 = b
    have e2 : (acc * 256 + b) % 18446744073709551616 * p % 18446744073709551616 = (acc * 256 + b) * p % 18446744073709551616 := Nat.mod_mul_mod _ _ _
    rw [Nat.add_mod, e2, ← Nat.add_mod]
    congr 1
    rw [Nat.add_mul, Nat.mul_comm p b, Nat.mul_assoc, Nat.mul_comm 256 p]
    omega
theorem num_putL (n w : Nat) (h : n % 256 ^ w < 18446744073709551616) : num (putL n w) = n % 256 ^ w := by
  have e := fold_putL n w 0
  have l := num_lt (putL n w)
  unfold num at *
  rw [Nat.mod_eq_of_lt l] at e
  rw [e, Nat.zero_mul, Nat.zero_add, Nat.mod_eq_of_lt h]

def M64 : Nat := 18446744073709551616
theorem pow64 : (2 : Nat) ^ 64 = M64 := rfl

theorem wrap_ones (W : Nat) (h : W ≤ 64) : IntKind.u64.wrap (IntKind.u64.wrap ((2 : Int) ^ W) - 1) = ((2 ^ W - 1 : Nat) : Int) := by
  have e : (2 : Int) ^ W = ((2 ^ W : Nat) : Int) := by simp
  have hp : 0 < 2 ^ W := Nat.pow_pos (by omega)
  have hq : 2 ^ W ≤ 2 ^ 64 := Nat.pow_le_pow_right (by omega) h
  rw [e]
  generalize 2 ^ W = p at *
  simp only [IntKind.wrap_u64]
  omega

theorem toNat_ofInt64 (a : Nat) (ha : a < 18446744073709551616) : (BitVec.ofInt 64 (a : Int)).toNat = a := by
  rw [BitVec.ofInt_natCast, BitVec.toNat_ofNat]; exact Nat.mod_eq_of_lt (by omega)
theorem bits_and_u64_nat (a b : Nat) (ha : a < 18446744073709551616) (hb : b < 18446744073709551616) :
    bits .and .u64 (a : Int) (b : Int) = ((a &&& b : Nat) : Int) := by
  have hx : a &&& b ≤ a := Nat.and_le_left
  show IntKind.u64.wrap ((BitVec.ofInt 64 (a : Int) &&& BitVec.ofInt 64 (b : Int)).toNat : Int) = _
  rw [BitVec.toNat_and, toNat_ofInt64 a ha, toNat_ofInt64 b hb, IntKind.wrap_u64]
  omega
/-- The bits of a that b lacks, in 64 bits. -/
def andNotN (a b : Nat) : Nat := a &&& (18446744073709551615 - b)
theorem bits_andNot_u64_nat (a b : Nat) (ha : a < 18446744073709551616) (hb : b < 18446744073709551616) :
    bits .andNot .u64 (a : Int) (b : Int) = ((andNotN a b : Nat) : Int) := by
  have hx : a &&& (18446744073709551615 - b) ≤ a := Nat.and_le_left
  show IntKind.u64.wrap ((BitVec.ofInt 64 (a : Int) &&& ~~~ BitVec.ofInt 64 (b : Int)).toNat : Int) = _
  rw [BitVec.toNat_and, BitVec.toNat_not, toNat_ofInt64 a ha, toNat_ofInt64 b hb, IntKind.wrap_u64]
  unfold andNotN
  rw [show 2 ^ 64 - 1 - b = 18446744073709551615 - b from rfl]
  omega
theorem testBit_andNotN (a b i : Nat) (hb : b < 18446744073709551616) (hi : i < 64) : (andNotN a b).testBit i = (a.testBit i && !b.testBit i) := by
  unfold andNotN
  rw [Nat.testBit_and, show 18446744073709551615 - b = 2 ^ 64 - (b + 1) from by omega, Nat.testBit_two_pow_sub_succ (by omega)]
  simp [hi]

/-- The mask of w bits from f on. -/
def maskN (f w : Nat) : Nat := (2 ^ w - 1) * 2 ^ f % 18446744073709551616
theorem testBit_maskN (f w i : Nat) (hi : i < 64) : (maskN f w).testBit i = (decide (f ≤ i) && decide (i < f + w)) := by
  unfold maskN
  rw [show 18446744073709551616 = 2 ^ 64 from rfl, Nat.testBit_mod_two_pow, Nat.testBit_mul_two_pow, Nat.testBit_two_pow_sub_one]
  by_cases h : f ≤ i
  · simp [hi, h]; omega
  · simp [h]
/-- n with the bits of v in place of w of its own from f on. -/
def setN (n f w v : Nat) : Nat := andNotN n (maskN f w) ||| ((v * 2 ^ f % 18446744073709551616) &&& maskN f w)
theorem maskN_lt (f w : Nat) : maskN f w < 18446744073709551616 := Nat.mod_lt _ (by omega)
theorem setN_lt (n f w v : Nat) (hn : n < 18446744073709551616) : setN n f w v < 18446744073709551616 := by
  have h1 : andNotN n (maskN f w) < 2 ^ 64 := Nat.lt_of_le_of_lt Nat.and_le_left (by omega)
  have h2 : (v * 2 ^ f % 18446744073709551616) &&& maskN f w < 2 ^ 64 := Nat.lt_of_le_of_lt Nat.and_le_right (by have := maskN_lt f w; omega)
  exact Nat.or_lt_two_pow h1 h2
theorem testBit_setN (n f w v i : Nat) (hi : i < 64) : (setN n f w v).testBit i = if f ≤ i ∧ i - f < w then v.testBit (i - f) else n.testBit i := by
  unfold setN
  rw [Nat.testBit_or, testBit_andNotN _ _ _ (maskN_lt f w) hi, Nat.testBit_and, testBit_maskN _ _ _ hi, show 18446744073709551616 = 2 ^ 64 from rfl, Nat.testBit_mod_two_pow, Nat.testBit_mul_two_pow]
  by_cases h : f ≤ i
  · by_cases h2 : i < f + w
    · rw [if_pos ⟨h, by omega⟩]; simp [h, h2, hi]
    · rw [if_neg (by omega)]; simp [h, h2]
  · rw [if_neg (by omega)]; simp [h]
theorem setN_bit (n f w v k : Nat) (hk : k < 64) : setN n f w v / 2 ^ k % 2 = if f ≤ k ∧ k - f < w then v / 2 ^ (k - f) % 2 else n / 2 ^ k % 2 := by
  rw [← Nat.toNat_testBit, testBit_setN _ _ _ _ _ hk]
  split <;> rw [Nat.toNat_testBit]
theorem mod_pow_step (x k : Nat) : x % 2 ^ (k + 1) = x % 2 ^ k + x / 2 ^ k % 2 * 2 ^ k := by
  rw [Nat.pow_succ, Nat.mod_mul, Nat.mul_comm (2 ^ k)]
end Go.Proofs.Ytchbkamjmkfikaa

/-
  The contracts of octet.Bits and octet.Set, and of the document's answer Set.
-/
namespace Go.Proofs.Ytchbkamjmkfikaa
open Go.RowKit
set_option linter.unusedVariables false

theorem ones_any (wide : Int) (w : World) : Calls Try.prog 96 #[.int .i64 wide] w fun e w' => e = .returned (.int .u64 ((2 ^ clampN wide 64 - 1 : Nat) : Int)) ∧ w = w' := by
  have hc := clampN_le wide 64
  generalize hW : clampN wide 64 = W at hc ⊢
  have HW := Lib.hid hW; clear hW
  go_enter Try.func96, Try.ntmps96
  go_wp2_with fail
  refine (clamp_any wide 64 _).mono ?_
  rintro e w1 ⟨rfl, rfl⟩
  rw [HW.out]
  go_wp2
  go_ret
  exact ⟨ret_int (wrap_ones W hc), rfl⟩

theorem shr_and (n F W : Nat) (hn : n ≤ 18446744073709551615) (hF : F ≤ 64) (hW : W ≤ 64) : bits BinOp.and IntKind.u64 ((n : Int) / 2 ^ F) ((2 ^ W - 1 : Nat) : Int) = ((n / 2 ^ F % 2 ^ W : Nat) : Int) := by
  have hq : 2 ^ W ≤ 2 ^ 64 := Nat.pow_le_pow_right (by omega) hW
  have hp : 0 < 2 ^ W := Nat.pow_pos (by omega)
  have hd : n / 2 ^ F ≤ n := Nat.div_le_self _ _
  rw [show (2 : Int) ^ F = ((2 ^ F : Nat) : Int) by simp, ← Int.natCast_ediv, bits_and_u64_nat _ _ (by omega) (by omega), Nat.and_two_pow_sub_one_eq_mod]

set_option maxHeartbeats 400000 in
theorem bits_any (n : Nat) (hn : n ≤ 18446744073709551615) (from_ wide : Int) (w : World) : Calls Try.prog 86 #[.int .u64 n, .int .i64 from_, .int .i64 wide] w fun e w' => e = .returned (.int .u64 (bitsN n from_ wide)) ∧ ∃ k, w' = w.drewN k := by
  unfold bitsN
  have hF := clampN_le from_ 64
  go_enter Try.func86, Try.ntmps86
  go_wp2_with fail
  go_quiet (first | ((go_at_call 78; exact Calls.quiet_of_same ((clamp_any _ 64 _).mono fun _ _ h => ⟨h.1, h.2.symm⟩))) | ((go_at_call 96; exact Calls.quiet_of_same ((ones_any _ _).mono fun _ _ h => ⟨h.1, h.2.symm⟩))))
  go_wp2
  go_ret
  have HA := shr_and n (clampN from_ 64) (clampN wide 64) hn hF (clampN_le _ _)
  refine ⟨ret_int HA, ?_⟩
  exact ⟨_, rfl⟩

theorem set_form (n F W v : Nat) (hn : n ≤ 18446744073709551615) (hF : F ≤ 64) (hW : W ≤ 64) (hv : v ≤ 18446744073709551615) :
    bits BinOp.or IntKind.u64 (bits BinOp.andNot IntKind.u64 (n : Int) (IntKind.u64.wrap (((2 ^ W - 1 : Nat) : Int) * 2 ^ F))) (bits BinOp.and IntKind.u64 (IntKind.u64.wrap ((v : Int) * 2 ^ F)) (IntKind.u64.wrap (((2 ^ W - 1 : Nat) : Int) * 2 ^ F))) = ((setN n F W v : Nat) : Int) := by
  have e : ∀ x : Nat, IntKind.u64.wrap ((x : Int) * 2 ^ F) = ((x * 2 ^ F % 18446744073709551616 : Nat) : Int) := by
    intro x
    rw [show (2 : Int) ^ F = ((2 ^ F : Nat) : Int) by simp, ← Int.natCast_mul, IntKind.wrap_u64]; rfl
  have hl : ∀ x : Nat, x % 18446744073709551616 < 18446744073709551616 := fun x => Nat.mod_lt _ (by omega)
  rw [e, e, bits_andNot_u64_nat _ _ (by omega) (hl _), bits_and_u64_nat _ _ (hl _) (hl _), bits_or_u64_nat]
  · rfl
  · exact Nat.lt_of_le_of_lt Nat.and_le_left (by omega)
  · exact Nat.lt_of_le_of_lt Nat.and_le_left (hl _)

set_option maxHeartbeats 400000 in
theorem set_any (n : Nat) (hn : n ≤ 18446744073709551615) (from_ wide : Int) (v : Nat) (hv : v ≤ 18446744073709551615) (w : World) : Calls Try.prog 76 #[.int .u64 n, .int .i64 from_, .int .i64 wide, .int .u64 v] w fun e w' => e = .returned (.int .u64 (setN n (clampN from_ 64) (clampN wide 64) v)) ∧ w = w' := by
  have hF := clampN_le from_ 64
  have hW := clampN_le wide 64
  generalize hf : clampN from_ 64 = F at hF ⊢
  generalize hw : clampN wide 64 = W at hW ⊢
  have Hf := Lib.hid hf; clear hf
  have Hw := Lib.hid hw; clear hw
  go_enter Try.func76, Try.ntmps76
  go_wp2_with fail
  refine (clamp_any from_ 64 _).mono ?_
  rintro e w1 ⟨rfl, rfl⟩
  rw [Hf.out]
  go_wp2_with fail
  refine (ones_any wide _).mono ?_
  rintro e w1 ⟨rfl, rfl⟩
  rw [Hw.out]
  go_wp2
  go_ret
  refine ⟨ret_int ?_, rfl⟩
  rw [← set_form n F W v hn hF hW hv]
  try rfl

end Go.Proofs.Ytchbkamjmkfikaa

/-
  Plain lemmas on Internet checksums; nothing of the program.
-/
namespace Go.Proofs.Ytchbkamjmkfikaa
open Go.RowKit
set_option linter.unusedVariables false

/-- A number's words added up, carries and all. -/
def foldN (n : Nat) : Nat := if n = 0 then 0 else (n - 1) % 65535 + 1
theorem foldN_zero : foldN 0 = 0 := rfl
theorem foldN_pos {n : Nat} (h : 0 < n) : foldN n = (n - 1) % 65535 + 1 := by unfold foldN; rw [if_neg (by omega)]
theorem foldN_le (n : Nat) : foldN n ≤ 65535 := by unfold foldN; split <;> omega
theorem foldN_small {n : Nat} (h : n ≤ 65535) : foldN n = n := by unfold foldN; split <;> omega
theorem foldN_eq_zero {n : Nat} : foldN n = 0 ↔ n = 0 := by unfold foldN; split <;> omega
theorem foldN_more (y k : Nat) (h : 0 < y) : foldN (y + 65535 * k) = foldN y := by
  rw [foldN_pos (by omega), foldN_pos h]; omega
/-- The four words of a number. -/
def words4 (n : Nat) : Nat := n % 65536 + n / 65536 % 65536 + n / 4294967296 % 65536 + n / 281474976710656 % 65536
theorem words4_spec (n : Nat) (h : n < 18446744073709551616) : ∃ k, n = words4 n + 65535 * k ∧ (0 < n → 0 < words4 n) ∧ (65535 < n → 0 < k) := by
  unfold words4
  have e1 : n / 4294967296 = n / 65536 / 65536 := by omega
  have e2 : n / 281474976710656 = n / 65536 / 65536 / 65536 := by omega
  rw [e1, e2]
  clear e1 e2
  generalize ha : n / 65536 = a
  generalize hb : a / 65536 = b
  generalize hc : b / 65536 = c
  have hc2 : c < 65536 := by omega
  rw [Nat.mod_eq_of_lt hc2]
  have ha2 := Nat.div_add_mod n 65536
  have hb2 := Nat.div_add_mod a 65536
  have hc3 := Nat.div_add_mod b 65536
  rw [ha] at ha2
  rw [hb] at hb2
  rw [hc] at hc3
  have hr := Nat.mod_lt n (show 65536 > 0 by omega)
  clear ha hb hc
  generalize n % 65536 = r0 at *
  generalize a % 65536 = r1 at *
  generalize b % 65536 = r2 at *
  refine ⟨a + b + c, by omega, fun hp => ?_, by omega⟩
  omega
theorem words4_lt (n : Nat) (h : n < 18446744073709551616) (h2 : 65535 < n) : words4 n < n := by
  obtain ⟨k, h1, _, h3⟩ := words4_spec n h
  have := h3 h2
  omega
theorem foldN_words4 (n : Nat) (h : n < 18446744073709551616) : foldN (words4 n) = foldN n := by
  obtain ⟨k, h1, h2, _⟩ := words4_spec n h
  rcases Nat.eq_zero_or_pos n with rfl | hp
  · rfl
  · conv => rhs; rw [h1]
    rw [foldN_more _ _ (h2 hp)]
/-- The first words of a number. -/
def wpart (n : Nat) : Nat → Nat
  | 0 => 0
  | k + 1 => wpart n k + n / 2 ^ (16 * k) % 65536
theorem wpart_four (n : Nat) : wpart n 4 = words4 n := by
  simp [wpart, words4]
theorem wpart_le (n k : Nat) : wpart n k ≤ 65535 * k := by
  induction k with
  | zero => simp [wpart]
  | succ k ih => simp only [wpart]; have := Nat.mod_lt (n / 2 ^ (16 * k)) (show 65536 > 0 by omega); omega

/-- What is summed so far, and how far the next byte is shifted. -/
def wstep (p : Nat × Nat) (b : UInt8) : Nat × Nat := (p.1 + b.toNat * 2 ^ p.2, 8 - p.2)
def wst (l : List UInt8) : Nat × Nat := l.foldl wstep (0, 8)
/-- The words of a text added up. -/
def wsum (l : List UInt8) : Nat := (wst l).1
theorem wst_nil : wst [] = (0, 8) := rfl
theorem wst_snoc (l : List UInt8) (b : UInt8) : wst (l ++ [b]) = wstep (wst l) b := by simp [wst, List.foldl_append]
theorem wst_from (l : List UInt8) : ∀ a s, l.foldl wstep (a, s) = (a + (l.foldl wstep (0, s)).1, (l.foldl wstep (0, s)).2) := by
  induction l with
  | nil => intro a s; rfl
  | cons b l ih =>
    intro a s
    rw [List.foldl_cons, List.foldl_cons]
    simp only [wstep]
    rw [ih (a + _) _, ih (0 + _) _]
    simp only [Nat.zero_add, Nat.add_assoc]
theorem wst_two (l : List UInt8) : (wst l).2 = if l.length % 2 = 0 then 8 else 0 := by
  suffices h : ∀ (l : List UInt8) a s, (s = 8 ∨ s = 0) → (l.foldl wstep (a, s)).2 = if l.length % 2 = 0 then s else 8 - s from h l 0 8 (.inl rfl)
  intro l
  induction l with
  | nil => intro a s _; rfl
  | cons b l ih =>
    intro a s hs
    rw [List.foldl_cons]
    simp only [wstep]
    rw [ih _ _ (by omega), List.length_cons]
    rcases hs with rfl | rfl <;> split <;> split <;> omega
theorem wst_even (l : List UInt8) (h : l.length % 2 = 0) : wst l = (wsum l, 8) := by
  have := wst_two l
  rw [if_pos h] at this
  unfold wsum
  rw [← this]
theorem wst_append (l m : List UInt8) (h : l.length % 2 = 0) : wst (l ++ m) = (wsum l + wsum m, (wst m).2) := by
  unfold wsum
  rw [wst, List.foldl_append, show l.foldl wstep (0, 8) = ((wst l).1, 8) by have := wst_even l h; rw [wst] at this; rw [this]; rfl, wst_from]
  rfl
theorem wsum_append (l m : List UInt8) (h : l.length % 2 = 0) : wsum (l ++ m) = wsum l + wsum m := by
  conv => lhs; unfold wsum
  rw [wst_append l m h]
theorem wst_le (l : List UInt8) : (wst l).1 ≤ 65280 * l.length ∧ ((wst l).2 = 8 ∨ (wst l).2 = 0) := by
  suffices h : ∀ (l : List UInt8) a s, (s = 8 ∨ s = 0) → (l.foldl wstep (a, s)).1 ≤ a + 65280 * l.length ∧ ((l.foldl wstep (a, s)).2 = 8 ∨ (l.foldl wstep (a, s)).2 = 0) by
    have := h l 0 8 (.inl rfl); unfold wst; omega
  intro l
  induction l with
  | nil => intro a s hs; exact ⟨by simp, hs⟩
  | cons b l ih =>
    intro a s hs
    have hb := b.toNat_lt
    rw [List.foldl_cons]
    simp only [wstep]
    obtain ⟨i1, i2⟩ := ih (a + b.toNat * 2 ^ s) (8 - s) (by omega)
    refine ⟨Nat.le_trans i1 ?_, i2⟩
    rw [List.length_cons]
    rcases hs with rfl | rfl
    · rw [show (2 : Nat) ^ 8 = 256 from rfl]; omega
    · rw [show (2 : Nat) ^ 0 = 1 from rfl]; omega
theorem wsum_le (l : List UInt8) : wsum l ≤ 65280 * l.length := (wst_le l).1
theorem wsum_two (a b : UInt8) : wsum [a, b] = 256 * a.toNat + b.toNat := by
  simp [wsum, wst, wstep]; omega
theorem wsum_two_snoc (l : List UInt8) (a b : UInt8) (h : l.length % 2 = 0) : wsum (l ++ [a, b]) = wsum l + (256 * a.toNat + b.toNat) := by
  rw [wsum_append l _ h, wsum_two]
theorem wsum_pad (l : List UInt8) : wsum (l ++ [0]) = wsum l := by
  unfold wsum; rw [wst_snoc]; simp [wstep]
end Go.Proofs.Ytchbkamjmkfikaa


/-
  Texts joined: Pure1, OctBits, PureSum, Sum.
-/
import Derived.Test.YtlbdehegknehiaaGreatMg00
import Derived.Test.YtlbdehegknehiaaGreatMg02
import Derived.Test.YtlbdehegknehiaaGreatMg03
import Derived.Lib.SmallJoins
/- A part of the proof. -/
namespace Go.Proofs.YtlbdehegknehiaaGreat
open Go.RowKit
set_option linter.unusedVariables false
theorem wrap_ones (W : Nat) (h : W ≤ 64) : IntKind.u64.wrap (IntKind.u64.wrap ((2 : Int) ^ W) - 1) = ((2 ^ W - 1 : Nat) : Int) := by
  have e : (2 : Int) ^ W = ((2 ^ W : Nat) : Int) := by simp
  have hp : 0 < 2 ^ W := Nat.pow_pos (by omega)
  have hq : 2 ^ W ≤ 2 ^ 64 := Nat.pow_le_pow_right (by omega) h
  rw [e]
  generalize 2 ^ W = p at *
  simp only [IntKind.wrap_u64]
  omega
theorem toNat_ofInt64 (a : Nat) (ha : a < 18446744073709551616) : (BitVec.ofInt 64 (a : Int)).toNat = a := by
  rw [BitVec.ofInt_natCast, BitVec.toNat_ofNat]; exact Nat.mod_eq_of_lt (by omega)
theorem bits_and_u64_nat (a b : Nat) (ha : a < 18446744073709551616) (hb : b < 18446744073709551616) :
    bits .and .u64 (a : Int) (b : Int) = ((a &&& b : Nat) : Int) := by
  have hx : a &&& b ≤ a := Nat.and_le_left
  show IntKind.u64.wrap ((BitVec.ofInt 64 (a : Int) &&& BitVec.ofInt 64 (b : Int)).toNat : Int) = _
  rw [BitVec.toNat_and, toNat_ofInt64 a ha, toNat_ofInt64 b hb, IntKind.wrap_u64]
  omega
def andNotN (a b : Nat) : Nat := a &&& (18446744073709551615 - b)
theorem bits_andNot_u64_nat (a b : Nat) (ha : a < 18446744073709551616) (hb : b < 18446744073709551616) :
    bits .andNot .u64 (a : Int) (b : Int) = ((andNotN a b : Nat) : Int) := by
  have hx : a &&& (18446744073709551615 - b) ≤ a := Nat.and_le_left
  show IntKind.u64.wrap ((BitVec.ofInt 64 (a : Int) &&& ~~~ BitVec.ofInt 64 (b : Int)).toNat : Int) = _
  rw [BitVec.toNat_and, BitVec.toNat_not, toNat_ofInt64 a ha, toNat_ofInt64 b hb, IntKind.wrap_u64]
  unfold andNotN
  rw [show 2 ^ 64 - 1 - b = 18446744073709551615 - b from rfl]
  omega
theorem testBit_andNotN (a b i : Nat) (hb : b < 18446744073709551616) (hi : i < 64) : (andNotN a b).testBit i = (a.testBit i && !b.testBit i) := by
  unfold andNotN
  rw [Nat.testBit_and, show 18446744073709551615 - b = 2 ^ 64 - (b + 1) from by omega, Nat.testBit_two_pow_sub_succ (by omega)]
  simp [hi]
def maskN (f w : Nat) : Nat := (2 ^ w - 1) * 2 ^ f % 18446744073709551616
theorem testBit_maskN (f w i : Nat) (hi : i < 64) : (maskN f w).testBit i = (decide (f ≤ i) && decide (i < f + w)) := by
  unfold maskN
  rw [show 18446744073709551616 = 2 ^ 64 from rfl, Nat.testBit_mod_two_pow, Nat.testBit_mul_two_pow, Nat.testBit_two_pow_sub_one]
  by_cases h : f ≤ i
  · simp [hi, h]; omega
  · simp [h]
def setN (n f w v : Nat) : Nat := andNotN n (maskN f w) ||| ((v * 2 ^ f % 18446744073709551616) &&& maskN f w)
theorem maskN_lt (f w : Nat) : maskN f w < 18446744073709551616 := Nat.mod_lt _ (by omega)
theorem setN_lt (n f w v : Nat) (hn : n < 18446744073709551616) : setN n f w v < 18446744073709551616 := by
  have h1 : andNotN n (maskN f w) < 2 ^ 64 := Nat.lt_of_le_of_lt Nat.and_le_left (by omega)
  have h2 : (v * 2 ^ f % 18446744073709551616) &&& maskN f w < 2 ^ 64 := Nat.lt_of_le_of_lt Nat.and_le_right (by have := maskN_lt f w; omega)
  exact Nat.or_lt_two_pow h1 h2
theorem testBit_setN (n f w v i : Nat) (hi : i < 64) : (setN n f w v).testBit i = if f ≤ i ∧ i - f < w then v.testBit (i - f) else n.testBit i := by
  unfold setN
  rw [Nat.testBit_or, testBit_andNotN _ _ _ (maskN_lt f w) hi, Nat.testBit_and, testBit_maskN _ _ _ hi, show 18446744073709551616 = 2 ^ 64 from rfl, Nat.testBit_mod_two_pow, Nat.testBit_mul_two_pow]
  by_cases h : f ≤ i
  · by_cases h2 : i < f + w
    · rw [if_pos ⟨h, by omega⟩]; simp [h, h2, hi]
    · rw [if_neg (by omega)]; simp [h, h2]
  · rw [if_neg (by omega)]; simp [h]
end Go.Proofs.YtlbdehegknehiaaGreat

/- A part of the proof. -/
namespace Go.Proofs.YtlbdehegknehiaaGreat
set_option maxRecDepth 100000
set_option maxHeartbeats 400000
open Go.RowKit
set_option linter.unusedVariables false
theorem ones_any (wide : Int) (w : World) : Calls Tryz.prog 164 #[.int .i64 wide] w fun e w' => e = .returned (.int .u64 ((2 ^ clampN wide 64 - 1 : Nat) : Int)) ∧ w = w' := by
  have hc := clampN_le wide 64
  generalize hW : clampN wide 64 = W at hc ⊢
  have HW := zh hW; clear hW
  go_enter Tryz.func164, Tryz.ntmps164
  go_wp2_with fail
  refine (clamp_any wide 64 _).mono ?_
  rintro e w1 ⟨rfl, rfl⟩
  rw [HW.out]
  go_wp2
  go_ret
  exact ⟨ret_int (wrap_ones W hc), rfl⟩
theorem shr_and (n F W : Nat) (hn : n ≤ 18446744073709551615) (hF : F ≤ 64) (hW : W ≤ 64) : bits BinOp.and IntKind.u64 ((n : Int) / 2 ^ F) ((2 ^ W - 1 : Nat) : Int) = ((n / 2 ^ F % 2 ^ W : Nat) : Int) := by
  have hq : 2 ^ W ≤ 2 ^ 64 := Nat.pow_le_pow_right (by omega) hW
  have hp : 0 < 2 ^ W := Nat.pow_pos (by omega)
  have hd : n / 2 ^ F ≤ n := Nat.div_le_self _ _
  rw [show (2 : Int) ^ F = ((2 ^ F : Nat) : Int) by simp, ← Int.natCast_ediv, bits_and_u64_nat _ _ (by omega) (by omega), Nat.and_two_pow_sub_one_eq_mod]
theorem bits_any (n : Nat) (hn : n ≤ 18446744073709551615) (from_ wide : Int) (w : World) : Calls Tryz.prog 85 #[.int .u64 n, .int .i64 from_, .int .i64 wide] w fun e w' => e = .returned (.int .u64 (bitsN n from_ wide)) ∧ ∃ k, w' = w.drewN k := by
  unfold bitsN
  have hF := clampN_le from_ 64
  go_enter Tryz.func85, Tryz.ntmps85
  go_wp2_with fail
  go_quiet (first | ((go_at_call 161; exact Calls.quiet_of_same ((clamp_any _ 64 _).mono fun _ _ h => ⟨h.1, h.2.symm⟩))) | ((go_at_call 164; exact Calls.quiet_of_same ((ones_any _ _).mono fun _ _ h => ⟨h.1, h.2.symm⟩))))
  go_wp2
  go_ret
  have HA := shr_and n (clampN from_ 64) (clampN wide 64) hn hF (clampN_le _ _)
  refine ⟨ret_int HA, ?_⟩
  exact ⟨_, rfl⟩
theorem set_form (n F W v : Nat) (hn : n ≤ 18446744073709551615) (hF : F ≤ 64) (hW : W ≤ 64) (hv : v ≤ 18446744073709551615) :
    bits BinOp.or IntKind.u64 (bits BinOp.andNot IntKind.u64 (n : Int) (IntKind.u64.wrap (((2 ^ W - 1 : Nat) : Int) * 2 ^ F))) (bits BinOp.and IntKind.u64 (IntKind.u64.wrap ((v : Int) * 2 ^ F)) (IntKind.u64.wrap (((2 ^ W - 1 : Nat) : Int) * 2 ^ F))) = ((setN n F W v : Nat) : Int) := by
  have e : ∀ x : Nat, IntKind.u64.wrap ((x : Int) * 2 ^ F) = ((x * 2 ^ F % 18446744073709551616 : Nat) : Int) := by
    intro x
    rw [show (2 : Int) ^ F = ((2 ^ F : Nat) : Int) by simp, ← Int.natCast_mul, IntKind.wrap_u64]; rfl
  have hl : ∀ x : Nat, x % 18446744073709551616 < 18446744073709551616 := fun x => Nat.mod_lt _ (by omega)
  rw [e, e, bits_andNot_u64_nat _ _ (by omega) (hl _), bits_and_u64_nat _ _ (hl _) (hl _), bits_or_u64_nat]
  · rfl
  · exact Nat.lt_of_le_of_lt Nat.and_le_left (by omega)
  · exact Nat.lt_of_le_of_lt Nat.and_le_left (hl _)
theorem set_any (n : Nat) (hn : n ≤ 18446744073709551615) (from_ wide : Int) (v : Nat) (hv : v ≤ 18446744073709551615) (w : World) : Calls Tryz.prog 160 #[.int .u64 n, .int .i64 from_, .int .i64 wide, .int .u64 v] w fun e w' => e = .returned (.int .u64 (setN n (clampN from_ 64) (clampN wide 64) v)) ∧ w = w' := by
  have hF := clampN_le from_ 64
  have hW := clampN_le wide 64
  generalize hf : clampN from_ 64 = F at hF ⊢
  generalize hw : clampN wide 64 = W at hW ⊢
  have Hf := zh hf; clear hf
  have Hw := zh hw; clear hw
  go_enter Tryz.func160, Tryz.ntmps160
  go_wp2_with fail
  refine (clamp_any from_ 64 _).mono ?_
  rintro e w1 ⟨rfl, rfl⟩
  rw [Hf.out]
  go_wp2_with fail
  refine (ones_any wide _).mono ?_
  rintro e w1 ⟨rfl, rfl⟩
  rw [Hw.out]
  go_wp2
  go_ret
  refine ⟨ret_int ?_, rfl⟩
  rw [← set_form n F W v hn hF hW hv]
  try rfl
end Go.Proofs.YtlbdehegknehiaaGreat

/- A part of the proof. -/
namespace Go.Proofs.YtlbdehegknehiaaGreat
open Go.RowKit
set_option linter.unusedVariables false
def foldN (n : Nat) : Nat := if n = 0 then 0 else (n - 1) % 65535 + 1
theorem foldN_pos {n : Nat} (h : 0 < n) : foldN n = (n - 1) % 65535 + 1 := by unfold foldN; rw [if_neg (by omega)]
theorem foldN_le (n : Nat) : foldN n ≤ 65535 := by unfold foldN; split <;> omega
theorem foldN_small {n : Nat} (h : n ≤ 65535) : foldN n = n := by unfold foldN; split <;> omega
theorem foldN_more (y k : Nat) (h : 0 < y) : foldN (y + 65535 * k) = foldN y := by
  rw [foldN_pos (by omega), foldN_pos h]; omega
def words4 (n : Nat) : Nat := n % 65536 + n / 65536 % 65536 + n / 4294967296 % 65536 + n / 281474976710656 % 65536
theorem words4_spec (n : Nat) (h : n < 18446744073709551616) : ∃ k, n = words4 n + 65535 * k ∧ (0 < n → 0 < words4 n) ∧ (65535 < n → 0 < k) := by
  unfold words4
  have e1 : n / 4294967296 = n / 65536 / 65536 := by omega
  have e2 : n / 281474976710656 = n / 65536 / 65536 / 65536 := by omega
  rw [e1, e2]
  clear e1 e2
  generalize ha : n / 65536 = a
  generalize hb : a / 65536 = b
  generalize hc : b / 65536 = c
  have hc2 : c < 65536 := by omega
  rw [Nat.mod_eq_of_lt hc2]
  have ha2 := Nat.div_add_mod n 65536
  have hb2 := Nat.div_add_mod a 65536
  have hc3 := Nat.div_add_mod b 65536
  rw [ha] at ha2
  rw [hb] at hb2
  rw [hc] at hc3
  have hr := Nat.mod_lt n (show 65536 > 0 by omega)
  clear ha hb hc
  generalize n % 65536 = r0 at *
  generalize a % 65536 = r1 at *
  generalize b % 65536 = r2 at *
  refine ⟨a + b + c, by omega, fun hp => ?_, by omega⟩
  omega
theorem words4_lt (n : Nat) (h : n < 18446744073709551616) (h2 : 65535 < n) : words4 n < n := by
  obtain ⟨k, h1, _, h3⟩ := words4_spec n h
  have := h3 h2
  omega
theorem foldN_words4 (n : Nat) (h : n < 18446744073709551616) : foldN (words4 n) = foldN n := by
  obtain ⟨k, h1, h2, _⟩ := words4_spec n h
  rcases Nat.eq_zero_or_pos n with rfl | hp
  · rfl
  · conv => rhs; rw [h1]
    rw [foldN_more _ _ (h2 hp)]
def wpart (n : Nat) : Nat → Nat
  | 0 => 0
  | k + 1 => wpart n k + n / 2 ^ (16 * k) % 65536
theorem wpart_four (n : Nat) : wpart n 4 = words4 n := by
  simp [wpart, words4]
theorem wpart_le (n k : Nat) : wpart n k ≤ 65535 * k := by
  induction k with
  | zero => simp [wpart]
  | succ k ih => simp only [wpart]; have := Nat.mod_lt (n / 2 ^ (16 * k)) (show 65536 > 0 by omega); omega
def wstep (p : Nat × Nat) (b : UInt8) : Nat × Nat := (p.1 + b.toNat * 2 ^ p.2, 8 - p.2)
def wst (l : List UInt8) : Nat × Nat := l.foldl wstep (0, 8)
def wsum (l : List UInt8) : Nat := (wst l).1
theorem wst_snoc (l : List UInt8) (b : UInt8) : wst (l ++ [b]) = wstep (wst l) b := by simp [wst, List.foldl_append]
theorem wst_le (l : List UInt8) : (wst l).1 ≤ 65280 * l.length ∧ ((wst l).2 = 8 ∨ (wst l).2 = 0) := by
  suffices h : ∀ (l : List UInt8) a s, (s = 8 ∨ s = 0) → (l.foldl wstep (a, s)).1 ≤ a + 65280 * l.length ∧ ((l.foldl wstep (a, s)).2 = 8 ∨ (l.foldl wstep (a, s)).2 = 0) by
    have := h l 0 8 (.inl rfl); unfold wst; omega
  intro l
  induction l with
  | nil => intro a s hs; exact ⟨by simp, hs⟩
  | cons b l ih =>
    intro a s hs
    have hb := b.toNat_lt
    rw [List.foldl_cons]
    simp only [wstep]
    obtain ⟨i1, i2⟩ := ih (a + b.toNat * 2 ^ s) (8 - s) (by omega)
    refine ⟨Nat.le_trans i1 ?_, i2⟩
    rw [List.length_cons]
    rcases hs with rfl | rfl
    · rw [show (2 : Nat) ^ 8 = 256 from rfl]; omega
    · rw [show (2 : Nat) ^ 0 = 1 from rfl]; omega
end Go.Proofs.YtlbdehegknehiaaGreat

/- A part of the proof. -/
namespace Go.Proofs.YtlbdehegknehiaaGreat
set_option maxRecDepth 100000
set_option maxHeartbeats 400000
open Go.RowKit
set_option linter.unusedVariables false
theorem bitsN_word (n k : Nat) (hk : k ≤ 3) : bitsN n (16 * (k : Int)) 16 = n / 2 ^ (16 * k) % 65536 := by
  unfold bitsN
  have e1 : clampN (16 * (k : Int)) 64 = 16 * k := by unfold clampN; split <;> omega
  rw [e1, show clampN 16 64 = 16 from rfl]
theorem fold_any (n : Nat) (hn : n ≤ 18446744073709551615) (w : World) : Calls Tryz.prog 213 #[.int .u64 n] w fun e w' => e = .returned (.int .i64 (foldN n)) ∧ ∃ k, w' = w.drewN k := by
  generalize hR : foldN n = R
  have HR := zh hR; clear hR
  go_enter Tryz.func213, Tryz.ntmps213
  go_wp2_with fail
  go_loopw [0] (fun v wr => ∃ m : Nat, m ≤ 18446744073709551615 ∧ foldN m = R ∧ v = .int .u64 m ∧ ∃ d, wr = w.drewN d) (fun v _ => (intOf v).toNat)
  case atStart => exact ⟨n, hn, HR.out, rfl, 0, rfl⟩
  case round =>
    obtain ⟨m, hm, hf, rfl, d, rfl⟩ := hrel
    have Hf := zh hf; clear hf
    by_cases hlt : 65535 < m
    · have hd : decide ((65535 : Int) < (m : Int)) = true := by simp; omega
      go_wp2_with fail
      go_loopw [3, 7] (fun t i wr => ∃ k : Nat, k ≤ 4 ∧ i = .int .i64 k ∧ t = .int .u64 (wpart m k) ∧ ∃ d, wr = w.drewN d) (fun _ i _ => 4 - (intOf i).toNat)
      case atStart => exact ⟨0, by omega, rfl, rfl, d, rfl⟩
      case round =>
        obtain ⟨k, hk, rfl, rfl, d2, rfl⟩ := hrel
        have hp := wpart_le m k
        by_cases h4 : k < 4
        · have Hs := zh (show wpart m (k + 1) = wpart m k + m / 2 ^ (16 * k) % 65536 from rfl)
          have Hb := zh (bitsN_word m k (by omega))
          have hq := Nat.mod_lt (m / 2 ^ (16 * k)) (show 65536 > 0 by omega)
          generalize hx : wpart m k = x at hp Hs ⊢
          generalize hy : m / 2 ^ (16 * k) % 65536 = y at hq Hs Hb
          have Hx := zh hx; clear hx
          have Hy := zh hy; clear hy
          go_wp2_with fail
          refine (bits_any m hm _ _ _).mono ?_
          rintro e w1 ⟨rfl, d3, rfl⟩
          rw [Hb.out]
          go_wp2_with fail
          go_roundw
          case rel => exact ⟨k + 1, by omega, by go_num, by rw [Hs.out]; go_num, _, rfl⟩
          case measure => simp [intOf]; omega
        · have hk4 : k = 4 := by omega
          subst hk4
          have Hw := zh (wpart_four m)
          have H1 := zh (words4_lt m (by omega) hlt)
          have H2 := zh (foldN_words4 m (by omega))
          go_wp2_with fail
          go_roundw
          case rel => exact ⟨words4 m, by have := H1.out; omega, by rw [H2.out]; exact Hf.out, by rw [Hw.out], _, rfl⟩
          case measure => have := H1.out; have := Hw.out; simp [intOf]; omega
    · have hle : m ≤ 65535 := by omega
      have Hfs := zh (foldN_small hle)
      go_wp2
      go_ret
      exact ⟨ret_int (by rw [← Hf.out, Hfs.out]), _, rfl⟩
def BS (L : List (List UInt8)) : List Value := L.map (fun l => Value.string (Str l))
theorem BS_get (L : List (List UInt8)) (j : Nat) (h : j < L.length) : (BS L)[j]? = some (.string (Str L[j])) := by
  simp [BS, List.getElem?_eq_getElem h]
theorem flat_snoc (L : List (List UInt8)) (j : Nat) (h : j < L.length) : (L.take (j + 1)).flatten = (L.take j).flatten ++ L[j] := by
  rw [List.take_succ_eq_append_getElem h, List.flatten_append]; simp
theorem flat_len (L : List (List UInt8)) (j : Nat) : (L.take j).flatten.length ≤ L.flatten.length := by
  conv => rhs; rw [← List.take_append_drop j L, List.flatten_append, List.length_append]
  omega
theorem Str_get (l : List UInt8) (k : Nat) (h : k < (Str l).size) : (Str l)[k] = l[k]'(by rw [Str_size] at h; exact h) := rfl
theorem add_shl8 (t b : Nat) (ht : t ≤ 1152921504606846976) (hb : b < 256) : IntKind.u64.wrap ((t : Int) + IntKind.u64.wrap (IntKind.u64.wrap (b : Int) * 256)) = ((t + b * 2 ^ 8 : Nat) : Int) := by
  simp only [IntKind.wrap_u64]; omega
theorem add_shl0 (t b : Nat) (ht : t ≤ 1152921504606846976) (hb : b < 256) : IntKind.u64.wrap ((t : Int) + IntKind.u64.wrap (IntKind.u64.wrap (b : Int))) = ((t + b * 2 ^ 0 : Nat) : Int) := by
  simp only [IntKind.wrap_u64]; omega
theorem sum_some (L : List (List UInt8)) (hL : L.flatten.length ≤ 1048576) (hLL : L.length ≤ 1048576) (g cap : Nat) (w : World) (hc : ∀ j (h : j < L.length), w.cell? ⟨g, j, none⟩ = some (.string (Str L[j]))) :
    Calls Tryz.prog 191 #[.slice (some ⟨g, 0, none⟩) L.length cap] w fun e w' => e = .returned (.int .i64 (foldN (wsum L.flatten))) ∧ ∃ k, w' = w.drewN k := by
  have Hc := zh hc; clear hc
  go_enter Tryz.func191, Tryz.ntmps191
  go_wp2_with fail
  go_loop [3, 4, 10] (fun t s i => ∃ j : Nat, j ≤ L.length ∧ i = .int .i64 j ∧ t = .int .u64 ((wst (L.take j).flatten).1 : Nat) ∧ s = .int .u64 ((wst (L.take j).flatten).2 : Nat)) (fun _ _ i => L.length - (intOf i).toNat)
  case atStart => exact ⟨0, by omega, rfl, rfl, rfl⟩
  case round =>
    obtain ⟨j, hj, rfl, rfl, rfl⟩ := hrel
    by_cases hlt : j < L.length
    · have hd : decide ((j : Int) < (L.length : Int)) = true := by simp; omega
      have hcell := Hc.out j hlt
      have Hs := zh (flat_snoc L j hlt)
      have hfl := flat_len L (j + 1)
      rw [Hs.out, List.length_append] at hfl
      generalize hl : L[j] = l at hcell Hs hfl
      have Hl := zh hl; clear hl
      have hsz : (Str l).size = l.length := Str_size l
      generalize hf : (L.take j).flatten = f at Hs hfl ⊢
      have Hf := zh hf; clear hf
      go_wp2_with fail
      go_loop [3, 4, 16] (fun t s i => ∃ k : Nat, k ≤ l.length ∧ i = .int .i64 k ∧ t = .int .u64 ((wst (f ++ l.take k)).1 : Nat) ∧ s = .int .u64 ((wst (f ++ l.take k)).2 : Nat)) (fun _ _ i => l.length - (intOf i).toNat)
      case atStart => exact ⟨0, by omega, rfl, by simp, by simp⟩
      case round =>
        obtain ⟨k, hk, rfl, rfl, rfl⟩ := hrel
        by_cases hlt2 : k < l.length
        · have hle := wst_le (f ++ l.take k)
          rw [List.length_append, List.length_take] at hle
          have Hn := zh (show wst (f ++ l.take (k + 1)) = wstep (wst (f ++ l.take k)) l[k] by
            rw [List.take_succ_eq_append_getElem hlt2, ← List.append_assoc, wst_snoc])
          generalize hp : wst (f ++ l.take k) = p at hle Hn ⊢
          have Hp := zh hp; clear hp
          obtain ⟨h1, h2⟩ := hle
          have hb := l[k].toNat_lt
          have Hget := zh (Str_get l k (by rw [hsz]; exact hlt2))
          obtain ⟨t, sh⟩ := p
          simp only at h1 h2 ⊢
          have hk' : (k : Nat) < (Str l).size := by rw [hsz]; exact hlt2
          rcases h2 with rfl | rfl
          · go_wp2_with fail
            go_round
            case rel => exact ⟨k + 1, by omega, by go_num, by rw [Hn.out]; simp only [wstep]; rw [Hget.out, add_shl8 _ _ (by omega) hb], by rw [Hn.out]; rfl⟩
            case measure => simp [intOf]; omega
          · go_wp2_with fail
            go_round
            case rel => exact ⟨k + 1, by omega, by go_num, by rw [Hn.out]; simp only [wstep]; rw [Hget.out, add_shl0 _ _ (by omega) hb], by rw [Hn.out]; rfl⟩
            case measure => simp [intOf]; omega
        · have hkl : k = l.length := by omega
          subst hkl
          have Ht := zh (List.take_length (l := l))
          go_wp2_with fail
          go_round
          case rel => exact ⟨j + 1, by omega, by go_num, by rw [Hs.out, Ht.out], by rw [Hs.out, Ht.out]⟩
          case measure => simp [intOf]; omega
    · have hjl : j = L.length := by omega
      subst hjl
      have Ht := zh (List.take_length (l := L))
      have hle := (wst_le L.flatten).1
      have hle2 : (wst (L.take L.length).flatten).1 ≤ 18446744073709551615 := by rw [Ht.out]; omega
      have Hr := zh (show foldN (wst (L.take L.length).flatten).1 = foldN (wsum L.flatten) by rw [Ht.out]; rfl)
      generalize (wst (L.take L.length).flatten).1 = x at hle2 Hr ⊢
      generalize (wst (L.take L.length).flatten).2 = y
      go_wp2_with fail
      refine (fold_any _ hle2 _).mono ?_
      rintro e w1 ⟨rfl, d3, rfl⟩
      rw [Hr.out]
      go_wp2
      go_ret
      exact ⟨rfl, _, rfl⟩
theorem sum_own (L : List (List UInt8)) (hL : L.flatten.length ≤ 1048576) (hLL : L.length ≤ 1048576) (base : Nat) (v : Value) (w : World) (hown : w.ownsRow base 9 1 v L.length (BS L)) :
    Calls Tryz.prog 191 #[v] w fun e w' => e = .returned (.int .i64 (foldN (wsum L.flatten))) ∧ ∃ k, w' = w.drewN k := by
  rcases Go.Joins.ownsRow_forms hown with ⟨rfl, h0⟩ | ⟨g, cap, rfl⟩
  · have hL0 : L = [] := List.eq_nil_of_length_eq_zero h0
    subst hL0
    clear hown hL hLL h0
    go_enter Tryz.func191, Tryz.ntmps191
    go_wp2_with fail
    refine wp_loop_rounds 1 ?_
    rw [rounds_succ]
    go_wp2_with fail
    refine (fold_any 0 (by omega) _).mono ?_
    rintro e w1 ⟨rfl, d3, rfl⟩
    go_wp2
    go_ret
    exact ⟨rfl, _, rfl⟩
  · exact sum_some L hL hLL g cap w (fun j h => by rw [hown.cellAt j (by omega), BS_get L j h])
theorem check_own (L : List (List UInt8)) (hL : L.flatten.length ≤ 1048576) (hLL : L.length ≤ 1048576) (base : Nat) (v : Value) (w : World) (hown : w.ownsRow base 9 1 v L.length (BS L)) :
    Calls Tryz.prog 147 #[v] w fun e w' => e = .returned (.int .i64 ((65535 - foldN (wsum L.flatten) : Nat) : Int)) ∧ ∃ k, w' = w.drewN k := by
  have hf := foldN_le (wsum L.flatten)
  generalize hx : foldN (wsum L.flatten) = x at hf ⊢
  have Hx := zh hx; clear hx
  have Hown := zh hown; clear hown
  go_enter Tryz.func147, Tryz.ntmps147
  go_wp2_with fail
  refine (sum_own L hL hLL base v _ Hown.out).mono ?_
  rintro e w1 ⟨rfl, d3, rfl⟩
  rw [Hx.out]
  go_wp2
  go_ret
  exact ⟨ret_int (by omega), _, rfl⟩
theorem good_own (L : List (List UInt8)) (hL : L.flatten.length ≤ 1048576) (hLL : L.length ≤ 1048576) (base : Nat) (v : Value) (w : World) (hown : w.ownsRow base 9 1 v L.length (BS L)) :
    Calls Tryz.prog 201 #[v] w fun e w' => e = .returned (.bool (decide (foldN (wsum L.flatten) = 65535))) ∧ ∃ k, w' = w.drewN k := by
  have hf := foldN_le (wsum L.flatten)
  generalize hx : foldN (wsum L.flatten) = x at hf ⊢
  have Hx := zh hx; clear hx
  have Hown := zh hown; clear hown
  go_enter Tryz.func201, Tryz.ntmps201
  go_wp2_with fail
  refine (sum_own L hL hLL base v _ Hown.out).mono ?_
  rintro e w1 ⟨rfl, d3, rfl⟩
  rw [Hx.out]
  go_wp2
  go_ret
  exact ⟨congrArg (fun b => Ending.returned (.bool b)) (show ((x : Int) == 65535) = decide (x = 65535) by rw [Bool.eq_iff_iff]; simp; omega), _, rfl⟩
end Go.Proofs.YtlbdehegknehiaaGreat


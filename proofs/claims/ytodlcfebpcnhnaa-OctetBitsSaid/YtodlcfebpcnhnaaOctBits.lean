/-
  The contracts of octet.Bits and octet.Set, and of the document's answer Set.
-/
import Derived.Test.YtodlcfebpcnhnaaOct
import Derived.Test.YtodlcfebpcnhnaaRefa
import Derived.Test.YtodlcfebpcnhnaaPure1
namespace Go.Proofs.Ytodlcfebpcnhnaa
open Go.RowKit
set_option linter.unusedVariables false

theorem ones_any (wide : Int) (w : World) : Calls Try.prog 36 #[.int .i64 wide] w fun e w' => e = .returned (.int .u64 ((2 ^ clampN wide 64 - 1 : Nat) : Int)) ∧ w = w' := by
  have hc := clampN_le wide 64
  generalize hW : clampN wide 64 = W at hc ⊢
  have HW := Lib.hid hW; clear hW
  go_enter Try.func36, Try.ntmps36
  go_wp2_with fail
  refine (clamp_any wide 64 _).mono ?_
  rintro e w1 ⟨rfl, rfl⟩
  rw [HW.out]
  go_wp2
  go_ret
  exact ⟨ret_int (wrap_ones W hc), rfl⟩

theorem shr_and (n F W : Nat) (hn : n ≤ 18446744073709551615) (hF : F ≤ 64) (hW : W ≤ 64) : bits BinOp.and IntKind.u64 ((n : Int) / 2 ^ F) ((2 ^ W - 1 : Nat) : Int) = ((n / 2 ^ F % 2 ^ W : Nat) : Int) := by
  have hq : 2 ^ W ≤ 2 ^ 64 := Nat.pow_le_pow_right (by omega) hW
  have hp : 0 < 2 ^ W := Nat.pow_pos (by omega)
  have hd : n / 2 ^ F ≤ n := Nat.div_le_self _ _
  rw [show (2 : Int) ^ F = ((2 ^ F : Nat) : Int) by simp, ← Int.natCast_ediv, bits_and_u64_nat _ _ (by omega) (by omega), Nat.and_two_pow_sub_one_eq_mod]

set_option maxHeartbeats 400000 in
theorem bits_any (n : Nat) (hn : n ≤ 18446744073709551615) (from_ wide : Int) (w : World) : Calls Try.prog 19 #[.int .u64 n, .int .i64 from_, .int .i64 wide] w fun e w' => e = .returned (.int .u64 (bitsN n from_ wide)) ∧ ∃ k, w' = w.drewN k := by
  unfold bitsN
  have hF := clampN_le from_ 64
  go_enter Try.func19, Try.ntmps19
  go_wp2_with fail
  go_quiet (first | ((go_at_call 32; exact Calls.quiet_of_same ((clamp_any _ 64 _).mono fun _ _ h => ⟨h.1, h.2.symm⟩))) | ((go_at_call 36; exact Calls.quiet_of_same ((ones_any _ _).mono fun _ _ h => ⟨h.1, h.2.symm⟩))))
  go_wp2
  go_ret
  have HA := shr_and n (clampN from_ 64) (clampN wide 64) hn hF (clampN_le _ _)
  refine ⟨ret_int HA, ?_⟩
  exact ⟨_, rfl⟩

theorem set_form (n F W v : Nat) (hn : n ≤ 18446744073709551615) (hF : F ≤ 64) (hW : W ≤ 64) (hv : v ≤ 18446744073709551615) :
    bits BinOp.or IntKind.u64 (bits BinOp.andNot IntKind.u64 (n : Int) (IntKind.u64.wrap (((2 ^ W - 1 : Nat) : Int) * 2 ^ F))) (bits BinOp.and IntKind.u64 (IntKind.u64.wrap ((v : Int) * 2 ^ F)) (IntKind.u64.wrap (((2 ^ W - 1 : Nat) : Int) * 2 ^ F))) = ((setN n F W v : Nat) : Int) := by
  have e : ∀ x : Nat, IntKind.u64.wrap ((x : Int) * 2 ^ F) = ((x * 2 ^ F % 18446744073709551616 : Nat) : Int) := by
    intro x
    rw [show (2 : Int) ^ F = ((2 ^ F : Nat) : Int) by simp, ← Int.natCast_mul, IntKind.wrap_u64]; rfl
  have hl : ∀ x : Nat, x % 18446744073709551616 < 18446744073709551616 := fun x => Nat.mod_lt _ (by omega)
  rw [e, e, bits_andNot_u64_nat _ _ (by omega) (hl _), bits_and_u64_nat _ _ (hl _) (hl _), bits_or_u64_nat]
  · rfl
  · exact Nat.lt_of_le_of_lt Nat.and_le_left (by omega)
  · exact Nat.lt_of_le_of_lt Nat.and_le_left (hl _)

set_option maxHeartbeats 400000 in
theorem set_any (n : Nat) (hn : n ≤ 18446744073709551615) (from_ wide : Int) (v : Nat) (hv : v ≤ 18446744073709551615) (w : World) : Calls Try.prog 17 #[.int .u64 n, .int .i64 from_, .int .i64 wide, .int .u64 v] w fun e w' => e = .returned (.int .u64 (setN n (clampN from_ 64) (clampN wide 64) v)) ∧ w = w' := by
  have hF := clampN_le from_ 64
  have hW := clampN_le wide 64
  generalize hf : clampN from_ 64 = F at hF ⊢
  generalize hw : clampN wide 64 = W at hW ⊢
  have Hf := Lib.hid hf; clear hf
  have Hw := Lib.hid hw; clear hw
  go_enter Try.func17, Try.ntmps17
  go_wp2_with fail
  refine (clamp_any from_ 64 _).mono ?_
  rintro e w1 ⟨rfl, rfl⟩
  rw [Hf.out]
  go_wp2_with fail
  refine (ones_any wide _).mono ?_
  rintro e w1 ⟨rfl, rfl⟩
  rw [Hw.out]
  go_wp2
  go_ret
  refine ⟨ret_int ?_, rfl⟩
  rw [← set_form n F W v hn hF hW hv]
  try rfl

set_option maxHeartbeats 1000000 in
theorem rset_any (n : Nat) (hn : n ≤ 18446744073709551615) (from_ wide : Int) (v : Nat) (hv : v ≤ 18446744073709551615) (w : World) : Calls Try.prog 18 #[.int .u64 n, .int .i64 from_, .int .i64 wide, .int .u64 v] w fun e w' => e = .returned (.int .u64 (setN n (clampN from_ 64) (clampN wide 64) v)) ∧ w = w' := by
  have hF := clampN_le from_ 64
  have hW := clampN_le wide 64
  generalize hf : clampN from_ 64 = F at hF ⊢
  generalize hw : clampN wide 64 = W at hW ⊢
  have Hf := Lib.hid hf; clear hf
  have Hw := Lib.hid hw; clear hw
  have hlt := setN_lt n F W v (by omega)
  generalize hS : setN n F W v = S at hlt ⊢
  have HS := Lib.hid hS; clear hS
  go_enter Try.func18, Try.ntmps18
  go_wp2_with fail
  refine (within_any from_ 64 _).mono ?_
  rintro e w1 ⟨rfl, rfl⟩
  rw [Hf.out]
  go_wp2_with fail
  refine (within_any wide 64 _).mono ?_
  rintro e w1 ⟨rfl, rfl⟩
  rw [Hw.out]
  go_wp2_with fail
  go_loop [9, 12] (fun o i => ∃ k : Nat, k ≤ 64 ∧ i = .int .i64 k ∧ o = .int .u64 ((S % 2 ^ k : Nat) : Int)) (fun _ i => 64 - (intOf i).toNat)
  case atStart => exact ⟨0, by omega, rfl, by simp [Nat.mod_one]⟩
  case round =>
    obtain ⟨k, hk, rfl, rfl⟩ := hrel
    by_cases hlt2 : k < 64
    · have Hb := Lib.hid (setN_bit n F W v k hlt2)
      rw [HS.out] at Hb
      have Hst := Lib.hid (mod_pow_step S k)
      have h1 : S % 2 ^ (k + 1) ≤ 18446744073709551615 := Nat.le_trans (Nat.mod_le _ _) (by omega)
      have h2 : S % 2 ^ k ≤ 18446744073709551615 := Nat.le_trans (Nat.mod_le _ _) (by omega)
      have h3 : S / 2 ^ k % 2 ≤ 1 := by omega
      have h4 : 2 ^ k ≤ 9223372036854775808 := Nat.pow_le_pow_right (n := 2) (by omega) (show k ≤ 63 by omega)
      rw [Hst.out] at h1
      generalize hx : S % 2 ^ k = x at h1 h2 Hst ⊢
      generalize hy : S / 2 ^ k % 2 = y at h1 h3 Hst Hb
      generalize hp : 2 ^ k = p at h1 h4 Hst
      have Hx := Lib.hid hx; clear hx
      have Hy := Lib.hid hy; clear hy
      have Hp := Lib.hid hp; clear hp
      by_cases hF1 : F ≤ k
      · by_cases hW1 : k - F < W
        · have hv1 : v / 2 ^ (k - F) % 2 = y := by have := Hb.out; rw [if_pos ⟨hF1, hW1⟩] at this; exact this.symm
          have Hv1 := Lib.hid hv1; clear hv1
          go_wp2_with fail
          refine (bit_any n k hn (by omega) _).mono ?_
          rintro e w1 ⟨rfl, rfl⟩
          go_wp2_with fail
          rw [show ((k : Int) - (F : Int)) = ((k - F : Nat) : Int) by omega]
          refine (bit_any v (k - F) hv (by omega) _).mono ?_
          rintro e w1 ⟨rfl, rfl⟩
          rw [Hv1.out]
          go_wp2_with fail
          refine (power_any k (by omega) _).mono ?_
          rintro e w1 ⟨rfl, rfl⟩
          rw [Hp.out]
          go_wp2
          go_round
          case rel => exact ⟨k + 1, by omega, by go_num, by rw [Hst.out]; go_num⟩
          case measure => simp [intOf]; omega
        · have hv1 : n / 2 ^ k % 2 = y := by have := Hb.out; rw [if_neg (by omega)] at this; exact this.symm
          have Hv1 := Lib.hid hv1; clear hv1
          go_wp2_with fail
          refine (bit_any n k hn (by omega) _).mono ?_
          rintro e w1 ⟨rfl, rfl⟩
          rw [Hv1.out]
          go_wp2_with fail
          refine (power_any k (by omega) _).mono ?_
          rintro e w1 ⟨rfl, rfl⟩
          rw [Hp.out]
          go_wp2
          go_round
          case rel => exact ⟨k + 1, by omega, by go_num, by rw [Hst.out]; go_num⟩
          case measure => simp [intOf]; omega
      · have hv1 : n / 2 ^ k % 2 = y := by have := Hb.out; rw [if_neg (by omega)] at this; exact this.symm
        have Hv1 := Lib.hid hv1; clear hv1
        go_wp2_with fail
        refine (bit_any n k hn (by omega) _).mono ?_
        rintro e w1 ⟨rfl, rfl⟩
        rw [Hv1.out]
        go_wp2_with fail
        refine (power_any k (by omega) _).mono ?_
        rintro e w1 ⟨rfl, rfl⟩
        rw [Hp.out]
        go_wp2
        go_round
        case rel => exact ⟨k + 1, by omega, by go_num, by rw [Hst.out]; go_num⟩
        case measure => simp [intOf]; omega
    · obtain rfl : k = 64 := by omega
      have hx : S % 2 ^ 64 = S := Nat.mod_eq_of_lt hlt
      rw [hx]
      clear hx
      go_wp2
      go_ret
      exact ⟨rfl, rfl⟩
end Go.Proofs.Ytodlcfebpcnhnaa

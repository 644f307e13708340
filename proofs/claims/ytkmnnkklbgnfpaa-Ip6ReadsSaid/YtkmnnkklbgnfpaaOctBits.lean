/-
  The contracts of octet.Bits and octet.Set, and of the document's answer Set.
-/
import Derived.Test.YtkmnnkklbgnfpaaOct
import Derived.Test.YtkmnnkklbgnfpaaRefa
import Derived.Test.YtkmnnkklbgnfpaaPure1
namespace Go.Proofs.Ytkmnnkklbgnfpaa
open Go.RowKit
set_option linter.unusedVariables false

theorem ones_any (wide : Int) (w : World) : Calls Try.prog 40 #[.int .i64 wide] w fun e w' => e = .returned (.int .u64 ((2 ^ clampN wide 64 - 1 : Nat) : Int)) ∧ w = w' := by
  have hc := clampN_le wide 64
  generalize hW : clampN wide 64 = W at hc ⊢
  have HW := Lib.hid hW; clear hW
  go_enter Try.func40, Try.ntmps40
  go_wp2_with fail
  refine (clamp_any wide 64 _).mono ?_
  rintro e w1 ⟨rfl, rfl⟩
  rw [HW.out]
  go_wp2
  go_ret
  exact ⟨ret_int (wrap_ones W hc), rfl⟩

theorem shr_and (n F W : Nat) (hn : n ≤ 18446744073709551615) (hF : F ≤ 64) (hW : W ≤ 64) : bits BinOp.and IntKind.u64 ((n : Int) / 2 ^ F) ((2 ^ W - 1 : Nat) : Int) = ((n / 2 ^ F % 2 ^ W : Nat) : Int) := by
  have hq : 2 ^ W ≤ 2 ^ 64 := Nat.pow_le_pow_right (by omega) hW
  have hp : 0 < 2 ^ W := Nat.pow_pos (by omega)
  have hd : n / 2 ^ F ≤ n := Nat.div_le_self _ _
  rw [show (2 : Int) ^ F = ((2 ^ F : Nat) : Int) by simp, ← Int.natCast_ediv, bits_and_u64_nat _ _ (by omega) (by omega), Nat.and_two_pow_sub_one_eq_mod]

set_option maxHeartbeats 400000 in
theorem bits_any (n : Nat) (hn : n ≤ 18446744073709551615) (from_ wide : Int) (w : World) : Calls Try.prog 34 #[.int .u64 n, .int .i64 from_, .int .i64 wide] w fun e w' => e = .returned (.int .u64 (bitsN n from_ wide)) ∧ ∃ k, w' = w.drewN k := by
  unfold bitsN
  have hF := clampN_le from_ 64
  go_enter Try.func34, Try.ntmps34
  go_wp2_with fail
  go_quiet (first | ((go_at_call 39; exact Calls.quiet_of_same ((clamp_any _ 64 _).mono fun _ _ h => ⟨h.1, h.2.symm⟩))) | ((go_at_call 40; exact Calls.quiet_of_same ((ones_any _ _).mono fun _ _ h => ⟨h.1, h.2.symm⟩))))
  go_wp2
  go_ret
  have HA := shr_and n (clampN from_ 64) (clampN wide 64) hn hF (clampN_le _ _)
  refine ⟨ret_int HA, ?_⟩
  exact ⟨_, rfl⟩

theorem set_form (n F W v : Nat) (hn : n ≤ 18446744073709551615) (hF : F ≤ 64) (hW : W ≤ 64) (hv : v ≤ 18446744073709551615) :
    bits BinOp.or IntKind.u64 (bits BinOp.andNot IntKind.u64 (n : Int) (IntKind.u64.wrap (((2 ^ W - 1 : Nat) : Int) * 2 ^ F))) (bits BinOp.and IntKind.u64 (IntKind.u64.wrap ((v : Int) * 2 ^ F)) (IntKind.u64.wrap (((2 ^ W - 1 : Nat) : Int) * 2 ^ F))) = ((setN n F W v : Nat) : Int) := by
  have e : ∀ x : Nat, IntKind.u64.wrap ((x : Int) * 2 ^ F) = ((x * 2 ^ F % 18446744073709551616 : Nat) : Int) := by
    intro x
    rw [show (2 : Int) ^ F = ((2 ^ F : Nat) : Int) by simp, ← Int.natCast_mul, IntKind.wrap_u64]; rfl
  have hl : ∀ x : Nat, x % 18446744073709551616 < 18446744073709551616 := fun x => Nat.mod_lt _ (by omega)
  rw [e, e, bits_andNot_u64_nat _ _ (by omega) (hl _), bits_and_u64_nat _ _ (hl _) (hl _), bits_or_u64_nat]
  · rfl
  · exact Nat.lt_of_le_of_lt Nat.and_le_left (by omega)
  · exact Nat.lt_of_le_of_lt Nat.and_le_left (hl _)

end Go.Proofs.Ytkmnnkklbgnfpaa

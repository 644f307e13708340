/-
  The contracts of the document's own answers of layer 1: Within, Bit, power, Put, Bits.
-/
import Derived.Test.YtodonfdkhnmdjaaBase
import Derived.Test.YtodonfdkhnmdjaaChecked
import Derived.WalkLawsBesides
import Derived.WalkSpells
import Derived.BigQuiet
import Derived.Deep.QuietTactic
import Derived.LoopTactic
import Derived.Deep.AppendLies
namespace Go.Proofs.Ytodonfdkhnmdjaa
open Go.RowKit
set_option linter.unusedVariables false

theorem within_any (n : Int) (m : Nat) (w : World) : Calls Try.prog 19 #[.int .i64 n, .int .i64 0, .int .i64 (m : Int)] w fun e w' => e = .returned (.int .i64 (clampN n m : Int)) ∧ w = w' := by
  go_enter Try.func19, Try.ntmps19
  go_wp2
  all_goals
    go_ret
    exact ⟨ret_int (by unfold clampN; split <;> omega), rfl⟩

theorem div_pow_succ (n k : Nat) : n / 2 ^ (k + 1) = n / 2 ^ k / 2 := by rw [Nat.pow_succ, Nat.div_div_eq_div_mul]

theorem bits_step (n f k : Nat) : n / 2 ^ f % 2 ^ (k + 1) = n / 2 ^ f % 2 ^ k + 2 ^ k * (n / 2 ^ (f + k) % 2) := by
  rw [Nat.pow_succ, Nat.mod_mul, Nat.div_div_eq_div_mul, ← Nat.pow_add]

/-- What bits a number has from one on. -/
def bitsN (n : Nat) (from_ wide : Int) : Nat := n / 2 ^ clampN from_ 64 % 2 ^ clampN wide 64

theorem Try.info_u8' : (Try.prog.info? 5).map (fun i => (i.zero, i.size, i.bytes)) = some (some (.int .u8 0), 1, 1) := by kernel_rfl

theorem mod_step (a j : Nat) : a % 2 ^ (j + 1) = 2 * (a / 2 % 2 ^ j) + a % 2 := by
  rw [Nat.pow_succ, Nat.mul_comm, Nat.mod_mul]; omega
theorem byte_bits (n i : Nat) : (UInt8.ofNat (n / 256 ^ i)).toNat = n / 2 ^ (8 * i) % 2 ^ 8 := by
  rw [UInt8.toNat_ofNat', Nat.pow_mul]
theorem putL_take (n w j : Nat) (h : j < w) : (putL n w).take (j + 1) = (putL n w).take j ++ [UInt8.ofNat (n / 256 ^ (w - 1 - j))] := by
  induction w generalizing j with
  | zero => omega
  | succ w ih =>
    cases j with
    | zero => simp [putL]
    | succ j =>
      have := ih j (by omega)
      simp only [putL, List.take_succ_cons, List.cons_append, this]
      rw [show w + 1 - 1 - (j + 1) = w - 1 - j by omega]

theorem num_round (m : Nat) (c : UInt8) : IntKind.u64.wrap (IntKind.u64.wrap (256 * (m : Int)) + IntKind.u64.wrap (c.toNat : Int)) = (((m * 256 + c.toNat) % 18446744073709551616 : Nat) : Int) := by
  have hc := c.toNat_lt
  simp only [IntKind.wrap_u64]
  omega

/-- What Cut leaves of a text. -/
def cutB (s : ByteArray) (m : Nat) : ByteArray := if s.size ≤ m then s else s.extract 0 m
theorem cutB_size (s : ByteArray) (m : Nat) : (cutB s m).size ≤ m := by
  unfold cutB; split
  · assumption
  · simp; omega
end Go.Proofs.Ytodonfdkhnmdjaa

/-
  The walk of ClockCopies.
-/
import Derived.Test.YtiegeejbnplhdaaClA
namespace Go.Proofs.Ytiegeejbnplhdaa
open Go.RowKit
set_option linter.unusedVariables false
set_option linter.unusedSimpArgs false

theorem cutk_any (k : List UInt8) (hk : k.length ≤ maxLen) (w : World) : Calls Try.prog 7 #[.string (Str k), .int .i64 10] w fun x w' => x = .returned (.string (Str (k.take 10))) ∧ w = w' := by
  have h := cut_any (Str k) (by rw [Str_size]; exact hk) 10 (by omega) w
  rwa [cutB_Str] at h
theorem setE_len (l : List EN) (k : List UInt8) (t : Int) : (setE l k t).length ≤ l.length + 1 := by
  unfold setE
  rw [(insS_perm ltE (k, t) (cutE l k)).length_eq, List.length_cons]
  have := List.length_filter_le (fun x : EN => !decide (x.1 = k)) l
  unfold cutE
  omega
theorem take10_le (k : List UInt8) : (k.take 10).length ≤ maxLen := by rw [List.length_take]; unfold maxLen; omega
end Go.Proofs.Ytiegeejbnplhdaa

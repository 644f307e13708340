/-
  The document's answers of layer 12: before.
-/
import Derived.Test.YtiegeejbnplhdaaCkB
namespace Go.Proofs.Ytiegeejbnplhdaa
open Go.RowKit
set_option linter.unusedVariables false
set_option linter.unusedSimpArgs false

set_option maxRecDepth 100000 in
theorem before12_any (a b : EN) (w : World) : Calls Try.prog 25 #[.agg (enC a).toArray, .agg (enC b).toArray] w fun x w' => x = .returned (.bool (ltE a b)) ∧ Below w.heap.size w w' := by
  obtain ⟨ak, at'⟩ := a
  obtain ⟨bk, bt⟩ := b
  have hl := str_lessK ak bk
  have HL : Hid (ltE (ak, at') (bk, bt) = (decide (at' < bt) || (decide (at' = bt) && ltK ak bk))) := Lib.hid rfl
  have hbe : (at' == bt) = decide (at' = bt) := rfl
  generalize ltK ak bk = r at *
  have HBB := Lib.hid (fun (W : World) => ((Below.refl w.heap.size w).alloc (Nat.le_refl _) (.cells (enC (ak, at')).toArray 53)).alloc (by rw [World.size_alloc]; omega) (.cells (enC (bk, bt)).toArray 53))
  unfold enC
  by_cases h1 : at' < bt
  · have HD : Hid (ltE (ak, at') (bk, bt) = true) := Lib.hid (by rw [HL.out, decide_eq_true h1]; rfl)
    have hd : decide (at' < bt) = true := decide_eq_true h1
    go_enter Try.func25, Try.ntmps25
    go_wp2
    go_ret
    exact ⟨by rw [HD.out]; rfl, HBB.out w⟩
  · have hd : decide (at' < bt) = false := decide_eq_false h1
    by_cases h2 : at' = bt
    · subst h2
      have HD : Hid (ltE (ak, at') (bk, at') = r) := Lib.hid (by rw [HL.out, hd]; simp)
      have hq : (at' == at') = true := by simp
      go_enter Try.func25, Try.ntmps25
      go_wp2
      go_ret
      exact ⟨by rw [HD.out]; rfl, HBB.out w⟩
    · have HD : Hid (ltE (ak, at') (bk, bt) = false) := Lib.hid (by rw [HL.out, hd, decide_eq_false h2]; simp)
      have hq : (at' == bt) = false := by rw [hbe]; exact decide_eq_false h2
      go_enter Try.func25, Try.ntmps25
      go_wp2
      go_ret
      exact ⟨by rw [HD.out]; rfl, HBB.out w⟩
end Go.Proofs.Ytiegeejbnplhdaa

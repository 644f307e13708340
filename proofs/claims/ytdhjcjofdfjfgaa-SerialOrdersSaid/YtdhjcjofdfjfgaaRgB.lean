/-
  Numbers that go round: the program's answers.
-/
import Derived.Test.YtdhjcjofdfjfgaaRgL
namespace Go.Proofs.Ytdhjcjofdfjfgaa
open Go.RowKit
set_option linter.unusedVariables false
set_option linter.unusedSimpArgs false

set_option maxRecDepth 100000 in
theorem sadd_any (n k : Int) (w : World) : Calls Try.prog 10 #[.int .u32 n, .int .i64 k] w fun x w' => x = .returned (.int .u32 (addI n k)) ∧ w = w' := by
  have h1 : (n + k % 4294967296) % 4294967296 = addI n k := by unfold addI; omega
  go_enter Try.func10, Try.ntmps10
  go_wp2
  go_ret
  exact ⟨congrArg (fun v => Ending.returned (.int .u32 v)) h1, rfl⟩
set_option maxRecDepth 100000 in
theorem sgap_any (a b : Int) (w : World) : Calls Try.prog 7 #[.int .u32 a, .int .u32 b] w fun x w' => x = .returned (.int .i64 (gapI a b)) ∧ w = w' := by
  have h1 : wrap64 (wrap32 ((b - a) % 4294967296)) = gapI a b := by
    simp only [wrap64, wrap32]; unfold gapI; split <;> omega
  go_enter Try.func7, Try.ntmps7
  go_wp2
  go_ret
  exact ⟨congrArg (fun v => Ending.returned (.int .i64 v)) h1, rfl⟩
set_option maxRecDepth 100000 in
theorem sless_any (a b : Int) (w : World) : Calls Try.prog 9 #[.int .u32 a, .int .u32 b] w fun x w' => x = .returned (.bool (decide (0 < gapI a b))) ∧ w = w' := by
  have HG := Lib.hid (sgap_any a b w)
  go_enter Try.func9, Try.ntmps9
  go_wp2_with (go_at_call 7; (with_reducible refine HG.out.mono ?_); rintro x w1 ⟨rfl, rfl⟩)
  go_ret
  exact ⟨rfl, rfl⟩
set_option maxRecDepth 100000 in
theorem swithin_any (n f wide : Int) (w : World) : Calls Try.prog 13 #[.int .u32 n, .int .u32 f, .int .i64 wide] w fun x w' => x = .returned (.bool (inI n f wide)) ∧ w = w' := by
  obtain ⟨r, hr⟩ : ∃ r, (n - f) % 4294967296 = r := ⟨_, rfl⟩
  have h1 : IntKind.u32.wrap (n - f) = r := by rw [← hr]; simp only [IntKind.wrap_u32]
  have hr0 : 0 ≤ r := by omega
  unfold inI
  rw [hr]
  clear hr
  by_cases h : 2147483647 < wide
  · rw [if_pos h]
    have hg : ¬ wide < 2147483647 := by omega
    have hg2 : ¬ wide ≤ 2147483647 := by omega
    have hg3 : 0 ≤ wide := by omega
    have hg4 : ¬ wide < 0 := by omega
    have hg5 : 0 < wide := by omega
    have hg6 : ¬ wide ≤ 0 := by omega
    go_enter Try.func13, Try.ntmps13
    go_wp2
    go_ret
    exact ⟨rfl, rfl⟩
  · rw [if_neg h]
    have hg2 : wide ≤ 2147483647 := by omega
    by_cases h5 : wide ≤ 0
    · have e : decide (r < wide) = false := decide_eq_false (by omega)
      rw [e]
      have e2 : decide (r < 0) = false := decide_eq_false (by omega)
      have hg4 : ¬ 0 < wide := by omega
      clear e
      by_cases h6 : wide = 0
      · subst h6
        go_enter Try.func13, Try.ntmps13
        go_wp2
        go_ret
        exact ⟨rfl, rfl⟩
      · have h7 : wide < 0 := by omega
        have h8 : ¬ 0 ≤ wide := by omega
        clear hg4 h6 h5 h hg2
        go_enter Try.func13, Try.ntmps13
        go_wp2
        go_ret
        exact ⟨rfl, rfl⟩
    · have hg3 : 0 ≤ wide := by omega
      have hg4 : ¬ wide < 0 := by omega
      have hg5 : 0 < wide := by omega
      have hw : IntKind.u32.wrap wide = wide := by simp only [IntKind.wrap_u32]; omega
      go_enter Try.func13, Try.ntmps13
      go_wp2
      go_ret
      exact ⟨rfl, rfl⟩
/-- lives, and what is told of two small numbers. -/
theorem rg_live : gapI 4294967295 1 = 2 ∧ addI 4294967295 2 = 1 ∧ gapI 4294967295 0 = 1 ∧ gapI 0 2147483648 = -2147483648 := by decide
set_option maxRecDepth 100000 in
theorem lives13_any (w : World) : Calls Try.prog 12 #[] w fun x w' => x = .returned (.bool true) ∧ w = w' := by
  have HG := Lib.hid (fun a b W => sgap_any a b W)
  have HL := Lib.hid (fun a b W => sless_any a b W)
  have HA := Lib.hid (fun a b W => sadd_any a b W)
  obtain ⟨e1, e2, e3, e4⟩ := rg_live
  have HE := Lib.hid (show _ ∧ _ ∧ _ ∧ _ from ⟨e1, e2, e3, e4⟩)
  clear e1 e2 e3 e4
  go_enter Try.func12, Try.ntmps12
  go_wp2_with (first
    | (go_at_call 7; (with_reducible refine (HG.out _ _ _).mono ?_); rintro x w1 ⟨rfl, rfl⟩; rw [HE.out.1])
    | (go_at_call 10; (with_reducible refine (HA.out _ _ _).mono ?_); rintro x w1 ⟨rfl, rfl⟩; rw [HE.out.2.1])
    | (go_at_call 9; (with_reducible refine (HL.out 4294967295 0 _).mono ?_); rintro x w1 ⟨rfl, rfl⟩; rw [HE.out.2.2.1])
    | (go_at_call 9; (with_reducible refine (HL.out 0 2147483648 _).mono ?_); rintro x w1 ⟨rfl, rfl⟩; rw [HE.out.2.2.2]))
  go_ret
  exact ⟨rfl, rfl⟩
end Go.Proofs.Ytdhjcjofdfjfgaa

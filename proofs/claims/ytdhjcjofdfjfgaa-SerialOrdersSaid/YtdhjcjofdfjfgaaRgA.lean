/-
  Numbers that go round: the document's answers.
-/
import Derived.Test.YtdhjcjofdfjfgaaPureRg
import Derived.Test.YtdhjcjofdfjfgaaRefa
import Derived.Test.YtdhjcjofdfjfgaaVec
namespace Go.Proofs.Ytdhjcjofdfjfgaa
open Go.RowKit
set_option linter.unusedVariables false
set_option linter.unusedSimpArgs false

theorem tmod_is (n : Int) : ∃ r : Int, n.tmod 4294967296 = r ∧ (r < 0 → n % 4294967296 = r + 4294967296) ∧ (¬ r < 0 → n % 4294967296 = r) ∧ -4294967296 < r ∧ r < 4294967296 := by
  refine ⟨_, rfl, ?_⟩
  by_cases h : 0 ≤ n
  · rw [Int.tmod_eq_emod_of_nonneg h]; omega
  · obtain ⟨m, rfl⟩ : ∃ m, n = -m := ⟨-n, by omega⟩
    rw [Int.neg_tmod, Int.tmod_eq_emod_of_nonneg (by omega)]; omega
set_option maxRecDepth 100000 in
theorem ring_any (n : Int) (h1 : -9223372036854775808 ≤ n) (h2 : n ≤ 9223372036854775807) (w : World) : Calls Try.prog 17 #[.int .i64 n] w fun x w' => x = .returned (.int .i64 (n % 4294967296)) ∧ w = w' := by
  obtain ⟨r, hr, hrr⟩ := tmod_is n
  have hw : IntKind.i64.wrap r = r := by simp only [IntKind.wrap_i64]; omega
  have hw2 : IntKind.i64.wrap (n.tmod 4294967296) = r := by rw [hr, hw]
  by_cases h : r < 0
  · rw [hrr.1 h]
    have hw3 : IntKind.i64.wrap (r + 4294967296) = r + 4294967296 := by simp only [IntKind.wrap_i64]; omega
    go_enter Try.func17, Try.ntmps17
    go_wp2
    go_ret
    exact ⟨rfl, rfl⟩
  · rw [hrr.2.1 h]
    go_enter Try.func17, Try.ntmps17
    go_wp2
    go_ret
    exact ⟨rfl, rfl⟩
set_option maxRecDepth 100000 in
theorem add13_any (n k : Int) (n0 : 0 ≤ n) (n1 : n < 4294967296) (k0 : -9223372036854775808 ≤ k) (k1 : k ≤ 9223372036854775807) (w : World) : Calls Try.prog 11 #[.int .u32 n, .int .i64 k] w fun x w' => x = .returned (.int .u32 (addI n k)) ∧ w = w' := by
  have HR := Lib.hid (fun n h1 h2 W => ring_any n h1 h2 W)
  have h1 : IntKind.i64.wrap n = n := by simp only [IntKind.wrap_i64]; omega
  have h1b : IntKind.i64.wrap k = k := by simp only [IntKind.wrap_i64]; omega
  obtain ⟨r, hr⟩ : ∃ r, r = k % 4294967296 := ⟨_, rfl⟩
  have HRR := Lib.hid hr
  have HB : Hid (0 ≤ r ∧ r < 4294967296) := Lib.hid (by omega)
  have h2 : IntKind.i64.wrap (n + r) = n + r := by simp only [IntKind.wrap_i64]; have := HB.out; omega
  have h3 : IntKind.u32.wrap ((n + r) % 4294967296) = addI n k := by simp only [IntKind.wrap_u32]; unfold addI; omega
  clear hr
  go_enter Try.func11, Try.ntmps11
  go_wp2_with (first
    | (go_at_call 17; (with_reducible refine (HR.out k k0 k1 _).mono ?_); rintro x w1 ⟨rfl, rfl⟩; rw [← HRR.out])
    | (go_at_call 17; (with_reducible refine (HR.out (n + r) (by have := HB.out; omega) (by have := HB.out; omega) _).mono ?_); rintro x w1 ⟨rfl, rfl⟩))
  go_ret
  exact ⟨rfl, rfl⟩
set_option maxRecDepth 100000 in
theorem gap13_any (a b : Int) (a0 : 0 ≤ a) (a1 : a < 4294967296) (b0 : 0 ≤ b) (b1 : b < 4294967296) (w : World) : Calls Try.prog 8 #[.int .u32 a, .int .u32 b] w fun x w' => x = .returned (.int .i64 (gapI a b)) ∧ w = w' := by
  have HR := Lib.hid (fun n h1 h2 W => ring_any n h1 h2 W)
  have h1 : IntKind.i64.wrap a = a := by simp only [IntKind.wrap_i64]; omega
  have h1b : IntKind.i64.wrap b = b := by simp only [IntKind.wrap_i64]; omega
  have h2 : IntKind.i64.wrap (b - a) = b - a := by simp only [IntKind.wrap_i64]; omega
  obtain ⟨r, hr⟩ : ∃ r, (b - a) % 4294967296 = r := ⟨_, rfl⟩
  have HRR := Lib.hid hr
  have HB : Hid (0 ≤ r ∧ r < 4294967296) := Lib.hid (by omega)
  unfold gapI
  rw [hr]
  clear hr
  by_cases h : 2147483648 ≤ r
  · rw [if_pos h]
    have hg : r ≥ 2147483648 := h
    have h4 : IntKind.i64.wrap (r - 4294967296) = r - 4294967296 := by simp only [IntKind.wrap_i64]; have := HB.out; omega
    go_enter Try.func8, Try.ntmps8
    go_wp2_with (go_at_call 17; (with_reducible refine (HR.out (b - a) (by omega) (by omega) _).mono ?_); rintro x w1 ⟨rfl, rfl⟩; rw [HRR.out])
    go_ret
    exact ⟨rfl, rfl⟩
  · rw [if_neg h]
    have hg : ¬ r ≥ 2147483648 := h
    have h4 : IntKind.i64.wrap r = r := by simp only [IntKind.wrap_i64]; have := HB.out; omega
    go_enter Try.func8, Try.ntmps8
    go_wp2_with (go_at_call 17; (with_reducible refine (HR.out (b - a) (by omega) (by omega) _).mono ?_); rintro x w1 ⟨rfl, rfl⟩; rw [HRR.out])
    go_ret
    exact ⟨rfl, rfl⟩
set_option maxRecDepth 100000 in
theorem within13_any (n f wide : Int) (a0 : 0 ≤ n) (a1 : n < 4294967296) (b0 : 0 ≤ f) (b1 : f < 4294967296) (k0 : -9223372036854775808 ≤ wide) (k1 : wide ≤ 9223372036854775807) (w : World) : Calls Try.prog 14 #[.int .u32 n, .int .u32 f, .int .i64 wide] w fun x w' => x = .returned (.bool (inI n f wide)) ∧ w = w' := by
  have HR := Lib.hid (fun n h1 h2 W => ring_any n h1 h2 W)
  have h1 : IntKind.i64.wrap n = n := by simp only [IntKind.wrap_i64]; omega
  have h1b : IntKind.i64.wrap f = f := by simp only [IntKind.wrap_i64]; omega
  have h1c : IntKind.i64.wrap wide = wide := by simp only [IntKind.wrap_i64]; omega
  have h2 : IntKind.i64.wrap (n - f) = n - f := by simp only [IntKind.wrap_i64]; omega
  obtain ⟨r, hr⟩ : ∃ r, (n - f) % 4294967296 = r := ⟨_, rfl⟩
  have HRR := Lib.hid hr
  unfold inI
  rw [hr]
  clear hr
  by_cases h : 2147483647 < wide
  · rw [if_pos h]
    have hg : wide > 2147483647 := h
    go_enter Try.func14, Try.ntmps14
    go_wp2_with (go_at_call 17; (with_reducible refine (HR.out (n - f) (by omega) (by omega) _).mono ?_); rintro x w1 ⟨rfl, rfl⟩; rw [HRR.out])
    go_ret
    exact ⟨rfl, rfl⟩
  · rw [if_neg h]
    have hg : ¬ wide > 2147483647 := h
    go_enter Try.func14, Try.ntmps14
    go_wp2_with (go_at_call 17; (with_reducible refine (HR.out (n - f) (by omega) (by omega) _).mono ?_); rintro x w1 ⟨rfl, rfl⟩; rw [HRR.out])
    go_ret
    exact ⟨rfl, rfl⟩
end Go.Proofs.Ytdhjcjofdfjfgaa

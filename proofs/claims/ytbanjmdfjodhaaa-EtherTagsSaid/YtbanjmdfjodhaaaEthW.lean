/-
  The document's own word on what is wrong of bytes.
-/
import Derived.Test.YtbanjmdfjodhaaaEthR
namespace Go.Proofs.Ytbanjmdfjodhaaa
open Go.RowKit
set_option linter.unusedVariables false

theorem rnum2 (s : List UInt8) (hs : s.length ≤ 100000) (a b : Nat) (w : World) : Calls Try.prog 29 #[.string ((Str s).extract a b)] w fun x w' => x = .returned (.int .u64 (num ((s.drop a).take (b - a)))) ∧ w = w' := by
  have h := rnum_any ((Str s).extract a b) (by unfold maxLen; rw [Str_extract, Str_size]; simp; omega) w
  rw [Str_extract] at h ⊢
  exact h

set_option maxRecDepth 100000 in
set_option maxHeartbeats 2000000 in
theorem rwhy_any (s : List UInt8) (hs : s.length ≤ 100000) (w : World) : Calls Try.prog 15 #[.string (Str s)] w fun x w' => x = .returned (.int .i64 (whyV s)) ∧ Below w.heap.size w w' := by
  have hsz := Str_size s
  obtain ⟨R, hR⟩ : ∃ R, R = whyV s := ⟨_, rfl⟩
  rw [← hR]
  unfold whyV at hR
  have H1 := Lib.hid (rnum2 s hs 12 14)
  have H2 := Lib.hid (rnum2 s hs 14 16)
  have H3 := Lib.hid (fun w => (rnum2 s hs 16 18 w).mono fun x w' h => (⟨h.1, h.2.symm⟩ : x = .returned (.int .u64 (num ((s.drop 16).take (18 - 16)))) ∧ w' = w))
  simp only [show 14 - 12 = 2 from rfl] at H1 H2 H3
  have b1 : num ((s.drop 12).take 2) ≤ 18446744073709551615 := by have := num_lt ((s.drop 12).take 2); omega
  have b2 : num ((s.drop 14).take 2) ≤ 18446744073709551615 := by have := num_lt ((s.drop 14).take 2); omega
  have b3 : num ((s.drop 16).take 2) ≤ 18446744073709551615 := by have := num_lt ((s.drop 16).take 2); omega
  generalize num ((s.drop 12).take 2) = n1 at *
  generalize num ((s.drop 14).take 2) = n2 at *
  generalize num ((s.drop 16).take 2) = n3 at *
  generalize s.length = L at *
  generalize Str s = S at *
  by_cases h14 : L < 14
  · have HR := Lib.hid (show R = 3 by rw [hR, if_pos h14])
    clear hR b1 b2 b3
    go_enter Try.func15, Try.ntmps15
    go_wp2_with fail
    go_ret
    exact ⟨ret_int HR.out.symm, Below.refl _ _⟩
  · by_cases hk : n1 = 33024
    · have hk1 : ((n1 : Int) == 33024) = true := by simp; omega
      by_cases h18 : L < 18
      · have HR := Lib.hid (show R = 3 by rw [hR, if_neg h14, if_pos hk, if_pos h18])
        clear hR b1 b2 b3 hk
        go_enter Try.func15, Try.ntmps15
        go_wp2_with (go_at_call 29; (with_reducible refine (H1.out _).mono ?_); rintro x w1 ⟨rfl, rfl⟩)
        go_ret
        exact ⟨ret_int HR.out.symm, Below.refl _ _⟩
      · by_cases hw : n2 / 4096 % 2 = 1 ∨ n2 % 4096 = 4095
        · have HR := Lib.hid (show R = 5 by rw [hR, if_neg h14, if_pos hk, if_neg h18, if_pos hw])
          have hw1 : (((n2 : Int) / 4096 % 2 == 1) || ((n2 : Int) % 4096 == 4095)) = true := by rw [Bool.or_eq_true]; simp; omega
          clear hR hk
          go_enter Try.func15, Try.ntmps15
          go_wp2_with (first
            | (go_at_call 29; (with_reducible refine (H1.out _).mono ?_); rintro x w1 ⟨rfl, rfl⟩)
            | (go_at_call 29; (with_reducible refine (H2.out _).mono ?_); rintro x w1 ⟨rfl, rfl⟩))
          all_goals
            go_ret
            exact ⟨ret_int HR.out.symm, Below.refl _ _⟩
        · have hw1 : ((n2 : Int) / 4096 % 2 == 1) = false := by simp; omega
          have hw2 : ((n2 : Int) % 4096 == 4095) = false := by simp; omega
          have HR := Lib.hid (show R = if n3 = 33024 ∨ n3 < 1536 then 5 else if 1500 < L - 18 then 6 else 0 by rw [hR, if_neg h14, if_pos hk, if_neg h18, if_neg hw])
          clear hR hk hw
          go_enter Try.func15, Try.ntmps15
          go_wp2_with (first
            | (go_at_call 29; (with_reducible refine (H1.out _).mono ?_); rintro x w1 ⟨rfl, rfl⟩)
            | (go_at_call 29; (with_reducible refine (H2.out _).mono ?_); rintro x w1 ⟨rfl, rfl⟩))
          go_quiet ((go_at_call 29; exact Calls.quiet_of_same (H3.out _)))
          go_wp2_with fail
          all_goals
            go_ret
            exact ⟨ret_int (by rw [HR.out]; by_cases c1 : n3 = 33024 <;> by_cases c2 : n3 < 1536 <;> by_cases c3 : 1500 < L - 18 <;> simp_all <;> omega), bdrewN (Below.refl _ _) _⟩
    · have hk1 : ((n1 : Int) == 33024) = false := by simp; omega
      have HR := Lib.hid (show R = if n1 < 1536 then 5 else if 1500 < L - 14 then 6 else 0 by rw [hR, if_neg h14, if_neg hk])
      clear hR hk
      go_enter Try.func15, Try.ntmps15
      go_wp2_with (first
        | (go_at_call 29; (with_reducible refine (H1.out _).mono ?_); rintro x w1 ⟨rfl, rfl⟩))
      all_goals
        go_ret
        exact ⟨ret_int (by rw [HR.out]; by_cases c2 : n1 < 1536 <;> by_cases c3 : 1500 < L - 14 <;> simp_all <;> omega), Below.refl _ _⟩
end Go.Proofs.Ytbanjmdfjodhaaa

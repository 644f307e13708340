/-
  The walks of the laws of layer 7.
-/
import Derived.Test.YtodonfdkhnmdjaaCodP
import Derived.OpenShut
namespace Go.Proofs.Ytodonfdkhnmdjaa
open Go.RowKit
set_option linter.unusedVariables false

theorem clamp_in (c m : Nat) (h : c ≤ m) : clampN (c : Int) m = c := by unfold clampN; split <;> omega
theorem exact_val (c u m : Nat) (hu : 0 < u) (hm : m < 16 * u) (hc : c ≤ m) : exactN (valN c u) u m = true := by
  unfold exactN
  rw [decide_eq_true_eq]
  exact ⟨Int.natCast_nonneg _, by rw [← codeN_uniq hu hm (IsCode.back hu hm hc)]⟩
theorem code_val (c u m : Nat) (hu : 0 < u) (hm : m < 16 * u) (hc : c ≤ m) : codeN (valN c u) u m = c := (codeN_uniq hu hm (IsCode.back hu hm hc)).symm
set_option maxRecDepth 100000 in
theorem live7 : codeN 255 16 255 = 143 ∧ codeN 256 16 255 = 144 := by decide +kernel
theorem lives7_any (w : World) : Calls Try.prog 14 #[] w fun x w' => x = .returned (.bool true) ∧ Below w.heap.size w w' := by
  have H1 : Hid (∀ W, Calls Try.prog 6 #[.int .i64 143] W fun x w' => x = .returned (.int .i64 248) ∧ Below W.heap.size W w') := Lib.hid fun W => value8_any 143 W
  have H2 : Hid (∀ W, Calls Try.prog 12 #[.int .i64 255] W fun x w' => x = .returned (.int .i64 143) ∧ Below W.heap.size W w') := Lib.hid fun W => by
    have := code8_any 255 W; rw [live7.1] at this; exact this
  have H3 : Hid (∀ W, Calls Try.prog 12 #[.int .i64 256] W fun x w' => x = .returned (.int .i64 144) ∧ Below W.heap.size W w') := Lib.hid fun W => by
    have := code8_any 256 W; rw [live7.2] at this; exact this
  have H4 : Hid (∀ W, Calls Try.prog 7 #[.int .i64 32768] W fun x w' => x = .returned (.int .i64 32768) ∧ Below W.heap.size W w') := Lib.hid fun W => value16_any 32768 W
  have HB := Lib.hid (Below.refl w.heap.size w)
  go_enter Try.func14, Try.ntmps14
  go_wp2_with (first
    | (go_at_call 6; (with_reducible refine (H1.out _).mono ?_); rintro x w1 ⟨rfl, hb⟩; have HB := Lib.hid (bstep HB.out hb); clear hb)
    | (go_at_call 12; (with_reducible refine (H2.out _).mono ?_); rintro x w1 ⟨rfl, hb⟩; have HB := Lib.hid (bstep HB.out hb); clear hb)
    | (go_at_call 12; (with_reducible refine (H3.out _).mono ?_); rintro x w1 ⟨rfl, hb⟩; have HB := Lib.hid (bstep HB.out hb); clear hb)
    | (go_at_call 7; (with_reducible refine (H4.out _).mono ?_); rintro x w1 ⟨rfl, hb⟩; have HB := Lib.hid (bstep HB.out hb); clear hb))
  go_ret
  exact ⟨rfl, HB.out⟩

set_option maxRecDepth 100000 in
set_option maxHeartbeats 1000000 in
theorem cvalues (n : Int) (hn : (Lit.int .i64 n).wf = true) (w : World) : Calls Try.prog 3 #[.int .i64 n] w fun x w' => x = .returned (.bool true) ∧ Below w.heap.size w w' := by
  have HB := Lib.hid (Below.refl w.heap.size w)
  have hc1 := clampN_le n 255
  have hc2 := clampN_le n 65535
  have HV8 := Lib.hid (fun W => value8_any n W)
  have HV16 := Lib.hid (fun W => value16_any n W)
  have HR8 := Lib.hid (fun W => rvalue8 n W)
  have HR16 := Lib.hid (fun W => rvalue16 n W)
  have HE8 : Hid (∀ W, Calls Try.prog 10 #[.int .i64 (valN (clampN n 255) 16)] W fun x w' => x = .returned (.bool true) ∧ Below W.heap.size W w') := Lib.hid fun W => by
    have := exact8_any (valN (clampN n 255) 16) W
    rw [exact_val _ 16 255 (by omega) (by omega) hc1] at this; exact this
  have HE16 : Hid (∀ W, Calls Try.prog 11 #[.int .i64 (valN (clampN n 65535) 4096)] W fun x w' => x = .returned (.bool true) ∧ Below W.heap.size W w') := Lib.hid fun W => by
    have := exact16_any (valN (clampN n 65535) 4096) W
    rw [exact_val _ 4096 65535 (by omega) (by omega) hc2] at this; exact this
  have HC8 : Hid (∀ W, Calls Try.prog 12 #[.int .i64 (valN (clampN n 255) 16)] W fun x w' => x = .returned (.int .i64 (clampN n 255)) ∧ Below W.heap.size W w') := Lib.hid fun W => by
    have := code8_any (valN (clampN n 255) 16) W
    rw [code_val _ 16 255 (by omega) (by omega) hc1] at this; exact this
  have HC16 : Hid (∀ W, Calls Try.prog 13 #[.int .i64 (valN (clampN n 65535) 4096)] W fun x w' => x = .returned (.int .i64 (clampN n 65535)) ∧ Below W.heap.size W w') := Lib.hid fun W => by
    have := code16_any (valN (clampN n 65535) 4096) W
    rw [code_val _ 4096 65535 (by omega) (by omega) hc2] at this; exact this
  have hne : ∀ z : Int, (z != z) = false := fun z => by simp
  generalize valN (clampN n 255) 16 = X at *
  generalize valN (clampN n 65535) 4096 = Y at *
  have hsame8 : 0 ≤ n → n < 256 → (clampN n 255 : Int) = n := fun h1 h2 => by unfold clampN; split <;> omega
  have hsame16 : 0 ≤ n → n ≤ 65535 → (clampN n 65535 : Int) = n := fun h1 h2 => by unfold clampN; split <;> omega
  generalize clampN n 255 = c8 at *
  generalize clampN n 65535 = c16 at *
  have HS8 := Lib.hid hsame8
  have HS16 := Lib.hid hsame16
  clear hc1 hc2 hn hsame8 hsame16
  by_cases h0 : 0 ≤ n
  · by_cases h1 : n < 256
    · have e8 : ((c8 : Int) != n) = false := by rw [HS8.out h0 h1]; simp
      have e16 : ((c16 : Int) == n) = true := by rw [HS16.out h0 (by omega)]; simp
      have e3 : ¬ n < 0 := by omega
      have e4 : ¬ 65535 < n := by omega
      go_enter Try.func3, Try.ntmps3
      go_wp2_with (first
        | (go_at_call 6; (with_reducible refine (HV8.out _).mono ?_); rintro x w1 ⟨rfl, hb⟩; have HB := Lib.hid (bstep HB.out hb); clear hb)
        | (go_at_call 7; (with_reducible refine (HV16.out _).mono ?_); rintro x w1 ⟨rfl, hb⟩; have HB := Lib.hid (bstep HB.out hb); clear hb)
        | (go_at_call 8; (with_reducible refine (HR8.out _).mono ?_); rintro x w1 ⟨rfl, rfl⟩)
        | (go_at_call 9; (with_reducible refine (HR16.out _).mono ?_); rintro x w1 ⟨rfl, rfl⟩)
        | (go_at_call 10; (with_reducible refine (HE8.out _).mono ?_); rintro x w1 ⟨rfl, hb⟩; have HB := Lib.hid (bstep HB.out hb); clear hb)
        | (go_at_call 11; (with_reducible refine (HE16.out _).mono ?_); rintro x w1 ⟨rfl, hb⟩; have HB := Lib.hid (bstep HB.out hb); clear hb)
        | (go_at_call 12; (with_reducible refine (HC8.out _).mono ?_); rintro x w1 ⟨rfl, hb⟩; have HB := Lib.hid (bstep HB.out hb); clear hb)
        | (go_at_call 13; (with_reducible refine (HC16.out _).mono ?_); rintro x w1 ⟨rfl, hb⟩; have HB := Lib.hid (bstep HB.out hb); clear hb)
        | (go_at_call 14; (with_reducible refine (lives7_any _).mono ?_); rintro x w1 ⟨rfl, hb⟩; have HB := Lib.hid (bstep HB.out hb); clear hb))
      go_ret
      exact ⟨rfl, HB.out⟩
    · by_cases h2 : n ≤ 65535
      · have e16 : ((c16 : Int) == n) = true := by rw [HS16.out h0 h2]; simp
        have e3 : ¬ n < 0 := by omega
        have e4 : ¬ 65535 < n := by omega
        go_enter Try.func3, Try.ntmps3
        go_wp2_with (first
        | (go_at_call 6; (with_reducible refine (HV8.out _).mono ?_); rintro x w1 ⟨rfl, hb⟩; have HB := Lib.hid (bstep HB.out hb); clear hb)
        | (go_at_call 7; (with_reducible refine (HV16.out _).mono ?_); rintro x w1 ⟨rfl, hb⟩; have HB := Lib.hid (bstep HB.out hb); clear hb)
        | (go_at_call 8; (with_reducible refine (HR8.out _).mono ?_); rintro x w1 ⟨rfl, rfl⟩)
        | (go_at_call 9; (with_reducible refine (HR16.out _).mono ?_); rintro x w1 ⟨rfl, rfl⟩)
        | (go_at_call 10; (with_reducible refine (HE8.out _).mono ?_); rintro x w1 ⟨rfl, hb⟩; have HB := Lib.hid (bstep HB.out hb); clear hb)
        | (go_at_call 11; (with_reducible refine (HE16.out _).mono ?_); rintro x w1 ⟨rfl, hb⟩; have HB := Lib.hid (bstep HB.out hb); clear hb)
        | (go_at_call 12; (with_reducible refine (HC8.out _).mono ?_); rintro x w1 ⟨rfl, hb⟩; have HB := Lib.hid (bstep HB.out hb); clear hb)
        | (go_at_call 13; (with_reducible refine (HC16.out _).mono ?_); rintro x w1 ⟨rfl, hb⟩; have HB := Lib.hid (bstep HB.out hb); clear hb)
        | (go_at_call 14; (with_reducible refine (lives7_any _).mono ?_); rintro x w1 ⟨rfl, hb⟩; have HB := Lib.hid (bstep HB.out hb); clear hb))
        go_ret
        exact ⟨rfl, HB.out⟩
      · have e3 : ¬ n < 0 := by omega
        have e4 : 65535 < n := by omega
        go_enter Try.func3, Try.ntmps3
        go_wp2_with (first
        | (go_at_call 6; (with_reducible refine (HV8.out _).mono ?_); rintro x w1 ⟨rfl, hb⟩; have HB := Lib.hid (bstep HB.out hb); clear hb)
        | (go_at_call 7; (with_reducible refine (HV16.out _).mono ?_); rintro x w1 ⟨rfl, hb⟩; have HB := Lib.hid (bstep HB.out hb); clear hb)
        | (go_at_call 8; (with_reducible refine (HR8.out _).mono ?_); rintro x w1 ⟨rfl, rfl⟩)
        | (go_at_call 9; (with_reducible refine (HR16.out _).mono ?_); rintro x w1 ⟨rfl, rfl⟩)
        | (go_at_call 10; (with_reducible refine (HE8.out _).mono ?_); rintro x w1 ⟨rfl, hb⟩; have HB := Lib.hid (bstep HB.out hb); clear hb)
        | (go_at_call 11; (with_reducible refine (HE16.out _).mono ?_); rintro x w1 ⟨rfl, hb⟩; have HB := Lib.hid (bstep HB.out hb); clear hb)
        | (go_at_call 12; (with_reducible refine (HC8.out _).mono ?_); rintro x w1 ⟨rfl, hb⟩; have HB := Lib.hid (bstep HB.out hb); clear hb)
        | (go_at_call 13; (with_reducible refine (HC16.out _).mono ?_); rintro x w1 ⟨rfl, hb⟩; have HB := Lib.hid (bstep HB.out hb); clear hb)
        | (go_at_call 14; (with_reducible refine (lives7_any _).mono ?_); rintro x w1 ⟨rfl, hb⟩; have HB := Lib.hid (bstep HB.out hb); clear hb))
        go_ret
        exact ⟨rfl, HB.out⟩
  · have e3 : n < 0 := by omega
    go_enter Try.func3, Try.ntmps3
    go_wp2_with (first
        | (go_at_call 6; (with_reducible refine (HV8.out _).mono ?_); rintro x w1 ⟨rfl, hb⟩; have HB := Lib.hid (bstep HB.out hb); clear hb)
        | (go_at_call 7; (with_reducible refine (HV16.out _).mono ?_); rintro x w1 ⟨rfl, hb⟩; have HB := Lib.hid (bstep HB.out hb); clear hb)
        | (go_at_call 8; (with_reducible refine (HR8.out _).mono ?_); rintro x w1 ⟨rfl, rfl⟩)
        | (go_at_call 9; (with_reducible refine (HR16.out _).mono ?_); rintro x w1 ⟨rfl, rfl⟩)
        | (go_at_call 10; (with_reducible refine (HE8.out _).mono ?_); rintro x w1 ⟨rfl, hb⟩; have HB := Lib.hid (bstep HB.out hb); clear hb)
        | (go_at_call 11; (with_reducible refine (HE16.out _).mono ?_); rintro x w1 ⟨rfl, hb⟩; have HB := Lib.hid (bstep HB.out hb); clear hb)
        | (go_at_call 12; (with_reducible refine (HC8.out _).mono ?_); rintro x w1 ⟨rfl, hb⟩; have HB := Lib.hid (bstep HB.out hb); clear hb)
        | (go_at_call 13; (with_reducible refine (HC16.out _).mono ?_); rintro x w1 ⟨rfl, hb⟩; have HB := Lib.hid (bstep HB.out hb); clear hb)
        | (go_at_call 14; (with_reducible refine (lives7_any _).mono ?_); rintro x w1 ⟨rfl, hb⟩; have HB := Lib.hid (bstep HB.out hb); clear hb))
    go_ret
    exact ⟨rfl, HB.out⟩

set_option maxRecDepth 100000 in
set_option maxHeartbeats 2000000 in
theorem ccodes (n : Int) (hn : (Lit.int .i64 n).wf = true) (w : World) : Calls Try.prog 4 #[.int .i64 n] w fun x w' => x = .returned (.bool true) ∧ Below w.heap.size w w' := by
  have HB := Lib.hid (Below.refl w.heap.size w)
  have hne : ∀ z : Int, (z != z) = false := fun z => by simp
  have hbs : ∀ b : Bool, (b == b) = true := fun b => by simp
  have ia := codeN_is n 16 255
  have ib := codeN_is n 4096 65535
  have HC8 := Lib.hid (fun W => code8_any n W)
  have HC16 := Lib.hid (fun W => code16_any n W)
  have HR8 := Lib.hid (fun W => rcode8 n W)
  have HR16 := Lib.hid (fun W => rcode16 n W)
  have HX8 := Lib.hid (fun W => exact8_any n W)
  have HX16 := Lib.hid (fun W => exact16_any n W)
  have hx8 : exactN n 16 255 = decide (0 ≤ n ∧ (valN (codeN n 16 255) 16 : Int) = n) := rfl
  have hx16 : exactN n 4096 65535 = decide (0 ≤ n ∧ (valN (codeN n 4096 65535) 4096 : Int) = n) := rfl
  rw [hx8] at HX8
  rw [hx16] at HX16
  clear hx8 hx16
  have HA : Hid (∀ W, Calls Try.prog 8 #[.int .i64 (codeN n 16 255)] W fun x w' => x = .returned (.int .i64 (valN (codeN n 16 255) 16)) ∧ W = w') := Lib.hid fun W => by
    have := rvalue8 (codeN n 16 255) W
    rw [clamp_in _ 255 ia.1] at this; exact this
  have HD : Hid (∀ W, Calls Try.prog 9 #[.int .i64 (codeN n 4096 65535)] W fun x w' => x = .returned (.int .i64 (valN (codeN n 4096 65535) 4096)) ∧ W = w') := Lib.hid fun W => by
    have := rvalue16 (codeN n 4096 65535) W
    rw [clamp_in _ 65535 ib.1] at this; exact this
  have HA1 : Hid (codeN n 16 255 < 255 → ∀ W, Calls Try.prog 8 #[.int .i64 ((codeN n 16 255 : Nat) + 1 : Int)] W fun x w' => x = .returned (.int .i64 (valN (codeN n 16 255 + 1) 16)) ∧ W = w') := Lib.hid fun h W => by
    have := rvalue8 ((codeN n 16 255 + 1 : Nat) : Int) W
    rw [clamp_in _ 255 (by omega)] at this; exact this
  have HD1 : Hid (codeN n 4096 65535 < 65535 → ∀ W, Calls Try.prog 9 #[.int .i64 ((codeN n 4096 65535 : Nat) + 1 : Int)] W fun x w' => x = .returned (.int .i64 (valN (codeN n 4096 65535 + 1) 4096)) ∧ W = w') := Lib.hid fun h W => by
    have := rvalue16 ((codeN n 4096 65535 + 1 : Nat) : Int) W
    rw [clamp_in _ 65535 (by omega)] at this; exact this
  have ka := fun h => IsCode.low (u := 16) (by omega) h ia
  have kb := fun h => IsCode.low (u := 4096) (by omega) h ib
  have ja := ia.2.2
  have jb := ib.2.2
  have la := ia.1
  have lb := ib.1
  clear ia ib hn
  generalize valN (codeN n 16 255 + 1) 16 = va1 at *
  generalize valN (codeN n 4096 65535 + 1) 4096 = vb1 at *
  generalize valN (codeN n 16 255) 16 = va at *
  generalize valN (codeN n 4096 65535) 4096 = vb at *
  generalize codeN n 16 255 = a at *
  generalize codeN n 4096 65535 = b at *
  have a0 : (0 : Int) ≤ (a : Int) := by omega
  have b0 : (0 : Int) ≤ (b : Int) := by omega
  have la' : (a : Int) ≤ 255 := by omega
  have lb' : (b : Int) ≤ 65535 := by omega
  have ja' : (a : Int) = 255 ∨ n < (va1 : Int) := by omega
  have jb' : (b : Int) = 65535 ∨ n < (vb1 : Int) := by omega
  have HA1' : Hid ((a : Int) < 255 → ∀ W, Calls Try.prog 8 #[.int .i64 ((a : Int) + 1)] W fun x w' => x = .returned (.int .i64 va1) ∧ W = w') := Lib.hid fun h => HA1.out (by omega)
  have HD1' : Hid ((b : Int) < 65535 → ∀ W, Calls Try.prog 9 #[.int .i64 ((b : Int) + 1)] W fun x w' => x = .returned (.int .i64 vb1) ∧ W = w') := Lib.hid fun h => HD1.out (by omega)
  clear HA1 HD1 ja jb la lb
  generalize (va1 : Int) = va1 at *
  generalize (vb1 : Int) = vb1 at *
  generalize (va : Int) = va at *
  generalize (vb : Int) = vb at *
  generalize (a : Int) = a at *
  generalize (b : Int) = b at *
  by_cases h0 : 0 ≤ n
  · have ka := ka h0
    have kb := kb h0
    have x8 : decide (0 ≤ n ∧ va = n) = (va == n) := by rw [Bool.eq_iff_iff]; simp; intro _; exact h0
    have x16 : decide (0 ≤ n ∧ vb = n) = (vb == n) := by rw [Bool.eq_iff_iff]; simp; intro _; exact h0
    rw [x8] at HX8
    rw [x16] at HX16
    clear x8 x16
    have g1 : ¬ n < va := by omega
    have g2 : ¬ n < vb := by omega
    have i1 : IntKind.i64.wrap (a + 1) = a + 1 := by simp only [IntKind.wrap_i64]; omega
    have i2 : IntKind.i64.wrap (b + 1) = b + 1 := by simp only [IntKind.wrap_i64]; omega
    by_cases ha : a = 255
    · have q1 : ¬ a < 255 := by omega
      by_cases hb : b = 65535
      · have q2 : ¬ b < 65535 := by omega
        clear ja' jb' la' lb' ka kb ha hb a0 b0
        go_enter Try.func4, Try.ntmps4
        go_wp2_with (first
          | (go_at_call 12; (with_reducible refine (HC8.out _).mono ?_); rintro x w1 ⟨rfl, hb⟩; have HB := Lib.hid (bstep HB.out hb); clear hb)
          | (go_at_call 13; (with_reducible refine (HC16.out _).mono ?_); rintro x w1 ⟨rfl, hb⟩; have HB := Lib.hid (bstep HB.out hb); clear hb)
          | (go_at_call 15; (with_reducible refine (HR8.out _).mono ?_); rintro x w1 ⟨rfl, rfl⟩)
          | (go_at_call 16; (with_reducible refine (HR16.out _).mono ?_); rintro x w1 ⟨rfl, rfl⟩)
          | (go_at_call 8; (with_reducible refine (HA.out _).mono ?_); rintro x w1 ⟨rfl, rfl⟩)
          | (go_at_call 9; (with_reducible refine (HD.out _).mono ?_); rintro x w1 ⟨rfl, rfl⟩)
          | (go_at_call 10; (with_reducible refine (HX8.out _).mono ?_); rintro x w1 ⟨rfl, hb⟩; have HB := Lib.hid (bstep HB.out hb); clear hb)
          | (go_at_call 11; (with_reducible refine (HX16.out _).mono ?_); rintro x w1 ⟨rfl, hb⟩; have HB := Lib.hid (bstep HB.out hb); clear hb)
          | (go_at_call 14; (with_reducible refine (lives7_any _).mono ?_); rintro x w1 ⟨rfl, hb⟩; have HB := Lib.hid (bstep HB.out hb); clear hb))
        go_ret
        exact ⟨rfl, HB.out⟩
      · have q2 : b < 65535 := by omega
        have HD2 := Lib.hid (HD1'.out (by omega))
        have g4 : ¬ vb1 ≤ n := by omega
        clear ja' jb' la' lb' ka kb ha hb a0 b0
        go_enter Try.func4, Try.ntmps4
        go_wp2_with (first
          | (go_at_call 12; (with_reducible refine (HC8.out _).mono ?_); rintro x w1 ⟨rfl, hb⟩; have HB := Lib.hid (bstep HB.out hb); clear hb)
          | (go_at_call 13; (with_reducible refine (HC16.out _).mono ?_); rintro x w1 ⟨rfl, hb⟩; have HB := Lib.hid (bstep HB.out hb); clear hb)
          | (go_at_call 15; (with_reducible refine (HR8.out _).mono ?_); rintro x w1 ⟨rfl, rfl⟩)
          | (go_at_call 16; (with_reducible refine (HR16.out _).mono ?_); rintro x w1 ⟨rfl, rfl⟩)
          | (go_at_call 8; (with_reducible refine (HA.out _).mono ?_); rintro x w1 ⟨rfl, rfl⟩)
          | (go_at_call 9; (with_reducible refine (HD.out _).mono ?_); rintro x w1 ⟨rfl, rfl⟩)
          | (go_at_call 9; (with_reducible refine (HD2.out _).mono ?_); rintro x w1 ⟨rfl, rfl⟩)
          | (go_at_call 10; (with_reducible refine (HX8.out _).mono ?_); rintro x w1 ⟨rfl, hb⟩; have HB := Lib.hid (bstep HB.out hb); clear hb)
          | (go_at_call 11; (with_reducible refine (HX16.out _).mono ?_); rintro x w1 ⟨rfl, hb⟩; have HB := Lib.hid (bstep HB.out hb); clear hb)
          | (go_at_call 14; (with_reducible refine (lives7_any _).mono ?_); rintro x w1 ⟨rfl, hb⟩; have HB := Lib.hid (bstep HB.out hb); clear hb))
        go_ret
        exact ⟨rfl, HB.out⟩
    · have q1 : a < 255 := by omega
      have HA2 := Lib.hid (HA1'.out (by omega))
      have g3 : ¬ va1 ≤ n := by omega
      by_cases hb : b = 65535
      · have q2 : ¬ b < 65535 := by omega
        clear ja' jb' la' lb' ka kb ha hb a0 b0
        go_enter Try.func4, Try.ntmps4
        go_wp2_with (first
          | (go_at_call 12; (with_reducible refine (HC8.out _).mono ?_); rintro x w1 ⟨rfl, hb⟩; have HB := Lib.hid (bstep HB.out hb); clear hb)
          | (go_at_call 13; (with_reducible refine (HC16.out _).mono ?_); rintro x w1 ⟨rfl, hb⟩; have HB := Lib.hid (bstep HB.out hb); clear hb)
          | (go_at_call 15; (with_reducible refine (HR8.out _).mono ?_); rintro x w1 ⟨rfl, rfl⟩)
          | (go_at_call 16; (with_reducible refine (HR16.out _).mono ?_); rintro x w1 ⟨rfl, rfl⟩)
          | (go_at_call 8; (with_reducible refine (HA.out _).mono ?_); rintro x w1 ⟨rfl, rfl⟩)
          | (go_at_call 9; (with_reducible refine (HD.out _).mono ?_); rintro x w1 ⟨rfl, rfl⟩)
          | (go_at_call 8; (with_reducible refine (HA2.out _).mono ?_); rintro x w1 ⟨rfl, rfl⟩)
          | (go_at_call 10; (with_reducible refine (HX8.out _).mono ?_); rintro x w1 ⟨rfl, hb⟩; have HB := Lib.hid (bstep HB.out hb); clear hb)
          | (go_at_call 11; (with_reducible refine (HX16.out _).mono ?_); rintro x w1 ⟨rfl, hb⟩; have HB := Lib.hid (bstep HB.out hb); clear hb)
          | (go_at_call 14; (with_reducible refine (lives7_any _).mono ?_); rintro x w1 ⟨rfl, hb⟩; have HB := Lib.hid (bstep HB.out hb); clear hb))
        go_ret
        exact ⟨rfl, HB.out⟩
      · have q2 : b < 65535 := by omega
        have HD2 := Lib.hid (HD1'.out (by omega))
        have g4 : ¬ vb1 ≤ n := by omega
        clear ja' jb' la' lb' ka kb ha hb a0 b0
        go_enter Try.func4, Try.ntmps4
        go_wp2_with (first
          | (go_at_call 12; (with_reducible refine (HC8.out _).mono ?_); rintro x w1 ⟨rfl, hb⟩; have HB := Lib.hid (bstep HB.out hb); clear hb)
          | (go_at_call 13; (with_reducible refine (HC16.out _).mono ?_); rintro x w1 ⟨rfl, hb⟩; have HB := Lib.hid (bstep HB.out hb); clear hb)
          | (go_at_call 15; (with_reducible refine (HR8.out _).mono ?_); rintro x w1 ⟨rfl, rfl⟩)
          | (go_at_call 16; (with_reducible refine (HR16.out _).mono ?_); rintro x w1 ⟨rfl, rfl⟩)
          | (go_at_call 8; (with_reducible refine (HA.out _).mono ?_); rintro x w1 ⟨rfl, rfl⟩)
          | (go_at_call 9; (with_reducible refine (HD.out _).mono ?_); rintro x w1 ⟨rfl, rfl⟩)
          | (go_at_call 8; (with_reducible refine (HA2.out _).mono ?_); rintro x w1 ⟨rfl, rfl⟩)
          | (go_at_call 9; (with_reducible refine (HD2.out _).mono ?_); rintro x w1 ⟨rfl, rfl⟩)
          | (go_at_call 10; (with_reducible refine (HX8.out _).mono ?_); rintro x w1 ⟨rfl, hb⟩; have HB := Lib.hid (bstep HB.out hb); clear hb)
          | (go_at_call 11; (with_reducible refine (HX16.out _).mono ?_); rintro x w1 ⟨rfl, hb⟩; have HB := Lib.hid (bstep HB.out hb); clear hb)
          | (go_at_call 14; (with_reducible refine (lives7_any _).mono ?_); rintro x w1 ⟨rfl, hb⟩; have HB := Lib.hid (bstep HB.out hb); clear hb))
        go_ret
        exact ⟨rfl, HB.out⟩
  · have x8 : decide (0 ≤ n ∧ va = n) = false := by simp; omega
    have x16 : decide (0 ≤ n ∧ vb = n) = false := by simp; omega
    rw [x8] at HX8
    rw [x16] at HX16
    clear x8 x16 ka kb ja' jb' la' lb' a0 b0
    go_enter Try.func4, Try.ntmps4
    go_wp2_with (first
      | (go_at_call 12; (with_reducible refine (HC8.out _).mono ?_); rintro x w1 ⟨rfl, hb⟩; have HB := Lib.hid (bstep HB.out hb); clear hb)
      | (go_at_call 13; (with_reducible refine (HC16.out _).mono ?_); rintro x w1 ⟨rfl, hb⟩; have HB := Lib.hid (bstep HB.out hb); clear hb)
      | (go_at_call 15; (with_reducible refine (HR8.out _).mono ?_); rintro x w1 ⟨rfl, rfl⟩)
      | (go_at_call 16; (with_reducible refine (HR16.out _).mono ?_); rintro x w1 ⟨rfl, rfl⟩)
      | (go_at_call 8; (with_reducible refine (HA.out _).mono ?_); rintro x w1 ⟨rfl, rfl⟩)
      | (go_at_call 9; (with_reducible refine (HD.out _).mono ?_); rintro x w1 ⟨rfl, rfl⟩)
      | (go_at_call 10; (with_reducible refine (HX8.out _).mono ?_); rintro x w1 ⟨rfl, hb⟩; have HB := Lib.hid (bstep HB.out hb); clear hb)
      | (go_at_call 11; (with_reducible refine (HX16.out _).mono ?_); rintro x w1 ⟨rfl, hb⟩; have HB := Lib.hid (bstep HB.out hb); clear hb)
      | (go_at_call 14; (with_reducible refine (lives7_any _).mono ?_); rintro x w1 ⟨rfl, hb⟩; have HB := Lib.hid (bstep HB.out hb); clear hb))
    go_ret
    exact ⟨rfl, HB.out⟩

set_option maxRecDepth 100000 in
set_option maxHeartbeats 1000000 in
theorem crises (m k : Int) (hm : (Lit.int .u16 m).wf = true) (hk : (Lit.int .u16 k).wf = true) (w : World) : Calls Try.prog 5 #[.int .u16 m, .int .u16 k] w fun x w' => x = .returned (.bool true) ∧ Below w.heap.size w w' := by
  obtain ⟨m0, m1⟩ := bounds_u16 hm
  obtain ⟨k0, k1⟩ := bounds_u16 hk
  have HB := Lib.hid (Below.refl w.heap.size w)
  obtain ⟨M, rfl⟩ := Int.eq_ofNat_of_zero_le m0
  obtain ⟨K, rfl⟩ := Int.eq_ofNat_of_zero_le k0
  obtain ⟨x, hx⟩ : ∃ x, x = M % 256 := ⟨_, rfl⟩
  obtain ⟨y, hy⟩ : ∃ y, y = K % 256 := ⟨_, rfl⟩
  have t1 : (M : Int) % 256 = (x : Int) := by omega
  have t2 : (K : Int) % 256 = (y : Int) := by omega
  have bx : x ≤ 255 := by omega
  have by_ : y ≤ 255 := by omega
  have u1 : IntKind.u16.wrap (x : Int) = (x : Int) := by simp only [IntKind.wrap_u16]; omega
  have u2 : IntKind.u16.wrap (y : Int) = (y : Int) := by simp only [IntKind.wrap_u16]; omega
  have i1 : IntKind.i64.wrap (x : Int) = (x : Int) := by simp only [IntKind.wrap_i64]; omega
  have i2 : IntKind.i64.wrap (y : Int) = (y : Int) := by simp only [IntKind.wrap_i64]; omega
  have i3 : IntKind.i64.wrap (M : Int) = (M : Int) := by simp only [IntKind.wrap_i64]; omega
  have i4 : IntKind.i64.wrap (K : Int) = (K : Int) := by simp only [IntKind.wrap_i64]; omega
  have H1 : Hid (∀ W, Calls Try.prog 6 #[.int .i64 (x : Int)] W fun e w' => e = .returned (.int .i64 (valN x 16)) ∧ Below W.heap.size W w') := Lib.hid fun W => by
    have := value8_any x W; rw [clamp_in _ 255 bx] at this; exact this
  have H2 : Hid (∀ W, Calls Try.prog 6 #[.int .i64 (y : Int)] W fun e w' => e = .returned (.int .i64 (valN y 16)) ∧ Below W.heap.size W w') := Lib.hid fun W => by
    have := value8_any y W; rw [clamp_in _ 255 by_] at this; exact this
  have H3 : Hid (∀ W, Calls Try.prog 7 #[.int .i64 (M : Int)] W fun e w' => e = .returned (.int .i64 (valN M 4096)) ∧ Below W.heap.size W w') := Lib.hid fun W => by
    have := value16_any M W; rw [clamp_in _ 65535 (by omega)] at this; exact this
  have H4 : Hid (∀ W, Calls Try.prog 7 #[.int .i64 (K : Int)] W fun e w' => e = .returned (.int .i64 (valN K 4096)) ∧ Below W.heap.size W w') := Lib.hid fun W => by
    have := value16_any K W; rw [clamp_in _ 65535 (by omega)] at this; exact this
  have hbs : ∀ b : Bool, (b == b) = true := fun b => by simp
  obtain ⟨D1, hD1⟩ : ∃ D : Bool, D = decide ((x : Int) < (y : Int)) := ⟨_, rfl⟩
  obtain ⟨D2, hD2⟩ : ∃ D : Bool, D = decide ((M : Int) < (K : Int)) := ⟨_, rfl⟩
  have d1 : decide ((x : Int) < (y : Int)) = D1 := hD1.symm
  have d2 : decide ((M : Int) < (K : Int)) = D2 := hD2.symm
  have d3 : decide ((valN x 16 : Int) < (valN y 16 : Int)) = D1 := by
    rw [hD1, Bool.eq_iff_iff, decide_eq_true_eq, decide_eq_true_eq]
    have := valN_lt_iff (u := 16) (a := x) (b := y) (by omega) (by omega) (by omega)
    omega
  have d4 : decide ((valN M 4096 : Int) < (valN K 4096 : Int)) = D2 := by
    rw [hD2, Bool.eq_iff_iff, decide_eq_true_eq, decide_eq_true_eq]
    have := valN_lt_iff (u := 4096) (a := M) (b := K) (by omega) (by omega) (by omega)
    omega
  clear hm hk hx hy bx by_ hD1 hD2
  generalize (valN x 16 : Int) = vx at *
  generalize (valN y 16 : Int) = vy at *
  generalize (valN M 4096 : Int) = vm at *
  generalize (valN K 4096 : Int) = vk at *
  generalize (x : Int) = x at *
  generalize (y : Int) = y at *
  generalize (M : Int) = M at *
  generalize (K : Int) = K at *
  go_enter Try.func5, Try.ntmps5
  go_wp2_with (first
    | (go_at_call 6; (with_reducible refine (H1.out _).mono ?_); rintro x w1 ⟨rfl, hb⟩; have HB := Lib.hid (bstep HB.out hb); clear hb)
    | (go_at_call 6; (with_reducible refine (H2.out _).mono ?_); rintro x w1 ⟨rfl, hb⟩; have HB := Lib.hid (bstep HB.out hb); clear hb)
    | (go_at_call 7; (with_reducible refine (H3.out _).mono ?_); rintro x w1 ⟨rfl, hb⟩; have HB := Lib.hid (bstep HB.out hb); clear hb)
    | (go_at_call 7; (with_reducible refine (H4.out _).mono ?_); rintro x w1 ⟨rfl, hb⟩; have HB := Lib.hid (bstep HB.out hb); clear hb)
    | (go_at_call 14; (with_reducible refine (lives7_any _).mono ?_); rintro x w1 ⟨rfl, hb⟩; have HB := Lib.hid (bstep HB.out hb); clear hb))
  go_ret
  exact ⟨rfl, HB.out⟩
end Go.Proofs.Ytodonfdkhnmdjaa

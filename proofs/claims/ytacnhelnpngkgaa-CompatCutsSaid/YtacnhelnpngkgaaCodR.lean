/-
  The contracts of the document's own answers of layer 7: value, Value8, Value16, code, Code8, Code16.
-/
import Derived.Test.YtacnhelnpngkgaaMg09
namespace Go.Proofs.Ytacnhelnpngkgaa
open Go.RowKit
set_option linter.unusedVariables false

set_option maxRecDepth 100000 in
set_option maxHeartbeats 1000000 in
theorem rval8 (c : Nat) (hc : c ≤ 255) (w : World) : Calls Try.prog 39 #[.int .i64 c, .int .i64 16] w fun x w' => x = .returned (.int .i64 (valN c 16)) ∧ w = w' := by
  by_cases h8 : c < 128
  · have hv : valN c 16 = c := valN_small (by omega)
    have hd : (c : Int) < 128 := by omega
    rw [hv]
    go_enter Try.func39, Try.ntmps39
    go_wp2
    go_ret
    exact ⟨rfl, rfl⟩
  · obtain ⟨q, hq⟩ : ∃ q, q = c / 16 := ⟨_, rfl⟩
    obtain ⟨m, hm⟩ : ∃ m, m = c % 16 := ⟨_, rfl⟩
    obtain ⟨M, hM⟩ : ∃ M, M = m + 16 := ⟨_, rfl⟩
    obtain ⟨K, hK⟩ : ∃ K, K = q % 8 + 3 := ⟨_, rfl⟩
    have hv : valN c 16 = M * 2 ^ K := by unfold valN; rw [if_neg (by omega), ← hq, ← hm, ← hM, ← hK]
    have HV := Lib.hid hv
    have hd : ¬ (c : Int) < 128 := by omega
    have t1 : (c : Int) / 16 = (q : Int) := by omega
    have t2 : (c : Int) % 16 = (m : Int) := by omega
    have t3 : (q : Int) % 8 = ((q % 8 : Nat) : Int) := by omega
    have hMb : M ≤ 32 := by omega
    have hKb : K ≤ 10 := by omega
    have w1 : IntKind.i64.wrap ((m : Int) + 16) = (M : Int) := by rw [hM]; simp only [IntKind.wrap_i64]; omega
    have w2 : IntKind.i64.wrap ((q : Int) % 8 + 3) = (K : Int) := by rw [hK]; simp only [IntKind.wrap_i64]; omega
    have e1 : (m : Int) + 16 = (M : Int) := by omega
    have e2 : (q : Int) % 8 + 3 = (K : Int) := by omega
    clear hq hm hM hK hv h8 t3
    go_enter Try.func39, Try.ntmps39
    go_wp2
    go_loop [5, 6] (fun n k => ∃ j : Nat, j ≤ K ∧ k = .int .i64 ((K - j : Nat) : Int) ∧ n = .int .i64 ((M * 2 ^ j : Nat) : Int)) (fun _ k => (intOf k).toNat)
    case atStart => exact ⟨0, by omega, by simp, by simp⟩
    case round =>
      obtain ⟨j, hj, rfl, rfl⟩ := hrel
      have hp : 2 ^ j ≤ 1024 := Nat.pow_le_pow_right (n := 2) (by omega) (show j ≤ 10 by omega)
      have hle : M * 2 ^ j ≤ 32 * 1024 := Nat.mul_le_mul hMb hp
      obtain ⟨z, hz⟩ : ∃ z, z = M * 2 ^ j := ⟨_, rfl⟩
      rw [← hz] at hle ⊢
      have HZ := Lib.hid hz; clear hz hp
      by_cases hlt : j < K
      · have hk : (0 : Int) < ((K - j : Nat) : Int) := by omega
        go_wp2
        go_round
        case rel => exact ⟨j + 1, by omega, by go_num, by rw [Nat.pow_succ, ← Nat.mul_assoc, ← HZ.out]; go_num⟩
        case measure => simp [intOf]; omega
      · obtain rfl : j = K := by omega
        go_wp2
        go_ret
        exact ⟨ret_int (by rw [HV.out, HZ.out]), rfl⟩
theorem rvalue8 (n : Int) (w : World) : Calls Try.prog 33 #[.int .i64 n] w fun x w' => x = .returned (.int .i64 (valN (clampN n 255) 16)) ∧ w = w' := by
  have hc := clampN_le n 255
  have HW : Hid (∀ W, Calls Try.prog 40 #[.int .i64 n, .int .i64 0, .int .i64 255] W fun e w' => e = .returned (.int .i64 (clampN n 255 : Int)) ∧ W = w') := Lib.hid fun W => within_any n 255 W
  generalize clampN n 255 = c at hc HW ⊢
  have HV := Lib.hid (fun W => rval8 c hc W)
  clear hc
  go_enter Try.func33, Try.ntmps33
  go_wp2_with (first
    | (go_at_call 40; (with_reducible refine (HW.out _).mono ?_); rintro x w1 ⟨rfl, rfl⟩)
    | (go_at_call 39; (with_reducible refine (HV.out _).mono ?_); rintro x w1 ⟨rfl, rfl⟩))
  go_ret
  exact ⟨rfl, rfl⟩
set_option maxRecDepth 100000 in
set_option maxHeartbeats 1000000 in
theorem rcod8 (n : Int) (w : World) : Calls Try.prog 41 #[.int .i64 n, .int .i64 16, .int .i64 255] w fun x w' => x = .returned (.int .i64 (codeN n 16 255)) ∧ w = w' := by
  have HV := Lib.hid (fun (c : Nat) (hc : c ≤ 255) W => rval8 c hc W)
  have HU := Lib.hid (fun (c : Nat) (h : IsCode n 16 255 c) => codeN_uniq (by omega) (by omega) h)
  generalize codeN n 16 255 = R at HU ⊢
  go_enter Try.func41, Try.ntmps41
  go_wp2
  go_loop [7, 8, 9] (fun a b z => ∃ lo hi : Nat, a = .int .i64 lo ∧ b = .int .i64 hi ∧ Hid (Halve n 16 255 lo hi)) (fun a b _ => (intOf b).toNat - (intOf a).toNat)
  case atStart => exact ⟨0, 255, rfl, rfl, Lib.hid (Halve.start n 16 255)⟩
  case round =>
    obtain ⟨lo, hi, rfl, rfl, HH⟩ := hrel
    have b1 := HH.out.1
    have b2 := HH.out.2.1
    by_cases hlt : lo < hi
    · have hd : (lo : Int) < (hi : Int) := by omega
      obtain ⟨k, hk⟩ : ∃ k, k = (lo + hi + 1) / 2 := ⟨_, rfl⟩
      have t1 : ((lo : Int) + (hi : Int) + 1) / 2 = (k : Int) := by omega
      have t2 : ((lo : Int) + (hi : Int) + 1).tdiv 2 = (k : Int) := by rw [Int.tdiv_eq_ediv_of_nonneg (by omega)]; exact t1
      have k1 : lo < k := by omega
      have k2 : k ≤ hi := by omega
      have HK := Lib.hid (HV.out k (by omega))
      clear hk
      by_cases hv : (valN k 16 : Int) ≤ n
      · have H2 := Lib.hid (HH.out.up k2 hv)
        generalize valN k 16 = v at hv HK
        go_wp2_with (go_at_call 39; (with_reducible refine (HK.out _).mono ?_); rintro x w1 ⟨rfl, rfl⟩)
        go_round
        case rel => exact ⟨k, hi, rfl, rfl, H2⟩
        case measure => simp [intOf]; omega
      · have H2 := Lib.hid (HH.out.down k1 k2 hv)
        generalize valN k 16 = v at hv HK
        go_wp2_with (go_at_call 39; (with_reducible refine (HK.out _).mono ?_); rintro x w1 ⟨rfl, rfl⟩)
        go_round
        case rel => exact ⟨lo, k - 1, rfl, by go_num, H2⟩
        case measure => simp [intOf]; omega
    · have hd : ¬ (lo : Int) < (hi : Int) := by omega
      have HR := Lib.hid (HU.out lo (HH.out.done (by omega)))
      go_wp2
      go_ret
      exact ⟨ret_int (by rw [HR.out]), rfl⟩
theorem rcode8 (n : Int) (w : World) : Calls Try.prog 34 #[.int .i64 n] w fun x w' => x = .returned (.int .i64 (codeN n 16 255)) ∧ w = w' := by
  have HC := Lib.hid (fun W => rcod8 n W)
  generalize codeN n 16 255 = R at HC ⊢
  go_enter Try.func34, Try.ntmps34
  go_wp2_with (go_at_call 41; (with_reducible refine (HC.out _).mono ?_); rintro x w1 ⟨rfl, rfl⟩)
  go_ret
  exact ⟨rfl, rfl⟩

set_option maxRecDepth 100000 in
set_option maxHeartbeats 1000000 in
theorem rval16 (c : Nat) (hc : c ≤ 65535) (w : World) : Calls Try.prog 39 #[.int .i64 c, .int .i64 4096] w fun x w' => x = .returned (.int .i64 (valN c 4096)) ∧ w = w' := by
  by_cases h8 : c < 32768
  · have hv : valN c 4096 = c := valN_small (by omega)
    have hd : (c : Int) < 32768 := by omega
    rw [hv]
    go_enter Try.func39, Try.ntmps39
    go_wp2
    go_ret
    exact ⟨rfl, rfl⟩
  · obtain ⟨q, hq⟩ : ∃ q, q = c / 4096 := ⟨_, rfl⟩
    obtain ⟨m, hm⟩ : ∃ m, m = c % 4096 := ⟨_, rfl⟩
    obtain ⟨M, hM⟩ : ∃ M, M = m + 4096 := ⟨_, rfl⟩
    obtain ⟨K, hK⟩ : ∃ K, K = q % 8 + 3 := ⟨_, rfl⟩
    have hv : valN c 4096 = M * 2 ^ K := by unfold valN; rw [if_neg (by omega), ← hq, ← hm, ← hM, ← hK]
    have HV := Lib.hid hv
    have hd : ¬ (c : Int) < 32768 := by omega
    have t1 : (c : Int) / 4096 = (q : Int) := by omega
    have t2 : (c : Int) % 4096 = (m : Int) := by omega
    have t3 : (q : Int) % 8 = ((q % 8 : Nat) : Int) := by omega
    have hMb : M ≤ 8192 := by omega
    have hKb : K ≤ 10 := by omega
    have w1 : IntKind.i64.wrap ((m : Int) + 4096) = (M : Int) := by rw [hM]; simp only [IntKind.wrap_i64]; omega
    have w2 : IntKind.i64.wrap ((q : Int) % 8 + 3) = (K : Int) := by rw [hK]; simp only [IntKind.wrap_i64]; omega
    have e1 : (m : Int) + 4096 = (M : Int) := by omega
    have e2 : (q : Int) % 8 + 3 = (K : Int) := by omega
    clear hq hm hM hK hv h8 t3
    go_enter Try.func39, Try.ntmps39
    go_wp2
    go_loop [5, 6] (fun n k => ∃ j : Nat, j ≤ K ∧ k = .int .i64 ((K - j : Nat) : Int) ∧ n = .int .i64 ((M * 2 ^ j : Nat) : Int)) (fun _ k => (intOf k).toNat)
    case atStart => exact ⟨0, by omega, by simp, by simp⟩
    case round =>
      obtain ⟨j, hj, rfl, rfl⟩ := hrel
      have hp : 2 ^ j ≤ 1024 := Nat.pow_le_pow_right (n := 2) (by omega) (show j ≤ 10 by omega)
      have hle : M * 2 ^ j ≤ 8192 * 1024 := Nat.mul_le_mul hMb hp
      obtain ⟨z, hz⟩ : ∃ z, z = M * 2 ^ j := ⟨_, rfl⟩
      rw [← hz] at hle ⊢
      have HZ := Lib.hid hz; clear hz hp
      by_cases hlt : j < K
      · have hk : (0 : Int) < ((K - j : Nat) : Int) := by omega
        go_wp2
        go_round
        case rel => exact ⟨j + 1, by omega, by go_num, by rw [Nat.pow_succ, ← Nat.mul_assoc, ← HZ.out]; go_num⟩
        case measure => simp [intOf]; omega
      · obtain rfl : j = K := by omega
        go_wp2
        go_ret
        exact ⟨ret_int (by rw [HV.out, HZ.out]), rfl⟩
theorem rvalue16 (n : Int) (w : World) : Calls Try.prog 31 #[.int .i64 n] w fun x w' => x = .returned (.int .i64 (valN (clampN n 65535) 4096)) ∧ w = w' := by
  have hc := clampN_le n 65535
  have HW : Hid (∀ W, Calls Try.prog 40 #[.int .i64 n, .int .i64 0, .int .i64 65535] W fun e w' => e = .returned (.int .i64 (clampN n 65535 : Int)) ∧ W = w') := Lib.hid fun W => within_any n 65535 W
  generalize clampN n 65535 = c at hc HW ⊢
  have HV := Lib.hid (fun W => rval16 c hc W)
  clear hc
  go_enter Try.func31, Try.ntmps31
  go_wp2_with (first
    | (go_at_call 40; (with_reducible refine (HW.out _).mono ?_); rintro x w1 ⟨rfl, rfl⟩)
    | (go_at_call 39; (with_reducible refine (HV.out _).mono ?_); rintro x w1 ⟨rfl, rfl⟩))
  go_ret
  exact ⟨rfl, rfl⟩
set_option maxRecDepth 100000 in
set_option maxHeartbeats 1000000 in
theorem rcod16 (n : Int) (w : World) : Calls Try.prog 41 #[.int .i64 n, .int .i64 4096, .int .i64 65535] w fun x w' => x = .returned (.int .i64 (codeN n 4096 65535)) ∧ w = w' := by
  have HV := Lib.hid (fun (c : Nat) (hc : c ≤ 65535) W => rval16 c hc W)
  have HU := Lib.hid (fun (c : Nat) (h : IsCode n 4096 65535 c) => codeN_uniq (by omega) (by omega) h)
  generalize codeN n 4096 65535 = R at HU ⊢
  go_enter Try.func41, Try.ntmps41
  go_wp2
  go_loop [7, 8, 9] (fun a b z => ∃ lo hi : Nat, a = .int .i64 lo ∧ b = .int .i64 hi ∧ Hid (Halve n 4096 65535 lo hi)) (fun a b _ => (intOf b).toNat - (intOf a).toNat)
  case atStart => exact ⟨0, 65535, rfl, rfl, Lib.hid (Halve.start n 4096 65535)⟩
  case round =>
    obtain ⟨lo, hi, rfl, rfl, HH⟩ := hrel
    have b1 := HH.out.1
    have b2 := HH.out.2.1
    by_cases hlt : lo < hi
    · have hd : (lo : Int) < (hi : Int) := by omega
      obtain ⟨k, hk⟩ : ∃ k, k = (lo + hi + 1) / 2 := ⟨_, rfl⟩
      have t1 : ((lo : Int) + (hi : Int) + 1) / 2 = (k : Int) := by omega
      have t2 : ((lo : Int) + (hi : Int) + 1).tdiv 2 = (k : Int) := by rw [Int.tdiv_eq_ediv_of_nonneg (by omega)]; exact t1
      have k1 : lo < k := by omega
      have k2 : k ≤ hi := by omega
      have HK := Lib.hid (HV.out k (by omega))
      clear hk
      by_cases hv : (valN k 4096 : Int) ≤ n
      · have H2 := Lib.hid (HH.out.up k2 hv)
        generalize valN k 4096 = v at hv HK
        go_wp2_with (go_at_call 39; (with_reducible refine (HK.out _).mono ?_); rintro x w1 ⟨rfl, rfl⟩)
        go_round
        case rel => exact ⟨k, hi, rfl, rfl, H2⟩
        case measure => simp [intOf]; omega
      · have H2 := Lib.hid (HH.out.down k1 k2 hv)
        generalize valN k 4096 = v at hv HK
        go_wp2_with (go_at_call 39; (with_reducible refine (HK.out _).mono ?_); rintro x w1 ⟨rfl, rfl⟩)
        go_round
        case rel => exact ⟨lo, k - 1, rfl, by go_num, H2⟩
        case measure => simp [intOf]; omega
    · have hd : ¬ (lo : Int) < (hi : Int) := by omega
      have HR := Lib.hid (HU.out lo (HH.out.done (by omega)))
      go_wp2
      go_ret
      exact ⟨ret_int (by rw [HR.out]), rfl⟩
theorem rcode16 (n : Int) (w : World) : Calls Try.prog 32 #[.int .i64 n] w fun x w' => x = .returned (.int .i64 (codeN n 4096 65535)) ∧ w = w' := by
  have HC := Lib.hid (fun W => rcod16 n W)
  generalize codeN n 4096 65535 = R at HC ⊢
  go_enter Try.func32, Try.ntmps32
  go_wp2_with (go_at_call 41; (with_reducible refine (HC.out _).mono ?_); rintro x w1 ⟨rfl, rfl⟩)
  go_ret
  exact ⟨rfl, rfl⟩
end Go.Proofs.Ytacnhelnpngkgaa

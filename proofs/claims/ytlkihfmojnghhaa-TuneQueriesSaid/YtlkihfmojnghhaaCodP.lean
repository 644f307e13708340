/-
  The contracts of package code: firstShifted, lastCode, value, code, Value8, Value16, Code8, Code16, Exact8, Exact16.
-/
import Derived.Test.YtlkihfmojnghhaaCodR
import Derived.Lib.BitFns
import Derived.Lib.Tables
import Derived.Deep.Cut
namespace Go.Proofs.Ytlkihfmojnghhaa
open Go.RowKit
set_option linter.unusedVariables false
theorem cbits_and (a b : Nat) (ha : a < 9223372036854775808) (hb : b < 9223372036854775808) :
    bits .and .i64 (a : Int) (b : Int) = ((a &&& b : Nat) : Int) := by
  have hx : a &&& b < 2 ^ 63 := Nat.and_lt_two_pow _ (by omega)
  have h1 : (BitVec.ofInt 64 (a : Int)).toNat = a := by
    rw [BitVec.ofInt_natCast, BitVec.toNat_ofNat]; exact Nat.mod_eq_of_lt (by omega)
  have h2 : (BitVec.ofInt 64 (b : Int)).toNat = b := by
    rw [BitVec.ofInt_natCast, BitVec.toNat_ofNat]; exact Nat.mod_eq_of_lt (by omega)
  show IntKind.i64.wrap ((BitVec.ofInt 64 (a : Int) &&& BitVec.ofInt 64 (b : Int)).toNat : Int) = _
  rw [BitVec.toNat_and, h1, h2, IntKind.wrap_i64]
  omega
theorem cbits_or (a b : Nat) (ha : a < 9223372036854775808) (hb : b < 9223372036854775808) :
    bits .or .i64 (a : Int) (b : Int) = ((a ||| b : Nat) : Int) := by
  have hx : a ||| b < 2 ^ 63 := Nat.or_lt_two_pow (by omega) (by omega)
  have h1 : (BitVec.ofInt 64 (a : Int)).toNat = a := by
    rw [BitVec.ofInt_natCast, BitVec.toNat_ofNat]; exact Nat.mod_eq_of_lt (by omega)
  have h2 : (BitVec.ofInt 64 (b : Int)).toNat = b := by
    rw [BitVec.ofInt_natCast, BitVec.toNat_ofNat]; exact Nat.mod_eq_of_lt (by omega)
  show IntKind.i64.wrap ((BitVec.ofInt 64 (a : Int) ||| BitVec.ofInt 64 (b : Int)).toNat : Int) = _
  rw [BitVec.toNat_or, h1, h2, IntKind.wrap_i64]
  omega
/-- The lowest bits. -/
theorem and_mask (a e m : Nat) (he : e ≤ 20) (hm : m + 1 = 2 ^ e) (ha : a < 9223372036854775808) : bits .and .i64 (a : Int) (m : Int) = ((a % 2 ^ e : Nat) : Int) := by
  have : 2 ^ e ≤ 2 ^ 20 := Nat.pow_le_pow_right (n := 2) (by omega) he
  rw [cbits_and _ _ ha (by omega), show m = 2 ^ e - 1 by omega, Nat.and_two_pow_sub_one_eq_mod]
/-- Bits above others. -/
theorem or_above (a b e : Nat) (he : e ≤ 20) (ha : a * 2 ^ e < 9223372036854775808) (hb : b < 2 ^ e) : bits .or .i64 ((a * 2 ^ e : Nat) : Int) (b : Int) = ((a * 2 ^ e + b : Nat) : Int) := by
  have : 2 ^ e ≤ 2 ^ 20 := Nat.pow_le_pow_right (n := 2) (by omega) he
  rw [cbits_or _ _ ha (by omega), ← Nat.shiftLeft_eq, Nat.shiftLeft_add_eq_or_of_lt hb]
theorem bitLen_of (k n : Nat) (h1 : 2 ^ k ≤ n) (h2 : n < 2 ^ (k + 1)) (hk : k < 64) : Lib.bitLen n = k + 1 := by
  have h64 : 2 ^ (k + 1) ≤ 2 ^ 64 := Nat.pow_le_pow_right (n := 2) (by omega) (by omega)
  have hd : n / 2 ^ k = 1 := by
    apply Nat.div_eq_of_lt_le
    · omega
    · rw [Nat.pow_succ] at h2; omega
  rw [Lib.bitLen_shift k n h1 (by omega), hd]
  rfl
/-- The greatest code below a number, by its highest bit. -/
theorem code_mid (e u k n : Nat) (hu : u = 2 ^ e) (hk1 : e + 3 ≤ k) (hk2 : k ≤ e + 10) (h1 : 2 ^ k ≤ n) (h2 : n < 2 ^ (k + 1)) :
    IsCode (n : Int) u (16 * u - 1) ((k - e + 5) * u + n / 2 ^ (k - e) % u) := by
  have hup : 0 < u := by rw [hu]; exact Nat.two_pow_pos _
  obtain ⟨D, hD⟩ : ∃ D, D = 2 ^ (k - e) := ⟨_, rfl⟩
  have hDp : 0 < D := by rw [hD]; exact Nat.two_pow_pos _
  have e1 : 2 ^ k = u * D := by rw [hu, hD, ← Nat.pow_add]; congr 1; omega
  have e2 : 2 ^ (k + 1) = 2 * u * D := by rw [Nat.pow_succ, e1, Nat.mul_comm, Nat.mul_assoc]
  rw [e1] at h1
  rw [e2] at h2
  obtain ⟨Q, hQ⟩ : ∃ Q, Q = n / D := ⟨_, rfl⟩
  have hQ1 : u ≤ Q := by rw [hQ]; exact (Nat.le_div_iff_mul_le hDp).2 h1
  have hQ2 : Q < 2 * u := by rw [hQ]; exact (Nat.div_lt_iff_lt_mul hDp).2 h2
  have hQ3 : Q * D ≤ n := by rw [hQ]; exact Nat.div_mul_le_self n D
  have hQ4 : n < (Q + 1) * D := by rw [hQ, Nat.succ_mul, Nat.mul_comm]; exact Nat.lt_mul_div_succ n hDp |> fun h => by rw [Nat.mul_succ] at h; exact h
  have hQm : Q % u = Q - u := by
    rw [Nat.mod_eq_sub_mod hQ1]; exact Nat.mod_eq_of_lt (by omega)
  rw [← hD, ← hQ, hQm]
  obtain ⟨q, hq⟩ : ∃ q, q = k - e + 5 := ⟨_, rfl⟩
  rw [← hq]
  have hq16 : q ≤ 15 := by omega
  have hq8 : 8 ≤ q := by omega
  have hDq : D = 2 ^ (q - 5) := by rw [hD]; congr 1; omega
  have hle : q * u ≤ 15 * u := Nat.mul_le_mul_right u hq16
  have hge : 8 * u ≤ q * u := Nat.mul_le_mul_right u hq8
  have v1 : valN (q * u + (Q - u)) u = Q * D := by
    rw [valN_piece _ u (Q - u) q hup rfl (by omega) hq8 (by omega), ← hDq]
    congr 1; omega
  refine ⟨by omega, Or.inr (by rw [v1]; omega), ?_⟩
  by_cases hlast : Q + 1 < 2 * u
  · right
    rw [valN_piece _ u (Q - u + 1) q hup (by omega) (by omega) hq8 (by omega), ← hDq, show Q - u + 1 + u = Q + 1 by omega]
    omega
  · by_cases h15 : q = 15
    · left; rw [h15]; omega
    · right
      have hqq : (q + 1) * u = q * u + u := Nat.succ_mul q u
      rw [valN_piece _ u 0 (q + 1) hup (by omega) hup (by omega) (by omega), show q + 1 - 5 = (q - 5) + 1 by omega, Nat.pow_succ, ← hDq]
      have hQe : Q + 1 = 2 * u := by omega
      rw [hQe] at hQ4
      have : (0 + u) * (D * 2) = 2 * u * D := by rw [Nat.zero_add, Nat.mul_comm D 2, ← Nat.mul_assoc, Nat.mul_comm u 2]
      rw [this]
      omega
theorem code_low (u n : Nat) (hu : 0 < u) (hn : n < 8 * u) : IsCode (n : Int) u (16 * u - 1) n := by
  refine ⟨by omega, Or.inr (by rw [valN_small hn]; omega), Or.inr ?_⟩
  by_cases h : n + 1 < 8 * u
  · rw [valN_small h]; omega
  · rw [valN_piece (n + 1) u 0 8 hu (by omega) hu (by omega) (by omega)]; omega

/-- The table of bits.Len8. -/
theorem len8_get (T : ByteArray) (hT : T = Lib.len8tab) (i : Nat) (hi : i < 256) (h : i < T.size) : ((T[i]'h).toNat : Int) = (Lib.bitLen i : Int) ∧ Lib.bitLen i ≤ 8 := by
  subst hT
  have h1 := Lib.len8_of (i : Int) (by omega) (by omega)
  have h2 := Lib.bitLen_le8' (i : Int) (by omega) (by omega)
  rw [Int.toNat_natCast] at h1 h2
  refine ⟨?_, h2⟩
  rw [← h1]
  unfold Lib.len8
  rw [Int.toNat_natCast, getElem?_pos Lib.len8tab i h]
  rfl

set_option maxRecDepth 100000 in
set_option maxHeartbeats 1000000 in
/-- bits.Len64 of a small number. -/
theorem len64_small (n : Nat) (hn : n < 16777216) (w : World) : Calls Try.prog 64 #[.int .u64 n] w fun x w' => x = .returned (.int .i64 (Lib.bitLen n)) ∧ w = w' := by
  have b1 : ¬ (4294967296 : Int) ≤ (n : Int) := by omega
  go_enter Try.func64, Try.ntmps64
  generalize hT0 : ByteArray.mk _ = T
  have hT : T = Lib.len8tab := hT0.symm.trans (by kernel_rfl)
  clear hT0
  have hsz : (T.size : Int) = 256 := by rw [hT, Lib.len8tab_size]; rfl
  have HG := Lib.hid (fun (i : Nat) hi h => len8_get T hT i hi h)
  clear hT
  by_cases h16 : (65536 : Int) ≤ (n : Int)
  · have HS := Lib.hid (Lib.bitLen_shift16 n (by omega) (by omega))
    obtain ⟨q, hq⟩ : ∃ q, q = n / 65536 := ⟨_, rfl⟩
    have e1 : (n : Int) / 65536 = (q : Int) := by omega
    rw [← hq] at HS
    have hq2 : q < 256 := by omega
    clear hq
    have HV := Lib.hid (HG.out q hq2 (by omega))
    go_wp2
    go_ret
    refine ⟨ret_int ?_, rfl⟩
    have h1 := HV.out; have h2 := HS.out
    unfold wrap64
    omega
  · by_cases h8 : (256 : Int) ≤ (n : Int)
    · have HS := Lib.hid (Lib.bitLen_shift8 n (by omega) (by omega))
      obtain ⟨q, hq⟩ : ∃ q, q = n / 256 := ⟨_, rfl⟩
      have e1 : (n : Int) / 256 = (q : Int) := by omega
      rw [← hq] at HS
      have hq2 : q < 256 := by omega
      clear hq
      have HV := Lib.hid (HG.out q hq2 (by omega))
      go_upto_region 10 with (fail)
      repeat (first | go_values | go_skip | go_guarded | go_step | go_upon | go_in)
      rw [dif_pos (show (q : Int) < 256 by omega)]
      repeat (first | go_values | go_skip | go_guarded | go_step | go_upon | go_in)
      go_ret
      refine ⟨ret_int ?_, rfl⟩
      have h1 := HV.out; have h2 := HS.out
      unfold wrap64
      omega
    · have hlt : n < T.size := by omega
      have HV := Lib.hid (HG.out n (by omega) hlt)
      go_wp2
      go_ret
      refine ⟨ret_int ?_, rfl⟩
      have h1 := HV.out
      unfold wrap64
      omega
/-- bits.Len of a small number with its highest bit. -/
theorem len_small (n k : Nat) (hn : n < 16777216) (h1 : 2 ^ k ≤ n) (h2 : n < 2 ^ (k + 1)) (hk : k < 64) (w : World) : Calls Try.prog 60 #[.int .u64 n] w fun x w' => x = .returned (.int .i64 ((k : Int) + 1)) ∧ w = w' := by
  have HL : Hid (∀ W, Calls Try.prog 64 #[.int .u64 n] W fun x w' => x = .returned (.int .i64 ((k : Int) + 1)) ∧ W = w') := Lib.hid fun W => by
    have := len64_small n hn W
    rw [bitLen_of k n h1 h2 hk] at this
    exact this
  clear h1 h2 hk
  go_enter Try.func60, Try.ntmps60
  go_wp2_with (go_at_call 64; (with_reducible refine (HL.out _).mono ?_); rintro x w1 ⟨rfl, rfl⟩)
  go_ret
  exact ⟨rfl, rfl⟩
theorem first4 (w : World) : Calls Try.prog 59 #[.int .i64 4] w fun x w' => x = .returned (.int .i64 128) ∧ w = w' := by
  go_enter Try.func59, Try.ntmps59
  go_wp2
  go_ret
  exact ⟨rfl, rfl⟩
theorem last4 (w : World) : Calls Try.prog 58 #[.int .i64 4] w fun x w' => x = .returned (.int .i64 255) ∧ w = w' := by
  have HF := Lib.hid (fun W => first4 W)
  go_enter Try.func58, Try.ntmps58
  go_wp2_with (go_at_call 59; (with_reducible refine (HF.out _).mono ?_); rintro x w1 ⟨rfl, rfl⟩)
  go_ret
  exact ⟨rfl, rfl⟩
set_option maxRecDepth 100000 in
set_option maxHeartbeats 1000000 in
/-- The value of a code in its borders. -/
theorem value4_mid (c : Nat) (hc : c ≤ 255) (w : World) : Calls Try.prog 47 #[.int .i64 c, .int .i64 4] w fun x w' => x = .returned (.int .i64 (valN c 16)) ∧ w = w' := by
  have HF := Lib.hid (fun W => first4 W)
  have HL := Lib.hid (fun W => last4 W)
  have hn0 : ¬ (c : Int) < 0 := by omega
  have hn1 : ¬ (255 : Int) < (c : Int) := by omega
  by_cases h8 : c < 128
  · have hv : valN c 16 = c := valN_small (by omega)
    have hd : (c : Int) < 128 := by omega
    rw [hv]
    go_enter Try.func47, Try.ntmps47
    go_wp2_with (first
      | (go_at_call 59; (with_reducible refine (HF.out _).mono ?_); rintro x w1 ⟨rfl, rfl⟩)
      | (go_at_call 58; (with_reducible refine (HL.out _).mono ?_); rintro x w1 ⟨rfl, rfl⟩))
    go_ret
    exact ⟨rfl, rfl⟩
  · obtain ⟨q, hq⟩ : ∃ q, q = c / 16 := ⟨_, rfl⟩
    obtain ⟨m, hm2⟩ : ∃ m, m = c % 16 := ⟨_, rfl⟩
    obtain ⟨M, hM⟩ : ∃ M, M = m + 16 := ⟨_, rfl⟩
    obtain ⟨p, hp⟩ : ∃ p, p = q % 8 := ⟨_, rfl⟩
    obtain ⟨K, hK⟩ : ∃ K, K = p + 3 := ⟨_, rfl⟩
    have hv : valN c 16 = M * 2 ^ K := by unfold valN; rw [if_neg (by omega), ← hq, ← hm2, ← hM, ← hp, ← hK]
    have HV := Lib.hid hv
    have hd : decide ((c : Int) < 128) = false := decide_eq_false (by omega)
    have t1 : (c : Int) / 16 = (q : Int) := by omega
    have b1 : bits .and .i64 (c : Int) 15 = (m : Int) := by
      rw [hm2, show (15 : Int) = ((15 : Nat) : Int) from rfl, and_mask c 4 15 (by omega) (by omega) (by omega)]
    have b2 : bits .or .i64 16 (m : Int) = (M : Int) := by
      have := or_above 1 m 4 (by omega) (by omega) (by omega)
      rw [show 1 * 2 ^ 4 = 16 from rfl] at this
      rw [show (16 : Int) = ((16 : Nat) : Int) from rfl, this, hM, Nat.add_comm]
    have b3 : bits .and .i64 (q : Int) 7 = (p : Int) := by
      rw [hp, show (7 : Int) = ((7 : Nat) : Int) from rfl, and_mask q 3 7 (by omega) (by omega) (by omega)]
    have B1 : ∀ y : Int, y = (c : Int) → bits .and .i64 y 15 = (m : Int) := by rintro y rfl; exact b1
    have B2 : ∀ y : Int, y = (m : Int) → bits .or .i64 16 y = (M : Int) := by rintro y rfl; exact b2
    have B3 : ∀ y : Int, y = (q : Int) → bits .and .i64 y 7 = (p : Int) := by rintro y rfl; exact b3
    clear b1 b2 b3
    have hMb : M < 32 := by omega
    have hKb : K ≤ 10 := by omega
    have hpow : 2 ^ K ≤ 1024 := Nat.pow_le_pow_right (n := 2) (by omega) (show K ≤ 10 by omega)
    have hle : M * 2 ^ K ≤ 32 * 1024 := Nat.mul_le_mul (by omega) hpow
    have e2 : (p : Int) + 3 = (K : Int) := by omega
    have HR : Hid (wrap64 ((M : Int) * 2 ^ K) = ((valN c 16 : Nat) : Int)) := Lib.hid (by
      rw [hv, show (M : Int) * 2 ^ K = ((M * 2 ^ K : Nat) : Int) by simp]
      unfold wrap64; omega)
    generalize valN c 16 = V at HR ⊢
    clear hq hm2 hM hp hK h8 hv HV hpow hle
    go_enter Try.func47, Try.ntmps47
    go_wp2_with (first
      | (go_at_call 59; (with_reducible refine (HF.out _).mono ?_); rintro x w1 ⟨rfl, rfl⟩)
      | (go_at_call 58; (with_reducible refine (HL.out _).mono ?_); rintro x w1 ⟨rfl, rfl⟩))
    go_ret
    exact ⟨ret_int HR.out, rfl⟩
theorem first12 (w : World) : Calls Try.prog 59 #[.int .i64 12] w fun x w' => x = .returned (.int .i64 32768) ∧ w = w' := by
  go_enter Try.func59, Try.ntmps59
  go_wp2
  go_ret
  exact ⟨rfl, rfl⟩
theorem last12 (w : World) : Calls Try.prog 58 #[.int .i64 12] w fun x w' => x = .returned (.int .i64 65535) ∧ w = w' := by
  have HF := Lib.hid (fun W => first12 W)
  go_enter Try.func58, Try.ntmps58
  go_wp2_with (go_at_call 59; (with_reducible refine (HF.out _).mono ?_); rintro x w1 ⟨rfl, rfl⟩)
  go_ret
  exact ⟨rfl, rfl⟩
set_option maxRecDepth 100000 in
set_option maxHeartbeats 1000000 in
/-- The value of a code in its borders. -/
theorem value12_mid (c : Nat) (hc : c ≤ 65535) (w : World) : Calls Try.prog 47 #[.int .i64 c, .int .i64 12] w fun x w' => x = .returned (.int .i64 (valN c 4096)) ∧ w = w' := by
  have HF := Lib.hid (fun W => first12 W)
  have HL := Lib.hid (fun W => last12 W)
  have hn0 : ¬ (c : Int) < 0 := by omega
  have hn1 : ¬ (65535 : Int) < (c : Int) := by omega
  by_cases h8 : c < 32768
  · have hv : valN c 4096 = c := valN_small (by omega)
    have hd : (c : Int) < 32768 := by omega
    rw [hv]
    go_enter Try.func47, Try.ntmps47
    go_wp2_with (first
      | (go_at_call 59; (with_reducible refine (HF.out _).mono ?_); rintro x w1 ⟨rfl, rfl⟩)
      | (go_at_call 58; (with_reducible refine (HL.out _).mono ?_); rintro x w1 ⟨rfl, rfl⟩))
    go_ret
    exact ⟨rfl, rfl⟩
  · obtain ⟨q, hq⟩ : ∃ q, q = c / 4096 := ⟨_, rfl⟩
    obtain ⟨m, hm2⟩ : ∃ m, m = c % 4096 := ⟨_, rfl⟩
    obtain ⟨M, hM⟩ : ∃ M, M = m + 4096 := ⟨_, rfl⟩
    obtain ⟨p, hp⟩ : ∃ p, p = q % 8 := ⟨_, rfl⟩
    obtain ⟨K, hK⟩ : ∃ K, K = p + 3 := ⟨_, rfl⟩
    have hv : valN c 4096 = M * 2 ^ K := by unfold valN; rw [if_neg (by omega), ← hq, ← hm2, ← hM, ← hp, ← hK]
    have HV := Lib.hid hv
    have hd : decide ((c : Int) < 32768) = false := decide_eq_false (by omega)
    have t1 : (c : Int) / 4096 = (q : Int) := by omega
    have b1 : bits .and .i64 (c : Int) 4095 = (m : Int) := by
      rw [hm2, show (4095 : Int) = ((4095 : Nat) : Int) from rfl, and_mask c 12 4095 (by omega) (by omega) (by omega)]
    have b2 : bits .or .i64 4096 (m : Int) = (M : Int) := by
      have := or_above 1 m 12 (by omega) (by omega) (by omega)
      rw [show 1 * 2 ^ 12 = 4096 from rfl] at this
      rw [show (4096 : Int) = ((4096 : Nat) : Int) from rfl, this, hM, Nat.add_comm]
    have b3 : bits .and .i64 (q : Int) 7 = (p : Int) := by
      rw [hp, show (7 : Int) = ((7 : Nat) : Int) from rfl, and_mask q 3 7 (by omega) (by omega) (by omega)]
    have B1 : ∀ y : Int, y = (c : Int) → bits .and .i64 y 4095 = (m : Int) := by rintro y rfl; exact b1
    have B2 : ∀ y : Int, y = (m : Int) → bits .or .i64 4096 y = (M : Int) := by rintro y rfl; exact b2
    have B3 : ∀ y : Int, y = (q : Int) → bits .and .i64 y 7 = (p : Int) := by rintro y rfl; exact b3
    clear b1 b2 b3
    have hMb : M < 8192 := by omega
    have hKb : K ≤ 10 := by omega
    have hpow : 2 ^ K ≤ 1024 := Nat.pow_le_pow_right (n := 2) (by omega) (show K ≤ 10 by omega)
    have hle : M * 2 ^ K ≤ 8192 * 1024 := Nat.mul_le_mul (by omega) hpow
    have e2 : (p : Int) + 3 = (K : Int) := by omega
    have HR : Hid (wrap64 ((M : Int) * 2 ^ K) = ((valN c 4096 : Nat) : Int)) := Lib.hid (by
      rw [hv, show (M : Int) * 2 ^ K = ((M * 2 ^ K : Nat) : Int) by simp]
      unfold wrap64; omega)
    generalize valN c 4096 = V at HR ⊢
    clear hq hm2 hM hp hK h8 hv HV hpow hle
    go_enter Try.func47, Try.ntmps47
    go_wp2_with (first
      | (go_at_call 59; (with_reducible refine (HF.out _).mono ?_); rintro x w1 ⟨rfl, rfl⟩)
      | (go_at_call 58; (with_reducible refine (HL.out _).mono ?_); rintro x w1 ⟨rfl, rfl⟩))
    go_ret
    exact ⟨ret_int HR.out, rfl⟩
set_option maxRecDepth 100000 in
set_option maxHeartbeats 1000000 in
/-- The value of any number. -/
theorem value4_any (n : Int) (w : World) : Calls Try.prog 47 #[.int .i64 n, .int .i64 4] w fun x w' => x = .returned (.int .i64 (valN (clampN n 255) 16)) ∧ w = w' := by
  have HF := Lib.hid (fun W => first4 W)
  have HL := Lib.hid (fun W => last4 W)
  by_cases hn : n < 0
  · have hc : valN (clampN n 255) 16 = 0 := by
      rw [show clampN n 255 = 0 by unfold clampN; split <;> omega, valN_zero _ (by omega)]
    rw [hc]
    go_enter Try.func47, Try.ntmps47
    go_wp2_with (first
      | (go_at_call 59; (with_reducible refine (HF.out _).mono ?_); rintro x w1 ⟨rfl, rfl⟩)
      | (go_at_call 58; (with_reducible refine (HL.out _).mono ?_); rintro x w1 ⟨rfl, rfl⟩))
    go_ret
    exact ⟨rfl, rfl⟩
  by_cases hg : 255 < n
  · have hc : valN (clampN n 255) 16 = 31744 := by
      rw [show clampN n 255 = 255 by unfold clampN; split <;> omega, valN_piece 255 16 15 15 (by omega) (by omega) (by omega) (by omega) (by omega)]
    rw [hc]
    have B1 : ∀ y : Int, y = 255 → bits .and .i64 y 15 = 15 := by rintro y rfl; decide
    have B2 : ∀ y : Int, y = 15 → bits .or .i64 16 y = 31 := by rintro y rfl; decide
    have B3 : ∀ y : Int, y = 15 → bits .and .i64 y 7 = 7 := by rintro y rfl; decide
    go_enter Try.func47, Try.ntmps47
    go_wp2_with (first
      | (go_at_call 59; (with_reducible refine (HF.out _).mono ?_); rintro x w1 ⟨rfl, rfl⟩)
      | (go_at_call 58; (with_reducible refine (HL.out _).mono ?_); rintro x w1 ⟨rfl, rfl⟩))
    go_ret
    exact ⟨rfl, rfl⟩
  · obtain ⟨c, rfl⟩ : ∃ c : Nat, n = (c : Int) := ⟨n.toNat, by omega⟩
    rw [show clampN (c : Int) 255 = c by unfold clampN; split <;> omega]
    exact value4_mid c (by omega) w
set_option maxRecDepth 100000 in
set_option maxHeartbeats 1000000 in
/-- The code of any number. -/
theorem code4_any (n : Int) (w : World) : Calls Try.prog 48 #[.int .i64 n, .int .i64 4] w fun x w' => x = .returned (.int .i64 (codeN n 16 255)) ∧ Below w.heap.size w w' := by
  have HF := Lib.hid (fun W => first4 W)
  have HL := Lib.hid (fun W => last4 W)
  have HV : Hid (∀ W, Calls Try.prog 47 #[.int .i64 255, .int .i64 4] W fun x w' => x = .returned (.int .i64 31744) ∧ W = w') := Lib.hid fun W => by
    have := value4_mid 255 (by omega) W
    rw [valN_piece 255 16 15 15 (by omega) (by omega) (by omega) (by omega) (by omega)] at this
    exact this
  have HU := Lib.hid (fun (c : Nat) (h : IsCode n 16 255 c) => codeN_uniq (by omega) (by omega) h)
  by_cases hn : n < 0
  · have hc : codeN n 16 255 = 0 := (codeN_is n 16 255).neg (by omega) (by omega) hn
    rw [hc]
    have hb : n < 128 := by omega
    go_enter Try.func48, Try.ntmps48
    go_wp2_with (first
      | (go_at_call 59; (with_reducible refine (HF.out _).mono ?_); rintro x w1 ⟨rfl, rfl⟩)
      | (go_at_call 58; (with_reducible refine (HL.out _).mono ?_); rintro x w1 ⟨rfl, rfl⟩))
    go_ret
    exact ⟨rfl, Below.refl _ _⟩
  obtain ⟨N, rfl⟩ : ∃ N : Nat, n = (N : Int) := ⟨n.toNat, by omega⟩
  by_cases hb : (N : Int) < 128
  · have hc := HU.out N (code_low 16 N (by omega) (by omega))
    rw [← hc]
    clear hc HU
    go_enter Try.func48, Try.ntmps48
    go_wp2_with (first
      | (go_at_call 59; (with_reducible refine (HF.out _).mono ?_); rintro x w1 ⟨rfl, rfl⟩)
      | (go_at_call 58; (with_reducible refine (HL.out _).mono ?_); rintro x w1 ⟨rfl, rfl⟩))
    go_ret
    exact ⟨rfl, Below.refl _ _⟩
  by_cases ht : (31744 : Int) ≤ (N : Int)
  · have hc := HU.out 255 ⟨Nat.le_refl _, Or.inr (by rw [valN_piece 255 16 15 15 (by omega) (by omega) (by omega) (by omega) (by omega)]; omega), Or.inl rfl⟩
    rw [← hc]
    have hd1 : decide ((N : Int) < 128) = false := decide_eq_false hb
    have hd2 : decide ((31744 : Int) ≤ (N : Int)) = true := decide_eq_true ht
    clear hc HU hb ht hn
    go_enter Try.func48, Try.ntmps48
    go_wp2_with (first
      | (go_at_call 59; (with_reducible refine (HF.out _).mono ?_); rintro x w1 ⟨rfl, rfl⟩)
      | (go_at_call 58; (with_reducible refine (HL.out _).mono ?_); rintro x w1 ⟨rfl, rfl⟩)
      | (go_at_call 47; (with_reducible refine (HV.out _).mono ?_); rintro x w1 ⟨rfl, rfl⟩))
    go_ret
    exact ⟨rfl, Below.refl _ _⟩
  · obtain ⟨k, hk⟩ : ∃ k, k = Nat.log2 N := ⟨_, rfl⟩
    have h1 : 2 ^ k ≤ N := by rw [hk]; exact Nat.log2_self_le (by omega)
    have h2 : N < 2 ^ (k + 1) := by rw [hk]; exact Nat.lt_log2_self
    have hk1 : 4 + 3 ≤ k := by
      refine Decidable.byContradiction fun hc => ?_
      have : 2 ^ (k + 1) ≤ 2 ^ 7 := Nat.pow_le_pow_right (n := 2) (by omega) (by omega)
      omega
    have hk2 : k ≤ 4 + 10 := by
      refine Decidable.byContradiction fun hc => ?_
      have : 2 ^ 15 ≤ 2 ^ k := Nat.pow_le_pow_right (n := 2) (by omega) (by omega)
      omega
    have hc := HU.out _ (code_mid 4 16 k N rfl hk1 hk2 h1 h2)
    have HB := Lib.hid (fun W => len_small N k (by omega) h1 h2 (by omega) W)
    have HE : Hid (bits .or .i64 (bits .or .i64 128 (((k : Int) - 4 - 3) * 16)) (bits .and .i64 ((N : Int) / 2 ^ (k - 4)) 15) = ((codeN N 16 255 : Nat) : Int)) := Lib.hid (by
      obtain ⟨S, hS⟩ : ∃ S, S = k - 4 := ⟨_, rfl⟩
      obtain ⟨x, hx⟩ : ∃ x, x = k - 4 - 3 := ⟨_, rfl⟩
      obtain ⟨Q, hQ⟩ : ∃ Q, Q = N / 2 ^ S := ⟨_, rfl⟩
      obtain ⟨r, hr⟩ : ∃ r, r = Q % 16 := ⟨_, rfl⟩
      have hQN : Q ≤ N := by rw [hQ]; exact Nat.div_le_self _ _
      have e1 : (k : Int) - 4 - 3 = (x : Int) := by omega
      have e3 : (N : Int) / 2 ^ S = (Q : Int) := by rw [hQ]; simp
      have b1 : bits .or .i64 128 ((x : Int) * 16) = ((8 + x : Nat) : Int) * 16 := by
        have := or_above 1 (x * 16) 7 (by omega) (by omega) (by omega)
        rw [show 1 * 2 ^ 7 = 128 from rfl] at this
        rw [show (128 : Int) = ((128 : Nat) : Int) from rfl, show (x : Int) * 16 = ((x * 16 : Nat) : Int) by simp, this]
        omega
      have b2 : bits .and .i64 (Q : Int) 15 = (r : Int) := by
        rw [hr, show (15 : Int) = ((15 : Nat) : Int) from rfl, and_mask Q 4 15 (by omega) (by omega) (by omega)]
      have b3 : bits .or .i64 (((8 + x : Nat) : Int) * 16) (r : Int) = ((k - 4 + 5) * 16 + N / 2 ^ (k - 4) % 16 : Nat) := by
        have := or_above (8 + x) r 4 (by omega) (by omega) (by omega)
        rw [show 2 ^ 4 = 16 from rfl] at this
        rw [show ((8 + x : Nat) : Int) * 16 = (((8 + x) * 16 : Nat) : Int) by simp, this, ← hS, ← hQ, ← hr, show S + 5 = 8 + x by omega]
      rw [← hc, ← b3, e1, b1, ← hS, e3, b2])
    have hkb : k ≤ 30 := by omega
    have hkf : 7 ≤ k := hk1
    have hNb : N < 16777216 := by omega
    have hd1 : decide ((N : Int) < 128) = false := decide_eq_false hb
    have hd2 : decide ((31744 : Int) ≤ (N : Int)) = false := decide_eq_false ht
    generalize codeN N 16 255 = R at HE ⊢
    clear hc HU h1 h2 hk hk1 hk2 hb ht hn
    go_enter Try.func48, Try.ntmps48
    go_wp2_with (first
      | (go_at_call 59; (with_reducible refine (HF.out _).mono ?_); rintro x w1 ⟨rfl, rfl⟩)
      | (go_at_call 58; (with_reducible refine (HL.out _).mono ?_); rintro x w1 ⟨rfl, rfl⟩)
      | (go_at_call 47; (with_reducible refine (HV.out _).mono ?_); rintro x w1 ⟨rfl, rfl⟩)
      | (go_at_call 60; (with_reducible refine (HB.out _).mono ?_); rintro x w1 ⟨rfl, rfl⟩)
      | go_region)
    go_ret
    exact ⟨ret_int HE.out, ⟨rfl, rfl, rfl, Nat.le_refl _, fun _ _ => rfl⟩⟩
set_option maxRecDepth 100000 in
set_option maxHeartbeats 1000000 in
/-- The value of any number. -/
theorem value12_any (n : Int) (w : World) : Calls Try.prog 47 #[.int .i64 n, .int .i64 12] w fun x w' => x = .returned (.int .i64 (valN (clampN n 65535) 4096)) ∧ w = w' := by
  have HF := Lib.hid (fun W => first12 W)
  have HL := Lib.hid (fun W => last12 W)
  by_cases hn : n < 0
  · have hc : valN (clampN n 65535) 4096 = 0 := by
      rw [show clampN n 65535 = 0 by unfold clampN; split <;> omega, valN_zero _ (by omega)]
    rw [hc]
    go_enter Try.func47, Try.ntmps47
    go_wp2_with (first
      | (go_at_call 59; (with_reducible refine (HF.out _).mono ?_); rintro x w1 ⟨rfl, rfl⟩)
      | (go_at_call 58; (with_reducible refine (HL.out _).mono ?_); rintro x w1 ⟨rfl, rfl⟩))
    go_ret
    exact ⟨rfl, rfl⟩
  by_cases hg : 65535 < n
  · have hc : valN (clampN n 65535) 4096 = 8387584 := by
      rw [show clampN n 65535 = 65535 by unfold clampN; split <;> omega, valN_piece 65535 4096 4095 15 (by omega) (by omega) (by omega) (by omega) (by omega)]
    rw [hc]
    have B1 : ∀ y : Int, y = 65535 → bits .and .i64 y 4095 = 4095 := by rintro y rfl; decide
    have B2 : ∀ y : Int, y = 4095 → bits .or .i64 4096 y = 8191 := by rintro y rfl; decide
    have B3 : ∀ y : Int, y = 15 → bits .and .i64 y 7 = 7 := by rintro y rfl; decide
    go_enter Try.func47, Try.ntmps47
    go_wp2_with (first
      | (go_at_call 59; (with_reducible refine (HF.out _).mono ?_); rintro x w1 ⟨rfl, rfl⟩)
      | (go_at_call 58; (with_reducible refine (HL.out _).mono ?_); rintro x w1 ⟨rfl, rfl⟩))
    go_ret
    exact ⟨rfl, rfl⟩
  · obtain ⟨c, rfl⟩ : ∃ c : Nat, n = (c : Int) := ⟨n.toNat, by omega⟩
    rw [show clampN (c : Int) 65535 = c by unfold clampN; split <;> omega]
    exact value12_mid c (by omega) w
set_option maxRecDepth 100000 in
set_option maxHeartbeats 1000000 in
/-- The code of any number. -/
theorem code12_any (n : Int) (w : World) : Calls Try.prog 48 #[.int .i64 n, .int .i64 12] w fun x w' => x = .returned (.int .i64 (codeN n 4096 65535)) ∧ Below w.heap.size w w' := by
  have HF := Lib.hid (fun W => first12 W)
  have HL := Lib.hid (fun W => last12 W)
  have HV : Hid (∀ W, Calls Try.prog 47 #[.int .i64 65535, .int .i64 12] W fun x w' => x = .returned (.int .i64 8387584) ∧ W = w') := Lib.hid fun W => by
    have := value12_mid 65535 (by omega) W
    rw [valN_piece 65535 4096 4095 15 (by omega) (by omega) (by omega) (by omega) (by omega)] at this
    exact this
  have HU := Lib.hid (fun (c : Nat) (h : IsCode n 4096 65535 c) => codeN_uniq (by omega) (by omega) h)
  by_cases hn : n < 0
  · have hc : codeN n 4096 65535 = 0 := (codeN_is n 4096 65535).neg (by omega) (by omega) hn
    rw [hc]
    have hb : n < 32768 := by omega
    go_enter Try.func48, Try.ntmps48
    go_wp2_with (first
      | (go_at_call 59; (with_reducible refine (HF.out _).mono ?_); rintro x w1 ⟨rfl, rfl⟩)
      | (go_at_call 58; (with_reducible refine (HL.out _).mono ?_); rintro x w1 ⟨rfl, rfl⟩))
    go_ret
    exact ⟨rfl, Below.refl _ _⟩
  obtain ⟨N, rfl⟩ : ∃ N : Nat, n = (N : Int) := ⟨n.toNat, by omega⟩
  by_cases hb : (N : Int) < 32768
  · have hc := HU.out N (code_low 4096 N (by omega) (by omega))
    rw [← hc]
    clear hc HU
    go_enter Try.func48, Try.ntmps48
    go_wp2_with (first
      | (go_at_call 59; (with_reducible refine (HF.out _).mono ?_); rintro x w1 ⟨rfl, rfl⟩)
      | (go_at_call 58; (with_reducible refine (HL.out _).mono ?_); rintro x w1 ⟨rfl, rfl⟩))
    go_ret
    exact ⟨rfl, Below.refl _ _⟩
  by_cases ht : (8387584 : Int) ≤ (N : Int)
  · have hc := HU.out 65535 ⟨Nat.le_refl _, Or.inr (by rw [valN_piece 65535 4096 4095 15 (by omega) (by omega) (by omega) (by omega) (by omega)]; omega), Or.inl rfl⟩
    rw [← hc]
    have hd1 : decide ((N : Int) < 32768) = false := decide_eq_false hb
    have hd2 : decide ((8387584 : Int) ≤ (N : Int)) = true := decide_eq_true ht
    clear hc HU hb ht hn
    go_enter Try.func48, Try.ntmps48
    go_wp2_with (first
      | (go_at_call 59; (with_reducible refine (HF.out _).mono ?_); rintro x w1 ⟨rfl, rfl⟩)
      | (go_at_call 58; (with_reducible refine (HL.out _).mono ?_); rintro x w1 ⟨rfl, rfl⟩)
      | (go_at_call 47; (with_reducible refine (HV.out _).mono ?_); rintro x w1 ⟨rfl, rfl⟩))
    go_ret
    exact ⟨rfl, Below.refl _ _⟩
  · obtain ⟨k, hk⟩ : ∃ k, k = Nat.log2 N := ⟨_, rfl⟩
    have h1 : 2 ^ k ≤ N := by rw [hk]; exact Nat.log2_self_le (by omega)
    have h2 : N < 2 ^ (k + 1) := by rw [hk]; exact Nat.lt_log2_self
    have hk1 : 12 + 3 ≤ k := by
      refine Decidable.byContradiction fun hc => ?_
      have : 2 ^ (k + 1) ≤ 2 ^ 15 := Nat.pow_le_pow_right (n := 2) (by omega) (by omega)
      omega
    have hk2 : k ≤ 12 + 10 := by
      refine Decidable.byContradiction fun hc => ?_
      have : 2 ^ 23 ≤ 2 ^ k := Nat.pow_le_pow_right (n := 2) (by omega) (by omega)
      omega
    have hc := HU.out _ (code_mid 12 4096 k N rfl hk1 hk2 h1 h2)
    have HB := Lib.hid (fun W => len_small N k (by omega) h1 h2 (by omega) W)
    have HE : Hid (bits .or .i64 (bits .or .i64 32768 (((k : Int) - 12 - 3) * 4096)) (bits .and .i64 ((N : Int) / 2 ^ (k - 12)) 4095) = ((codeN N 4096 65535 : Nat) : Int)) := Lib.hid (by
      obtain ⟨S, hS⟩ : ∃ S, S = k - 12 := ⟨_, rfl⟩
      obtain ⟨x, hx⟩ : ∃ x, x = k - 12 - 3 := ⟨_, rfl⟩
      obtain ⟨Q, hQ⟩ : ∃ Q, Q = N / 2 ^ S := ⟨_, rfl⟩
      obtain ⟨r, hr⟩ : ∃ r, r = Q % 4096 := ⟨_, rfl⟩
      have hQN : Q ≤ N := by rw [hQ]; exact Nat.div_le_self _ _
      have e1 : (k : Int) - 12 - 3 = (x : Int) := by omega
      have e3 : (N : Int) / 2 ^ S = (Q : Int) := by rw [hQ]; simp
      have b1 : bits .or .i64 32768 ((x : Int) * 4096) = ((8 + x : Nat) : Int) * 4096 := by
        have := or_above 1 (x * 4096) 15 (by omega) (by omega) (by omega)
        rw [show 1 * 2 ^ 15 = 32768 from rfl] at this
        rw [show (32768 : Int) = ((32768 : Nat) : Int) from rfl, show (x : Int) * 4096 = ((x * 4096 : Nat) : Int) by simp, this]
        omega
      have b2 : bits .and .i64 (Q : Int) 4095 = (r : Int) := by
        rw [hr, show (4095 : Int) = ((4095 : Nat) : Int) from rfl, and_mask Q 12 4095 (by omega) (by omega) (by omega)]
      have b3 : bits .or .i64 (((8 + x : Nat) : Int) * 4096) (r : Int) = ((k - 12 + 5) * 4096 + N / 2 ^ (k - 12) % 4096 : Nat) := by
        have := or_above (8 + x) r 12 (by omega) (by omega) (by omega)
        rw [show 2 ^ 12 = 4096 from rfl] at this
        rw [show ((8 + x : Nat) : Int) * 4096 = (((8 + x) * 4096 : Nat) : Int) by simp, this, ← hS, ← hQ, ← hr, show S + 5 = 8 + x by omega]
      rw [← hc, ← b3, e1, b1, ← hS, e3, b2])
    have hkb : k ≤ 30 := by omega
    have hkf : 15 ≤ k := hk1
    have hNb : N < 16777216 := by omega
    have hd1 : decide ((N : Int) < 32768) = false := decide_eq_false hb
    have hd2 : decide ((8387584 : Int) ≤ (N : Int)) = false := decide_eq_false ht
    generalize codeN N 4096 65535 = R at HE ⊢
    clear hc HU h1 h2 hk hk1 hk2 hb ht hn
    go_enter Try.func48, Try.ntmps48
    go_wp2_with (first
      | (go_at_call 59; (with_reducible refine (HF.out _).mono ?_); rintro x w1 ⟨rfl, rfl⟩)
      | (go_at_call 58; (with_reducible refine (HL.out _).mono ?_); rintro x w1 ⟨rfl, rfl⟩)
      | (go_at_call 47; (with_reducible refine (HV.out _).mono ?_); rintro x w1 ⟨rfl, rfl⟩)
      | (go_at_call 60; (with_reducible refine (HB.out _).mono ?_); rintro x w1 ⟨rfl, rfl⟩)
      | go_region)
    go_ret
    exact ⟨ret_int HE.out, ⟨rfl, rfl, rfl, Nat.le_refl _, fun _ _ => rfl⟩⟩
theorem value8_any (n : Int) (w : World) : Calls Try.prog 33 #[.int .i64 n] w fun x w' => x = .returned (.int .i64 (valN (clampN n 255) 16)) ∧ Below w.heap.size w w' := by
  have HC := Lib.hid (fun W => value4_any n W)
  generalize valN (clampN n 255) 16 = R at HC ⊢
  go_enter Try.func33, Try.ntmps33
  go_wp2_with (go_at_call 47; (with_reducible refine (HC.out _).mono ?_); rintro x w1 ⟨rfl, rfl⟩)
  go_ret
  exact ⟨rfl, Below.refl _ _⟩
theorem code8_any (n : Int) (w : World) : Calls Try.prog 34 #[.int .i64 n] w fun x w' => x = .returned (.int .i64 (codeN n 16 255)) ∧ Below w.heap.size w w' := by
  have HC := Lib.hid (fun W => code4_any n W)
  generalize codeN n 16 255 = R at HC ⊢
  go_enter Try.func34, Try.ntmps34
  go_wp2_with (go_at_call 48; (with_reducible refine (HC.out _).mono ?_); rintro x w1 ⟨rfl, hB⟩)
  go_ret
  exact ⟨rfl, hB⟩
theorem value16_any (n : Int) (w : World) : Calls Try.prog 35 #[.int .i64 n] w fun x w' => x = .returned (.int .i64 (valN (clampN n 65535) 4096)) ∧ Below w.heap.size w w' := by
  have HC := Lib.hid (fun W => value12_any n W)
  generalize valN (clampN n 65535) 4096 = R at HC ⊢
  go_enter Try.func35, Try.ntmps35
  go_wp2_with (go_at_call 47; (with_reducible refine (HC.out _).mono ?_); rintro x w1 ⟨rfl, rfl⟩)
  go_ret
  exact ⟨rfl, Below.refl _ _⟩
theorem code16_any (n : Int) (w : World) : Calls Try.prog 36 #[.int .i64 n] w fun x w' => x = .returned (.int .i64 (codeN n 4096 65535)) ∧ Below w.heap.size w w' := by
  have HC := Lib.hid (fun W => code12_any n W)
  generalize codeN n 4096 65535 = R at HC ⊢
  go_enter Try.func36, Try.ntmps36
  go_wp2_with (go_at_call 48; (with_reducible refine (HC.out _).mono ?_); rintro x w1 ⟨rfl, hB⟩)
  go_ret
  exact ⟨rfl, hB⟩
end Go.Proofs.Ytlkihfmojnghhaa

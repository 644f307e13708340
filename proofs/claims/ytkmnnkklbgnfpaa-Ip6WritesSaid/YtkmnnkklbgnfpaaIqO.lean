/-
  The document's own Options of a packet of IPv6.
-/
import Derived.Test.YtkmnnkklbgnfpaaIqA
import Derived.Test.YtkmnnkklbgnfpaaMgb
namespace Go.Proofs.Ytkmnnkklbgnfpaa
open Go.RowKit
set_option linter.unusedVariables false

set_option maxRecDepth 100000 in
set_option maxHeartbeats 4000000 in
theorem ropt6_any (L : List UInt8) (hL : L.length ≤ 100000) (w : World) : Calls Try.prog 17 #[.string (Str L)] w fun x w' => x = .returned (.tuple #[.bool (optQ false L).1, .int .i64 (optQ false L).2]) ∧ w = w' := by
  obtain ⟨R, hR⟩ : ∃ R, R = optQ false L := ⟨_, rfl⟩
  rw [← hR]
  have HR := Lib.hid hR; clear hR
  have hsz := Str_size L
  go_enter Try.func17, Try.ntmps17
  go_wp2_with fail
  go_loop [4, 5, 6] (fun b s z => ∃ (i : Nat) (is : Bool), i ≤ L.length ∧ s = .int .i64 i ∧ b = .bool is ∧ R = optQ is (L.drop i)) (fun _ s _ => L.length - (intOf s).toNat)
  case atStart => exact ⟨0, false, by omega, rfl, rfl, HR.out⟩
  case round =>
    obtain ⟨i, is, hle, rfl, rfl, hRl⟩ := hrel
    have HRl := Lib.hid hRl; clear hRl
    by_cases hi : i < L.length
    · have hd : (i : Int) < (L.length : Int) := by omega
      have g0 : i < (Str L).size := by omega
      have e0 := Str_at L i g0
      have b0 := by8_lt L i
      have hl0 : 0 < (L.drop i).length := by simp; omega
      have hll : (L.drop i).length = L.length - i := by simp
      have q0 := by8_drop L i 0
      rw [Nat.add_zero] at q0
      have q1 := by8_drop L i 1
      have q2 := by8_drop L i 2
      have q3 := by8_drop L i 3
      by_cases hz : by8 L i = 0
      · have HV := Lib.hid (show R = optQ is (L.drop (i + 1)) by
          rw [HRl.out, optQ_pad is _ hl0 (by rw [q0]; exact hz), List.drop_drop])
        have hx : ((by8 L i : Int) == 0) = true := by simp; omega
        generalize by8 L i = x at *
        go_wp2_with fail
        go_round
        case rel => exact ⟨i + 1, is, by omega, by go_num, rfl, HV.out⟩
        case measure => simp [intOf]; omega
      · have hx : ((by8 L i : Int) == 0) = false := by simp; omega
        by_cases h2 : i + 1 = L.length
        · have HV := Lib.hid (show R = (false, 2) by
            rw [HRl.out]
            exact optQ_end is _ hl0 (by rw [q0]; exact hz) (by left; omega))
          have hx2 : ((i : Int) + 1 == (L.length : Int)) = true := by simp; omega
          generalize by8 L i = x at *
          go_wp2_with fail
          go_ret2
          exact ⟨by rw [HV.out]; rfl, rfl⟩
        · have hx2 : ((i : Int) + 1 == (L.length : Int)) = false := by simp; omega
          have g1 : i + 1 < (Str L).size := by omega
          have e1 := Str_at L (i + 1) g1
          have b1 := by8_lt L (i + 1)
          have hd1 : (i : Int) + 1 < (L.length : Int) := by omega
          obtain ⟨n, hn⟩ : ∃ n, n = by8 L (i + 1) := ⟨_, rfl⟩
          rw [← hn] at e1 b1 q1
          have hw1 : IntKind.i64.wrap (n : Int) = (n : Int) := by simp only [IntKind.wrap_i64]; omega
          by_cases h3 : L.length - i < n + 2
          · have HV := Lib.hid (show R = (false, 2) by
              rw [HRl.out]
              exact optQ_end is _ hl0 (by rw [q0]; exact hz) (by right; rw [q1]; omega))
            have hx4 : (L.length : Int) - (i : Int) - 2 < (n : Int) := by omega
            clear hn
            generalize by8 L i = x at *
            go_wp2_with fail
            go_ret2
            exact ⟨by rw [HV.out]; rfl, rfl⟩
          · have hx4 : ¬ (L.length : Int) - (i : Int) - 2 < (n : Int) := by omega
            have hnend : ¬ ((L.drop i).length < 2 ∨ (L.drop i).length < by8 (L.drop i) 1 + 2) := by rw [q1]; omega
            by_cases hk : by8 L i ≠ 1 ∧ by8 L i ≠ 5 ∧ 63 < by8 L i
            · have HV := Lib.hid (show R = (false, 5) by
                rw [HRl.out]
                exact optQ_kind is _ hl0 (by rw [q0]; exact hz) hnend (by rw [q0]; exact hk))
              have k1 : ((by8 L i : Int) != 1) = true := by simp; omega
              have k5 : ((by8 L i : Int) != 5) = true := by simp; omega
              have k6 : (63 : Int) < (by8 L i : Int) := by omega
              clear hn hnend
              generalize by8 L i = x at *
              go_wp2_with fail
              go_ret2
              exact ⟨by rw [HV.out]; rfl, rfl⟩
            · have HV := Lib.hid (show R = optQ (is || al6 (L.drop i)) (L.drop (i + (n + 2))) by
                rw [HRl.out, optQ_step is _ hl0 (by rw [q0]; exact hz) hnend (by rw [q0]; exact hk), q1, List.drop_drop])
              have hal : al6 (L.drop i) = decide (by8 L i = 5 ∧ n = 2 ∧ by8 L (i + 2) = 0 ∧ by8 L (i + 3) = 0) := by
                unfold al6; rw [q0, q1, q2, q3]
              clear hnend
              by_cases h1 : by8 L i = 1
              · have k1 : ((by8 L i : Int) != 1) = false := by simp; omega
                have k5 : ((by8 L i : Int) == 5) = false := by simp; omega
                clear hn
                generalize by8 L i = x at *
                have HV2 := Lib.hid (show R = optQ is (L.drop (i + (n + 2))) by rw [HV.out, hal, decide_eq_false (by omega), Bool.or_false])
                clear hal
                go_wp2_with fail
                go_round
                case rel => exact ⟨i + (n + 2), is, by omega, by go_num, rfl, HV2.out⟩
                case measure => simp [intOf]; omega
              · have k1 : ((by8 L i : Int) != 1) = true := by simp; omega
                by_cases h5 : by8 L i = 5
                · have k5 : ((by8 L i : Int) != 5) = false := by simp; omega
                  have k5' : ((by8 L i : Int) == 5) = true := by simp; omega
                  by_cases hn2 : n = 2
                  · have kn : ((n : Int) == 2) = true := by simp; omega
                    have g2 : i + 2 < (Str L).size := by omega
                    have g3 : i + 3 < (Str L).size := by omega
                    have e2 := Str_at L (i + 2) g2
                    have e3 := Str_at L (i + 3) g3
                    have hd2 : (i : Int) + 2 < (L.length : Int) := by omega
                    have hd3 : (i : Int) + 3 < (L.length : Int) := by omega
                    generalize by8 L i = x at *
                    generalize by8 L (i + 2) = y at *
                    generalize by8 L (i + 3) = z at *
                    clear hn
                    by_cases hy : y = 0
                    · have ky : ((y : Int) == 0) = true := by simp; omega
                      by_cases hz3 : z = 0
                      · have kz : ((z : Int) == 0) = true := by simp; omega
                        have HV2 := Lib.hid (show R = optQ true (L.drop (i + (n + 2))) by rw [HV.out, hal, decide_eq_true (by omega), Bool.or_true])
                        clear hal
                        go_wp2_with fail
                        go_round
                        case rel => exact ⟨i + (n + 2), true, by omega, by go_num, rfl, HV2.out⟩
                        case measure => simp [intOf]; omega
                      · have kz : ((z : Int) == 0) = false := by simp; omega
                        have HV2 := Lib.hid (show R = optQ is (L.drop (i + (n + 2))) by rw [HV.out, hal, decide_eq_false (by omega), Bool.or_false])
                        clear hal
                        go_wp2_with fail
                        go_round
                        case rel => exact ⟨i + (n + 2), is, by omega, by go_num, rfl, HV2.out⟩
                        case measure => simp [intOf]; omega
                    · have ky : ((y : Int) == 0) = false := by simp; omega
                      have HV2 := Lib.hid (show R = optQ is (L.drop (i + (n + 2))) by rw [HV.out, hal, decide_eq_false (by omega), Bool.or_false])
                      clear hal
                      go_wp2_with fail
                      go_round
                      case rel => exact ⟨i + (n + 2), is, by omega, by go_num, rfl, HV2.out⟩
                      case measure => simp [intOf]; omega
                  · have kn : ((n : Int) == 2) = false := by simp; omega
                    clear hn
                    generalize by8 L i = x at *
                    have HV2 := Lib.hid (show R = optQ is (L.drop (i + (n + 2))) by rw [HV.out, hal, decide_eq_false (by omega), Bool.or_false])
                    clear hal
                    go_wp2_with fail
                    go_round
                    case rel => exact ⟨i + (n + 2), is, by omega, by go_num, rfl, HV2.out⟩
                    case measure => simp [intOf]; omega
                · have k5 : ((by8 L i : Int) != 5) = true := by simp; omega
                  have k5' : ((by8 L i : Int) == 5) = false := by simp; omega
                  have k6 : ¬ (63 : Int) < (by8 L i : Int) := by omega
                  clear hn
                  generalize by8 L i = x at *
                  have HV2 := Lib.hid (show R = optQ is (L.drop (i + (n + 2))) by rw [HV.out, hal, decide_eq_false (by omega), Bool.or_false])
                  clear hal
                  go_wp2_with fail
                  go_round
                  case rel => exact ⟨i + (n + 2), is, by omega, by go_num, rfl, HV2.out⟩
                  case measure => simp [intOf]; omega
    · have hil : i = L.length := by omega
      have HV := Lib.hid (show R = (is, 0) by rw [HRl.out]; exact optQ_nil is _ (by simp; omega))
      have hd : ¬ ((i : Int) < (L.length : Int)) := by omega
      clear hil
      go_wp2
      go_ret2
      exact ⟨by rw [HV.out]; rfl, rfl⟩
end Go.Proofs.Ytkmnnkklbgnfpaa

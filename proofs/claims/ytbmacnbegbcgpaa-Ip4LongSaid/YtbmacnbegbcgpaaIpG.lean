/-
  The document's own Alert.
-/
import Derived.Test.YtbmacnbegbcgpaaIpC
namespace Go.Proofs.Ytbmacnbegbcgpaa
open Go.RowKit
set_option linter.unusedVariables false

theorem drop_cons2 {s : List UInt8} {i : Nat} (h : i + 1 < s.length) : s.drop i = s[i] :: s[i + 1] :: s.drop (i + 2) := by
  rw [List.drop_eq_getElem_cons (show i < s.length by omega), List.drop_eq_getElem_cons h]
theorem by8_drop (s : List UInt8) (i j : Nat) : by8 (s.drop i) j = by8 s (i + j) := by
  unfold by8
  rw [List.getD_eq_getElem?_getD, List.getD_eq_getElem?_getD, List.getElem?_drop]
theorem alert_eq (l : List UInt8) (h : 4 ≤ l.length) : decide (l.take 4 = alertL) = decide (by8 l 0 = 148 ∧ by8 l 1 = 4 ∧ by8 l 2 = 0 ∧ by8 l 3 = 0) := by
  rw [decide_eq_decide, alert_of h, by8_get l 0 (by omega), by8_get l 1 (by omega), by8_get l 2 (by omega), by8_get l 3 (by omega)]

set_option maxRecDepth 100000 in
set_option maxHeartbeats 4000000 in
theorem ralert_any (L : List UInt8) (hL : L.length ≤ 100000) (w : World) : Calls Try.prog 33 #[.string (Str L)] w fun x w' => x = .returned (.tuple #[.bool (optR false L).1, .bool (optR false L).2]) ∧ w = w' := by
  obtain ⟨R, hR⟩ : ∃ R, R = optR false L := ⟨_, rfl⟩
  rw [← hR]
  have HR := Lib.hid hR; clear hR
  have hsz := Str_size L
  go_enter Try.func33, Try.ntmps33
  go_wp2_with fail
  go_loop [4, 5, 6] (fun b s z => ∃ (i : Nat) (is : Bool), i ≤ L.length ∧ s = .int .i64 i ∧ b = .bool is ∧ R = optR is (L.drop i)) (fun _ s _ => L.length - (intOf s).toNat)
  case atStart => exact ⟨0, false, by omega, rfl, rfl, HR.out⟩
  case round =>
    obtain ⟨i, is, hle, rfl, rfl, hRl⟩ := hrel
    have HRl := Lib.hid hRl; clear hRl
    by_cases hi : i < L.length
    · have hd : (i : Int) < (L.length : Int) := by omega
      have g0 : i < (Str L).size := by omega
      have e0 := Str_at L i g0
      have b0 := by8_lt L i
      have hl0 : 0 < (L.drop i).length := by simp; omega
      have q0 := by8_drop L i 0
      have q1 := by8_drop L i 1
      have q2 := by8_drop L i 2
      have q3 := by8_drop L i 3
      by_cases hz : by8 L i = 0
      · have HV := Lib.hid (show R = (is, true) by
          rw [HRl.out, List.drop_eq_getElem_cons hi]
          exact optR_end is _ _ (by rw [← by8_get L i hi]; exact hz))
        have hx : ((by8 L i : Int) == 0) = true := by simp; omega
        generalize by8 L i = x at *
        go_wp2
        go_ret2
        exact ⟨by rw [HV.out]; rfl, rfl⟩
      · have hx : ((by8 L i : Int) == 0) = false := by simp; omega
        by_cases h1 : by8 L i = 1
        · have HV := Lib.hid (show R = optR is (L.drop (i + 1)) by
            rw [HRl.out, List.drop_eq_getElem_cons hi]
            exact optR_pad is _ _ (by rw [← by8_get L i hi]; exact h1))
          have hx1 : ((by8 L i : Int) == 1) = true := by simp; omega
          generalize by8 L i = x at *
          go_wp2_with fail
          go_round
          case rel => exact ⟨i + 1, is, by omega, by go_num, rfl, HV.out⟩
          case measure => simp [intOf]; omega
        · have hx1 : ((by8 L i : Int) == 1) = false := by simp; omega
          by_cases h2 : i + 1 = L.length
          · have HV := Lib.hid (show R = (false, false) by
              rw [HRl.out]
              refine optR_osz0 is _ hl0 (by rw [q0, Nat.add_zero]; exact hz) ?_
              unfold osz
              rw [q0, Nat.add_zero, if_neg h1, if_pos (by left; simp; omega)])
            have hx2 : ((i : Int) + 1 == (L.length : Int)) = true := by simp; omega
            generalize by8 L i = x at *
            go_wp2_with fail
            go_ret2
            exact ⟨by rw [HV.out]; rfl, rfl⟩
          · have hx2 : ((i : Int) + 1 == (L.length : Int)) = false := by simp; omega
            have g1 : i + 1 < (Str L).size := by omega
            have e1 := Str_at L (i + 1) g1
            have b1 := by8_lt L (i + 1)
            have hd1 : (i : Int) + 1 < (L.length : Int) := by omega
            obtain ⟨n, hn⟩ : ∃ n, n = by8 L (i + 1) := ⟨_, rfl⟩
            rw [← hn] at e1 b1 q1
            have hw1 : IntKind.i64.wrap (n : Int) = (n : Int) := by simp only [IntKind.wrap_i64]; omega
            by_cases h3 : n < 2 ∨ L.length - i < n
            · have HV := Lib.hid (show R = (false, false) by
                rw [HRl.out]
                refine optR_osz0 is _ hl0 (by rw [q0, Nat.add_zero]; exact hz) ?_
                unfold osz
                rw [q0, q1, Nat.add_zero, if_neg h1, if_pos (by simp; omega)])
              by_cases h4 : n < 2
              · have hx3 : (n : Int) < 2 := by omega
                clear hn
                generalize by8 L i = x at *
                go_wp2_with fail
                go_ret2
                exact ⟨by rw [HV.out]; rfl, rfl⟩
              · have hx3 : ¬ (n : Int) < 2 := by omega
                have hx4 : (L.length : Int) - (i : Int) < (n : Int) := by omega
                clear hn
                generalize by8 L i = x at *
                go_wp2_with fail
                go_ret2
                exact ⟨by rw [HV.out]; rfl, rfl⟩
            · have hx3 : ¬ (n : Int) < 2 := by omega
              have hx4 : ¬ (L.length : Int) - (i : Int) < (n : Int) := by omega
              have hosz : osz (L.drop i) = n := by
                unfold osz
                rw [q0, q1, Nat.add_zero, if_neg h1, if_neg (by simp; omega)]
              have HV := Lib.hid (show R = optR (is || decide ((L.drop i).take n = alertL)) (L.drop (i + n)) by
                rw [HRl.out]
                have := optR_osz is (L.drop i) hl0 (by rw [q0, Nat.add_zero]; exact hz) (by omega)
                rw [hosz, List.drop_drop] at this
                exact this)
              have hmeas : L.length - (i + n) < L.length - i := by omega
              by_cases h4 : n = 4
              · have hx5 : ((n : Int) == 4) = true := by simp; omega
                have hAl := alert_eq (L.drop i) (by simp; omega)
                have g2 : i + 2 < (Str L).size := by omega
                have g3 : i + 3 < (Str L).size := by omega
                have e2 := Str_at L (i + 2) g2
                have e3 := Str_at L (i + 3) g3
                have b2 := by8_lt L (i + 2)
                have b3 := by8_lt L (i + 3)
                have hd2 : (i : Int) + 2 < (L.length : Int) := by omega
                have hd3 : (i : Int) + 3 < (L.length : Int) := by omega
                rw [q0, q1, q2, q3, Nat.add_zero] at hAl
                generalize by8 L i = x at *
                generalize by8 L (i + 2) = y at *
                generalize by8 L (i + 3) = z at *
                clear hn
                by_cases hc1 : x = 148
                · have hy1 : ((x : Int) == 148) = true := by simp; omega
                  by_cases hc2 : y = 0
                  · have hy2 : ((y : Int) == 0) = true := by simp; omega
                    by_cases hc3 : z = 0
                    · have hy3 : ((z : Int) == 0) = true := by simp; omega
                      have HV2 := Lib.hid (show R = optR true (L.drop (i + n)) by
                        rw [HV.out, h4, hAl, decide_eq_true (by omega), Bool.or_true])
                      clear hAl
                      go_wp2_with fail
                      go_round
                      case rel => exact ⟨i + n, true, by omega, by go_num, rfl, HV2.out⟩
                      case measure => simp [intOf]; omega
                    · have hy3 : ((z : Int) == 0) = false := by simp; omega
                      have HV2 := Lib.hid (show R = optR is (L.drop (i + n)) by
                        rw [HV.out, h4, hAl, decide_eq_false (by omega), Bool.or_false])
                      clear hAl
                      go_wp2_with fail
                      go_round
                      case rel => exact ⟨i + n, is, by omega, by go_num, rfl, HV2.out⟩
                      case measure => simp [intOf]; omega
                  · have hy2 : ((y : Int) == 0) = false := by simp; omega
                    have HV2 := Lib.hid (show R = optR is (L.drop (i + n)) by
                      rw [HV.out, h4, hAl, decide_eq_false (by omega), Bool.or_false])
                    clear hAl
                    go_wp2_with fail
                    go_round
                    case rel => exact ⟨i + n, is, by omega, by go_num, rfl, HV2.out⟩
                    case measure => simp [intOf]; omega
                · have hy1 : ((x : Int) == 148) = false := by simp; omega
                  have HV2 := Lib.hid (show R = optR is (L.drop (i + n)) by
                    rw [HV.out, h4, hAl, decide_eq_false (by omega), Bool.or_false])
                  clear hAl
                  go_wp2_with fail
                  go_round
                  case rel => exact ⟨i + n, is, by omega, by go_num, rfl, HV2.out⟩
                  case measure => simp [intOf]; omega
              · have hx5 : ((n : Int) == 4) = false := by simp; omega
                have HV2 := Lib.hid (show R = optR is (L.drop (i + n)) by
                  rw [HV.out, take_alert (L.drop i) n (by simp; omega) h4, Bool.or_false])
                clear hn
                generalize by8 L i = x at *
                go_wp2_with fail
                go_round
                case rel => exact ⟨i + n, is, by omega, by go_num, rfl, HV2.out⟩
                case measure => simp [intOf]; omega
    · have hil : i = L.length := by omega
      have HV := Lib.hid (show R = (is, true) by rw [HRl.out, List.drop_eq_nil_of_le (by omega)]; rfl)
      have hd : ¬ ((i : Int) < (L.length : Int)) := by omega
      clear hil
      go_wp2
      go_ret2
      exact ⟨by rw [HV.out]; rfl, rfl⟩
end Go.Proofs.Ytbmacnbegbcgpaa

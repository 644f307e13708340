/-
  The contracts of octet.Unhex, and of the document's answers Sign, Hex, digit, Unhex.
-/
import Derived.Test.YtodlcfebpcnhnaaRefa
import Derived.Test.YtodlcfebpcnhnaaOct
import Derived.Test.YtodlcfebpcnhnaaPureHex
namespace Go.Proofs.Ytodlcfebpcnhnaa
open Go.RowKit
set_option linter.unusedVariables false

theorem drew_more {w wr : World} (h : ∃ d, wr = w.drewN d) (n : Nat) : ∃ d, wr.drewN n = w.drewN d := by
  obtain ⟨d, rfl⟩ := h
  exact ⟨_, World.drewN_drewN _ _ _⟩

theorem digit_any (c : Nat) (hc : c < 256) (w : World) : Calls Try.prog 37 #[.int .u8 c] w fun e w' => e = .returned (.tuple #[.int .u8 ((digV c).getD 0 : Nat), .bool (digV c).isSome]) ∧ w = w' := by
  rcases (show (48 ≤ c ∧ c ≤ 57) ∨ (97 ≤ c ∧ c ≤ 102) ∨ (65 ≤ c ∧ c ≤ 70) ∨ (¬ (48 ≤ c ∧ c ≤ 57) ∧ ¬ (97 ≤ c ∧ c ≤ 102) ∧ ¬ (65 ≤ c ∧ c ≤ 70)) by omega) with h | h | h | ⟨h1, h2, h3⟩
  · have HD := Lib.hid (show digV c = some (c - 48) by unfold digV; rw [if_pos h])
    obtain ⟨ha, hb⟩ := h
    go_enter Try.func37, Try.ntmps37
    go_wp2
    go_ret2
    exact ⟨by rw [HD.out]; simp; omega, rfl⟩
  · have HD := Lib.hid (show digV c = some (c - 87) by unfold digV; rw [if_neg (by omega), if_pos h])
    obtain ⟨ha, hb⟩ := h
    go_enter Try.func37, Try.ntmps37
    go_wp2
    go_ret2
    exact ⟨by rw [HD.out]; simp; omega, rfl⟩
  · have HD := Lib.hid (show digV c = some (c - 55) by unfold digV; rw [if_neg (by omega), if_neg (by omega), if_pos h])
    obtain ⟨ha, hb⟩ := h
    go_enter Try.func37, Try.ntmps37
    go_wp2
    go_ret2
    exact ⟨by rw [HD.out]; simp; omega, rfl⟩
  · have HD := Lib.hid (show digV c = none by unfold digV; rw [if_neg h1, if_neg h2, if_neg h3])
    go_enter Try.func37, Try.ntmps37
    go_wp2
    all_goals
      first
        | (go_ret2; exact ⟨by rw [HD.out]; rfl, rfl⟩)
        | (exfalso; omega)

theorem sign_any (n : Nat) (hn : n < 16) (w : World) : Calls Try.prog 39 #[.int .u8 n] w fun e w' => e = .returned (.string (Str [digL n])) ∧ w = w' := by
  have HC := Lib.hid (hexcut ⟨n, hn⟩)
  go_enter Try.func39, Try.ntmps39
  go_wp2
  go_ret
  exact ⟨by rw [← HC.out]; rfl, rfl⟩
theorem sign_int (x : Int) (h0 : 0 ≤ x) (h1 : x < 16) (w : World) : Calls Try.prog 39 #[.int .u8 x] w fun e w' => e = .returned (.string (Str [digL x.toNat])) ∧ w' = w := by
  obtain ⟨n, rfl⟩ := Int.eq_ofNat_of_zero_le h0
  exact (sign_any n (by omega) w).mono fun _ _ h => ⟨h.1, h.2.symm⟩

set_option maxHeartbeats 400000 in
theorem rhex_any (s : ByteArray) (hs : s.size ≤ 1099511627776) (w : World) : Calls Try.prog 23 #[.string s] w fun e w' => e = .returned (.string (Str (hexL s.data.toList))) ∧ ∃ d, w' = w.drewN d := by
  go_enter Try.func23, Try.ntmps23
  go_wp2
  go_loopw [3, 4] (fun o i wr => ∃ k : Nat, k ≤ s.size ∧ i = .int .i64 k ∧ o = .string (Str (hexL (s.data.toList.take k))) ∧ ∃ d, wr = w.drewN d) (fun _ i _ => s.size - (intOf i).toNat)
  case atStart => exact ⟨0, Nat.zero_le _, rfl, rfl, 0, rfl⟩
  case round =>
    obtain ⟨k, hk, rfl, rfl, hd⟩ := hrel
    by_cases hlt : k < s.size
    · have hb := s[k].toNat_lt
      have Hs := Lib.hid (take_snoc s k hlt)
      have hsz : (Str (hexL (s.data.toList.take k))).size = 2 * k := by rw [Str_size, hexL_length, List.length_take]; simp; omega
      generalize hx : hexL (s.data.toList.take k) = x at hsz ⊢
      have Hx := Lib.hid hx; clear hx
      have hsz2 : (Str x).size ≤ 2 * k := by omega
      have hd1 : (0 : Int) ≤ (s[k].toNat : Int) / 16 ∧ (s[k].toNat : Int) / 16 < 16 := by omega
      have hd3 : (0 : Int) ≤ (s[k].toNat : Int) % 16 ∧ (s[k].toNat : Int) % 16 < 16 := by omega
      have hwr : IntKind.u8.wrap ((s[k].toNat : Int) / 16) = (s[k].toNat : Int) / 16 := IntWalk.u8_in _ (by omega)
      have hc1 := run_cat (P := Try.prog) x [digL ((s[k].toNat : Int) / 16).toNat] (by rw [Str_size] at hsz2; simp; omega)
      have hc2 := run_cat (P := Try.prog) (x ++ [digL ((s[k].toNat : Int) / 16).toNat]) [digL ((s[k].toNat : Int) % 16).toNat] (by rw [Str_size] at hsz2; simp; omega)
      have Hsz := Lib.hid hsz; clear hsz
      go_wp2_with fail
      go_quiet (first | ((go_at_call 39; exact Calls.quiet_of_same (sign_int _ hd1.1 hd1.2 _))) | ((go_at_call 39; exact Calls.quiet_of_same (sign_int _ hd3.1 hd3.2 _))))
      go_wp2
      go_roundw
      case rel =>
        refine ⟨k + 1, by omega, by go_num, ?_, drew_more hd _⟩
        rw [Hs.out, hexL_snoc, Hx.out]
        simp
        rw [show ((s[k].toNat : Int) / 16).toNat = s[k].toNat / 16 by omega, show ((s[k].toNat : Int) % 16).toNat = s[k].toNat % 16 by omega]
      case measure => simp [intOf]; omega
    · go_wp2
      go_ret
      exact ⟨by rw [List.take_of_length_le (by simp; omega)]; rfl, hd⟩

def digI (c : Nat) : Int := match digV c with | some n => (n : Int) | none => -1
theorem digI_some {c n : Nat} (h : digV c = some n) : digI c = n := by unfold digI; rw [h]
theorem digI_none {c : Nat} (h : digV c = none) : digI c = -1 := by unfold digI; rw [h]

set_option maxHeartbeats 1000000 in
theorem rdigit_any (c : Nat) (hc : c < 256) (w : World) : Calls Try.prog 38 #[.int .u8 c] w fun e w' => e = .returned (.int .i64 (digI c)) ∧ w' = w := by
  go_enter Try.func38, Try.ntmps38
  go_wp2
  go_loop [3] (fun i => ∃ n : Nat, n ≤ 16 ∧ i = .int .i64 n ∧ ∀ m, m < n → digV c ≠ some m) (fun i => 16 - (intOf i).toNat)
  case atStart => exact ⟨0, by omega, rfl, fun m h => by omega⟩
  case round =>
    obtain ⟨n, hn, rfl, hno⟩ := hrel
    have Hno := Lib.hid hno; clear hno
    by_cases hlt : n < 16
    · have HM := Lib.hid (digV_match c n hlt)
      have HT := Lib.hid (digL_toNat n hlt)
      have hd1 : (digL n).toNat ≤ 102 := by have := HT.out; split at this <;> omega
      have hd2 : 48 ≤ (digL n).toNat := by have := HT.out; split at this <;> omega
      have hsz : (Str [digL n]).size = 1 := rfl
      have hix : ∀ (h : 0 < (Str [digL n]).size), (Str [digL n])[0]'h = digL n := fun _ => rfl
      by_cases hm : c = (digL n).toNat
      · have HD := Lib.hid (digI_some (HM.out.2 (.inl hm)))
        go_wp2_with fail
        refine (sign_any n hlt _).mono ?_
        rintro e w1 ⟨rfl, rfl⟩
        go_wp2
        go_ret
        exact ⟨ret_int HD.out.symm, rfl⟩
      · have hm1 : ((c : Int) == ((digL n).toNat : Int)) = false := by simp; omega
        by_cases h9 : 9 < n
        · have h9' : (9 : Int) < (n : Int) := by omega
          by_cases hm2 : c = (digL n).toNat - 32
          · have HD := Lib.hid (digI_some (HM.out.2 (.inr ⟨h9, hm2⟩)))
            have hm3 : ((c : Int) == ((digL n).toNat : Int) - 32) = true := by simp; omega
            clear hm2
            go_wp2_with fail
            refine (sign_any n hlt _).mono ?_
            rintro e w1 ⟨rfl, rfl⟩
            go_wp2
            go_ret
            exact ⟨ret_int HD.out.symm, rfl⟩
          · have hm3 : ((c : Int) == ((digL n).toNat : Int) - 32) = false := by simp; omega
            have Hn : Hid (digV c ≠ some n) := Lib.hid (fun h => by rcases HM.out.1 h with h | h <;> omega)
            clear hm2
            go_wp2_with fail
            refine (sign_any n hlt _).mono ?_
            rintro e w1 ⟨rfl, rfl⟩
            go_wp2
            go_round
            case rel => exact ⟨n + 1, by omega, by go_num, fun m hm => by rcases Nat.lt_or_eq_of_le (Nat.le_of_lt_succ hm) with h | h; exact Hno.out m h; subst h; exact Hn.out⟩
            case measure => simp [intOf]; omega
        · have Hn : Hid (digV c ≠ some n) := Lib.hid (fun h => by rcases HM.out.1 h with h | h <;> omega)
          go_wp2_with fail
          refine (sign_any n hlt _).mono ?_
          rintro e w1 ⟨rfl, rfl⟩
          go_wp2
          go_round
          case rel => exact ⟨n + 1, by omega, by go_num, fun m hm => by rcases Nat.lt_or_eq_of_le (Nat.le_of_lt_succ hm) with h | h; exact Hno.out m h; subst h; exact Hn.out⟩
          case measure => simp [intOf]; omega
    · have HD : Hid (digI c = -1) := Lib.hid (digI_none (by
        cases h : digV c with
        | none => rfl
        | some m => exact absurd h (Hno.out m (by have := digV_lt h; omega))))
      go_wp2
      go_ret
      exact ⟨ret_int HD.out.symm, rfl⟩
end Go.Proofs.Ytodlcfebpcnhnaa

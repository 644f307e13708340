/-
  The contracts of octet.Unhex, and of the document's answers Sign, Hex, digit, Unhex.
-/
import Derived.Test.YtmpikhpnkfnnoaaGreatDoorRefa
import Derived.Test.YtmpikhpnkfnnoaaGreatDoorOct
import Derived.Test.YtmpikhpnkfnnoaaGreatDoorPureHex
namespace Go.Proofs.YtmpikhpnkfnnoaaGreatDoor
open Go.RowKit
set_option linter.unusedVariables false

theorem drew_more {w wr : World} (h : ∃ d, wr = w.drewN d) (n : Nat) : ∃ d, wr.drewN n = w.drewN d := by
  obtain ⟨d, rfl⟩ := h
  exact ⟨_, World.drewN_drewN _ _ _⟩

theorem digit_any (c : Nat) (hc : c < 256) (w : World) : Calls Tryz.prog 47 #[.int .u8 c] w fun e w' => e = .returned (.tuple #[.int .u8 ((digV c).getD 0 : Nat), .bool (digV c).isSome]) ∧ w = w' := by
  rcases (show (48 ≤ c ∧ c ≤ 57) ∨ (97 ≤ c ∧ c ≤ 102) ∨ (65 ≤ c ∧ c ≤ 70) ∨ (¬ (48 ≤ c ∧ c ≤ 57) ∧ ¬ (97 ≤ c ∧ c ≤ 102) ∧ ¬ (65 ≤ c ∧ c ≤ 70)) by omega) with h | h | h | ⟨h1, h2, h3⟩
  · have HD := Lib.hid (show digV c = some (c - 48) by unfold digV; rw [if_pos h])
    obtain ⟨ha, hb⟩ := h
    go_enter Tryz.func47, Tryz.ntmps47
    go_wp2
    go_ret2
    exact ⟨by rw [HD.out]; simp; omega, rfl⟩
  · have HD := Lib.hid (show digV c = some (c - 87) by unfold digV; rw [if_neg (by omega), if_pos h])
    obtain ⟨ha, hb⟩ := h
    go_enter Tryz.func47, Tryz.ntmps47
    go_wp2
    go_ret2
    exact ⟨by rw [HD.out]; simp; omega, rfl⟩
  · have HD := Lib.hid (show digV c = some (c - 55) by unfold digV; rw [if_neg (by omega), if_neg (by omega), if_pos h])
    obtain ⟨ha, hb⟩ := h
    go_enter Tryz.func47, Tryz.ntmps47
    go_wp2
    go_ret2
    exact ⟨by rw [HD.out]; simp; omega, rfl⟩
  · have HD := Lib.hid (show digV c = none by unfold digV; rw [if_neg h1, if_neg h2, if_neg h3])
    go_enter Tryz.func47, Tryz.ntmps47
    go_wp2
    all_goals
      first
        | (go_ret2; exact ⟨by rw [HD.out]; rfl, rfl⟩)
        | (exfalso; omega)

theorem sign_any (n : Nat) (hn : n < 16) (w : World) : Calls Tryz.prog 38 #[.int .u8 n] w fun e w' => e = .returned (.string (Str [digL n])) ∧ w = w' := by
  have HC := Lib.hid (hexcut ⟨n, hn⟩)
  go_enter Tryz.func38, Tryz.ntmps38
  go_wp2
  go_ret
  exact ⟨by rw [← HC.out]; rfl, rfl⟩
theorem sign_int (x : Int) (h0 : 0 ≤ x) (h1 : x < 16) (w : World) : Calls Tryz.prog 38 #[.int .u8 x] w fun e w' => e = .returned (.string (Str [digL x.toNat])) ∧ w' = w := by
  obtain ⟨n, rfl⟩ := Int.eq_ofNat_of_zero_le h0
  exact (sign_any n (by omega) w).mono fun _ _ h => ⟨h.1, h.2.symm⟩

def digI (c : Nat) : Int := match digV c with | some n => (n : Int) | none => -1
theorem digI_some {c n : Nat} (h : digV c = some n) : digI c = n := by unfold digI; rw [h]
theorem digI_none {c : Nat} (h : digV c = none) : digI c = -1 := by unfold digI; rw [h]

end Go.Proofs.YtmpikhpnkfnnoaaGreatDoor

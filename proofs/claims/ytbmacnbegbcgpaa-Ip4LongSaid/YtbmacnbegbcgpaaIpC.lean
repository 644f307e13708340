/-
  Contracts of ip4's readOptions and header.
-/
import Derived.Test.YtbmacnbegbcgpaaIpB
import Derived.Test.YtbmacnbegbcgpaaRefb
namespace Go.Proofs.Ytbmacnbegbcgpaa
open Go.RowKit
set_option linter.unusedVariables false
attribute [local go_sem ↓] bld_ip ld_ip st_ip ld_addr st_addr
attribute [local go_sem] ldr_ip str_ip ldr_addr str_addr

set_option maxRecDepth 100000 in
set_option maxHeartbeats 1000000 in
theorem readOpts_any (L : List UInt8) (hL : L.length ≤ 100000) (w : World) : Calls Try.prog 27 #[.string (Str L)] w fun x w' => x = .returned (.tuple #[.bool (optR false L).1, .bool (optR false L).2]) ∧ w = w' := by
  obtain ⟨R, hR⟩ : ∃ R, R = optR false L := ⟨_, rfl⟩
  rw [← hR]
  have HR := Lib.hid hR; clear hR
  go_enter Try.func27, Try.ntmps27
  go_wp2_with fail
  go_loop [0, 2, 4] (fun s b z => ∃ (l : List UInt8) (is : Bool), l.length ≤ L.length ∧ s = .string (Str l) ∧ b = .bool is ∧ R = optR is l) (fun s _ _ => match s with | .string t => t.size | _ => 0)
  case atStart => exact ⟨L, false, by omega, rfl, rfl, HR.out⟩
  case round =>
    obtain ⟨l, is, hle, rfl, rfl, hRl⟩ := hrel
    have HRl := Lib.hid hRl; clear hRl
    have hsz := Str_size l
    have b0 := by8_lt l 0
    by_cases hl : l.length = 0
    · have hnil : l = [] := List.eq_nil_of_length_eq_zero hl
      have HV := Lib.hid (show R = (is, true) by rw [HRl.out, hnil]; rfl)
      have hd : ¬ ((0 : Int) < (l.length : Int)) := by omega
      go_wp2
      go_ret2
      exact ⟨by rw [HV.out]; rfl, rfl⟩
    · have hd : (0 : Int) < (l.length : Int) := by omega
      have g0 : 0 < (Str l).size := by omega
      have e0 := Str_at l 0 g0
      by_cases hz : by8 l 0 = 0
      · have HV := Lib.hid (show R = (is, true) by
          rw [HRl.out]
          match l, hl with
          | b :: r, _ => exact optR_end is b r hz)
        have hx : ((by8 l 0 : Int) != 0) = false := by simp; omega
        generalize by8 l 0 = x at *
        go_wp2
        go_ret2
        exact ⟨by rw [HV.out]; rfl, rfl⟩
      · have hx : ((by8 l 0 : Int) != 0) = true := by simp; omega
        have HO := Lib.hid (fun w => osz_any l (by omega) (by omega) w)
        have hoz := osz_le l (by omega)
        by_cases ho : osz l = 0
        · have HV := Lib.hid (show R = (false, false) by rw [HRl.out]; exact optR_osz0 is l (by omega) hz ho)
          generalize by8 l 0 = x at *
          generalize osz l = n at *
          subst ho
          go_wp2_with (go_at_call 40; (with_reducible refine (HO.out _).mono ?_); rintro x w1 ⟨rfl, rfl⟩)
          go_ret2
          exact ⟨by rw [HV.out]; rfl, rfl⟩
        · have HV := Lib.hid (show R = optR (is || decide (l.take (osz l) = alertL)) (l.drop (osz l)) by rw [HRl.out]; exact optR_osz is l (by omega) hz ho)
          have HQ := Lib.hid (show ∀ b : Bool, (b || decide (l.take (osz l) = alertL)) = (b || (l.take (osz l) == [148, 4, 0, 0])) from fun b => by congr 1; rw [Bool.eq_iff_iff, decide_eq_true_iff, beq_iff_eq]; rfl)
          rw [HQ.out] at HV
          have hq := str_alert l (osz l)
          have hx1 : (Str l).extract (osz l) l.length = Str (l.drop (osz l)) := by rw [Str_extract, List.take_of_length_le (by simp)]
          have hn0 : ((osz l : Int) == 0) = false := by simp; omega
          generalize by8 l 0 = x at *
          generalize hn : osz l = n at *
          have hle1 : (n : Int) ≤ (l.length : Int) := by omega
          have hle0 : (0 : Int) ≤ (n : Int) := by omega
          cases is <;>
          · go_wp2_with (go_at_call 40; (with_reducible refine (HO.out _).mono ?_); rintro x w1 ⟨rfl, rfl⟩)
            go_round
            case rel => exact ⟨l.drop n, _, by simp; omega, rfl, rfl, HV.out⟩
            case measure => simp [Str_size]; omega

def hdS (s : List UInt8) : List UInt8 := if hdE s = 0 then s.take (hdN s) else []
set_option maxRecDepth 100000 in
set_option maxHeartbeats 1000000 in
theorem header_any (s : List UInt8) (hs : s.length ≤ 100000) (w : World) : Calls Try.prog 25 #[.string (Str s)] w fun x w' => x = .returned (.tuple #[.string (Str (hdS s)), .int .i64 (hdE s)]) ∧ Below w.heap.size w w' := by
  have hsz := Str_size s
  obtain ⟨H, hH⟩ : ∃ H, H = hdS s := ⟨_, rfl⟩
  obtain ⟨R, hR⟩ : ∃ R, R = hdE s := ⟨_, rfl⟩
  rw [← hH, ← hR]
  unfold hdS at hH
  rw [← hR] at hH
  unfold hdE at hR
  have hrf : (Str ([] : List UInt8)) = ⟨#[]⟩ := rfl
  by_cases h20 : s.length < 20
  · rw [if_pos h20] at hR
    have HH := Lib.hid (show Str H = ⟨#[]⟩ by rw [hH, hR]; rfl)
    have HR := Lib.hid hR; clear hR hH
    have hd : (s.length : Int) < 20 := by omega
    go_enter Try.func25, Try.ntmps25
    go_wp2
    go_ret2
    exact ⟨by rw [HR.out, HH.out]; rfl, Below.refl _ _⟩
  · rw [if_neg h20] at hR
    have hd20 : ¬ (s.length : Int) < 20 := by omega
    have g0 : 0 < (Str s).size := by omega
    have hi0 : (0 : Int) < (s.length : Int) := by omega
    have e0 := Str_at s 0 g0
    have b0 := by8_lt s 0
    obtain ⟨m, hm⟩ : ∃ m, m = by8 s 0 % 16 := ⟨_, rfl⟩
    obtain ⟨v, hv⟩ : ∃ v, v = by8 s 0 / 16 := ⟨_, rfl⟩
    have hN : hdN s = 4 * m := by unfold hdN; rw [hm]
    have hand : bits .and .u8 (by8 s 0 : Int) 15 = (m : Int) := by rw [and15 _ b0, hm]; rfl
    have hshr : (by8 s 0 : Int) / 16 = (v : Int) := by rw [hv]; rfl
    have hwv : IntKind.u8.wrap (v : Int) = (v : Int) := by simp only [IntKind.wrap_u8]; omega
    have hw0 : IntKind.i64.wrap (m : Int) = (m : Int) := by simp only [IntKind.wrap_i64]; omega
    have hw1 : IntKind.i64.wrap ((m : Int) * 4) = (m : Int) * 4 := by simp only [IntKind.wrap_i64]; omega
    rw [hN, ← hv] at hR
    rw [hN] at hH
    have hm16 : m < 16 := by omega
    clear hm hv hN
    generalize by8 s 0 = x at *
    by_cases hk : v ≠ 4
    · rw [if_pos hk] at hR
      have HH := Lib.hid (show Str H = ⟨#[]⟩ by rw [hH, hR]; rfl)
      have HR := Lib.hid hR; clear hR hH
      have hd : ((v : Int) != 4) = true := by simp; omega
      go_enter Try.func25, Try.ntmps25
      go_wp2
      go_ret2
      exact ⟨by rw [HR.out, HH.out]; rfl, Below.refl _ _⟩
    · rw [if_neg hk] at hR
      have hdk : ((v : Int) != 4) = false := by simp; omega
      by_cases hn : 4 * m < 20
      · rw [if_pos hn] at hR
        have HH := Lib.hid (show Str H = ⟨#[]⟩ by rw [hH, hR]; rfl)
        have HR := Lib.hid hR; clear hR hH
        have hd : (m : Int) * 4 < 20 := by omega
        go_enter Try.func25, Try.ntmps25
        go_wp2
        go_ret2
        exact ⟨by rw [HR.out, HH.out]; rfl, Below.refl _ _⟩
      · rw [if_neg hn] at hR
        have hdn : ¬ (m : Int) * 4 < 20 := by omega
        by_cases hl : s.length < 4 * m
        · rw [if_pos hl] at hR
          have HH := Lib.hid (show Str H = ⟨#[]⟩ by rw [hH, hR]; rfl)
          have HR := Lib.hid hR; clear hR hH
          have hd : (s.length : Int) < (m : Int) * 4 := by omega
          go_enter Try.func25, Try.ntmps25
          go_wp2
          go_ret2
          exact ⟨by rw [HR.out, HH.out]; rfl, Below.refl _ _⟩
        · rw [if_neg hl] at hR
          have hdl : ¬ (s.length : Int) < (m : Int) * 4 := by omega
          have hx0 : (0 : Int) ≤ (m : Int) * 4 := by omega
          have hx1 : (m : Int) * 4 ≤ (s.length : Int) := by omega
          have hx2 : ((m : Int) * 4).toNat = 4 * m := by omega
          have hex : (Str s).extract 0 (4 * m) = Str (s.take (4 * m)) := by rw [Str_extract]; simp
          have HG : Hid (∀ W : World, Calls Try.prog 39 #[.slice (some ⟨W.heap.size, 0, none⟩) 1 1] (W.alloc (.cells #[.string (Str (s.take (4 * m)))] 9)) fun e w' => e = .returned (.bool (decide (foldN (wsum (s.take (4 * m))) = 65535))) ∧ Below W.heap.size W w') := Lib.hid fun W => by
            refine (good_own [s.take (4 * m)] (by simp; omega) (by simp) 0 _ _ (own_lit0 W #[.string (Str (s.take (4 * m)))] _ 1 _ rfl (by omega) rfl)).mono ?_
            rintro e w1 ⟨rfl, d, rfl⟩
            exact ⟨by simp, bdrewN ((Below.refl _ _).alloc (Nat.le_refl _) _) _⟩
          by_cases hg : foldN (wsum (s.take (4 * m))) = 65535
          · rw [if_neg (by simp [hg])] at hR
            rw [decide_eq_true hg] at HG
            have HH := Lib.hid (show Str H = Str (s.take (4 * m)) by rw [hH, hR]; rfl)
            have HR := Lib.hid hR; clear hR hH hg
            generalize Str (s.take (4 * m)) = T at *
            go_enter Try.func25, Try.ntmps25
            go_wp2_with (go_at_call 39; (with_reducible refine (HG.out _).mono ?_); rintro x w1 ⟨rfl, hb1⟩; have H1 := Lib.hid hb1; clear hb1)
            go_ret2
            exact ⟨by rw [HR.out, HH.out]; rfl, H1.out⟩
          · rw [if_pos hg] at hR
            rw [decide_eq_false hg] at HG
            have HH := Lib.hid (show Str H = ⟨#[]⟩ by rw [hH, hR]; rfl)
            have HR := Lib.hid hR; clear hR hH hg
            generalize Str (s.take (4 * m)) = T at *
            go_enter Try.func25, Try.ntmps25
            go_wp2_with (go_at_call 39; (with_reducible refine (HG.out _).mono ?_); rintro x w1 ⟨rfl, hb1⟩; have H1 := Lib.hid hb1; clear hb1)
            go_ret2
            exact ⟨by rw [HR.out, HH.out]; rfl, H1.out⟩
end Go.Proofs.Ytbmacnbegbcgpaa

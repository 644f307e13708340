/-
  The contract of the document's answer Unhex.
-/
import Derived.Test.YtodlcfebpcnhnaaOctUn
import Derived.Deep.AppendLies
namespace Go.Proofs.Ytodlcfebpcnhnaa
open Go.RowKit
set_option linter.unusedVariables false

theorem below_drewN' {B : Nat} {a w : World} (h : Below B a w) (n : Nat) : Below B a (w.drewN n) := h.trans ⟨rfl, rfl, rfl, Nat.le_refl _, fun _ _ => rfl⟩
theorem ownsRow_drewN {w : World} {base : Nat} {e : TypeId} {size : Nat} {v : Value} {n : Nat} {xs : List Value} (h : w.ownsRow base e size v n xs) (m : Nat) : (w.drewN m).ownsRow base e size v n xs := h

set_option maxHeartbeats 1000000 in
theorem runhex_any (s : ByteArray) (hs : s.size ≤ 1099511627776) (w : World) : Calls Try.prog 22 #[.string s] w fun e w' => e = .returned (.tuple #[.string (Str ((unhexV s.data.toList).getD [])), .bool (unhexV s.data.toList).isSome]) ∧ Below w.heap.size w w' := by
  obtain ⟨i0, hi, hz0, hz1, hz2⟩ := info_parts Try.info_u8'
  by_cases hodd : s.size % 2 = 1
  · have HV := Lib.hid (show unhexV s.data.toList = none by unfold unhexV; rw [if_pos (by simpa using hodd)])
    have ho : ((s.size : Int) % 2 == 1) = true := by simp; omega
    go_enter Try.func22, Try.ntmps22
    go_wp2
    go_ret2
    exact ⟨by rw [HV.out]; rfl, (Below.refl _ _).alloc (Nat.le_refl _) _⟩
  · obtain ⟨n, hn⟩ : ∃ n, s.size = 2 * n := ⟨s.size / 2, by omega⟩
    have hsn : s.size / 2 = n := by omega
    have HN := Lib.hid hn
    have HV := Lib.hid (show unhexV s.data.toList = pairsV s.data.toList n by unfold unhexV; rw [if_neg (by simpa using hodd)]; simp [hsn])
    have ho : ((s.size : Int) % 2 == 1) = false := by simp; omega
    clear hn hsn
    go_enter Try.func22, Try.ntmps22
    go_wp2
    go_loopw [4, 5] (fun v i wr => ∃ (k : Nat) (r : List UInt8), k ≤ n ∧ i = .int .i64 ((2 * k : Nat) : Int) ∧ pairsV s.data.toList k = some r ∧ wr.ownsRow w.heap.size 5 1 v k (B8 r) ∧ Below w.heap.size w wr) (fun _ i _ => 2 * n - (intOf i).toNat)
    case atStart => exact ⟨0, [], Nat.zero_le _, rfl, rfl, World.ownsRow_lit w #[] 0 (Nat.le_refl _) (by unfold maxLen; omega) (by simp), (Below.refl _ _).alloc (Nat.le_refl _) _⟩
    case round =>
      obtain ⟨k, r, hk, rfl, hr, hown, hbel⟩ := hrel
      have Hr := Lib.hid hr; clear hr
      have Hbel := Lib.hid hbel; clear hbel
      by_cases hlt : k < n
      · have hb1 := HN.out
        have hk1 : 2 * k < s.size := by omega
        have hk2 : 2 * k + 1 < s.size := by omega
        clear hb1
        have hc1 := s[2 * k].toNat_lt
        have hc2 := s[2 * k + 1].toNat_lt
        have Hd1 := Lib.hid (show (s.data.toList.getD (2 * k) 0) = s[2 * k] by simp [List.getD, hk1]; rfl)
        have Hd2 := Lib.hid (show (s.data.toList.getD (2 * k + 1) 0) = s[2 * k + 1] by simp [List.getD, hk2]; rfl)
        have hi0 : (0 : Int) ≤ 2 * (k : Int) := by omega
        have hi1 : 2 * (k : Int) < (s.size : Int) := by omega
        have hi2 : (0 : Int) ≤ 2 * (k : Int) + 1 := by omega
        have hi3 : 2 * (k : Int) + 1 < (s.size : Int) := by omega
        have hi4 : (2 * (k : Int)).toNat = 2 * k := by omega
        have hi5 : (2 * (k : Int) + 1).toNat = 2 * k + 1 := by omega
        have hi6 : IntKind.i64.wrap (2 * (k : Int) + 1) = 2 * (k : Int) + 1 := IntWalk.i64_in _ (by omega)
        go_wp2_with fail
        go_quiet ((go_at_call 38; exact Calls.quiet_of_same (rdigit_any _ (UInt8.toNat_lt _) _)))
        cases hx : digV (s[2 * k].toNat) with
        | none =>
          have HX := Lib.hid hx; clear hx
          have HF : Hid (unhexV s.data.toList = none) := Lib.hid (unhexV_none (pairV_none_left (k := k) (by rw [Hd1.out]; exact HX.out)) (by simpa using hk2))
          rw [digI_none HX.out]
          go_wp2
          go_ret2
          exact ⟨by rw [HF.out]; rfl, below_drewN' Hbel.out _⟩
        | some x =>
          have hx16 := digV_lt hx
          have HX := Lib.hid hx; clear hx
          rw [digI_some HX.out]
          cases hy : digV (s[2 * k + 1].toNat) with
          | none =>
            have HY := Lib.hid hy; clear hy
            have HF : Hid (unhexV s.data.toList = none) := Lib.hid (unhexV_none (pairV_none_right (k := k) (by rw [Hd2.out]; exact HY.out)) (by simpa using hk2))
            rw [digI_none HY.out]
            go_wp2
            go_ret2
            exact ⟨by rw [HF.out]; rfl, below_drewN' Hbel.out _⟩
          | some y =>
            have hy16 := digV_lt hy
            have HY := Lib.hid hy; clear hy
            rw [digI_some HY.out]
            have Hst := Lib.hid (pairsV_step Hr.out (by rw [Hd1.out]; exact HX.out) (by rw [Hd2.out]; exact HY.out))
            have hz := Hbel.out.size
            generalize hW : World.drewN _ _ = wq
            have hownq : wq.ownsRow w.heap.size 5 1 u4 k (B8 r) := by rw [← hW]; exact ownsRow_drewN hown _
            have hbelq : Below w.heap.size w wq := by rw [← hW]; exact below_drewN' Hbel.out _
            have Hbelq := Lib.hid hbelq
            have hzq := hbelq.size
            clear hW hbelq hown hz
            go_wp2_with (at_builtin; refine wpList_append_own _ rfl _ _ 59 rfl w.heap.size 5 i0 (.int .u8 0) 1 1 Try.underlying59 hi hz0 hz1 hz2 rfl (by decide) _ _ _ rfl (hownq.alloc _) ⟨wq.heap.size, 0, none⟩ 1 1 [.int .u8 _] rfl rfl (World.news_of_block (heap_alloc_new _ _)) (by simp [Value.oneCell']) (by unfold maxLen; omega) (by omega) (by simp; omega) ?_)
            intro v' w1 hown' hgrow _
            have Hown' := Lib.hid hown'
            have Hgrow := Lib.hid hgrow
            have Hownq := Lib.hid hownq
            clear hown' hgrow hownq hzq
            go_wp2
            go_roundw
            case rel =>
              refine ⟨k + 1, r ++ [UInt8.ofNat (16 * x + y)], by omega, by go_num, Hst.out, ?_, ?_⟩
              · have h := Hown'.out
                rw [B8_append]
                have e2 : B8 [UInt8.ofNat (16 * x + y)] = [.int .u8 (16 * (x : Int) + (y : Int))] := by simp [B8]; omega
                rw [e2]
                exact h
              · have hz := Hbelq.out.size
                exact (Hbelq.out.alloc hz _).grown Hgrow.out (by simp; omega) (fun g hg => (Hownq.out.lt g hg).1)
            case measure => simp [intOf]; omega
      · have hkn : k = n := by omega
        subst hkn
        have HF : Hid (unhexV s.data.toList = some r) := Lib.hid (by rw [HV.out]; exact Hr.out)
        have hge : ¬ (2 * (k : Int) < (s.size : Int)) := by have := HN.out; omega
        have hcv := run_string_own 59 9 5 Try.underlying59 Try.underlying5 Try.underlying9 hown
        go_wp2
        go_ret2
        exact ⟨by rw [HF.out]; rfl, Hbel.out⟩
end Go.Proofs.Ytodlcfebpcnhnaa

/-
  The contract of octet.Hex, and of the statements' small living call.
-/
import Derived.Test.YtmpikhpnkfnnoaaGreatDoorOct
import Derived.Test.YtmpikhpnkfnnoaaGreatDoorPureHex
import Derived.Deep.RegionLaw
import Derived.Deep.AppendLies
namespace Go.Proofs.YtmpikhpnkfnnoaaGreatDoor
open Go.RowKit
set_option linter.unusedVariables false

theorem bits_and_u8_nat (a b : Nat) (ha : a < 256) (hb : b < 256) : bits .and .u8 (a : Int) (b : Int) = ((a &&& b : Nat) : Int) := by
  have hx : a &&& b ≤ a := Nat.and_le_left
  have h1 : (BitVec.ofInt 8 (a : Int)).toNat = a := by
    rw [BitVec.ofInt_natCast, BitVec.toNat_ofNat]; exact Nat.mod_eq_of_lt (by omega)
  have h2 : (BitVec.ofInt 8 (b : Int)).toNat = b := by
    rw [BitVec.ofInt_natCast, BitVec.toNat_ofNat]; exact Nat.mod_eq_of_lt (by omega)
  show IntKind.u8.wrap ((BitVec.ofInt 8 (a : Int) &&& BitVec.ofInt 8 (b : Int)).toNat : Int) = _
  rw [BitVec.toNat_and, h1, h2, IntKind.wrap_u8]
  omega
theorem and15 (a : Nat) (ha : a < 256) : bits .and .u8 (a : Int) 15 = (a : Int) % 16 := by
  have h := bits_and_u8_nat a 15 ha (by omega)
  rw [show ((15 : Nat) : Int) = 15 from rfl] at h
  rw [h, show (15 : Nat) = 2 ^ 4 - 1 from rfl, Nat.and_two_pow_sub_one_eq_mod]; rfl
set_option maxHeartbeats 400000 in
theorem hex_any (s : ByteArray) (hs : s.size ≤ 1099511627776) (w : World) : Calls Tryz.prog 41 #[.string s] w fun e w' => e = .returned (.string (Str (hexL s.data.toList))) ∧ Below w.heap.size w w' := by
  obtain ⟨i0, hi, hz0, hz1, hz2⟩ := info_parts Tryz.info_u8
  go_enter Tryz.func41, Tryz.ntmps41
  go_wp2_with (at_make; refine wpList_make_own _ rfl _ _ 45 rfl w.heap.size 5 i0 (.int .u8 0) 1 Tryz.underlying45 hi hz0 hz1 .i64 .i64 _ (2 * s.size) rfl rfl ?c0 ?c1 ?c2 ?c3 ?_)
  case c0 => omega
  case c1 => rw [hz2]; omega
  case c2 => unfold maxLen; omega
  case c3 => exact Nat.le_refl _
  intro w1 hown hgrow
  have hbel : Below w.heap.size w w1 := (Below.refl _ _).grown hgrow (Nat.le_refl _) (fun k h => by cases h)
  clear hgrow
  go_wp2
  go_loopw [3, 11] (fun v i wr => ∃ k : Nat, k ≤ s.size ∧ i = .int .i64 k ∧ wr.ownsRow w.heap.size 5 1 v (2 * k) (B8 (hexL (s.data.toList.take k))) ∧ Below w.heap.size w wr) (fun _ i _ => s.size - (intOf i).toNat)
  case atStart =>
    refine ⟨0, Nat.zero_le _, rfl, ?_, hbel⟩
    exact hown
  case round v _ wr =>
    obtain ⟨k, hk, rfl, hown, hbel⟩ := hrel
    have Hbel := Lib.hid hbel
    clear hbel
    by_cases hlt : k < s.size
    · have hb := s[k].toNat_lt
      have hd1 : (0 : Int) ≤ (s[k].toNat : Int) / 16 ∧ (s[k].toNat : Int) / 16 < 16 := by omega
      have hd2 := and15 s[k].toNat (by omega)
      have hd3 : (0 : Int) ≤ (s[k].toNat : Int) % 16 ∧ (s[k].toNat : Int) % 16 < 16 := by omega
      have Hs := Lib.hid (take_snoc s k hlt)
      go_wp2
      go_region_law (first | (refine step_append_lies _ rfl (.tmp 14) (.tmp 25) 45 rfl w.heap.size 5 i0 (.int .u8 0) 1 1 Tryz.underlying45 hi hz0 hz1 hz2 rfl (by decide) _ (2 * k) _ rfl (hown.alloc _).drew ⟨wr.heap.size, 0, none⟩ 2 2 [.int .u8 _, .int .u8 _] rfl rfl (World.news_of_block (heap_alloc_new wr _)) (by simp [Value.oneCell']) (by decide) (by unfold maxLen; omega) (by omega) (by have := Hbel.out.size; simp; omega) _ rfl ?_; intro g cap w2 hown2 hgrow2 _ _) | fail)
      all_goals
        have Hown2 := Lib.hid hown2
        have Hgrow2 := Lib.hid hgrow2
        have Hown := Lib.hid hown
        clear hown2 hgrow2 hown
        go_wp2
        go_roundw
      all_goals first | (simp [intOf]; omega) | skip
      all_goals
        refine ⟨k + 1, by omega, by go_num, ?_, ?_⟩
        · have h := Hown2.out
          rw [hexdig' ((s[k].toNat : Int) / 16) (s[k].toNat / 16) (by omega) (by omega), hexdig' ((s[k].toNat : Int) % 16) (s[k].toNat % 16) (by omega) (by omega)] at h
          rw [Hs.out, hexL_snoc, B8_append]
          exact h
        · have hz := Hbel.out.size
          exact ((Hbel.out.alloc hz _).drew).grown Hgrow2.out (by simp; omega) (fun q hq => (Hown.out.lt q hq).1)
    · have hks : k = s.size := by omega
      subst hks
      rw [List.take_of_length_le (by simp)] at hown
      have hcv := run_string_own 45 9 5 Tryz.underlying45 Tryz.underlying5 Tryz.underlying9 hown
      go_wp2
      go_ret
      exact ⟨by simp, Hbel.out⟩

end Go.Proofs.YtmpikhpnkfnnoaaGreatDoor

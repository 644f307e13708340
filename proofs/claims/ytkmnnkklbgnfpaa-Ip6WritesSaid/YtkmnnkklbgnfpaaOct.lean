/-
  The contracts of package octet, part one: clamp, number, Put, Get.
-/
import Derived.Test.YtkmnnkklbgnfpaaBase
import Derived.Test.YtkmnnkklbgnfpaaChecked
import Derived.WalkLawsBesides
import Derived.WalkSpells
import Derived.BigQuiet
import Derived.Deep.QuietTactic
import Derived.LoopTactic
import Derived.Deep.RegionLaw
import Derived.Deep.AppendLies
namespace Go.Proofs.Ytkmnnkklbgnfpaa
open Go.RowKit
set_option linter.unusedVariables false

theorem clamp_any (n : Int) (m : Nat) (w : World) : Calls Try.prog 39 #[.int .i64 n, .int .i64 (m : Int)] w fun e w' => e = .returned (.int .i64 (clampN n m : Int)) ∧ w = w' := by
  go_enter Try.func39, Try.ntmps39
  go_wp2
  all_goals
    go_ret
    exact ⟨ret_int (by unfold clampN; split <;> split at * <;> omega), rfl⟩

set_option maxHeartbeats 400000 in
theorem number_any (s : ByteArray) (hs : s.size ≤ maxLen) (w : World) : Calls Try.prog 38 #[.string s] w fun e w' => e = .returned (.int .u64 (num s.data.toList)) ∧ w = w' := by
  unfold maxLen at hs
  go_enter Try.func38, Try.ntmps38
  go_wp2
  go_loop [3, 7] (fun n i => ∃ k : Nat, k ≤ s.size ∧ i = .int .i64 k ∧ n = .int .u64 (num (s.data.toList.take k))) (fun _ i => s.size - (intOf i).toNat)
  case atStart => exact ⟨0, Nat.zero_le _, rfl, rfl⟩
  case round =>
    obtain ⟨k, hk, rfl, rfl⟩ := hrel
    by_cases hlt : k < s.size
    · have Hs := Lib.hid (take_snoc s k hlt)
      generalize hm : num (s.data.toList.take k) = m
      have Hm := Lib.hid hm; clear hm
      go_wp2
      go_round
      case rel => exact ⟨k + 1, by omega, by go_num, by rw [shl8_or, Hs.out, num_snoc, Hm.out]⟩
      case measure => simp [intOf]; omega
    · go_wp2
      go_ret
      exact ⟨ret_int (by rw [List.take_of_length_le (by simp; omega)]), rfl⟩

theorem Try.info_u8 : (Try.prog.info? 5).map (fun i => (i.zero, i.size, i.bytes)) = some (some (.int .u8 0), 1, 1) := by kernel_rfl

theorem byte_of (n i : Nat) : (n : Int) / 2 ^ (8 * i) % 256 = (((UInt8.ofNat (n / 256 ^ i)).toNat : Nat) : Int) := by
  rw [UInt8.toNat_ofNat', show (2 : Int) ^ (8 * i) = ((256 ^ i : Nat) : Int) by rw [Int.pow_mul]; simp, ← Int.natCast_ediv]
  omega

set_option maxHeartbeats 400000 in
theorem put_any (n : Nat) (hn : n < 18446744073709551616) (wide : Int) (w : World) : Calls Try.prog 33 #[.int .u64 n, .int .i64 wide] w fun e w' => e = .returned (.string (Str (putL n (clampN wide 8)))) ∧ Below w.heap.size w w' := by
  have Hn := Lib.hid hn; clear hn
  obtain ⟨i0, hi, hz0, hz1, hz2⟩ := info_parts Try.info_u8
  generalize hW : clampN wide 8 = W
  have hW8 : W ≤ 8 := by rw [← hW]; exact clampN_le _ _
  have HW := Lib.hid hW; clear hW
  go_enter Try.func33, Try.ntmps33
  go_wp2_with fail
  refine (clamp_any wide 8 _).mono ?_
  rintro e w1 ⟨rfl, rfl⟩
  rw [HW.out]
  go_wp2_with (at_make; refine wpList_make_full _ rfl _ _ 41 rfl w.heap.size 5 i0 (.int .u8 0) 1 Try.underlying41 hi hz0 hz1 .i64 .i64 _ _ W rfl rfl rfl rfl ?c1 ?c2 ?c3 ?_)
  case c1 => rw [hz2]; omega
  case c2 => unfold maxLen; omega
  case c3 => exact Nat.le_refl _
  intro w1 hown hgrow
  rw [toList_madeCells_one] at hown
  have hbel : Below w.heap.size w w1 := (Below.refl _ _).grown hgrow (Nat.le_refl _) (fun k h => by cases h)
  clear hgrow
  go_wp2
  go_loopw [12] (fun i wr => ∃ k : Nat, k ≤ W ∧ i = .int .i64 k ∧ wr.ownsRow w.heap.size 5 1 (.slice (some ⟨w.heap.size, 0, none⟩) W W) W (B8 (List.replicate (W - k) 0 ++ putL n k)) ∧ Below w.heap.size w wr) (fun i _ => W - (intOf i).toNat)
  case atStart => exact ⟨0, Nat.zero_le _, rfl, by simpa [putL, B8_replicate] using hown, hbel⟩
  case round =>
    obtain ⟨k, hk, rfl, hown, hbel⟩ := hrel
    by_cases hlt : k < W
    · have hc := hown.cellAt (W - 1 - k) (by omega)
      have hf := hown.frozenAt (W - 1 - k)
      obtain ⟨c, hcc⟩ : ∃ c, (B8 (List.replicate (W - k) 0 ++ putL n k))[W - 1 - k]? = some c := by
        have : W - 1 - k < (B8 (List.replicate (W - k) 0 ++ putL n k)).length := by simp [B8_length, putL_length]; omega
        exact ⟨_, List.getElem?_eq_getElem this⟩
      rw [hcc] at hc
      clear hcc
      have Hs := Lib.hid (hown.stored (W - 1 - k) (.int .u8 ((UInt8.ofNat (n / 256 ^ k)).toNat : Int)))
      have Hb := Lib.hid (byte_of n k)
      have Hbel := Lib.hid hbel
      have Hc := Lib.hid hc
      clear hown hbel
      go_wp2
      go_roundw
      case rel =>
        refine ⟨k + 1, by omega, by go_num, ?_, Hbel.out.setCell (by simp) _⟩
        rw [Hb.out]
        have h := Hs.out.1
        rw [B8_set] at h
        have e : (List.replicate (W - k) 0 ++ putL n k).set (W - 1 - k) (UInt8.ofNat (n / 256 ^ k)) = List.replicate (W - (k + 1)) 0 ++ putL n (k + 1) := by
          have e1 : W - k = (W - (k + 1)) + 1 := by omega
          rw [e1, List.replicate_succ', List.append_assoc, List.set_append_right _ _ (by simp; omega)]
          simp [putL, show W - 1 - k - (W - (k + 1)) = 0 by omega]
        rw [e] at h
        exact h
      case measure => simp [intOf]; omega
    · obtain rfl : k = W := by omega
      have hcv := run_string_own 41 9 5 Try.underlying41 Try.underlying5 Try.underlying9 hown
      go_wp2
      go_ret
      exact ⟨by simp, hbel⟩

/-- What Get tells: the number, and the code. -/
def getR (s : ByteArray) (pos wide : Int) : Nat × Int :=
  if wide < 0 ∨ 8 < wide ∨ pos < 0 then (0, 1)
  else if (s.size : Int) - wide < pos then (0, 3)
  else (num ((s.data.toList.drop pos.toNat).take wide.toNat), 0)
theorem getR_lt (s : ByteArray) (pos wide : Int) : (getR s pos wide).1 < 18446744073709551616 := by
  unfold getR; split
  · show (0 : Nat) < _; omega
  · split
    · show (0 : Nat) < _; omega
    · exact num_lt _

end Go.Proofs.Ytkmnnkklbgnfpaa

/-
  The contracts of package code: firstShifted, lastCode, value, code, Value8, Value16, Code8, Code16, Exact8, Exact16.
-/
import Derived.Test.YtiegeejbnplhdaaCodR
import Derived.Lib.BitFns
import Derived.Lib.Tables
import Derived.Deep.Cut
namespace Go.Proofs.Ytiegeejbnplhdaa
open Go.RowKit
set_option linter.unusedVariables false
/-- The table of bits.Len8. -/
theorem len8_get (T : ByteArray) (hT : T = Lib.len8tab) (i : Nat) (hi : i < 256) (h : i < T.size) : ((T[i]'h).toNat : Int) = (Lib.bitLen i : Int) ∧ Lib.bitLen i ≤ 8 := by
  subst hT
  have h1 := Lib.len8_of (i : Int) (by omega) (by omega)
  have h2 := Lib.bitLen_le8' (i : Int) (by omega) (by omega)
  rw [Int.toNat_natCast] at h1 h2
  refine ⟨?_, h2⟩
  rw [← h1]
  unfold Lib.len8
  rw [Int.toNat_natCast, getElem?_pos Lib.len8tab i h]
  rfl

set_option maxRecDepth 100000 in
set_option maxHeartbeats 1000000 in
/-- bits.Len64 of a small number. -/
theorem len64_small (n : Nat) (hn : n < 16777216) (w : World) : Calls Try.prog 49 #[.int .u64 n] w fun x w' => x = .returned (.int .i64 (Lib.bitLen n)) ∧ w = w' := by
  have b1 : ¬ (4294967296 : Int) ≤ (n : Int) := by omega
  go_enter Try.func49, Try.ntmps49
  generalize hT0 : ByteArray.mk _ = T
  have hT : T = Lib.len8tab := hT0.symm.trans (by kernel_rfl)
  clear hT0
  have hsz : (T.size : Int) = 256 := by rw [hT, Lib.len8tab_size]; rfl
  have HG := Lib.hid (fun (i : Nat) hi h => len8_get T hT i hi h)
  clear hT
  by_cases h16 : (65536 : Int) ≤ (n : Int)
  · have HS := Lib.hid (Lib.bitLen_shift16 n (by omega) (by omega))
    obtain ⟨q, hq⟩ : ∃ q, q = n / 65536 := ⟨_, rfl⟩
    have e1 : (n : Int) / 65536 = (q : Int) := by omega
    rw [← hq] at HS
    have hq2 : q < 256 := by omega
    clear hq
    have HV := Lib.hid (HG.out q hq2 (by omega))
    go_wp2
    go_ret
    refine ⟨ret_int ?_, rfl⟩
    have h1 := HV.out; have h2 := HS.out
    unfold wrap64
    omega
  · by_cases h8 : (256 : Int) ≤ (n : Int)
    · have HS := Lib.hid (Lib.bitLen_shift8 n (by omega) (by omega))
      obtain ⟨q, hq⟩ : ∃ q, q = n / 256 := ⟨_, rfl⟩
      have e1 : (n : Int) / 256 = (q : Int) := by omega
      rw [← hq] at HS
      have hq2 : q < 256 := by omega
      clear hq
      have HV := Lib.hid (HG.out q hq2 (by omega))
      go_upto_region 10 with (fail)
      repeat (first | go_values | go_skip | go_guarded | go_step | go_upon | go_in)
      rw [dif_pos (show (q : Int) < 256 by omega)]
      repeat (first | go_values | go_skip | go_guarded | go_step | go_upon | go_in)
      go_ret
      refine ⟨ret_int ?_, rfl⟩
      have h1 := HV.out; have h2 := HS.out
      unfold wrap64
      omega
    · have hlt : n < T.size := by omega
      have HV := Lib.hid (HG.out n (by omega) hlt)
      go_wp2
      go_ret
      refine ⟨ret_int ?_, rfl⟩
      have h1 := HV.out
      unfold wrap64
      omega
end Go.Proofs.Ytiegeejbnplhdaa

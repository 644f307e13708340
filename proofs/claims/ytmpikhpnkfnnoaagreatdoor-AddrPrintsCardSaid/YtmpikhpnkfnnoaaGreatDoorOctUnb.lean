/-
  The contract of octet.Unhex.
-/
import Derived.Test.YtmpikhpnkfnnoaaGreatDoorOctUn
namespace Go.Proofs.YtmpikhpnkfnnoaaGreatDoor
open Go.RowKit
set_option linter.unusedVariables false

theorem or_low4 (x y : Nat) (hx : x < 16) (hy : y < 16) : bits BinOp.or IntKind.u8 ((x : Int) * 16) (y : Int) = ((16 * x + y : Nat) : Int) := by
  have h1 : (BitVec.ofInt 8 ((x * 16 : Nat) : Int)).toNat = x * 16 := by
    rw [BitVec.ofInt_natCast, BitVec.toNat_ofNat]; exact Nat.mod_eq_of_lt (by omega)
  have h2 : (BitVec.ofInt 8 (y : Int)).toNat = y := by
    rw [BitVec.ofInt_natCast, BitVec.toNat_ofNat]; exact Nat.mod_eq_of_lt (by omega)
  have e : ((x : Int) * 16) = ((x * 16 : Nat) : Int) := by omega
  rw [e]
  show IntKind.u8.wrap ((BitVec.ofInt 8 ((x * 16 : Nat) : Int) ||| BitVec.ofInt 8 (y : Int)).toNat : Int) = _
  rw [BitVec.toNat_or, h1, h2]
  have e2 : x * 16 ||| y = x * 16 + y := by
    rw [show x * 16 = x <<< 4 by rw [Nat.shiftLeft_eq], Nat.shiftLeft_add_eq_or_of_lt (by omega)]
  rw [e2, IntKind.wrap_u8]
  omega

/-- A value and a code, of bytes that may be none. -/
def okS (r : Option (List UInt8)) : Value := .string (Str (r.getD []))
def okE (r : Option (List UInt8)) : Int := if r.isSome then 0 else 2

set_option maxRecDepth 100000 in
set_option maxHeartbeats 1000000 in
theorem unhex_any (s : ByteArray) (hs : s.size ≤ 1099511627776) (w : World) : Calls Tryz.prog 36 #[.string s] w fun e w' => e = .returned (.tuple #[okS (unhexV s.data.toList), .int .i64 (okE (unhexV s.data.toList))]) ∧ Below w.heap.size w w' := by
  obtain ⟨i0, hi, hz0, hz1, hz2⟩ := info_parts Tryz.info_u8
  by_cases hodd : s.size % 2 = 1
  · have HV := Lib.hid (show unhexV s.data.toList = none by unfold unhexV; rw [if_pos (by simpa using hodd)])
    have ho : ((s.size : Int) % 2 != 0) = true := by simp; omega
    go_enter Tryz.func36, Tryz.ntmps36
    go_wp2
    all_goals
      go_ret2
      exact ⟨by rw [HV.out]; rfl, Below.refl _ _⟩
  · obtain ⟨n, hn⟩ : ∃ n, s.size = 2 * n := ⟨s.size / 2, by omega⟩
    have hsn : s.size / 2 = n := by omega
    have HN := Lib.hid hn
    have HV := Lib.hid (show unhexV s.data.toList = pairsV s.data.toList n by unfold unhexV; rw [if_neg (by simpa using hodd)]; simp [hsn])
    have hq : ((s.size : Int) / 2) = (n : Int) := by omega
    have ho : ((s.size : Int) % 2 != 0) = false := by simp; omega
    clear hn hsn
    go_enter Tryz.func36, Tryz.ntmps36
    go_wp2_with (at_make; refine wpList_make_full _ rfl _ _ 45 rfl w.heap.size 5 i0 (.int .u8 0) 1 Tryz.underlying45 hi hz0 hz1 .i64 .i64 _ _ n rfl rfl rfl rfl ?c1 ?c2 ?c3 ?_)
    case c1 => have := HN.out; rw [hz2]; omega
    case c2 => have := HN.out; unfold maxLen; omega
    case c3 => exact Nat.le_refl _
    intro w1 hown hgrow
    rw [toList_madeCells_one] at hown
    have hbel : Below w.heap.size w w1 := (Below.refl _ _).grown hgrow (Nat.le_refl _) (fun k h => by cases h)
    clear hgrow
    go_wp2
    go_loopw [20] (fun i wr => ∃ (k : Nat) (r : List UInt8), k ≤ n ∧ i = .int .i64 k ∧ pairsV s.data.toList k = some r ∧ wr.ownsRow w.heap.size 5 1 (.slice (some ⟨w.heap.size, 0, none⟩) n n) n (B8 (r ++ List.replicate (n - k) 0)) ∧ Below w.heap.size w wr) (fun i _ => n - (intOf i).toNat)
    case atStart => exact ⟨0, [], Nat.zero_le _, rfl, rfl, by simpa [B8_replicate] using hown, hbel⟩
    case round =>
      obtain ⟨k, r, hk, rfl, hr, hown, hbel⟩ := hrel
      have Hr := Lib.hid hr; clear hr
      by_cases hlt : k < n
      · have hb1 := HN.out
        have hk1 : 2 * k < s.size := by omega
        have hk2 : 2 * k + 1 < s.size := by omega
        clear hb1
        have hc1 := s[2 * k].toNat_lt
        have hc2 := s[2 * k + 1].toNat_lt
        have Hd1 := Lib.hid (show (s.data.toList.getD (2 * k) 0) = s[2 * k] by simp [List.getD, hk1]; rfl)
        have Hd2 := Lib.hid (show (s.data.toList.getD (2 * k + 1) 0) = s[2 * k + 1] by simp [List.getD, hk2]; rfl)
        cases hx : digV (s[2 * k].toNat) with
        | none =>
          have HX := Lib.hid hx; clear hx
          have HF : Hid (unhexV s.data.toList = none) := Lib.hid (unhexV_none (pairV_none_left (k := k) (by rw [Hd1.out]; exact HX.out)) (by simpa using hk2))
          go_wp2_with fail
          refine (digit_any s[2 * k].toNat (by omega) _).mono ?_
          rintro e w1 ⟨rfl, rfl⟩
          rw [HX.out]
          go_wp2_with fail
          refine (digit_any s[2 * k + 1].toNat (by omega) _).mono ?_
          rintro e w1 ⟨rfl, rfl⟩
          go_wp2
          go_ret2
          exact ⟨by rw [HF.out]; rfl, hbel⟩
        | some x =>
          have hx16 := digV_lt hx
          have HX := Lib.hid hx; clear hx
          cases hy : digV (s[2 * k + 1].toNat) with
          | none =>
            have HY := Lib.hid hy; clear hy
            have HF : Hid (unhexV s.data.toList = none) := Lib.hid (unhexV_none (pairV_none_right (k := k) (by rw [Hd2.out]; exact HY.out)) (by simpa using hk2))
            go_wp2_with fail
            refine (digit_any s[2 * k].toNat (by omega) _).mono ?_
            rintro e w1 ⟨rfl, rfl⟩
            rw [HX.out]
            go_wp2_with fail
            refine (digit_any s[2 * k + 1].toNat (by omega) _).mono ?_
            rintro e w1 ⟨rfl, rfl⟩
            rw [HY.out]
            go_wp2
            go_ret2
            exact ⟨by rw [HF.out]; rfl, hbel⟩
          | some y =>
            have hy16 := digV_lt hy
            have HY := Lib.hid hy; clear hy
            have Hst := Lib.hid (pairsV_step Hr.out (by rw [Hd1.out]; exact HX.out) (by rw [Hd2.out]; exact HY.out))
            have hrl := pairsV_length Hr.out
            have Hrl := Lib.hid hrl; clear hrl
            have hc := hown.cellAt k (by omega)
            have hf := hown.frozenAt k
            obtain ⟨c, hcc⟩ : ∃ c, (B8 (r ++ List.replicate (n - k) 0))[k]? = some c := by
              have hl : k < (B8 (r ++ List.replicate (n - k) 0)).length := by simp [B8_length, Hrl.out]; omega
              exact ⟨_, List.getElem?_eq_getElem hl⟩
            rw [hcc] at hc
            clear hcc
            have Hs := Lib.hid (hown.stored k (.int .u8 ((UInt8.ofNat (16 * x + y)).toNat : Int)))
            have Hor := Lib.hid (or_low4 x y hx16 hy16)
            have Hbel := Lib.hid hbel
            clear hown hbel
            go_wp2_with fail
            refine (digit_any s[2 * k].toNat (by omega) _).mono ?_
            rintro e w1 ⟨rfl, rfl⟩
            rw [HX.out]
            go_wp2_with fail
            refine (digit_any s[2 * k + 1].toNat (by omega) _).mono ?_
            rintro e w1 ⟨rfl, rfl⟩
            rw [HY.out]
            go_wp2
            go_roundw
            case rel =>
              refine ⟨k + 1, r ++ [UInt8.ofNat (16 * x + y)], by omega, by go_num, Hst.out, ?_, Hbel.out.setCell (by simp) _⟩
              have e1 : bits BinOp.or IntKind.u8 ((x : Int) * 16) (y : Int) = ((UInt8.ofNat (16 * x + y)).toNat : Int) := by
                rw [Hor.out, UInt8.toNat_ofNat']; omega
              rw [e1]
              have h := Hs.out.1
              rw [B8_set] at h
              have e2 : (r ++ List.replicate (n - k) 0).set k (UInt8.ofNat (16 * x + y)) = r ++ [UInt8.ofNat (16 * x + y)] ++ List.replicate (n - (k + 1)) 0 := by
                rw [List.set_append_right _ _ (by rw [Hrl.out]; exact Nat.le_refl _), Hrl.out, Nat.sub_self, show n - k = (n - (k + 1)) + 1 by omega, List.replicate_succ]
                simp
              rw [e2] at h
              exact h
            case measure => simp [intOf]; omega
      · have hkn : k = n := by omega
        subst hkn
        rw [Nat.sub_self, List.replicate_zero, List.append_nil] at hown
        have HF : Hid (unhexV s.data.toList = some r) := Lib.hid (by rw [HV.out]; exact Hr.out)
        have hcv := run_string_own 45 9 5 Tryz.underlying45 Tryz.underlying5 Tryz.underlying9 hown
        go_wp2
        go_ret2
        exact ⟨by rw [HF.out]; rfl, hbel⟩
end Go.Proofs.YtmpikhpnkfnnoaaGreatDoor

/-
  Texts joined: Oct, PureHex, OctHex, Ad1, Ad2.
-/
import Derived.Test.YtgpccgcppbdlpaaMg00
import Derived.Test.YtgpccgcppbdlpaaChecked
import Derived.WalkLawsBesides
import Derived.WalkSpells
import Derived.BigQuiet
import Derived.Deep.QuietTactic
import Derived.LoopTactic
import Derived.Deep.RegionLaw
import Derived.Deep.AppendLies
import Derived.Deep.RegionHeld3
import Derived.Laws.Cover3
import Derived.Deep.Cut
import Derived.Lib.Hide
import Derived.Test.YtgpccgcppbdlpaaAgg
/-
  The contracts of package octet, part one: clamp, number, Put, Get.
-/
namespace Go.Proofs.Ytgpccgcppbdlpaa
open Go.RowKit
set_option linter.unusedVariables false

theorem clamp_any (n : Int) (m : Nat) (w : World) : Calls Try.prog 74 #[.int .i64 n, .int .i64 (m : Int)] w fun e w' => e = .returned (.int .i64 (clampN n m : Int)) ∧ w = w' := by
  go_enter Try.func74, Try.ntmps74
  go_wp2
  all_goals
    go_ret
    exact ⟨ret_int (by unfold clampN; split <;> split at * <;> omega), rfl⟩

set_option maxHeartbeats 400000 in
theorem number_any (s : ByteArray) (hs : s.size ≤ maxLen) (w : World) : Calls Try.prog 94 #[.string s] w fun e w' => e = .returned (.int .u64 (num s.data.toList)) ∧ w = w' := by
  unfold maxLen at hs
  go_enter Try.func94, Try.ntmps94
  go_wp2
  go_loop [3, 7] (fun n i => ∃ k : Nat, k ≤ s.size ∧ i = .int .i64 k ∧ n = .int .u64 (num (s.data.toList.take k))) (fun _ i => s.size - (intOf i).toNat)
  case atStart => exact ⟨0, Nat.zero_le _, rfl, rfl⟩
  case round =>
    obtain ⟨k, hk, rfl, rfl⟩ := hrel
    by_cases hlt : k < s.size
    · have Hs := Lib.hid (take_snoc s k hlt)
      generalize hm : num (s.data.toList.take k) = m
      have Hm := Lib.hid hm; clear hm
      go_wp2
      go_round
      case rel => exact ⟨k + 1, by omega, by go_num, by rw [shl8_or, Hs.out, num_snoc, Hm.out]⟩
      case measure => simp [intOf]; omega
    · go_wp2
      go_ret
      exact ⟨ret_int (by rw [List.take_of_length_le (by simp; omega)]), rfl⟩

theorem Try.info_u8 : (Try.prog.info? 5).map (fun i => (i.zero, i.size, i.bytes)) = some (some (.int .u8 0), 1, 1) := by kernel_rfl

theorem byte_of (n i : Nat) : (n : Int) / 2 ^ (8 * i) % 256 = (((UInt8.ofNat (n / 256 ^ i)).toNat : Nat) : Int) := by
  rw [UInt8.toNat_ofNat', show (2 : Int) ^ (8 * i) = ((256 ^ i : Nat) : Int) by rw [Int.pow_mul]; simp, ← Int.natCast_ediv]
  omega

set_option maxHeartbeats 400000 in
theorem put_any (n : Nat) (hn : n < 18446744073709551616) (wide : Int) (w : World) : Calls Try.prog 45 #[.int .u64 n, .int .i64 wide] w fun e w' => e = .returned (.string (Str (putL n (clampN wide 8)))) ∧ Below w.heap.size w w' := by
  have Hn := Lib.hid hn; clear hn
  obtain ⟨i0, hi, hz0, hz1, hz2⟩ := info_parts Try.info_u8
  generalize hW : clampN wide 8 = W
  have hW8 : W ≤ 8 := by rw [← hW]; exact clampN_le _ _
  have HW := Lib.hid hW; clear hW
  go_enter Try.func45, Try.ntmps45
  go_wp2_with fail
  refine (clamp_any wide 8 _).mono ?_
  rintro e w1 ⟨rfl, rfl⟩
  rw [HW.out]
  go_wp2_with (at_make; refine wpList_make_full _ rfl _ _ 73 rfl w.heap.size 5 i0 (.int .u8 0) 1 Try.underlying73 hi hz0 hz1 .i64 .i64 _ _ W rfl rfl rfl rfl ?c1 ?c2 ?c3 ?_)
  case c1 => rw [hz2]; omega
  case c2 => unfold maxLen; omega
  case c3 => exact Nat.le_refl _
  intro w1 hown hgrow
  rw [toList_madeCells_one] at hown
  have hbel : Below w.heap.size w w1 := (Below.refl _ _).grown hgrow (Nat.le_refl _) (fun k h => by cases h)
  clear hgrow
  go_wp2
  go_loopw [12] (fun i wr => ∃ k : Nat, k ≤ W ∧ i = .int .i64 k ∧ wr.ownsRow w.heap.size 5 1 (.slice (some ⟨w.heap.size, 0, none⟩) W W) W (B8 (List.replicate (W - k) 0 ++ putL n k)) ∧ Below w.heap.size w wr) (fun i _ => W - (intOf i).toNat)
  case atStart => exact ⟨0, Nat.zero_le _, rfl, by simpa [putL, B8_replicate] using hown, hbel⟩
  case round =>
    obtain ⟨k, hk, rfl, hown, hbel⟩ := hrel
    by_cases hlt : k < W
    · have hc := hown.cellAt (W - 1 - k) (by omega)
      have hf := hown.frozenAt (W - 1 - k)
      obtain ⟨c, hcc⟩ : ∃ c, (B8 (List.replicate (W - k) 0 ++ putL n k))[W - 1 - k]? = some c := by
        have : W - 1 - k < (B8 (List.replicate (W - k) 0 ++ putL n k)).length := by simp [B8_length, putL_length]; omega
        exact ⟨_, List.getElem?_eq_getElem this⟩
      rw [hcc] at hc
      clear hcc
      have Hs := Lib.hid (hown.stored (W - 1 - k) (.int .u8 ((UInt8.ofNat (n / 256 ^ k)).toNat : Int)))
      have Hb := Lib.hid (byte_of n k)
      have Hbel := Lib.hid hbel
      have Hc := Lib.hid hc
      clear hown hbel
      go_wp2
      go_roundw
      case rel =>
        refine ⟨k + 1, by omega, by go_num, ?_, Hbel.out.setCell (by simp) _⟩
        rw [Hb.out]
        have h := Hs.out.1
        rw [B8_set] at h
        have e : (List.replicate (W - k) 0 ++ putL n k).set (W - 1 - k) (UInt8.ofNat (n / 256 ^ k)) = List.replicate (W - (k + 1)) 0 ++ putL n (k + 1) := by
          have e1 : W - k = (W - (k + 1)) + 1 := by omega
          rw [e1, List.replicate_succ', List.append_assoc, List.set_append_right _ _ (by simp; omega)]
          simp [putL, show W - 1 - k - (W - (k + 1)) = 0 by omega]
        rw [e] at h
        exact h
      case measure => simp [intOf]; omega
    · obtain rfl : k = W := by omega
      have hcv := run_string_own 73 9 5 Try.underlying73 Try.underlying5 Try.underlying9 hown
      go_wp2
      go_ret
      exact ⟨by simp, hbel⟩

end Go.Proofs.Ytgpccgcppbdlpaa

/-
  Plain lemmas on hexadecimal digits; nothing of the program.
-/
namespace Go.Proofs.Ytgpccgcppbdlpaa
open Go.RowKit
set_option linter.unusedVariables false

theorem Str_append (l m : List UInt8) : Str l ++ Str m = Str (l ++ m) := by
  apply ByteArray.ext; simp [Str]

/-- '+' of two texts: a rule for the walk. -/
theorem run_cat {P : Program} (x y : List UInt8) (h : x.length + y.length ≤ 9223372036854775807) (w : World) : (Op.stringOp .add (Str x) (Str y)).run P w = .ok (.string (Str (x ++ y))) w := by
  rw [run_string_add_sum w _ _ (by rw [Str_size, Str_size]; exact h), Str_append]
end Go.Proofs.Ytgpccgcppbdlpaa

/-
  The contract of octet.Hex, and of the statements' small living call.
-/
namespace Go.Proofs.Ytgpccgcppbdlpaa
open Go.RowKit
set_option linter.unusedVariables false

end Go.Proofs.Ytgpccgcppbdlpaa

/-
  Contracts of addr: small functions on one address.
-/
namespace Go.Proofs.Ytgpccgcppbdlpaa
open Go.RowKit
set_option linter.unusedVariables false

theorem list16 {l : List UInt8} (h : l.length = 16) : ∃ b0 b1 b2 b3 b4 b5 b6 b7 b8 b9 ba bb bc bd be bf, l = [b0, b1, b2, b3, b4, b5, b6, b7, b8, b9, ba, bb, bc, bd, be, bf] := by
  match l, h with
  | [b0, b1, b2, b3, b4, b5, b6, b7, b8, b9, ba, bb, bc, bd, be, bf], _ => exact ⟨b0, b1, b2, b3, b4, b5, b6, b7, b8, b9, ba, bb, bc, bd, be, bf, rfl⟩
/-- A byte of an address. -/
def bN (l : List UInt8) (i : Nat) : Int := ((l.getD i 0).toNat : Int)
/-- Whether it is a group's. -/
def grpV (v : Bool) (l : List UInt8) : Bool := if v then (bN l 0 == 255) else (decide (224 ≤ bN l 0) && decide (bN l 0 ≤ 239))
theorem ret_bool {a b : Bool} (h : a = b) : Ending.returned (.bool a) = .returned (.bool b) := by rw [h]

set_option maxRecDepth 100000 in
set_option maxHeartbeats 1000000 in
theorem group_any (v : Bool) (l : List UInt8) (hl : l.length = 16) (w : World) : Calls Try.prog 67 #[.agg (addrC v l).toArray] w fun e w' => e = .returned (.bool (grpV v l)) ∧ Below w.heap.size w w' := by
  obtain ⟨b0, b1, b2, b3, b4, b5, b6, b7, b8, b9, ba, bb, bc, bd, be, bf, rfl⟩ := list16 hl
  clear hl
  show Calls Try.prog 67 #[.agg #[.bool v, .int .u8 b0.toNat, .int .u8 b1.toNat, .int .u8 b2.toNat, .int .u8 b3.toNat, .int .u8 b4.toNat, .int .u8 b5.toNat, .int .u8 b6.toNat, .int .u8 b7.toNat, .int .u8 b8.toNat, .int .u8 b9.toNat, .int .u8 ba.toNat, .int .u8 bb.toNat, .int .u8 bc.toNat, .int .u8 bd.toNat, .int .u8 be.toNat, .int .u8 bf.toNat]] w _
  cases v <;>
  · go_enter Try.func67, Try.ntmps67
    go_wp2
    all_goals
      go_ret
      exact ⟨ret_bool (by simp_all [grpV, bN] <;> omega), (Below.refl _ _).alloc (Nat.le_refl _) _⟩

theorem row_box (w : World) (v : Bool) (l : List UInt8) (hl : l.length = 16) (t : TypeId) : row? (w.alloc (.cells (addrC v l).toArray t)) w.heap.size 0 17 = some (addrC v l) := by
  have h := row?_of (w := w.alloc (.cells (addrC v l).toArray t)) (b := w.heap.size) (o := 0) (cs := addrC v l) (fun j x hj => by rw [World.cell?_alloc_mark]; simpa using hj)
  rwa [addrC_length, hl] at h

/-- All that is known of a boxed address. -/
def BoxAt (w W : World) (v : Bool) (l : List UInt8) : Prop := W.cell? ⟨w.heap.size, 0, none⟩ = some (.bool v) ∧ RowAt W w.heap.size 1 l ∧ row? W w.heap.size 0 17 = some (addrC v l) ∧ w.heap.size < W.heap.size ∧ Below w.heap.size w W
theorem BoxAt.made (w : World) (v : Bool) (l : List UInt8) (hl : l.length = 16) (t : TypeId) : BoxAt w (w.alloc (.cells (addrC v l).toArray t)) v l :=
  ⟨by simp [addrC], rowAt_box w v l t (0, 0) _ rfl, row_box w v l hl t, by simp, (Below.refl _ _).alloc (Nat.le_refl _) _⟩
theorem BoxAt.keep {w W W' : World} {v : Bool} {l : List UInt8} (h : BoxAt w W v l) (hb : Below W.heap.size W W') : BoxAt w W' v l :=
  ⟨by rw [hb.cell (p := ⟨w.heap.size, 0, none⟩) h.2.2.2.1]; exact h.1, h.2.1.below h.2.2.2.1 hb, row?_below h.2.2.1 h.2.2.2.1 hb, Nat.lt_of_lt_of_le h.2.2.2.1 hb.size, bstep h.2.2.2.2 hb⟩
theorem BoxAt.drewN {w W : World} {v : Bool} {l : List UInt8} (h : BoxAt w W v l) (n : Nat) : BoxAt w (W.drewN n) v l := h.keep (bdrewN (Below.refl _ _) n)
theorem BoxAt.alloc {w W : World} {v : Bool} {l : List UInt8} (h : BoxAt w W v l) (o : Obj) : BoxAt w (W.alloc o) v l := h.keep ((Below.refl _ _).alloc (Nat.le_refl _) _)
theorem BoxAt.at {w W : World} {v : Bool} {l : List UInt8} (h : BoxAt w W v l) (i : Nat) (hi : i < l.length) : W.cell? ⟨w.heap.size, 1 + i, none⟩ = some (.int .u8 ((l[i]).toNat : Int)) := h.2.1 i hi

end Go.Proofs.Ytgpccgcppbdlpaa

/-
  Contracts of addr: functions that answer addresses.
-/
namespace Go.Proofs.Ytgpccgcppbdlpaa
open Go.RowKit
set_option linter.unusedVariables false
attribute [local go_sem ↓] bld_addr bld_b16 ld_addr st_addr ld_b16
attribute [local go_sem] ldr_addr str_addr ldr_b16
/-- An address's bytes. -/
def bytesV (v : Bool) (l : List UInt8) : List UInt8 := if v then l else l.take 4
set_option maxHeartbeats 1000000 in
theorem bytes_any (v : Bool) (l : List UInt8) (hl : l.length = 16) (w : World) : Calls Try.prog 76 #[.agg (addrC v l).toArray] w fun e w' => e = .returned (.string (Str (bytesV v l))) ∧ Below w.heap.size w w' := by
  have HB := Lib.hid (BoxAt.made w v l hl 24)
  go_enter Try.func76, Try.ntmps76
  go_upto_region 1 with (fail)
  have hbx := HB.out
  clear HB
  generalize w.alloc (.cells (addrC v l).toArray 24) = W at hbx ⊢
  have HB := Lib.hid hbx
  obtain ⟨k0, k1, k2, k3, k4⟩ := hbx

  have hc16 := run_string_row (P := Try.prog) 73 9 5 Try.underlying73 Try.underlying5 Try.underlying9 k1 16 16 (by omega)
  have hc4 := run_string_row (P := Try.prog) 73 9 5 Try.underlying73 Try.underlying5 Try.underlying9 k1 4 16 (by omega)
  rw [List.take_of_length_le (by omega)] at hc16
  clear k1 k2 k3 k4 hl
  cases v with
  | true =>
    go_wp2
    go_ret
    exact ⟨rfl, HB.out.2.2.2.2⟩
  | false =>
    go_wp2
    go_ret
    exact ⟨rfl, HB.out.2.2.2.2⟩
/-- Which address bytes are. -/
def readV (s : List UInt8) : List UInt8 := s ++ List.replicate (16 - s.length) 0
theorem readV_length (s : List UInt8) (h : s.length ≤ 16) : (readV s).length = 16 := by simp [readV]; omega
theorem over_read (v : Bool) (l : List UInt8) (h : l.length ≤ 16) : over (addrC v (List.replicate 16 0)) 1 (B8 l) = addrC v (readV l) := by
  have e1 : (List.replicate 16 (0 : UInt8)).drop l.length = List.replicate (16 - l.length) 0 := by rw [List.drop_replicate]
  show (addrC v (List.replicate 16 0)).take 1 ++ (B8 l ++ (addrC v (List.replicate 16 0)).drop (1 + (B8 l).length)) = _
  rw [B8_length, Nat.add_comm 1 l.length, show addrC v (List.replicate 16 0) = .bool v :: B8 (List.replicate 16 0) from rfl, List.drop_succ_cons]
  unfold B8 addrC readV B8
  rw [← List.map_drop, e1, List.map_append]
  rfl
set_option maxRecDepth 100000 in
set_option maxHeartbeats 1000000 in
theorem read_bad (l : List UInt8) (h1 : l.length ≤ 1000000) (h4 : decide ((l.length : Int) = 4) = false) (h16 : decide ((l.length : Int) = 16) = false) (w : World) :
    Calls Try.prog 82 #[.string (Str l)] w fun e w' => e = .returned (.tuple #[.agg (addrC false (List.replicate 16 0)).toArray, .int .i64 2]) ∧ Below w.heap.size w w' := by
  have hsz := Str_size l
  have g4 : ((l.length : Int) == 4) = false := by simpa using h4
  have g16 : ((l.length : Int) == 16) = false := by simpa using h16
  have i4 : ((l.length : Int) != 4) = true := by simp [bne, g4]
  have i16 : ((l.length : Int) != 16) = true := by simp [bne, g16]
  have hok : fok #[.bool false, .int .u8 0, .int .u8 0, .int .u8 0, .int .u8 0, .int .u8 0, .int .u8 0, .int .u8 0, .int .u8 0, .int .u8 0, .int .u8 0, .int .u8 0, .int .u8 0, .int .u8 0, .int .u8 0, .int .u8 0, .int .u8 0] 17 = true := by simp [fok, Value.oneCell']
  have hbld : ∀ w0, (aggBuild 24 #[]).run Try.prog w0 = .ok (.agg #[.bool false, .int .u8 0, .int .u8 0, .int .u8 0, .int .u8 0, .int .u8 0, .int .u8 0, .int .u8 0, .int .u8 0, .int .u8 0, .int .u8 0, .int .u8 0, .int .u8 0, .int .u8 0, .int .u8 0, .int .u8 0, .int .u8 0]) w0 := bld_run _ _ _ (by kernel_rfl)
  go_enter Try.func82, Try.ntmps82
  go_upto_region 1 with (fail)
  have hf := free_made w #[.bool false, .int .u8 0, .int .u8 0, .int .u8 0, .int .u8 0, .int .u8 0, .int .u8 0, .int .u8 0, .int .u8 0, .int .u8 0, .int .u8 0, .int .u8 0, .int .u8 0, .int .u8 0, .int .u8 0, .int .u8 0, .int .u8 0] 24 17 (by simp)
  have hb : Below w.heap.size w (w.alloc (.cells #[.bool false, .int .u8 0, .int .u8 0, .int .u8 0, .int .u8 0, .int .u8 0, .int .u8 0, .int .u8 0, .int .u8 0, .int .u8 0, .int .u8 0, .int .u8 0, .int .u8 0, .int .u8 0, .int .u8 0, .int .u8 0, .int .u8 0] 24)) := (Below.refl _ _).alloc (Nat.le_refl _) _
  generalize w.alloc (.cells #[.bool false, .int .u8 0, .int .u8 0, .int .u8 0, .int .u8 0, .int .u8 0, .int .u8 0, .int .u8 0, .int .u8 0, .int .u8 0, .int .u8 0, .int .u8 0, .int .u8 0, .int .u8 0, .int .u8 0, .int .u8 0, .int .u8 0] 24) = W at hf hb ⊢
  have Hb := Lib.hid hb; clear hb
  go_wp2
  have hr := aggW_row (cs := addrC false (List.replicate 16 0)) hf rfl
  exact bodyPost_ret (results_cell2 Try.results82 rfl (ld_some hr (ldr_addr _ _ _))) rfl ⟨rfl, aggW_below Hb.out (Nat.le_refl _) _⟩

set_option maxRecDepth 100000 in
set_option maxHeartbeats 1000000 in
theorem read_good (v : Bool) (l : List UInt8) (h1 : l.length ≤ 16) (hv : ((l.length : Int) == 16) = v) (g : ((l.length : Int) == 4) = !v) (w : World) :
    Calls Try.prog 82 #[.string (Str l)] w fun e w' => e = .returned (.tuple #[.agg (addrC v (readV l)).toArray, .int .i64 0]) ∧ Below w.heap.size w w' := by
  have hsz := Str_size l
  have i4 : ((l.length : Int) != 4) = v := by simp [bne, g]
  have i16 : ((l.length : Int) != 16) = !v := by simp [bne, hv]
  have HV := Lib.hid hv
  have hok : fok #[.bool v, .int .u8 0, .int .u8 0, .int .u8 0, .int .u8 0, .int .u8 0, .int .u8 0, .int .u8 0, .int .u8 0, .int .u8 0, .int .u8 0, .int .u8 0, .int .u8 0, .int .u8 0, .int .u8 0, .int .u8 0, .int .u8 0] 17 = true := by simp [fok, Value.oneCell']
  have hbld : ∀ w0, (aggBuild 24 #[(0, .bool v)]).run Try.prog w0 = .ok (.agg #[.bool v, .int .u8 0, .int .u8 0, .int .u8 0, .int .u8 0, .int .u8 0, .int .u8 0, .int .u8 0, .int .u8 0, .int .u8 0, .int .u8 0, .int .u8 0, .int .u8 0, .int .u8 0, .int .u8 0, .int .u8 0, .int .u8 0]) w0 := bld_run _ _ _ (by kernel_rfl)
  have hok2 := fok_addr v (readV l) (readV_length l h1)
  go_enter Try.func82, Try.ntmps82
  go_upto_region 1 with (fail)
  have ho := ObjAt.made w #[.bool false, .int .u8 0, .int .u8 0, .int .u8 0, .int .u8 0, .int .u8 0, .int .u8 0, .int .u8 0, .int .u8 0, .int .u8 0, .int .u8 0, .int .u8 0, .int .u8 0, .int .u8 0, .int .u8 0, .int .u8 0, .int .u8 0] 24
  have hb : Below w.heap.size w (w.alloc (.cells #[.bool false, .int .u8 0, .int .u8 0, .int .u8 0, .int .u8 0, .int .u8 0, .int .u8 0, .int .u8 0, .int .u8 0, .int .u8 0, .int .u8 0, .int .u8 0, .int .u8 0, .int .u8 0, .int .u8 0, .int .u8 0, .int .u8 0] 24)) := (Below.refl _ _).alloc (Nat.le_refl _) _
  have hz : w.heap.size < (w.alloc (.cells #[.bool false, .int .u8 0, .int .u8 0, .int .u8 0, .int .u8 0, .int .u8 0, .int .u8 0, .int .u8 0, .int .u8 0, .int .u8 0, .int .u8 0, .int .u8 0, .int .u8 0, .int .u8 0, .int .u8 0, .int .u8 0, .int .u8 0] 24)).heap.size := by simp
  generalize w.alloc (.cells #[.bool false, .int .u8 0, .int .u8 0, .int .u8 0, .int .u8 0, .int .u8 0, .int .u8 0, .int .u8 0, .int .u8 0, .int .u8 0, .int .u8 0, .int .u8 0, .int .u8 0, .int .u8 0, .int .u8 0, .int .u8 0, .int .u8 0] 24) = W at ho hb hz ⊢
  have Hb := Lib.hid hb; clear hb
  have Ho := Lib.hid ho; clear ho
  have hf2 := free_made W #[.bool false, .int .u8 0, .int .u8 0, .int .u8 0, .int .u8 0, .int .u8 0, .int .u8 0, .int .u8 0, .int .u8 0, .int .u8 0, .int .u8 0, .int .u8 0, .int .u8 0, .int .u8 0, .int .u8 0, .int .u8 0, .int .u8 0] 24 17 (by simp)
  have hA := ObjAt.made W #[.bool false, .int .u8 0, .int .u8 0, .int .u8 0, .int .u8 0, .int .u8 0, .int .u8 0, .int .u8 0, .int .u8 0, .int .u8 0, .int .u8 0, .int .u8 0, .int .u8 0, .int .u8 0, .int .u8 0, .int .u8 0, .int .u8 0] 24
  have h0A : ObjAt (W.alloc (.cells #[.bool false, .int .u8 0, .int .u8 0, .int .u8 0, .int .u8 0, .int .u8 0, .int .u8 0, .int .u8 0, .int .u8 0, .int .u8 0, .int .u8 0, .int .u8 0, .int .u8 0, .int .u8 0, .int .u8 0, .int .u8 0, .int .u8 0] 24)) w.heap.size _ _ := Ho.out.alloc _
  have hbA : Below w.heap.size w (W.alloc (.cells #[.bool false, .int .u8 0, .int .u8 0, .int .u8 0, .int .u8 0, .int .u8 0, .int .u8 0, .int .u8 0, .int .u8 0, .int .u8 0, .int .u8 0, .int .u8 0, .int .u8 0, .int .u8 0, .int .u8 0, .int .u8 0, .int .u8 0] 24)) := Hb.out.alloc (by omega) _
  have hB := aggW_obj (cs := [.bool v, .int .u8 0, .int .u8 0, .int .u8 0, .int .u8 0, .int .u8 0, .int .u8 0, .int .u8 0, .int .u8 0, .int .u8 0, .int .u8 0, .int .u8 0, .int .u8 0, .int .u8 0, .int .u8 0, .int .u8 0, .int .u8 0]) hA rfl (addrC_one v (List.replicate 16 0))
  have h0B := aggW_other h0A [.bool v, .int .u8 0, .int .u8 0, .int .u8 0, .int .u8 0, .int .u8 0, .int .u8 0, .int .u8 0, .int .u8 0, .int .u8 0, .int .u8 0, .int .u8 0, .int .u8 0, .int .u8 0, .int .u8 0, .int .u8 0, .int .u8 0] (b := W.heap.size) (by omega)
  have hbB := aggW_below hbA (b := W.heap.size) (by omega) [.bool v, .int .u8 0, .int .u8 0, .int .u8 0, .int .u8 0, .int .u8 0, .int .u8 0, .int .u8 0, .int .u8 0, .int .u8 0, .int .u8 0, .int .u8 0, .int .u8 0, .int .u8 0, .int .u8 0, .int .u8 0, .int .u8 0]
  have hC := aggO_obj hB (o := 1) (cs := B8 l) (by rw [B8_length]; simp; omega) (B8_one l)
  rw [show over [.bool v, .int .u8 0, .int .u8 0, .int .u8 0, .int .u8 0, .int .u8 0, .int .u8 0, .int .u8 0, .int .u8 0, .int .u8 0, .int .u8 0, .int .u8 0, .int .u8 0, .int .u8 0, .int .u8 0, .int .u8 0, .int .u8 0] 1 (B8 l) = addrC v (readV l) from over_read v l h1] at hC
  have h0C := aggO_other (o := 1) h0B (B8 l) (b := W.heap.size) (by omega)
  have hbC := aggO_below hbB (b := W.heap.size) (by omega) 1 (B8 l)
  have hrC := obj_row (A := []) (M := addrC v (readV l)) (C := []) (o := 0) (n := 17) (by simpa using hC) rfl (by rw [addrC_length, readV_length l h1])
  have hfC := obj_free (n := 17) h0C (by simp)
  have HB := Lib.hid hB; have HbC := Lib.hid hbC
  have hrD := aggW_row (cs := addrC v (readV l)) hfC (by rw [addrC_length, readV_length l h1])
  have HrD := Lib.hid hrD
  clear hA h0A hbA hB h0B hbB hC h0C hbC hrD
  cases v <;>
  · go_wp2_with (with_reducible refine wpList_copy_str rfl (.tmp 19) (.tmp 20) 73 9 rfl Try.underlying73 W.heap.size 1 16 16 rfl l rfl (by omega) _ _ HB.out (by simp; omega) ?_)
    exact bodyPost_ret (results_cell2 Try.results82 rfl (ld_some HrD.out (ldr_addr _ _ _))) rfl ⟨rfl, aggW_below HbC.out (Nat.le_refl _) _⟩
end Go.Proofs.Ytgpccgcppbdlpaa


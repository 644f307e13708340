/-
  Texts joined: Tk, Oct, PureHex, OctHex, Ad1.
-/
import Derived.Test.YtalnfjnfcloonaaGreatDoorMg08
import Derived.Test.YtalnfjnfcloonaaGreatDoorBase
import Derived.Test.YtalnfjnfcloonaaGreatDoorChecked
import Derived.WalkLawsBesides
import Derived.WalkSpells
import Derived.BigQuiet
import Derived.Deep.QuietTactic
import Derived.LoopTactic
import Derived.Deep.RegionLaw
import Derived.Deep.AppendLies
import Derived.Test.YtalnfjnfcloonaaGreatDoorMg06
import Derived.Deep.RegionHeld3
import Derived.Laws.Cover3
import Derived.Deep.Cut
import Derived.Lib.Hide
/-
  Talks in memory, and the document's own comparison of two.
-/
namespace Go.Proofs.YtalnfjnfcloonaaGreatDoor
open Go.RowKit
set_option linter.unusedVariables false

/-- A talk as plain data. -/
structure TK where
  v6 : Bool
  ver : Int
  kind : Int
  resp : Int
  g : AD
  quiet : Bool
  rob : Int
  every : Int
  src : List AD
  rcs : List RC
  deriving DecidableEq
def tkC (t : TK) (us ur : Value) : List Value := [.bool t.v6, .int .i64 t.ver, .int .i64 t.kind, .int .i64 t.resp] ++ (adC t.g ++ [.bool t.quiet, .int .i64 t.rob, .int .i64 t.every, us, ur])
theorem tkC_length {t : TK} (h : adOk t.g) (us ur : Value) : (tkC t us ur).length = 26 := by unfold tkC; simp [adC_length h]
/-- A talk's cells by value. -/
def Tks (w : World) (cs : List Value) (t : TK) : Prop := adOk t.g ∧ ∃ us ur, cs = tkC t us ur ∧ Ads w us t.src ∧ Rcs w ur t.rcs
theorem Tks.below {w w' : World} {cs : List Value} {t : TK} (h : Tks w cs t) (hb : Below w.heap.size w w') : Tks w' cs t := by
  obtain ⟨h1, us, ur, h2, h3, h4⟩ := h
  exact ⟨h1, us, ur, h2, h3.below hb, h4.below hb⟩
end Go.Proofs.YtalnfjnfcloonaaGreatDoor

/-
  The contracts of package octet, part one: clamp, number, Put, Get.
-/
namespace Go.Proofs.YtalnfjnfcloonaaGreatDoor
open Go.RowKit
set_option linter.unusedVariables false

theorem clamp_any (n : Int) (m : Nat) (w : World) : Calls Tryz.prog 71 #[.int .i64 n, .int .i64 (m : Int)] w fun e w' => e = .returned (.int .i64 (clampN n m : Int)) ∧ w = w' := by
  go_enter Tryz.func71, Tryz.ntmps71
  go_wp2
  all_goals
    go_ret
    exact ⟨ret_int (by unfold clampN; first | (split <;> split at * <;> omega) | (split <;> omega) | omega), rfl⟩

set_option maxHeartbeats 400000 in
theorem number_any (s : ByteArray) (hs : s.size ≤ maxLen) (w : World) : Calls Tryz.prog 69 #[.string s] w fun e w' => e = .returned (.int .u64 (num s.data.toList)) ∧ w = w' := by
  unfold maxLen at hs
  go_enter Tryz.func69, Tryz.ntmps69
  go_wp2
  go_loop [3, 7] (fun n i => ∃ k : Nat, k ≤ s.size ∧ i = .int .i64 k ∧ n = .int .u64 (num (s.data.toList.take k))) (fun _ i => s.size - (intOf i).toNat)
  case atStart => exact ⟨0, Nat.zero_le _, rfl, rfl⟩
  case round =>
    obtain ⟨k, hk, rfl, rfl⟩ := hrel
    by_cases hlt : k < s.size
    · have Hs := Lib.hid (take_snoc s k hlt)
      generalize hm : num (s.data.toList.take k) = m
      have Hm := Lib.hid hm; clear hm
      go_wp2
      go_round
      case rel => exact ⟨k + 1, by omega, by go_num, by rw [shl8_or, Hs.out, num_snoc, Hm.out]⟩
      case measure => simp [intOf]; omega
    · go_wp2
      go_ret
      exact ⟨ret_int (by rw [List.take_of_length_le (by simp; omega)]), rfl⟩

theorem Tryz.info_u8 : (Tryz.prog.info? 5).map (fun i => (i.zero, i.size, i.bytes)) = some (some (.int .u8 0), 1, 1) := by kernel_rfl

theorem byte_of (n i : Nat) : (n : Int) / 2 ^ (8 * i) % 256 = (((UInt8.ofNat (n / 256 ^ i)).toNat : Nat) : Int) := by
  rw [UInt8.toNat_ofNat', show (2 : Int) ^ (8 * i) = ((256 ^ i : Nat) : Int) by rw [Int.pow_mul]; simp, ← Int.natCast_ediv]
  omega

set_option maxHeartbeats 400000 in
theorem put_any (n : Nat) (hn : n < 18446744073709551616) (wide : Int) (w : World) : Calls Tryz.prog 62 #[.int .u64 n, .int .i64 wide] w fun e w' => e = .returned (.string (Str (putL n (clampN wide 8)))) ∧ Below w.heap.size w w' := by
  have Hn := Lib.hid hn; clear hn
  obtain ⟨i0, hi, hz0, hz1, hz2⟩ := info_parts Tryz.info_u8
  generalize hW : clampN wide 8 = W
  have hW8 : W ≤ 8 := by rw [← hW]; exact clampN_le _ _
  have HW := Lib.hid hW; clear hW
  go_enter Tryz.func62, Tryz.ntmps62
  go_wp2_with fail
  refine (clamp_any wide 8 _).mono ?_
  rintro e w1 ⟨rfl, rfl⟩
  rw [HW.out]
  go_wp2_with (at_make; refine wpList_make_full _ rfl _ _ 45 rfl w.heap.size 5 i0 (.int .u8 0) 1 Tryz.underlying45 hi hz0 hz1 .i64 .i64 _ _ W rfl rfl rfl rfl ?c1 ?c2 ?c3 ?_)
  case c1 => rw [hz2]; omega
  case c2 => unfold maxLen; omega
  case c3 => exact Nat.le_refl _
  intro w1 hown hgrow
  rw [toList_madeCells_one] at hown
  have hbel : Below w.heap.size w w1 := (Below.refl _ _).grown hgrow (Nat.le_refl _) (fun k h => by cases h)
  clear hgrow
  go_wp2
  go_loopw [12] (fun i wr => ∃ k : Nat, k ≤ W ∧ i = .int .i64 k ∧ wr.ownsRow w.heap.size 5 1 (.slice (some ⟨w.heap.size, 0, none⟩) W W) W (B8 (List.replicate (W - k) 0 ++ putL n k)) ∧ Below w.heap.size w wr) (fun i _ => W - (intOf i).toNat)
  case atStart => exact ⟨0, Nat.zero_le _, rfl, by simpa [putL, B8_replicate] using hown, hbel⟩
  case round =>
    obtain ⟨k, hk, rfl, hown, hbel⟩ := hrel
    by_cases hlt : k < W
    · have hc := hown.cellAt (W - 1 - k) (by omega)
      have hf := hown.frozenAt (W - 1 - k)
      obtain ⟨c, hcc⟩ : ∃ c, (B8 (List.replicate (W - k) 0 ++ putL n k))[W - 1 - k]? = some c := by
        have : W - 1 - k < (B8 (List.replicate (W - k) 0 ++ putL n k)).length := by simp [B8_length, putL_length]; omega
        exact ⟨_, List.getElem?_eq_getElem this⟩
      rw [hcc] at hc
      clear hcc
      have Hs := Lib.hid (hown.stored (W - 1 - k) (.int .u8 ((UInt8.ofNat (n / 256 ^ k)).toNat : Int)))
      have Hb := Lib.hid (byte_of n k)
      have Hbel := Lib.hid hbel
      have Hc := Lib.hid hc
      clear hown hbel
      go_wp2
      go_roundw
      case rel =>
        refine ⟨k + 1, by omega, by go_num, ?_, Hbel.out.setCell (by simp) _⟩
        rw [Hb.out]
        have h := Hs.out.1
        rw [B8_set] at h
        have e : (List.replicate (W - k) 0 ++ putL n k).set (W - 1 - k) (UInt8.ofNat (n / 256 ^ k)) = List.replicate (W - (k + 1)) 0 ++ putL n (k + 1) := by
          have e1 : W - k = (W - (k + 1)) + 1 := by omega
          rw [e1, List.replicate_succ', List.append_assoc, List.set_append_right _ _ (by simp; omega)]
          simp [putL, show W - 1 - k - (W - (k + 1)) = 0 by omega]
        rw [e] at h
        exact h
      case measure => simp [intOf]; omega
    · obtain rfl : k = W := by omega
      have hcv := run_string_own 45 9 5 Tryz.underlying45 Tryz.underlying5 Tryz.underlying9 hown
      go_wp2
      go_ret
      exact ⟨by simp, hbel⟩

end Go.Proofs.YtalnfjnfcloonaaGreatDoor

/-
  Plain lemmas on hexadecimal digits; nothing of the program.
-/
namespace Go.Proofs.YtalnfjnfcloonaaGreatDoor
open Go.RowKit
set_option linter.unusedVariables false

def digL (b : Nat) : UInt8 := if b < 10 then UInt8.ofNat (48 + b) else UInt8.ofNat (87 + b)
def hexL (l : List UInt8) : List UInt8 := l.flatMap fun b => [digL (b.toNat / 16), digL (b.toNat % 16)]
theorem digL_toNat (n : Nat) (h : n < 16) : (digL n).toNat = if n < 10 then 48 + n else 87 + n := by
  unfold digL; split <;> rw [UInt8.toNat_ofNat'] <;> omega
theorem Str_append (l m : List UInt8) : Str l ++ Str m = Str (l ++ m) := by
  apply ByteArray.ext; simp [Str]

theorem hexcut : ∀ x : Fin 16, (⟨#[48, 49, 50, 51, 52, 53, 54, 55, 56, 57, 97, 98, 99, 100, 101, 102]⟩ : ByteArray).extract x.val (x.val + 1) = Str [digL x.val] := by decide
/-- '+' of two texts: a rule for the walk. -/
theorem run_cat {P : Program} (x y : List UInt8) (h : x.length + y.length ≤ 9223372036854775807) (w : World) : (Op.stringOp .add (Str x) (Str y)).run P w = .ok (.string (Str (x ++ y))) w := by
  rw [run_string_add_sum w _ _ (by rw [Str_size, Str_size]; exact h), Str_append]
end Go.Proofs.YtalnfjnfcloonaaGreatDoor

/-
  The contract of octet.Hex, and of the statements' small living call.
-/
namespace Go.Proofs.YtalnfjnfcloonaaGreatDoor
open Go.RowKit
set_option linter.unusedVariables false

end Go.Proofs.YtalnfjnfcloonaaGreatDoor

/-
  Contracts of addr: small functions on one address.
-/
namespace Go.Proofs.YtalnfjnfcloonaaGreatDoor
open Go.RowKit
set_option linter.unusedVariables false

theorem list16 {l : List UInt8} (h : l.length = 16) : ∃ b0 b1 b2 b3 b4 b5 b6 b7 b8 b9 ba bb bc bd be bf, l = [b0, b1, b2, b3, b4, b5, b6, b7, b8, b9, ba, bb, bc, bd, be, bf] := by
  match l, h with
  | [b0, b1, b2, b3, b4, b5, b6, b7, b8, b9, ba, bb, bc, bd, be, bf], _ => exact ⟨b0, b1, b2, b3, b4, b5, b6, b7, b8, b9, ba, bb, bc, bd, be, bf, rfl⟩
/-- A byte of an address. -/
def bN (l : List UInt8) (i : Nat) : Int := ((l.getD i 0).toNat : Int)
/-- Whether it is a group's. -/
def grpV (v : Bool) (l : List UInt8) : Bool := if v then (bN l 0 == 255) else (decide (224 ≤ bN l 0) && decide (bN l 0 ≤ 239))
theorem ret_bool {a b : Bool} (h : a = b) : Ending.returned (.bool a) = .returned (.bool b) := by rw [h]

theorem row_box (w : World) (v : Bool) (l : List UInt8) (hl : l.length = 16) (t : TypeId) : row? (w.alloc (.cells (addrC v l).toArray t)) w.heap.size 0 17 = some (addrC v l) := by
  have h := row?_of (w := w.alloc (.cells (addrC v l).toArray t)) (b := w.heap.size) (o := 0) (cs := addrC v l) (fun j x hj => by rw [World.cell?_alloc_mark]; simpa using hj)
  rwa [addrC_length, hl] at h

/-- All that is known of a boxed address. -/
def BoxAt (w W : World) (v : Bool) (l : List UInt8) : Prop := W.cell? ⟨w.heap.size, 0, none⟩ = some (.bool v) ∧ RowAt W w.heap.size 1 l ∧ row? W w.heap.size 0 17 = some (addrC v l) ∧ w.heap.size < W.heap.size ∧ Below w.heap.size w W
theorem BoxAt.made (w : World) (v : Bool) (l : List UInt8) (hl : l.length = 16) (t : TypeId) : BoxAt w (w.alloc (.cells (addrC v l).toArray t)) v l :=
  ⟨by simp [addrC], rowAt_box w v l t (0, 0) _ rfl, row_box w v l hl t, by simp, (Below.refl _ _).alloc (Nat.le_refl _) _⟩
theorem BoxAt.keep {w W W' : World} {v : Bool} {l : List UInt8} (h : BoxAt w W v l) (hb : Below W.heap.size W W') : BoxAt w W' v l :=
  ⟨by rw [hb.cell (p := ⟨w.heap.size, 0, none⟩) h.2.2.2.1]; exact h.1, h.2.1.below h.2.2.2.1 hb, row?_below h.2.2.1 h.2.2.2.1 hb, Nat.lt_of_lt_of_le h.2.2.2.1 hb.size, bstep h.2.2.2.2 hb⟩
theorem BoxAt.drewN {w W : World} {v : Bool} {l : List UInt8} (h : BoxAt w W v l) (n : Nat) : BoxAt w (W.drewN n) v l := h.keep (bdrewN (Below.refl _ _) n)
theorem BoxAt.alloc {w W : World} {v : Bool} {l : List UInt8} (h : BoxAt w W v l) (o : Obj) : BoxAt w (W.alloc o) v l := h.keep ((Below.refl _ _).alloc (Nat.le_refl _) _)
theorem BoxAt.at {w W : World} {v : Bool} {l : List UInt8} (h : BoxAt w W v l) (i : Nat) (hi : i < l.length) : W.cell? ⟨w.heap.size, 1 + i, none⟩ = some (.int .u8 ((l[i]).toNat : Int)) := h.2.1 i hi

end Go.Proofs.YtalnfjnfcloonaaGreatDoor


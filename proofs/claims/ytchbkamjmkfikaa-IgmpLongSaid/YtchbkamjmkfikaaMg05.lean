/-
  Texts joined: Oct, PureHex, OctHex, Ad1.
-/
import Derived.Test.YtchbkamjmkfikaaMg00
import Derived.Test.YtchbkamjmkfikaaChecked
import Derived.WalkLawsBesides
import Derived.WalkSpells
import Derived.BigQuiet
import Derived.Deep.QuietTactic
import Derived.LoopTactic
import Derived.Deep.RegionLaw
import Derived.Deep.AppendLies
import Derived.Test.YtchbkamjmkfikaaMg01
import Derived.Deep.RegionHeld3
import Derived.Laws.Cover3
import Derived.Deep.Cut
import Derived.Lib.Hide
/-
  The contracts of package octet, part one: clamp, number, Put, Get.
-/
namespace Go.Proofs.Ytchbkamjmkfikaa
open Go.RowKit
set_option linter.unusedVariables false

theorem clamp_any (n : Int) (m : Nat) (w : World) : Calls Try.prog 78 #[.int .i64 n, .int .i64 (m : Int)] w fun e w' => e = .returned (.int .i64 (clampN n m : Int)) ∧ w = w' := by
  go_enter Try.func78, Try.ntmps78
  go_wp2
  all_goals
    go_ret
    exact ⟨ret_int (by unfold clampN; split <;> split at * <;> omega), rfl⟩

set_option maxHeartbeats 400000 in
theorem number_any (s : ByteArray) (hs : s.size ≤ maxLen) (w : World) : Calls Try.prog 82 #[.string s] w fun e w' => e = .returned (.int .u64 (num s.data.toList)) ∧ w = w' := by
  unfold maxLen at hs
  go_enter Try.func82, Try.ntmps82
  go_wp2
  go_loop [3, 7] (fun n i => ∃ k : Nat, k ≤ s.size ∧ i = .int .i64 k ∧ n = .int .u64 (num (s.data.toList.take k))) (fun _ i => s.size - (intOf i).toNat)
  case atStart => exact ⟨0, Nat.zero_le _, rfl, rfl⟩
  case round =>
    obtain ⟨k, hk, rfl, rfl⟩ := hrel
    by_cases hlt : k < s.size
    · have Hs := Lib.hid (take_snoc s k hlt)
      generalize hm : num (s.data.toList.take k) = m
      have Hm := Lib.hid hm; clear hm
      go_wp2
      go_round
      case rel => exact ⟨k + 1, by omega, by go_num, by rw [shl8_or, Hs.out, num_snoc, Hm.out]⟩
      case measure => simp [intOf]; omega
    · go_wp2
      go_ret
      exact ⟨ret_int (by rw [List.take_of_length_le (by simp; omega)]), rfl⟩

theorem Try.info_u8 : (Try.prog.info? 5).map (fun i => (i.zero, i.size, i.bytes)) = some (some (.int .u8 0), 1, 1) := by kernel_rfl

theorem byte_of (n i : Nat) : (n : Int) / 2 ^ (8 * i) % 256 = (((UInt8.ofNat (n / 256 ^ i)).toNat : Nat) : Int) := by
  rw [UInt8.toNat_ofNat', show (2 : Int) ^ (8 * i) = ((256 ^ i : Nat) : Int) by rw [Int.pow_mul]; simp, ← Int.natCast_ediv]
  omega

set_option maxHeartbeats 400000 in
theorem put_any (n : Nat) (hn : n < 18446744073709551616) (wide : Int) (w : World) : Calls Try.prog 43 #[.int .u64 n, .int .i64 wide] w fun e w' => e = .returned (.string (Str (putL n (clampN wide 8)))) ∧ Below w.heap.size w w' := by
  have Hn := Lib.hid hn; clear hn
  obtain ⟨i0, hi, hz0, hz1, hz2⟩ := info_parts Try.info_u8
  generalize hW : clampN wide 8 = W
  have hW8 : W ≤ 8 := by rw [← hW]; exact clampN_le _ _
  have HW := Lib.hid hW; clear hW
  go_enter Try.func43, Try.ntmps43
  go_wp2_with fail
  refine (clamp_any wide 8 _).mono ?_
  rintro e w1 ⟨rfl, rfl⟩
  rw [HW.out]
  go_wp2_with (at_make; refine wpList_make_full _ rfl _ _ 66 rfl w.heap.size 5 i0 (.int .u8 0) 1 Try.underlying66 hi hz0 hz1 .i64 .i64 _ _ W rfl rfl rfl rfl ?c1 ?c2 ?c3 ?_)
  case c1 => rw [hz2]; omega
  case c2 => unfold maxLen; omega
  case c3 => exact Nat.le_refl _
  intro w1 hown hgrow
  rw [toList_madeCells_one] at hown
  have hbel : Below w.heap.size w w1 := (Below.refl _ _).grown hgrow (Nat.le_refl _) (fun k h => by cases h)
  clear hgrow
  go_wp2
  go_loopw [12] (fun i wr => ∃ k : Nat, k ≤ W ∧ i = .int .i64 k ∧ wr.ownsRow w.heap.size 5 1 (.slice (some ⟨w.heap.size, 0, none⟩) W W) W (B8 (List.replicate (W - k) 0 ++ putL n k)) ∧ Below w.heap.size w wr) (fun i _ => W - (intOf i).toNat)
  case atStart => exact ⟨0, Nat.zero_le _, rfl, by simpa [putL, B8_replicate] using hown, hbel⟩
  case round =>
    obtain ⟨k, hk, rfl, hown, hbel⟩ := hrel
    by_cases hlt : k < W
    · have hc := hown.cellAt (W - 1 - k) (by omega)
      have hf := hown.frozenAt (W - 1 - k)
      obtain ⟨c, hcc⟩ : ∃ c, (B8 (List.replicate (W - k) 0 ++ putL n k))[W - 1 - k]? = some c := by
        have : W - 1 - k < (B8 (List.replicate (W - k) 0 ++ putL n k)).length := by simp [B8_length, putL_length]; omega
        exact ⟨_, List.getElem?_eq_getElem this⟩
      rw [hcc] at hc
      clear hcc
      have Hs := Lib.hid (hown.stored (W - 1 - k) (.int .u8 ((UInt8.ofNat (n / 256 ^ k)).toNat : Int)))
      have Hb := Lib.hid (byte_of n k)
      have Hbel := Lib.hid hbel
      have Hc := Lib.hid hc
      clear hown hbel
      go_wp2
      go_roundw
      case rel =>
        refine ⟨k + 1, by omega, by go_num, ?_, Hbel.out.setCell (by simp) _⟩
        rw [Hb.out]
        have h := Hs.out.1
        rw [B8_set] at h
        have e : (List.replicate (W - k) 0 ++ putL n k).set (W - 1 - k) (UInt8.ofNat (n / 256 ^ k)) = List.replicate (W - (k + 1)) 0 ++ putL n (k + 1) := by
          have e1 : W - k = (W - (k + 1)) + 1 := by omega
          rw [e1, List.replicate_succ', List.append_assoc, List.set_append_right _ _ (by simp; omega)]
          simp [putL, show W - 1 - k - (W - (k + 1)) = 0 by omega]
        rw [e] at h
        exact h
      case measure => simp [intOf]; omega
    · obtain rfl : k = W := by omega
      have hcv := run_string_own 66 9 5 Try.underlying66 Try.underlying5 Try.underlying9 hown
      go_wp2
      go_ret
      exact ⟨by simp, hbel⟩

/-- What Get tells: the number, and the code. -/
def getR (s : ByteArray) (pos wide : Int) : Nat × Int :=
  if wide < 0 ∨ 8 < wide ∨ pos < 0 then (0, 1)
  else if (s.size : Int) - wide < pos then (0, 3)
  else (num ((s.data.toList.drop pos.toNat).take wide.toNat), 0)
theorem getR_lt (s : ByteArray) (pos wide : Int) : (getR s pos wide).1 < 18446744073709551616 := by
  unfold getR; split
  · show (0 : Nat) < _; omega
  · split
    · show (0 : Nat) < _; omega
    · exact num_lt _

end Go.Proofs.Ytchbkamjmkfikaa

/-
  Plain lemmas on hexadecimal digits; nothing of the program.
-/
namespace Go.Proofs.Ytchbkamjmkfikaa
open Go.RowKit
set_option linter.unusedVariables false

def digL (b : Nat) : UInt8 := if b < 10 then UInt8.ofNat (48 + b) else UInt8.ofNat (87 + b)
def hexL (l : List UInt8) : List UInt8 := l.flatMap fun b => [digL (b.toNat / 16), digL (b.toNat % 16)]
theorem hexL_length (l : List UInt8) : (hexL l).length = 2 * l.length := by
  induction l with
  | nil => rfl
  | cons b l ih => simp only [hexL, List.flatMap_cons, List.length_append] at *; simp [ih]; omega
theorem hexL_snoc (l : List UInt8) (b : UInt8) : hexL (l ++ [b]) = hexL l ++ [digL (b.toNat / 16), digL (b.toNat % 16)] := by simp [hexL]
theorem digL_toNat (n : Nat) (h : n < 16) : (digL n).toNat = if n < 10 then 48 + n else 87 + n := by
  unfold digL; split <;> rw [UInt8.toNat_ofNat'] <;> omega
theorem Str_append (l m : List UInt8) : Str l ++ Str m = Str (l ++ m) := by
  apply ByteArray.ext; simp [Str]

/-- What a sign counts. -/
def digV (c : Nat) : Option Nat :=
  if 48 ≤ c ∧ c ≤ 57 then some (c - 48) else if 97 ≤ c ∧ c ≤ 102 then some (c - 87) else if 65 ≤ c ∧ c ≤ 70 then some (c - 55) else none
theorem digV_lt {c v : Nat} (h : digV c = some v) : v < 16 := by
  unfold digV at h; repeat' split at h
  all_goals first | (cases h; omega) | cases h
theorem digV_match (c n : Nat) (hn : n < 16) : digV c = some n ↔ (c = (digL n).toNat ∨ (9 < n ∧ c = (digL n).toNat - 32)) := by
  rw [digL_toNat n hn]
  unfold digV
  split <;> (repeat' split) <;> simp <;> omega
theorem digV_digL (n : Nat) (h : n < 16) : digV (digL n).toNat = some n := (digV_match _ _ h).2 (.inl rfl)

/-- The byte that two signs are. -/
def pairV (l : List UInt8) (k : Nat) : Option UInt8 :=
  match digV (l.getD (2 * k) 0).toNat, digV (l.getD (2 * k + 1) 0).toNat with
  | some x, some y => some (UInt8.ofNat (16 * x + y))
  | _, _ => none
/-- The bytes that the first k pairs of signs are. -/
def pairsV (l : List UInt8) : Nat → Option (List UInt8)
  | 0 => some []
  | k + 1 => match pairsV l k, pairV l k with
    | some r, some b => some (r ++ [b])
    | _, _ => none
def unhexV (l : List UInt8) : Option (List UInt8) := if l.length % 2 = 1 then none else pairsV l (l.length / 2)
theorem pairsV_length {l : List UInt8} : ∀ {k : Nat} {r : List UInt8}, pairsV l k = some r → r.length = k
  | 0, r, h => by simp [pairsV] at h; subst h; rfl
  | k + 1, r, h => by
    simp only [pairsV] at h
    split at h
    · rename_i r' b h1 h2
      cases h
      have := pairsV_length h1
      simp [this]
    · cases h
theorem pairsV_none {l : List UInt8} {k : Nat} (h : pairV l k = none) : ∀ m, k < m → pairsV l m = none := by
  intro m
  induction m with
  | zero => omega
  | succ m ih =>
    intro hm
    by_cases e : m = k
    · subst e; simp [pairsV, h]
    · simp [pairsV, ih (by omega)]
theorem pairsV_step {l : List UInt8} {k x y : Nat} {r : List UInt8} (h : pairsV l k = some r) (hx : digV (l.getD (2 * k) 0).toNat = some x) (hy : digV (l.getD (2 * k + 1) 0).toNat = some y) :
    pairsV l (k + 1) = some (r ++ [UInt8.ofNat (16 * x + y)]) := by
  simp only [pairsV, h, pairV, hx, hy]
theorem pairV_none_left {l : List UInt8} {k : Nat} (hx : digV (l.getD (2 * k) 0).toNat = none) : pairV l k = none := by unfold pairV; rw [hx]
theorem pairV_none_right {l : List UInt8} {k : Nat} (hy : digV (l.getD (2 * k + 1) 0).toNat = none) : pairV l k = none := by
  unfold pairV; rw [hy]; split
  · rename_i h; cases h
  · rfl
theorem unhexV_none {l : List UInt8} {k : Nat} (h : pairV l k = none) (hk : 2 * k + 1 < l.length) : unhexV l = none := by
  unfold unhexV; split
  · rfl
  · exact pairsV_none h _ (by omega)

theorem hexL_get (l : List UInt8) : ∀ k, k < l.length → (hexL l).getD (2 * k) 0 = digL ((l.getD k 0).toNat / 16) ∧ (hexL l).getD (2 * k + 1) 0 = digL ((l.getD k 0).toNat % 16) := by
  induction l with
  | nil => intro k h; simp at h
  | cons b l ih =>
    intro k h
    have e : hexL (b :: l) = digL (b.toNat / 16) :: digL (b.toNat % 16) :: hexL l := by simp [hexL]
    cases k with
    | zero => rw [e]; simp
    | succ k =>
      have := ih k (by simpa using h)
      rw [e, show 2 * (k + 1) = 2 * k + 1 + 1 by omega]
      simpa using this
theorem pairsV_hexL (l : List UInt8) : ∀ k, k ≤ l.length → pairsV (hexL l) k = some (l.take k) := by
  intro k
  induction k with
  | zero => intro _; simp [pairsV]
  | succ k ih =>
    intro h
    obtain ⟨e1, e2⟩ := hexL_get l k (by omega)
    have hb := (l.getD k 0).toNat_lt
    rw [pairsV_step (ih (by omega)) (by rw [e1]; exact digV_digL _ (by omega)) (by rw [e2]; exact digV_digL _ (by omega))]
    rw [show 16 * ((l.getD k 0).toNat / 16) + (l.getD k 0).toNat % 16 = (l.getD k 0).toNat by omega, UInt8.ofNat_toNat, List.take_succ_eq_append_getElem (by omega)]
    simp [List.getD, List.getElem?_eq_getElem (show k < l.length by omega)]
theorem unhexV_hexL (l : List UInt8) : unhexV (hexL l) = some l := by
  unfold unhexV
  rw [hexL_length, if_neg (by omega), show 2 * l.length / 2 = l.length by omega, pairsV_hexL l _ (Nat.le_refl _), List.take_length]
theorem hexdig : ∀ x : Fin 16, (⟨#[48, 49, 50, 51, 52, 53, 54, 55, 56, 57, 97, 98, 99, 100, 101, 102]⟩ : ByteArray)[x.val]'(x.isLt) = digL x.val := by decide
theorem hexdig' (x : Int) (n : Nat) (hx : x = n) (hn : n < 16) (h : x.toNat < (⟨#[48, 49, 50, 51, 52, 53, 54, 55, 56, 57, 97, 98, 99, 100, 101, 102]⟩ : ByteArray).size) :
    ((⟨#[48, 49, 50, 51, 52, 53, 54, 55, 56, 57, 97, 98, 99, 100, 101, 102]⟩ : ByteArray)[x.toNat]'h) = digL n := by
  subst hx; exact hexdig ⟨n, hn⟩
theorem hexcut : ∀ x : Fin 16, (⟨#[48, 49, 50, 51, 52, 53, 54, 55, 56, 57, 97, 98, 99, 100, 101, 102]⟩ : ByteArray).extract x.val (x.val + 1) = Str [digL x.val] := by decide
/-- '+' of two texts: a rule for the walk. -/
theorem run_cat {P : Program} (x y : List UInt8) (h : x.length + y.length ≤ 9223372036854775807) (w : World) : (Op.stringOp .add (Str x) (Str y)).run P w = .ok (.string (Str (x ++ y))) w := by
  rw [run_string_add_sum w _ _ (by rw [Str_size, Str_size]; exact h), Str_append]
end Go.Proofs.Ytchbkamjmkfikaa

/-
  The contract of octet.Hex, and of the statements' small living call.
-/
namespace Go.Proofs.Ytchbkamjmkfikaa
open Go.RowKit
set_option linter.unusedVariables false

theorem bits_and_u8_nat (a b : Nat) (ha : a < 256) (hb : b < 256) : bits .and .u8 (a : Int) (b : Int) = ((a &&& b : Nat) : Int) := by
  have hx : a &&& b ≤ a := Nat.and_le_left
  have h1 : (BitVec.ofInt 8 (a : Int)).toNat = a := by
    rw [BitVec.ofInt_natCast, BitVec.toNat_ofNat]; exact Nat.mod_eq_of_lt (by omega)
  have h2 : (BitVec.ofInt 8 (b : Int)).toNat = b := by
    rw [BitVec.ofInt_natCast, BitVec.toNat_ofNat]; exact Nat.mod_eq_of_lt (by omega)
  show IntKind.u8.wrap ((BitVec.ofInt 8 (a : Int) &&& BitVec.ofInt 8 (b : Int)).toNat : Int) = _
  rw [BitVec.toNat_and, h1, h2, IntKind.wrap_u8]
  omega
theorem and15 (a : Nat) (ha : a < 256) : bits .and .u8 (a : Int) 15 = (a : Int) % 16 := by
  have h := bits_and_u8_nat a 15 ha (by omega)
  rw [show ((15 : Nat) : Int) = 15 from rfl] at h
  rw [h, show (15 : Nat) = 2 ^ 4 - 1 from rfl, Nat.and_two_pow_sub_one_eq_mod]; rfl
end Go.Proofs.Ytchbkamjmkfikaa

/-
  Contracts of addr: small functions on one address.
-/
namespace Go.Proofs.Ytchbkamjmkfikaa
open Go.RowKit
set_option linter.unusedVariables false

theorem list16 {l : List UInt8} (h : l.length = 16) : ∃ b0 b1 b2 b3 b4 b5 b6 b7 b8 b9 ba bb bc bd be bf, l = [b0, b1, b2, b3, b4, b5, b6, b7, b8, b9, ba, bb, bc, bd, be, bf] := by
  match l, h with
  | [b0, b1, b2, b3, b4, b5, b6, b7, b8, b9, ba, bb, bc, bd, be, bf], _ => exact ⟨b0, b1, b2, b3, b4, b5, b6, b7, b8, b9, ba, bb, bc, bd, be, bf, rfl⟩
theorem list6 {l : List UInt8} (h : l.length = 6) : ∃ b0 b1 b2 b3 b4 b5, l = [b0, b1, b2, b3, b4, b5] := by
  match l, h with
  | [b0, b1, b2, b3, b4, b5], _ => exact ⟨b0, b1, b2, b3, b4, b5, rfl⟩
/-- A byte of an address. -/
def bN (l : List UInt8) (i : Nat) : Int := ((l.getD i 0).toNat : Int)
/-- Whether it is a group's. -/
def grpV (v : Bool) (l : List UInt8) : Bool := if v then (bN l 0 == 255) else (decide (224 ≤ bN l 0) && decide (bN l 0 ≤ 239))
/-- Whether it begins with 224.0.0. -/
def linkV (l : List UInt8) : Bool := decide (bN l 0 = 224 ∧ bN l 1 = 0 ∧ bN l 2 = 0)
def scpV (v : Bool) (l : List UInt8) : Int :=
  if grpV v l = false then 0 else if v then bN l 1 % 16 else if linkV l then 2 else if bN l 0 = 239 ∧ bN l 1 = 255 then 3 else if bN l 0 = 239 ∧ 192 ≤ bN l 1 ∧ bN l 1 ≤ 195 then 8 else 14
def locV (v : Bool) (l : List UInt8) : Bool := if v then (grpV v l && decide (scpV v l ≤ 2)) else linkV l
def ssmV (v : Bool) (l : List UInt8) : Bool := if v then decide (bN l 0 = 255 ∧ 48 ≤ bN l 1 ∧ bN l 1 ≤ 63 ∧ bN l 2 = 0 ∧ bN l 3 = 0) else decide (bN l 0 = 232)
theorem bcell {W w1 : World} (hb : Below W.heap.size W w1) : (∀ b o, b < W.heap.size → w1.cell? ⟨b, o, none⟩ = W.cell? ⟨b, o, none⟩) ∧ (∀ b o, b < W.heap.size → w1.frozen? ⟨b, o, none⟩ = W.frozen? ⟨b, o, none⟩) :=
  ⟨fun b o h => hb.cell (p := ⟨b, o, none⟩) h, fun b o h => hb.frozen (p := ⟨b, o, none⟩) h⟩
theorem box_keep {w w1 : World} {v : Bool} {l : List UInt8} {t : TypeId} (hb : Below (w.alloc (.cells (addrC v l).toArray t)).heap.size (w.alloc (.cells (addrC v l).toArray t)) w1) :
    w1.cell? ⟨w.heap.size, 0, none⟩ = some (.bool v) ∧ (∀ i (h : i < l.length), w1.cell? ⟨w.heap.size, 1 + i, none⟩ = some (.int .u8 ((l[i]).toNat : Int))) ∧ Below w.heap.size w w1 := by
  have hlt : w.heap.size < (w.alloc (.cells (addrC v l).toArray t)).heap.size := by simp
  refine ⟨?_, fun i h => ?_, ((Below.refl _ _).alloc (Nat.le_refl _) _).trans (hb.mono (by simp))⟩
  · rw [hb.cell (p := ⟨w.heap.size, 0, none⟩) hlt]; simp [addrC]
  · rw [hb.cell (p := ⟨w.heap.size, 1 + i, none⟩) hlt]; exact rowAt_box w v l t (0, 0) _ rfl i h
theorem link_lit (b0 b1 b2 : UInt8) (r : List UInt8) : (decide (b0 = 224) && (decide (b1 = 0) && decide (b2 = 0))) = linkV (b0 :: b1 :: b2 :: r) := by
  unfold linkV bN
  rw [Bool.eq_iff_iff]
  simp [← UInt8.toNat_inj]
  omega
theorem ret_bool {a b : Bool} (h : a = b) : Ending.returned (.bool a) = .returned (.bool b) := by rw [h]

set_option maxRecDepth 100000 in
set_option maxHeartbeats 1000000 in
theorem group_any (v : Bool) (l : List UInt8) (hl : l.length = 16) (w : World) : Calls Try.prog 68 #[.agg (addrC v l).toArray] w fun e w' => e = .returned (.bool (grpV v l)) ∧ Below w.heap.size w w' := by
  obtain ⟨b0, b1, b2, b3, b4, b5, b6, b7, b8, b9, ba, bb, bc, bd, be, bf, rfl⟩ := list16 hl
  clear hl
  show Calls Try.prog 68 #[.agg #[.bool v, .int .u8 b0.toNat, .int .u8 b1.toNat, .int .u8 b2.toNat, .int .u8 b3.toNat, .int .u8 b4.toNat, .int .u8 b5.toNat, .int .u8 b6.toNat, .int .u8 b7.toNat, .int .u8 b8.toNat, .int .u8 b9.toNat, .int .u8 ba.toNat, .int .u8 bb.toNat, .int .u8 bc.toNat, .int .u8 bd.toNat, .int .u8 be.toNat, .int .u8 bf.toNat]] w _
  cases v <;>
  · go_enter Try.func68, Try.ntmps68
    go_wp2
    all_goals
      go_ret
      exact ⟨ret_bool (by simp_all [grpV, bN] <;> omega), (Below.refl _ _).alloc (Nat.le_refl _) _⟩

theorem group_lit (v : Bool) (l : List UInt8) (hl : l.length = 16) (x : Value) (hx : x = .agg (addrC v l).toArray) (w : World) : Calls Try.prog 68 #[x] w fun e w' => e = .returned (.bool (grpV v l)) ∧ Below w.heap.size w w' := by
  subst hx; exact group_any v l hl w

theorem row_box (w : World) (v : Bool) (l : List UInt8) (hl : l.length = 16) (t : TypeId) : row? (w.alloc (.cells (addrC v l).toArray t)) w.heap.size 0 17 = some (addrC v l) := by
  have h := row?_of (w := w.alloc (.cells (addrC v l).toArray t)) (b := w.heap.size) (o := 0) (cs := addrC v l) (fun j x hj => by rw [World.cell?_alloc_mark]; simpa using hj)
  rwa [addrC_length, hl] at h

/-- The whole box and its cells behind what was made later. -/
theorem keep2 {w W w1 : World} {v : Bool} {l : List UInt8} (h0 : W.cell? ⟨w.heap.size, 0, none⟩ = some (.bool v)) (h1 : ∀ i (h : i < l.length), W.cell? ⟨w.heap.size, 1 + i, none⟩ = some (.int .u8 ((l[i]).toNat : Int))) (h2 : Below w.heap.size w W) (hlt : w.heap.size < W.heap.size) (hb : Below W.heap.size W w1) :
    w1.cell? ⟨w.heap.size, 0, none⟩ = some (.bool v) ∧ (∀ i (h : i < l.length), w1.cell? ⟨w.heap.size, 1 + i, none⟩ = some (.int .u8 ((l[i]).toNat : Int))) ∧ Below w.heap.size w w1 :=
  ⟨by rw [hb.cell (p := ⟨w.heap.size, 0, none⟩) hlt]; exact h0, fun i h => by rw [hb.cell (p := ⟨w.heap.size, 1 + i, none⟩) hlt]; exact h1 i h, bstep h2 hb⟩
/-- All that is known of a boxed address. -/
def BoxAt (w W : World) (v : Bool) (l : List UInt8) : Prop := W.cell? ⟨w.heap.size, 0, none⟩ = some (.bool v) ∧ RowAt W w.heap.size 1 l ∧ row? W w.heap.size 0 17 = some (addrC v l) ∧ w.heap.size < W.heap.size ∧ Below w.heap.size w W
theorem BoxAt.made (w : World) (v : Bool) (l : List UInt8) (hl : l.length = 16) (t : TypeId) : BoxAt w (w.alloc (.cells (addrC v l).toArray t)) v l :=
  ⟨by simp [addrC], rowAt_box w v l t (0, 0) _ rfl, row_box w v l hl t, by simp, (Below.refl _ _).alloc (Nat.le_refl _) _⟩
theorem BoxAt.keep {w W W' : World} {v : Bool} {l : List UInt8} (h : BoxAt w W v l) (hb : Below W.heap.size W W') : BoxAt w W' v l :=
  ⟨by rw [hb.cell (p := ⟨w.heap.size, 0, none⟩) h.2.2.2.1]; exact h.1, h.2.1.below h.2.2.2.1 hb, row?_below h.2.2.1 h.2.2.2.1 hb, Nat.lt_of_lt_of_le h.2.2.2.1 hb.size, bstep h.2.2.2.2 hb⟩
theorem BoxAt.drewN {w W : World} {v : Bool} {l : List UInt8} (h : BoxAt w W v l) (n : Nat) : BoxAt w (W.drewN n) v l := h.keep (bdrewN (Below.refl _ _) n)
theorem BoxAt.alloc {w W : World} {v : Bool} {l : List UInt8} (h : BoxAt w W v l) (o : Obj) : BoxAt w (W.alloc o) v l := h.keep ((Below.refl _ _).alloc (Nat.le_refl _) _)
theorem BoxAt.at {w W : World} {v : Bool} {l : List UInt8} (h : BoxAt w W v l) (i : Nat) (hi : i < l.length) : W.cell? ⟨w.heap.size, 1 + i, none⟩ = some (.int .u8 ((l[i]).toNat : Int)) := h.2.1 i hi

end Go.Proofs.Ytchbkamjmkfikaa


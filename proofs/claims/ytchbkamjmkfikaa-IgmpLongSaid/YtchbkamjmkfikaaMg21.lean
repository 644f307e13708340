/-
  Texts joined: IpB, IpC, Eth, EqE, EqI, IpR, IpG, IpU.
-/
import Derived.Test.YtchbkamjmkfikaaMg12
import Derived.Test.YtchbkamjmkfikaaMg13
import Derived.Test.YtchbkamjmkfikaaMg11
import Derived.Deep.Cut
import Derived.BigQuiet
import Derived.Deep.QuietTactic
import Derived.Test.YtchbkamjmkfikaaAgg
import Derived.Test.YtchbkamjmkfikaaMg03
import Derived.Test.YtchbkamjmkfikaaMg09
import Derived.Test.YtchbkamjmkfikaaRread
/-
  Contracts of ip4's small functions.
-/
namespace Go.Proofs.Ytchbkamjmkfikaa
open Go.RowKit
set_option linter.unusedVariables false
attribute [local go_sem ↓] ld_addr st_addr
attribute [local go_sem] ldr_addr str_addr

theorem opt_bytes (b : Bool) : (.string (Str (optL b)) : Value) = .string (if b then ⟨#[148, 4, 0, 0]⟩ else ⟨#[]⟩) := by cases b <;> rfl
theorem bits_or_i64_nat (a b : Nat) (ha : a < 9223372036854775808) (hb : b < 9223372036854775808) :
    bits .or .i64 (a : Int) (b : Int) = ((a ||| b : Nat) : Int) := by
  have hx : a ||| b < 2 ^ 63 := Nat.or_lt_two_pow (by omega) (by omega)
  have h1 : (BitVec.ofInt 64 (a : Int)).toNat = a := by
    rw [BitVec.ofInt_natCast, BitVec.toNat_ofNat]; exact Nat.mod_eq_of_lt (by omega)
  have h2 : (BitVec.ofInt 64 (b : Int)).toNat = b := by
    rw [BitVec.ofInt_natCast, BitVec.toNat_ofNat]; exact Nat.mod_eq_of_lt (by omega)
  show IntKind.i64.wrap ((BitVec.ofInt 64 (a : Int) ||| BitVec.ofInt 64 (b : Int)).toNat : Int) = _
  rw [BitVec.toNat_or, h1, h2, IntKind.wrap_i64]
  omega
/-- 'a<<8 | b' of two bytes. -/
theorem or_two (a b : Nat) (ha : a < 256) (hb : b < 256) : bits BinOp.or IntKind.i64 ((a : Int) * 256) (b : Int) = ((256 * a + b : Nat) : Int) := by
  rw [show ((a : Int) * 256) = ((a * 256 : Nat) : Int) by omega, bits_or_i64_nat _ _ (by omega) (by omega)]
  have e : a * 256 = a <<< 8 := by rw [Nat.shiftLeft_eq]
  rw [e, ← Nat.shiftLeft_add_eq_or_of_lt (by omega), Nat.shiftLeft_eq]
  omega

theorem Str_at (s : List UInt8) (i : Nat) (h : i < (Str s).size) : ((Str s)[i]).toNat = by8 s i := by
  rw [Str_size] at h
  rw [by8_get s i h]; rfl

theorem str_alert (l : List UInt8) (n : Nat) : ((Str l).extract 0 n).toList = l.take n := by
  rw [Str_extract, ByteArray.toList_eq]
  simp [Str]
end Go.Proofs.Ytchbkamjmkfikaa

/-
  Contracts of ip4's readOptions and header.
-/
namespace Go.Proofs.Ytchbkamjmkfikaa
open Go.RowKit
set_option linter.unusedVariables false
attribute [local go_sem ↓] ld_addr st_addr
attribute [local go_sem] ldr_addr str_addr

def hdS (s : List UInt8) : List UInt8 := if hdE s = 0 then s.take (hdN s) else []
end Go.Proofs.Ytchbkamjmkfikaa

/-
  A frame of Ethernet in memory, and how it is loaded and stored whole.
-/
namespace Go.Proofs.Ytchbkamjmkfikaa
open Go.RowKit
set_option linter.unusedVariables false

structure Eth where
  to : List UInt8
  fr : List UInt8
  tg : Bool
  vl : Int
  pr : Int
  ty : Int
  bd : List UInt8
def Eth.ok (e : Eth) : Prop := e.to.length = 6 ∧ e.fr.length = 6
/-- Its cells. -/
def ethC (e : Eth) : List Value := B8 e.to ++ (B8 e.fr ++ [.bool e.tg, .int .i64 e.vl, .int .i64 e.pr, .int .i64 e.ty, .string (Str e.bd)])
def Eth.good (e : Eth) : Bool := goodEV e.tg e.vl e.pr e.ty e.bd.length
def Eth.wrt (e : Eth) : List UInt8 := wrtL e.to e.fr e.tg e.vl e.pr e.ty e.bd
theorem ethC_length {e : Eth} (h : e.ok) : (ethC e).length = 17 := by
  obtain ⟨h1, h2⟩ := h
  simp [ethC, B8_length, h1, h2]
theorem ethC_one (e : Eth) : ∀ x ∈ ethC e, x.oneCell' = true := by
  intro x hx
  simp only [ethC, List.mem_append, List.mem_cons, List.not_mem_nil, or_false] at hx
  rcases hx with hx | hx | rfl | rfl | rfl | rfl | rfl
  · exact B8_one _ x hx
  · exact B8_one _ x hx
  all_goals rfl
theorem fok_eth {e : Eth} (h : e.ok) : fok (ethC e).toArray 17 = true := by
  have h1 : (ethC e).toArray.all (·.oneCell') = true := all_oneCell_toArray (ethC_one e)
  simp only [fok, h1, Bool.and_true]
  simp [ethC_length h]
end Go.Proofs.Ytchbkamjmkfikaa

/-
  A frame held against itself: a rule for the walk.
-/
namespace Go.Proofs.Ytchbkamjmkfikaa
open Go.RowKit
set_option linter.unusedVariables false

theorem eqFields_same {P : Program} (d : Nat) (xs : Array Value) (w : World) : ∀ fs : List Field, (∀ f ∈ fs, ∃ v, (part f.type xs f.offset).run P w = .ok v w ∧ (Op.equalIn d f.type v v).run P w = .ok true w) → (Op.eqFields d xs xs fs).run P w = .ok true w
  | [], _ => by simp [Op.eqFields]
  | f :: fs, h => by
    obtain ⟨v, h1, h2⟩ := h f (by simp)
    have ih := eqFields_same d xs w fs (fun g hg => h g (by simp [hg]))
    simp only [Op.eqFields, Sem.run_bind, Sem.run_ite]
    split
    · simp only [h1, h2, Result.andThen_ok, Bool.not_true, Bool.false_eq_true, if_false]
      exact ih
    · exact ih
theorem part_row {T E : TypeId} {n off : Nat} {xs cs : List Value} (hu : Try.prog.underlying T = some (.array n E)) (hz : (Try.prog.info? T).map (·.size) = some n) (he : (xs.drop off).take n = cs) (w : World) : (part T xs.toArray off).run Try.prog w = .ok (.agg cs.toArray) w := by
  obtain ⟨i, hi⟩ := info_of hu
  rw [hi] at hz
  simp at hz
  have e2 : xs.toArray.extract off (off + n) = cs.toArray := by
    apply Array.ext'
    rw [← he]
    simp [List.extract_eq_take_drop]
  simp only [part, Sem.run_bind, isAgg, run_underlying hu]
  simp [sizeOf, typeInfo, hi, hz, he]
theorem eth_parts (e : Eth) (ho : e.ok) : ((ethC e).drop 0).take 6 = B8 e.to ∧ ((ethC e).drop 6).take 6 = B8 e.fr := by
  have l1 : (B8 e.to).length = 6 := by rw [B8_length, ho.1]
  have l2 : (B8 e.fr).length = 6 := by rw [B8_length, ho.2]
  constructor
  · unfold ethC; rw [List.drop_zero, ← l1]; simp
  · have : (ethC e).drop 6 = B8 e.fr ++ [.bool e.tg, .int .i64 e.vl, .int .i64 e.pr, .int .i64 e.ty, .string (Str e.bd)] := by unfold ethC; rw [← l1]; simp
    rw [this, ← l2]; simp
theorem eth_cell (e : Eth) (ho : e.ok) (j : Nat) (x : Value) (hx : [Value.bool e.tg, .int .i64 e.vl, .int .i64 e.pr, .int .i64 e.ty, .string (Str e.bd)][j]? = some x) : (ethC e).toArray[12 + j]? = some x := by
  rw [List.getElem?_toArray]
  unfold ethC
  rw [List.getElem?_append_right (by rw [B8_length, ho.1]; omega), List.getElem?_append_right (by rw [B8_length, B8_length, ho.1, ho.2]; omega), B8_length, B8_length, ho.1, ho.2, show 12 + j - 6 - 6 = j by omega]
  exact hx
end Go.Proofs.Ytchbkamjmkfikaa

/-
  A packet held against itself: a rule for the walk.
-/
namespace Go.Proofs.Ytchbkamjmkfikaa
open Go.RowKit
set_option linter.unusedVariables false

theorem part_rows {T : TypeId} {n off : Nat} {fs : Array Field} {xs cs : List Value} (hu : Try.prog.underlying T = some (.struct fs)) (hz : (Try.prog.info? T).map (·.size) = some n) (he : (xs.drop off).take n = cs) (w : World) : (part T xs.toArray off).run Try.prog w = .ok (.agg cs.toArray) w := by
  obtain ⟨i, hi⟩ := info_of hu
  rw [hi] at hz
  simp at hz
  have e2 : xs.toArray.extract off (off + n) = cs.toArray := by
    apply Array.ext'
    rw [← he]
    simp [List.extract_eq_take_drop]
  simp only [part, Sem.run_bind, isAgg, run_underlying hu]
  simp [sizeOf, typeInfo, hi, hz, he]
theorem ip_parts (p : Ip) (ho : p.ok) : ((ipC p).drop 4).take 17 = addrC p.f6 p.fr ∧ ((ipC p).drop 21).take 17 = addrC p.t6 p.to := by
  have l1 : (addrC p.f6 p.fr).length = 17 := by rw [addrC_length, ho.1]
  have l2 : (addrC p.t6 p.to).length = 17 := by rw [addrC_length, ho.2]
  constructor
  · have : (ipC p).drop 4 = addrC p.f6 p.fr ++ (addrC p.t6 p.to ++ [.bool p.al, .string (Str p.bd)]) := rfl
    rw [this, ← l1]; simp
  · have : (ipC p).drop 21 = addrC p.t6 p.to ++ [.bool p.al, .string (Str p.bd)] := by
      rw [show (21 : Nat) = 4 + 17 from rfl, ← List.drop_drop]
      rw [show (ipC p).drop 4 = addrC p.f6 p.fr ++ (addrC p.t6 p.to ++ [.bool p.al, .string (Str p.bd)]) from rfl, ← l1]; simp
    rw [this, ← l2]; simp
theorem ip_cell (p : Ip) (j : Nat) (x : Value) (hx : [Value.int .i64 p.tos, .int .i64 p.id, .int .i64 p.ttl, .int .i64 p.pro][j]? = some x) : (ipC p).toArray[j]? = some x := by
  have hj : j < 4 := (List.getElem?_eq_some_iff.1 hx).1
  rw [List.getElem?_toArray]
  unfold ipC
  rw [List.getElem?_append_left hj]
  exact hx
theorem ip_cell2 (p : Ip) (ho : p.ok) (j : Nat) (x : Value) (hx : [Value.bool p.al, .string (Str p.bd)][j]? = some x) : (ipC p).toArray[38 + j]? = some x := by
  rw [List.getElem?_toArray]
  unfold ipC
  rw [List.getElem?_append_right (by simp; omega), List.getElem?_append_right (by simp [addrC_length, ho.1]; omega), List.getElem?_append_right (by simp [addrC_length, ho.1, ho.2]; omega)]
  simp only [List.length_cons, List.length_nil, addrC_length, ho.1, ho.2]
  rw [show 38 + j - (0 + 1 + 1 + 1 + 1) - (16 + 1) - (16 + 1) = j by omega]
  exact hx
end Go.Proofs.Ytchbkamjmkfikaa

/-
  The contract of ip4.Read.
-/
namespace Go.Proofs.Ytchbkamjmkfikaa
open Go.RowKit
set_option linter.unusedVariables false
attribute [local go_sem ↓] ld_addr st_addr
attribute [local go_sem] ldr_addr str_addr

theorem zeroI_cells : (ipC zeroI).toArray = #[.int .i64 0, .int .i64 0, .int .i64 0, .int .i64 0, .bool false, .int .u8 0, .int .u8 0, .int .u8 0, .int .u8 0, .int .u8 0, .int .u8 0, .int .u8 0, .int .u8 0, .int .u8 0, .int .u8 0, .int .u8 0, .int .u8 0, .int .u8 0, .int .u8 0, .int .u8 0, .int .u8 0, .bool false, .int .u8 0, .int .u8 0, .int .u8 0, .int .u8 0, .int .u8 0, .int .u8 0, .int .u8 0, .int .u8 0, .int .u8 0, .int .u8 0, .int .u8 0, .int .u8 0, .int .u8 0, .int .u8 0, .int .u8 0, .int .u8 0, .bool false, .string ⟨#[]⟩] := rfl
theorem ipOf_cells (s : List UInt8) (h : 20 ≤ s.length) : (ipC (ipOf s)).toArray = #[.int .i64 (by8 s 1 : Int), .int .i64 (wd s 4 : Int), .int .i64 (by8 s 8 : Int), .int .i64 (by8 s 9 : Int), .bool false, .int .u8 (by8 s 12 : Int), .int .u8 (by8 s 13 : Int), .int .u8 (by8 s 14 : Int), .int .u8 (by8 s 15 : Int), .int .u8 0, .int .u8 0, .int .u8 0, .int .u8 0, .int .u8 0, .int .u8 0, .int .u8 0, .int .u8 0, .int .u8 0, .int .u8 0, .int .u8 0, .int .u8 0, .bool false, .int .u8 (by8 s 16 : Int), .int .u8 (by8 s 17 : Int), .int .u8 (by8 s 18 : Int), .int .u8 (by8 s 19 : Int), .int .u8 0, .int .u8 0, .int .u8 0, .int .u8 0, .int .u8 0, .int .u8 0, .int .u8 0, .int .u8 0, .int .u8 0, .int .u8 0, .int .u8 0, .int .u8 0, .bool (optS s).1, .string (Str ((s.drop (hdN s)).take (allN s - hdN s)))] := by
  obtain ⟨al, hal⟩ : ∃ al, al = (optS s).1 := ⟨_, rfl⟩
  obtain ⟨bd, hbd⟩ : ∃ bd, bd = (s.drop (hdN s)).take (allN s - hdN s) := ⟨_, rfl⟩
  obtain ⟨w4, hw4⟩ : ∃ w4, w4 = wd s 4 := ⟨_, rfl⟩
  unfold ipOf
  rw [← hal, ← hbd, ← hw4]
  clear hal hbd hw4
  have l12 : (s.drop 12).take 4 = [s[12], s[13], s[14], s[15]] := by
    rw [List.drop_eq_getElem_cons (show 12 < s.length by omega), List.drop_eq_getElem_cons (show 13 < s.length by omega), List.drop_eq_getElem_cons (show 14 < s.length by omega), List.drop_eq_getElem_cons (show 15 < s.length by omega)]
    rfl
  have l16 : (s.drop 16).take 4 = [s[16], s[17], s[18], s[19]] := by
    rw [List.drop_eq_getElem_cons (show 16 < s.length by omega), List.drop_eq_getElem_cons (show 17 < s.length by omega), List.drop_eq_getElem_cons (show 18 < s.length by omega), List.drop_eq_getElem_cons (show 19 < s.length by omega)]
    rfl
  rw [l12, l16, by8_get s 12 (by omega), by8_get s 13 (by omega), by8_get s 14 (by omega), by8_get s 15 (by omega), by8_get s 16 (by omega), by8_get s 17 (by omega), by8_get s 18 (by omega), by8_get s 19 (by omega)]
  rfl
theorem bits_and_i64_nat (a b : Nat) (ha : a < 9223372036854775808) (hb : b < 9223372036854775808) :
    bits .and .i64 (a : Int) (b : Int) = ((a &&& b : Nat) : Int) := by
  have hx : a &&& b < 2 ^ 63 := Nat.and_lt_two_pow _ (by omega)
  have h1 : (BitVec.ofInt 64 (a : Int)).toNat = a := by
    rw [BitVec.ofInt_natCast, BitVec.toNat_ofNat]; exact Nat.mod_eq_of_lt (by omega)
  have h2 : (BitVec.ofInt 64 (b : Int)).toNat = b := by
    rw [BitVec.ofInt_natCast, BitVec.toNat_ofNat]; exact Nat.mod_eq_of_lt (by omega)
  show IntKind.i64.wrap ((BitVec.ofInt 64 (a : Int) &&& BitVec.ofInt 64 (b : Int)).toNat : Int) = _
  rw [BitVec.toNat_and, h1, h2, IntKind.wrap_i64]
  omega
theorem and_frag (a : Nat) (ha : a < 65536) : bits .and .i64 (a : Int) 16383 = ((a % 16384 : Nat) : Int) := by
  rw [show (16383 : Int) = ((16383 : Nat) : Int) from rfl, bits_and_i64_nat _ _ (by omega) (by omega), show (16383 : Nat) = 2 ^ 14 - 1 from rfl, Nat.and_two_pow_sub_one_eq_mod]

end Go.Proofs.Ytchbkamjmkfikaa

/-
  The document's own Alert.
-/
namespace Go.Proofs.Ytchbkamjmkfikaa
open Go.RowKit
set_option linter.unusedVariables false

theorem drop_cons2 {s : List UInt8} {i : Nat} (h : i + 1 < s.length) : s.drop i = s[i] :: s[i + 1] :: s.drop (i + 2) := by
  rw [List.drop_eq_getElem_cons (show i < s.length by omega), List.drop_eq_getElem_cons h]
theorem by8_drop (s : List UInt8) (i j : Nat) : by8 (s.drop i) j = by8 s (i + j) := by
  unfold by8
  rw [List.getD_eq_getElem?_getD, List.getD_eq_getElem?_getD, List.getElem?_drop]
theorem alert_eq (l : List UInt8) (h : 4 ≤ l.length) : decide (l.take 4 = alertL) = decide (by8 l 0 = 148 ∧ by8 l 1 = 4 ∧ by8 l 2 = 0 ∧ by8 l 3 = 0) := by
  rw [decide_eq_decide, alert_of h, by8_get l 0 (by omega), by8_get l 1 (by omega), by8_get l 2 (by omega), by8_get l 3 (by omega)]

end Go.Proofs.Ytchbkamjmkfikaa

/-
  The document's own reading of a packet: what is wrong.
-/
namespace Go.Proofs.Ytchbkamjmkfikaa
open Go.RowKit
set_option linter.unusedVariables false
attribute [local go_sem ↓] ld_addr st_addr
attribute [local go_sem] ldr_addr str_addr

theorem rnum3 (s : List UInt8) (hs : s.length ≤ 100000) (a b : Nat) (w : World) : Calls Try.prog 60 #[.string ((Str s).extract a b)] w fun x w' => x = .returned (.int .u64 (num ((s.drop a).take (b - a)))) ∧ w' = w := by
  have h := rnum_any ((Str s).extract a b) (by unfold maxLen; rw [Str_extract, Str_size]; simp; omega) w
  rw [Str_extract] at h ⊢
  exact h.mono fun x w' h => ⟨h.1, h.2.symm⟩

theorem lt_zero {s : List UInt8} (h : (0 : Int) < (s.length : Int)) : 0 < (Str s).size := by rw [Str_size]; omega

end Go.Proofs.Ytchbkamjmkfikaa


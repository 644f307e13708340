/-
  Texts joined: IpA, IpW, PureEth.
-/
import Derived.Test.YtchbkamjmkfikaaMg09
import Derived.Test.YtchbkamjmkfikaaMg07
import Derived.Test.YtchbkamjmkfikaaMg08
import Derived.Test.YtchbkamjmkfikaaMg11
import Derived.Deep.RegionHeld3
import Derived.Deep.Cut
import Derived.Test.YtchbkamjmkfikaaMg10
import Derived.Test.YtchbkamjmkfikaaMg00
/-
  The document's own Good of a packet of IPv4, its numbers as bytes, and its bytes.
-/
namespace Go.Proofs.Ytchbkamjmkfikaa
open Go.RowKit
set_option linter.unusedVariables false
attribute [local go_sem ↓] ld_addr st_addr
attribute [local go_sem] ldr_addr str_addr

def Ip.nums (p : Ip) : Bool := decide (0 ≤ p.tos ∧ p.tos ≤ 255 ∧ 0 ≤ p.ttl ∧ p.ttl ≤ 255 ∧ 0 ≤ p.pro ∧ p.pro ≤ 255 ∧ 0 ≤ p.id ∧ p.id ≤ 65535)
def Ip.good (p : Ip) : Bool := p.nums && (!p.f6 && (!p.t6 && (goodV p.f6 p.fr && (goodV p.t6 p.to && decide (p.bd.length ≤ 1400)))))

end Go.Proofs.Ytchbkamjmkfikaa

/-
  The document's own bytes of a packet of IPv4.
-/
namespace Go.Proofs.Ytchbkamjmkfikaa
open Go.RowKit
set_option linter.unusedVariables false
attribute [local go_sem ↓] ld_addr st_addr
attribute [local go_sem] ldr_addr str_addr

def optL (al : Bool) : List UInt8 := if al then [148, 4, 0, 0] else []
/-- The header ahead of its check, and behind it. -/
def Ip.ha (p : Ip) : List UInt8 := putL (69 + (optL p.al).length / 4) 1 ++ (putL p.tos.toNat 1 ++ (putL (20 + (optL p.al).length + p.bd.length) 2 ++ (putL p.id.toNat 2 ++ (putL 0 2 ++ (putL p.ttl.toNat 1 ++ putL p.pro.toNat 1)))))
def Ip.hb (p : Ip) : List UInt8 := p.fr.take 4 ++ (p.to.take 4 ++ optL p.al)
def Ip.chk (p : Ip) : Nat := 65535 - foldN (wsum (p.ha ++ p.hb))
def Ip.wrt (p : Ip) : List UInt8 := p.ha ++ (putL p.chk 2 ++ (p.hb ++ p.bd))
theorem Ip.ha_length (p : Ip) : p.ha.length = 10 := by unfold Ip.ha; simp [putL_length]
theorem Ip.hb_length (p : Ip) (ho : p.ok) : p.hb.length = 8 + (if p.al then 4 else 0) := by unfold Ip.hb optL; cases p.al <;> simp [ho.1, ho.2]

end Go.Proofs.Ytchbkamjmkfikaa

/-
  Frames of Ethernet as plain data: their bytes, which are good, what bytes are. Nothing of the program.
-/
namespace Go.Proofs.Ytchbkamjmkfikaa
open Go.RowKit
set_option linter.unusedVariables false

def goodTyV (k : Int) : Bool := decide (1536 ≤ k ∧ k ≤ 65535 ∧ k ≠ 33024)
def goodTgV (tg : Bool) (v p : Int) : Bool := if tg then decide (0 ≤ v ∧ v ≤ 4094 ∧ 0 ≤ p ∧ p ≤ 7) else decide (v = 0 ∧ p = 0)
def goodEV (tg : Bool) (v p k : Int) (n : Nat) : Bool := goodTyV k && (goodTgV tg v p && decide (n ≤ 1500))
/-- The tag's bytes. -/
def tagL (tg : Bool) (v p : Int) : List UInt8 := if tg then 129 :: 0 :: putL (8192 * p + v).toNat 2 else []
/-- A frame's bytes. -/
def wrtL (t f : List UInt8) (tg : Bool) (v p k : Int) (b : List UInt8) : List UInt8 := t ++ (f ++ (tagL tg v p ++ (putL k.toNat 2 ++ b)))
theorem tagL_length (tg : Bool) (v p : Int) : (tagL tg v p).length = if tg then 4 else 0 := by
  cases tg <;> simp [tagL, putL_length]
theorem wrtL_length (t f : List UInt8) (tg : Bool) (v p k : Int) (b : List UInt8) (ht : t.length = 6) (hf : f.length = 6) : (wrtL t f tg v p k b).length = 14 + (if tg then 4 else 0) + b.length := by
  unfold wrtL; simp [tagL_length, putL_length, ht, hf]; omega

/-- The word of a tag. -/
theorem setN_tag (v p : Nat) (hv : v < 8192) (hp : p ≤ 7) : setN v 13 3 p = 8192 * p + v := by
  apply Nat.eq_of_testBit_eq
  intro i
  by_cases hi : i < 64
  · rw [testBit_setN _ _ _ _ _ hi, show 8192 * p + v = 2 ^ 13 * p + v from rfl, Nat.testBit_two_pow_mul_add _ (show v < 2 ^ 13 by omega)]
    by_cases h : i < 13
    · rw [if_neg (by omega), if_pos h]
    · rw [if_neg h]
      by_cases h2 : i - 13 < 3
      · rw [if_pos (by omega)]
      · rw [if_neg (by omega), Nat.testBit_lt_two_pow (Nat.lt_of_lt_of_le (show v < 2 ^ 13 by omega) (Nat.pow_le_pow_right (by omega) (by omega))), Nat.testBit_lt_two_pow (Nat.lt_of_lt_of_le (show p < 2 ^ 3 by omega) (Nat.pow_le_pow_right (by omega) (by omega)))]
  · have h1 := setN_lt v 13 3 p (by omega)
    rw [Nat.testBit_lt_two_pow (Nat.lt_of_lt_of_le h1 (show (2 : Nat) ^ 64 ≤ 2 ^ i from Nat.pow_le_pow_right (by omega) (by omega))), Nat.testBit_lt_two_pow (Nat.lt_of_lt_of_le (show 8192 * p + v < 2 ^ 64 by omega) (Nat.pow_le_pow_right (by omega) (by omega)))]

/-- What is wrong of bytes. -/
def whyV (s : List UInt8) : Int :=
  if s.length < 14 then 3
  else if num ((s.drop 12).take 2) = 33024 then
    if s.length < 18 then 3
    else if num ((s.drop 14).take 2) / 4096 % 2 = 1 ∨ num ((s.drop 14).take 2) % 4096 = 4095 then 5
    else if num ((s.drop 16).take 2) = 33024 ∨ num ((s.drop 16).take 2) < 1536 then 5
    else if 1500 < s.length - 18 then 6 else 0
  else if num ((s.drop 12).take 2) < 1536 then 5
  else if 1500 < s.length - 14 then 6 else 0
/-- The parts of good bytes. -/
def tgV (s : List UInt8) : Bool := decide (num ((s.drop 12).take 2) = 33024)
def vlV (s : List UInt8) : Int := if tgV s then ((num ((s.drop 14).take 2) % 4096 : Nat) : Int) else 0
def prV (s : List UInt8) : Int := if tgV s then ((num ((s.drop 14).take 2) / 8192 : Nat) : Int) else 0
def tyV (s : List UInt8) : Int := if tgV s then ((num ((s.drop 16).take 2) : Nat) : Int) else ((num ((s.drop 12).take 2) : Nat) : Int)
def bdV (s : List UInt8) : List UInt8 := if tgV s then s.drop 18 else s.drop 14

theorem two_of {x : List UInt8} (h : x.length = 2) : ∃ a b, x = [a, b] := by
  match x, h with
  | [a, b], _ => exact ⟨a, b, rfl⟩
theorem num_two (a b : UInt8) : num [a, b] = a.toNat * 256 + b.toNat := by
  have h1 := a.toNat_lt; have h2 := b.toNat_lt
  simp [num]; omega
theorem num2_lt {x : List UInt8} (h : x.length = 2) : num x < 65536 := by
  obtain ⟨a, b, rfl⟩ := two_of h
  have h1 := a.toNat_lt; have h2 := b.toNat_lt
  rw [num_two]; omega
theorem putL_num2 {x : List UInt8} (h : x.length = 2) : putL (num x) 2 = x := by
  obtain ⟨a, b, rfl⟩ := two_of h
  have h1 := a.toNat_lt; have h2 := b.toNat_lt
  rw [num_two]
  simp only [putL, List.cons.injEq, and_true]
  constructor
  · apply UInt8.toNat_inj.1; rw [UInt8.toNat_ofNat']; omega
  · apply UInt8.toNat_inj.1; rw [UInt8.toNat_ofNat']; omega
theorem num2_putL (n : Nat) (h : n < 65536) : num (putL n 2) = n := by
  rw [num_putL n 2 (by omega)]; omega

theorem take2_length {s : List UInt8} {a : Nat} (h : a + 2 ≤ s.length) : ((s.drop a).take 2).length = 2 := by simp; omega
theorem split2 (s : List UInt8) (a : Nat) : s.drop a = (s.drop a).take 2 ++ s.drop (a + 2) := by
  rw [← List.drop_drop]; exact (List.take_append_drop 2 _).symm
/-- Good bytes are those of their parts. -/
theorem wrt_parts {s : List UInt8} (h : whyV s = 0) : 14 ≤ s.length ∧ wrtL (s.take 6) ((s.drop 6).take 6) (tgV s) (vlV s) (prV s) (tyV s) (bdV s) = s ∧ goodEV (tgV s) (vlV s) (prV s) (tyV s) (bdV s).length = true := by
  unfold whyV at h
  split at h
  · omega
  rename_i h14
  refine ⟨by omega, ?_⟩
  have e0 : s = s.take 6 ++ ((s.drop 6).take 6 ++ s.drop 12) := by
    rw [show s.drop 12 = (s.drop 6).drop 6 by rw [List.drop_drop], List.take_append_drop, List.take_append_drop]
  have l0 := take2_length (s := s) (a := 12) (by omega)
  have n0 := num2_lt l0
  split at h
  · rename_i hk
    have ht : tgV s = true := by unfold tgV; exact decide_eq_true hk
    split at h
    · omega
    rename_i h18
    split at h
    · omega
    rename_i hw
    split at h
    · omega
    rename_i hk2
    split at h
    · omega
    rename_i hb
    have l1 := take2_length (s := s) (a := 14) (by omega)
    have n1 := num2_lt l1
    have l2 := take2_length (s := s) (a := 16) (by omega)
    have n2 := num2_lt l2
    constructor
    · have ev : (8192 * prV s + vlV s).toNat = num ((s.drop 14).take 2) := by
        unfold prV vlV; rw [if_pos ht, if_pos ht]; omega
      have ek : (tyV s).toNat = num ((s.drop 16).take 2) := by unfold tyV; rw [if_pos ht]; omega
      have p0 : (s.drop 12).take 2 = [129, 0] := by
        rw [← putL_num2 l0, hk]; decide
      unfold wrtL tagL bdV
      rw [ht, if_pos rfl, if_pos rfl, ev, ek, putL_num2 l1, putL_num2 l2]
      conv => rhs; rw [e0, split2 s 12, split2 s 14, split2 s 16, p0]
      simp
    · unfold goodEV goodTyV goodTgV tyV vlV prV bdV
      rw [ht]
      simp
      omega
  · rename_i hk
    have ht : tgV s = false := by unfold tgV; exact decide_eq_false hk
    split at h
    · omega
    rename_i hk2
    split at h
    · omega
    rename_i hb
    constructor
    · have ek : (tyV s).toNat = num ((s.drop 12).take 2) := by unfold tyV; rw [if_neg (by simp [ht])]; omega
      unfold wrtL tagL bdV
      rw [ht, if_neg (by simp), if_neg (by simp), ek, putL_num2 l0]
      conv => rhs; rw [e0, split2 s 12]
      simp
    · unfold goodEV goodTyV goodTgV tyV vlV prV bdV
      rw [ht]
      simp
      omega
theorem drop_app {x y : List UInt8} {n : Nat} (h : x.length = n) : (x ++ y).drop n = y := by subst h; simp
theorem take_app {x y : List UInt8} {n : Nat} (h : x.length = n) : (x ++ y).take n = x := by subst h; simp
/-- What the bytes of a frame are, good but for the length of its body. -/
theorem parts_wrt (t f : List UInt8) (tg : Bool) (v p k : Int) (b : List UInt8) (ht : t.length = 6) (hf : f.length = 6) (h1 : goodTyV k = true) (h2 : goodTgV tg v p = true) :
    whyV (wrtL t f tg v p k b) = (if b.length ≤ 1500 then 0 else 6) ∧ (wrtL t f tg v p k b).take 6 = t ∧ ((wrtL t f tg v p k b).drop 6).take 6 = f ∧
    tgV (wrtL t f tg v p k b) = tg ∧ vlV (wrtL t f tg v p k b) = v ∧ prV (wrtL t f tg v p k b) = p ∧ tyV (wrtL t f tg v p k b) = k ∧ bdV (wrtL t f tg v p k b) = b := by
  have hlen := wrtL_length t f tg v p k b ht hf
  unfold goodTyV at h1
  rw [decide_eq_true_eq] at h1
  have e1 : (wrtL t f tg v p k b).take 6 = t := by unfold wrtL; rw [← ht]; simp
  have d1 : (wrtL t f tg v p k b).drop 6 = f ++ (tagL tg v p ++ (putL k.toNat 2 ++ b)) := by unfold wrtL; rw [← ht]; simp
  have e2 : ((wrtL t f tg v p k b).drop 6).take 6 = f := by rw [d1, ← hf]; simp
  have d2 : (wrtL t f tg v p k b).drop 12 = tagL tg v p ++ (putL k.toNat 2 ++ b) := by
    rw [show (12 : Nat) = 6 + 6 from rfl, ← List.drop_drop, d1]
    exact drop_app hf
  have hk2 := num2_putL k.toNat (by omega)
  have hk3 := putL_length k.toNat 2
  cases tg with
  | true =>
    simp only [goodTgV, if_true, decide_eq_true_eq] at h2
    simp only [if_true] at hlen
    have hw2 := num2_putL (8192 * p + v).toNat (by omega)
    have hw3 := putL_length (8192 * p + v).toNat 2
    have d2' : (wrtL t f true v p k b).drop 12 = [129, 0] ++ (putL (8192 * p + v).toNat 2 ++ (putL k.toNat 2 ++ b)) := by rw [d2]; simp [tagL]
    have d3 : (wrtL t f true v p k b).drop 14 = putL (8192 * p + v).toNat 2 ++ (putL k.toNat 2 ++ b) := by
      rw [show (14 : Nat) = 12 + 2 from rfl, ← List.drop_drop, d2']; rfl
    have d4 : (wrtL t f true v p k b).drop 16 = putL k.toNat 2 ++ b := by
      rw [show (16 : Nat) = 14 + 2 from rfl, ← List.drop_drop, d3]
      exact drop_app hw3
    have d5 : (wrtL t f true v p k b).drop 18 = b := by
      rw [show (18 : Nat) = 16 + 2 from rfl, ← List.drop_drop, d4]
      exact drop_app hk3
    have n0 : num (((wrtL t f true v p k b).drop 12).take 2) = 33024 := by rw [d2', take_app (by rfl)]; decide
    have n1 : num (((wrtL t f true v p k b).drop 14).take 2) = (8192 * p + v).toNat := by
      rw [d3, take_app hw3, hw2]
    have n2 : num (((wrtL t f true v p k b).drop 16).take 2) = k.toNat := by
      rw [d4, take_app hk3, hk2]
    have et : tgV (wrtL t f true v p k b) = true := by unfold tgV; exact decide_eq_true n0
    refine ⟨?_, e1, e2, et, ?_, ?_, ?_, ?_⟩
    · unfold whyV
      rw [n0, n1, n2, if_neg (by omega), if_pos rfl, if_neg (by omega), if_neg (by omega), if_neg (by omega)]
      split <;> split <;> omega
    · unfold vlV; rw [et, n1, if_pos rfl]; omega
    · unfold prV; rw [et, n1, if_pos rfl]; omega
    · unfold tyV; rw [et, n2, if_pos rfl]; omega
    · unfold bdV; rw [et, if_pos rfl]; exact d5
  | false =>
    simp only [goodTgV, Bool.false_eq_true, if_false, decide_eq_true_eq] at h2
    simp only [Bool.false_eq_true, if_false] at hlen
    have d2' : (wrtL t f false v p k b).drop 12 = putL k.toNat 2 ++ b := by rw [d2]; simp [tagL]
    have d3 : (wrtL t f false v p k b).drop 14 = b := by
      rw [show (14 : Nat) = 12 + 2 from rfl, ← List.drop_drop, d2']
      exact drop_app hk3
    have n0 : num (((wrtL t f false v p k b).drop 12).take 2) = k.toNat := by
      rw [d2', take_app hk3, hk2]
    have et : tgV (wrtL t f false v p k b) = false := by unfold tgV; exact decide_eq_false (by rw [n0]; omega)
    refine ⟨?_, e1, e2, et, ?_, ?_, ?_, ?_⟩
    · unfold whyV
      rw [n0, if_neg (by omega), if_neg (by omega), if_neg (by omega)]
      split <;> split <;> omega
    · unfold vlV; rw [et]; simp; omega
    · unfold prV; rw [et]; simp; omega
    · unfold tyV; rw [et, n0]; simp; omega
    · unfold bdV; rw [et]; simpa using d3
end Go.Proofs.Ytchbkamjmkfikaa


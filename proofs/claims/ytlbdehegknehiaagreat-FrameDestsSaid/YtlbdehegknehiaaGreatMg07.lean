/-
  Texts joined: Refb, IpA, IpW, PureEth, PureIp, IpP, PureTk, PureMd, MdA.
-/
import Derived.Test.YtlbdehegknehiaaGreatMg03
import Derived.Test.YtlbdehegknehiaaGreatMg06
import Derived.Test.YtlbdehegknehiaaGreatMg00
import Derived.Test.YtlbdehegknehiaaGreatIp
import Derived.Deep.RegionHeld3
import Derived.Deep.Cut
import Derived.Test.YtlbdehegknehiaaGreatMg04
/- A part of the proof. -/
namespace Go.Proofs.YtlbdehegknehiaaGreat
open Go.RowKit
set_option linter.unusedVariables false
theorem own_lit (w : World) (cs : Array Value) (e : TypeId) (n g d : Nat) (hg : g = w.heap.size) (hm : n ≤ 1000000) (hs : cs.size = n) : ((w.alloc (.cells cs e)).drewN d).ownsRow 0 e 1 (.slice (some ⟨g, 0, none⟩) n n) n cs.toList := by
  subst hg
  exact World.ownsRow_lit w cs n (Nat.zero_le _) (by unfold maxLen; omega) (by omega)
theorem own_lit0 (w : World) (cs : Array Value) (e : TypeId) (n g : Nat) (hg : g = w.heap.size) (hm : n ≤ 1000000) (hs : cs.size = n) : (w.alloc (.cells cs e)).ownsRow 0 e 1 (.slice (some ⟨g, 0, none⟩) n n) n cs.toList := own_lit w cs e n g 0 hg hm hs
end Go.Proofs.YtlbdehegknehiaaGreat

/- A part of the proof. -/
namespace Go.Proofs.YtlbdehegknehiaaGreat
open Go.RowKit
set_option linter.unusedVariables false
attribute [local go_sem ↓] bld_ip ld_ip st_ip ld_addr st_addr
attribute [local go_sem] ldr_ip str_ip ldr_addr str_addr
def Ip.nums (p : Ip) : Bool := decide (0 ≤ p.tos ∧ p.tos ≤ 255 ∧ 0 ≤ p.ttl ∧ p.ttl ≤ 255 ∧ 0 ≤ p.pro ∧ p.pro ≤ 255 ∧ 0 ≤ p.id ∧ p.id ≤ 65535)
def Ip.good (p : Ip) : Bool := p.nums && (!p.f6 && (!p.t6 && (goodV p.f6 p.fr && (goodV p.t6 p.to && decide (p.bd.length ≤ 1400)))))
end Go.Proofs.YtlbdehegknehiaaGreat

/- A part of the proof. -/
namespace Go.Proofs.YtlbdehegknehiaaGreat
open Go.RowKit
set_option linter.unusedVariables false
attribute [local go_sem ↓] bld_ip ld_ip st_ip ld_addr st_addr
attribute [local go_sem] ldr_ip str_ip ldr_addr str_addr
def optL (al : Bool) : List UInt8 := if al then [148, 4, 0, 0] else []
def Ip.ha (p : Ip) : List UInt8 := putL (69 + (optL p.al).length / 4) 1 ++ (putL p.tos.toNat 1 ++ (putL (20 + (optL p.al).length + p.bd.length) 2 ++ (putL p.id.toNat 2 ++ (putL 0 2 ++ (putL p.ttl.toNat 1 ++ putL p.pro.toNat 1)))))
def Ip.hb (p : Ip) : List UInt8 := p.fr.take 4 ++ (p.to.take 4 ++ optL p.al)
def Ip.chk (p : Ip) : Nat := 65535 - foldN (wsum (p.ha ++ p.hb))
def Ip.wrt (p : Ip) : List UInt8 := p.ha ++ (putL p.chk 2 ++ (p.hb ++ p.bd))
theorem Ip.ha_length (p : Ip) : p.ha.length = 10 := by unfold Ip.ha; simp [putL_length]
theorem Ip.hb_length (p : Ip) (ho : p.ok) : p.hb.length = 8 + (if p.al then 4 else 0) := by unfold Ip.hb optL; cases p.al <;> simp [ho.1, ho.2]
end Go.Proofs.YtlbdehegknehiaaGreat

/- A part of the proof. -/
namespace Go.Proofs.YtlbdehegknehiaaGreat
open Go.RowKit
set_option linter.unusedVariables false
def goodTyV (k : Int) : Bool := decide (1536 ≤ k ∧ k ≤ 65535 ∧ k ≠ 33024)
def goodTgV (tg : Bool) (v p : Int) : Bool := if tg then decide (0 ≤ v ∧ v ≤ 4094 ∧ 0 ≤ p ∧ p ≤ 7) else decide (v = 0 ∧ p = 0)
def goodEV (tg : Bool) (v p k : Int) (n : Nat) : Bool := goodTyV k && (goodTgV tg v p && decide (n ≤ 1500))
def tagL (tg : Bool) (v p : Int) : List UInt8 := if tg then 129 :: 0 :: putL (8192 * p + v).toNat 2 else []
def wrtL (t f : List UInt8) (tg : Bool) (v p k : Int) (b : List UInt8) : List UInt8 := t ++ (f ++ (tagL tg v p ++ (putL k.toNat 2 ++ b)))
theorem tagL_length (tg : Bool) (v p : Int) : (tagL tg v p).length = if tg then 4 else 0 := by
  cases tg <;> simp [tagL, putL_length]
theorem setN_tag (v p : Nat) (hv : v < 8192) (hp : p ≤ 7) : setN v 13 3 p = 8192 * p + v := by
  apply Nat.eq_of_testBit_eq
  intro i
  by_cases hi : i < 64
  · rw [testBit_setN _ _ _ _ _ hi, show 8192 * p + v = 2 ^ 13 * p + v from rfl, Nat.testBit_two_pow_mul_add _ (show v < 2 ^ 13 by omega)]
    by_cases h : i < 13
    · rw [if_neg (by omega), if_pos h]
    · rw [if_neg h]
      by_cases h2 : i - 13 < 3
      · rw [if_pos (by omega)]
      · rw [if_neg (by omega), Nat.testBit_lt_two_pow (Nat.lt_of_lt_of_le (show v < 2 ^ 13 by omega) (Nat.pow_le_pow_right (by omega) (by omega))), Nat.testBit_lt_two_pow (Nat.lt_of_lt_of_le (show p < 2 ^ 3 by omega) (Nat.pow_le_pow_right (by omega) (by omega)))]
  · have h1 := setN_lt v 13 3 p (by omega)
    rw [Nat.testBit_lt_two_pow (Nat.lt_of_lt_of_le h1 (show (2 : Nat) ^ 64 ≤ 2 ^ i from Nat.pow_le_pow_right (by omega) (by omega))), Nat.testBit_lt_two_pow (Nat.lt_of_lt_of_le (show 8192 * p + v < 2 ^ 64 by omega) (Nat.pow_le_pow_right (by omega) (by omega)))]
def whyV (s : List UInt8) : Int :=
  if s.length < 14 then 3
  else if num ((s.drop 12).take 2) = 33024 then
    if s.length < 18 then 3
    else if num ((s.drop 14).take 2) / 4096 % 2 = 1 ∨ num ((s.drop 14).take 2) % 4096 = 4095 then 5
    else if num ((s.drop 16).take 2) = 33024 ∨ num ((s.drop 16).take 2) < 1536 then 5
    else if 1500 < s.length - 18 then 6 else 0
  else if num ((s.drop 12).take 2) < 1536 then 5
  else if 1500 < s.length - 14 then 6 else 0
def tgV (s : List UInt8) : Bool := decide (num ((s.drop 12).take 2) = 33024)
def vlV (s : List UInt8) : Int := if tgV s then ((num ((s.drop 14).take 2) % 4096 : Nat) : Int) else 0
def prV (s : List UInt8) : Int := if tgV s then ((num ((s.drop 14).take 2) / 8192 : Nat) : Int) else 0
def tyV (s : List UInt8) : Int := if tgV s then ((num ((s.drop 16).take 2) : Nat) : Int) else ((num ((s.drop 12).take 2) : Nat) : Int)
def bdV (s : List UInt8) : List UInt8 := if tgV s then s.drop 18 else s.drop 14
theorem two_of {x : List UInt8} (h : x.length = 2) : ∃ a b, x = [a, b] := by
  match x, h with
  | [a, b], _ => exact ⟨a, b, rfl⟩
theorem num_two (a b : UInt8) : num [a, b] = a.toNat * 256 + b.toNat := by
  have h1 := a.toNat_lt; have h2 := b.toNat_lt
  simp [num]; omega
theorem num2_lt {x : List UInt8} (h : x.length = 2) : num x < 65536 := by
  obtain ⟨a, b, rfl⟩ := two_of h
  have h1 := a.toNat_lt; have h2 := b.toNat_lt
  rw [num_two]; omega
theorem take2_length {s : List UInt8} {a : Nat} (h : a + 2 ≤ s.length) : ((s.drop a).take 2).length = 2 := by simp; omega
end Go.Proofs.YtlbdehegknehiaaGreat

/- A part of the proof. -/
namespace Go.Proofs.YtlbdehegknehiaaGreat
open Go.RowKit
set_option linter.unusedVariables false
def alertL : List UInt8 := [148, 4, 0, 0]
def optV : Nat → Bool → List UInt8 → Bool × Bool
  | 0, is, _ => (is, true)
  | _ + 1, is, [] => (is, true)
  | f + 1, is, b :: r =>
    if b.toNat = 0 then (is, true)
    else if b.toNat = 1 then optV f is r
    else match r with
      | [] => (false, false)
      | n :: r' => if n.toNat < 2 ∨ r'.length + 2 < n.toNat then (false, false) else optV f (is || decide ((b :: n :: r').take n.toNat = alertL)) ((b :: n :: r').drop n.toNat)
def optR (is : Bool) (l : List UInt8) : Bool × Bool := optV l.length is l
theorem optV_enough : ∀ (f g : Nat) (is : Bool) (l : List UInt8), l.length ≤ f → l.length ≤ g → optV f is l = optV g is l := by
  intro f
  induction f with
  | zero =>
    intro g is l h1 h2
    have : l = [] := List.eq_nil_of_length_eq_zero (by omega)
    subst this
    cases g <;> rfl
  | succ f ih =>
    intro g is l h1 h2
    cases l with
    | nil => cases g <;> rfl
    | cons b r =>
      cases g with
      | zero => simp at h2
      | succ g =>
        simp only [List.length_cons] at h1 h2
        unfold optV
        split
        · rfl
        · split
          · exact ih g is r (by omega) (by omega)
          · cases r with
            | nil => rfl
            | cons n r' =>
              simp only [List.length_cons] at h1 h2
              simp only
              split
              · rfl
              · apply ih <;> simp only [List.length_drop, List.length_cons] <;> omega
theorem optR_end (is : Bool) (b : UInt8) (r : List UInt8) (h : b.toNat = 0) : optR is (b :: r) = (is, true) := by
  unfold optR; simp only [List.length_cons]; unfold optV; rw [if_pos h]
theorem optR_pad (is : Bool) (b : UInt8) (r : List UInt8) (h : b.toNat = 1) : optR is (b :: r) = optR is r := by
  unfold optR; simp only [List.length_cons]; conv => lhs; unfold optV
  rw [if_neg (by omega), if_pos h]
theorem optR_last (is : Bool) (b : UInt8) (h0 : b.toNat ≠ 0) (h1 : b.toNat ≠ 1) : optR is [b] = (false, false) := by
  unfold optR; simp only [List.length_cons]; unfold optV; rw [if_neg h0, if_neg h1]
theorem optR_bad (is : Bool) (b n : UInt8) (r : List UInt8) (h0 : b.toNat ≠ 0) (h1 : b.toNat ≠ 1) (h : n.toNat < 2 ∨ r.length + 2 < n.toNat) : optR is (b :: n :: r) = (false, false) := by
  unfold optR; simp only [List.length_cons]; unfold optV; rw [if_neg h0, if_neg h1]
  simp only
  rw [if_pos h]
theorem optR_step (is : Bool) (b n : UInt8) (r : List UInt8) (h0 : b.toNat ≠ 0) (h1 : b.toNat ≠ 1) (h : 2 ≤ n.toNat) (h' : n.toNat ≤ r.length + 2) : optR is (b :: n :: r) = optR (is || decide ((b :: n :: r).take n.toNat = alertL)) ((b :: n :: r).drop n.toNat) := by
  unfold optR; simp only [List.length_cons]; conv => lhs; unfold optV
  rw [if_neg h0, if_neg h1]
  simp only
  rw [if_neg (by omega)]
  apply optV_enough <;> simp only [List.length_drop, List.length_cons] <;> omega
theorem take_alert (l : List UInt8) (n : Nat) (hn : n ≤ l.length) (hne : n ≠ 4) : decide (l.take n = alertL) = false := by
  rw [decide_eq_false_iff_not]
  intro h
  have := congrArg List.length h
  rw [List.length_take] at this
  simp [alertL] at this
  omega
def by8 (s : List UInt8) (i : Nat) : Nat := (s.getD i 0).toNat
def wd (s : List UInt8) (i : Nat) : Nat := num ((s.drop i).take 2)
theorem by8_get (s : List UInt8) (i : Nat) (h : i < s.length) : by8 s i = (s[i]).toNat := by
  unfold by8; rw [List.getD_eq_getElem?_getD, List.getElem?_eq_getElem h]; rfl
theorem by8_lt (s : List UInt8) (i : Nat) : by8 s i < 256 := (s.getD i 0).toNat_lt
theorem wd_eq (s : List UInt8) (i : Nat) (h : i + 2 ≤ s.length) : wd s i = 256 * by8 s i + by8 s (i + 1) := by
  unfold wd
  rw [List.drop_eq_getElem_cons (show i < s.length by omega), List.drop_eq_getElem_cons (show i + 1 < s.length by omega)]
  rw [by8_get s i (by omega), by8_get s (i + 1) (by omega)]
  simp only [List.take_succ_cons, List.take_zero]
  rw [num_two]; omega
theorem wd_lt (s : List UInt8) (i : Nat) (h : i + 2 ≤ s.length) : wd s i < 65536 := by
  rw [wd_eq s i h]; have := by8_lt s i; have := by8_lt s (i + 1); omega
def osz (l : List UInt8) : Nat := if by8 l 0 = 1 then 1 else if l.length < 2 ∨ by8 l 1 < 2 ∨ l.length < by8 l 1 then 0 else by8 l 1
theorem optR_osz0 (is : Bool) (l : List UInt8) (hl : 0 < l.length) (h0 : by8 l 0 ≠ 0) (h : osz l = 0) : optR is l = (false, false) := by
  unfold osz at h
  split at h
  · omega
  rename_i h1
  match l, hl with
  | [b], _ => exact optR_last is b h0 h1
  | b :: n :: r, _ =>
    have e0 : by8 (b :: n :: r) 0 = b.toNat := rfl
    have e1 : by8 (b :: n :: r) 1 = n.toNat := rfl
    rw [e0] at h0 h1
    rw [e1] at h
    simp only [List.length_cons] at h
    split at h
    · rename_i h2; exact optR_bad is b n r h0 h1 (by omega)
    · omega
theorem osz_le (l : List UInt8) (hl : 0 < l.length) : osz l ≤ l.length := by
  unfold osz; split
  · omega
  · split <;> omega
theorem optR_osz (is : Bool) (l : List UInt8) (hl : 0 < l.length) (h0 : by8 l 0 ≠ 0) (h : osz l ≠ 0) : optR is l = optR (is || decide (l.take (osz l) = alertL)) (l.drop (osz l)) := by
  have hle := osz_le l hl
  by_cases h1 : by8 l 0 = 1
  · have e : osz l = 1 := by unfold osz; rw [if_pos h1]
    rw [e] at hle ⊢
    rw [take_alert l 1 hle (by omega), Bool.or_false]
    match l, hl with
    | b :: r, _ => exact optR_pad is b r h1
  · unfold osz at h
    rw [if_neg h1] at h
    have e : osz l = by8 l 1 := by
      unfold osz
      rw [if_neg h1]
      split at h
      · omega
      · rename_i h2; rw [if_neg h2]
    split at h
    · omega
    rename_i h2
    rw [e]
    match l, hl with
    | [b], _ => simp at h2
    | b :: n :: r, _ =>
      simp only [List.length_cons] at h2
      exact optR_step is b n r h0 h1 (by have : by8 (b :: n :: r) 1 = n.toNat := rfl; omega) (by have : by8 (b :: n :: r) 1 = n.toNat := rfl; omega)
def hdN (s : List UInt8) : Nat := 4 * (by8 s 0 % 16)
def allN (s : List UInt8) : Nat := wd s 2
def optS (s : List UInt8) : Bool × Bool := optR false ((s.drop 20).take (hdN s - 20))
def hdE (s : List UInt8) : Int :=
  if s.length < 20 then 3
  else if by8 s 0 / 16 ≠ 4 then 5
  else if hdN s < 20 then 2
  else if s.length < hdN s then 3
  else if foldN (wsum (s.take (hdN s))) ≠ 65535 then 4
  else 0
def bdE (s : List UInt8) : Int :=
  if allN s < hdN s then 2
  else if s.length < allN s then 3
  else if wd s 6 % 16384 ≠ 0 then 5
  else if (optS s).2 = false then 2
  else if 1400 < allN s - hdN s then 6
  else 0
def why5 (s : List UInt8) : Int := if hdE s ≠ 0 then hdE s else bdE s
theorem hdE_zero {s : List UInt8} (h : hdE s = 0) : 20 ≤ s.length ∧ by8 s 0 / 16 = 4 ∧ 20 ≤ hdN s ∧ hdN s ≤ s.length ∧ hdN s ≤ 60 ∧ foldN (wsum (s.take (hdN s))) = 65535 := by
  unfold hdE at h
  have h60 : hdN s ≤ 60 := by unfold hdN; omega
  split at h
  · omega
  split at h
  · omega
  split at h
  · omega
  split at h
  · omega
  split at h
  · omega
  rename_i h1 h2 h3 h4 h5
  exact ⟨by omega, by omega, by omega, by omega, h60, Decidable.byContradiction h5⟩
theorem bdE_zero {s : List UInt8} (h : bdE s = 0) : hdN s ≤ allN s ∧ allN s ≤ s.length ∧ wd s 6 % 16384 = 0 ∧ (optS s).2 = true ∧ allN s - hdN s ≤ 1400 := by
  unfold bdE at h
  split at h
  · omega
  split at h
  · omega
  split at h
  · omega
  split at h
  · omega
  split at h
  · omega
  rename_i h1 h2 h3 h4 h5
  exact ⟨by omega, by omega, by omega, by simpa using h4, by omega⟩
theorem why5_zero {s : List UInt8} (h : why5 s = 0) : hdE s = 0 ∧ bdE s = 0 := by
  unfold why5 at h
  split at h
  · rename_i h1; exact absurd h h1
  · rename_i h1; exact ⟨Decidable.byContradiction h1, h⟩
theorem why5_hd {s : List UInt8} (h : hdE s = 0) : why5 s = bdE s := by unfold why5; rw [if_neg (by simp [h])]
theorem why5_bad {s : List UInt8} (h : hdE s ≠ 0) : why5 s = hdE s := by unfold why5; rw [if_pos h]
end Go.Proofs.YtlbdehegknehiaaGreat

/- A part of the proof. -/
namespace Go.Proofs.YtlbdehegknehiaaGreat
open Go.RowKit
set_option linter.unusedVariables false
def zeroI : Ip := ⟨0, 0, 0, 0, false, [0, 0, 0, 0, 0, 0, 0, 0, 0, 0, 0, 0, 0, 0, 0, 0], false, [0, 0, 0, 0, 0, 0, 0, 0, 0, 0, 0, 0, 0, 0, 0, 0], false, []⟩
theorem zeroI_ok : zeroI.ok := ⟨rfl, rfl⟩
def ipOf (s : List UInt8) : Ip := ⟨by8 s 1, wd s 4, by8 s 8, by8 s 9, false, readV ((s.drop 12).take 4), false, readV ((s.drop 16).take 4), (optS s).1, (s.drop (hdN s)).take (allN s - hdN s)⟩
def readV5 (s : List UInt8) : Ip × Int := if why5 s = 0 then (ipOf s, 0) else (zeroI, why5 s)
theorem ipOf_ok (s : List UInt8) : (ipOf s).ok := ⟨readV_length _ (by simp; omega), readV_length _ (by simp; omega)⟩
theorem putL_one (n : Nat) : putL n 1 = [UInt8.ofNat n] := by simp [putL]
end Go.Proofs.YtlbdehegknehiaaGreat

/- A part of the proof. -/
namespace Go.Proofs.YtlbdehegknehiaaGreat
open Go.RowKit
set_option linter.unusedVariables false
def zeroA : AD := (false, List.replicate 16 0)
def zeroT : TK := ⟨false, 0, 0, 0, zeroA, false, 0, 0, [], []⟩
def fourL (s : List UInt8) (i : Nat) : AD := (false, readV ((s.drop i).take 4))
def srcsL (s : List UInt8) (i n : Nat) : List AD := (List.range n).map fun k => fourL s (i + 4 * k)
def srcsE (s : List UInt8) (i n : Nat) : Int := if 64 < n then 6 else if s.length < i + 4 * n then 3 else 0
def rec1 (s : List UInt8) (i : Nat) : RC := ⟨by8 s i, fourL s (i + 4), srcsL s (i + 8) (wd s (i + 2))⟩
def recN (s : List UInt8) (i : Nat) : Nat := i + 8 + 4 * wd s (i + 2) + 4 * by8 s (i + 1)
def rcOk (r : RC) : Bool := decide (1 ≤ r.kind ∧ r.kind ≤ 6) && grp8 r.g
def recL (s : List UInt8) : Nat → Nat → List RC × Int
  | _, 0 => ([], 0)
  | i, n + 1 =>
    if s.length < i + 8 then ([], 3)
    else if srcsE s (i + 8) (wd s (i + 2)) ≠ 0 then ([], srcsE s (i + 8) (wd s (i + 2)))
    else if s.length < recN s i then ([], 3)
    else if (recL s (recN s i) n).2 ≠ 0 then ([], (recL s (recN s i) n).2)
    else (if rcOk (rec1 s i) then rec1 s i :: (recL s (recN s i) n).1 else (recL s (recN s i) n).1, 0)
def qry (s : List UInt8) : TK × Int :=
  if 8 < s.length ∧ s.length < 12 then (zeroT, 2)
  else if fourL s 4 ≠ zeroA ∧ grp8 (fourL s 4) = false then (zeroT, 2)
  else if s.length = 8 then
    if by8 s 1 = 0 then if fourL s 4 ≠ zeroA then (zeroT, 2) else (⟨false, 1, 1, 0, fourL s 4, false, 0, 0, [], []⟩, 0)
    else (⟨false, 2, 1, by8 s 1, fourL s 4, false, 0, 0, [], []⟩, 0)
  else if fourL s 4 = zeroA ∧ 0 < wd s 10 then (zeroT, 2)
  else if srcsE s 12 (wd s 10) ≠ 0 then (zeroT, srcsE s 12 (wd s 10))
  else (⟨false, 3, 1, valN (by8 s 1) 16, fourL s 4, decide (by8 s 8 / 8 % 2 = 1), (by8 s 8 % 8 : Nat), valN (by8 s 9) 16, srcsL s 12 (wd s 10), []⟩, 0)
def readT (s : List UInt8) : TK × Int :=
  if s.length < 8 then (zeroT, 3)
  else if foldN (wsum s) ≠ 65535 then (zeroT, 4)
  else if by8 s 0 = 17 then qry s
  else if by8 s 0 = 34 then
    if 64 < wd s 6 then (zeroT, 6)
    else if (recL s 8 (wd s 6)).2 ≠ 0 then (zeroT, (recL s 8 (wd s 6)).2)
    else (⟨false, 3, 2, 0, zeroA, false, 0, 0, [], (recL s 8 (wd s 6)).1⟩, 0)
  else if by8 s 0 = 18 ∨ by8 s 0 = 22 ∨ by8 s 0 = 23 then
    if grp8 (fourL s 4) = false then (zeroT, 2)
    else (⟨false, if by8 s 0 = 18 then 1 else 2, if by8 s 0 = 23 then 3 else 2, 0, fourL s 4, false, 0, 0, [], []⟩, 0)
  else (zeroT, 5)
def sizeR (l : List RC) : Nat := (l.map fun r => 8 + 4 * r.src.length).sum + 8
def recOk (r : RC) : Bool := rcOk r && srcs8 r.src
def good8 (t : TK) : Bool :=
  if t.v6 = true ∨ t.ver < 1 ∨ 3 < t.ver ∨ t.kind < 1 ∨ 3 < t.kind then false
  else if ¬ (t.ver = 3 ∧ t.kind = 1) ∧ (t.quiet = true ∨ t.rob ≠ 0 ∨ t.every ≠ 0 ∨ 0 < t.src.length) then false
  else if (t.kind ≠ 1 ∧ t.resp ≠ 0) ∨ (0 < t.rcs.length ∧ (t.ver < 3 ∨ t.kind ≠ 2)) then false
  else if t.kind = 3 then decide (t.ver = 2) && grp8 t.g
  else if t.kind = 2 ∧ t.ver < 3 then grp8 t.g
  else if t.kind = 2 then t.rcs.all recOk && (decide (t.g = zeroA) && (decide (t.rcs.length < 65) && decide (sizeR t.rcs < 1401)))
  else if t.ver = 1 then decide (t.resp = 0) && decide (t.g = zeroA)
  else if t.g ≠ zeroA ∧ grp8 t.g = false then false
  else if t.ver = 2 then decide (0 < t.resp ∧ t.resp < 256)
  else exactN t.resp 16 255 && (exactN t.every 16 255 && (decide (0 ≤ t.rob ∧ t.rob < 8) && (srcs8 t.src && (decide (t.g ≠ zeroA) || decide (t.src.length = 0)))))
def recB (r : RC) : List UInt8 := putL r.kind.toNat 1 ++ (0 :: (putL r.src.length 2 ++ (adB r.g ++ listL r.src)))
def kindT (t : TK) : Nat := if t.kind = 3 then 23 else if t.kind = 2 then (if t.ver = 1 then 18 else if t.ver = 2 then 22 else 34) else 17
def secT (t : TK) : Nat := if t.kind = 1 ∧ t.ver = 3 then codeN t.resp 16 255 else t.resp.toNat
def flagT (t : TK) : Nat := if t.quiet then t.rob.toNat + 8 else t.rob.toNat
def restT (t : TK) : List UInt8 :=
  if t.kind = 2 ∧ t.ver = 3 then putL t.rcs.length 4 ++ (t.rcs.map recB).flatten
  else if t.kind = 1 ∧ t.ver = 3 then adB t.g ++ (putL (flagT t) 1 ++ (putL (codeN t.every 16 255) 1 ++ (putL t.src.length 2 ++ listL t.src)))
  else adB t.g
def headT (t : TK) : List UInt8 := putL (kindT t) 1 ++ putL (secT t) 1
def chkT (t : TK) : Nat := 65535 - foldN (wsum (headT t ++ restT t))
def wrtT (t : TK) : List UInt8 := headT t ++ (putL (chkT t) 2 ++ restT t)
theorem headT_length (t : TK) : (headT t).length = 2 := by unfold headT; simp [putL_length]
theorem grp8_parts {a : AD} (h : grp8 a = true) : a.1 = false ∧ goodV a.1 a.2 = true := by
  unfold grp8 at h
  rw [Bool.and_eq_true, Bool.and_eq_true, Bool.not_eq_true'] at h
  exact ⟨h.1, h.2.1⟩
def TK.ok (t : TK) : Prop := adOk t.g ∧ (∀ a ∈ t.src, adOk a) ∧ ∀ r ∈ t.rcs, adOk r.g ∧ ∀ a ∈ r.src, adOk a
theorem zeroA_ok : adOk zeroA := rfl
theorem exactN_parts {n : Int} {u m : Nat} (h : exactN n u m = true) : 0 ≤ n ∧ (valN (codeN n u m) u : Int) = n := by
  unfold exactN at h
  rw [decide_eq_true_eq] at h
  exact h
end Go.Proofs.YtlbdehegknehiaaGreat

/- A part of the proof. -/
namespace Go.Proofs.YtlbdehegknehiaaGreat
open Go.RowKit
set_option linter.unusedVariables false
def z16 : List UInt8 := List.replicate 16 0
def grp9 (a : AD) : Bool := a.1 && grpV a.1 a.2
def zer9 (a : AD) : Bool := a.1 && decide (a.2 = z16)
def srcs9 (l : List AD) : Bool := l.all (·.1) && decide (l.length < 65)
def sixL (s : List UInt8) (i : Nat) : AD := (true, readV ((s.drop i).take 16))
def srcsL9 (s : List UInt8) (i n : Nat) : List AD := (List.range n).map fun k => sixL s (i + 16 * k)
def srcsE9 (s : List UInt8) (i n : Nat) : Int := if 64 < n then 6 else if s.length < i + 16 * n then 3 else 0
def rec9 (s : List UInt8) (i : Nat) : RC := ⟨by8 s i, sixL s (i + 4), srcsL9 s (i + 20) (wd s (i + 2))⟩
def recN9 (s : List UInt8) (i : Nat) : Nat := i + 20 + 16 * wd s (i + 2) + 4 * by8 s (i + 1)
def rcOk9 (r : RC) : Bool := decide (1 ≤ r.kind ∧ r.kind ≤ 6) && grp9 r.g
def recL9 (s : List UInt8) : Nat → Nat → List RC × Int
  | _, 0 => ([], 0)
  | i, n + 1 =>
    if s.length < i + 20 then ([], 3)
    else if srcsE9 s (i + 20) (wd s (i + 2)) ≠ 0 then ([], srcsE9 s (i + 20) (wd s (i + 2)))
    else if s.length < recN9 s i then ([], 3)
    else if (recL9 s (recN9 s i) n).2 ≠ 0 then ([], (recL9 s (recN9 s i) n).2)
    else (if rcOk9 (rec9 s i) then rec9 s i :: (recL9 s (recN9 s i) n).1 else (recL9 s (recN9 s i) n).1, 0)
def sizeR9 (l : List RC) : Nat := (l.map fun r => 20 + 16 * r.src.length).sum + 8
def recOk9 (r : RC) : Bool := rcOk9 r && srcs9 r.src
def good9 (t : TK) : Bool :=
  if t.v6 = false ∨ t.ver < 1 ∨ 2 < t.ver ∨ t.kind < 1 ∨ 3 < t.kind ∨ (t.ver = 2 ∧ t.kind = 3) then false
  else if (¬ (t.ver = 2 ∧ t.kind = 1) ∧ (t.quiet = true ∨ t.rob ≠ 0 ∨ t.every ≠ 0 ∨ 0 < t.src.length)) ∨ (t.kind ≠ 1 ∧ t.resp ≠ 0) then false
  else if t.ver = 2 ∧ t.kind = 2 then t.rcs.all recOk9 && (decide (t.g.1 = false) && (decide (t.g.2 = z16) && (decide (t.rcs.length < 65) && decide (sizeR9 t.rcs < 1401))))
  else if 0 < t.rcs.length then false
  else if 1 < t.kind then grp9 t.g
  else if (zer9 t.g = false ∧ grp9 t.g = false) ∨ t.resp < 0 then false
  else if t.ver = 1 then decide (t.resp < 65536)
  else exactN t.resp 4096 65535 && (exactN t.every 16 255 && (decide (0 ≤ t.rob ∧ t.rob < 8) && (srcs9 t.src && (decide (zer9 t.g = false) || decide (t.src.length = 0)))))
theorem good9_cases (t : TK) (hg : good9 t = true) : t.v6 = true ∧
    ((t.ver = 2 ∧ t.kind = 2 ∧ t.resp = 0 ∧ t.g = zeroA ∧ t.rcs.all recOk9 = true ∧ t.rcs.length < 65 ∧ sizeR9 t.rcs < 1401 ∧ t.quiet = false ∧ t.rob = 0 ∧ t.every = 0 ∧ t.src = []) ∨
     (t.ver = 1 ∧ (t.kind = 2 ∨ t.kind = 3) ∧ t.resp = 0 ∧ grp9 t.g = true ∧ t.rcs = [] ∧ t.quiet = false ∧ t.rob = 0 ∧ t.every = 0 ∧ t.src = []) ∨
     (t.ver = 1 ∧ t.kind = 1 ∧ 0 ≤ t.resp ∧ t.resp < 65536 ∧ (zer9 t.g = true ∨ grp9 t.g = true) ∧ t.rcs = [] ∧ t.quiet = false ∧ t.rob = 0 ∧ t.every = 0 ∧ t.src = []) ∨
     (t.ver = 2 ∧ t.kind = 1 ∧ exactN t.resp 4096 65535 = true ∧ exactN t.every 16 255 = true ∧ 0 ≤ t.rob ∧ t.rob < 8 ∧ srcs9 t.src = true ∧ (zer9 t.g = true ∨ grp9 t.g = true) ∧ (zer9 t.g = false ∨ t.src.length = 0) ∧ t.rcs = [])) := by
  unfold good9 at hg
  by_cases c1 : t.v6 = false ∨ t.ver < 1 ∨ 2 < t.ver ∨ t.kind < 1 ∨ 3 < t.kind ∨ (t.ver = 2 ∧ t.kind = 3)
  · rw [if_pos c1] at hg; exact absurd hg (by simp)
  rw [if_neg c1] at hg
  have hv : t.v6 = true := by
    cases h : t.v6
    · exact absurd (Or.inl h) c1
    · rfl
  refine ⟨hv, ?_⟩
  have d1 : 1 ≤ t.ver := by omega
  have d2 : t.ver ≤ 2 := by omega
  have d3 : 1 ≤ t.kind := by omega
  have d4 : t.kind ≤ 3 := by omega
  have d5 : ¬ (t.ver = 2 ∧ t.kind = 3) := fun h => c1 (by omega)
  by_cases c2 : (¬ (t.ver = 2 ∧ t.kind = 1) ∧ (t.quiet = true ∨ t.rob ≠ 0 ∨ t.every ≠ 0 ∨ 0 < t.src.length)) ∨ (t.kind ≠ 1 ∧ t.resp ≠ 0)
  · rw [if_pos c2] at hg; exact absurd hg (by simp)
  rw [if_neg c2] at hg
  have hrest : ¬ (t.ver = 2 ∧ t.kind = 1) → t.quiet = false ∧ t.rob = 0 ∧ t.every = 0 ∧ t.src = [] := fun h => by
    have hn : ¬ (t.quiet = true ∨ t.rob ≠ 0 ∨ t.every ≠ 0 ∨ 0 < t.src.length) := fun h' => c2 (Or.inl ⟨h, h'⟩)
    refine ⟨?_, by omega, by omega, List.eq_nil_of_length_eq_zero (by omega)⟩
    cases hq : t.quiet
    · rfl
    · exact absurd (Or.inl hq) hn
  have hresp : t.kind ≠ 1 → t.resp = 0 := fun h => by
    refine Decidable.byContradiction fun hn => c2 (Or.inr ⟨h, hn⟩)
  by_cases k2 : t.ver = 2 ∧ t.kind = 2
  · rw [if_pos k2, Bool.and_eq_true, Bool.and_eq_true, Bool.and_eq_true, Bool.and_eq_true, decide_eq_true_eq, decide_eq_true_eq, decide_eq_true_eq, decide_eq_true_eq] at hg
    obtain ⟨q1, q2, q3, q4⟩ := hrest (by omega)
    exact Or.inl ⟨k2.1, k2.2, hresp (by omega), Prod.ext hg.2.1 hg.2.2.1, hg.1, hg.2.2.2.1, hg.2.2.2.2, q1, q2, q3, q4⟩
  rw [if_neg k2] at hg
  by_cases k0 : 0 < t.rcs.length
  · rw [if_pos k0] at hg; exact absurd hg (by simp)
  rw [if_neg k0] at hg
  have hrc : t.rcs = [] := List.eq_nil_of_length_eq_zero (by omega)
  by_cases k1 : 1 < t.kind
  · rw [if_pos k1] at hg
    obtain ⟨q1, q2, q3, q4⟩ := hrest (by omega)
    exact Or.inr (Or.inl ⟨by omega, by omega, hresp (by omega), hg, hrc, q1, q2, q3, q4⟩)
  rw [if_neg k1] at hg
  by_cases cg : (zer9 t.g = false ∧ grp9 t.g = false) ∨ t.resp < 0
  · rw [if_pos cg] at hg; exact absurd hg (by simp)
  rw [if_neg cg] at hg
  have hgg : zer9 t.g = true ∨ grp9 t.g = true := by
    cases h : zer9 t.g
    · cases h' : grp9 t.g
      · exact absurd (Or.inl ⟨h, h'⟩) cg
      · exact Or.inr rfl
    · exact Or.inl rfl
  by_cases v1 : t.ver = 1
  · rw [if_pos v1, decide_eq_true_eq] at hg
    obtain ⟨q1, q2, q3, q4⟩ := hrest (by omega)
    exact Or.inr (Or.inr (Or.inl ⟨v1, by omega, by omega, hg, hgg, hrc, q1, q2, q3, q4⟩))
  · rw [if_neg v1, Bool.and_eq_true, Bool.and_eq_true, Bool.and_eq_true, Bool.and_eq_true, decide_eq_true_eq, Bool.or_eq_true, decide_eq_true_eq, decide_eq_true_eq] at hg
    obtain ⟨m1, m2, ⟨m3, m4⟩, m5, m6⟩ := hg
    exact Or.inr (Or.inr (Or.inr ⟨by omega, by omega, m1, m2, m3, m4, m5, hgg, m6, hrc⟩))
end Go.Proofs.YtlbdehegknehiaaGreat

/- A part of the proof. -/
namespace Go.Proofs.YtlbdehegknehiaaGreat
set_option maxRecDepth 100000
set_option maxHeartbeats 2000000
open Go.RowKit
set_option linter.unusedVariables false
attribute [local go_sem ↓] ld_addr st_addr bld_addr
attribute [local go_sem] ldr_addr str_addr row?_drewN_eq row?_drew_eq
theorem rgroup9_any (a : AD) (ho : adOk a) (w : World) : Calls Tryz.prog 130 #[.agg (adC a).toArray] w fun x w' => x = .returned (.bool (grp9 a)) ∧ Below w.heap.size w w' := by
  have H0 := zh (ABox.made w a)
  have HH := zh (fun W => rgroup_any a.1 a.2 ho W)
  have HK : Hid (∀ W, ABox w W a → row? W w.heap.size 0 17 = some (adC a) ∧ W.cell? ⟨w.heap.size, 0, none⟩ = some (.bool a.1)) := zh fun W h => ⟨h.row ho, h.v⟩
  obtain ⟨R, hR⟩ : ∃ R, R = grp9 a := ⟨_, rfl⟩
  rw [← hR]
  unfold grp9 at hR
  change Hid (∀ W, Calls Tryz.prog 31 #[.agg (adC a).toArray] W _) at HH
  generalize grpV a.1 a.2 = h at HH hR
  go_enter Tryz.func130, Tryz.ntmps130
  go_upto_region 1 with (fail)
  generalize w.alloc (.cells (adC a).toArray 24) = W at H0 ⊢
  obtain ⟨r1, c1⟩ := HK.out _ H0.out
  generalize a.1 = v at c1 hR HK
  have HR := zh hR
  clear hR
  cases v with
  | false =>
    go_wp2
    go_ret
    exact ⟨ret_bool8 (by rw [HR.out]; rfl), H0.out.2⟩
  | true =>
    go_wp2_with (go_at_call 31; (with_reducible refine (HH.out _).mono ?_); rintro x w2 ⟨rfl, hb2⟩; have H2 := zh (H0.out.below hb2); clear hb2)
    go_ret
    exact ⟨ret_bool8 (by rw [HR.out]; rfl), H2.out.2⟩
theorem rzero9_any (a : AD) (ho : adOk a) (w : World) : Calls Tryz.prog 132 #[.agg (adC a).toArray] w fun x w' => x = .returned (.bool (zer9 a)) ∧ Below w.heap.size w w' := by
  have H0 := zh (ABox.made w a)
  have HH := zh (fun W => rzero_any a.1 a.2 ho W)
  have HK : Hid (∀ W, ABox w W a → row? W w.heap.size 0 17 = some (adC a) ∧ W.cell? ⟨w.heap.size, 0, none⟩ = some (.bool a.1)) := zh fun W h => ⟨h.row ho, h.v⟩
  obtain ⟨R, hR⟩ : ∃ R, R = zer9 a := ⟨_, rfl⟩
  rw [← hR]
  unfold zer9 at hR
  change Hid (∀ W, Calls Tryz.prog 32 #[.agg (adC a).toArray] W _) at HH
  have hz : zeroV a.2 = decide (a.2 = z16) := rfl
  rw [← hz] at hR
  clear hz
  generalize zeroV a.2 = h at HH hR
  go_enter Tryz.func132, Tryz.ntmps132
  go_upto_region 1 with (fail)
  generalize w.alloc (.cells (adC a).toArray 24) = W at H0 ⊢
  obtain ⟨r1, c1⟩ := HK.out _ H0.out
  generalize a.1 = v at c1 hR HK
  have HR := zh hR
  clear hR
  cases v with
  | false =>
    go_wp2
    go_ret
    exact ⟨ret_bool8 (by rw [HR.out]; rfl), H0.out.2⟩
  | true =>
    go_wp2_with (go_at_call 32; (with_reducible refine (HH.out _).mono ?_); rintro x w2 ⟨rfl, hb2⟩; have H2 := zh (H0.out.below hb2); clear hb2)
    go_ret
    exact ⟨ret_bool8 (by rw [HR.out]; rfl), H2.out.2⟩
def isSix (a : AD) : Bool := a.1
theorem srcs9_eq (l : List AD) : srcs9 l = (l.all isSix && decide (l.length < 65)) := rfl
theorem rsources9_any (v : Value) (l : List AD) (w : World) (ha : Ads w v l) : Calls Tryz.prog 131 #[v] w fun x w' => x = .returned (.bool (srcs9 l)) ∧ Below w.heap.size w w' := by
  obtain ⟨p, cap, rfl, h1, h2⟩ := ha.len
  by_cases h0 : l.length = 0
  · have e1 : l = [] := List.eq_nil_of_length_eq_zero h0
    subst e1
    go_enter Tryz.func131, Tryz.ntmps131
    go_wp2_with fail
    go_loop [3] (fun i => i = .int .i64 0) (fun _ => 0)
    case atStart => rfl
    case round =>
      subst hrel
      go_wp2
      go_ret
      exact ⟨rfl, Below.refl _ _⟩
  · have na : l ≠ [] := fun h => h0 (by rw [h]; rfl)
    obtain ⟨b, o, cap', e, _, _, hbl, Ra⟩ := ha.parts na
    simp only [Value.slice.injEq] at e
    obtain ⟨rfl, _, rfl⟩ := e
    have OA := zh ha.ok
    have RA := zh Ra
    have HBL := zh hbl
    obtain ⟨n, hn⟩ : ∃ n, n = l.length := ⟨_, rfl⟩
    have hmx : n ≤ maxLen := by omega
    unfold maxLen at hmx
    obtain ⟨R, hR⟩ : ∃ R, R = srcs9 l := ⟨_, rfl⟩
    rw [← hR]
    rw [srcs9_eq] at hR
    rw [← hn] at hR h0 h1 ⊢
    have HR := zh hR
    have HN := zh hn
    clear Ra ha na hn hbl hR h1 h2
    go_enter Tryz.func131, Tryz.ntmps131
    go_wp2_with fail
    go_loopw [3] (fun i wr => ∃ k : Nat, k ≤ n ∧ i = .int .i64 k ∧ Hid ((l.take k).all isSix = true) ∧ Hid (Below w.heap.size w wr)) (fun i _ => n - (intOf i).toNat)
    case atStart => exact ⟨0, by omega, rfl, zh (by simp), zh (Below.refl _ _)⟩
    case round =>
      obtain ⟨k, hk, rfl, HT, HB⟩ := hrel
      by_cases hlt : k < n
      · have g1 : k < l.length := by rw [← HN.out]; exact hlt
        have r1 := row?_below (RA.out k g1) HBL.out HB.out
        have c1 := cells_ad r1
        have HS := zh (all_take_succ g1 isSix)
        have HF : Hid (isSix l[k] = false → l.all isSix = false) := zh fun h => by
          rw [← Bool.not_eq_true, List.all_eq_true]
          intro hx
          have := hx _ (List.getElem_mem g1)
          rw [h] at this
          exact absurd this (by simp)
        have hq : isSix l[k] = l[k].1 := rfl
        rw [hq] at HS HF
        clear hq
        have hd : decide ((k : Int) < (n : Int)) = true := by simp; omega
        have hk1 : (k : Int) < (n : Int) := by omega
        have hw1 : IntKind.i64.wrap ((k : Int) + 1) = (k : Int) + 1 := by simp only [IntKind.wrap_i64]; omega
        generalize adC l[k] = A at *
        generalize l[k].1 = v6 at *
        clear g1
        cases v6 with
        | false =>
          have HV := zh (show R = false by rw [HR.out, HF.out rfl]; rfl)
          go_wp2
          go_ret
          exact ⟨ret_bool8 (by rw [HV.out]), HB.out⟩
        | true =>
          have HV := zh (show (l.take (k + 1)).all isSix = true by rw [HS.out, HT.out]; rfl)
          go_wp2
          go_roundw
          case rel => exact ⟨k + 1, by omega, by go_num, HV, HB⟩
          case measure => simp [intOf]; omega
      · have hd : ¬ (k : Int) < (n : Int) := by omega
        have HV := zh (show R = decide ((n : Int) < 65) by
          have e := HT.out
          rw [List.take_of_length_le (by rw [← HN.out]; omega)] at e
          rw [HR.out, e, Bool.true_and, Bool.eq_iff_iff]
          simp; omega)
        go_wp2
        go_ret
        exact ⟨ret_bool8 (by rw [HV.out]), HB.out⟩
end Go.Proofs.YtlbdehegknehiaaGreat


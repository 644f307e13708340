/-
  Texts joined: IpA, IpW, IpB, IpC, IpG, IpP, IpR, IpU, IpV.
-/
import Derived.Test.YtkmnnkklbgnfpaaIp
import Derived.Test.YtkmnnkklbgnfpaaMga
import Derived.Test.YtkmnnkklbgnfpaaRbytes
import Derived.Test.YtkmnnkklbgnfpaaRefb
import Derived.Deep.RegionHeld3
import Derived.Deep.Cut
import Derived.Test.YtkmnnkklbgnfpaaPureIp
import Derived.Test.YtkmnnkklbgnfpaaSum
import Derived.BigQuiet
import Derived.Deep.QuietTactic
import Derived.Test.YtkmnnkklbgnfpaaEqI
import Derived.Test.YtkmnnkklbgnfpaaRread
/-
  The document's own Good of a packet of IPv4, its numbers as bytes, and its bytes.
-/
namespace Go.Proofs.Ytkmnnkklbgnfpaa
open Go.RowKit
set_option linter.unusedVariables false
attribute [local go_sem ↓] ld_addr st_addr
attribute [local go_sem] ldr_addr str_addr

def Ip.nums (p : Ip) : Bool := decide (0 ≤ p.tos ∧ p.tos ≤ 255 ∧ 0 ≤ p.ttl ∧ p.ttl ≤ 255 ∧ 0 ≤ p.pro ∧ p.pro ≤ 255 ∧ 0 ≤ p.id ∧ p.id ≤ 65535)
def Ip.good (p : Ip) : Bool := p.nums && (!p.f6 && (!p.t6 && (goodV p.f6 p.fr && (goodV p.t6 p.to && decide (p.bd.length ≤ 1400)))))

end Go.Proofs.Ytkmnnkklbgnfpaa

/-
  The document's own bytes of a packet of IPv4.
-/
namespace Go.Proofs.Ytkmnnkklbgnfpaa
open Go.RowKit
set_option linter.unusedVariables false
attribute [local go_sem ↓] ld_addr st_addr
attribute [local go_sem] ldr_addr str_addr

def optL (al : Bool) : List UInt8 := if al then [148, 4, 0, 0] else []
/-- The header ahead of its check, and behind it. -/
def Ip.ha (p : Ip) : List UInt8 := putL (69 + (optL p.al).length / 4) 1 ++ (putL p.tos.toNat 1 ++ (putL (20 + (optL p.al).length + p.bd.length) 2 ++ (putL p.id.toNat 2 ++ (putL 0 2 ++ (putL p.ttl.toNat 1 ++ putL p.pro.toNat 1)))))
def Ip.hb (p : Ip) : List UInt8 := p.fr.take 4 ++ (p.to.take 4 ++ optL p.al)
def Ip.chk (p : Ip) : Nat := 65535 - foldN (wsum (p.ha ++ p.hb))
def Ip.wrt (p : Ip) : List UInt8 := p.ha ++ (putL p.chk 2 ++ (p.hb ++ p.bd))
theorem Ip.ha_length (p : Ip) : p.ha.length = 10 := by unfold Ip.ha; simp [putL_length]
theorem Ip.hb_length (p : Ip) (ho : p.ok) : p.hb.length = 8 + (if p.al then 4 else 0) := by unfold Ip.hb optL; cases p.al <;> simp [ho.1, ho.2]

end Go.Proofs.Ytkmnnkklbgnfpaa

/-
  Contracts of ip4's small functions.
-/
namespace Go.Proofs.Ytkmnnkklbgnfpaa
open Go.RowKit
set_option linter.unusedVariables false
attribute [local go_sem ↓] ld_addr st_addr
attribute [local go_sem] ldr_addr str_addr

theorem opt_bytes (b : Bool) : (.string (Str (optL b)) : Value) = .string (if b then ⟨#[148, 4, 0, 0]⟩ else ⟨#[]⟩) := by cases b <;> rfl
theorem bits_or_i64_nat (a b : Nat) (ha : a < 9223372036854775808) (hb : b < 9223372036854775808) :
    bits .or .i64 (a : Int) (b : Int) = ((a ||| b : Nat) : Int) := by
  have hx : a ||| b < 2 ^ 63 := Nat.or_lt_two_pow (by omega) (by omega)
  have h1 : (BitVec.ofInt 64 (a : Int)).toNat = a := by
    rw [BitVec.ofInt_natCast, BitVec.toNat_ofNat]; exact Nat.mod_eq_of_lt (by omega)
  have h2 : (BitVec.ofInt 64 (b : Int)).toNat = b := by
    rw [BitVec.ofInt_natCast, BitVec.toNat_ofNat]; exact Nat.mod_eq_of_lt (by omega)
  show IntKind.i64.wrap ((BitVec.ofInt 64 (a : Int) ||| BitVec.ofInt 64 (b : Int)).toNat : Int) = _
  rw [BitVec.toNat_or, h1, h2, IntKind.wrap_i64]
  omega
/-- 'a<<8 | b' of two bytes. -/
theorem or_two (a b : Nat) (ha : a < 256) (hb : b < 256) : bits BinOp.or IntKind.i64 ((a : Int) * 256) (b : Int) = ((256 * a + b : Nat) : Int) := by
  rw [show ((a : Int) * 256) = ((a * 256 : Nat) : Int) by omega, bits_or_i64_nat _ _ (by omega) (by omega)]
  have e : a * 256 = a <<< 8 := by rw [Nat.shiftLeft_eq]
  rw [e, ← Nat.shiftLeft_add_eq_or_of_lt (by omega), Nat.shiftLeft_eq]
  omega

theorem Str_at (s : List UInt8) (i : Nat) (h : i < (Str s).size) : ((Str s)[i]).toNat = by8 s i := by
  rw [Str_size] at h
  rw [by8_get s i h]; rfl

theorem str_alert (l : List UInt8) (n : Nat) : ((Str l).extract 0 n).toList = l.take n := by
  rw [Str_extract, ByteArray.toList_eq]
  simp [Str]
end Go.Proofs.Ytkmnnkklbgnfpaa

/-
  Contracts of ip4's readOptions and header.
-/
namespace Go.Proofs.Ytkmnnkklbgnfpaa
open Go.RowKit
set_option linter.unusedVariables false
attribute [local go_sem ↓] ld_addr st_addr
attribute [local go_sem] ldr_addr str_addr

def hdS (s : List UInt8) : List UInt8 := if hdE s = 0 then s.take (hdN s) else []
end Go.Proofs.Ytkmnnkklbgnfpaa

/-
  The document's own Alert.
-/
namespace Go.Proofs.Ytkmnnkklbgnfpaa
open Go.RowKit
set_option linter.unusedVariables false

theorem drop_cons2 {s : List UInt8} {i : Nat} (h : i + 1 < s.length) : s.drop i = s[i] :: s[i + 1] :: s.drop (i + 2) := by
  rw [List.drop_eq_getElem_cons (show i < s.length by omega), List.drop_eq_getElem_cons h]
theorem by8_drop (s : List UInt8) (i j : Nat) : by8 (s.drop i) j = by8 s (i + j) := by
  unfold by8
  rw [List.getD_eq_getElem?_getD, List.getD_eq_getElem?_getD, List.getElem?_drop]
theorem alert_eq (l : List UInt8) (h : 4 ≤ l.length) : decide (l.take 4 = alertL) = decide (by8 l 0 = 148 ∧ by8 l 1 = 4 ∧ by8 l 2 = 0 ∧ by8 l 3 = 0) := by
  rw [decide_eq_decide, alert_of h, by8_get l 0 (by omega), by8_get l 1 (by omega), by8_get l 2 (by omega), by8_get l 3 (by omega)]

end Go.Proofs.Ytkmnnkklbgnfpaa

/-
  What bytes are as a packet: plain facts. What is read of a packet's own bytes; what is read of bytes one hop further.
-/
namespace Go.Proofs.Ytkmnnkklbgnfpaa
open Go.RowKit
set_option linter.unusedVariables false

def zeroI : Ip := ⟨0, 0, 0, 0, false, [0, 0, 0, 0, 0, 0, 0, 0, 0, 0, 0, 0, 0, 0, 0, 0], false, [0, 0, 0, 0, 0, 0, 0, 0, 0, 0, 0, 0, 0, 0, 0, 0], false, []⟩
theorem zeroI_ok : zeroI.ok := ⟨rfl, rfl⟩
def ipOf (s : List UInt8) : Ip := ⟨by8 s 1, wd s 4, by8 s 8, by8 s 9, false, readV ((s.drop 12).take 4), false, readV ((s.drop 16).take 4), (optS s).1, (s.drop (hdN s)).take (allN s - hdN s)⟩
def readV5 (s : List UInt8) : Ip × Int := if why5 s = 0 then (ipOf s, 0) else (zeroI, why5 s)
theorem ipOf_ok (s : List UInt8) : (ipOf s).ok := ⟨readV_length _ (by simp; omega), readV_length _ (by simp; omega)⟩
theorem goodV_read (x : List UInt8) (h : x.length = 4) : goodV false (readV x) = true := by
  match x, h with
  | [a, b, c, d], _ =>
    unfold goodV
    rw [Bool.false_or, decide_eq_true_eq]
    rfl
theorem goodV_four (l : List UInt8) (h : l.length = 16) (hg : goodV false l = true) : readV (l.take 4) = l := by
  unfold goodV at hg
  rw [Bool.false_or, decide_eq_true_eq] at hg
  rw [hg]
  match l, h with
  | [a, b, c, d, _, _, _, _, _, _, _, _, _, _, _, _], _ => rfl
theorem ipOf_good {s : List UInt8} (h : why5 s = 0) : (ipOf s).good = true := by
  obtain ⟨h1, h2⟩ := why5_zero h
  obtain ⟨a1, a2, a3, a4, a5, a6⟩ := hdE_zero h1
  obtain ⟨b1, b2, b3, b4, b5⟩ := bdE_zero h2
  have g1 := goodV_read ((s.drop 12).take 4) (by simp; omega)
  have g2 := goodV_read ((s.drop 16).take 4) (by simp; omega)
  have c1 := by8_lt s 1; have c2 := wd_lt s 4 (by omega); have c3 := by8_lt s 8; have c4 := by8_lt s 9
  unfold Ip.good Ip.nums ipOf
  simp only [g1, g2, Bool.not_false, Bool.true_and, Bool.and_eq_true, decide_eq_true_eq, List.length_take, List.length_drop]
  omega
theorem readV5_ok (s : List UInt8) : (readV5 s).1.ok := by
  unfold readV5; split
  · exact ipOf_ok s
  · exact zeroI_ok

theorem take4 {l : List UInt8} (h : l.length = 16) : ∃ a b c d, l.take 4 = [a, b, c, d] := by
  match l, h with
  | [a, b, c, d, _, _, _, _, _, _, _, _, _, _, _, _], _ => exact ⟨a, b, c, d, rfl⟩
theorem putL_one (n : Nat) : putL n 1 = [UInt8.ofNat n] := by simp [putL]
theorem putL_tw (n : Nat) : putL n 2 = [UInt8.ofNat (n / 256), UInt8.ofNat n] := by simp [putL]
theorem ofNat_small {n : Nat} (h : n < 256) : (UInt8.ofNat n).toNat = n := by rw [UInt8.toNat_ofNat']; omega

set_option maxRecDepth 100000 in
theorem read_wrt5 (p : Ip) (ho : p.ok) (hn : p.nums = true) (hf : p.f6 = false) (ht : p.t6 = false) (h1 : goodV false p.fr = true) (h2 : goodV false p.to = true) (hl : p.bd.length ≤ 60000) (z : List UInt8) :
    readV5 (p.wrt ++ z) = if p.bd.length ≤ 1400 then (p, 0) else (zeroI, 6) := by
  obtain ⟨tos, id, ttl, pro, f6, fr, t6, to, al, bd⟩ := p
  obtain ⟨ho1, ho2⟩ := ho
  simp only at hf ht h1 h2 hl ho1 ho2
  subst hf ht
  unfold Ip.nums at hn
  rw [decide_eq_true_eq] at hn
  simp only at hn
  obtain ⟨a0, a1, a2, a3, a4, a5, a6, a7⟩ := hn
  obtain ⟨n0, rfl⟩ := Int.eq_ofNat_of_zero_le a0
  obtain ⟨n1, rfl⟩ := Int.eq_ofNat_of_zero_le a6
  obtain ⟨n2, rfl⟩ := Int.eq_ofNat_of_zero_le a2
  obtain ⟨n3, rfl⟩ := Int.eq_ofNat_of_zero_le a4
  obtain ⟨f0, f1, f2, f3, hF⟩ := take4 ho1
  obtain ⟨t0, t1, t2, t3, hT⟩ := take4 ho2
  have r1 := goodV_four fr ho1 h1
  have r2 := goodV_four to ho2 h2
  rw [hF] at r1
  rw [hT] at r2
  obtain ⟨ck, hck⟩ : ∃ c, c = (⟨n0, n1, n2, n3, false, fr, false, to, al, bd⟩ : Ip).chk := ⟨_, rfl⟩
  have hsum : foldN (wsum ((⟨n0, n1, n2, n3, false, fr, false, to, al, bd⟩ : Ip).ha ++ (putL ck 2 ++ (⟨n0, n1, n2, n3, false, fr, false, to, al, bd⟩ : Ip).hb))) = 65535 := by
    have e1 := wsum_append (⟨n0, n1, n2, n3, false, fr, false, to, al, bd⟩ : Ip).ha (putL ck 2 ++ (⟨n0, n1, n2, n3, false, fr, false, to, al, bd⟩ : Ip).hb) (by rw [Ip.ha_length])
    have e2 := wsum_append (putL ck 2) (⟨n0, n1, n2, n3, false, fr, false, to, al, bd⟩ : Ip).hb (by rw [putL_length])
    have e3 := wsum_append (⟨n0, n1, n2, n3, false, fr, false, to, al, bd⟩ : Ip).ha (⟨n0, n1, n2, n3, false, fr, false, to, al, bd⟩ : Ip).hb (by rw [Ip.ha_length])
    have e4 := wsum_put2 ck (by rw [hck]; unfold Ip.chk; omega)
    rw [e1, e2, e4, hck, show wsum (⟨n0, n1, n2, n3, false, fr, false, to, al, bd⟩ : Ip).ha + ((⟨n0, n1, n2, n3, false, fr, false, to, al, bd⟩ : Ip).chk + wsum (⟨n0, n1, n2, n3, false, fr, false, to, al, bd⟩ : Ip).hb) = wsum ((⟨n0, n1, n2, n3, false, fr, false, to, al, bd⟩ : Ip).ha ++ (⟨n0, n1, n2, n3, false, fr, false, to, al, bd⟩ : Ip).hb) + (⟨n0, n1, n2, n3, false, fr, false, to, al, bd⟩ : Ip).chk by rw [e3]; omega]
    exact check_good _
  have hW : (⟨n0, n1, n2, n3, false, fr, false, to, al, bd⟩ : Ip).wrt = (⟨n0, n1, n2, n3, false, fr, false, to, al, bd⟩ : Ip).ha ++ (putL ck 2 ++ ((⟨n0, n1, n2, n3, false, fr, false, to, al, bd⟩ : Ip).hb ++ bd)) := by rw [hck]; rfl
  obtain ⟨c0, c1, hcc⟩ : ∃ c0 c1, putL ck 2 = [c0, c1] := ⟨_, _, putL_tw ck⟩
  clear hck
  obtain ⟨sz, hsz⟩ : ∃ sz, sz = 20 + (optL al).length + bd.length := ⟨_, rfl⟩
  have hk4 : (optL al).length ≤ 4 := by cases al <;> simp [optL]
  have q0 := ofNat_small (n := n0) (by omega)
  have q2 := ofNat_small (n := n2) (by omega)
  have q3 := ofNat_small (n := n3) (by omega)
  have q1 := num2_putL n1 (by omega)
  have qs := num2_putL sz (by omega)
  rw [putL_tw] at q1 qs
  have hHa : (⟨n0, n1, n2, n3, false, fr, false, to, al, bd⟩ : Ip).ha = [UInt8.ofNat (69 + (optL al).length / 4), UInt8.ofNat n0, UInt8.ofNat (sz / 256), UInt8.ofNat sz, UInt8.ofNat (n1 / 256), UInt8.ofNat n1, 0, 0, UInt8.ofNat n2, UInt8.ofNat n3] := by
    unfold Ip.ha
    simp only [Int.toNat_natCast, ← hsz, putL_one, putL_tw]
    rfl
  have hHb : (⟨n0, n1, n2, n3, false, fr, false, to, al, bd⟩ : Ip).hb = [f0, f1, f2, f3] ++ ([t0, t1, t2, t3] ++ optL al) := by
    unfold Ip.hb
    simp only [hF, hT]
  rw [hHa, hHb, hcc] at hsum hW
  rw [hW]
  obtain ⟨S, hS⟩ : ∃ S, S = [UInt8.ofNat (69 + (optL al).length / 4), UInt8.ofNat n0, UInt8.ofNat (sz / 256), UInt8.ofNat sz, UInt8.ofNat (n1 / 256), UInt8.ofNat n1, 0, 0, UInt8.ofNat n2, UInt8.ofNat n3, c0, c1, f0, f1, f2, f3, t0, t1, t2, t3] ++ (optL al ++ (bd ++ z)) := ⟨_, rfl⟩
  rw [show [UInt8.ofNat (69 + (optL al).length / 4), UInt8.ofNat n0, UInt8.ofNat (sz / 256), UInt8.ofNat sz, UInt8.ofNat (n1 / 256), UInt8.ofNat n1, 0, 0, UInt8.ofNat n2, UInt8.ofNat n3] ++ ([c0, c1] ++ ([f0, f1, f2, f3] ++ ([t0, t1, t2, t3] ++ optL al) ++ bd)) ++ z = S by rw [hS]; simp]
  clear hW
  have g1 : by8 S 1 = n0 := by rw [hS]; exact q0
  have g4 : wd S 4 = n1 := by rw [hS]; exact q1
  have g8 : by8 S 8 = n2 := by rw [hS]; exact q2
  have g9 : by8 S 9 = n3 := by rw [hS]; exact q3
  have gall : allN S = sz := by rw [hS]; exact qs
  have g6 : wd S 6 = 0 := by rw [hS]; rfl
  have d12 : (S.drop 12).take 4 = [f0, f1, f2, f3] := by rw [hS]; rfl
  have d16 : (S.drop 16).take 4 = [t0, t1, t2, t3] := by rw [hS]; rfl
  have d20 : S.drop 20 = optL al ++ (bd ++ z) := by rw [hS]; rfl
  have hlen : S.length = 20 + (optL al).length + bd.length + z.length := by rw [hS]; simp; omega
  have gb0 : by8 S 0 = 69 + (optL al).length / 4 := by
    have : by8 S 0 = (UInt8.ofNat (69 + (optL al).length / 4)).toNat := by rw [hS]; rfl
    rw [this]; exact ofNat_small (by omega)
  have hlk : (optL al).length = 0 ∨ (optL al).length = 4 := by cases al <;> simp [optL]
  have ghd : hdN S = 20 + (optL al).length := by unfold hdN; rw [gb0]; omega
  have gtk : S.take (20 + (optL al).length) = [UInt8.ofNat (69 + (optL al).length / 4), UInt8.ofNat n0, UInt8.ofNat (sz / 256), UInt8.ofNat sz, UInt8.ofNat (n1 / 256), UInt8.ofNat n1, 0, 0, UInt8.ofNat n2, UInt8.ofNat n3] ++ ([c0, c1] ++ ([f0, f1, f2, f3] ++ ([t0, t1, t2, t3] ++ optL al))) := by
    rw [hS, Nat.add_comm]
    simp [List.take_succ_cons]
  have gopt : optS S = (al, true) := by
    unfold optS
    rw [ghd, d20, show 20 + (optL al).length - 20 = (optL al).length by omega, List.take_left]
    cases al <;> decide
  have gbd : (S.drop (hdN S)).take (allN S - hdN S) = bd := by
    rw [ghd, gall, ← List.drop_drop, d20, List.drop_left, hsz, show 20 + (optL al).length + bd.length - (20 + (optL al).length) = bd.length by omega, List.take_left]
  have hE : hdE S = 0 := hdE_of (by omega) (by omega) (by omega) (by omega) (by rw [ghd, gtk]; exact hsum)
  have bE : bdE S = if bd.length ≤ 1400 then 0 else 6 := by
    unfold bdE
    rw [gall, ghd, g6, gopt, if_neg (by omega), if_neg (by omega), if_neg (by omega), if_neg (by simp)]
    split <;> split <;> omega
  have hwy : why5 S = if bd.length ≤ 1400 then 0 else 6 := by rw [why5_hd hE, bE]
  unfold readV5
  simp only
  rw [hwy]
  split
  · rename_i hle
    rw [if_pos rfl]
    unfold ipOf
    rw [g1, g4, g8, g9, d12, d16, gopt, gbd, r1, r2]
  · rename_i hle
    rw [if_neg (by omega)]
end Go.Proofs.Ytkmnnkklbgnfpaa

/-
  The contract of ip4.Read.
-/
namespace Go.Proofs.Ytkmnnkklbgnfpaa
open Go.RowKit
set_option linter.unusedVariables false
attribute [local go_sem ↓] ld_addr st_addr
attribute [local go_sem] ldr_addr str_addr

theorem zeroI_cells : (ipC zeroI).toArray = #[.int .i64 0, .int .i64 0, .int .i64 0, .int .i64 0, .bool false, .int .u8 0, .int .u8 0, .int .u8 0, .int .u8 0, .int .u8 0, .int .u8 0, .int .u8 0, .int .u8 0, .int .u8 0, .int .u8 0, .int .u8 0, .int .u8 0, .int .u8 0, .int .u8 0, .int .u8 0, .int .u8 0, .bool false, .int .u8 0, .int .u8 0, .int .u8 0, .int .u8 0, .int .u8 0, .int .u8 0, .int .u8 0, .int .u8 0, .int .u8 0, .int .u8 0, .int .u8 0, .int .u8 0, .int .u8 0, .int .u8 0, .int .u8 0, .int .u8 0, .bool false, .string ⟨#[]⟩] := rfl
theorem ipOf_cells (s : List UInt8) (h : 20 ≤ s.length) : (ipC (ipOf s)).toArray = #[.int .i64 (by8 s 1 : Int), .int .i64 (wd s 4 : Int), .int .i64 (by8 s 8 : Int), .int .i64 (by8 s 9 : Int), .bool false, .int .u8 (by8 s 12 : Int), .int .u8 (by8 s 13 : Int), .int .u8 (by8 s 14 : Int), .int .u8 (by8 s 15 : Int), .int .u8 0, .int .u8 0, .int .u8 0, .int .u8 0, .int .u8 0, .int .u8 0, .int .u8 0, .int .u8 0, .int .u8 0, .int .u8 0, .int .u8 0, .int .u8 0, .bool false, .int .u8 (by8 s 16 : Int), .int .u8 (by8 s 17 : Int), .int .u8 (by8 s 18 : Int), .int .u8 (by8 s 19 : Int), .int .u8 0, .int .u8 0, .int .u8 0, .int .u8 0, .int .u8 0, .int .u8 0, .int .u8 0, .int .u8 0, .int .u8 0, .int .u8 0, .int .u8 0, .int .u8 0, .bool (optS s).1, .string (Str ((s.drop (hdN s)).take (allN s - hdN s)))] := by
  obtain ⟨al, hal⟩ : ∃ al, al = (optS s).1 := ⟨_, rfl⟩
  obtain ⟨bd, hbd⟩ : ∃ bd, bd = (s.drop (hdN s)).take (allN s - hdN s) := ⟨_, rfl⟩
  obtain ⟨w4, hw4⟩ : ∃ w4, w4 = wd s 4 := ⟨_, rfl⟩
  unfold ipOf
  rw [← hal, ← hbd, ← hw4]
  clear hal hbd hw4
  have l12 : (s.drop 12).take 4 = [s[12], s[13], s[14], s[15]] := by
    rw [List.drop_eq_getElem_cons (show 12 < s.length by omega), List.drop_eq_getElem_cons (show 13 < s.length by omega), List.drop_eq_getElem_cons (show 14 < s.length by omega), List.drop_eq_getElem_cons (show 15 < s.length by omega)]
    rfl
  have l16 : (s.drop 16).take 4 = [s[16], s[17], s[18], s[19]] := by
    rw [List.drop_eq_getElem_cons (show 16 < s.length by omega), List.drop_eq_getElem_cons (show 17 < s.length by omega), List.drop_eq_getElem_cons (show 18 < s.length by omega), List.drop_eq_getElem_cons (show 19 < s.length by omega)]
    rfl
  rw [l12, l16, by8_get s 12 (by omega), by8_get s 13 (by omega), by8_get s 14 (by omega), by8_get s 15 (by omega), by8_get s 16 (by omega), by8_get s 17 (by omega), by8_get s 18 (by omega), by8_get s 19 (by omega)]
  rfl
theorem bits_and_i64_nat (a b : Nat) (ha : a < 9223372036854775808) (hb : b < 9223372036854775808) :
    bits .and .i64 (a : Int) (b : Int) = ((a &&& b : Nat) : Int) := by
  have hx : a &&& b < 2 ^ 63 := Nat.and_lt_two_pow _ (by omega)
  have h1 : (BitVec.ofInt 64 (a : Int)).toNat = a := by
    rw [BitVec.ofInt_natCast, BitVec.toNat_ofNat]; exact Nat.mod_eq_of_lt (by omega)
  have h2 : (BitVec.ofInt 64 (b : Int)).toNat = b := by
    rw [BitVec.ofInt_natCast, BitVec.toNat_ofNat]; exact Nat.mod_eq_of_lt (by omega)
  show IntKind.i64.wrap ((BitVec.ofInt 64 (a : Int) &&& BitVec.ofInt 64 (b : Int)).toNat : Int) = _
  rw [BitVec.toNat_and, h1, h2, IntKind.wrap_i64]
  omega
theorem and_frag (a : Nat) (ha : a < 65536) : bits .and .i64 (a : Int) 16383 = ((a % 16384 : Nat) : Int) := by
  rw [show (16383 : Int) = ((16383 : Nat) : Int) from rfl, bits_and_i64_nat _ _ (by omega) (by omega), show (16383 : Nat) = 2 ^ 14 - 1 from rfl, Nat.and_two_pow_sub_one_eq_mod]

end Go.Proofs.Ytkmnnkklbgnfpaa

/-
  The document's own reading of a packet: what is wrong.
-/
namespace Go.Proofs.Ytkmnnkklbgnfpaa
open Go.RowKit
set_option linter.unusedVariables false
attribute [local go_sem ↓] ld_addr st_addr
attribute [local go_sem] ldr_addr str_addr

theorem rnum3 (s : List UInt8) (hs : s.length ≤ 100000) (a b : Nat) (w : World) : Calls Try.prog 26 #[.string ((Str s).extract a b)] w fun x w' => x = .returned (.int .u64 (num ((s.drop a).take (b - a)))) ∧ w' = w := by
  have h := rnum_any ((Str s).extract a b) (by unfold maxLen; rw [Str_extract, Str_size]; simp; omega) w
  rw [Str_extract] at h ⊢
  exact h.mono fun x w' h => ⟨h.1, h.2.symm⟩

theorem lt_zero {s : List UInt8} (h : (0 : Int) < (s.length : Int)) : 0 < (Str s).size := by rw [Str_size]; omega

end Go.Proofs.Ytkmnnkklbgnfpaa

/-
  The document's own reading of a packet: good bytes, and any.
-/
namespace Go.Proofs.Ytkmnnkklbgnfpaa
open Go.RowKit
set_option linter.unusedVariables false
attribute [local go_sem ↓] ld_addr st_addr
attribute [local go_sem] ldr_addr str_addr_at

theorem over_fr (e : Ip) (ho : e.ok) (l : List UInt8) (hl : l.length = 16) : over (ipC e) 4 (addrC false l) = ipC ⟨e.tos, e.id, e.ttl, e.pro, false, l, e.t6, e.to, e.al, e.bd⟩ := by
  have h1 : (addrC e.f6 e.fr).length = 17 := by rw [addrC_length, ho.1]
  unfold over ipC
  rw [addrC_length, hl]
  simp only [List.cons_append, List.nil_append, List.take_succ_cons, List.take_zero, List.drop_succ_cons, show 4 + (16 + 1) = 17 + 4 from rfl]
  rw [← h1, List.drop_left]
theorem over_to (e : Ip) (ho : e.ok) (l : List UInt8) (hl : l.length = 16) : over (ipC e) 21 (addrC false l) = ipC ⟨e.tos, e.id, e.ttl, e.pro, e.f6, e.fr, false, l, e.al, e.bd⟩ := by
  have h1 : ([Value.int .i64 e.tos, .int .i64 e.id, .int .i64 e.ttl, .int .i64 e.pro] ++ addrC e.f6 e.fr).length = 21 := by rw [List.length_append, addrC_length, ho.1]; rfl
  have h2 : (addrC e.t6 e.to).length = 17 := by rw [addrC_length, ho.2]
  have e1 : ipC e = ([Value.int .i64 e.tos, .int .i64 e.id, .int .i64 e.ttl, .int .i64 e.pro] ++ addrC e.f6 e.fr) ++ (addrC e.t6 e.to ++ [.bool e.al, .string (Str e.bd)]) := by unfold ipC; simp
  unfold over
  rw [addrC_length, hl, e1, show 21 + (16 + 1) = 21 + 17 from rfl, ← List.drop_drop]
  conv => lhs; rw [← h1]
  rw [List.take_left, List.drop_left, ← h2, List.drop_left]
  unfold ipC
  simp
theorem obj_free_at {w : World} {b o n : Nat} {L : Array Value} {t : TypeId} (h : ObjAt w b L t) (hn : o + n ≤ L.size) : free? w b o n = true := free_of fun j hj => by
  refine ⟨?_, h.free (o + j)⟩
  rw [h.cell (o + j), Array.getElem?_eq_getElem (by omega)]; rfl
theorem lt_size' {s : List UInt8} {i : Nat} (h : (i : Int) < (s.length : Int)) : i < (Str s).size := by rw [Str_size]; omega

end Go.Proofs.Ytkmnnkklbgnfpaa


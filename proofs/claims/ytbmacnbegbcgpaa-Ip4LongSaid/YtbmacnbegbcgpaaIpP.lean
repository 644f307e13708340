/-
  What bytes are as a packet: plain facts. What is read of a packet's own bytes; what is read of bytes one hop further.
-/
import Derived.Test.YtbmacnbegbcgpaaIpW
import Derived.Test.YtbmacnbegbcgpaaPureIp
import Derived.Test.YtbmacnbegbcgpaaSum
namespace Go.Proofs.Ytbmacnbegbcgpaa
open Go.RowKit
set_option linter.unusedVariables false

def zeroI : Ip := ⟨0, 0, 0, 0, false, [0, 0, 0, 0, 0, 0, 0, 0, 0, 0, 0, 0, 0, 0, 0, 0], false, [0, 0, 0, 0, 0, 0, 0, 0, 0, 0, 0, 0, 0, 0, 0, 0], false, []⟩
theorem zeroI_ok : zeroI.ok := ⟨rfl, rfl⟩
def ipOf (s : List UInt8) : Ip := ⟨by8 s 1, wd s 4, by8 s 8, by8 s 9, false, readV ((s.drop 12).take 4), false, readV ((s.drop 16).take 4), (optS s).1, (s.drop (hdN s)).take (allN s - hdN s)⟩
def readV5 (s : List UInt8) : Ip × Int := if why5 s = 0 then (ipOf s, 0) else (zeroI, why5 s)
theorem ipOf_ok (s : List UInt8) : (ipOf s).ok := ⟨readV_length _ (by simp; omega), readV_length _ (by simp; omega)⟩
theorem goodV_read (x : List UInt8) (h : x.length = 4) : goodV false (readV x) = true := by
  match x, h with
  | [a, b, c, d], _ =>
    unfold goodV
    rw [Bool.false_or, decide_eq_true_eq]
    rfl
theorem goodV_four (l : List UInt8) (h : l.length = 16) (hg : goodV false l = true) : readV (l.take 4) = l := by
  unfold goodV at hg
  rw [Bool.false_or, decide_eq_true_eq] at hg
  rw [hg]
  match l, h with
  | [a, b, c, d, _, _, _, _, _, _, _, _, _, _, _, _], _ => rfl
theorem ipOf_good {s : List UInt8} (h : why5 s = 0) : (ipOf s).good = true := by
  obtain ⟨h1, h2⟩ := why5_zero h
  obtain ⟨a1, a2, a3, a4, a5, a6⟩ := hdE_zero h1
  obtain ⟨b1, b2, b3, b4, b5⟩ := bdE_zero h2
  have g1 := goodV_read ((s.drop 12).take 4) (by simp; omega)
  have g2 := goodV_read ((s.drop 16).take 4) (by simp; omega)
  have c1 := by8_lt s 1; have c2 := wd_lt s 4 (by omega); have c3 := by8_lt s 8; have c4 := by8_lt s 9
  unfold Ip.good Ip.nums ipOf
  simp only [g1, g2, Bool.not_false, Bool.true_and, Bool.and_eq_true, decide_eq_true_eq, List.length_take, List.length_drop]
  omega
theorem readV5_ok (s : List UInt8) : (readV5 s).1.ok := by
  unfold readV5; split
  · exact ipOf_ok s
  · exact zeroI_ok

theorem take4 {l : List UInt8} (h : l.length = 16) : ∃ a b c d, l.take 4 = [a, b, c, d] := by
  match l, h with
  | [a, b, c, d, _, _, _, _, _, _, _, _, _, _, _, _], _ => exact ⟨a, b, c, d, rfl⟩
theorem putL_one (n : Nat) : putL n 1 = [UInt8.ofNat n] := by simp [putL]
theorem putL_tw (n : Nat) : putL n 2 = [UInt8.ofNat (n / 256), UInt8.ofNat n] := by simp [putL]
theorem ofNat_small {n : Nat} (h : n < 256) : (UInt8.ofNat n).toNat = n := by rw [UInt8.toNat_ofNat']; omega

set_option maxRecDepth 100000 in
theorem read_wrt5 (p : Ip) (ho : p.ok) (hn : p.nums = true) (hf : p.f6 = false) (ht : p.t6 = false) (h1 : goodV false p.fr = true) (h2 : goodV false p.to = true) (hl : p.bd.length ≤ 60000) (z : List UInt8) :
    readV5 (p.wrt ++ z) = if p.bd.length ≤ 1400 then (p, 0) else (zeroI, 6) := by
  obtain ⟨tos, id, ttl, pro, f6, fr, t6, to, al, bd⟩ := p
  obtain ⟨ho1, ho2⟩ := ho
  simp only at hf ht h1 h2 hl ho1 ho2
  subst hf ht
  unfold Ip.nums at hn
  rw [decide_eq_true_eq] at hn
  simp only at hn
  obtain ⟨a0, a1, a2, a3, a4, a5, a6, a7⟩ := hn
  obtain ⟨n0, rfl⟩ := Int.eq_ofNat_of_zero_le a0
  obtain ⟨n1, rfl⟩ := Int.eq_ofNat_of_zero_le a6
  obtain ⟨n2, rfl⟩ := Int.eq_ofNat_of_zero_le a2
  obtain ⟨n3, rfl⟩ := Int.eq_ofNat_of_zero_le a4
  obtain ⟨f0, f1, f2, f3, hF⟩ := take4 ho1
  obtain ⟨t0, t1, t2, t3, hT⟩ := take4 ho2
  have r1 := goodV_four fr ho1 h1
  have r2 := goodV_four to ho2 h2
  rw [hF] at r1
  rw [hT] at r2
  obtain ⟨ck, hck⟩ : ∃ c, c = (⟨n0, n1, n2, n3, false, fr, false, to, al, bd⟩ : Ip).chk := ⟨_, rfl⟩
  have hsum : foldN (wsum ((⟨n0, n1, n2, n3, false, fr, false, to, al, bd⟩ : Ip).ha ++ (putL ck 2 ++ (⟨n0, n1, n2, n3, false, fr, false, to, al, bd⟩ : Ip).hb))) = 65535 := by
    have e1 := wsum_append (⟨n0, n1, n2, n3, false, fr, false, to, al, bd⟩ : Ip).ha (putL ck 2 ++ (⟨n0, n1, n2, n3, false, fr, false, to, al, bd⟩ : Ip).hb) (by rw [Ip.ha_length])
    have e2 := wsum_append (putL ck 2) (⟨n0, n1, n2, n3, false, fr, false, to, al, bd⟩ : Ip).hb (by rw [putL_length])
    have e3 := wsum_append (⟨n0, n1, n2, n3, false, fr, false, to, al, bd⟩ : Ip).ha (⟨n0, n1, n2, n3, false, fr, false, to, al, bd⟩ : Ip).hb (by rw [Ip.ha_length])
    have e4 := wsum_put2 ck (by rw [hck]; unfold Ip.chk; omega)
    rw [e1, e2, e4, hck, show wsum (⟨n0, n1, n2, n3, false, fr, false, to, al, bd⟩ : Ip).ha + ((⟨n0, n1, n2, n3, false, fr, false, to, al, bd⟩ : Ip).chk + wsum (⟨n0, n1, n2, n3, false, fr, false, to, al, bd⟩ : Ip).hb) = wsum ((⟨n0, n1, n2, n3, false, fr, false, to, al, bd⟩ : Ip).ha ++ (⟨n0, n1, n2, n3, false, fr, false, to, al, bd⟩ : Ip).hb) + (⟨n0, n1, n2, n3, false, fr, false, to, al, bd⟩ : Ip).chk by rw [e3]; omega]
    exact check_good _
  have hW : (⟨n0, n1, n2, n3, false, fr, false, to, al, bd⟩ : Ip).wrt = (⟨n0, n1, n2, n3, false, fr, false, to, al, bd⟩ : Ip).ha ++ (putL ck 2 ++ ((⟨n0, n1, n2, n3, false, fr, false, to, al, bd⟩ : Ip).hb ++ bd)) := by rw [hck]; rfl
  obtain ⟨c0, c1, hcc⟩ : ∃ c0 c1, putL ck 2 = [c0, c1] := ⟨_, _, putL_tw ck⟩
  clear hck
  obtain ⟨sz, hsz⟩ : ∃ sz, sz = 20 + (optL al).length + bd.length := ⟨_, rfl⟩
  have hk4 : (optL al).length ≤ 4 := by cases al <;> simp [optL]
  have q0 := ofNat_small (n := n0) (by omega)
  have q2 := ofNat_small (n := n2) (by omega)
  have q3 := ofNat_small (n := n3) (by omega)
  have q1 := num2_putL n1 (by omega)
  have qs := num2_putL sz (by omega)
  rw [putL_tw] at q1 qs
  have hHa : (⟨n0, n1, n2, n3, false, fr, false, to, al, bd⟩ : Ip).ha = [UInt8.ofNat (69 + (optL al).length / 4), UInt8.ofNat n0, UInt8.ofNat (sz / 256), UInt8.ofNat sz, UInt8.ofNat (n1 / 256), UInt8.ofNat n1, 0, 0, UInt8.ofNat n2, UInt8.ofNat n3] := by
    unfold Ip.ha
    simp only [Int.toNat_natCast, ← hsz, putL_one, putL_tw]
    rfl
  have hHb : (⟨n0, n1, n2, n3, false, fr, false, to, al, bd⟩ : Ip).hb = [f0, f1, f2, f3] ++ ([t0, t1, t2, t3] ++ optL al) := by
    unfold Ip.hb
    simp only [hF, hT]
  rw [hHa, hHb, hcc] at hsum hW
  rw [hW]
  obtain ⟨S, hS⟩ : ∃ S, S = [UInt8.ofNat (69 + (optL al).length / 4), UInt8.ofNat n0, UInt8.ofNat (sz / 256), UInt8.ofNat sz, UInt8.ofNat (n1 / 256), UInt8.ofNat n1, 0, 0, UInt8.ofNat n2, UInt8.ofNat n3, c0, c1, f0, f1, f2, f3, t0, t1, t2, t3] ++ (optL al ++ (bd ++ z)) := ⟨_, rfl⟩
  rw [show [UInt8.ofNat (69 + (optL al).length / 4), UInt8.ofNat n0, UInt8.ofNat (sz / 256), UInt8.ofNat sz, UInt8.ofNat (n1 / 256), UInt8.ofNat n1, 0, 0, UInt8.ofNat n2, UInt8.ofNat n3] ++ ([c0, c1] ++ ([f0, f1, f2, f3] ++ ([t0, t1, t2, t3] ++ optL al) ++ bd)) ++ z = S by rw [hS]; simp]
  clear hW
  have g1 : by8 S 1 = n0 := by rw [hS]; exact q0
  have g4 : wd S 4 = n1 := by rw [hS]; exact q1
  have g8 : by8 S 8 = n2 := by rw [hS]; exact q2
  have g9 : by8 S 9 = n3 := by rw [hS]; exact q3
  have gall : allN S = sz := by rw [hS]; exact qs
  have g6 : wd S 6 = 0 := by rw [hS]; rfl
  have d12 : (S.drop 12).take 4 = [f0, f1, f2, f3] := by rw [hS]; rfl
  have d16 : (S.drop 16).take 4 = [t0, t1, t2, t3] := by rw [hS]; rfl
  have d20 : S.drop 20 = optL al ++ (bd ++ z) := by rw [hS]; rfl
  have hlen : S.length = 20 + (optL al).length + bd.length + z.length := by rw [hS]; simp; omega
  have gb0 : by8 S 0 = 69 + (optL al).length / 4 := by
    have : by8 S 0 = (UInt8.ofNat (69 + (optL al).length / 4)).toNat := by rw [hS]; rfl
    rw [this]; exact ofNat_small (by omega)
  have hlk : (optL al).length = 0 ∨ (optL al).length = 4 := by cases al <;> simp [optL]
  have ghd : hdN S = 20 + (optL al).length := by unfold hdN; rw [gb0]; omega
  have gtk : S.take (20 + (optL al).length) = [UInt8.ofNat (69 + (optL al).length / 4), UInt8.ofNat n0, UInt8.ofNat (sz / 256), UInt8.ofNat sz, UInt8.ofNat (n1 / 256), UInt8.ofNat n1, 0, 0, UInt8.ofNat n2, UInt8.ofNat n3] ++ ([c0, c1] ++ ([f0, f1, f2, f3] ++ ([t0, t1, t2, t3] ++ optL al))) := by
    rw [hS, Nat.add_comm]
    simp [List.take_succ_cons]
  have gopt : optS S = (al, true) := by
    unfold optS
    rw [ghd, d20, show 20 + (optL al).length - 20 = (optL al).length by omega, List.take_left]
    cases al <;> decide
  have gbd : (S.drop (hdN S)).take (allN S - hdN S) = bd := by
    rw [ghd, gall, ← List.drop_drop, d20, List.drop_left, hsz, show 20 + (optL al).length + bd.length - (20 + (optL al).length) = bd.length by omega, List.take_left]
  have hE : hdE S = 0 := hdE_of (by omega) (by omega) (by omega) (by omega) (by rw [ghd, gtk]; exact hsum)
  have bE : bdE S = if bd.length ≤ 1400 then 0 else 6 := by
    unfold bdE
    rw [gall, ghd, g6, gopt, if_neg (by omega), if_neg (by omega), if_neg (by omega), if_neg (by simp)]
    split <;> split <;> omega
  have hwy : why5 S = if bd.length ≤ 1400 then 0 else 6 := by rw [why5_hd hE, bE]
  unfold readV5
  simp only
  rw [hwy]
  split
  · rename_i hle
    rw [if_pos rfl]
    unfold ipOf
    rw [g1, g4, g8, g9, d12, d16, gopt, gbd, r1, r2]
  · rename_i hle
    rw [if_neg (by omega)]
end Go.Proofs.Ytbmacnbegbcgpaa

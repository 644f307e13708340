/-
  Texts joined: PureIp, IpP.
-/
import Derived.Test.YtchbkamjmkfikaaMg12
import Derived.Test.YtchbkamjmkfikaaMg10
import Derived.Test.YtchbkamjmkfikaaMg11
/-
  Packets of IPv4 as plain data: options, what is wrong of bytes, their parts, one hop further. Nothing of the program.
-/
namespace Go.Proofs.Ytchbkamjmkfikaa
open Go.RowKit
set_option linter.unusedVariables false

/-- The alert's bytes. -/
def alertL : List UInt8 := [148, 4, 0, 0]
/-- What options tell: whether there is an alert among them, and whether they are well; so many at most. -/
def optV : Nat → Bool → List UInt8 → Bool × Bool
  | 0, is, _ => (is, true)
  | _ + 1, is, [] => (is, true)
  | f + 1, is, b :: r =>
    if b.toNat = 0 then (is, true)
    else if b.toNat = 1 then optV f is r
    else match r with
      | [] => (false, false)
      | n :: r' => if n.toNat < 2 ∨ r'.length + 2 < n.toNat then (false, false) else optV f (is || decide ((b :: n :: r').take n.toNat = alertL)) ((b :: n :: r').drop n.toNat)
def optR (is : Bool) (l : List UInt8) : Bool × Bool := optV l.length is l
theorem optV_enough : ∀ (f g : Nat) (is : Bool) (l : List UInt8), l.length ≤ f → l.length ≤ g → optV f is l = optV g is l := by
  intro f
  induction f with
  | zero =>
    intro g is l h1 h2
    have : l = [] := List.eq_nil_of_length_eq_zero (by omega)
    subst this
    cases g <;> rfl
  | succ f ih =>
    intro g is l h1 h2
    cases l with
    | nil => cases g <;> rfl
    | cons b r =>
      cases g with
      | zero => simp at h2
      | succ g =>
        simp only [List.length_cons] at h1 h2
        unfold optV
        split
        · rfl
        · split
          · exact ih g is r (by omega) (by omega)
          · cases r with
            | nil => rfl
            | cons n r' =>
              simp only [List.length_cons] at h1 h2
              simp only
              split
              · rfl
              · apply ih <;> simp only [List.length_drop, List.length_cons] <;> omega
theorem optR_nil (is : Bool) : optR is [] = (is, true) := rfl
theorem optR_end (is : Bool) (b : UInt8) (r : List UInt8) (h : b.toNat = 0) : optR is (b :: r) = (is, true) := by
  unfold optR; simp only [List.length_cons]; unfold optV; rw [if_pos h]
theorem optR_pad (is : Bool) (b : UInt8) (r : List UInt8) (h : b.toNat = 1) : optR is (b :: r) = optR is r := by
  unfold optR; simp only [List.length_cons]; conv => lhs; unfold optV
  rw [if_neg (by omega), if_pos h]
theorem optR_last (is : Bool) (b : UInt8) (h0 : b.toNat ≠ 0) (h1 : b.toNat ≠ 1) : optR is [b] = (false, false) := by
  unfold optR; simp only [List.length_cons]; unfold optV; rw [if_neg h0, if_neg h1]
theorem optR_bad (is : Bool) (b n : UInt8) (r : List UInt8) (h0 : b.toNat ≠ 0) (h1 : b.toNat ≠ 1) (h : n.toNat < 2 ∨ r.length + 2 < n.toNat) : optR is (b :: n :: r) = (false, false) := by
  unfold optR; simp only [List.length_cons]; unfold optV; rw [if_neg h0, if_neg h1]
  simp only
  rw [if_pos h]
theorem optR_step (is : Bool) (b n : UInt8) (r : List UInt8) (h0 : b.toNat ≠ 0) (h1 : b.toNat ≠ 1) (h : 2 ≤ n.toNat) (h' : n.toNat ≤ r.length + 2) : optR is (b :: n :: r) = optR (is || decide ((b :: n :: r).take n.toNat = alertL)) ((b :: n :: r).drop n.toNat) := by
  unfold optR; simp only [List.length_cons]; conv => lhs; unfold optV
  rw [if_neg h0, if_neg h1]
  simp only
  rw [if_neg (by omega)]
  apply optV_enough <;> simp only [List.length_drop, List.length_cons] <;> omega
theorem alert_of {l : List UInt8} (h : 4 ≤ l.length) : (l.take 4 = alertL) ↔ ((l[0]'(by omega)).toNat = 148 ∧ (l[1]'(by omega)).toNat = 4 ∧ (l[2]'(by omega)).toNat = 0 ∧ (l[3]'(by omega)).toNat = 0) := by
  match l, h with
  | a :: b :: c :: d :: r, _ =>
    simp only [List.take_succ_cons, List.take_zero, alertL, List.cons.injEq, and_true, List.getElem_cons_zero, List.getElem_cons_succ]
    rw [← UInt8.toNat_inj, ← UInt8.toNat_inj, ← UInt8.toNat_inj, ← UInt8.toNat_inj]
    rfl
/-- An option's bytes are an alert's. -/
theorem take_alert (l : List UInt8) (n : Nat) (hn : n ≤ l.length) (hne : n ≠ 4) : decide (l.take n = alertL) = false := by
  rw [decide_eq_false_iff_not]
  intro h
  have := congrArg List.length h
  rw [List.length_take] at this
  simp [alertL] at this
  omega

/-- A byte, and a word. -/
def by8 (s : List UInt8) (i : Nat) : Nat := (s.getD i 0).toNat
def wd (s : List UInt8) (i : Nat) : Nat := num ((s.drop i).take 2)
theorem by8_get (s : List UInt8) (i : Nat) (h : i < s.length) : by8 s i = (s[i]).toNat := by
  unfold by8; rw [List.getD_eq_getElem?_getD, List.getElem?_eq_getElem h]; rfl
theorem by8_lt (s : List UInt8) (i : Nat) : by8 s i < 256 := (s.getD i 0).toNat_lt
theorem wd_eq (s : List UInt8) (i : Nat) (h : i + 2 ≤ s.length) : wd s i = 256 * by8 s i + by8 s (i + 1) := by
  unfold wd
  rw [List.drop_eq_getElem_cons (show i < s.length by omega), List.drop_eq_getElem_cons (show i + 1 < s.length by omega)]
  rw [by8_get s i (by omega), by8_get s (i + 1) (by omega)]
  simp only [List.take_succ_cons, List.take_zero]
  rw [num_two]; omega
theorem wd_lt (s : List UInt8) (i : Nat) (h : i + 2 ≤ s.length) : wd s i < 65536 := by
  rw [wd_eq s i h]; have := by8_lt s i; have := by8_lt s (i + 1); omega
/-- How many bytes the first option takes; 0: it is not well. -/
def osz (l : List UInt8) : Nat := if by8 l 0 = 1 then 1 else if l.length < 2 ∨ by8 l 1 < 2 ∨ l.length < by8 l 1 then 0 else by8 l 1
theorem optR_osz0 (is : Bool) (l : List UInt8) (hl : 0 < l.length) (h0 : by8 l 0 ≠ 0) (h : osz l = 0) : optR is l = (false, false) := by
  unfold osz at h
  split at h
  · omega
  rename_i h1
  match l, hl with
  | [b], _ => exact optR_last is b h0 h1
  | b :: n :: r, _ =>
    have e0 : by8 (b :: n :: r) 0 = b.toNat := rfl
    have e1 : by8 (b :: n :: r) 1 = n.toNat := rfl
    rw [e0] at h0 h1
    rw [e1] at h
    simp only [List.length_cons] at h
    split at h
    · rename_i h2; exact optR_bad is b n r h0 h1 (by omega)
    · omega
theorem osz_le (l : List UInt8) (hl : 0 < l.length) : osz l ≤ l.length := by
  unfold osz; split
  · omega
  · split <;> omega
theorem optR_osz (is : Bool) (l : List UInt8) (hl : 0 < l.length) (h0 : by8 l 0 ≠ 0) (h : osz l ≠ 0) : optR is l = optR (is || decide (l.take (osz l) = alertL)) (l.drop (osz l)) := by
  have hle := osz_le l hl
  by_cases h1 : by8 l 0 = 1
  · have e : osz l = 1 := by unfold osz; rw [if_pos h1]
    rw [e] at hle ⊢
    rw [take_alert l 1 hle (by omega), Bool.or_false]
    match l, hl with
    | b :: r, _ => exact optR_pad is b r h1
  · unfold osz at h
    rw [if_neg h1] at h
    have e : osz l = by8 l 1 := by
      unfold osz
      rw [if_neg h1]
      split at h
      · omega
      · rename_i h2; rw [if_neg h2]
    split at h
    · omega
    rename_i h2
    rw [e]
    match l, hl with
    | [b], _ => simp at h2
    | b :: n :: r, _ =>
      simp only [List.length_cons] at h2
      exact optR_step is b n r h0 h1 (by have : by8 (b :: n :: r) 1 = n.toNat := rfl; omega) (by have : by8 (b :: n :: r) 1 = n.toNat := rfl; omega)
/-- The header's size, and the packet's. -/
def hdN (s : List UInt8) : Nat := 4 * (by8 s 0 % 16)
def allN (s : List UInt8) : Nat := wd s 2
def optS (s : List UInt8) : Bool × Bool := optR false ((s.drop 20).take (hdN s - 20))
/-- What is wrong of a header. -/
def hdE (s : List UInt8) : Int :=
  if s.length < 20 then 3
  else if by8 s 0 / 16 ≠ 4 then 5
  else if hdN s < 20 then 2
  else if s.length < hdN s then 3
  else if foldN (wsum (s.take (hdN s))) ≠ 65535 then 4
  else 0
/-- What is wrong behind it. -/
def bdE (s : List UInt8) : Int :=
  if allN s < hdN s then 2
  else if s.length < allN s then 3
  else if wd s 6 % 16384 ≠ 0 then 5
  else if (optS s).2 = false then 2
  else if 1400 < allN s - hdN s then 6
  else 0
def why5 (s : List UInt8) : Int := if hdE s ≠ 0 then hdE s else bdE s
theorem hdE_zero {s : List UInt8} (h : hdE s = 0) : 20 ≤ s.length ∧ by8 s 0 / 16 = 4 ∧ 20 ≤ hdN s ∧ hdN s ≤ s.length ∧ hdN s ≤ 60 ∧ foldN (wsum (s.take (hdN s))) = 65535 := by
  unfold hdE at h
  have h60 : hdN s ≤ 60 := by unfold hdN; omega
  split at h
  · omega
  split at h
  · omega
  split at h
  · omega
  split at h
  · omega
  split at h
  · omega
  rename_i h1 h2 h3 h4 h5
  exact ⟨by omega, by omega, by omega, by omega, h60, Decidable.byContradiction h5⟩
theorem bdE_zero {s : List UInt8} (h : bdE s = 0) : hdN s ≤ allN s ∧ allN s ≤ s.length ∧ wd s 6 % 16384 = 0 ∧ (optS s).2 = true ∧ allN s - hdN s ≤ 1400 := by
  unfold bdE at h
  split at h
  · omega
  split at h
  · omega
  split at h
  · omega
  split at h
  · omega
  split at h
  · omega
  rename_i h1 h2 h3 h4 h5
  exact ⟨by omega, by omega, by omega, by simpa using h4, by omega⟩
theorem hdE_of {s : List UInt8} (h1 : 20 ≤ s.length) (h2 : by8 s 0 / 16 = 4) (h3 : 20 ≤ hdN s) (h4 : hdN s ≤ s.length) (h5 : foldN (wsum (s.take (hdN s))) = 65535) : hdE s = 0 := by
  unfold hdE
  rw [if_neg (by omega), if_neg (by omega), if_neg (by omega), if_neg (by omega), if_neg (by simp [h5])]
theorem why5_zero {s : List UInt8} (h : why5 s = 0) : hdE s = 0 ∧ bdE s = 0 := by
  unfold why5 at h
  split at h
  · rename_i h1; exact absurd h h1
  · rename_i h1; exact ⟨Decidable.byContradiction h1, h⟩
theorem why5_hd {s : List UInt8} (h : hdE s = 0) : why5 s = bdE s := by unfold why5; rw [if_neg (by simp [h])]
theorem why5_bad {s : List UInt8} (h : hdE s ≠ 0) : why5 s = hdE s := by unfold why5; rw [if_pos h]

/-- Sums. -/
theorem check_good (x : Nat) : foldN (x + (65535 - foldN x)) = 65535 := by
  rcases Nat.eq_zero_or_pos x with rfl | hp
  · rfl
  · have h := foldN_pos hp
    obtain ⟨k, hk⟩ : ∃ k, x + (65535 - foldN x) = 65535 + 65535 * k := ⟨(x - 1) / 65535, by rw [h]; omega⟩
    rw [hk, foldN_more _ _ (by omega)]; rfl
theorem wsum_put2 (c : Nat) (h : c ≤ 65535) : wsum (putL c 2) = c := by
  simp only [putL]
  rw [wsum_two, UInt8.toNat_ofNat', UInt8.toNat_ofNat']
  simp
  omega
theorem fold_all {x : Nat} (h : foldN x = 65535) : 0 < x ∧ x % 65535 = 0 := by
  rcases Nat.eq_zero_or_pos x with rfl | hp
  · simp [foldN_zero] at h
  · rw [foldN_pos hp] at h; omega
theorem all_fold {x : Nat} (h : 0 < x) (h2 : x % 65535 = 0) : foldN x = 65535 := by
  rw [foldN_pos h]; omega
/-- A check that is turned with a word keeps the sum good. -/
theorem turned_good (A o x c B : Nat) (ho : o ≤ 65535) (hc : c ≤ 65535) (hx : x ≤ 65535) (hA : 0 < A) (h : foldN (A + (o + (c + B))) = 65535) :
    foldN (A + (x + ((65535 - foldN ((65535 - c) + (65535 - o) + x)) + B))) = 65535 := by
  obtain ⟨_, h2⟩ := fold_all h
  have hle := foldN_le ((65535 - c) + (65535 - o) + x)
  apply all_fold (by omega)
  rcases Nat.eq_zero_or_pos ((65535 - c) + (65535 - o) + x) with h0 | hp
  · rw [h0, foldN_zero]; omega
  · have h3 := foldN_pos hp
    generalize foldN ((65535 - c) + (65535 - o) + x) = f at *
    omega
end Go.Proofs.Ytchbkamjmkfikaa

/-
  What bytes are as a packet: plain facts. What is read of a packet's own bytes; what is read of bytes one hop further.
-/
namespace Go.Proofs.Ytchbkamjmkfikaa
open Go.RowKit
set_option linter.unusedVariables false

def zeroI : Ip := ⟨0, 0, 0, 0, false, [0, 0, 0, 0, 0, 0, 0, 0, 0, 0, 0, 0, 0, 0, 0, 0], false, [0, 0, 0, 0, 0, 0, 0, 0, 0, 0, 0, 0, 0, 0, 0, 0], false, []⟩
theorem zeroI_ok : zeroI.ok := ⟨rfl, rfl⟩
def ipOf (s : List UInt8) : Ip := ⟨by8 s 1, wd s 4, by8 s 8, by8 s 9, false, readV ((s.drop 12).take 4), false, readV ((s.drop 16).take 4), (optS s).1, (s.drop (hdN s)).take (allN s - hdN s)⟩
def readV5 (s : List UInt8) : Ip × Int := if why5 s = 0 then (ipOf s, 0) else (zeroI, why5 s)
theorem ipOf_ok (s : List UInt8) : (ipOf s).ok := ⟨readV_length _ (by simp; omega), readV_length _ (by simp; omega)⟩
theorem goodV_read (x : List UInt8) (h : x.length = 4) : goodV false (readV x) = true := by
  match x, h with
  | [a, b, c, d], _ =>
    unfold goodV
    rw [Bool.false_or, decide_eq_true_eq]
    rfl
theorem goodV_four (l : List UInt8) (h : l.length = 16) (hg : goodV false l = true) : readV (l.take 4) = l := by
  unfold goodV at hg
  rw [Bool.false_or, decide_eq_true_eq] at hg
  rw [hg]
  match l, h with
  | [a, b, c, d, _, _, _, _, _, _, _, _, _, _, _, _], _ => rfl
theorem ipOf_good {s : List UInt8} (h : why5 s = 0) : (ipOf s).good = true := by
  obtain ⟨h1, h2⟩ := why5_zero h
  obtain ⟨a1, a2, a3, a4, a5, a6⟩ := hdE_zero h1
  obtain ⟨b1, b2, b3, b4, b5⟩ := bdE_zero h2
  have g1 := goodV_read ((s.drop 12).take 4) (by simp; omega)
  have g2 := goodV_read ((s.drop 16).take 4) (by simp; omega)
  have c1 := by8_lt s 1; have c2 := wd_lt s 4 (by omega); have c3 := by8_lt s 8; have c4 := by8_lt s 9
  unfold Ip.good Ip.nums ipOf
  simp only [g1, g2, Bool.not_false, Bool.true_and, Bool.and_eq_true, decide_eq_true_eq, List.length_take, List.length_drop]
  omega
theorem readV5_ok (s : List UInt8) : (readV5 s).1.ok := by
  unfold readV5; split
  · exact ipOf_ok s
  · exact zeroI_ok

theorem take4 {l : List UInt8} (h : l.length = 16) : ∃ a b c d, l.take 4 = [a, b, c, d] := by
  match l, h with
  | [a, b, c, d, _, _, _, _, _, _, _, _, _, _, _, _], _ => exact ⟨a, b, c, d, rfl⟩
theorem putL_one (n : Nat) : putL n 1 = [UInt8.ofNat n] := by simp [putL]
theorem putL_tw (n : Nat) : putL n 2 = [UInt8.ofNat (n / 256), UInt8.ofNat n] := by simp [putL]
theorem ofNat_small {n : Nat} (h : n < 256) : (UInt8.ofNat n).toNat = n := by rw [UInt8.toNat_ofNat']; omega

set_option maxRecDepth 100000 in
theorem read_wrt5 (p : Ip) (ho : p.ok) (hn : p.nums = true) (hf : p.f6 = false) (ht : p.t6 = false) (h1 : goodV false p.fr = true) (h2 : goodV false p.to = true) (hl : p.bd.length ≤ 60000) (z : List UInt8) :
    readV5 (p.wrt ++ z) = if p.bd.length ≤ 1400 then (p, 0) else (zeroI, 6) := by
  obtain ⟨tos, id, ttl, pro, f6, fr, t6, to, al, bd⟩ := p
  obtain ⟨ho1, ho2⟩ := ho
  simp only at hf ht h1 h2 hl ho1 ho2
  subst hf ht
  unfold Ip.nums at hn
  rw [decide_eq_true_eq] at hn
  simp only at hn
  obtain ⟨a0, a1, a2, a3, a4, a5, a6, a7⟩ := hn
  obtain ⟨n0, rfl⟩ := Int.eq_ofNat_of_zero_le a0
  obtain ⟨n1, rfl⟩ := Int.eq_ofNat_of_zero_le a6
  obtain ⟨n2, rfl⟩ := Int.eq_ofNat_of_zero_le a2
  obtain ⟨n3, rfl⟩ := Int.eq_ofNat_of_zero_le a4
  obtain ⟨f0, f1, f2, f3, hF⟩ := take4 ho1
  obtain ⟨t0, t1, t2, t3, hT⟩ := take4 ho2
  have r1 := goodV_four fr ho1 h1
  have r2 := goodV_four to ho2 h2
  rw [hF] at r1
  rw [hT] at r2
  obtain ⟨ck, hck⟩ : ∃ c, c = (⟨n0, n1, n2, n3, false, fr, false, to, al, bd⟩ : Ip).chk := ⟨_, rfl⟩
  have hsum : foldN (wsum ((⟨n0, n1, n2, n3, false, fr, false, to, al, bd⟩ : Ip).ha ++ (putL ck 2 ++ (⟨n0, n1, n2, n3, false, fr, false, to, al, bd⟩ : Ip).hb))) = 65535 := by
    have e1 := wsum_append (⟨n0, n1, n2, n3, false, fr, false, to, al, bd⟩ : Ip).ha (putL ck 2 ++ (⟨n0, n1, n2, n3, false, fr, false, to, al, bd⟩ : Ip).hb) (by rw [Ip.ha_length])
    have e2 := wsum_append (putL ck 2) (⟨n0, n1, n2, n3, false, fr, false, to, al, bd⟩ : Ip).hb (by rw [putL_length])
    have e3 := wsum_append (⟨n0, n1, n2, n3, false, fr, false, to, al, bd⟩ : Ip).ha (⟨n0, n1, n2, n3, false, fr, false, to, al, bd⟩ : Ip).hb (by rw [Ip.ha_length])
    have e4 := wsum_put2 ck (by rw [hck]; unfold Ip.chk; omega)
    rw [e1, e2, e4, hck, show wsum (⟨n0, n1, n2, n3, false, fr, false, to, al, bd⟩ : Ip).ha + ((⟨n0, n1, n2, n3, false, fr, false, to, al, bd⟩ : Ip).chk + wsum (⟨n0, n1, n2, n3, false, fr, false, to, al, bd⟩ : Ip).hb) = wsum ((⟨n0, n1, n2, n3, false, fr, false, to, al, bd⟩ : Ip).ha ++ (⟨n0, n1, n2, n3, false, fr, false, to, al, bd⟩ : Ip).hb) + (⟨n0, n1, n2, n3, false, fr, false, to, al, bd⟩ : Ip).chk by rw [e3]; omega]
    exact check_good _
  have hW : (⟨n0, n1, n2, n3, false, fr, false, to, al, bd⟩ : Ip).wrt = (⟨n0, n1, n2, n3, false, fr, false, to, al, bd⟩ : Ip).ha ++ (putL ck 2 ++ ((⟨n0, n1, n2, n3, false, fr, false, to, al, bd⟩ : Ip).hb ++ bd)) := by rw [hck]; rfl
  obtain ⟨c0, c1, hcc⟩ : ∃ c0 c1, putL ck 2 = [c0, c1] := ⟨_, _, putL_tw ck⟩
  clear hck
  obtain ⟨sz, hsz⟩ : ∃ sz, sz = 20 + (optL al).length + bd.length := ⟨_, rfl⟩
  have hk4 : (optL al).length ≤ 4 := by cases al <;> simp [optL]
  have q0 := ofNat_small (n := n0) (by omega)
  have q2 := ofNat_small (n := n2) (by omega)
  have q3 := ofNat_small (n := n3) (by omega)
  have q1 := num2_putL n1 (by omega)
  have qs := num2_putL sz (by omega)
  rw [putL_tw] at q1 qs
  have hHa : (⟨n0, n1, n2, n3, false, fr, false, to, al, bd⟩ : Ip).ha = [UInt8.ofNat (69 + (optL al).length / 4), UInt8.ofNat n0, UInt8.ofNat (sz / 256), UInt8.ofNat sz, UInt8.ofNat (n1 / 256), UInt8.ofNat n1, 0, 0, UInt8.ofNat n2, UInt8.ofNat n3] := by
    unfold Ip.ha
    simp only [Int.toNat_natCast, ← hsz, putL_one, putL_tw]
    rfl
  have hHb : (⟨n0, n1, n2, n3, false, fr, false, to, al, bd⟩ : Ip).hb = [f0, f1, f2, f3] ++ ([t0, t1, t2, t3] ++ optL al) := by
    unfold Ip.hb
    simp only [hF, hT]
  rw [hHa, hHb, hcc] at hsum hW
  rw [hW]
  obtain ⟨S, hS⟩ : ∃ S, S = [UInt8.ofNat (69 + (optL al).length / 4), UInt8.ofNat n0, UInt8.ofNat (sz / 256), UInt8.ofNat sz, UInt8.ofNat (n1 / 256), UInt8.ofNat n1, 0, 0, UInt8.ofNat n2, UInt8.ofNat n3, c0, c1, f0, f1, f2, f3, t0, t1, t2, t3] ++ (optL al ++ (bd ++ z)) := ⟨_, rfl⟩
  rw [show [UInt8.ofNat (69 + (optL al).length / 4), UInt8.ofNat n0, UInt8.ofNat (sz / 256), UInt8.ofNat sz, UInt8.ofNat (n1 / 256), UInt8.ofNat n1, 0, 0, UInt8.ofNat n2, UInt8.ofNat n3] ++ ([c0, c1] ++ ([f0, f1, f2, f3] ++ ([t0, t1, t2, t3] ++ optL al) ++ bd)) ++ z = S by rw [hS]; simp]
  clear hW
  have g1 : by8 S 1 = n0 := by rw [hS]; exact q0
  have g4 : wd S 4 = n1 := by rw [hS]; exact q1
  have g8 : by8 S 8 = n2 := by rw [hS]; exact q2
  have g9 : by8 S 9 = n3 := by rw [hS]; exact q3
  have gall : allN S = sz := by rw [hS]; exact qs
  have g6 : wd S 6 = 0 := by rw [hS]; rfl
  have d12 : (S.drop 12).take 4 = [f0, f1, f2, f3] := by rw [hS]; rfl
  have d16 : (S.drop 16).take 4 = [t0, t1, t2, t3] := by rw [hS]; rfl
  have d20 : S.drop 20 = optL al ++ (bd ++ z) := by rw [hS]; rfl
  have hlen : S.length = 20 + (optL al).length + bd.length + z.length := by rw [hS]; simp; omega
  have gb0 : by8 S 0 = 69 + (optL al).length / 4 := by
    have : by8 S 0 = (UInt8.ofNat (69 + (optL al).length / 4)).toNat := by rw [hS]; rfl
    rw [this]; exact ofNat_small (by omega)
  have hlk : (optL al).length = 0 ∨ (optL al).length = 4 := by cases al <;> simp [optL]
  have ghd : hdN S = 20 + (optL al).length := by unfold hdN; rw [gb0]; omega
  have gtk : S.take (20 + (optL al).length) = [UInt8.ofNat (69 + (optL al).length / 4), UInt8.ofNat n0, UInt8.ofNat (sz / 256), UInt8.ofNat sz, UInt8.ofNat (n1 / 256), UInt8.ofNat n1, 0, 0, UInt8.ofNat n2, UInt8.ofNat n3] ++ ([c0, c1] ++ ([f0, f1, f2, f3] ++ ([t0, t1, t2, t3] ++ optL al))) := by
    rw [hS, Nat.add_comm]
    simp [List.take_succ_cons]
  have gopt : optS S = (al, true) := by
    unfold optS
    rw [ghd, d20, show 20 + (optL al).length - 20 = (optL al).length by omega, List.take_left]
    cases al <;> decide
  have gbd : (S.drop (hdN S)).take (allN S - hdN S) = bd := by
    rw [ghd, gall, ← List.drop_drop, d20, List.drop_left, hsz, show 20 + (optL al).length + bd.length - (20 + (optL al).length) = bd.length by omega, List.take_left]
  have hE : hdE S = 0 := hdE_of (by omega) (by omega) (by omega) (by omega) (by rw [ghd, gtk]; exact hsum)
  have bE : bdE S = if bd.length ≤ 1400 then 0 else 6 := by
    unfold bdE
    rw [gall, ghd, g6, gopt, if_neg (by omega), if_neg (by omega), if_neg (by omega), if_neg (by simp)]
    split <;> split <;> omega
  have hwy : why5 S = if bd.length ≤ 1400 then 0 else 6 := by rw [why5_hd hE, bE]
  unfold readV5
  simp only
  rw [hwy]
  split
  · rename_i hle
    rw [if_pos rfl]
    unfold ipOf
    rw [g1, g4, g8, g9, d12, d16, gopt, gbd, r1, r2]
  · rename_i hle
    rw [if_neg (by omega)]
end Go.Proofs.Ytchbkamjmkfikaa


/-
  Texts joined: IqP, IqG.
-/
import Derived.Test.YtchbkamjmkfikaaMg13
import Derived.Test.YtchbkamjmkfikaaMg34
import Derived.Test.YtchbkamjmkfikaaMg10
import Derived.Test.YtchbkamjmkfikaaMg06
import Derived.Test.YtchbkamjmkfikaaMg21
/-
  What bytes are as a packet of IPv6: plain facts. What is read of a packet's own bytes.
-/
namespace Go.Proofs.Ytchbkamjmkfikaa
open Go.RowKit
set_option linter.unusedVariables false

def iqOf (s : List UInt8) : Ip := ⟨(num (s.take 2) / 16 % 256 : Nat), (num (s.take 4) % 1048576 : Nat), if by8 s 6 = 0 then by8 (bd6 s) 0 else by8 s 6, by8 s 7, true, (s.drop 8).take 16, true, (s.drop 24).take 16, if by8 s 6 = 0 then (opt6 s).1 else false, if by8 s 6 = 0 then (bd6 s).drop (hb6 s) else bd6 s⟩
def readV6 (s : List UInt8) : Ip × Int := if why6 s = 0 then (iqOf s, 0) else (zeroI, why6 s)
theorem iqOf_ok (s : List UInt8) (h : 40 ≤ s.length) : (iqOf s).ok := ⟨by show ((s.drop 8).take 16).length = 16; simp; omega, by show ((s.drop 24).take 16).length = 16; simp; omega⟩
def Ip.nums6 (p : Ip) : Bool := decide (0 ≤ p.tos ∧ p.tos ≤ 255 ∧ 0 ≤ p.pro ∧ p.pro ≤ 255 ∧ 1 ≤ p.ttl ∧ p.ttl ≤ 255 ∧ 0 ≤ p.id ∧ p.id ≤ 1048575)
def Ip.good6 (p : Ip) : Bool := p.nums6 && (p.f6 && (p.t6 && decide (p.bd.length ≤ 1400)))
theorem Ip.good6_parts {p : Ip} (h : p.good6 = true) : p.nums6 = true ∧ p.f6 = true ∧ p.t6 = true ∧ p.bd.length ≤ 1400 := by
  unfold Ip.good6 at h
  simpa [Bool.and_eq_true] using h
theorem why6_zero {s : List UInt8} (h : why6 s = 0) : hdE6 s = 0 := by
  unfold why6 at h
  split at h
  · rename_i h1; exact absurd h h1
  · rename_i h1; exact Decidable.byContradiction h1
theorem iqOf_good {s : List UInt8} (h : why6 s = 0) : (iqOf s).good6 = true := by
  have h1 := why6_zero h
  have c7 := by8_lt s 7
  have c6 := by8_lt s 6
  have b0 := by8_lt (bd6 s) 0
  unfold Ip.good6 Ip.nums6 iqOf
  by_cases h6 : by8 s 6 = 0
  · rw [why6_opt h1 h6] at h
    obtain ⟨a1, a2, a3, a4, a5⟩ := opE6_zero h
    simp only [h6, if_true, Bool.true_and, Bool.and_eq_true, decide_eq_true_eq, List.length_drop]
    omega
  · rw [why6_no h1 h6] at h
    simp only [h6, if_false, Bool.true_and, Bool.and_eq_true, decide_eq_true_eq]
    have h9 : ¬ 1400 < (bd6 s).length := by
      intro h8; rw [if_pos h8] at h; omega
    omega

/-- A packet's bytes. -/
def Ip.h6 (p : Ip) : List UInt8 := putL (96 + p.tos.toNat / 16) 1 ++ (putL (p.tos.toNat % 16 * 16 + p.id.toNat / 65536) 1 ++ putL (p.id.toNat % 65536) 2)
def Ip.wrt6 (p : Ip) : List UInt8 :=
  if p.al then p.h6 ++ (putL (p.bd.length + 8) 2 ++ (0 :: (putL p.pro.toNat 1 ++ (p.fr ++ (p.to ++ (putL p.ttl.toNat 1 ++ ([0, 5, 2, 0, 0, 1, 0] ++ p.bd)))))))
  else p.h6 ++ (putL p.bd.length 2 ++ (putL p.ttl.toNat 1 ++ (putL p.pro.toNat 1 ++ (p.fr ++ (p.to ++ p.bd)))))
theorem Ip.h6_length (p : Ip) : p.h6.length = 4 := by unfold Ip.h6; simp [putL_length]
def Ip.sz6 (p : Ip) : Nat := 40 + (if p.al then 8 else 0) + p.bd.length
theorem Ip.wrt6_length (p : Ip) (ho : p.ok) : p.wrt6.length = p.sz6 := by
  unfold Ip.wrt6 Ip.sz6
  have h1 := Ip.h6_length p
  cases p.al <;> simp [h1, putL_length, ho.1, ho.2] <;> omega
theorem live_opt6 : optQ false [5, 2, 0, 0, 1, 0] = (true, 0) := by decide

set_option maxRecDepth 100000 in
theorem read_wrt6 (p : Ip) (ho : p.ok) (hn : p.nums6 = true) (hf : p.f6 = true) (ht : p.t6 = true) (hl : p.bd.length ≤ 60000) (z : List UInt8) :
    readV6 (p.wrt6 ++ z) = if p.bd.length ≤ 1400 then (p, 0) else (zeroI, 6) := by
  obtain ⟨tos, id, ttl, pro, f6, fr, t6, to, al, bd⟩ := p
  obtain ⟨ho1, ho2⟩ := ho
  simp only at hf ht hl ho1 ho2
  subst hf ht
  unfold Ip.nums6 at hn
  rw [decide_eq_true_eq] at hn
  simp only at hn
  obtain ⟨a0, a1, a2, a3, a4, a5, a6, a7⟩ := hn
  obtain ⟨n0, rfl⟩ := Int.eq_ofNat_of_zero_le a0
  obtain ⟨n1, rfl⟩ := Int.eq_ofNat_of_zero_le a6
  obtain ⟨n2, rfl⟩ := Int.eq_ofNat_of_zero_le (show 0 ≤ ttl by omega)
  obtain ⟨n3, rfl⟩ := Int.eq_ofNat_of_zero_le a2
  have q0 := ofNat_small (n := 96 + n0 / 16) (by omega)
  have q1 := ofNat_small (n := n0 % 16 * 16 + n1 / 65536) (by omega)
  have q2 := ofNat_small (n := n1 % 65536 / 256) (by omega)
  have q3 : (UInt8.ofNat (n1 % 65536)).toNat = n1 % 256 := by rw [UInt8.toNat_ofNat']; omega
  have q4 := ofNat_small (n := n2) (by omega)
  have q5 := ofNat_small (n := n3) (by omega)
  have hh : (⟨n0, n1, n2, n3, true, fr, true, to, al, bd⟩ : Ip).h6 = [UInt8.ofNat (96 + n0 / 16), UInt8.ofNat (n0 % 16 * 16 + n1 / 65536), UInt8.ofNat (n1 % 65536 / 256), UInt8.ofNat (n1 % 65536)] := by
    unfold Ip.h6
    simp only [Int.toNat_natCast, putL_one, putL_tw]
    rfl
  generalize UInt8.ofNat (96 + n0 / 16) = x0 at *
  generalize UInt8.ofNat (n0 % 16 * 16 + n1 / 65536) = x1 at *
  generalize UInt8.ofNat (n1 % 65536 / 256) = x2 at *
  generalize UInt8.ofNat (n1 % 65536) = x3 at *
  cases al with
  | true =>
    have hlw := num2_putL (bd.length + 8) (by omega)
    have hW : (⟨n0, n1, n2, n3, true, fr, true, to, true, bd⟩ : Ip).wrt6 = [x0, x1, x2, x3] ++ (putL (bd.length + 8) 2 ++ (0 :: (putL n3 1 ++ (fr ++ (to ++ (putL n2 1 ++ ([0, 5, 2, 0, 0, 1, 0] ++ bd))))))) := by
      unfold Ip.wrt6; rw [hh]; rfl
    rw [hW, putL_one, putL_one, putL_tw] at *
    obtain ⟨S, hS⟩ : ∃ S, S = [x0, x1, x2, x3, UInt8.ofNat ((bd.length + 8) / 256), UInt8.ofNat (bd.length + 8), 0, UInt8.ofNat n3] ++ (fr ++ (to ++ (UInt8.ofNat n2 :: [0, 5, 2, 0, 0, 1, 0] ++ (bd ++ z)))) := ⟨_, rfl⟩
    rw [show [x0, x1, x2, x3] ++ ([UInt8.ofNat ((bd.length + 8) / 256), UInt8.ofNat (bd.length + 8)] ++ (0 :: ([UInt8.ofNat n3] ++ (fr ++ (to ++ ([UInt8.ofNat n2] ++ ([0, 5, 2, 0, 0, 1, 0] ++ bd))))))) ++ z = S by rw [hS]; simp]
    have g0 : by8 S 0 = 96 + n0 / 16 := by rw [hS]; exact q0
    have g6 : by8 S 6 = 0 := by rw [hS]; rfl
    have g7 : by8 S 7 = n3 := by rw [hS]; exact q5
    have g4 : wd S 4 = bd.length + 8 := by rw [hS]; exact hlw
    have e1 : num (S.take 2) / 16 % 256 = n0 := by
      have : S.take 2 = [x0, x1] := by rw [hS]; rfl
      rw [this, num_two]; omega
    have e2 : num (S.take 4) % 1048576 = n1 := by
      have : S.take 4 = [x0, x1, x2, x3] := by rw [hS]; rfl
      rw [this, num4]; omega
    have d8 : S.drop 8 = fr ++ (to ++ (UInt8.ofNat n2 :: [0, 5, 2, 0, 0, 1, 0] ++ (bd ++ z))) := by rw [hS]; rfl
    have d24 : S.drop 24 = to ++ (UInt8.ofNat n2 :: [0, 5, 2, 0, 0, 1, 0] ++ (bd ++ z)) := by
      rw [show (24 : Nat) = 8 + 16 from rfl, ← List.drop_drop, d8]; exact drop_app ho1
    have d40 : S.drop 40 = (UInt8.ofNat n2 :: [0, 5, 2, 0, 0, 1, 0] ++ bd) ++ z := by
      rw [show (40 : Nat) = 24 + 16 from rfl, ← List.drop_drop, d24, drop_app ho2]; simp
    have f1 : (S.drop 8).take 16 = fr := by rw [d8]; exact take_app ho1
    have f2 : (S.drop 24).take 16 = to := by rw [d24]; exact take_app ho2
    have hb : bd6 S = UInt8.ofNat n2 :: [0, 5, 2, 0, 0, 1, 0] ++ bd := by
      unfold bd6; rw [g4, d40]; exact take_app (by simp)
    have hlen : S.length = 48 + bd.length + z.length := by rw [hS]; simp [ho1, ho2]; omega
    have hhb : hb6 S = 8 := by unfold hb6; rw [hb]; rfl
    have hop : opt6 S = (true, 0) := by unfold opt6; rw [hhb, hb]; exact live_opt6
    have hb0 : by8 (bd6 S) 0 = n2 := by rw [hb]; exact q4
    have hbl : (bd6 S).length = bd.length + 8 := by rw [hb]; simp
    have hbd : (bd6 S).drop 8 = bd := by rw [hb]; rfl
    have hE : hdE6 S = 0 := hdE6_of (by omega) (by omega) (by omega)
    have hw : why6 S = if bd.length ≤ 1400 then 0 else 6 := by
      rw [why6_opt hE g6]
      unfold opE6
      rw [hbl, hhb, hop, hb0, if_neg (by omega), if_neg (by simp), if_neg (by omega)]
      split <;> split <;> omega
    unfold readV6
    rw [hw]
    simp only
    split
    · rename_i hle
      rw [if_pos rfl]
      unfold iqOf
      rw [e1, e2, g6, hb0, g7, f1, f2, hop, hhb, hbd]
      simp
    · rename_i hle
      rw [if_neg (by omega)]
  | false =>
    have hlw := num2_putL bd.length (by omega)
    have hW : (⟨n0, n1, n2, n3, true, fr, true, to, false, bd⟩ : Ip).wrt6 = [x0, x1, x2, x3] ++ (putL bd.length 2 ++ (putL n2 1 ++ (putL n3 1 ++ (fr ++ (to ++ bd))))) := by
      unfold Ip.wrt6; rw [hh]; rfl
    rw [hW, putL_one, putL_one, putL_tw] at *
    obtain ⟨S, hS⟩ : ∃ S, S = [x0, x1, x2, x3, UInt8.ofNat (bd.length / 256), UInt8.ofNat bd.length, UInt8.ofNat n2, UInt8.ofNat n3] ++ (fr ++ (to ++ (bd ++ z))) := ⟨_, rfl⟩
    rw [show [x0, x1, x2, x3] ++ ([UInt8.ofNat (bd.length / 256), UInt8.ofNat bd.length] ++ ([UInt8.ofNat n2] ++ ([UInt8.ofNat n3] ++ (fr ++ (to ++ bd))))) ++ z = S by rw [hS]; simp]
    have g0 : by8 S 0 = 96 + n0 / 16 := by rw [hS]; exact q0
    have g6 : by8 S 6 = n2 := by rw [hS]; exact q4
    have g7 : by8 S 7 = n3 := by rw [hS]; exact q5
    have g4 : wd S 4 = bd.length := by rw [hS]; exact hlw
    have e1 : num (S.take 2) / 16 % 256 = n0 := by
      have : S.take 2 = [x0, x1] := by rw [hS]; rfl
      rw [this, num_two]; omega
    have e2 : num (S.take 4) % 1048576 = n1 := by
      have : S.take 4 = [x0, x1, x2, x3] := by rw [hS]; rfl
      rw [this, num4]; omega
    have d8 : S.drop 8 = fr ++ (to ++ (bd ++ z)) := by rw [hS]; rfl
    have d24 : S.drop 24 = to ++ (bd ++ z) := by
      rw [show (24 : Nat) = 8 + 16 from rfl, ← List.drop_drop, d8]; exact drop_app ho1
    have d40 : S.drop 40 = bd ++ z := by
      rw [show (40 : Nat) = 24 + 16 from rfl, ← List.drop_drop, d24]; exact drop_app ho2
    have f1 : (S.drop 8).take 16 = fr := by rw [d8]; exact take_app ho1
    have f2 : (S.drop 24).take 16 = to := by rw [d24]; exact take_app ho2
    have hb : bd6 S = bd := by unfold bd6; rw [g4, d40]; exact take_app rfl
    have hlen : S.length = 40 + bd.length + z.length := by rw [hS]; simp [ho1, ho2]; omega
    have hn2 : n2 ≠ 0 := by omega
    have hE : hdE6 S = 0 := hdE6_of (by omega) (by omega) (by omega)
    have hw : why6 S = if bd.length ≤ 1400 then 0 else 6 := by
      rw [why6_no hE (by omega), hb]
      split <;> split <;> omega
    unfold readV6
    rw [hw]
    simp only
    split
    · rename_i hle
      rw [if_pos rfl]
      unfold iqOf
      rw [e1, e2, g6, g7, f1, f2, hb, if_neg hn2, if_neg hn2, if_neg hn2]
    · rename_i hle
      rw [if_neg (by omega)]
end Go.Proofs.Ytchbkamjmkfikaa

/-
  What a reader gives, in plain words; an address that a reader passes.
-/
namespace Go.Proofs.Ytchbkamjmkfikaa
open Go.RowKit
set_option linter.unusedVariables false
attribute [local go_sem ↓] ld_addr st_addr
attribute [local go_sem] ldr_addr str_addr

theorem qbelow {w a c : World} {row : Option Nat} (h : w.grownBy a row) (k : Below w.heap.size a c) : w.grownBy c row :=
  ⟨k.os.trans h.os, k.tape.trans h.tape, k.output.trans h.output, Nat.le_trans h.size k.size, fun i hi hne => (k.block i hi).trans (h.block i hi hne)⟩
theorem qof {w c : World} {row : Option Nat} (k : Below w.heap.size w c) : w.grownBy c row := ⟨k.os, k.tape, k.output, k.size, fun i hi _ => k.block i hi⟩
theorem takeV_len (l : List UInt8) (bad : Bool) (n : Nat) : (takeV l bad n).length ≤ n := by
  unfold takeV; repeat' split
  all_goals simp
  omega
theorem takeV_all (l : List UInt8) (bad : Bool) (n : Nat) (h : (takeV l bad n).length ≠ n) : takeV l bad n = [] := by
  unfold takeV at h ⊢
  repeat' split
  · rfl
  · rfl
  · rename_i h1 h2
    exfalso; apply h
    rw [if_neg h1, if_neg h2, List.length_take]
    simp; omega
theorem rd_good {l : List UInt8} {n k : Nat} (h : n ≤ l.length) : takeV l false n = l.take n ∧ leftV l false n = l.drop n ∧ pastV l false n k = k + n ∧ badV l false n = false := by
  have h1 : ¬ ((l.length : Int) < (n : Int)) := by omega
  unfold takeV leftV pastV badV
  simp only [if_neg h1, Int.toNat_natCast]
  simp; omega
theorem rd_short {l : List UInt8} {n k : Nat} (h : l.length < n) : takeV l false n = [] ∧ leftV l false n = l ∧ pastV l false n k = k ∧ badV l false n = true := by
  have h1 : (l.length : Int) < (n : Int) := by omega
  unfold takeV leftV pastV badV
  simp [h1]
theorem rd_dead {l : List UInt8} {n : Int} {k : Nat} : takeV l true n = [] ∧ leftV l true n = l ∧ pastV l true n k = k ∧ badV l true n = true := by
  unfold takeV leftV pastV badV
  simp
theorem clamp_small (n : Nat) (h : n ≤ 8) : clampN (n : Int) 8 = n := by unfold clampN; split <;> omega
/-- Num of a literal width. -/
theorem numq_any (b : Nat) (l : List UInt8) (k : Nat) (bad : Bool) (n : Nat) (hn : n ≤ 8) (hl : l.length ≤ 1000000) (hk : k ≤ 1000000) (w : World) (h : RdAt w b l k bad) :
    Calls Try.prog 49 #[.pointer (some ⟨b, 0, none⟩), .int .i64 n] w fun e w' => e = .returned (.int .u64 (num (takeV l bad n))) ∧ RdAt w' b (leftV l bad n) (pastV l bad n k) (badV l bad n) ∧ w.grownBy w' (some b) := by
  have := num_any b l k bad n hl hk w h
  rw [clamp_small n hn] at this
  exact this
theorem leftV_le (l : List UInt8) (bad : Bool) (n : Int) : (leftV l bad n).length ≤ l.length := by
  unfold leftV; repeat' split
  all_goals simp
theorem pastV_le (l : List UInt8) (bad : Bool) (n k : Nat) : pastV l bad n k ≤ k + n := by
  unfold pastV; repeat' split
  all_goals simp
theorem num_small : ∀ (l : List UInt8), l.length ≤ 4 → num l < 256 ^ l.length := by
  intro l h
  match l, h with
  | [], _ => decide
  | [a], _ => have := a.toNat_lt; rw [num1]; simpa using this
  | [a, b], _ => have := num2_lt (x := [a, b]) rfl; simpa using this
  | [a, b, c], _ =>
    have h1 := a.toNat_lt; have h2 := b.toNat_lt; have h3 := c.toNat_lt
    simp [num]; omega
  | [a, b, c, d], _ =>
    have h1 := a.toNat_lt; have h2 := b.toNat_lt; have h3 := c.toNat_lt; have h4 := d.toNat_lt
    rw [num4]; simp; omega
theorem num_takeV (l : List UInt8) (bad : Bool) (n : Nat) (hn : n ≤ 4) : num (takeV l bad n) < 256 ^ n := by
  have h1 := takeV_len l bad n
  exact Nat.lt_of_lt_of_le (num_small _ (by omega)) (Nat.pow_le_pow_right (by omega) h1)

/-- The result's block of takeAddr, the reader. -/
def TQ (w W : World) (b : Nat) (l : List UInt8) (k : Nat) (bad : Bool) : Prop :=
  RdAt W b l k bad ∧ ObjAt W w.heap.size #[.bool false, .int .u8 0, .int .u8 0, .int .u8 0, .int .u8 0, .int .u8 0, .int .u8 0, .int .u8 0, .int .u8 0, .int .u8 0, .int .u8 0, .int .u8 0, .int .u8 0, .int .u8 0, .int .u8 0, .int .u8 0, .int .u8 0] 25 ∧ b < w.heap.size ∧ w.grownBy W (some b)
theorem TQ.start (w : World) (b : Nat) (l : List UInt8) (k : Nat) (bad : Bool) (h : RdAt w b l k bad) : TQ w (w.alloc (.cells #[.bool false, .int .u8 0, .int .u8 0, .int .u8 0, .int .u8 0, .int .u8 0, .int .u8 0, .int .u8 0, .int .u8 0, .int .u8 0, .int .u8 0, .int .u8 0, .int .u8 0, .int .u8 0, .int .u8 0, .int .u8 0, .int .u8 0] 25)) b l k bad :=
  ⟨ObjAt.alloc h _, ObjAt.made w _ _, ObjAt.lt h, qof ((Below.refl _ _).alloc (Nat.le_refl _) _)⟩
theorem TQ.grown {w W W' : World} {b : Nat} {l : List UInt8} {k : Nat} {bad : Bool} (h : TQ w W b l k bad) {l' : List UInt8} {k' : Nat} {bad' : Bool} (hr : RdAt W' b l' k' bad') (hg : W.grownBy W' (some b)) : TQ w W' b l' k' bad' :=
  ⟨hr, ObjAt.grown h.2.1 hg (by have := h.2.2.1; simp; omega), h.2.2.1, gtrans h.2.2.2 hg⟩
theorem TQ.below {w W W' : World} {b : Nat} {l : List UInt8} {k : Nat} {bad : Bool} (h : TQ w W b l k bad) (hb : Below W.heap.size W W') : TQ w W' b l k bad :=
  ⟨ObjAt.below h.1 hb (ObjAt.lt h.1), h.2.1.below hb h.2.1.lt, h.2.2.1, qbelow h.2.2.2 (hb.mono h.2.2.2.size)⟩
theorem TQ.put {w W : World} {b : Nat} {l : List UInt8} {k : Nat} {bad : Bool} (h : TQ w W b l k bad) (cs : List Value) (m : Nat) (hm : w.heap.size < m) : TQ w (aggW W m cs) b l k bad :=
  ⟨aggW_other h.1 _ (by have := h.2.2.1; omega), aggW_other h.2.1 _ (by omega), h.2.2.1, qbelow h.2.2.2 (aggW_below (Below.refl _ _) (by omega) _)⟩
theorem TQ.done {w W : World} {b : Nat} {l : List UInt8} {k : Nat} {bad : Bool} (h : TQ w W b l k bad) (cs : List Value) (hc : cs.length = 17) :
    row? (aggW W w.heap.size cs) w.heap.size 0 17 = some cs ∧ RdAt (aggW W w.heap.size cs) b l k bad ∧ w.grownBy (aggW W w.heap.size cs) (some b) :=
  ⟨aggW_row (obj_free h.2.1 (by simp)) hc, aggW_other h.1 _ (by have := h.2.2.1; omega), qbelow h.2.2.2 (aggW_below (Below.refl _ _) (Nat.le_refl _) _)⟩

/-- What takeAddr makes of what it took. -/
def adV (t : List UInt8) : Bool := decide (t.length = 16)
def adL (t : List UInt8) : List UInt8 := if t.length = 16 then t else List.replicate 16 0
theorem adL_length (t : List UInt8) : (adL t).length = 16 := by unfold adL; split <;> simp_all
theorem read_took (l : List UInt8) (bad : Bool) (w : World) : ∃ c, Calls Try.prog 83 #[.string (Str (takeV l bad 16))] w fun e w' => e = .returned (.tuple #[.agg (addrC (adV (takeV l bad 16)) (adL (takeV l bad 16))).toArray, .int .i64 c]) ∧ Below w.heap.size w w' := by
  by_cases h : (takeV l bad 16).length = 16
  · refine ⟨0, ?_⟩
    have := read_good true (takeV l bad 16) (by omega) (by rw [h]; rfl) (by rw [h]; rfl) w
    unfold adV adL
    rw [if_pos h, decide_eq_true h]
    rw [show readV (takeV l bad 16) = takeV l bad 16 by unfold readV; rw [h]; simp] at this
    exact this
  · refine ⟨2, ?_⟩
    have h0 : takeV l bad 16 = [] := takeV_all l bad 16 h
    have := read_bad (takeV l bad 16) (by rw [h0]; simp) (by rw [h0]; rfl) (by rw [h0]; rfl) w
    unfold adV adL
    rw [if_neg h, decide_eq_false h]
    exact this

end Go.Proofs.Ytchbkamjmkfikaa


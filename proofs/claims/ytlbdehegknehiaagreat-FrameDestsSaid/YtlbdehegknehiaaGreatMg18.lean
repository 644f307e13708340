/-
  Texts joined: EthG, Mac.
-/
import Derived.Test.YtlbdehegknehiaaGreatMg00
import Derived.Test.YtlbdehegknehiaaGreatMg17
import Derived.Test.YtlbdehegknehiaaGreatMg02
import Derived.Test.YtlbdehegknehiaaGreatMg01
import Derived.Laws.CopyOwn
/- A part of the proof. -/
namespace Go.Proofs.YtlbdehegknehiaaGreat
open Go.RowKit
set_option linter.unusedVariables false
def readV4 (s : List UInt8) : Eth × Int := if whyV s = 0 then (⟨s.take 6, (s.drop 6).take 6, tgV s, vlV s, prV s, tyV s, bdV s⟩, 0) else (zeroE, whyV s)
theorem tk_ok (l : List UInt8) (n : Nat) (h : n ≤ l.length) : takeV l false n = l.take n ∧ leftV l false n = l.drop n ∧ badV l false n = false := by
  unfold takeV leftV badV
  have h' : ¬ ((l.length : Int) < (n : Int)) := by omega
  simp [h']
theorem tk_bad (l : List UInt8) (n : Nat) (h : l.length < n) : takeV l false n = [] ∧ leftV l false n = l ∧ badV l false n = true := by
  unfold takeV leftV badV
  have h' : ((l.length : Int) < (n : Int)) := by omega
  simp [h']
theorem tk_true (l : List UInt8) (n : Int) : takeV l true n = [] ∧ leftV l true n = l ∧ badV l true n = true := by
  unfold takeV leftV badV
  simp
theorem num_take2 (l : List UInt8) (b : Bool) : num (takeV l b 2) < 65536 := by
  unfold takeV
  split
  · decide
  · split
    · decide
    · rename_i h1 h2
      exact num2_lt (x := l.take (2 : Int).toNat) (by simp; omega)
theorem left_len (l : List UInt8) (b : Bool) (n : Int) : (leftV l b n).length ≤ l.length := by
  unfold leftV; repeat' split
  all_goals simp
theorem past_le (l : List UInt8) (b : Bool) (n : Int) (k : Nat) : pastV l b n k ≤ k + l.length := by
  unfold pastV; repeat' split
  all_goals omega
theorem bits12 (n : Nat) : bitsN n 12 1 = n / 4096 % 2 ∧ bitsN n 0 12 = n % 4096 ∧ bitsN n 13 3 = n / 8192 % 8 := by
  refine ⟨rfl, ?_, rfl⟩
  show n / 2 ^ 0 % 2 ^ 12 = _
  simp
theorem core_un (s : List UInt8) (h : 14 ≤ s.length) (hk : num ((s.drop 12).take 2) ≠ 33024) : readV4 s = coreV false 0 ⟨s.take 6, (s.drop 6).take 6, false, 0, 0, num ((s.drop 12).take 2), s.drop 14⟩ := by
  have l0 := take2_length (s := s) (a := 12) (by omega)
  have n0 := num2_lt l0
  have ht : tgV s = false := decide_eq_false hk
  have hw : whyV s = if num ((s.drop 12).take 2) < 1536 then 5 else if 1500 < s.length - 14 then 6 else 0 := by
    unfold whyV; rw [if_neg (by omega), if_neg hk]
  have h1 : vlV s = 0 := by unfold vlV; rw [ht]; rfl
  have h2 : prV s = 0 := by unfold prV; rw [ht]; rfl
  have h3 : tyV s = num ((s.drop 12).take 2) := by unfold tyV; rw [ht]; rfl
  have h4 : bdV s = s.drop 14 := by unfold bdV; rw [ht]; rfl
  unfold readV4 coreV
  rw [ht, h1, h2, h3, h4, hw]
  generalize num ((s.drop 12).take 2) = n at *
  have g1 : goodTgV false 0 0 = true := rfl
  have g2 : bitsN 0 12 1 = 0 := rfl
  simp only [g1, g2, List.length_drop]
  by_cases c1 : n < 1536
  · have g3 : goodTyV n = false := by unfold goodTyV; simp; omega
    simp [c1, g3]
  · have g3 : goodTyV n = true := by unfold goodTyV; simp; omega
    by_cases c2 : 1500 < s.length - 14 <;> simp [c1, g3, c2]
theorem core_tg (s : List UInt8) (h : 18 ≤ s.length) (hk : num ((s.drop 12).take 2) = 33024) (v p : Nat) (hv : v = bitsN (num ((s.drop 14).take 2)) 0 12) (hp : p = bitsN (num ((s.drop 14).take 2)) 13 3) :
    readV4 s = coreV false (num ((s.drop 14).take 2)) ⟨s.take 6, (s.drop 6).take 6, true, v, p, num ((s.drop 16).take 2), s.drop 18⟩ := by
  have l0 := take2_length (s := s) (a := 14) (by omega)
  have n0 := num2_lt l0
  have l1 := take2_length (s := s) (a := 16) (by omega)
  have n1 := num2_lt l1
  obtain ⟨e1, e2, e3⟩ := bits12 (num ((s.drop 14).take 2))
  rw [e2] at hv
  rw [e3] at hp
  have ht : tgV s = true := decide_eq_true hk
  have hw : whyV s = if num ((s.drop 14).take 2) / 4096 % 2 = 1 ∨ num ((s.drop 14).take 2) % 4096 = 4095 then 5 else if num ((s.drop 16).take 2) = 33024 ∨ num ((s.drop 16).take 2) < 1536 then 5 else if 1500 < s.length - 18 then 6 else 0 := by
    unfold whyV; rw [if_neg (by omega), if_pos hk, if_neg (by omega)]
  have h1 : vlV s = v := by unfold vlV; rw [ht, hv]; rfl
  have h2 : prV s = p := by unfold prV; rw [ht, if_pos rfl]; omega
  have h3 : tyV s = num ((s.drop 16).take 2) := by unfold tyV; rw [ht]; rfl
  have h4 : bdV s = s.drop 18 := by unfold bdV; rw [ht]; rfl
  unfold readV4 coreV
  rw [ht, h1, h2, h3, h4, hw, e1]
  generalize num ((s.drop 14).take 2) = n at *
  generalize num ((s.drop 16).take 2) = m at *
  simp only [List.length_drop]
  by_cases c1 : n / 4096 % 2 = 1
  · simp [c1]
  · have c1' : n / 4096 % 2 = 0 := by omega
    by_cases c2 : n % 4096 = 4095
    · have g1 : goodTgV true v p = false := by unfold goodTgV; simp; omega
      simp [c2, g1]
    · have g1 : goodTgV true v p = true := by unfold goodTgV; simp; omega
      by_cases c3 : m = 33024 ∨ m < 1536
      · have g3 : goodTyV m = false := by unfold goodTyV; simp; omega
        simp [c1', c2, c3, g3]
      · have g3 : goodTyV m = true := by unfold goodTyV; simp; omega
        by_cases c4 : 1500 < s.length - 18 <;> simp [c1', c2, c3, g3, g1, c4]
theorem read_any (s : List UInt8) (hs : s.length ≤ 100000) (w : World) :
    Calls Tryz.prog 37 #[.string (Str s)] w fun x w' => x = .returned (.tuple #[.agg (ethC (readV4 s).1).toArray, .int .i64 (readV4 s).2]) ∧ Below w.heap.size w w' := by
  obtain ⟨t1, et1⟩ : ∃ t, t = takeV s false 6 := ⟨_, rfl⟩
  obtain ⟨l1, el1⟩ : ∃ t, t = leftV s false 6 := ⟨_, rfl⟩
  obtain ⟨k1, ek1⟩ : ∃ t, t = pastV s false 6 0 := ⟨_, rfl⟩
  obtain ⟨b1, eb1⟩ : ∃ t, t = badV s false 6 := ⟨_, rfl⟩
  obtain ⟨t2, et2⟩ : ∃ t, t = takeV l1 b1 6 := ⟨_, rfl⟩
  obtain ⟨l2, el2⟩ : ∃ t, t = leftV l1 b1 6 := ⟨_, rfl⟩
  obtain ⟨k2, ek2⟩ : ∃ t, t = pastV l1 b1 6 k1 := ⟨_, rfl⟩
  obtain ⟨b2, eb2⟩ : ∃ t, t = badV l1 b1 6 := ⟨_, rfl⟩
  obtain ⟨n3, en3⟩ : ∃ t, t = num (takeV l2 b2 2) := ⟨_, rfl⟩
  obtain ⟨l3, el3⟩ : ∃ t, t = leftV l2 b2 2 := ⟨_, rfl⟩
  obtain ⟨k3, ek3⟩ : ∃ t, t = pastV l2 b2 2 k2 := ⟨_, rfl⟩
  obtain ⟨b3, eb3⟩ : ∃ t, t = badV l2 b2 2 := ⟨_, rfl⟩
  obtain ⟨n4, en4⟩ : ∃ t, t = num (takeV l3 b3 2) := ⟨_, rfl⟩
  obtain ⟨l4, el4⟩ : ∃ t, t = leftV l3 b3 2 := ⟨_, rfl⟩
  obtain ⟨k4, ek4⟩ : ∃ t, t = pastV l3 b3 2 k3 := ⟨_, rfl⟩
  obtain ⟨b4, eb4⟩ : ∃ t, t = badV l3 b3 2 := ⟨_, rfl⟩
  obtain ⟨n5, en5⟩ : ∃ t, t = num (takeV l4 b4 2) := ⟨_, rfl⟩
  obtain ⟨l5, el5⟩ : ∃ t, t = leftV l4 b4 2 := ⟨_, rfl⟩
  obtain ⟨k5, ek5⟩ : ∃ t, t = pastV l4 b4 2 k4 := ⟨_, rfl⟩
  obtain ⟨b5, eb5⟩ : ∃ t, t = badV l4 b4 2 := ⟨_, rfl⟩
  have z1 : l1.length ≤ s.length := by rw [el1]; exact left_len _ _ _
  have z2 : l2.length ≤ l1.length := by rw [el2]; exact left_len _ _ _
  have z3 : l3.length ≤ l2.length := by rw [el3]; exact left_len _ _ _
  have z4 : l4.length ≤ l3.length := by rw [el4]; exact left_len _ _ _
  have z5 : l5.length ≤ l4.length := by rw [el5]; exact left_len _ _ _
  have y1 : k1 ≤ 0 + s.length := by rw [ek1]; exact past_le _ _ _ _
  have y2 : k2 ≤ k1 + l1.length := by rw [ek2]; exact past_le _ _ _ _
  have y3 : k3 ≤ k2 + l2.length := by rw [ek3]; exact past_le _ _ _ _
  have y4 : k4 ≤ k3 + l3.length := by rw [ek4]; exact past_le _ _ _ _
  have m1 : (macOf t1).length = 6 := by rw [et1]; exact macOf_length (takeV6 _ _)
  have m2 : (macOf t2).length = 6 := by rw [et2]; exact macOf_length (takeV6 _ _)
  have H1 : Hid (∀ W, RdAt W (w.heap.size + 1) s 0 false → Calls Tryz.prog 83 #[.pointer (some ⟨w.heap.size + 1, 0, none⟩)] W fun x w' => x = .returned (.agg (B8 (macOf t1)).toArray) ∧ RdAt w' (w.heap.size + 1) l1 k1 b1 ∧ W.grownBy w' (some (w.heap.size + 1))) := zh fun W hW => by
    rw [et1, el1, ek1, eb1]; exact takeMac_any _ s 0 false (by omega) (by omega) W hW
  have H2 : Hid (∀ W, RdAt W (w.heap.size + 1) l1 k1 b1 → Calls Tryz.prog 83 #[.pointer (some ⟨w.heap.size + 1, 0, none⟩)] W fun x w' => x = .returned (.agg (B8 (macOf t2)).toArray) ∧ RdAt w' (w.heap.size + 1) l2 k2 b2 ∧ W.grownBy w' (some (w.heap.size + 1))) := zh fun W hW => by
    rw [et2, el2, ek2, eb2]; exact takeMac_any _ l1 k1 b1 (by omega) (by omega) W hW
  have H3 : Hid (∀ W, RdAt W (w.heap.size + 1) l2 k2 b2 → Calls Tryz.prog 84 #[.pointer (some ⟨w.heap.size + 1, 0, none⟩), .int .i64 2] W fun x w' => x = .returned (.int .u64 n3) ∧ RdAt w' (w.heap.size + 1) l3 k3 b3 ∧ W.grownBy w' (some (w.heap.size + 1))) := zh fun W hW => by
    rw [en3, el3, ek3, eb3]; exact num_any _ l2 k2 b2 2 (by omega) (by omega) W hW
  have H4 : Hid (∀ W, RdAt W (w.heap.size + 1) l3 k3 b3 → Calls Tryz.prog 84 #[.pointer (some ⟨w.heap.size + 1, 0, none⟩), .int .i64 2] W fun x w' => x = .returned (.int .u64 n4) ∧ RdAt w' (w.heap.size + 1) l4 k4 b4 ∧ W.grownBy w' (some (w.heap.size + 1))) := zh fun W hW => by
    rw [en4, el4, ek4, eb4]; exact num_any _ l3 k3 b3 2 (by omega) (by omega) W hW
  have H5 : Hid (∀ W, RdAt W (w.heap.size + 1) l4 k4 b4 → Calls Tryz.prog 84 #[.pointer (some ⟨w.heap.size + 1, 0, none⟩), .int .i64 2] W fun x w' => x = .returned (.int .u64 n5) ∧ RdAt w' (w.heap.size + 1) l5 k5 b5 ∧ W.grownBy w' (some (w.heap.size + 1))) := zh fun W hW => by
    rw [en5, el5, ek5, eb5]; exact num_any _ l4 k4 b4 2 (by omega) (by omega) W hW
  have q3 : n3 < 65536 := by rw [en3]; exact num_take2 _ _
  have q4 : n4 < 65536 := by rw [en4]; exact num_take2 _ _
  have q5 : n5 < 65536 := by rw [en5]; exact num_take2 _ _
  obtain ⟨v, hv⟩ : ∃ v, v = bitsN n4 0 12 := ⟨_, rfl⟩
  obtain ⟨p, hp⟩ : ∃ p, p = bitsN n4 13 3 := ⟨_, rfl⟩
  have qv : v < 65536 := by rw [hv, (bits12 n4).2.1]; omega
  have qp : p < 65536 := by rw [hp, (bits12 n4).2.2]; omega
  have hN0 : num [] = 0 := rfl
  by_cases h14 : s.length < 14
  · have hwhy : readV4 s = (zeroE, 3) := by
      have : whyV s = 3 := by unfold whyV; rw [if_pos h14]
      unfold readV4; rw [this]; rfl
    have hx : b3 = true ∧ n3 = 0 := by
      by_cases h6 : s.length < 6
      · obtain ⟨a1, a2, a3⟩ := tk_bad s 6 h6
        have e1 : b1 = true := eb1.trans a3
        rw [e1] at eb2
        have e2 : b2 = true := eb2.trans (tk_true _ _).2.2
        rw [e2] at eb3 en3
        rw [eb3, en3, (tk_true _ _).1]
        exact ⟨(tk_true _ _).2.2, hN0⟩
      · obtain ⟨a1, a2, a3⟩ := tk_ok s 6 (by omega)
        have e1 : b1 = false := eb1.trans a3
        have f1 : l1 = s.drop 6 := el1.trans a2
        have g1 : l1.length = s.length - 6 := by rw [f1]; simp
        rw [e1] at eb2 el2
        by_cases h12 : s.length < 12
        · obtain ⟨c1, c2, c3⟩ := tk_bad l1 6 (by omega)
          have e2 : b2 = true := eb2.trans c3
          rw [e2] at eb3 en3
          rw [eb3, en3, (tk_true _ _).1]
          exact ⟨(tk_true _ _).2.2, hN0⟩
        · obtain ⟨c1, c2, c3⟩ := tk_ok l1 6 (by omega)
          have e2 : b2 = false := eb2.trans c3
          have g2 : l2.length = s.length - 12 := by rw [el2.trans c2]; simp; omega
          rw [e2] at eb3 en3
          obtain ⟨d1, d2, d3⟩ := tk_bad l2 2 (by omega)
          rw [eb3, en3]
          exact ⟨d3, by rw [show takeV l2 false 2 = [] from d1]; rfl⟩
    exact read_un w s l1 l2 l3 (macOf t1) (macOf t2) k1 k2 k3 n3 b1 b2 b3 (by omega) H1 H2 H3 q3 (by omega) m1 m2 (by omega) _ rfl (readV4 s) (by rw [hwhy, hx.1]; rfl)
  · obtain ⟨a1, a2, a3⟩ := tk_ok s 6 (by omega)
    have e1 : b1 = false := eb1.trans a3
    have f1 : l1 = s.drop 6 := el1.trans a2
    have g1 : l1.length = s.length - 6 := by rw [f1]; simp
    have u1 : macOf t1 = s.take 6 := by rw [et1.trans a1]; unfold macOf; rw [show 6 - (s.take 6).length = 0 by simp; omega]; simp
    rw [e1] at eb2 el2 et2
    obtain ⟨c1, c2, c3⟩ := tk_ok l1 6 (by omega)
    have e2 : b2 = false := eb2.trans c3
    have f2 : l2 = s.drop 12 := by rw [el2.trans c2, f1, List.drop_drop]
    have g2 : l2.length = s.length - 12 := by rw [f2]; simp
    have u2 : macOf t2 = (s.drop 6).take 6 := by rw [et2.trans c1, f1]; unfold macOf; rw [show 6 - ((s.drop 6).take 6).length = 0 by simp; omega]; simp
    rw [e2] at eb3 el3 en3
    obtain ⟨d1, d2, d3⟩ := tk_ok l2 2 (by omega)
    have e3 : b3 = false := eb3.trans d3
    have f3 : l3 = s.drop 14 := by rw [el3.trans d2, f2, List.drop_drop]
    have g3 : l3.length = s.length - 14 := by rw [f3]; simp
    have v3 : n3 = num ((s.drop 12).take 2) := by rw [en3, show takeV l2 false 2 = l2.take 2 from d1, f2]
    by_cases hk : n3 = 33024
    · rw [e3] at eb4 el4 en4
      by_cases h18 : s.length < 18
      · have hwhy : readV4 s = (zeroE, 3) := by
          have : whyV s = 3 := by unfold whyV; rw [if_neg h14, if_pos (by rw [← v3]; exact hk), if_pos h18]
          unfold readV4; rw [this]; rfl
        have hx : b5 = true := by
          by_cases h16 : s.length < 16
          · have e4 : b4 = true := eb4.trans (tk_bad l3 2 (by omega)).2.2
            rw [e4] at eb5
            exact eb5.trans (tk_true _ _).2.2
          · obtain ⟨x1, x2, x3⟩ := tk_ok l3 2 (by omega)
            have e4 : b4 = false := eb4.trans x3
            have g4 : l4.length = s.length - 16 := by rw [el4.trans x2]; simp; omega
            rw [e4] at eb5
            exact eb5.trans (tk_bad l4 2 (by omega)).2.2
        exact read_tg w s l1 l2 l3 l4 l5 (macOf t1) (macOf t2) k1 k2 k3 k4 k5 n3 n4 n5 v p b1 b2 b3 b4 b5 (by omega) H1 H2 H3 H4 H5 q3 hk q4 q5 hv hp qv qp m1 m2 (by omega) _ rfl (readV4 s) (by rw [hwhy, hx]; rfl)
      · obtain ⟨x1, x2, x3⟩ := tk_ok l3 2 (by omega)
        have e4 : b4 = false := eb4.trans x3
        have f4 : l4 = s.drop 16 := by rw [el4.trans x2, f3, List.drop_drop]
        have g4 : l4.length = s.length - 16 := by rw [f4]; simp
        have v4 : n4 = num ((s.drop 14).take 2) := by rw [en4, show takeV l3 false 2 = l3.take 2 from x1, f3]
        rw [e4] at eb5 el5 en5
        obtain ⟨w1, w2, w3⟩ := tk_ok l4 2 (by omega)
        have e5 : b5 = false := eb5.trans w3
        have f5 : l5 = s.drop 18 := by rw [el5.trans w2, f4, List.drop_drop]
        have v5 : n5 = num ((s.drop 16).take 2) := by rw [en5, show takeV l4 false 2 = l4.take 2 from w1, f4]
        have hwhy := core_tg s (by omega) (by rw [← v3]; exact hk) v p (by rw [hv, v4]) (by rw [hp, v4])
        rw [← v4, ← v5, ← f5, ← u1, ← u2] at hwhy
        exact read_tg w s l1 l2 l3 l4 l5 (macOf t1) (macOf t2) k1 k2 k3 k4 k5 n3 n4 n5 v p b1 b2 b3 b4 b5 (by omega) H1 H2 H3 H4 H5 q3 hk q4 q5 hv hp qv qp m1 m2 (by omega) _ rfl (readV4 s) (by rw [hwhy, e5])
    · have hwhy := core_un s (by omega) (by rw [← v3]; exact hk)
      rw [← v3, ← f3, ← u1, ← u2] at hwhy
      exact read_un w s l1 l2 l3 (macOf t1) (macOf t2) k1 k2 k3 n3 b1 b2 b3 (by omega) H1 H2 H3 q3 hk m1 m2 (by omega) _ rfl (readV4 s) (by rw [hwhy, e3])
end Go.Proofs.YtlbdehegknehiaaGreat

/- A part of the proof. -/
namespace Go.Proofs.YtlbdehegknehiaaGreat
set_option maxRecDepth 100000
set_option maxHeartbeats 1000000
open Go.RowKit
set_option linter.unusedVariables false
attribute [local go_sem ↓] bld_mac ld_addr ld_mac st_mac
attribute [local go_sem] ldr_addr ldr_mac str_mac
theorem bits_and_u8_any (m : Nat) (hm : m < 256) (k : Nat) (hk : m = 2 ^ k - 1) (a : Nat) (ha : a < 256) : bits .and .u8 (a : Int) (m : Int) = ((a % 2 ^ k : Nat) : Int) := by
  rw [bits_and_u8_nat a m ha hm, hk, Nat.and_two_pow_sub_one_eq_mod]
theorem and127 (a : Nat) (ha : a < 256) : bits .and .u8 (a : Int) 127 = (a : Int) % 128 := by
  have h := bits_and_u8_any 127 (by omega) 7 rfl a ha
  rw [show ((127 : Nat) : Int) = 127 from rfl] at h
  rw [h]; rfl
def mac4V (l : List UInt8) : List Value := [.int .u8 1, .int .u8 0, .int .u8 94, .int .u8 (bN l 1 % 128), .int .u8 (bN l 2), .int .u8 (bN l 3)]
def MacAt (w W : World) (v : Bool) (l : List UInt8) : Prop := BoxAt w W v l ∧ ObjAt W (w.heap.size + 1) #[.int .u8 0, .int .u8 0, .int .u8 0, .int .u8 0, .int .u8 0, .int .u8 0] 32
theorem MacAt.made (w : World) (v : Bool) (l : List UInt8) (hl : l.length = 16) : MacAt w ((w.alloc (.cells (addrC v l).toArray 24)).alloc (.cells #[.int .u8 0, .int .u8 0, .int .u8 0, .int .u8 0, .int .u8 0, .int .u8 0] 32)) v l := by
  refine ⟨(BoxAt.made w v l hl _).alloc _, ?_⟩
  have := ObjAt.made (w.alloc (.cells (addrC v l).toArray 24)) #[.int .u8 0, .int .u8 0, .int .u8 0, .int .u8 0, .int .u8 0, .int .u8 0] 32
  simpa using this
theorem MacAt.keep {w W W' : World} {v : Bool} {l : List UInt8} (h : MacAt w W v l) (hb : Below W.heap.size W W') : MacAt w W' v l := ⟨h.1.keep hb, h.2.below hb h.2.lt⟩
theorem MacAt.free {w W : World} {v : Bool} {l : List UInt8} (h : MacAt w W v l) : free? W (w.heap.size + 1) 0 6 = true := obj_free h.2 (by simp)
theorem mac_none (v : Bool) (l : List UInt8) (hl : l.length = 16) (hg : Hid (grpV v l = false)) (w : World) : Calls Tryz.prog 21 #[.agg (addrC v l).toArray] w fun e w' => e = .returned (.tuple #[.agg #[.int .u8 0, .int .u8 0, .int .u8 0, .int .u8 0, .int .u8 0, .int .u8 0], .bool false]) ∧ Below w.heap.size w w' := by
  have HM := zh (MacAt.made w v l hl)
  have hok : fok #[.int .u8 0, .int .u8 0, .int .u8 0, .int .u8 0, .int .u8 0, .int .u8 0] 6 = true := by simp [fok, Value.oneCell']
  have hbld : ∀ w0, (aggBuild 32 #[]).run Tryz.prog w0 = .ok (.agg #[.int .u8 0, .int .u8 0, .int .u8 0, .int .u8 0, .int .u8 0, .int .u8 0]) w0 := bld_run _ _ _ (by kernel_rfl)
  have HC := zh (fun w => group_any v l hl w)
  clear hl
  go_enter Tryz.func21, Tryz.ntmps21
  go_upto_region 1 with (fail)
  generalize (w.alloc (.cells (addrC v l).toArray 24)).alloc (.cells #[.int .u8 0, .int .u8 0, .int .u8 0, .int .u8 0, .int .u8 0, .int .u8 0] 32) = W at HM ⊢
  obtain ⟨k0, k1, k2, k3, k4⟩ := id HM.out.1
  clear k1 k4
  go_wp2_with (go_at_call 29; refine (HC.out _).mono ?_; rintro e w1 ⟨rfl, hb1⟩; rw [hg.out]; have HM1 := zh (HM.out.keep hb1); have hf1 := HM1.out.free; clear hb1 k0 k2 k3)
  have hr := aggW_row (cs := [.int .u8 0, .int .u8 0, .int .u8 0, .int .u8 0, .int .u8 0, .int .u8 0]) hf1 rfl
  exact bodyPost_ret (results_cell2 Tryz.results21 rfl (ld_some hr (ldr_mac _ _ _))) rfl ⟨rfl, aggW_below HM1.out.1.2.2.2.2 (by omega) _⟩
theorem mac4_any (l : List UInt8) (hl : l.length = 16) (hg : Hid (grpV false l = true)) (w : World) : Calls Tryz.prog 21 #[.agg (addrC false l).toArray] w fun e w' => e = .returned (.tuple #[.agg (mac4V l).toArray, .bool true]) ∧ Below w.heap.size w w' := by
  have HM := zh (MacAt.made w false l hl)
  have HC := zh (fun w => group_any false l hl w)
  have e1 : bN l 1 = ((l[1]'(by omega)).toNat : Int) := by simp [bN, List.getD, List.getElem?_eq_getElem (show 1 < l.length by omega)]
  have e2 : bN l 2 = ((l[2]'(by omega)).toNat : Int) := by simp [bN, List.getD, List.getElem?_eq_getElem (show 2 < l.length by omega)]
  have e3 : bN l 3 = ((l[3]'(by omega)).toNat : Int) := by simp [bN, List.getD, List.getElem?_eq_getElem (show 3 < l.length by omega)]
  have HR := zh (show mac4V l = [.int .u8 1, .int .u8 0, .int .u8 94, .int .u8 (((l[1]'(by omega)).toNat : Int) % 128), .int .u8 ((l[2]'(by omega)).toNat : Int), .int .u8 ((l[3]'(by omega)).toNat : Int)] by unfold mac4V; rw [e1, e2, e3])
  have HX : Hid (∀ W, BoxAt w W false l → W.cell? ⟨w.heap.size, 2, none⟩ = some (.int .u8 ((l[1]'(by omega)).toNat : Int)) ∧ W.cell? ⟨w.heap.size, 3, none⟩ = some (.int .u8 ((l[2]'(by omega)).toNat : Int)) ∧ W.cell? ⟨w.heap.size, 4, none⟩ = some (.int .u8 ((l[3]'(by omega)).toNat : Int))) :=
    zh fun W h => ⟨h.at 1 (by omega), h.at 2 (by omega), h.at 3 (by omega)⟩
  have b1 := (l[1]'(by omega)).toNat_lt
  generalize l[1]'(by omega) = c1 at HR HX b1
  generalize l[2]'(by omega) = c2 at HR HX
  generalize l[3]'(by omega) = c3 at HR HX
  have ha := and127 c1.toNat (by omega)
  have hok : fok #[.int .u8 1, .int .u8 0, .int .u8 94, .int .u8 ((c1.toNat : Int) % 128), .int .u8 (c2.toNat : Int), .int .u8 (c3.toNat : Int)] 6 = true := by simp [fok, Value.oneCell']
  have hbld : ∀ w0, (aggBuild 32 #[(0, .int .u8 1), (1, .int .u8 0), (2, .int .u8 94), (3, .int .u8 ((c1.toNat : Int) % 128)), (4, .int .u8 (c2.toNat : Int)), (5, .int .u8 (c3.toNat : Int))]).run Tryz.prog w0 = .ok (.agg #[.int .u8 1, .int .u8 0, .int .u8 94, .int .u8 ((c1.toNat : Int) % 128), .int .u8 (c2.toNat : Int), .int .u8 (c3.toNat : Int)]) w0 := bld_run _ _ _ (by kernel_rfl)
  clear e1 e2 e3 hl b1
  go_enter Tryz.func21, Tryz.ntmps21
  go_upto_region 1 with (fail)
  generalize (w.alloc (.cells (addrC false l).toArray 24)).alloc (.cells #[.int .u8 0, .int .u8 0, .int .u8 0, .int .u8 0, .int .u8 0, .int .u8 0] 32) = W at HM ⊢
  obtain ⟨k0, k1, k2, k3, k4⟩ := id HM.out.1
  clear k1 k4
  go_wp2_with (go_at_call 29; refine (HC.out _).mono ?_; rintro e w1 ⟨rfl, hb1⟩; rw [hg.out]; have HM1 := zh (HM.out.keep hb1); have hf1 := HM1.out.free; obtain ⟨x1, x2, x3⟩ := HX.out _ HM1.out.1; have k0 := HM1.out.1.1; clear hb1 k2 k3)
  have hr := aggW_row (cs := [.int .u8 1, .int .u8 0, .int .u8 94, .int .u8 ((c1.toNat : Int) % 128), .int .u8 (c2.toNat : Int), .int .u8 (c3.toNat : Int)]) hf1 rfl
  exact bodyPost_ret (results_cell2 Tryz.results21 rfl (ld_some hr (ldr_mac _ _ _))) rfl ⟨by rw [HR.out]; rfl, aggW_below HM1.out.1.2.2.2.2 (by omega) _⟩
end Go.Proofs.YtlbdehegknehiaaGreat


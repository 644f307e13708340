/-
  Texts joined: OctRd, PureIp6.
-/
import Derived.Test.YtchbkamjmkfikaaMg05
import Derived.Test.YtchbkamjmkfikaaMg01
import Derived.Test.YtchbkamjmkfikaaMg13
/-
  The contracts of octet's Reader, and of the document's own.
-/
namespace Go.Proofs.Ytchbkamjmkfikaa
open Go.RowKit
set_option linter.unusedVariables false

/-- A reader in memory: what is left, how many went by, whether it is bad. -/
def RdAt (w : World) (b : Nat) (l : List UInt8) (k : Nat) (bad : Bool) : Prop := ObjAt w b #[.string (Str l), .int .i64 k, .bool bad] 85
def takeV (l : List UInt8) (bad : Bool) (n : Int) : List UInt8 := if bad then [] else if (l.length : Int) < n then [] else l.take n.toNat
def leftV (l : List UInt8) (bad : Bool) (n : Int) : List UInt8 := if bad then l else if (l.length : Int) < n then l else l.drop n.toNat
def pastV (l : List UInt8) (bad : Bool) (n : Int) (k : Nat) : Nat := if bad then k else if (l.length : Int) < n then k else k + n.toNat
def badV (l : List UInt8) (bad : Bool) (n : Int) : Bool := if bad then true else decide ((l.length : Int) < n)

theorem takeV_le (l : List UInt8) (bad : Bool) (n : Int) : (takeV l bad n).length ≤ l.length := by
  unfold takeV; repeat' split
  all_goals simp
  omega

theorem new_any (s : ByteArray) (w : World) : Calls Try.prog 15 #[.string s] w fun e w' => e = .returned (.pointer (some ⟨w.heap.size, 0, none⟩)) ∧ w' = w.alloc (.cells #[.string s, .int .i64 0, .bool false] 85) := by
  go_enter Try.func15, Try.ntmps15
  go_wp2
  go_ret
  exact ⟨rfl, rfl⟩

set_option maxHeartbeats 400000 in
theorem take_any (b : Nat) (l : List UInt8) (k : Nat) (bad : Bool) (n : Int) (hl : l.length ≤ 1000000) (hk : k ≤ 1000000) (w : World) (h : RdAt w b l k bad) :
    Calls Try.prog 55 #[.pointer (some ⟨b, 0, none⟩), .int .i64 n] w fun e w' => e = .returned (.string (Str (takeV l bad n))) ∧ RdAt w' b (leftV l bad n) (pastV l bad n k) (badV l bad n) ∧ w.grownBy w' (some b) := by
  have H := Lib.hid h
  have c0 := h.cell 0
  have c1 := h.cell 1
  have c2 := h.cell 2
  have f0 := h.free 0
  have f1 := h.free 1
  have f2 := h.free 2
  simp at c0 c1 c2
  clear h
  cases bad with
  | true =>
    go_enter Try.func55, Try.ntmps55
    go_wp2
    go_ret
    exact ⟨rfl, H.out, World.grownBy.refl _ _⟩
  | false =>
    have hsz : (Str l).size = l.length := Str_size l
    have H := Lib.hid H.out
    by_cases hn : n < 0
    · have e1 : ¬ ((l.length : Int) < n) := by omega
      have HT := Lib.hid (show takeV l false n = [] ∧ leftV l false n = l ∧ pastV l false n k = k ∧ badV l false n = false by
        simp [takeV, leftV, pastV, badV, e1, show n.toNat = 0 by omega])
      clear e1
      go_enter Try.func55, Try.ntmps55
      go_wp2
      go_ret
      obtain ⟨t1, t2, t3, t4⟩ := HT.out
      refine ⟨?_, ?_, ?_⟩
      · rw [t1]; rfl
      · rw [t2, t3, t4]
        have g := (H.out.set 0 (.string ((Str l).extract 0 l.length))).set 1 (.int .i64 (k : Int))
        rw [Str_extract] at g ⊢
        simpa [RdAt] using g
      · exact gset' (gset _ _ _ _) _ _
    · by_cases hlt : (l.length : Int) < n
      · have HT := Lib.hid (show takeV l false n = [] ∧ leftV l false n = l ∧ pastV l false n k = k ∧ badV l false n = true by
          simp [takeV, leftV, pastV, badV, hlt])
        go_enter Try.func55, Try.ntmps55
        go_wp2
        go_ret
        obtain ⟨t1, t2, t3, t4⟩ := HT.out
        refine ⟨?_, ?_, ?_⟩
        · rw [t1]; rfl
        · rw [t2, t3, t4]
          have g := H.out.set 2 (.bool true)
          simpa [RdAt] using g
        · exact gset _ _ _ _
      · obtain ⟨m, rfl⟩ := Int.eq_ofNat_of_zero_le (show 0 ≤ n by omega)
        have HT := Lib.hid (show takeV l false m = l.take m ∧ leftV l false m = l.drop m ∧ pastV l false m k = k + m ∧ badV l false m = false by
          unfold takeV leftV pastV badV; simp only [if_neg hlt, Int.toNat_natCast]; simp; omega)
        go_enter Try.func55, Try.ntmps55
        go_wp2
        go_ret
        obtain ⟨t1, t2, t3, t4⟩ := HT.out
        refine ⟨?_, ?_, ?_⟩
        · rw [t1]
          have e : (Str l).extract 0 m = Str (l.take m) := by rw [Str_extract]; simp
          rw [← e]; rfl
        · rw [t2, t3, t4]
          have g := (H.out.set 0 (.string ((Str l).extract m l.length))).set 1 (.int .i64 ((k : Int) + (m : Int)))
          rw [Str_extract, List.take_of_length_le (by simp)] at g ⊢
          simpa [RdAt] using g
        · exact gset' (gset _ _ _ _) _ _

theorem bad_any (b : Nat) (l : List UInt8) (k : Nat) (bad : Bool) (w : World) (h : RdAt w b l k bad) : Calls Try.prog 88 #[.pointer (some ⟨b, 0, none⟩)] w fun e w' => e = .returned (.bool bad) ∧ w' = w := by
  have c2 := h.cell 2
  simp at c2
  clear h
  go_enter Try.func88, Try.ntmps88
  go_wp2
  go_ret
  exact ⟨rfl, rfl⟩
theorem rest_any (b : Nat) (l : List UInt8) (k : Nat) (bad : Bool) (w : World) (h : RdAt w b l k bad) : Calls Try.prog 84 #[.pointer (some ⟨b, 0, none⟩)] w fun e w' => e = .returned (.string (Str l)) ∧ w' = w := by
  have c2 := h.cell 0
  simp at c2
  clear h
  go_enter Try.func84, Try.ntmps84
  go_wp2
  go_ret
  exact ⟨rfl, rfl⟩
theorem left_any (b : Nat) (l : List UInt8) (k : Nat) (bad : Bool) (w : World) (h : RdAt w b l k bad) : Calls Try.prog 52 #[.pointer (some ⟨b, 0, none⟩)] w fun e w' => e = .returned (.int .i64 l.length) ∧ w' = w := by
  have hs := Lib.hid (Str_size l)
  have H := Lib.hid h
  clear h
  go_enter Try.func52, Try.ntmps52
  go_wp2_with (go_at_call 84; refine (rest_any b l k bad _ H.out).mono ?_; rintro e w' ⟨rfl, rfl⟩)
  go_ret
  exact ⟨ret_int (by rw [← hs.out]), rfl⟩
theorem num_any (b : Nat) (l : List UInt8) (k : Nat) (bad : Bool) (n : Int) (hl : l.length ≤ 1000000) (hk : k ≤ 1000000) (w : World) (h : RdAt w b l k bad) :
    Calls Try.prog 49 #[.pointer (some ⟨b, 0, none⟩), .int .i64 n] w fun e w' => e = .returned (.int .u64 (num (takeV l bad (clampN n 8)))) ∧ RdAt w' b (leftV l bad (clampN n 8)) (pastV l bad (clampN n 8) k) (badV l bad (clampN n 8)) ∧ w.grownBy w' (some b) := by
  have H := Lib.hid h
  clear h
  go_enter Try.func49, Try.ntmps49
  go_wp2_with fail
  refine (clamp_any n 8 _).mono ?_
  rintro e w1 ⟨rfl, rfl⟩
  go_wp2_with fail
  refine (take_any b l k bad _ hl hk _ H.out).mono ?_
  rintro e w1 ⟨rfl, h1, g1⟩
  have H1 := Lib.hid h1; clear h1
  have G1 := Lib.hid g1; clear g1
  go_wp2_with fail
  refine (number_any _ (by rw [Str_size]; unfold maxLen; have := takeV_le l bad (clampN n 8); omega) _).mono ?_
  rintro e w2 ⟨rfl, rfl⟩
  go_wp2
  go_ret
  exact ⟨rfl, H1.out, G1.out⟩

end Go.Proofs.Ytchbkamjmkfikaa

/-
  Packets of IPv6 as plain data: options, what is wrong of bytes, their parts. Nothing of the program.
-/
namespace Go.Proofs.Ytchbkamjmkfikaa
open Go.RowKit
set_option linter.unusedVariables false

/-- Whether the first option is an alert. -/
def al6 (l : List UInt8) : Bool := decide (by8 l 0 = 5 ∧ by8 l 1 = 2 ∧ by8 l 2 = 0 ∧ by8 l 3 = 0)
/-- What options tell: whether there is an alert among them, and what is wrong; so many at most. -/
def optW : Nat → Bool → List UInt8 → Bool × Int
  | 0, is, _ => (is, 0)
  | f + 1, is, l =>
    if l.length = 0 then (is, 0)
    else if by8 l 0 = 0 then optW f is (l.drop 1)
    else if l.length < 2 ∨ l.length < by8 l 1 + 2 then (false, 2)
    else if by8 l 0 ≠ 1 ∧ by8 l 0 ≠ 5 ∧ 63 < by8 l 0 then (false, 5)
    else optW f (is || al6 l) (l.drop (by8 l 1 + 2))
def optQ (is : Bool) (l : List UInt8) : Bool × Int := optW l.length is l
theorem optW_enough : ∀ (f g : Nat) (is : Bool) (l : List UInt8), l.length ≤ f → l.length ≤ g → optW f is l = optW g is l := by
  intro f
  induction f with
  | zero =>
    intro g is l h1 h2
    cases g with
    | zero => rfl
    | succ g => unfold optW; rw [if_pos (by omega)]
  | succ f ih =>
    intro g is l h1 h2
    cases g with
    | zero => unfold optW; rw [if_pos (by omega)]
    | succ g =>
      unfold optW
      split
      · rfl
      split
      · exact ih g is _ (by simp; omega) (by simp; omega)
      split
      · rfl
      split
      · rfl
      · exact ih g _ _ (by simp; omega) (by simp; omega)
theorem optQ_nil (is : Bool) (l : List UInt8) (h : l.length = 0) : optQ is l = (is, 0) := by unfold optQ; rw [h]; rfl
theorem optQ_unfold (is : Bool) (l : List UInt8) (h : 0 < l.length) : optQ is l =
    if by8 l 0 = 0 then optQ is (l.drop 1)
    else if l.length < 2 ∨ l.length < by8 l 1 + 2 then (false, 2)
    else if by8 l 0 ≠ 1 ∧ by8 l 0 ≠ 5 ∧ 63 < by8 l 0 then (false, 5)
    else optQ (is || al6 l) (l.drop (by8 l 1 + 2)) := by
  unfold optQ
  obtain ⟨f, hf⟩ : ∃ f, l.length = f + 1 := ⟨l.length - 1, by omega⟩
  rw [hf]
  conv => lhs; unfold optW
  rw [if_neg (by omega), hf]
  split
  · exact optW_enough _ _ _ _ (by simp; omega) (by simp)
  split
  · rfl
  split
  · rfl
  · exact optW_enough _ _ _ _ (by simp; omega) (by simp)
theorem optQ_pad (is : Bool) (l : List UInt8) (h : 0 < l.length) (h0 : by8 l 0 = 0) : optQ is l = optQ is (l.drop 1) := by rw [optQ_unfold is l h, if_pos h0]
theorem optQ_end (is : Bool) (l : List UInt8) (h : 0 < l.length) (h0 : by8 l 0 ≠ 0) (h1 : l.length < 2 ∨ l.length < by8 l 1 + 2) : optQ is l = (false, 2) := by rw [optQ_unfold is l h, if_neg h0, if_pos h1]
theorem optQ_kind (is : Bool) (l : List UInt8) (h : 0 < l.length) (h0 : by8 l 0 ≠ 0) (h1 : ¬ (l.length < 2 ∨ l.length < by8 l 1 + 2)) (h2 : by8 l 0 ≠ 1 ∧ by8 l 0 ≠ 5 ∧ 63 < by8 l 0) : optQ is l = (false, 5) := by rw [optQ_unfold is l h, if_neg h0, if_neg h1, if_pos h2]
theorem optQ_step (is : Bool) (l : List UInt8) (h : 0 < l.length) (h0 : by8 l 0 ≠ 0) (h1 : ¬ (l.length < 2 ∨ l.length < by8 l 1 + 2)) (h2 : ¬ (by8 l 0 ≠ 1 ∧ by8 l 0 ≠ 5 ∧ 63 < by8 l 0)) : optQ is l = optQ (is || al6 l) (l.drop (by8 l 1 + 2)) := by rw [optQ_unfold is l h, if_neg h0, if_neg h1, if_neg h2]

/-- What was announced. -/
def bd6 (s : List UInt8) : List UInt8 := (s.drop 40).take (wd s 4)
/-- The size of the options that begin it. -/
def hb6 (s : List UInt8) : Nat := 8 * by8 (bd6 s) 1 + 8
def opt6 (s : List UInt8) : Bool × Int := optQ false (((bd6 s).take (hb6 s)).drop 2)
/-- What is wrong ahead of the options, of them, and behind. -/
def hdE6 (s : List UInt8) : Int := if s.length < 40 then 3 else if by8 s 0 / 16 ≠ 6 then 5 else if s.length < wd s 4 + 40 then 3 else 0
def opE6 (s : List UInt8) : Int :=
  if (bd6 s).length < 8 ∨ (bd6 s).length < hb6 s then 2
  else if (opt6 s).2 ≠ 0 then (opt6 s).2
  else if by8 (bd6 s) 0 = 0 then 2
  else if 1400 < (bd6 s).length - hb6 s then 6
  else 0
def why6 (s : List UInt8) : Int := if hdE6 s ≠ 0 then hdE6 s else if by8 s 6 = 0 then opE6 s else if 1400 < (bd6 s).length then 6 else 0
theorem hdE6_zero {s : List UInt8} (h : hdE6 s = 0) : 40 ≤ s.length ∧ by8 s 0 / 16 = 6 ∧ wd s 4 + 40 ≤ s.length ∧ (bd6 s).length = wd s 4 := by
  unfold hdE6 at h
  split at h
  · omega
  split at h
  · omega
  split at h
  · omega
  rename_i h1 h2 h3
  exact ⟨by omega, by omega, by omega, by unfold bd6; simp; omega⟩
theorem hdE6_of {s : List UInt8} (h1 : 40 ≤ s.length) (h2 : by8 s 0 / 16 = 6) (h3 : wd s 4 + 40 ≤ s.length) : hdE6 s = 0 := by
  unfold hdE6; rw [if_neg (by omega), if_neg (by omega), if_neg (by omega)]
theorem opE6_zero {s : List UInt8} (h : opE6 s = 0) : 8 ≤ (bd6 s).length ∧ hb6 s ≤ (bd6 s).length ∧ (opt6 s).2 = 0 ∧ by8 (bd6 s) 0 ≠ 0 ∧ (bd6 s).length - hb6 s ≤ 1400 := by
  unfold opE6 at h
  split at h
  · omega
  split at h
  · rename_i h1; exact absurd h h1
  split at h
  · omega
  split at h
  · omega
  rename_i h1 h2 h3 h4
  exact ⟨by omega, by omega, Decidable.byContradiction h2, h3, by omega⟩
theorem why6_bad {s : List UInt8} (h : hdE6 s ≠ 0) : why6 s = hdE6 s := by unfold why6; rw [if_pos h]
theorem why6_opt {s : List UInt8} (h : hdE6 s = 0) (h6 : by8 s 6 = 0) : why6 s = opE6 s := by unfold why6; rw [if_neg (by simp [h]), if_pos h6]
theorem why6_no {s : List UInt8} (h : hdE6 s = 0) (h6 : by8 s 6 ≠ 0) : why6 s = if 1400 < (bd6 s).length then 6 else 0 := by unfold why6; rw [if_neg (by simp [h]), if_neg h6]
/-- Numbers in the first four bytes. -/
theorem num4 (a b c d : UInt8) : num [a, b, c, d] = ((a.toNat * 256 + b.toNat) * 256 + c.toNat) * 256 + d.toNat := by
  have h1 := a.toNat_lt; have h2 := b.toNat_lt; have h3 := c.toNat_lt; have h4 := d.toNat_lt
  simp [num]; omega
theorem num1 (a : UInt8) : num [a] = a.toNat := by
  have h1 := a.toNat_lt
  simp [num]
end Go.Proofs.Ytchbkamjmkfikaa


/-
  Texts joined: OctUn, PureNum, Numr.
-/
import Derived.Test.YtalnfjnfcloonaaGreatDoorMg12
import Derived.Test.YtalnfjnfcloonaaGreatDoorMg09
import Derived.LoopTactic
import Derived.WalkLawsBesides
import Derived.Deep.Cut
import Derived.Deep.RegionHeld3
/-
  The contracts of octet.Unhex, and of the document's answers Sign, Hex, digit, Unhex.
-/
namespace Go.Proofs.YtalnfjnfcloonaaGreatDoor
open Go.RowKit
set_option linter.unusedVariables false

theorem sign_any (n : Nat) (hn : n < 16) (w : World) : Calls Tryz.prog 47 #[.int .u8 n] w fun e w' => e = .returned (.string (Str [digL n])) ∧ w = w' := by
  have HC := Lib.hid (hexcut ⟨n, hn⟩)
  go_enter Tryz.func47, Tryz.ntmps47
  go_wp2
  go_ret
  exact ⟨by rw [← HC.out]; rfl, rfl⟩
end Go.Proofs.YtalnfjnfcloonaaGreatDoor

/-
  Numbers in digits: plain mathematics.
-/
namespace Go.Proofs.YtalnfjnfcloonaaGreatDoor
open Go.RowKit
set_option linter.unusedVariables false

/-- The digits of n to the base b, the greatest first. -/
def digs (b : Nat) : Nat → Nat → List UInt8
  | 0, _ => []
  | f + 1, n => if n < b then [digL n] else digs b f (n / b) ++ [digL (n % b)]
def numD (b n : Nat) : List UInt8 := digs b 5 n
theorem digs_more (b : Nat) (hb : 2 ≤ b) : ∀ (f n : Nat), n < b ^ (f + 1) → digs b (f + 2) n = digs b (f + 1) n
  | 0, n, h => by
    have h' : n < b := by simpa using h
    simp [digs, h']
  | f + 1, n, h => by
    by_cases hn : n < b
    · simp [digs, hn]
    · have ih := digs_more b hb f (n / b) (by rw [Nat.div_lt_iff_lt_mul (by omega), ← Nat.pow_succ]; exact h)
      rw [show digs b (f + 1 + 2) n = digs b (f + 2) (n / b) ++ [digL (n % b)] by rw [digs, if_neg hn], show digs b (f + 1 + 1) n = digs b (f + 1) (n / b) ++ [digL (n % b)] by rw [digs, if_neg hn], ih]
theorem numD_small (b n : Nat) (h : n < b) : numD b n = [digL n] := by simp [numD, digs, h]
theorem numD_step (b n : Nat) (hb : 2 ≤ b) (h : b ≤ n) (hn : n < b ^ 5) : numD b n = numD b (n / b) ++ [digL (n % b)] := by
  have h1 : n / b < b ^ 4 := by rw [Nat.div_lt_iff_lt_mul (by omega), ← Nat.pow_succ]; exact hn
  unfold numD
  rw [digs_more b hb 3 (n / b) h1, show digs b 5 n = digs b 4 (n / b) ++ [digL (n % b)] by rw [digs, if_neg (by omega)]]
theorem numD_length (b n : Nat) : (numD b n).length ≤ 5 := by
  have : ∀ f n, (digs b f n).length ≤ f := by
    intro f
    induction f with
    | zero => intro n; simp [digs]
    | succ f ih =>
      intro n
      unfold digs
      split
      · simp
      · have := ih (n / b); simp; omega
  exact this 5 n
theorem set_row (m : Nat) (ds : List UInt8) (c : UInt8) : (List.replicate (m + 1) (0 : UInt8) ++ ds).set m c = List.replicate m 0 ++ c :: ds := by
  induction m with
  | zero => simp
  | succ m ih =>
    rw [List.replicate_succ, List.cons_append, List.set_cons_succ, ih, List.replicate_succ, List.cons_append]
theorem digit36 : ∀ x : Fin 16, (⟨#[48, 49, 50, 51, 52, 53, 54, 55, 56, 57, 97, 98, 99, 100, 101, 102, 103, 104, 105, 106, 107, 108, 109, 110, 111, 112, 113, 114, 115, 116, 117, 118, 119, 120, 121, 122]⟩ : ByteArray)[x.val]'(Nat.lt_trans x.isLt (by decide)) = digL x.val := by decide
theorem digit36' (x : Int) (n : Nat) (hx : x = n) (hn : n < 16) (h : x.toNat < (⟨#[48, 49, 50, 51, 52, 53, 54, 55, 56, 57, 97, 98, 99, 100, 101, 102, 103, 104, 105, 106, 107, 108, 109, 110, 111, 112, 113, 114, 115, 116, 117, 118, 119, 120, 121, 122]⟩ : ByteArray).size) :
    (⟨#[48, 49, 50, 51, 52, 53, 54, 55, 56, 57, 97, 98, 99, 100, 101, 102, 103, 104, 105, 106, 107, 108, 109, 110, 111, 112, 113, 114, 115, 116, 117, 118, 119, 120, 121, 122]⟩ : ByteArray)[x.toNat]'h = digL n := by
  subst hx
  exact digit36 ⟨n, hn⟩
end Go.Proofs.YtalnfjnfcloonaaGreatDoor

/-
  The document's own digits of a number.
-/
namespace Go.Proofs.YtalnfjnfcloonaaGreatDoor
open Go.RowKit
set_option linter.unusedVariables false

theorem strL (l : List UInt8) : (Str l).toList = l := by rw [ByteArray.toList_eq, Str_data]
/-- Whether a text is empty. -/
def emp : Value → Nat
  | .string b => if b.size = 0 then 1 else 0
  | _ => 0
/-- What the digits that are there already, and the number that is left, come to. -/
def NumSt (b n m : Nat) (s : List UInt8) : Prop := m ≤ n ∧ s.length ≤ 100 ∧ ((s = [] ∧ m = n) ∨ (s ≠ [] ∧ numD b n = (if m = 0 then [] else numD b m) ++ s))
theorem NumSt.step {b n m : Nat} {s : List UInt8} (h : NumSt b n m s) (hb : 2 ≤ b) (hn : n < b ^ 5) (hs : s = [] ∨ 0 < m) (hl : s.length ≤ 99) : NumSt b n (m / b) (digL (m % b) :: s) := by
  obtain ⟨h1, _, h2⟩ := h
  have hdm : m / b ≤ m := Nat.div_le_self _ _
  refine ⟨by omega, by simp; omega, .inr ⟨by simp, ?_⟩⟩
  have hm : numD b n = numD b m ++ s := by
    rcases h2 with ⟨rfl, rfl⟩ | ⟨h3, h4⟩
    · simp
    · have : m ≠ 0 := by
        rcases hs with hs | hs
        · exact absurd hs h3
        · omega
      rw [if_neg this] at h4
      exact h4
  by_cases hlt : m < b
  · rw [hm, numD_small b m hlt, Nat.div_eq_of_lt hlt, if_pos rfl, Nat.mod_eq_of_lt hlt]; rfl
  · have h0 : m / b ≠ 0 := by
      have := Nat.div_pos (show b ≤ m by omega) (show 0 < b by omega)
      omega
    rw [hm, numD_step b m hb (by omega) (by omega), if_neg h0]
    simp
theorem NumSt.done {b n : Nat} {s : List UInt8} (h : NumSt b n 0 s) (hs : s ≠ []) : numD b n = s := by
  rcases h.2.2 with ⟨h1, _⟩ | ⟨_, h2⟩
  · exact absurd h1 hs
  · simpa using h2
theorem NumSt.len {b n m : Nat} {s : List UInt8} (h : NumSt b n m s) : s.length ≤ 5 := by
  have hl := numD_length b n
  rcases h.2.2 with ⟨rfl, _⟩ | ⟨_, h2⟩
  · simp
  · rw [h2, List.length_append] at hl; omega

set_option maxRecDepth 100000 in
set_option maxHeartbeats 1000000 in
theorem num16_any (n : Nat) (hn : n ≤ 65535) (w : World) : Calls Tryz.prog 31 #[.int .i64 n, .int .i64 16] w fun e w' => e = .returned (.string (Str (numD 16 n))) ∧ w' = w := by
  obtain ⟨R, hR⟩ : ∃ R, R = numD 16 n := ⟨_, rfl⟩
  rw [← hR]
  have HR := Lib.hid hR; clear hR
  go_enter Tryz.func31, Tryz.ntmps31
  go_upto_region 2 with (fail)
  go_loop [0, 5] (fun x y => ∃ (m : Nat) (s : List UInt8), m ≤ 65535 ∧ x = .int .i64 (m : Int) ∧ y = .string (Str s) ∧ Hid (NumSt 16 n m s)) (fun x y => (intOf x).toNat + emp y)
  case atStart => exact ⟨n, [], hn, rfl, rfl, Lib.hid ⟨Nat.le_refl _, by simp, .inl ⟨rfl, rfl⟩⟩⟩
  case round =>
    obtain ⟨m, s, hm, rfl, rfl, hq⟩ := hrel
    have hs5 := hq.out.len
    obtain ⟨y, hy⟩ : ∃ y, y = m % 16 := ⟨_, rfl⟩
    obtain ⟨q, hqq⟩ : ∃ q, q = m / 16 := ⟨_, rfl⟩
    have hmod : (m : Int) % 16 = (y : Int) := by omega
    have hdiv : (m : Int) / 16 = (q : Int) := by omega
    have hy16 : y < 16 := by omega
    have hq6 : q ≤ 65535 := by omega
    have hw : IntKind.u8.wrap (y : Int) = (y : Int) := by simp only [IntKind.wrap_u8]; omega
    have hcat := run_cat (P := Tryz.prog) [digL y] s (by simp; omega)
    have HS := Lib.hid (fun w => sign_any y (by omega) w)
    cases s with
    | nil =>
      have HN : Hid (NumSt 16 n q [digL y]) := Lib.hid (by rw [hy, hqq]; exact hq.out.step (by omega) (by omega) (.inl rfl) (by simp))
      have hle : q ≤ m := by omega
      have HLE := Lib.hid hle
      clear hy hqq hle
      have ht : (Str ([] : List UInt8)).toList = [] := strL _
      go_wp2_with (go_at_call 47; (with_reducible refine (HS.out _).mono ?_); rintro x w1 ⟨rfl, rfl⟩)
      go_round
      case rel => exact ⟨q, [digL y], hq6, rfl, rfl, HN⟩
      case measure => have := HLE.out; simp [intOf, emp, Str_size]; omega
    | cons c r =>
      have ht : (Str (c :: r)).toList = c :: r := strL _
      by_cases h0 : m = 0
      · subst h0
        have HD := Lib.hid (hq.out.done (by simp))
        clear hy hqq
        go_wp2_with fail
        go_ret
        exact ⟨by rw [HR.out, HD.out]; rfl, rfl⟩
      · have hpos : 0 < (m : Int) := by omega
        have HN : Hid (NumSt 16 n q (digL y :: c :: r)) := Lib.hid (by rw [hy, hqq]; exact hq.out.step (by omega) (by omega) (.inr (by omega)) (by have := hq.out.len; simp at this ⊢; omega))
        have hlt : q < m := by omega
        have HLT := Lib.hid hlt
        clear hy hqq hlt h0
        go_wp2_with (go_at_call 47; (with_reducible refine (HS.out _).mono ?_); rintro x w1 ⟨rfl, rfl⟩)
        go_round
        case rel => exact ⟨q, digL y :: c :: r, hq6, rfl, rfl, HN⟩
        case measure => have := HLT.out; simp [intOf, emp, Str_size]; omega

set_option maxRecDepth 100000 in
set_option maxHeartbeats 1000000 in
theorem num10_any (n : Nat) (hn : n ≤ 65535) (w : World) : Calls Tryz.prog 31 #[.int .i64 n, .int .i64 10] w fun e w' => e = .returned (.string (Str (numD 10 n))) ∧ w' = w := by
  obtain ⟨R, hR⟩ : ∃ R, R = numD 10 n := ⟨_, rfl⟩
  rw [← hR]
  have HR := Lib.hid hR; clear hR
  go_enter Tryz.func31, Tryz.ntmps31
  go_upto_region 2 with (fail)
  go_loop [0, 5] (fun x y => ∃ (m : Nat) (s : List UInt8), m ≤ 65535 ∧ x = .int .i64 (m : Int) ∧ y = .string (Str s) ∧ Hid (NumSt 10 n m s)) (fun x y => (intOf x).toNat + emp y)
  case atStart => exact ⟨n, [], hn, rfl, rfl, Lib.hid ⟨Nat.le_refl _, by simp, .inl ⟨rfl, rfl⟩⟩⟩
  case round =>
    obtain ⟨m, s, hm, rfl, rfl, hq⟩ := hrel
    have hs5 := hq.out.len
    obtain ⟨y, hy⟩ : ∃ y, y = m % 10 := ⟨_, rfl⟩
    obtain ⟨q, hqq⟩ : ∃ q, q = m / 10 := ⟨_, rfl⟩
    have hmod : (m : Int) % 10 = (y : Int) := by omega
    have hdiv : (m : Int) / 10 = (q : Int) := by omega
    have hy16 : y < 10 := by omega
    have hq6 : q ≤ 65535 := by omega
    have hw : IntKind.u8.wrap (y : Int) = (y : Int) := by simp only [IntKind.wrap_u8]; omega
    have hcat := run_cat (P := Tryz.prog) [digL y] s (by simp; omega)
    have HS := Lib.hid (fun w => sign_any y (by omega) w)
    cases s with
    | nil =>
      have HN : Hid (NumSt 10 n q [digL y]) := Lib.hid (by rw [hy, hqq]; exact hq.out.step (by omega) (by omega) (.inl rfl) (by simp))
      have hle : q ≤ m := by omega
      have HLE := Lib.hid hle
      clear hy hqq hle
      have ht : (Str ([] : List UInt8)).toList = [] := strL _
      go_wp2_with (go_at_call 47; (with_reducible refine (HS.out _).mono ?_); rintro x w1 ⟨rfl, rfl⟩)
      go_round
      case rel => exact ⟨q, [digL y], hq6, rfl, rfl, HN⟩
      case measure => have := HLE.out; simp [intOf, emp, Str_size]; omega
    | cons c r =>
      have ht : (Str (c :: r)).toList = c :: r := strL _
      by_cases h0 : m = 0
      · subst h0
        have HD := Lib.hid (hq.out.done (by simp))
        clear hy hqq
        go_wp2_with fail
        go_ret
        exact ⟨by rw [HR.out, HD.out]; rfl, rfl⟩
      · have hpos : 0 < (m : Int) := by omega
        have HN : Hid (NumSt 10 n q (digL y :: c :: r)) := Lib.hid (by rw [hy, hqq]; exact hq.out.step (by omega) (by omega) (.inr (by omega)) (by have := hq.out.len; simp at this ⊢; omega))
        have hlt : q < m := by omega
        have HLT := Lib.hid hlt
        clear hy hqq hlt h0
        go_wp2_with (go_at_call 47; (with_reducible refine (HS.out _).mono ?_); rintro x w1 ⟨rfl, rfl⟩)
        go_round
        case rel => exact ⟨q, digL y :: c :: r, hq6, rfl, rfl, HN⟩
        case measure => have := HLT.out; simp [intOf, emp, Str_size]; omega

end Go.Proofs.YtalnfjnfcloonaaGreatDoor


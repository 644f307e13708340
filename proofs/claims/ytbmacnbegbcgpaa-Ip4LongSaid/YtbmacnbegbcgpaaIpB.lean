/-
  Contracts of ip4's small functions.
-/
import Derived.Test.YtbmacnbegbcgpaaIpW
import Derived.Test.YtbmacnbegbcgpaaPureIp
import Derived.Test.YtbmacnbegbcgpaaSum
import Derived.Deep.Cut
import Derived.BigQuiet
import Derived.Deep.QuietTactic
namespace Go.Proofs.Ytbmacnbegbcgpaa
open Go.RowKit
set_option linter.unusedVariables false
attribute [local go_sem ↓] bld_ip ld_ip st_ip ld_addr st_addr
attribute [local go_sem] ldr_ip str_ip ldr_addr str_addr

theorem inr_any (n m : Int) (w : World) : Calls Try.prog 22 #[.int .i64 n, .int .i64 m] w fun x w' => x = .returned (.bool (decide (0 ≤ n ∧ n ≤ m))) ∧ w = w' := by
  go_enter Try.func22, Try.ntmps22
  go_wp2
  all_goals
    go_ret
    exact ⟨ret_bool (by rw [Bool.eq_iff_iff]; simp; try (intros; first | omega | (simp_all; omega))), rfl⟩

set_option maxRecDepth 100000 in
set_option maxHeartbeats 1000000 in
theorem gaddr_any (v : Bool) (l : List UInt8) (hl : l.length = 16) (w : World) : Calls Try.prog 23 #[.agg (addrC v l).toArray] w fun x w' => x = .returned (.bool (goodV v l && !v)) ∧ Below w.heap.size w w' := by
  have h0 : ObjAt (w.alloc (.cells (addrC v l).toArray 24)) w.heap.size (addrC v l).toArray 24 := ObjAt.made w _ _
  have HK : Hid (∀ W', Below (w.alloc (.cells (addrC v l).toArray 24)).heap.size (w.alloc (.cells (addrC v l).toArray 24)) W' → W'.cell? ⟨w.heap.size, 0, none⟩ = some (.bool v) ∧ Below w.heap.size w W') := Lib.hid fun W' hb => by
    have h1 := h0.below hb h0.lt
    exact ⟨by rw [h1.cell]; rfl, bstep ((Below.refl _ _).alloc (Nat.le_refl _) _) hb⟩
  have hr := row_box w v l hl 24
  have HG := Lib.hid (fun W => good_any v l hl W)
  clear h0
  generalize goodV v l = g at HG ⊢
  go_enter Try.func23, Try.ntmps23
  go_upto_region 1 with (fail)
  generalize w.alloc (.cells (addrC v l).toArray 24) = W at HK hr ⊢
  cases g with
  | false =>
    go_wp2_with (go_at_call 38; (with_reducible refine (HG.out _).mono ?_); rintro x w1 ⟨rfl, hb1⟩; have H1 := Lib.hid (HK.out _ hb1); clear hb1)
    go_ret
    exact ⟨rfl, H1.out.2⟩
  | true =>
    go_wp2_with (go_at_call 38; (with_reducible refine (HG.out _).mono ?_); rintro x w1 ⟨rfl, hb1⟩; have H1 := Lib.hid (HK.out _ hb1); have hc := H1.out.1; clear hb1)
    go_ret
    exact ⟨rfl, H1.out.2⟩

theorem opt_bytes (b : Bool) : (.string (Str (optL b)) : Value) = .string (if b then ⟨#[148, 4, 0, 0]⟩ else ⟨#[]⟩) := by cases b <;> rfl
set_option maxRecDepth 100000 in
set_option maxHeartbeats 1000000 in
theorem opts_any (p : Ip) (ho : p.ok) (w : World) : Calls Try.prog 20 #[.agg (ipC p).toArray] w fun x w' => x = .returned (.string (Str (optL p.al))) ∧ Below w.heap.size w w' := by
  have HB := Lib.hid (IB.made w p)
  have HT := Lib.hid (opt_bytes p.al)
  obtain ⟨S, hS⟩ : ∃ S, S = Str (optL p.al) := ⟨_, rfl⟩
  rw [← hS]
  have HS := Lib.hid hS; clear hS
  go_enter Try.func20, Try.ntmps20
  go_upto_region 1 with (fail)
  generalize w.alloc (.cells (ipC p).toArray 26) = W at HB ⊢
  have c1 := HB.out.1.al ho
  generalize p.al = b at c1 HT HS
  cases b <;>
  · go_wp2
    go_ret
    exact ⟨by rw [HS.out, HT.out]; rfl, HB.out.2⟩

theorem put5_any (n : Nat) (hn : n ≤ 9223372036854775807) (w : World) : Calls Try.prog 17 #[.int .i64 n] w fun x w' => x = .returned (.string (Str (putL n 2))) ∧ Below w.heap.size w w' := by
  have hwr : IntKind.u64.wrap (n : Int) = (n : Int) := by simp only [IntKind.wrap_u64]; omega
  have HP : Hid (∀ W, Calls Try.prog 36 #[.int .u64 n, .int .i64 2] W fun e w' => e = .returned (.string (Str (putL n 2))) ∧ Below W.heap.size W w') := Lib.hid fun W => put_any n (by omega) 2 W
  clear hn
  go_enter Try.func17, Try.ntmps17
  go_wp2_with (go_at_call 36; (with_reducible refine (HP.out _).mono ?_); rintro x w1 ⟨rfl, hb1⟩; have H1 := Lib.hid hb1; clear hb1)
  go_ret
  exact ⟨rfl, H1.out⟩

theorem bits_or_i64_nat (a b : Nat) (ha : a < 9223372036854775808) (hb : b < 9223372036854775808) :
    bits .or .i64 (a : Int) (b : Int) = ((a ||| b : Nat) : Int) := by
  have hx : a ||| b < 2 ^ 63 := Nat.or_lt_two_pow (by omega) (by omega)
  have h1 : (BitVec.ofInt 64 (a : Int)).toNat = a := by
    rw [BitVec.ofInt_natCast, BitVec.toNat_ofNat]; exact Nat.mod_eq_of_lt (by omega)
  have h2 : (BitVec.ofInt 64 (b : Int)).toNat = b := by
    rw [BitVec.ofInt_natCast, BitVec.toNat_ofNat]; exact Nat.mod_eq_of_lt (by omega)
  show IntKind.i64.wrap ((BitVec.ofInt 64 (a : Int) ||| BitVec.ofInt 64 (b : Int)).toNat : Int) = _
  rw [BitVec.toNat_or, h1, h2, IntKind.wrap_i64]
  omega
/-- 'a<<8 | b' of two bytes. -/
theorem or_two (a b : Nat) (ha : a < 256) (hb : b < 256) : bits BinOp.or IntKind.i64 ((a : Int) * 256) (b : Int) = ((256 * a + b : Nat) : Int) := by
  rw [show ((a : Int) * 256) = ((a * 256 : Nat) : Int) by omega, bits_or_i64_nat _ _ (by omega) (by omega)]
  have e : a * 256 = a <<< 8 := by rw [Nat.shiftLeft_eq]
  rw [e, ← Nat.shiftLeft_add_eq_or_of_lt (by omega), Nat.shiftLeft_eq]
  omega

set_option maxRecDepth 100000 in
set_option maxHeartbeats 1000000 in
theorem hopw_any (p : Ip) (ho : p.ok) (a b : Nat) (ha : p.ttl = a) (hb : p.pro = b) (ha1 : a < 256) (hb1 : b < 256) (w : World) : Calls Try.prog 18 #[.agg (ipC p).toArray] w fun x w' => x = .returned (.int .i64 ((256 * a + b : Nat) : Int)) ∧ Below w.heap.size w w' := by
  have HB := Lib.hid (IB.made w p)
  have hor := or_two a b ha1 hb1
  have hw1 : IntKind.i64.wrap ((a : Int) * 256) = (a : Int) * 256 := by simp only [IntKind.wrap_i64]; omega
  generalize 256 * a + b = N at hor ⊢
  go_enter Try.func18, Try.ntmps18
  go_upto_region 1 with (fail)
  generalize w.alloc (.cells (ipC p).toArray 26) = W at HB ⊢
  have c1 := HB.out.1.ttl
  have c2 := HB.out.1.pro
  rw [ha] at c1
  rw [hb] at c2
  clear ha hb ho
  go_wp2
  go_ret
  exact ⟨rfl, HB.out.2⟩

theorem Str_at (s : List UInt8) (i : Nat) (h : i < (Str s).size) : ((Str s)[i]).toNat = by8 s i := by
  rw [Str_size] at h
  rw [by8_get s i h]; rfl

set_option maxRecDepth 100000 in
set_option maxHeartbeats 1000000 in
theorem word5_any (s : List UInt8) (i : Nat) (hi : i + 2 ≤ s.length) (hs : s.length ≤ 1000000) (w : World) : Calls Try.prog 26 #[.string (Str s), .int .i64 i] w fun x w' => x = .returned (.int .i64 (wd s i)) ∧ ∃ k, w' = w.drewN k := by
  have hsz := Str_size s
  have h1 : i < (Str s).size := by omega
  have h2 : i + 1 < (Str s).size := by omega
  have e1 := Str_at s i h1
  have e2 := Str_at s (i + 1) h2
  have b1 := by8_lt s i
  have b2 := by8_lt s (i + 1)
  have hor := or_two _ _ b1 b2
  have HWD := Lib.hid (wd_eq s i hi)
  rw [HWD.out]
  generalize by8 s i = x at *
  generalize by8 s (i + 1) = y at *
  have hw1 : IntKind.i64.wrap ((x : Int) * 256) = (x : Int) * 256 := by simp only [IntKind.wrap_i64]; omega
  generalize 256 * x + y = N at hor ⊢
  have hi1 : (i : Int) < (s.length : Int) := by omega
  have hi2 : (i : Int) + 1 < (s.length : Int) := by omega
  go_enter Try.func26, Try.ntmps26
  go_wp2_with fail
  go_quiet (fail)
  go_wp2
  go_ret
  exact ⟨rfl, _, rfl⟩

set_option maxRecDepth 100000 in
set_option maxHeartbeats 1000000 in
theorem osz_any (l : List UInt8) (hl : 0 < l.length) (hl2 : l.length ≤ 1000000) (w : World) : Calls Try.prog 40 #[.string (Str l)] w fun x w' => x = .returned (.int .i64 (osz l)) ∧ w = w' := by
  have hsz := Str_size l
  have hi0 : (0 : Int) < (l.length : Int) := by omega
  have h0 : 0 < (Str l).size := by omega
  have e0 := Str_at l 0 h0
  have b0 := by8_lt l 0
  have b1 := by8_lt l 1
  obtain ⟨R, hR⟩ : ∃ R, R = osz l := ⟨_, rfl⟩
  rw [← hR]
  unfold osz at hR
  by_cases h1 : by8 l 0 = 1
  · rw [if_pos h1] at hR
    have HR := Lib.hid hR; clear hR
    have hx : ((by8 l 0 : Int) == 1) = true := by simp; omega
    generalize by8 l 0 = x at *
    go_enter Try.func40, Try.ntmps40
    go_wp2
    go_ret
    exact ⟨ret_int (by rw [HR.out]; try rfl), rfl⟩
  · rw [if_neg h1] at hR
    have hx : ((by8 l 0 : Int) == 1) = false := by simp; omega
    generalize by8 l 0 = x at *
    by_cases h2 : l.length < 2
    · rw [if_pos (by omega)] at hR
      have HR := Lib.hid hR; clear hR
      have hd : (l.length : Int) < 2 := by omega
      go_enter Try.func40, Try.ntmps40
      go_wp2
      go_ret
      exact ⟨ret_int (by rw [HR.out]; try rfl), rfl⟩
    · have g1 : 1 < (Str l).size := by omega
      have e1 := Str_at l 1 g1
      have hi1 : (1 : Int) < (l.length : Int) := by omega
      have hi2 : ¬ ((l.length : Int) < 2) := by omega
      generalize by8 l 1 = y at *
      by_cases h3 : y < 2
      · rw [if_pos (by omega)] at hR
        have HR := Lib.hid hR; clear hR
        have hd : (y : Int) < 2 := by omega
        go_enter Try.func40, Try.ntmps40
        go_wp2
        go_ret
        exact ⟨ret_int (by rw [HR.out]; try rfl), rfl⟩
      · have hd : ¬ ((y : Int) < 2) := by omega
        by_cases h4 : l.length < y
        · rw [if_pos (by omega)] at hR
          have HR := Lib.hid hR; clear hR
          have hd2 : (l.length : Int) < (y : Int) := by omega
          go_enter Try.func40, Try.ntmps40
          go_wp2
          go_ret
          exact ⟨ret_int (by rw [HR.out]; try rfl), rfl⟩
        · rw [if_neg (by omega)] at hR
          have HR := Lib.hid hR; clear hR
          have hd2 : ¬ ((l.length : Int) < (y : Int)) := by omega
          go_enter Try.func40, Try.ntmps40
          go_wp2
          go_ret
          exact ⟨ret_int (by rw [HR.out]; try rfl), rfl⟩

theorem str_alert (l : List UInt8) (n : Nat) : ((Str l).extract 0 n).toList = l.take n := by
  rw [Str_extract, ByteArray.toList_eq]
  simp [Str]
end Go.Proofs.Ytbmacnbegbcgpaa

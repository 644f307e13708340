/-
  The walk of the law Ip6Long.
-/
import Derived.Test.YtkmnnkklbgnfpaaIqL
namespace Go.Proofs.Ytkmnnkklbgnfpaa
open Go.RowKit
set_option linter.unusedVariables false
attribute [local go_sem ↓] bld_iq ld_iq st_iq ld_addr st_addr
attribute [local go_sem] ldr_iq str_iq ldr_addr str_addr

theorem bld_v6 (w0 : World) : (aggBuild 24 #[(0, .bool true)]).run Try.prog w0 = .ok (.agg #[.bool true, .int .u8 0, .int .u8 0, .int .u8 0, .int .u8 0, .int .u8 0, .int .u8 0, .int .u8 0, .int .u8 0, .int .u8 0, .int .u8 0, .int .u8 0, .int .u8 0, .int .u8 0, .int .u8 0, .int .u8 0, .int .u8 0]) w0 := bld_run _ _ _ (by kernel_rfl) _
theorem bld_long6 (al : Bool) (S : ByteArray) (l : List UInt8) (h : S = Str l) (w0 : World) : (aggBuild 26 #[(6, .bool al), (2, .int .i64 58), (4, .agg #[.bool true, .int .u8 0, .int .u8 0, .int .u8 0, .int .u8 0, .int .u8 0, .int .u8 0, .int .u8 0, .int .u8 0, .int .u8 0, .int .u8 0, .int .u8 0, .int .u8 0, .int .u8 0, .int .u8 0, .int .u8 0, .int .u8 0]), (5, .agg #[.bool true, .int .u8 0, .int .u8 0, .int .u8 0, .int .u8 0, .int .u8 0, .int .u8 0, .int .u8 0, .int .u8 0, .int .u8 0, .int .u8 0, .int .u8 0, .int .u8 0, .int .u8 0, .int .u8 0, .int .u8 0, .int .u8 0]), (7, .string S)]).run Try.prog w0 = .ok (.agg (ipC ⟨0, 0, 58, 0, true, [0, 0, 0, 0, 0, 0, 0, 0, 0, 0, 0, 0, 0, 0, 0, 0], true, [0, 0, 0, 0, 0, 0, 0, 0, 0, 0, 0, 0, 0, 0, 0, 0], al, l⟩).toArray) w0 := by
  subst h
  exact bld_run _ _ _ (by kernel_rfl) _
attribute [local go_sem ↓] bld_addr
set_option maxRecDepth 100000 in
set_option maxHeartbeats 2000000 in
theorem qlong (n : Int) (hn : (Lit.int .u8 n).wf = true) (al : Bool) (w : World) : Calls Try.prog 6 #[.int .u8 n, .bool al] w fun x w' => x = .returned (.bool true) ∧ Below w.heap.size w w' := by
  obtain ⟨n0, n1⟩ := bounds_u8 hn
  obtain ⟨k, rfl⟩ := Int.eq_ofNat_of_zero_le n0
  obtain ⟨i0, hi, hz0, hz1, hz2⟩ := info_parts Try.info_u8
  obtain ⟨L, hL⟩ : ∃ L, L = 1390 + k % 20 := ⟨_, rfl⟩
  have hLe : L ≤ 1409 := by omega
  obtain ⟨e, he⟩ : ∃ e : Ip, e = ⟨0, 0, 58, 0, true, [0, 0, 0, 0, 0, 0, 0, 0, 0, 0, 0, 0, 0, 0, 0, 0], true, [0, 0, 0, 0, 0, 0, 0, 0, 0, 0, 0, 0, 0, 0, 0, 0], al, List.replicate L 0⟩ := ⟨_, rfl⟩
  have ho : e.ok := by rw [he]; exact ⟨rfl, rfl⟩
  have hbd : e.bd.length = L := by rw [he]; simp
  have g1 : e.nums6 = true := by rw [he]; rfl
  have g2 : e.f6 = true := by rw [he]
  have g3 : e.t6 = true := by rw [he]
  obtain ⟨S, hS⟩ : ∃ S, S = Str (List.replicate L 0) := ⟨_, rfl⟩
  have hbv := bld_v6
  have hbl := bld_long6 al S _ hS
  rw [← he] at hbl
  have hlen := Ip.wrt6_length e ho
  have hszb : e.sz6 ≤ 2000 := by unfold Ip.sz6; split <;> omega
  have hrd := read_wrt6 e ho g1 g2 g3 (by omega) []
  rw [List.append_nil, hbd] at hrd
  have hR := fun W => read6_any e.wrt6 (by omega) W
  rw [hrd] at hR
  have HRW := Lib.hid (fun W => rwrite6_any e ho g1 g2 g3 (by omega) W)
  have hfok := fok_ip ho
  have hfokz := fok_ip zeroI_ok
  have hbz := bld_zeroQ
  have heqz := eq_iq zeroI zeroI_ok
  have heqe := eq_iq e ho
  have HO := Lib.hid ho
  have HSS := Lib.hid hS
  have hcast : (1390 : Int) + (k : Int) % 20 = (L : Int) := by omega
  have hw1 : IntKind.u8.wrap ((k : Int) % 20) = (k : Int) % 20 := by simp only [IntKind.wrap_u8]; omega
  have hw2 : IntKind.i64.wrap ((k : Int) % 20) = (k : Int) % 20 := by simp only [IntKind.wrap_i64]; omega
  have hw3 : IntKind.i64.wrap (L : Int) = (L : Int) := by simp only [IntKind.wrap_i64]; omega
  have hgood : e.good6 = decide (L ≤ 1400) := by
    unfold Ip.good6
    rw [g1, g2, g3, hbd]
    rfl
  by_cases hgt : L ≤ 1400
  · rw [if_pos hgt] at hR
    have HR := Lib.hid hR
    have HW := Lib.hid (fun W => write6_good e ho (by rw [hgood]; exact decide_eq_true hgt) W)
    generalize Str e.wrt6 = SW at HRW HR HW
    clear hlen hR g1 g2 g3 hbd ho hS n0 n1 hL he hrd hszb hgood
    go_enter Try.func6, Try.ntmps6
    go_wp2_with (at_make; refine wpList_make_full _ rfl _ _ 41 rfl w.heap.size 5 i0 (.int .u8 0) 1 Try.underlying41 hi hz0 hz1 .i64 .i64 _ _ L rfl rfl rfl rfl ?c1 ?c2 ?c3 ?_)
    case c1 => omega
    case c2 => unfold maxLen; omega
    intro w1 hown hgrow
    rw [toList_madeCells_one] at hown
    have hbel : Below w.heap.size w w1 := (Below.refl _ _).grown hgrow (Nat.le_refl _) (fun k h => by cases h)
    rw [← B8_replicate] at hown
    have hcv := run_string_own 41 9 5 Try.underlying41 Try.underlying5 Try.underlying9 hown
    rw [← HSS.out] at hcv
    have hfw1 := free_made w1 #[.int .i64 0, .int .i64 0, .int .i64 0, .int .i64 0, .bool false, .int .u8 0, .int .u8 0, .int .u8 0, .int .u8 0, .int .u8 0, .int .u8 0, .int .u8 0, .int .u8 0, .int .u8 0, .int .u8 0, .int .u8 0, .int .u8 0, .int .u8 0, .int .u8 0, .int .u8 0, .int .u8 0, .bool false, .int .u8 0, .int .u8 0, .int .u8 0, .int .u8 0, .int .u8 0, .int .u8 0, .int .u8 0, .int .u8 0, .int .u8 0, .int .u8 0, .int .u8 0, .int .u8 0, .int .u8 0, .int .u8 0, .int .u8 0, .int .u8 0, .bool false, .string ⟨#[]⟩] 26 40 (by simp); have hw1 := K1.made hbel e HO.out; rw [zeroI_cells] at hw1; have H1 := Lib.hid hw1; clear hw1
    clear hgrow hown hbel
    go_upto_region 3 with (fail)
    generalize aggW (w1.alloc (.cells #[.int .i64 0, .int .i64 0, .int .i64 0, .int .i64 0, .bool false, .int .u8 0, .int .u8 0, .int .u8 0, .int .u8 0, .int .u8 0, .int .u8 0, .int .u8 0, .int .u8 0, .int .u8 0, .int .u8 0, .int .u8 0, .int .u8 0, .int .u8 0, .int .u8 0, .int .u8 0, .int .u8 0, .bool false, .int .u8 0, .int .u8 0, .int .u8 0, .int .u8 0, .int .u8 0, .int .u8 0, .int .u8 0, .int .u8 0, .int .u8 0, .int .u8 0, .int .u8 0, .int .u8 0, .int .u8 0, .int .u8 0, .int .u8 0, .int .u8 0, .bool false, .string ⟨#[]⟩] 26)) w1.heap.size _ = W3 at H1 ⊢
    clear hfw1 hcv
    generalize w1.heap.size = m at H1 ⊢
    have hr := H1.out.1.row HO.out
    go_upto_region 5 with (first
      | (go_at_call 8; (with_reducible refine (HW.out _).mono ?_); rintro x w2 ⟨rfl, hb2⟩; have H2 := Lib.hid (H1.out.below hb2); clear hb2 hr; have hr := H2.out.1.row HO.out)
      | (go_at_call 13; (with_reducible refine (HRW.out _).mono ?_); rintro x w3 ⟨rfl, hb3⟩; have H3 := Lib.hid (H2.out.below hb3); clear hb3 hr)
      | (go_at_call 12; (with_reducible refine (HR.out _).mono ?_); rintro x w4 ⟨rfl, hb4⟩; have hfw4 := free_made w4 #[.int .i64 0, .int .i64 0, .int .i64 0, .int .i64 0, .bool false, .int .u8 0, .int .u8 0, .int .u8 0, .int .u8 0, .int .u8 0, .int .u8 0, .int .u8 0, .int .u8 0, .int .u8 0, .int .u8 0, .int .u8 0, .int .u8 0, .int .u8 0, .int .u8 0, .int .u8 0, .int .u8 0, .bool false, .int .u8 0, .int .u8 0, .int .u8 0, .int .u8 0, .int .u8 0, .int .u8 0, .int .u8 0, .int .u8 0, .int .u8 0, .int .u8 0, .int .u8 0, .int .u8 0, .int .u8 0, .int .u8 0, .int .u8 0, .int .u8 0, .bool false, .string ⟨#[]⟩] 26 40 (by simp); have hw4 := K2.made (H3.out.below hb4) e HO.out; rw [zeroI_cells] at hw4; have H4 := Lib.hid hw4; clear hw4; clear hb4))
    generalize aggW (w4.alloc (.cells #[.int .i64 0, .int .i64 0, .int .i64 0, .int .i64 0, .bool false, .int .u8 0, .int .u8 0, .int .u8 0, .int .u8 0, .int .u8 0, .int .u8 0, .int .u8 0, .int .u8 0, .int .u8 0, .int .u8 0, .int .u8 0, .int .u8 0, .int .u8 0, .int .u8 0, .int .u8 0, .int .u8 0, .bool false, .int .u8 0, .int .u8 0, .int .u8 0, .int .u8 0, .int .u8 0, .int .u8 0, .int .u8 0, .int .u8 0, .int .u8 0, .int .u8 0, .int .u8 0, .int .u8 0, .int .u8 0, .int .u8 0, .int .u8 0, .int .u8 0, .bool false, .string ⟨#[]⟩] 26)) w4.heap.size _ = W5 at H4 ⊢
    clear hfw4
    generalize w4.heap.size = q at H4 ⊢
    have hr1 := H4.out.1.1.row HO.out
    have hr2 := H4.out.2.1.row HO.out
    go_wp2_with (go_at_call 11; (with_reducible refine (lives6_any _).mono ?_); rintro x w7 ⟨rfl, hb7⟩; have H6 := Lib.hid (H4.out.below hb7); clear hb7)
    go_ret
    exact ⟨rfl, H6.out.1.2.1⟩
  · rw [if_neg hgt] at hR
    have HR := Lib.hid hR
    have HW := Lib.hid (fun W => write6_bad e ho (by omega) (by rw [hgood]; exact decide_eq_false hgt) W)
    generalize Str e.wrt6 = SW at HRW HR
    clear hlen hR g1 g2 g3 hbd ho hS n0 n1 hL he hrd hszb hgood
    go_enter Try.func6, Try.ntmps6
    go_wp2_with (at_make; refine wpList_make_full _ rfl _ _ 41 rfl w.heap.size 5 i0 (.int .u8 0) 1 Try.underlying41 hi hz0 hz1 .i64 .i64 _ _ L rfl rfl rfl rfl ?c1 ?c2 ?c3 ?_)
    case c1 => omega
    case c2 => unfold maxLen; omega
    intro w1 hown hgrow
    rw [toList_madeCells_one] at hown
    have hbel : Below w.heap.size w w1 := (Below.refl _ _).grown hgrow (Nat.le_refl _) (fun k h => by cases h)
    rw [← B8_replicate] at hown
    have hcv := run_string_own 41 9 5 Try.underlying41 Try.underlying5 Try.underlying9 hown
    rw [← HSS.out] at hcv
    have hfw1 := free_made w1 #[.int .i64 0, .int .i64 0, .int .i64 0, .int .i64 0, .bool false, .int .u8 0, .int .u8 0, .int .u8 0, .int .u8 0, .int .u8 0, .int .u8 0, .int .u8 0, .int .u8 0, .int .u8 0, .int .u8 0, .int .u8 0, .int .u8 0, .int .u8 0, .int .u8 0, .int .u8 0, .int .u8 0, .bool false, .int .u8 0, .int .u8 0, .int .u8 0, .int .u8 0, .int .u8 0, .int .u8 0, .int .u8 0, .int .u8 0, .int .u8 0, .int .u8 0, .int .u8 0, .int .u8 0, .int .u8 0, .int .u8 0, .int .u8 0, .int .u8 0, .bool false, .string ⟨#[]⟩] 26 40 (by simp); have hw1 := K1.made hbel e HO.out; rw [zeroI_cells] at hw1; have H1 := Lib.hid hw1; clear hw1
    clear hgrow hown hbel
    go_upto_region 3 with (fail)
    generalize aggW (w1.alloc (.cells #[.int .i64 0, .int .i64 0, .int .i64 0, .int .i64 0, .bool false, .int .u8 0, .int .u8 0, .int .u8 0, .int .u8 0, .int .u8 0, .int .u8 0, .int .u8 0, .int .u8 0, .int .u8 0, .int .u8 0, .int .u8 0, .int .u8 0, .int .u8 0, .int .u8 0, .int .u8 0, .int .u8 0, .bool false, .int .u8 0, .int .u8 0, .int .u8 0, .int .u8 0, .int .u8 0, .int .u8 0, .int .u8 0, .int .u8 0, .int .u8 0, .int .u8 0, .int .u8 0, .int .u8 0, .int .u8 0, .int .u8 0, .int .u8 0, .int .u8 0, .bool false, .string ⟨#[]⟩] 26)) w1.heap.size _ = W3 at H1 ⊢
    clear hfw1 hcv
    generalize w1.heap.size = m at H1 ⊢
    have hr := H1.out.1.row HO.out
    go_upto_region 5 with (first
      | (go_at_call 8; (with_reducible refine (HW.out _).mono ?_); rintro x w2 ⟨rfl, hb2⟩; have H2 := Lib.hid (H1.out.below hb2); clear hb2 hr; have hr := H2.out.1.row HO.out)
      | (go_at_call 13; (with_reducible refine (HRW.out _).mono ?_); rintro x w3 ⟨rfl, hb3⟩; have H3 := Lib.hid (H2.out.below hb3); clear hb3 hr)
      | (go_at_call 12; (with_reducible refine (HR.out _).mono ?_); rintro x w4 ⟨rfl, hb4⟩; have hfw4 := free_made w4 #[.int .i64 0, .int .i64 0, .int .i64 0, .int .i64 0, .bool false, .int .u8 0, .int .u8 0, .int .u8 0, .int .u8 0, .int .u8 0, .int .u8 0, .int .u8 0, .int .u8 0, .int .u8 0, .int .u8 0, .int .u8 0, .int .u8 0, .int .u8 0, .int .u8 0, .int .u8 0, .int .u8 0, .bool false, .int .u8 0, .int .u8 0, .int .u8 0, .int .u8 0, .int .u8 0, .int .u8 0, .int .u8 0, .int .u8 0, .int .u8 0, .int .u8 0, .int .u8 0, .int .u8 0, .int .u8 0, .int .u8 0, .int .u8 0, .int .u8 0, .bool false, .string ⟨#[]⟩] 26 40 (by simp); have hw4 := K2.made (H3.out.below hb4) zeroI zeroI_ok; rw [zeroI_cells] at hw4; have H4 := Lib.hid hw4; clear hw4; clear hb4))
    generalize aggW (w4.alloc (.cells #[.int .i64 0, .int .i64 0, .int .i64 0, .int .i64 0, .bool false, .int .u8 0, .int .u8 0, .int .u8 0, .int .u8 0, .int .u8 0, .int .u8 0, .int .u8 0, .int .u8 0, .int .u8 0, .int .u8 0, .int .u8 0, .int .u8 0, .int .u8 0, .int .u8 0, .int .u8 0, .int .u8 0, .bool false, .int .u8 0, .int .u8 0, .int .u8 0, .int .u8 0, .int .u8 0, .int .u8 0, .int .u8 0, .int .u8 0, .int .u8 0, .int .u8 0, .int .u8 0, .int .u8 0, .int .u8 0, .int .u8 0, .int .u8 0, .int .u8 0, .bool false, .string ⟨#[]⟩] 26)) w4.heap.size _ = W5 at H4 ⊢
    clear hfw4
    generalize w4.heap.size = q at H4 ⊢
    have hr1 := H4.out.1.1.row HO.out
    have hr2 := H4.out.2.1.row zeroI_ok
    go_wp2_with (go_at_call 11; (with_reducible refine (lives6_any _).mono ?_); rintro x w7 ⟨rfl, hb7⟩; have H6 := Lib.hid (H4.out.below hb7); clear hb7)
    go_ret
    exact ⟨rfl, H6.out.1.2.1⟩
end Go.Proofs.Ytkmnnkklbgnfpaa

/-
  The walk of the law Ip6Reads.
-/
import Derived.Test.YtkmnnkklbgnfpaaIqL
namespace Go.Proofs.Ytkmnnkklbgnfpaa
open Go.RowKit
set_option linter.unusedVariables false
attribute [local go_sem ↓] bld_iq ld_iq st_iq ld_addr st_addr
attribute [local go_sem] ldr_iq str_iq ldr_addr str_addr

set_option maxRecDepth 100000 in
set_option maxHeartbeats 2000000 in
theorem qreads (s : ByteArray) (hs : s.size ≤ maxLen) (w : World) : Calls Try.prog 4 #[.string s] w fun x w' => x = .returned (.bool true) ∧ Below w.heap.size w w' := by
  obtain ⟨l, hlE⟩ : ∃ l : List UInt8, Str l = cutB s 120 := ⟨(cutB s 120).data.toList, Str_of _⟩
  have hll : l.length ≤ 120 := by have := cutB_size s 120; rw [← hlE, Str_size] at this; exact this
  have HC : Hid (∀ W, Calls Try.prog 7 #[.string s, .int .i64 120] W fun x w' => x = .returned (.string (Str l)) ∧ W = w') := Lib.hid fun W => by
    rw [hlE]; exact cut_any s hs 120 (by omega) W
  have HR := Lib.hid (fun W => read6_any l (by omega) W)
  have HX := Lib.hid (fun W => rread6_any l (by omega) W)
  have hsi : ∀ t : Int, (t == t) = true := fun t => by simp
  by_cases hc : why6 l = 0
  · have hrd : readV6 l = (iqOf l, 0) := by unfold readV6; rw [if_pos hc]
    rw [hrd] at HR HX
    have hok := iqOf_ok l (hdE6_zero (why6_zero hc)).1
    have HG : Hid (∀ W, Calls Try.prog 9 #[.agg (ipC (iqOf l)).toArray] W fun x w' => x = .returned (.bool true) ∧ Below W.heap.size W w') := Lib.hid fun W => by
      have := good6_any (iqOf l) hok (by have h9 := (Ip.good6_parts (iqOf_good hc)).2.2.2; omega) W
      rw [iqOf_good hc] at this; exact this
    have hfok := fok_ip hok
    have heq := eq_iq (iqOf l) hok
    have HO := Lib.hid hok
    generalize iqOf l = E at *
    generalize Str l = S at HC HR HX
    clear hrd hok hc hll hlE
    go_enter Try.func4, Try.ntmps4
    go_upto_region 3 with (first
      | (go_at_call 7; (with_reducible refine (HC.out _).mono ?_); rintro x w1 ⟨rfl, rfl⟩)
      | (go_at_call 12; (with_reducible refine (HR.out _).mono ?_); rintro x w2 ⟨rfl, hb2⟩; have hfw2 := free_made w2 #[.int .i64 0, .int .i64 0, .int .i64 0, .int .i64 0, .bool false, .int .u8 0, .int .u8 0, .int .u8 0, .int .u8 0, .int .u8 0, .int .u8 0, .int .u8 0, .int .u8 0, .int .u8 0, .int .u8 0, .int .u8 0, .int .u8 0, .int .u8 0, .int .u8 0, .int .u8 0, .int .u8 0, .bool false, .int .u8 0, .int .u8 0, .int .u8 0, .int .u8 0, .int .u8 0, .int .u8 0, .int .u8 0, .int .u8 0, .int .u8 0, .int .u8 0, .int .u8 0, .int .u8 0, .int .u8 0, .int .u8 0, .int .u8 0, .int .u8 0, .bool false, .string ⟨#[]⟩] 26 40 (by simp); have hw2 := K1.made hb2 E HO.out; rw [zeroI_cells] at hw2; have H2 := Lib.hid hw2; clear hw2; clear hb2))
    generalize aggW (w2.alloc (.cells #[.int .i64 0, .int .i64 0, .int .i64 0, .int .i64 0, .bool false, .int .u8 0, .int .u8 0, .int .u8 0, .int .u8 0, .int .u8 0, .int .u8 0, .int .u8 0, .int .u8 0, .int .u8 0, .int .u8 0, .int .u8 0, .int .u8 0, .int .u8 0, .int .u8 0, .int .u8 0, .int .u8 0, .bool false, .int .u8 0, .int .u8 0, .int .u8 0, .int .u8 0, .int .u8 0, .int .u8 0, .int .u8 0, .int .u8 0, .int .u8 0, .int .u8 0, .int .u8 0, .int .u8 0, .int .u8 0, .int .u8 0, .int .u8 0, .int .u8 0, .bool false, .string ⟨#[]⟩] 26)) w2.heap.size _ = W2 at H2 ⊢
    clear hfw2
    generalize w2.heap.size = m at H2 ⊢
    go_upto_region 4 with (go_at_call 15; (with_reducible refine (HX.out _).mono ?_); rintro x w3 ⟨rfl, hb3⟩; have hfw3 := free_made w3 #[.int .i64 0, .int .i64 0, .int .i64 0, .int .i64 0, .bool false, .int .u8 0, .int .u8 0, .int .u8 0, .int .u8 0, .int .u8 0, .int .u8 0, .int .u8 0, .int .u8 0, .int .u8 0, .int .u8 0, .int .u8 0, .int .u8 0, .int .u8 0, .int .u8 0, .int .u8 0, .int .u8 0, .bool false, .int .u8 0, .int .u8 0, .int .u8 0, .int .u8 0, .int .u8 0, .int .u8 0, .int .u8 0, .int .u8 0, .int .u8 0, .int .u8 0, .int .u8 0, .int .u8 0, .int .u8 0, .int .u8 0, .int .u8 0, .int .u8 0, .bool false, .string ⟨#[]⟩] 26 40 (by simp); have hw3 := K2.made (H2.out.below hb3) E HO.out; rw [zeroI_cells] at hw3; have H3 := Lib.hid hw3; clear hw3; clear hb3)
    generalize aggW (w3.alloc (.cells #[.int .i64 0, .int .i64 0, .int .i64 0, .int .i64 0, .bool false, .int .u8 0, .int .u8 0, .int .u8 0, .int .u8 0, .int .u8 0, .int .u8 0, .int .u8 0, .int .u8 0, .int .u8 0, .int .u8 0, .int .u8 0, .int .u8 0, .int .u8 0, .int .u8 0, .int .u8 0, .int .u8 0, .bool false, .int .u8 0, .int .u8 0, .int .u8 0, .int .u8 0, .int .u8 0, .int .u8 0, .int .u8 0, .int .u8 0, .int .u8 0, .int .u8 0, .int .u8 0, .int .u8 0, .int .u8 0, .int .u8 0, .int .u8 0, .int .u8 0, .bool false, .string ⟨#[]⟩] 26)) w3.heap.size _ = W3 at H3 ⊢
    clear hfw3
    generalize w3.heap.size = n at H3 ⊢
    have hr1 := H3.out.1.1.row HO.out
    have hr2 := H3.out.2.1.row HO.out
    go_wp2_with (first
      | (go_at_call 9; (with_reducible refine (HG.out _).mono ?_); rintro x w5 ⟨rfl, hb5⟩; have H4 := Lib.hid (H3.out.below hb5); clear hb5)
      | (go_at_call 11; (with_reducible refine (lives6_any _).mono ?_); rintro x w7 ⟨rfl, hb7⟩; have H5 := Lib.hid (H4.out.below hb7); clear hb7))
    go_ret
    exact ⟨rfl, H5.out.1.2.1⟩
  · have hrd : readV6 l = (zeroI, why6 l) := by unfold readV6; rw [if_neg hc]
    rw [hrd] at HR HX
    generalize why6 l = c at hc HR HX
    have hcn : (c != 0) = true := by simpa using hc
    have hfok := fok_ip zeroI_ok
    have heq := eq_iq zeroI zeroI_ok
    have HO := Lib.hid zeroI_ok
    generalize Str l = S at HC HR HX
    clear hrd hc hll hlE
    go_enter Try.func4, Try.ntmps4
    go_upto_region 3 with (first
      | (go_at_call 7; (with_reducible refine (HC.out _).mono ?_); rintro x w1 ⟨rfl, rfl⟩)
      | (go_at_call 12; (with_reducible refine (HR.out _).mono ?_); rintro x w2 ⟨rfl, hb2⟩; have hfw2 := free_made w2 #[.int .i64 0, .int .i64 0, .int .i64 0, .int .i64 0, .bool false, .int .u8 0, .int .u8 0, .int .u8 0, .int .u8 0, .int .u8 0, .int .u8 0, .int .u8 0, .int .u8 0, .int .u8 0, .int .u8 0, .int .u8 0, .int .u8 0, .int .u8 0, .int .u8 0, .int .u8 0, .int .u8 0, .bool false, .int .u8 0, .int .u8 0, .int .u8 0, .int .u8 0, .int .u8 0, .int .u8 0, .int .u8 0, .int .u8 0, .int .u8 0, .int .u8 0, .int .u8 0, .int .u8 0, .int .u8 0, .int .u8 0, .int .u8 0, .int .u8 0, .bool false, .string ⟨#[]⟩] 26 40 (by simp); have hw2 := K1.made hb2 zeroI HO.out; rw [zeroI_cells] at hw2; have H2 := Lib.hid hw2; clear hw2; clear hb2))
    generalize aggW (w2.alloc (.cells #[.int .i64 0, .int .i64 0, .int .i64 0, .int .i64 0, .bool false, .int .u8 0, .int .u8 0, .int .u8 0, .int .u8 0, .int .u8 0, .int .u8 0, .int .u8 0, .int .u8 0, .int .u8 0, .int .u8 0, .int .u8 0, .int .u8 0, .int .u8 0, .int .u8 0, .int .u8 0, .int .u8 0, .bool false, .int .u8 0, .int .u8 0, .int .u8 0, .int .u8 0, .int .u8 0, .int .u8 0, .int .u8 0, .int .u8 0, .int .u8 0, .int .u8 0, .int .u8 0, .int .u8 0, .int .u8 0, .int .u8 0, .int .u8 0, .int .u8 0, .bool false, .string ⟨#[]⟩] 26)) w2.heap.size _ = W2 at H2 ⊢
    clear hfw2
    generalize w2.heap.size = m at H2 ⊢
    go_upto_region 4 with (go_at_call 15; (with_reducible refine (HX.out _).mono ?_); rintro x w3 ⟨rfl, hb3⟩; have hfw3 := free_made w3 #[.int .i64 0, .int .i64 0, .int .i64 0, .int .i64 0, .bool false, .int .u8 0, .int .u8 0, .int .u8 0, .int .u8 0, .int .u8 0, .int .u8 0, .int .u8 0, .int .u8 0, .int .u8 0, .int .u8 0, .int .u8 0, .int .u8 0, .int .u8 0, .int .u8 0, .int .u8 0, .int .u8 0, .bool false, .int .u8 0, .int .u8 0, .int .u8 0, .int .u8 0, .int .u8 0, .int .u8 0, .int .u8 0, .int .u8 0, .int .u8 0, .int .u8 0, .int .u8 0, .int .u8 0, .int .u8 0, .int .u8 0, .int .u8 0, .int .u8 0, .bool false, .string ⟨#[]⟩] 26 40 (by simp); have hw3 := K2.made (H2.out.below hb3) zeroI HO.out; rw [zeroI_cells] at hw3; have H3 := Lib.hid hw3; clear hw3; clear hb3)
    generalize aggW (w3.alloc (.cells #[.int .i64 0, .int .i64 0, .int .i64 0, .int .i64 0, .bool false, .int .u8 0, .int .u8 0, .int .u8 0, .int .u8 0, .int .u8 0, .int .u8 0, .int .u8 0, .int .u8 0, .int .u8 0, .int .u8 0, .int .u8 0, .int .u8 0, .int .u8 0, .int .u8 0, .int .u8 0, .int .u8 0, .bool false, .int .u8 0, .int .u8 0, .int .u8 0, .int .u8 0, .int .u8 0, .int .u8 0, .int .u8 0, .int .u8 0, .int .u8 0, .int .u8 0, .int .u8 0, .int .u8 0, .int .u8 0, .int .u8 0, .int .u8 0, .int .u8 0, .bool false, .string ⟨#[]⟩] 26)) w3.heap.size _ = W3 at H3 ⊢
    clear hfw3
    generalize w3.heap.size = n at H3 ⊢
    have hr1 := H3.out.1.1.row HO.out
    have hr2 := H3.out.2.1.row HO.out
    go_wp2_with (first
      | (go_at_call 11; (with_reducible refine (lives6_any _).mono ?_); rintro x w7 ⟨rfl, hb7⟩; have H5 := Lib.hid (H3.out.below hb7); clear hb7))
    go_ret
    exact ⟨rfl, H5.out.1.2.1⟩
end Go.Proofs.Ytkmnnkklbgnfpaa

/-
  The walk of the law Ip4Hops.
-/
import Derived.Test.YtbmacnbegbcgpaaIpL
namespace Go.Proofs.Ytbmacnbegbcgpaa
open Go.RowKit
set_option linter.unusedVariables false
attribute [local go_sem ↓] bld_ip ld_ip st_ip ld_addr st_addr
attribute [local go_sem] ldr_ip str_ip ldr_addr str_addr

theorem empty_eq : ((⟨#[]⟩ : ByteArray).toList == (⟨#[]⟩ : ByteArray).toList) = true := by simp
set_option maxRecDepth 100000 in
set_option maxHeartbeats 2000000 in
theorem ihops (s : ByteArray) (hs : s.size ≤ maxLen) (w : World) : Calls Try.prog 5 #[.string s] w fun x w' => x = .returned (.bool true) ∧ Below w.heap.size w w' := by
  obtain ⟨l, hlE⟩ : ∃ l : List UInt8, Str l = cutB s 100 := ⟨(cutB s 100).data.toList, Str_of _⟩
  have hll : l.length ≤ 100 := by have := cutB_size s 100; rw [← hlE, Str_size] at this; exact this
  have HC : Hid (∀ W, Calls Try.prog 7 #[.string s, .int .i64 100] W fun x w' => x = .returned (.string (Str l)) ∧ W = w') := Lib.hid fun W => by
    rw [hlE]; exact cut_any s hs 100 (by omega) W
  have hsi : ∀ t : Int, (t == t) = true := fun t => by simp
  have hem := empty_eq
  have HX := Lib.hid (fun W => rread5_any l (by omega) W)
  by_cases hc : why5 l = 0
  · have hrd : readV5 l = (ipOf l, 0) := by unfold readV5; rw [if_pos hc]
    rw [hrd] at HX
    have hok := ipOf_ok l
    have hfok := fok_ip hok
    have HO := Lib.hid hok
    have htt : (ipOf l).ttl = (by8 l 8 : Int) := rfl
    by_cases ht : by8 l 8 = 0
    · have HH := Lib.hid (fun W => hop_end l (by omega) hc ht W)
      have HT := Lib.hid (show (ipOf l).ttl = 0 by rw [htt, ht]; rfl)
      generalize ipOf l = E at *
      generalize Str l = S at HC HH HX
      clear hrd hok hc hll hlE ht htt
      go_enter Try.func5, Try.ntmps5
      go_upto_region 4 with (first
        | (go_at_call 7; (with_reducible refine (HC.out _).mono ?_); rintro x w1 ⟨rfl, rfl⟩)
        | (go_at_call 16; (with_reducible refine (HH.out _).mono ?_); rintro x w2 ⟨rfl, hb2⟩; have H1 := Lib.hid hb2; clear hb2)
        | (go_at_call 15; (with_reducible refine (HX.out _).mono ?_); rintro x w3 ⟨rfl, hb3⟩; have hfw3 := free_made w3 #[.int .i64 0, .int .i64 0, .int .i64 0, .int .i64 0, .bool false, .int .u8 0, .int .u8 0, .int .u8 0, .int .u8 0, .int .u8 0, .int .u8 0, .int .u8 0, .int .u8 0, .int .u8 0, .int .u8 0, .int .u8 0, .int .u8 0, .int .u8 0, .int .u8 0, .int .u8 0, .int .u8 0, .bool false, .int .u8 0, .int .u8 0, .int .u8 0, .int .u8 0, .int .u8 0, .int .u8 0, .int .u8 0, .int .u8 0, .int .u8 0, .int .u8 0, .int .u8 0, .int .u8 0, .int .u8 0, .int .u8 0, .int .u8 0, .int .u8 0, .bool false, .string ⟨#[]⟩] 26 40 (by simp); have hw3 := I1.made (bstep H1.out hb3) E HO.out; rw [zeroI_cells] at hw3; have H3 := Lib.hid hw3; clear hw3; clear hb3))
      generalize aggW (w3.alloc (.cells #[.int .i64 0, .int .i64 0, .int .i64 0, .int .i64 0, .bool false, .int .u8 0, .int .u8 0, .int .u8 0, .int .u8 0, .int .u8 0, .int .u8 0, .int .u8 0, .int .u8 0, .int .u8 0, .int .u8 0, .int .u8 0, .int .u8 0, .int .u8 0, .int .u8 0, .int .u8 0, .int .u8 0, .bool false, .int .u8 0, .int .u8 0, .int .u8 0, .int .u8 0, .int .u8 0, .int .u8 0, .int .u8 0, .int .u8 0, .int .u8 0, .int .u8 0, .int .u8 0, .int .u8 0, .int .u8 0, .int .u8 0, .int .u8 0, .int .u8 0, .bool false, .string ⟨#[]⟩] 26)) w3.heap.size _ = W3 at H3 ⊢
      clear hfw3
      generalize w3.heap.size = m at H3 ⊢
      have c2 := H3.out.1.ttl
      rw [HT.out] at c2
      go_wp2_with (go_at_call 11; (with_reducible refine (lives5_any _).mono ?_); rintro x w7 ⟨rfl, hb7⟩; have H5 := Lib.hid (H3.out.below hb7); clear hb7)
      go_ret
      exact ⟨rfl, H5.out.2.1⟩
    · have HH := Lib.hid (fun W => hop_good l (by omega) hc ht W)
      obtain ⟨q1, q2⟩ := read_hop hc (by omega)
      have HY := Lib.hid (fun W => rread5_any (hopL l) (by omega) W)
      rw [q2] at HY
      have hz : ((by8 l 8 : Int) == 0) = false := by simp; omega
      have l8 := by8_lt l 8
      have hwm : IntKind.i64.wrap ((by8 l 8 : Int) - 1) = (by8 l 8 : Int) - 1 := by simp only [IntKind.wrap_i64]; omega
      obtain ⟨F, hF⟩ : ∃ F : Ip, F = { ipOf l with ttl := (by8 l 8 : Int) - 1 } := ⟨_, rfl⟩
      have hok2 : F.ok := by rw [hF]; exact hok
      rw [← hF] at HY
      have hfok2 := fok_ip hok2
      have heq := eq_ip F hok2
      have HO2 := Lib.hid hok2
      have HT := Lib.hid htt
      have HF := Lib.hid hF
      have hs1 := Str_size (hopL l)
      have hs2 := Str_size l
      rw [q1] at hs1
      generalize l.length = Ln at *
      generalize ipOf l = E at *
      generalize by8 l 8 = t8 at *
      generalize Str (hopL l) = SH at *
      generalize Str l = S at *
      clear hrd hok hc hll hlE ht htt q1 q2 hF hok2 l8
      go_enter Try.func5, Try.ntmps5
      go_upto_region 4 with (first
        | (go_at_call 7; (with_reducible refine (HC.out _).mono ?_); rintro x w1 ⟨rfl, rfl⟩)
        | (go_at_call 16; (with_reducible refine (HH.out _).mono ?_); rintro x w2 ⟨rfl, hb2⟩; have H1 := Lib.hid hb2; clear hb2)
        | (go_at_call 15; (with_reducible refine (HX.out _).mono ?_); rintro x w3 ⟨rfl, hb3⟩; have hfw3 := free_made w3 #[.int .i64 0, .int .i64 0, .int .i64 0, .int .i64 0, .bool false, .int .u8 0, .int .u8 0, .int .u8 0, .int .u8 0, .int .u8 0, .int .u8 0, .int .u8 0, .int .u8 0, .int .u8 0, .int .u8 0, .int .u8 0, .int .u8 0, .int .u8 0, .int .u8 0, .int .u8 0, .int .u8 0, .bool false, .int .u8 0, .int .u8 0, .int .u8 0, .int .u8 0, .int .u8 0, .int .u8 0, .int .u8 0, .int .u8 0, .int .u8 0, .int .u8 0, .int .u8 0, .int .u8 0, .int .u8 0, .int .u8 0, .int .u8 0, .int .u8 0, .bool false, .string ⟨#[]⟩] 26 40 (by simp); have hw3 := I1.made (bstep H1.out hb3) E HO.out; rw [zeroI_cells] at hw3; have H3 := Lib.hid hw3; clear hw3; clear hb3))
      generalize aggW (w3.alloc (.cells #[.int .i64 0, .int .i64 0, .int .i64 0, .int .i64 0, .bool false, .int .u8 0, .int .u8 0, .int .u8 0, .int .u8 0, .int .u8 0, .int .u8 0, .int .u8 0, .int .u8 0, .int .u8 0, .int .u8 0, .int .u8 0, .int .u8 0, .int .u8 0, .int .u8 0, .int .u8 0, .int .u8 0, .bool false, .int .u8 0, .int .u8 0, .int .u8 0, .int .u8 0, .int .u8 0, .int .u8 0, .int .u8 0, .int .u8 0, .int .u8 0, .int .u8 0, .int .u8 0, .int .u8 0, .int .u8 0, .int .u8 0, .int .u8 0, .int .u8 0, .bool false, .string ⟨#[]⟩] 26)) w3.heap.size _ = W3 at H3 ⊢
      clear hfw3
      generalize w3.heap.size = m at H3 ⊢
      have c2 := H3.out.1.ttl
      rw [HT.out] at c2
      have f2 := IpAt.frz H3.out.1 2
      have H4 := Lib.hid (show I1 w (W3.setCell ⟨m, 2, none⟩ (.int .i64 ((t8 : Int) - 1))) m F by rw [HF.out]; exact H3.out.setTtl _)
      go_upto_region 9 with (fail)
      generalize World.setCell _ _ _ = W4 at H4 ⊢
      clear c2 f2 H3
      go_upto_region 10 with (go_at_call 15; (with_reducible refine (HY.out _).mono ?_); rintro x w5 ⟨rfl, hb5⟩; have hfw5 := free_made w5 #[.int .i64 0, .int .i64 0, .int .i64 0, .int .i64 0, .bool false, .int .u8 0, .int .u8 0, .int .u8 0, .int .u8 0, .int .u8 0, .int .u8 0, .int .u8 0, .int .u8 0, .int .u8 0, .int .u8 0, .int .u8 0, .int .u8 0, .int .u8 0, .int .u8 0, .int .u8 0, .int .u8 0, .bool false, .int .u8 0, .int .u8 0, .int .u8 0, .int .u8 0, .int .u8 0, .int .u8 0, .int .u8 0, .int .u8 0, .int .u8 0, .int .u8 0, .int .u8 0, .int .u8 0, .int .u8 0, .int .u8 0, .int .u8 0, .int .u8 0, .bool false, .string ⟨#[]⟩] 26 40 (by simp); have hw5 := I2.made (H4.out.below hb5) F HO2.out; rw [zeroI_cells] at hw5; have H5 := Lib.hid hw5; clear hw5; clear hb5)
      generalize aggW (w5.alloc (.cells #[.int .i64 0, .int .i64 0, .int .i64 0, .int .i64 0, .bool false, .int .u8 0, .int .u8 0, .int .u8 0, .int .u8 0, .int .u8 0, .int .u8 0, .int .u8 0, .int .u8 0, .int .u8 0, .int .u8 0, .int .u8 0, .int .u8 0, .int .u8 0, .int .u8 0, .int .u8 0, .int .u8 0, .bool false, .int .u8 0, .int .u8 0, .int .u8 0, .int .u8 0, .int .u8 0, .int .u8 0, .int .u8 0, .int .u8 0, .int .u8 0, .int .u8 0, .int .u8 0, .int .u8 0, .int .u8 0, .int .u8 0, .int .u8 0, .int .u8 0, .bool false, .string ⟨#[]⟩] 26)) w5.heap.size _ = W5 at H5 ⊢
      clear hfw5
      generalize w5.heap.size = n at H5 ⊢
      have hr1 := H5.out.1.1.row HO2.out
      have hr2 := H5.out.2.1.row HO2.out
      go_wp2_with (go_at_call 11; (with_reducible refine (lives5_any _).mono ?_); rintro x w7 ⟨rfl, hb7⟩; have H6 := Lib.hid (H5.out.below hb7); clear hb7)
      go_ret
      exact ⟨rfl, H6.out.1.2.1⟩
  · have hrd : readV5 l = (zeroI, why5 l) := by unfold readV5; rw [if_neg hc]
    rw [hrd] at HX
    have HH := Lib.hid (fun W => hop_bad l (by omega) hc W)
    generalize why5 l = c at hc HH HX
    have hcn : (c != 0) = true := by simpa using hc
    have hfok := fok_ip zeroI_ok
    generalize Str l = S at HC HH HX
    clear hrd hc hll hlE
    go_enter Try.func5, Try.ntmps5
    go_upto_region 4 with (first
      | (go_at_call 7; (with_reducible refine (HC.out _).mono ?_); rintro x w1 ⟨rfl, rfl⟩)
      | (go_at_call 16; (with_reducible refine (HH.out _).mono ?_); rintro x w2 ⟨rfl, hb2⟩; have H1 := Lib.hid hb2; clear hb2)
      | (go_at_call 15; (with_reducible refine (HX.out _).mono ?_); rintro x w3 ⟨rfl, hb3⟩; have hfw3 := free_made w3 #[.int .i64 0, .int .i64 0, .int .i64 0, .int .i64 0, .bool false, .int .u8 0, .int .u8 0, .int .u8 0, .int .u8 0, .int .u8 0, .int .u8 0, .int .u8 0, .int .u8 0, .int .u8 0, .int .u8 0, .int .u8 0, .int .u8 0, .int .u8 0, .int .u8 0, .int .u8 0, .int .u8 0, .bool false, .int .u8 0, .int .u8 0, .int .u8 0, .int .u8 0, .int .u8 0, .int .u8 0, .int .u8 0, .int .u8 0, .int .u8 0, .int .u8 0, .int .u8 0, .int .u8 0, .int .u8 0, .int .u8 0, .int .u8 0, .int .u8 0, .bool false, .string ⟨#[]⟩] 26 40 (by simp); have hw3 := I1.made (bstep H1.out hb3) zeroI zeroI_ok; rw [zeroI_cells] at hw3; have H3 := Lib.hid hw3; clear hw3; clear hb3))
    generalize aggW (w3.alloc (.cells #[.int .i64 0, .int .i64 0, .int .i64 0, .int .i64 0, .bool false, .int .u8 0, .int .u8 0, .int .u8 0, .int .u8 0, .int .u8 0, .int .u8 0, .int .u8 0, .int .u8 0, .int .u8 0, .int .u8 0, .int .u8 0, .int .u8 0, .int .u8 0, .int .u8 0, .int .u8 0, .int .u8 0, .bool false, .int .u8 0, .int .u8 0, .int .u8 0, .int .u8 0, .int .u8 0, .int .u8 0, .int .u8 0, .int .u8 0, .int .u8 0, .int .u8 0, .int .u8 0, .int .u8 0, .int .u8 0, .int .u8 0, .int .u8 0, .int .u8 0, .bool false, .string ⟨#[]⟩] 26)) w3.heap.size _ = W3 at H3 ⊢
    clear hfw3
    generalize w3.heap.size = m at H3 ⊢
    go_wp2_with (go_at_call 11; (with_reducible refine (lives5_any _).mono ?_); rintro x w7 ⟨rfl, hb7⟩; have H5 := Lib.hid (H3.out.below hb7); clear hb7)
    go_ret
    exact ⟨rfl, H5.out.2.1⟩
end Go.Proofs.Ytbmacnbegbcgpaa

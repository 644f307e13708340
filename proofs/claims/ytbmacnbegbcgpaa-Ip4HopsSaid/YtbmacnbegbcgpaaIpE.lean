/-
  The contracts of ip4.Size and ip4.Write.
-/
import Derived.Test.YtbmacnbegbcgpaaIpD
namespace Go.Proofs.Ytbmacnbegbcgpaa
open Go.RowKit
set_option linter.unusedVariables false
attribute [local go_sem ↓] bld_ip ld_ip st_ip ld_addr st_addr
attribute [local go_sem] ldr_ip str_ip ldr_addr str_addr

theorem optL_length (b : Bool) : (optL b).length ≤ 4 := by cases b <;> simp [optL]
def Ip.sz (p : Ip) : Nat := 20 + (optL p.al).length + p.bd.length
set_option maxRecDepth 100000 in
set_option maxHeartbeats 2000000 in
theorem size5_any (p : Ip) (ho : p.ok) (hl : p.bd.length ≤ 1000000) (w : World) : Calls Try.prog 14 #[.agg (ipC p).toArray] w fun x w' => x = .returned (.int .i64 p.sz) ∧ Below w.heap.size w w' := by
  obtain ⟨R, hR⟩ : ∃ R, R = p.sz := ⟨_, rfl⟩
  rw [← hR]
  unfold Ip.sz at hR
  have HB := Lib.hid (IB.made w p)
  have hsz := Str_size p.bd
  have hsz2 := Str_size (optL p.al)
  have ho4 := optL_length p.al
  have HK : Hid (∀ W, IB w W p → row? W w.heap.size 0 40 = some (ipC p) ∧ W.cell? ⟨w.heap.size, 39, none⟩ = some (.string (Str p.bd)) ∧ IB w W p) := Lib.hid fun W h => ⟨h.1.row ho, h.1.bd ho, h⟩
  have HO := Lib.hid (fun W => opts_any p ho W)
  generalize (optL p.al).length = k at hsz2 ho4 hR
  generalize p.bd.length = n at hsz hl hR
  generalize Str (optL p.al) = S at HO hsz2
  have hw1 : IntKind.i64.wrap (20 + (k : Int)) = 20 + (k : Int) := by simp only [IntKind.wrap_i64]; omega
  have hw2 : IntKind.i64.wrap (20 + (k : Int) + (n : Int)) = 20 + (k : Int) + (n : Int) := by simp only [IntKind.wrap_i64]; omega
  have HR := Lib.hid hR; clear hR ho
  go_enter Try.func14, Try.ntmps14
  go_upto_region 1 with (fail)
  generalize w.alloc (.cells (ipC p).toArray 26) = W at HB ⊢
  go_region_held3 (fun W => row? W w.heap.size 0 40 = some (ipC p) ∧ W.cell? ⟨w.heap.size, 39, none⟩ = some (.string (Str p.bd)) ∧ IB w W p) (first | assumption | exact HK.out _ HB.out | exact HK.out _ (HB.out.drewN 1)) (first
    | (go_at_call 20; (with_reducible refine (HO.out _).mono ?_); rintro x w3 ⟨rfl, hb3⟩; have hk := HK.out _ (IB.keep (And.right (And.right (by assumption))) hb3); clear hb3))
  go_wp2_with fail
  go_ret
  exact ⟨ret_int (by rw [HR.out]; simp), hk.2.2.2⟩

theorem write5_bad (p : Ip) (ho : p.ok) (hl : p.bd.length ≤ 1000000) (hg : p.good = false) (w : World) : Calls Try.prog 8 #[.agg (ipC p).toArray] w fun x w' => x = .returned (.tuple #[.string ⟨#[]⟩, .int .i64 2]) ∧ Below w.heap.size w w' := by
  have HB := Lib.hid (IB.made w p)
  have HG := Lib.hid (fun W => good5_any p ho hl W)
  rw [hg] at HG
  go_enter Try.func8, Try.ntmps8
  go_upto_region 1 with (fail)
  generalize w.alloc (.cells (ipC p).toArray 26) = W at HB ⊢
  have hr := HB.out.1.row ho
  go_wp2_with (go_at_call 9; (with_reducible refine (HG.out _).mono ?_); rintro x w1 ⟨rfl, hb1⟩; have H1 := Lib.hid (HB.out.keep hb1); clear hb1)
  go_ret2
  exact ⟨rfl, H1.out.2⟩
end Go.Proofs.Ytbmacnbegbcgpaa

/-
  The document's own Good of a packet of IPv6, its numbers as bytes.
-/
import Derived.Test.YtkmnnkklbgnfpaaIq
import Derived.Test.YtkmnnkklbgnfpaaIqP
import Derived.Test.YtkmnnkklbgnfpaaRbytes
import Derived.Test.YtkmnnkklbgnfpaaRefb
import Derived.Deep.RegionHeld3
import Derived.Deep.Cut
import Derived.BigQuiet
namespace Go.Proofs.Ytkmnnkklbgnfpaa
open Go.RowKit
set_option linter.unusedVariables false
attribute [local go_sem ↓] bld_iq ld_iq st_iq ld_addr st_addr
attribute [local go_sem] ldr_iq str_iq ldr_addr str_addr

theorem rnum6_any (n : Nat) (hn : n ≤ 9223372036854775807) (wide : Nat) (hw : wide ≤ 8) (w : World) : Calls Try.prog 24 #[.int .i64 n, .int .i64 wide] w fun x w' => x = .returned (.string (Str (putL n wide))) ∧ Below w.heap.size w w' := by
  have hwr : IntKind.u64.wrap (n : Int) = (n : Int) := by simp only [IntKind.wrap_u64]; omega
  have hc : clampN (wide : Int) 8 = wide := by unfold clampN; split <;> omega
  have HP : Hid (∀ W, Calls Try.prog 37 #[.int .u64 n, .int .i64 wide] W fun e w' => e = .returned (.string (Str (putL n wide))) ∧ Below W.heap.size W w') := Lib.hid fun W => by
    have := rput_any n (by omega) wide W
    rw [hc] at this; exact this
  clear hc hw hn
  go_enter Try.func24, Try.ntmps24
  go_wp2_with (go_at_call 37; (with_reducible refine (HP.out _).mono ?_); rintro x w1 ⟨rfl, hb1⟩; have H1 := Lib.hid hb1; clear hb1)
  go_ret
  exact ⟨rfl, H1.out⟩

set_option maxRecDepth 100000 in
set_option maxHeartbeats 2000000 in
theorem rgood6_any (p : Ip) (ho : p.ok) (hl : p.bd.length ≤ 1000000) (w : World) : Calls Try.prog 10 #[.agg (ipC p).toArray] w fun x w' => x = .returned (.bool p.good6) ∧ Below w.heap.size w w' := by
  obtain ⟨R, hR⟩ : ∃ R, R = p.good6 := ⟨_, rfl⟩
  rw [← hR]
  have HB := Lib.hid (QB.made w p)
  have hsz := Str_size p.bd
  have HK : Hid (∀ W, QB w W p → W.cell? ⟨w.heap.size, 4, none⟩ = some (.bool p.f6) ∧ W.cell? ⟨w.heap.size, 21, none⟩ = some (.bool p.t6) ∧ W.cell? ⟨w.heap.size, 39, none⟩ = some (.string (Str p.bd))) := Lib.hid fun W h => ⟨h.1.f6, h.1.t6 ho, h.1.bd ho⟩
  have HN : Hid (∀ W, QB w W p → W.cell? ⟨w.heap.size, 0, none⟩ = some (.int .i64 p.tos) ∧ W.cell? ⟨w.heap.size, 1, none⟩ = some (.int .i64 p.id) ∧ W.cell? ⟨w.heap.size, 2, none⟩ = some (.int .i64 p.ttl) ∧ W.cell? ⟨w.heap.size, 3, none⟩ = some (.int .i64 p.pro)) := Lib.hid fun W h => ⟨h.1.tos, h.1.id, h.1.ttl, h.1.pro⟩
  unfold Ip.good6 at hR
  cases hn : p.nums6 with
  | false =>
    rw [hn, Bool.false_and] at hR
    have HR := Lib.hid hR; clear hR
    unfold Ip.nums6 at hn
    rw [decide_eq_false_iff_not] at hn
    have HNN := Lib.hid hn; clear hn
    clear ho
    go_enter Try.func10, Try.ntmps10
    go_upto_region 1 with (fail)
    generalize w.alloc (.cells (ipC p).toArray 26) = W at HB ⊢
    obtain ⟨n0, n1, n2, n3⟩ := HN.out _ HB.out
    go_upto_region 2 with (fail)
    all_goals
      first
      | (go_wp2; go_ret; exact ⟨ret_bool HR.out.symm, HB.out.2⟩)
      | (exfalso; apply HNN.out; omega)
  | true =>
    rw [hn, Bool.true_and] at hR
    have HR := Lib.hid hR; clear hR
    unfold Ip.nums6 at hn
    rw [decide_eq_true_eq] at hn
    obtain ⟨a0, a1, a2, a3, a4, a5, a6, a7⟩ := hn
    go_enter Try.func10, Try.ntmps10
    go_upto_region 1 with (fail)
    generalize w.alloc (.cells (ipC p).toArray 26) = W at HB ⊢
    obtain ⟨n0, n1, n2, n3⟩ := HN.out _ HB.out
    clear ho
    go_upto_region 3 with (fail)
    clear n0 n1 n2 n3 a0 a1 a2 a3 a4 a5 a6 a7
    obtain ⟨k4, k21, k39⟩ := HK.out _ HB.out
    cases hf : p.f6 with
    | false =>
      rw [hf] at k4
      have HF := Lib.hid hf; clear hf
      go_wp2
      go_ret
      exact ⟨ret_bool (by rw [HR.out, HF.out]; rfl), HB.out.2⟩
    | true =>
      rw [hf] at k4
      have HF := Lib.hid hf; clear hf
      cases ht : p.t6 with
      | false =>
        rw [ht] at k21
        have HT := Lib.hid ht; clear ht
        go_wp2
        go_ret
        exact ⟨ret_bool (by rw [HR.out, HF.out, HT.out]; rfl), HB.out.2⟩
      | true =>
        rw [ht] at k21
        have HT := Lib.hid ht; clear ht
        go_wp2
        go_ret
        exact ⟨ret_bool (by rw [HR.out, HF.out, HT.out, Bool.eq_iff_iff]; simp; omega), HB.out.2⟩

end Go.Proofs.Ytkmnnkklbgnfpaa

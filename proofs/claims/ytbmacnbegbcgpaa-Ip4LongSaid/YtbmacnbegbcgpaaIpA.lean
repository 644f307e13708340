/-
  The document's own Good of a packet of IPv4, its numbers as bytes, and its bytes.
-/
import Derived.Test.YtbmacnbegbcgpaaIp
import Derived.Test.YtbmacnbegbcgpaaTell
import Derived.Test.YtbmacnbegbcgpaaRbytes
import Derived.Test.YtbmacnbegbcgpaaRefb
import Derived.Deep.RegionHeld3
import Derived.Deep.Cut
namespace Go.Proofs.Ytbmacnbegbcgpaa
open Go.RowKit
set_option linter.unusedVariables false
attribute [local go_sem ↓] bld_ip ld_ip st_ip ld_addr st_addr
attribute [local go_sem] ldr_ip str_ip ldr_addr str_addr

def Ip.nums (p : Ip) : Bool := decide (0 ≤ p.tos ∧ p.tos ≤ 255 ∧ 0 ≤ p.ttl ∧ p.ttl ≤ 255 ∧ 0 ≤ p.pro ∧ p.pro ≤ 255 ∧ 0 ≤ p.id ∧ p.id ≤ 65535)
def Ip.good (p : Ip) : Bool := p.nums && (!p.f6 && (!p.t6 && (goodV p.f6 p.fr && (goodV p.t6 p.to && decide (p.bd.length ≤ 1400)))))

theorem rnum5_any (n : Nat) (hn : n ≤ 9223372036854775807) (wide : Nat) (hw : wide ≤ 8) (w : World) : Calls Try.prog 29 #[.int .i64 n, .int .i64 wide] w fun x w' => x = .returned (.string (Str (putL n wide))) ∧ Below w.heap.size w w' := by
  have hwr : IntKind.u64.wrap (n : Int) = (n : Int) := by simp only [IntKind.wrap_u64]; omega
  have hc : clampN (wide : Int) 8 = wide := by unfold clampN; split <;> omega
  have HP : Hid (∀ W, Calls Try.prog 41 #[.int .u64 n, .int .i64 wide] W fun e w' => e = .returned (.string (Str (putL n wide))) ∧ Below W.heap.size W w') := Lib.hid fun W => by
    have := rput_any n (by omega) wide W
    rw [hc] at this; exact this
  clear hc hw hn
  go_enter Try.func29, Try.ntmps29
  go_wp2_with (go_at_call 41; (with_reducible refine (HP.out _).mono ?_); rintro x w1 ⟨rfl, hb1⟩; have H1 := Lib.hid hb1; clear hb1)
  go_ret
  exact ⟨rfl, H1.out⟩

set_option maxRecDepth 100000 in
set_option maxHeartbeats 2000000 in
theorem rgood5_any (p : Ip) (ho : p.ok) (hl : p.bd.length ≤ 1000000) (w : World) : Calls Try.prog 10 #[.agg (ipC p).toArray] w fun x w' => x = .returned (.bool p.good) ∧ Below w.heap.size w w' := by
  obtain ⟨R, hR⟩ : ∃ R, R = p.good := ⟨_, rfl⟩
  rw [← hR]
  have HB := Lib.hid (IB.made w p)
  have Ho := Lib.hid ho
  have hsz := Str_size p.bd
  have HG1 := Lib.hid (fun W => rgood_any p.f6 p.fr ho.1 W)
  have HG2 := Lib.hid (fun W => rgood_any p.t6 p.to ho.2 W)
  have HK : Hid (∀ W, IB w W p → row? W w.heap.size 4 17 = some (addrC p.f6 p.fr) ∧ row? W w.heap.size 21 17 = some (addrC p.t6 p.to) ∧ W.cell? ⟨w.heap.size, 4, none⟩ = some (.bool p.f6) ∧ W.cell? ⟨w.heap.size, 21, none⟩ = some (.bool p.t6) ∧ W.cell? ⟨w.heap.size, 39, none⟩ = some (.string (Str p.bd))) := Lib.hid fun W h => ⟨h.1.rfr ho, h.1.rto ho, h.1.f6, h.1.t6 ho, h.1.bd ho⟩
  have HN : Hid (∀ W, IB w W p → W.cell? ⟨w.heap.size, 0, none⟩ = some (.int .i64 p.tos) ∧ W.cell? ⟨w.heap.size, 1, none⟩ = some (.int .i64 p.id) ∧ W.cell? ⟨w.heap.size, 2, none⟩ = some (.int .i64 p.ttl) ∧ W.cell? ⟨w.heap.size, 3, none⟩ = some (.int .i64 p.pro)) := Lib.hid fun W h => ⟨h.1.tos, h.1.id, h.1.ttl, h.1.pro⟩
  unfold Ip.good at hR
  cases hn : p.nums with
  | false =>
    rw [hn, Bool.false_and] at hR
    have HR := Lib.hid hR; clear hR
    unfold Ip.nums at hn
    rw [decide_eq_false_iff_not] at hn
    have HNN := Lib.hid hn; clear hn
    clear ho
    go_enter Try.func10, Try.ntmps10
    go_upto_region 1 with (fail)
    generalize w.alloc (.cells (ipC p).toArray 26) = W at HB ⊢
    obtain ⟨n0, n1, n2, n3⟩ := HN.out _ HB.out
    go_upto_region 2 with (fail)
    all_goals
      first
      | (go_wp2; go_ret; exact ⟨ret_bool HR.out.symm, HB.out.2⟩)
      | (exfalso; apply HNN.out; omega)
  | true =>
    rw [hn, Bool.true_and] at hR
    have HR := Lib.hid hR; clear hR
    unfold Ip.nums at hn
    rw [decide_eq_true_eq] at hn
    obtain ⟨a0, a1, a2, a3, a4, a5, a6, a7⟩ := hn
    go_enter Try.func10, Try.ntmps10
    go_upto_region 1 with (fail)
    generalize w.alloc (.cells (ipC p).toArray 26) = W at HB ⊢
    obtain ⟨n0, n1, n2, n3⟩ := HN.out _ HB.out
    clear ho
    go_upto_region 3 with (fail)
    clear n0 n1 n2 n3 a0 a1 a2 a3 a4 a5 a6 a7
    obtain ⟨r1, r2, k4, k21, k39⟩ := HK.out _ HB.out
    generalize goodV p.f6 p.fr = g1 at HG1 HR
    generalize goodV p.t6 p.to = g2 at HG2 HR
    cases hf : p.f6 with
    | true =>
      rw [hf] at k4
      have HF := Lib.hid hf; clear hf
      go_wp2
      go_ret
      exact ⟨ret_bool (by rw [HR.out, HF.out]; rfl), HB.out.2⟩
    | false =>
      rw [hf] at k4
      have HF := Lib.hid hf; clear hf
      cases ht : p.t6 with
      | true =>
        rw [ht] at k21
        have HT := Lib.hid ht; clear ht
        go_wp2
        go_ret
        exact ⟨ret_bool (by rw [HR.out, HF.out, HT.out]; rfl), HB.out.2⟩
      | false =>
        rw [ht] at k21
        have HT := Lib.hid ht; clear ht
        cases g1 with
        | false =>
          go_wp2_with (go_at_call 24; (with_reducible refine (HG1.out _).mono ?_); rintro x w1 ⟨rfl, hb1⟩; have H1 := Lib.hid (HB.out.keep hb1); clear hb1 r1 r2 k4 k21 k39)
          go_ret
          exact ⟨ret_bool (by rw [HR.out, HF.out, HT.out]; rfl), H1.out.2⟩
        | true =>
          cases g2 with
          | false =>
            go_wp2_with (first
              | (go_at_call 24; (with_reducible refine (HG1.out _).mono ?_); rintro x w1 ⟨rfl, hb1⟩; have H1 := Lib.hid (HB.out.keep hb1); clear hb1 r1 r2 k4 k21 k39; obtain ⟨r1, r2, k4, k21, k39⟩ := HK.out _ H1.out)
              | (go_at_call 24; (with_reducible refine (HG2.out _).mono ?_); rintro x w2 ⟨rfl, hb2⟩; have H2 := Lib.hid (H1.out.keep hb2); clear hb2 r1 r2 k4 k21 k39))
            go_ret
            exact ⟨ret_bool (by rw [HR.out, HF.out, HT.out]; rfl), H2.out.2⟩
          | true =>
            go_wp2_with (first
              | (go_at_call 24; (with_reducible refine (HG1.out _).mono ?_); rintro x w1 ⟨rfl, hb1⟩; have H1 := Lib.hid (HB.out.keep hb1); clear hb1 r1 r2 k4 k21 k39; obtain ⟨r1, r2, k4, k21, k39⟩ := HK.out _ H1.out)
              | (go_at_call 24; (with_reducible refine (HG2.out _).mono ?_); rintro x w2 ⟨rfl, hb2⟩; have H2 := Lib.hid (H1.out.keep hb2); clear hb2 r1 r2 k4 k21 k39; obtain ⟨r1, r2, k4, k21, k39⟩ := HK.out _ H2.out))
            go_ret
            exact ⟨ret_bool (by rw [HR.out, HF.out, HT.out, Bool.eq_iff_iff]; simp; omega), H2.out.2⟩
end Go.Proofs.Ytbmacnbegbcgpaa

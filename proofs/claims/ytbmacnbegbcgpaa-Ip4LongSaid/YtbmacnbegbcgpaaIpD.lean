/-
  The contract of ip4.Good.
-/
import Derived.Test.YtbmacnbegbcgpaaIpC
namespace Go.Proofs.Ytbmacnbegbcgpaa
open Go.RowKit
set_option linter.unusedVariables false
attribute [local go_sem ↓] bld_ip ld_ip st_ip ld_addr st_addr
attribute [local go_sem] ldr_ip str_ip ldr_addr str_addr

theorem Ip.good_eq (p : Ip) : p.good = (decide (0 ≤ p.tos ∧ p.tos ≤ 255) && (decide (0 ≤ p.ttl ∧ p.ttl ≤ 255) && (decide (0 ≤ p.pro ∧ p.pro ≤ 255) && (decide (0 ≤ p.id ∧ p.id ≤ 65535) && ((goodV p.f6 p.fr && !p.f6) && ((goodV p.t6 p.to && !p.t6) && decide ((p.bd.length : Int) ≤ 1400))))))) := by
  unfold Ip.good Ip.nums
  rw [Bool.eq_iff_iff]
  simp
  constructor
  · rintro ⟨⟨h1, h2, h3, h4, h5, h6, h7, h8⟩, h9, h10, h11, h12, h13⟩
    exact ⟨⟨h1, h2⟩, ⟨h3, h4⟩, ⟨h5, h6⟩, ⟨h7, h8⟩, ⟨h11, h9⟩, ⟨h12, h10⟩, by omega⟩
  · rintro ⟨⟨h1, h2⟩, ⟨h3, h4⟩, ⟨h5, h6⟩, ⟨h7, h8⟩, ⟨h11, h9⟩, ⟨h12, h10⟩, h13⟩
    exact ⟨⟨h1, h2, h3, h4, h5, h6, h7, h8⟩, h9, h10, h11, h12, by omega⟩

set_option maxRecDepth 100000 in
set_option maxHeartbeats 2000000 in
theorem good5_any (p : Ip) (ho : p.ok) (hl : p.bd.length ≤ 1000000) (w : World) : Calls Try.prog 9 #[.agg (ipC p).toArray] w fun x w' => x = .returned (.bool p.good) ∧ Below w.heap.size w w' := by
  obtain ⟨R, hR⟩ : ∃ R, R = p.good := ⟨_, rfl⟩
  rw [← hR]
  rw [Ip.good_eq] at hR
  have HB := Lib.hid (IB.made w p)
  have hsz := Str_size p.bd
  have HK : Hid (∀ W, IB w W p → row? W w.heap.size 4 17 = some (addrC p.f6 p.fr) ∧ row? W w.heap.size 21 17 = some (addrC p.t6 p.to) ∧ W.cell? ⟨w.heap.size, 39, none⟩ = some (.string (Str p.bd))) := Lib.hid fun W h => ⟨h.1.rfr ho, h.1.rto ho, h.1.bd ho⟩
  have HN : Hid (∀ W, IB w W p → W.cell? ⟨w.heap.size, 0, none⟩ = some (.int .i64 p.tos) ∧ W.cell? ⟨w.heap.size, 1, none⟩ = some (.int .i64 p.id) ∧ W.cell? ⟨w.heap.size, 2, none⟩ = some (.int .i64 p.ttl) ∧ W.cell? ⟨w.heap.size, 3, none⟩ = some (.int .i64 p.pro)) := Lib.hid fun W h => ⟨h.1.tos, h.1.id, h.1.ttl, h.1.pro⟩
  have H1 := Lib.hid (fun W => inr_any p.tos 255 W)
  have H2 := Lib.hid (fun W => inr_any p.ttl 255 W)
  have H3 := Lib.hid (fun W => inr_any p.pro 255 W)
  have H4 := Lib.hid (fun W => inr_any p.id 65535 W)
  have H5 := Lib.hid (fun W => gaddr_any p.f6 p.fr ho.1 W)
  have H6 := Lib.hid (fun W => gaddr_any p.t6 p.to ho.2 W)
  generalize decide (0 ≤ p.tos ∧ p.tos ≤ 255) = b1 at H1 hR
  generalize decide (0 ≤ p.ttl ∧ p.ttl ≤ 255) = b2 at H2 hR
  generalize decide (0 ≤ p.pro ∧ p.pro ≤ 255) = b3 at H3 hR
  generalize decide (0 ≤ p.id ∧ p.id ≤ 65535) = b4 at H4 hR
  generalize (goodV p.f6 p.fr && !p.f6) = b5 at H5 hR
  generalize (goodV p.t6 p.to && !p.t6) = b6 at H6 hR
  have HR := Lib.hid hR; clear hR
  go_enter Try.func9, Try.ntmps9
  go_upto_region 1 with (fail)
  generalize w.alloc (.cells (ipC p).toArray 26) = W at HB ⊢
  obtain ⟨n0, n1, n2, n3⟩ := HN.out _ HB.out
  obtain ⟨r1, r2, c5⟩ := HK.out _ HB.out
  clear ho
  cases b1 with
  | false =>
    go_wp2_with (first
      | (go_at_call 22; (with_reducible refine (H1.out _).mono ?_); rintro x w1 ⟨rfl, rfl⟩))
    go_ret
    exact ⟨ret_bool (by rw [HR.out]; first | rfl | simp), HB.out.2⟩
  | true =>
    cases b2 with
    | false =>
      go_wp2_with (first
        | (go_at_call 22; (with_reducible refine (H1.out _).mono ?_); rintro x w1 ⟨rfl, rfl⟩)
        | (go_at_call 22; (with_reducible refine (H2.out _).mono ?_); rintro x w1 ⟨rfl, rfl⟩))
      go_ret
      exact ⟨ret_bool (by rw [HR.out]; first | rfl | simp), HB.out.2⟩
    | true =>
      cases b3 with
      | false =>
        go_wp2_with (first
          | (go_at_call 22; (with_reducible refine (H1.out _).mono ?_); rintro x w1 ⟨rfl, rfl⟩)
          | (go_at_call 22; (with_reducible refine (H2.out _).mono ?_); rintro x w1 ⟨rfl, rfl⟩)
          | (go_at_call 22; (with_reducible refine (H3.out _).mono ?_); rintro x w1 ⟨rfl, rfl⟩))
        go_ret
        exact ⟨ret_bool (by rw [HR.out]; first | rfl | simp), HB.out.2⟩
      | true =>
        cases b4 with
        | false =>
          go_wp2_with (first
            | (go_at_call 22; (with_reducible refine (H1.out _).mono ?_); rintro x w1 ⟨rfl, rfl⟩)
            | (go_at_call 22; (with_reducible refine (H2.out _).mono ?_); rintro x w1 ⟨rfl, rfl⟩)
            | (go_at_call 22; (with_reducible refine (H3.out _).mono ?_); rintro x w1 ⟨rfl, rfl⟩)
            | (go_at_call 22; (with_reducible refine (H4.out _).mono ?_); rintro x w1 ⟨rfl, rfl⟩))
          go_ret
          exact ⟨ret_bool (by rw [HR.out]; first | rfl | simp), HB.out.2⟩
        | true =>
          cases b5 with
          | false =>
            go_wp2_with (first
              | (go_at_call 22; (with_reducible refine (H1.out _).mono ?_); rintro x w1 ⟨rfl, rfl⟩)
              | (go_at_call 22; (with_reducible refine (H2.out _).mono ?_); rintro x w1 ⟨rfl, rfl⟩)
              | (go_at_call 22; (with_reducible refine (H3.out _).mono ?_); rintro x w1 ⟨rfl, rfl⟩)
              | (go_at_call 22; (with_reducible refine (H4.out _).mono ?_); rintro x w1 ⟨rfl, rfl⟩)
              | (go_at_call 23; (with_reducible refine (H5.out _).mono ?_); rintro x w5 ⟨rfl, hb5⟩; have G5 := Lib.hid (HB.out.keep hb5); clear hb5 r1 r2 c5; obtain ⟨r1, r2, c5⟩ := HK.out _ G5.out))
            go_ret
            exact ⟨ret_bool (by rw [HR.out]; first | rfl | simp), G5.out.2⟩
          | true =>
            cases b6 with
            | false =>
              go_wp2_with (first
                | (go_at_call 22; (with_reducible refine (H1.out _).mono ?_); rintro x w1 ⟨rfl, rfl⟩)
                | (go_at_call 22; (with_reducible refine (H2.out _).mono ?_); rintro x w1 ⟨rfl, rfl⟩)
                | (go_at_call 22; (with_reducible refine (H3.out _).mono ?_); rintro x w1 ⟨rfl, rfl⟩)
                | (go_at_call 22; (with_reducible refine (H4.out _).mono ?_); rintro x w1 ⟨rfl, rfl⟩)
                | (go_at_call 23; (with_reducible refine (H5.out _).mono ?_); rintro x w5 ⟨rfl, hb5⟩; have G5 := Lib.hid (HB.out.keep hb5); clear hb5 r1 r2 c5; obtain ⟨r1, r2, c5⟩ := HK.out _ G5.out)
                | (go_at_call 23; (with_reducible refine (H6.out _).mono ?_); rintro x w6 ⟨rfl, hb6⟩; have G6 := Lib.hid (G5.out.keep hb6); clear hb6 r1 r2 c5; obtain ⟨r1, r2, c5⟩ := HK.out _ G6.out))
              go_ret
              exact ⟨ret_bool (by rw [HR.out]; first | rfl | simp), G6.out.2⟩
            | true =>
              go_wp2_with (first
                | (go_at_call 22; (with_reducible refine (H1.out _).mono ?_); rintro x w1 ⟨rfl, rfl⟩)
                | (go_at_call 22; (with_reducible refine (H2.out _).mono ?_); rintro x w1 ⟨rfl, rfl⟩)
                | (go_at_call 22; (with_reducible refine (H3.out _).mono ?_); rintro x w1 ⟨rfl, rfl⟩)
                | (go_at_call 22; (with_reducible refine (H4.out _).mono ?_); rintro x w1 ⟨rfl, rfl⟩)
                | (go_at_call 23; (with_reducible refine (H5.out _).mono ?_); rintro x w5 ⟨rfl, hb5⟩; have G5 := Lib.hid (HB.out.keep hb5); clear hb5 r1 r2 c5; obtain ⟨r1, r2, c5⟩ := HK.out _ G5.out)
                | (go_at_call 23; (with_reducible refine (H6.out _).mono ?_); rintro x w6 ⟨rfl, hb6⟩; have G6 := Lib.hid (G5.out.keep hb6); clear hb6 r1 r2 c5; obtain ⟨r1, r2, c5⟩ := HK.out _ G6.out))
              go_ret
              exact ⟨ret_bool (by rw [HR.out]; first | rfl | simp), G6.out.2⟩
end Go.Proofs.Ytbmacnbegbcgpaa

/-
  The contracts of ip6: within, put, options, Good, Size, Write.
-/
import Derived.Test.YtkmnnkklbgnfpaaIq
import Derived.Test.YtkmnnkklbgnfpaaIqP
import Derived.Test.YtkmnnkklbgnfpaaMgb
namespace Go.Proofs.Ytkmnnkklbgnfpaa
open Go.RowKit
set_option linter.unusedVariables false
attribute [local go_sem ↓] bld_iq ld_iq st_iq ld_addr st_addr
attribute [local go_sem] ldr_iq str_iq ldr_addr str_addr

theorem inq_any (n l m : Int) (w : World) : Calls Try.prog 21 #[.int .i64 n, .int .i64 l, .int .i64 m] w fun x w' => x = .returned (.bool (decide (l ≤ n ∧ n ≤ m))) ∧ w = w' := by
  go_enter Try.func21, Try.ntmps21
  go_wp2
  all_goals
    go_ret
    exact ⟨ret_bool (by rw [Bool.eq_iff_iff]; simp; try (intros; first | omega | (simp_all; omega))), rfl⟩

theorem put6_any (n : Nat) (hn : n ≤ 9223372036854775807) (wide : Nat) (hw : wide ≤ 8) (w : World) : Calls Try.prog 18 #[.int .i64 n, .int .i64 wide] w fun x w' => x = .returned (.string (Str (putL n wide))) ∧ Below w.heap.size w w' := by
  have hwr : IntKind.u64.wrap (n : Int) = (n : Int) := by simp only [IntKind.wrap_u64]; omega
  have hc : clampN (wide : Int) 8 = wide := by unfold clampN; split <;> omega
  have HP : Hid (∀ W, Calls Try.prog 33 #[.int .u64 n, .int .i64 wide] W fun e w' => e = .returned (.string (Str (putL n wide))) ∧ Below W.heap.size W w') := Lib.hid fun W => by
    have := put_any n (by omega) wide W
    rw [hc] at this; exact this
  clear hc hw hn
  go_enter Try.func18, Try.ntmps18
  go_wp2_with (go_at_call 33; (with_reducible refine (HP.out _).mono ?_); rintro x w1 ⟨rfl, hb1⟩; have H1 := Lib.hid hb1; clear hb1)
  go_ret
  exact ⟨rfl, H1.out⟩

/-- The bytes of the options. -/
def opL6 (al : Bool) (n : Nat) : List UInt8 := if al then putL n 1 ++ [0, 5, 2, 0, 0, 1, 0] else []
theorem opL6_length (al : Bool) (n : Nat) : (opL6 al n).length = if al then 8 else 0 := by cases al <;> simp [opL6, putL_length]
set_option maxRecDepth 100000 in
set_option maxHeartbeats 1000000 in
theorem opts6_any (p : Ip) (ho : p.ok) (n : Nat) (hn : p.ttl = n) (hn2 : n ≤ 255) (w : World) : Calls Try.prog 20 #[.agg (ipC p).toArray] w fun x w' => x = .returned (.string (Str (opL6 p.al n))) ∧ Below w.heap.size w w' := by
  have HB := Lib.hid (QB.made w p)
  have HC : Hid (∀ W, QB w W p → W.cell? ⟨w.heap.size, 2, none⟩ = some (.int .i64 n)) := Lib.hid fun W h => by rw [← hn]; exact h.1.ttl
  have HP : Hid (∀ W, Calls Try.prog 18 #[.int .i64 (n : Int), .int .i64 1] W fun x w' => x = .returned (.string (Str (putL n 1))) ∧ Below W.heap.size W w') := Lib.hid fun W => put6_any n (by omega) 1 (by omega) W
  cases hal : p.al with
  | false =>
    have HA : Hid (∀ W, QB w W p → W.cell? ⟨w.heap.size, 38, none⟩ = some (.bool false)) := Lib.hid fun W h => by rw [← hal]; exact h.1.al ho
    have HT := Lib.hid (show (Str (opL6 false n)) = ⟨#[]⟩ from rfl)
    generalize Str (opL6 false n) = S at HT ⊢
    go_enter Try.func20, Try.ntmps20
    go_upto_region 1 with (fail)
    generalize w.alloc (.cells (ipC p).toArray 26) = W at HB ⊢
    have c1 := HA.out _ HB.out
    go_wp2
    go_ret
    exact ⟨by rw [HT.out]; rfl, HB.out.2⟩
  | true =>
    have HA : Hid (∀ W, QB w W p → W.cell? ⟨w.heap.size, 38, none⟩ = some (.bool true)) := Lib.hid fun W h => by rw [← hal]; exact h.1.al ho
    have hc : ∀ w, (Op.stringOp .add (Str (putL n 1)) ⟨#[0, 5, 2, 0, 0, 1, 0]⟩).run Try.prog w = .ok (.string (Str (opL6 true n))) w := fun w => by
      have := run_cat (P := Try.prog) (putL n 1) [0, 5, 2, 0, 0, 1, 0] (by simp [putL_length]) w
      exact this
    generalize Str (opL6 true n) = S at hc ⊢
    generalize putL n 1 = x0 at HP hc
    go_enter Try.func20, Try.ntmps20
    go_upto_region 1 with (fail)
    generalize w.alloc (.cells (ipC p).toArray 26) = W at HB ⊢
    have c1 := HA.out _ HB.out
    have c2 := HC.out _ HB.out
    go_wp2_with (go_at_call 18; (with_reducible refine (HP.out _).mono ?_); rintro x w1 ⟨rfl, hb1⟩; have H1 := Lib.hid (HB.out.keep hb1); clear hb1)
    go_ret
    exact ⟨rfl, H1.out.2⟩

set_option maxRecDepth 100000 in
set_option maxHeartbeats 2000000 in
theorem size6_any (p : Ip) (ho : p.ok) (n : Nat) (hn : p.ttl = n) (hn2 : n ≤ 255) (hl : p.bd.length ≤ 1000000) (w : World) : Calls Try.prog 14 #[.agg (ipC p).toArray] w fun x w' => x = .returned (.int .i64 p.sz6) ∧ Below w.heap.size w w' := by
  obtain ⟨R, hR⟩ : ∃ R, R = p.sz6 := ⟨_, rfl⟩
  rw [← hR]
  unfold Ip.sz6 at hR
  have HB := Lib.hid (QB.made w p)
  have hsz := Str_size p.bd
  have hsz2 := Str_size (opL6 p.al n)
  have ho4 := opL6_length p.al n
  have HK : Hid (∀ W, QB w W p → row? W w.heap.size 0 40 = some (ipC p) ∧ W.cell? ⟨w.heap.size, 39, none⟩ = some (.string (Str p.bd)) ∧ QB w W p) := Lib.hid fun W h => ⟨h.1.row ho, h.1.bd ho, h⟩
  have HO := Lib.hid (fun W => opts6_any p ho n hn hn2 W)
  rw [← ho4] at hR
  have ho8 : (opL6 p.al n).length ≤ 8 := by rw [ho4]; split <;> omega
  clear ho4
  generalize (opL6 p.al n).length = k at hsz2 ho8 hR
  generalize p.bd.length = m at hsz hl hR
  generalize Str (opL6 p.al n) = S at HO hsz2
  have hw1 : IntKind.i64.wrap (40 + (k : Int)) = 40 + (k : Int) := by simp only [IntKind.wrap_i64]; omega
  have hw2 : IntKind.i64.wrap (40 + (k : Int) + (m : Int)) = 40 + (k : Int) + (m : Int) := by simp only [IntKind.wrap_i64]; omega
  have HR := Lib.hid hR; clear hR ho
  go_enter Try.func14, Try.ntmps14
  go_upto_region 1 with (fail)
  generalize w.alloc (.cells (ipC p).toArray 26) = W at HB ⊢
  go_region_held3 (fun W => row? W w.heap.size 0 40 = some (ipC p) ∧ W.cell? ⟨w.heap.size, 39, none⟩ = some (.string (Str p.bd)) ∧ QB w W p) (first | assumption | exact HK.out _ HB.out | exact HK.out _ (HB.out.drewN 1)) (first
    | (go_at_call 20; (with_reducible refine (HO.out _).mono ?_); rintro x w3 ⟨rfl, hb3⟩; have hk := HK.out _ (QB.keep (And.right (And.right (by assumption))) hb3); clear hb3))
  go_wp2_with fail
  go_ret
  exact ⟨ret_int (by rw [HR.out]; simp), hk.2.2.2⟩

theorem Ip.good6_eq (p : Ip) : p.good6 = (decide (0 ≤ p.tos ∧ p.tos ≤ 255) && (decide (0 ≤ p.pro ∧ p.pro ≤ 255) && (decide (1 ≤ p.ttl ∧ p.ttl ≤ 255) && (decide (0 ≤ p.id ∧ p.id ≤ 1048575) && (p.f6 && (p.t6 && decide ((p.bd.length : Int) ≤ 1400))))))) := by
  unfold Ip.good6 Ip.nums6
  rw [Bool.eq_iff_iff]
  simp
  constructor
  · rintro ⟨⟨h1, h2, h3, h4, h5, h6, h7, h8⟩, h9, h10, h11⟩
    exact ⟨⟨h1, h2⟩, ⟨h3, h4⟩, ⟨h5, h6⟩, ⟨h7, h8⟩, h9, h10, by omega⟩
  · rintro ⟨⟨h1, h2⟩, ⟨h3, h4⟩, ⟨h5, h6⟩, ⟨h7, h8⟩, h9, h10, h11⟩
    exact ⟨⟨h1, h2, h3, h4, h5, h6, h7, h8⟩, h9, h10, by omega⟩

set_option maxRecDepth 100000 in
set_option maxHeartbeats 2000000 in
theorem good6_any (p : Ip) (ho : p.ok) (hl : p.bd.length ≤ 1000000) (w : World) : Calls Try.prog 9 #[.agg (ipC p).toArray] w fun x w' => x = .returned (.bool p.good6) ∧ Below w.heap.size w w' := by
  obtain ⟨R, hR⟩ : ∃ R, R = p.good6 := ⟨_, rfl⟩
  rw [← hR]
  rw [Ip.good6_eq] at hR
  have HB := Lib.hid (QB.made w p)
  have hsz := Str_size p.bd
  have HK : Hid (∀ W, QB w W p → W.cell? ⟨w.heap.size, 4, none⟩ = some (.bool p.f6) ∧ W.cell? ⟨w.heap.size, 21, none⟩ = some (.bool p.t6) ∧ W.cell? ⟨w.heap.size, 39, none⟩ = some (.string (Str p.bd))) := Lib.hid fun W h => ⟨h.1.f6, h.1.t6 ho, h.1.bd ho⟩
  have HN : Hid (∀ W, QB w W p → W.cell? ⟨w.heap.size, 0, none⟩ = some (.int .i64 p.tos) ∧ W.cell? ⟨w.heap.size, 1, none⟩ = some (.int .i64 p.id) ∧ W.cell? ⟨w.heap.size, 2, none⟩ = some (.int .i64 p.ttl) ∧ W.cell? ⟨w.heap.size, 3, none⟩ = some (.int .i64 p.pro)) := Lib.hid fun W h => ⟨h.1.tos, h.1.id, h.1.ttl, h.1.pro⟩
  have H1 := Lib.hid (fun W => inq_any p.tos 0 255 W)
  have H2 := Lib.hid (fun W => inq_any p.pro 0 255 W)
  have H3 := Lib.hid (fun W => inq_any p.ttl 1 255 W)
  have H4 := Lib.hid (fun W => inq_any p.id 0 1048575 W)
  generalize decide (0 ≤ p.tos ∧ p.tos ≤ 255) = b1 at H1 hR
  generalize decide (0 ≤ p.pro ∧ p.pro ≤ 255) = b2 at H2 hR
  generalize decide (1 ≤ p.ttl ∧ p.ttl ≤ 255) = b3 at H3 hR
  generalize decide (0 ≤ p.id ∧ p.id ≤ 1048575) = b4 at H4 hR
  go_enter Try.func9, Try.ntmps9
  go_upto_region 1 with (fail)
  generalize w.alloc (.cells (ipC p).toArray 26) = W at HB ⊢
  obtain ⟨n0, n1, n2, n3⟩ := HN.out _ HB.out
  obtain ⟨r1, r2, c5⟩ := HK.out _ HB.out
  clear ho HK HN
  generalize p.f6 = b5 at r1 hR
  generalize p.t6 = b6 at r2 hR
  have HR := Lib.hid hR; clear hR
  cases b1 with
  | false =>
    go_wp2_with (first
      | (go_at_call 21; (with_reducible refine (H1.out _).mono ?_); rintro x w1 ⟨rfl, rfl⟩))
    go_ret
    exact ⟨ret_bool (by rw [HR.out]; first | rfl | simp), HB.out.2⟩
  | true =>
    cases b2 with
    | false =>
      go_wp2_with (first
        | (go_at_call 21; (with_reducible refine (H1.out _).mono ?_); rintro x w1 ⟨rfl, rfl⟩)
        | (go_at_call 21; (with_reducible refine (H2.out _).mono ?_); rintro x w1 ⟨rfl, rfl⟩))
      go_ret
      exact ⟨ret_bool (by rw [HR.out]; first | rfl | simp), HB.out.2⟩
    | true =>
      cases b3 with
      | false =>
        go_wp2_with (first
          | (go_at_call 21; (with_reducible refine (H1.out _).mono ?_); rintro x w1 ⟨rfl, rfl⟩)
          | (go_at_call 21; (with_reducible refine (H2.out _).mono ?_); rintro x w1 ⟨rfl, rfl⟩)
          | (go_at_call 21; (with_reducible refine (H3.out _).mono ?_); rintro x w1 ⟨rfl, rfl⟩))
        go_ret
        exact ⟨ret_bool (by rw [HR.out]; first | rfl | simp), HB.out.2⟩
      | true =>
        cases b4 with
        | false =>
          go_wp2_with (first
            | (go_at_call 21; (with_reducible refine (H1.out _).mono ?_); rintro x w1 ⟨rfl, rfl⟩)
            | (go_at_call 21; (with_reducible refine (H2.out _).mono ?_); rintro x w1 ⟨rfl, rfl⟩)
            | (go_at_call 21; (with_reducible refine (H3.out _).mono ?_); rintro x w1 ⟨rfl, rfl⟩)
            | (go_at_call 21; (with_reducible refine (H4.out _).mono ?_); rintro x w1 ⟨rfl, rfl⟩))
          go_ret
          exact ⟨ret_bool (by rw [HR.out]; first | rfl | simp), HB.out.2⟩
        | true =>
          cases b5 with
          | false =>
            go_wp2_with (first
              | (go_at_call 21; (with_reducible refine (H1.out _).mono ?_); rintro x w1 ⟨rfl, rfl⟩)
              | (go_at_call 21; (with_reducible refine (H2.out _).mono ?_); rintro x w1 ⟨rfl, rfl⟩)
              | (go_at_call 21; (with_reducible refine (H3.out _).mono ?_); rintro x w1 ⟨rfl, rfl⟩)
              | (go_at_call 21; (with_reducible refine (H4.out _).mono ?_); rintro x w1 ⟨rfl, rfl⟩))
            go_ret
            exact ⟨ret_bool (by rw [HR.out]; first | rfl | simp), HB.out.2⟩
          | true =>
            cases b6 with
            | false =>
              go_wp2_with (first
                | (go_at_call 21; (with_reducible refine (H1.out _).mono ?_); rintro x w1 ⟨rfl, rfl⟩)
                | (go_at_call 21; (with_reducible refine (H2.out _).mono ?_); rintro x w1 ⟨rfl, rfl⟩)
                | (go_at_call 21; (with_reducible refine (H3.out _).mono ?_); rintro x w1 ⟨rfl, rfl⟩)
                | (go_at_call 21; (with_reducible refine (H4.out _).mono ?_); rintro x w1 ⟨rfl, rfl⟩))
              go_ret
              exact ⟨ret_bool (by rw [HR.out]; first | rfl | simp), HB.out.2⟩
            | true =>
              go_wp2_with (first
                | (go_at_call 21; (with_reducible refine (H1.out _).mono ?_); rintro x w1 ⟨rfl, rfl⟩)
                | (go_at_call 21; (with_reducible refine (H2.out _).mono ?_); rintro x w1 ⟨rfl, rfl⟩)
                | (go_at_call 21; (with_reducible refine (H3.out _).mono ?_); rintro x w1 ⟨rfl, rfl⟩)
                | (go_at_call 21; (with_reducible refine (H4.out _).mono ?_); rintro x w1 ⟨rfl, rfl⟩))
              go_ret
              exact ⟨ret_bool (by rw [HR.out]; first | rfl | simp), HB.out.2⟩

theorem write6_bad (p : Ip) (ho : p.ok) (hl : p.bd.length ≤ 1000000) (hg : p.good6 = false) (w : World) : Calls Try.prog 8 #[.agg (ipC p).toArray] w fun x w' => x = .returned (.tuple #[.string ⟨#[]⟩, .int .i64 2]) ∧ Below w.heap.size w w' := by
  have HB := Lib.hid (QB.made w p)
  have HG := Lib.hid (fun W => good6_any p ho hl W)
  rw [hg] at HG
  go_enter Try.func8, Try.ntmps8
  go_upto_region 1 with (fail)
  generalize w.alloc (.cells (ipC p).toArray 26) = W at HB ⊢
  have hr := HB.out.1.row ho
  go_wp2_with (go_at_call 9; (with_reducible refine (HG.out _).mono ?_); rintro x w1 ⟨rfl, hb1⟩; have H1 := Lib.hid (HB.out.keep hb1); clear hb1)
  go_ret2
  exact ⟨rfl, H1.out.2⟩
end Go.Proofs.Ytkmnnkklbgnfpaa

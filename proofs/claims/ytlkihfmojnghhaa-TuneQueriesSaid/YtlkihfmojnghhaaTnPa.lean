/-
  Layer 14: the program's small answers.
-/
import Derived.Test.YtlkihfmojnghhaaTnQ
import Derived.Test.YtlkihfmojnghhaaMg42
import Derived.Test.YtlkihfmojnghhaaCodP
namespace Go.Proofs.Ytlkihfmojnghhaa
open Go.RowKit
set_option linter.unusedVariables false
set_option linter.unusedSimpArgs false
attribute [local go_sem ↓] ld_addr st_addr bld_addr ld_tk st_tk bld_tk ld_tn st_tn bld_tn
attribute [local go_sem] ldr_addr str_addr ldr_tk str_tk ldr_tn str_tn row?_drewN_eq row?_drew_eq

def usualN : TN := ⟨2, 1250, 100, 10, 2⟩
set_option maxRecDepth 100000 in
theorem twithin_any (n a b : Int) (w : World) : Calls Try.prog 27 #[.int .i64 n, .int .i64 a, .int .i64 b] w fun x w' => x = .returned (.bool (decide (a ≤ n ∧ n ≤ b))) ∧ w = w' := by
  obtain ⟨R, hR⟩ : ∃ R, R = decide (a ≤ n ∧ n ≤ b) := ⟨_, rfl⟩
  rw [← hR]
  by_cases h1 : a ≤ n
  · by_cases h2 : n ≤ b
    · have HE : Hid (R = true) := Lib.hid (by rw [hR]; exact decide_eq_true ⟨h1, h2⟩)
      clear hR
      go_enter Try.func27, Try.ntmps27
      go_wp2
      go_ret
      exact ⟨ret_boolF HE.out.symm, rfl⟩
    · have HE : Hid (R = false) := Lib.hid (by rw [hR]; exact decide_eq_false (fun h => h2 h.2))
      clear hR
      go_enter Try.func27, Try.ntmps27
      go_wp2
      go_ret
      exact ⟨ret_boolF HE.out.symm, rfl⟩
  · have HE : Hid (R = false) := Lib.hid (by rw [hR]; exact decide_eq_false (fun h => h1 h.1))
    clear hR
    go_enter Try.func27, Try.ntmps27
    go_wp2
    go_ret
    exact ⟨ret_boolF HE.out.symm, rfl⟩
set_option maxRecDepth 100000 in
theorem tclamp_any (n a b : Int) (h : a ≤ b) (w : World) : Calls Try.prog 30 #[.int .i64 n, .int .i64 a, .int .i64 b] w fun x w' => x = .returned (.int .i64 (clampI n a b)) ∧ w = w' := by
  unfold clampI
  by_cases h1 : n < a
  · rw [if_pos h1]
    have g1 : ¬ b < a := by omega
    clear h
    go_enter Try.func30, Try.ntmps30
    go_wp2
    go_ret
    exact ⟨rfl, rfl⟩
  · rw [if_neg h1]
    by_cases h2 : b < n
    · rw [if_pos h2]
      by_cases h3 : a < n
      · go_enter Try.func30, Try.ntmps30
        go_wp2
        go_ret
        exact ⟨rfl, rfl⟩
      · exact absurd h (by omega)
    · rw [if_neg h2]
      by_cases h3 : a < n
      · go_enter Try.func30, Try.ntmps30
        go_wp2
        go_ret
        exact ⟨rfl, rfl⟩
      · obtain rfl : n = a := by omega
        go_enter Try.func30, Try.ntmps30
        go_wp2
        go_ret
        exact ⟨rfl, rfl⟩
set_option maxRecDepth 100000 in
theorem tlatest_any (v6 : Bool) (w : World) : Calls Try.prog 29 #[.bool v6] w fun x w' => x = .returned (.int .i64 (newV v6)) ∧ w = w' := by
  cases v6
  · go_enter Try.func29, Try.ntmps29
    go_wp2
    go_ret
    exact ⟨rfl, rfl⟩
  · go_enter Try.func29, Try.ntmps29
    go_wp2
    go_ret
    exact ⟨rfl, rfl⟩
set_option maxRecDepth 100000 in
theorem ttimes_k (n k : Int) (hk : 0 ≤ k ∧ k ≤ 1000) (w : World) : Calls Try.prog 31 #[.int .i64 n, .int .i64 k] w fun x w' => x = .returned (.int .i64 (clampI n 0 100000 * k)) ∧ w = w' := by
  have HC := Lib.hid (fun W => tclamp_any n 0 100000 (by omega) W)
  have hc : 0 ≤ clampI n 0 100000 ∧ clampI n 0 100000 ≤ 100000 := by unfold clampI; repeat' split
                                                                     all_goals omega
  generalize clampI n 0 100000 = c at *
  have hm : 0 ≤ c * k ∧ c * k ≤ 100000000 := ⟨Int.mul_nonneg hc.1 hk.1, Int.le_trans (Int.mul_le_mul_of_nonneg_right hc.2 hk.1) (by omega)⟩
  have hw : IntKind.i64.wrap (c * k) = c * k := by simp only [IntKind.wrap_i64]; omega
  clear hk hc hm
  go_enter Try.func31, Try.ntmps31
  go_wp2_with (go_at_call 30; (with_reducible refine (HC.out _).mono ?_); rintro x w1 ⟨rfl, rfl⟩)
  go_ret
  exact ⟨rfl, rfl⟩
set_option maxRecDepth 100000 in
theorem trounded_any (n : Int) (hn : 0 ≤ n ∧ n ≤ 8388608) (w : World) : Calls Try.prog 46 #[.int .i64 n, .int .i64 100] w fun x w' => x = .returned (.int .i64 ((n + 99) / 100)) ∧ w = w' := by
  have t1 : n.tdiv 100 = n / 100 := Int.tdiv_eq_ediv_of_nonneg hn.1
  have t2 : n.tmod 100 = n % 100 := Int.tmod_eq_emod_of_nonneg hn.1
  have w1 : IntKind.i64.wrap (n / 100) = n / 100 := by simp only [IntKind.wrap_i64]; omega
  have w2 : IntKind.i64.wrap (n % 100) = n % 100 := by simp only [IntKind.wrap_i64]; omega
  have w3 : IntKind.i64.wrap (n / 100 + 1) = n / 100 + 1 := by simp only [IntKind.wrap_i64]; omega
  by_cases h : 0 < n % 100
  · have e : (n + 99) / 100 = n / 100 + 1 := by omega
    rw [e]
    clear e hn
    generalize n / 100 = q at *
    generalize n % 100 = r at *
    go_enter Try.func46, Try.ntmps46
    go_wp2
    go_ret
    exact ⟨rfl, rfl⟩
  · have e : (n + 99) / 100 = n / 100 := by omega
    rw [e]
    clear e hn
    generalize n / 100 = q at *
    generalize n % 100 = r at *
    go_enter Try.func46, Try.ntmps46
    go_wp2
    go_ret
    exact ⟨rfl, rfl⟩
set_option maxRecDepth 100000 in
theorem tusual_any (w : World) : Calls Try.prog 28 #[] w fun x w' => x = .returned (.agg (tnC usualN).toArray) ∧ Below w.heap.size w w' := by
  have H0 := Lib.hid (ObjAt.made w #[.int .i64 0, .int .i64 0, .int .i64 0, .int .i64 0, .int .i64 0] 23)
  have HB := Lib.hid (bbox w (.cells #[.int .i64 0, .int .i64 0, .int .i64 0, .int .i64 0, .int .i64 0] 23))
  have hbl : ∀ w0, (aggBuild 23 #[(0, .int .i64 2), (1, .int .i64 1250), (2, .int .i64 100), (3, .int .i64 10), (4, .int .i64 2)]).run Try.prog w0 = .ok (.agg (tnC usualN).toArray) w0 := fun w0 => bld_run _ _ _ (by kernel_rfl) _
  have hf : free? (w.alloc (.cells #[.int .i64 0, .int .i64 0, .int .i64 0, .int .i64 0, .int .i64 0] 23)) w.heap.size 0 5 = true := fmade w #[.int .i64 0, .int .i64 0, .int .i64 0, .int .i64 0, .int .i64 0] 23 5 rfl
  have hfk := fok_tn usualN
  go_enter Try.func28, Try.ntmps28
  go_upto_region 1 with (fail)
  generalize w.alloc (.cells _ _) = W at H0 HB hf ⊢
  go_wp2
  obtain ⟨q1, q2⟩ := resDone H0.out HB.out (Nat.le_refl _) (tnC usualN) rfl
  exact bodyPost_ret (results_cell Try.results28 rfl (ld_some q1 (ldr_tn _ _ _))) rfl ⟨rfl, q2⟩

set_option maxRecDepth 100000 in
set_option maxHeartbeats 2000000 in
theorem tgood_any (t : TN) (w : World) : Calls Try.prog 7 #[.agg (tnC t).toArray] w fun x w' => x = .returned (.bool (gdN t)) ∧ Below w.heap.size w w' := by
  obtain ⟨rob, every, resp, last, cnt⟩ := t
  have H0 := Lib.hid (ObjAt.made w (tnC ⟨rob, every, resp, last, cnt⟩).toArray 23)
  have HB := Lib.hid (bbox w (.cells (tnC ⟨rob, every, resp, last, cnt⟩).toArray 23))
  obtain ⟨R, hR⟩ : ∃ R, R = gdN ⟨rob, every, resp, last, cnt⟩ := ⟨_, rfl⟩
  rw [← hR]
  have HR : Hid (R = true ↔ (1 ≤ rob ∧ rob ≤ 7 ∧ 1 ≤ cnt ∧ cnt ≤ 7 ∧ 1 ≤ every ∧ every ≤ 317440 ∧ 1 ≤ resp ∧ resp ≤ 31744 ∧ 1 ≤ last ∧ last ≤ 31744 ∧ resp ≤ every)) := Lib.hid (by rw [hR]; exact gdN_iff)
  clear hR
  have HW0 := Lib.hid (fun W => twithin_any rob 1 7 W)
  have HW1 := Lib.hid (fun W => twithin_any cnt 1 7 W)
  have HW2 := Lib.hid (fun W => twithin_any every 1 317440 W)
  have HW3 := Lib.hid (fun W => twithin_any resp 1 31744 W)
  have HW4 := Lib.hid (fun W => twithin_any last 1 31744 W)
  by_cases h0 : ¬ (1 ≤ rob ∧ rob ≤ 7)
  · have HE : Hid (R = false) := Lib.hid (by cases R with | false => rfl | true => (exfalso; have := HR.out.1 rfl; omega))
    rw [decide_eq_false h0] at HW0
    clear HR h0
    go_enter Try.func7, Try.ntmps7
    go_upto_region 1 with (fail)
    generalize w.alloc (.cells _ _) = W at H0 HB ⊢
    obtain ⟨c0, c1, c2, c3, c4⟩ := tn_c H0.out
    simp only at c0 c1 c2 c3 c4
    go_wp2_with (first
      | (go_at_call 27; (with_reducible refine (HW0.out _).mono ?_); rintro x w1 ⟨rfl, rfl⟩)
      | (go_at_call 27; (with_reducible refine (HW1.out _).mono ?_); rintro x w1 ⟨rfl, rfl⟩)
      | (go_at_call 27; (with_reducible refine (HW2.out _).mono ?_); rintro x w1 ⟨rfl, rfl⟩)
      | (go_at_call 27; (with_reducible refine (HW3.out _).mono ?_); rintro x w1 ⟨rfl, rfl⟩)
      | (go_at_call 27; (with_reducible refine (HW4.out _).mono ?_); rintro x w1 ⟨rfl, rfl⟩))
    go_ret
    exact ⟨ret_boolF (HE.out.symm), HB.out⟩
  replace h0 := Decidable.of_not_not h0
  rw [decide_eq_true h0] at HW0
  by_cases h1 : ¬ (1 ≤ cnt ∧ cnt ≤ 7)
  · have HE : Hid (R = false) := Lib.hid (by cases R with | false => rfl | true => (exfalso; have := HR.out.1 rfl; omega))
    rw [decide_eq_false h1] at HW1
    clear HR h0 h1
    go_enter Try.func7, Try.ntmps7
    go_upto_region 1 with (fail)
    generalize w.alloc (.cells _ _) = W at H0 HB ⊢
    obtain ⟨c0, c1, c2, c3, c4⟩ := tn_c H0.out
    simp only at c0 c1 c2 c3 c4
    go_wp2_with (first
      | (go_at_call 27; (with_reducible refine (HW0.out _).mono ?_); rintro x w1 ⟨rfl, rfl⟩)
      | (go_at_call 27; (with_reducible refine (HW1.out _).mono ?_); rintro x w1 ⟨rfl, rfl⟩)
      | (go_at_call 27; (with_reducible refine (HW2.out _).mono ?_); rintro x w1 ⟨rfl, rfl⟩)
      | (go_at_call 27; (with_reducible refine (HW3.out _).mono ?_); rintro x w1 ⟨rfl, rfl⟩)
      | (go_at_call 27; (with_reducible refine (HW4.out _).mono ?_); rintro x w1 ⟨rfl, rfl⟩))
    go_ret
    exact ⟨ret_boolF (HE.out.symm), HB.out⟩
  replace h1 := Decidable.of_not_not h1
  rw [decide_eq_true h1] at HW1
  by_cases h2 : ¬ (1 ≤ every ∧ every ≤ 317440)
  · have HE : Hid (R = false) := Lib.hid (by cases R with | false => rfl | true => (exfalso; have := HR.out.1 rfl; omega))
    rw [decide_eq_false h2] at HW2
    clear HR h0 h1 h2
    go_enter Try.func7, Try.ntmps7
    go_upto_region 1 with (fail)
    generalize w.alloc (.cells _ _) = W at H0 HB ⊢
    obtain ⟨c0, c1, c2, c3, c4⟩ := tn_c H0.out
    simp only at c0 c1 c2 c3 c4
    go_wp2_with (first
      | (go_at_call 27; (with_reducible refine (HW0.out _).mono ?_); rintro x w1 ⟨rfl, rfl⟩)
      | (go_at_call 27; (with_reducible refine (HW1.out _).mono ?_); rintro x w1 ⟨rfl, rfl⟩)
      | (go_at_call 27; (with_reducible refine (HW2.out _).mono ?_); rintro x w1 ⟨rfl, rfl⟩)
      | (go_at_call 27; (with_reducible refine (HW3.out _).mono ?_); rintro x w1 ⟨rfl, rfl⟩)
      | (go_at_call 27; (with_reducible refine (HW4.out _).mono ?_); rintro x w1 ⟨rfl, rfl⟩))
    go_ret
    exact ⟨ret_boolF (HE.out.symm), HB.out⟩
  replace h2 := Decidable.of_not_not h2
  rw [decide_eq_true h2] at HW2
  by_cases h3 : ¬ (1 ≤ resp ∧ resp ≤ 31744)
  · have HE : Hid (R = false) := Lib.hid (by cases R with | false => rfl | true => (exfalso; have := HR.out.1 rfl; omega))
    rw [decide_eq_false h3] at HW3
    clear HR h0 h1 h2 h3
    go_enter Try.func7, Try.ntmps7
    go_upto_region 1 with (fail)
    generalize w.alloc (.cells _ _) = W at H0 HB ⊢
    obtain ⟨c0, c1, c2, c3, c4⟩ := tn_c H0.out
    simp only at c0 c1 c2 c3 c4
    go_wp2_with (first
      | (go_at_call 27; (with_reducible refine (HW0.out _).mono ?_); rintro x w1 ⟨rfl, rfl⟩)
      | (go_at_call 27; (with_reducible refine (HW1.out _).mono ?_); rintro x w1 ⟨rfl, rfl⟩)
      | (go_at_call 27; (with_reducible refine (HW2.out _).mono ?_); rintro x w1 ⟨rfl, rfl⟩)
      | (go_at_call 27; (with_reducible refine (HW3.out _).mono ?_); rintro x w1 ⟨rfl, rfl⟩)
      | (go_at_call 27; (with_reducible refine (HW4.out _).mono ?_); rintro x w1 ⟨rfl, rfl⟩))
    go_ret
    exact ⟨ret_boolF (HE.out.symm), HB.out⟩
  replace h3 := Decidable.of_not_not h3
  rw [decide_eq_true h3] at HW3
  by_cases h4 : ¬ (1 ≤ last ∧ last ≤ 31744)
  · have HE : Hid (R = false) := Lib.hid (by cases R with | false => rfl | true => (exfalso; have := HR.out.1 rfl; omega))
    rw [decide_eq_false h4] at HW4
    clear HR h0 h1 h2 h3 h4
    go_enter Try.func7, Try.ntmps7
    go_upto_region 1 with (fail)
    generalize w.alloc (.cells _ _) = W at H0 HB ⊢
    obtain ⟨c0, c1, c2, c3, c4⟩ := tn_c H0.out
    simp only at c0 c1 c2 c3 c4
    go_wp2_with (first
      | (go_at_call 27; (with_reducible refine (HW0.out _).mono ?_); rintro x w1 ⟨rfl, rfl⟩)
      | (go_at_call 27; (with_reducible refine (HW1.out _).mono ?_); rintro x w1 ⟨rfl, rfl⟩)
      | (go_at_call 27; (with_reducible refine (HW2.out _).mono ?_); rintro x w1 ⟨rfl, rfl⟩)
      | (go_at_call 27; (with_reducible refine (HW3.out _).mono ?_); rintro x w1 ⟨rfl, rfl⟩)
      | (go_at_call 27; (with_reducible refine (HW4.out _).mono ?_); rintro x w1 ⟨rfl, rfl⟩))
    go_ret
    exact ⟨ret_boolF (HE.out.symm), HB.out⟩
  replace h4 := Decidable.of_not_not h4
  rw [decide_eq_true h4] at HW4
  by_cases h5 : resp ≤ every
  · have HE : Hid (R = true) := Lib.hid (HR.out.2 (by omega))
    clear HR h0 h1 h2 h3 h4
    go_enter Try.func7, Try.ntmps7
    go_upto_region 1 with (fail)
    generalize w.alloc (.cells _ _) = W at H0 HB ⊢
    obtain ⟨c0, c1, c2, c3, c4⟩ := tn_c H0.out
    simp only at c0 c1 c2 c3 c4
    go_wp2_with (first
      | (go_at_call 27; (with_reducible refine (HW0.out _).mono ?_); rintro x w1 ⟨rfl, rfl⟩)
      | (go_at_call 27; (with_reducible refine (HW1.out _).mono ?_); rintro x w1 ⟨rfl, rfl⟩)
      | (go_at_call 27; (with_reducible refine (HW2.out _).mono ?_); rintro x w1 ⟨rfl, rfl⟩)
      | (go_at_call 27; (with_reducible refine (HW3.out _).mono ?_); rintro x w1 ⟨rfl, rfl⟩)
      | (go_at_call 27; (with_reducible refine (HW4.out _).mono ?_); rintro x w1 ⟨rfl, rfl⟩))
    go_ret
    exact ⟨ret_boolF (HE.out.symm), HB.out⟩
  · have HE : Hid (R = false) := Lib.hid (by cases R with | false => rfl | true => (exfalso; have := HR.out.1 rfl; omega))
    clear HR h0 h1 h2 h3 h4
    go_enter Try.func7, Try.ntmps7
    go_upto_region 1 with (fail)
    generalize w.alloc (.cells _ _) = W at H0 HB ⊢
    obtain ⟨c0, c1, c2, c3, c4⟩ := tn_c H0.out
    simp only at c0 c1 c2 c3 c4
    go_wp2_with (first
      | (go_at_call 27; (with_reducible refine (HW0.out _).mono ?_); rintro x w1 ⟨rfl, rfl⟩)
      | (go_at_call 27; (with_reducible refine (HW1.out _).mono ?_); rintro x w1 ⟨rfl, rfl⟩)
      | (go_at_call 27; (with_reducible refine (HW2.out _).mono ?_); rintro x w1 ⟨rfl, rfl⟩)
      | (go_at_call 27; (with_reducible refine (HW3.out _).mono ?_); rintro x w1 ⟨rfl, rfl⟩)
      | (go_at_call 27; (with_reducible refine (HW4.out _).mono ?_); rintro x w1 ⟨rfl, rfl⟩))
    go_ret
    exact ⟨ret_boolF (by rw [HE.out]; exact decide_eq_false (Int.not_le.2 h5)), HB.out⟩
set_option maxRecDepth 100000 in
theorem tmember_any (t : TN) (hg : gdN t = true) (w : World) : Calls Try.prog 11 #[.agg (tnC t).toArray] w fun x w' => x = .returned (.int .i64 (t.rob * t.every + t.resp)) ∧ Below w.heap.size w w' := by
  obtain ⟨p0, p1⟩ := gdN_prod hg
  obtain ⟨q0, q1⟩ := gdN_fin hg
  have hb := gdN_iff.1 hg
  clear hg
  have H0 := Lib.hid (ObjAt.made w (tnC t).toArray 23)
  have HB := Lib.hid (bbox w (.cells (tnC t).toArray 23))
  have w1 : IntKind.i64.wrap (t.rob * t.every) = t.rob * t.every := by simp only [IntKind.wrap_i64]; omega
  have w2 : IntKind.i64.wrap (t.rob * t.every + t.resp) = t.rob * t.every + t.resp := by simp only [IntKind.wrap_i64]; omega
  go_enter Try.func11, Try.ntmps11
  go_upto_region 1 with (fail)
  generalize w.alloc (.cells _ _) = W at H0 HB ⊢
  obtain ⟨c0, c1, c2, c3, c4⟩ := tn_c H0.out
  have r0 := tn_row H0.out
  go_wp2
  go_ret
  exact ⟨rfl, HB.out⟩
set_option maxRecDepth 100000 in
theorem tother_any (t : TN) (hg : gdN t = true) (w : World) : Calls Try.prog 13 #[.agg (tnC t).toArray] w fun x w' => x = .returned (.int .i64 (t.rob * t.every + t.resp / 2)) ∧ Below w.heap.size w w' := by
  obtain ⟨p0, p1⟩ := gdN_prod hg
  obtain ⟨q0, q1⟩ := gdN_fin hg
  have hb := gdN_iff.1 hg
  clear hg
  have H0 := Lib.hid (ObjAt.made w (tnC t).toArray 23)
  have HB := Lib.hid (bbox w (.cells (tnC t).toArray 23))
  have w1 : IntKind.i64.wrap (t.rob * t.every) = t.rob * t.every := by simp only [IntKind.wrap_i64]; omega
  have w2 : IntKind.i64.wrap (t.rob * t.every + t.resp / 2) = t.rob * t.every + t.resp / 2 := by simp only [IntKind.wrap_i64]; omega
  have w3 : IntKind.i64.wrap (t.resp / 2) = t.resp / 2 := by simp only [IntKind.wrap_i64]; omega
  go_enter Try.func13, Try.ntmps13
  go_upto_region 1 with (fail)
  generalize w.alloc (.cells _ _) = W at H0 HB ⊢
  obtain ⟨c0, c1, c2, c3, c4⟩ := tn_c H0.out
  have r0 := tn_row H0.out
  go_wp2
  go_ret
  exact ⟨rfl, HB.out⟩
set_option maxRecDepth 100000 in
theorem tfinal_any (t : TN) (hg : gdN t = true) (w : World) : Calls Try.prog 17 #[.agg (tnC t).toArray] w fun x w' => x = .returned (.int .i64 (t.last * t.cnt)) ∧ Below w.heap.size w w' := by
  obtain ⟨p0, p1⟩ := gdN_prod hg
  obtain ⟨q0, q1⟩ := gdN_fin hg
  have hb := gdN_iff.1 hg
  clear hg
  have H0 := Lib.hid (ObjAt.made w (tnC t).toArray 23)
  have HB := Lib.hid (bbox w (.cells (tnC t).toArray 23))
  have w1 : IntKind.i64.wrap (t.last * t.cnt) = t.last * t.cnt := by simp only [IntKind.wrap_i64]; omega
  go_enter Try.func17, Try.ntmps17
  go_upto_region 1 with (fail)
  generalize w.alloc (.cells _ _) = W at H0 HB ⊢
  obtain ⟨c0, c1, c2, c3, c4⟩ := tn_c H0.out
  have r0 := tn_row H0.out
  go_wp2
  go_ret
  exact ⟨rfl, HB.out⟩
set_option maxRecDepth 100000 in
theorem tolder_any (t : TN) (hg : gdN t = true) (w : World) : Calls Try.prog 15 #[.agg (tnC t).toArray] w fun x w' => x = .returned (.int .i64 (t.rob * t.every + t.resp)) ∧ Below w.heap.size w w' := by
  obtain ⟨p0, p1⟩ := gdN_prod hg
  obtain ⟨q0, q1⟩ := gdN_fin hg
  have hb := gdN_iff.1 hg
  have HM := Lib.hid (fun W => tmember_any t hg W)
  clear hg
  have H0 := Lib.hid (ObjAt.made w (tnC t).toArray 23)
  have HB := Lib.hid (bbox w (.cells (tnC t).toArray 23))
  go_enter Try.func15, Try.ntmps15
  go_upto_region 1 with (fail)
  generalize w.alloc (.cells _ _) = W at H0 HB ⊢
  obtain ⟨c0, c1, c2, c3, c4⟩ := tn_c H0.out
  have r0 := tn_row H0.out
  go_wp2_with (go_at_call 11; (with_reducible refine (HM.out _).mono ?_); rintro x w1 ⟨rfl, hb1⟩; replace HB := Lib.hid (bstep HB.out hb1))
  go_ret
  exact ⟨rfl, HB.out⟩
set_option maxRecDepth 100000 in
theorem tstartup_any (t : TN) (hg : gdN t = true) (w : World) : Calls Try.prog 10 #[.agg (tnC t).toArray] w fun x w' => x = .returned (.tuple #[.int .i64 (gapN t), .int .i64 t.rob]) ∧ Below w.heap.size w w' := by
  have hb := gdN_iff.1 hg
  clear hg
  have H0 := Lib.hid (ObjAt.made w (tnC t).toArray 23)
  have HB := Lib.hid (bbox w (.cells (tnC t).toArray 23))
  have w3 : IntKind.i64.wrap (t.every / 4) = t.every / 4 := by simp only [IntKind.wrap_i64]; omega
  have w4 : t.every.tdiv 4 = t.every / 4 := Int.tdiv_eq_ediv_of_nonneg (by omega)
  unfold gapN
  have h4 : 0 ≤ t.every / 4 := by omega
  clear hb
  generalize t.every / 4 = q at *
  by_cases h : 1 < q
  · rw [if_pos h]
    have g1 : ¬ q < 1 := by omega
    go_enter Try.func10, Try.ntmps10
    go_upto_region 1 with (fail)
    generalize w.alloc (.cells _ _) = W at H0 HB ⊢
    obtain ⟨c0, c1, c2, c3, c4⟩ := tn_c H0.out
    go_region
    go_wp2
    all_goals (go_ret2; exact ⟨rfl, bdrewN HB.out 1⟩)
  · rw [if_neg h]
    have g0 : q < 1 ∨ q = 1 := by omega
    clear h h4
    rcases g0 with g0 | rfl
    all_goals (
      go_enter Try.func10, Try.ntmps10
      go_upto_region 1 with (fail)
      generalize w.alloc (.cells _ _) = W at H0 HB ⊢
      obtain ⟨c0, c1, c2, c3, c4⟩ := tn_c H0.out
      go_region
      go_wp2
      all_goals (go_ret2; exact ⟨rfl, bdrewN HB.out 1⟩))
set_option maxRecDepth 100000 in
theorem tresp_any (q : TK) (us ur : Value) (w : World) (ho : adOk q.g) (hb : 0 ≤ q.resp ∧ q.resp ≤ 8388608) : Calls Try.prog 25 #[.agg (tkC q us ur).toArray] w fun x w' => x = .returned (.int .i64 (respQ q)) ∧ Below w.heap.size w w' := by
  have H0 := Lib.hid (TkAt.made w q us ur ho)
  have HB := Lib.hid (bbox w (.cells (tkC q us ur).toArray 35))
  have HU := Lib.hid (fun W => trounded_any q.resp hb W)
  obtain ⟨R, hR⟩ : ∃ R, R = respQ q := ⟨_, rfl⟩
  rw [← hR]
  have HE : Hid (R = if q.v6 then (q.resp + 99) / 100 else if q.ver = 1 then 100 else q.resp) := Lib.hid (by
    rw [hR]; unfold respQ
    by_cases h : q.resp ≤ 0
    · rw [if_pos h, show (q.resp + 99) / 100 = 0 by omega]
    · rw [if_neg h])
  clear hR ho hb
  have HC := Lib.hid (fun W (h : TkAt W w.heap.size q us ur) => (⟨h.v6, h.ver, h.resp⟩ : W.cell? ⟨w.heap.size, 0, none⟩ = some (.bool q.v6) ∧ W.cell? ⟨w.heap.size, 1, none⟩ = some (.int .i64 q.ver) ∧ W.cell? ⟨w.heap.size, 3, none⟩ = some (.int .i64 q.resp)))
  generalize (q.resp + 99) / 100 = U at *
  generalize tkC q us ur = L at *
  have HW : Hid (∀ W, TkAt W w.heap.size q us ur → True) := Lib.hid fun _ _ => trivial
  generalize hv : q.v6 = v at *
  generalize hn : q.ver = n at *
  generalize hr : q.resp = rr at *
  clear hv hn hr HW
  go_enter Try.func25, Try.ntmps25
  go_upto_region 1 with (fail)
  generalize w.alloc (.cells _ _) = W at H0 HB ⊢
  obtain ⟨c0, c1, c2⟩ := HC.out _ H0.out
  clear HC H0
  cases v with
  | true =>
    replace HE : Hid (R = U) := Lib.hid (by simpa using HE.out)
    go_wp2_with (go_at_call 46; (with_reducible refine (HU.out _).mono ?_); rintro x w1 ⟨rfl, rfl⟩)
    go_ret
    exact ⟨ret_intF HE.out.symm, HB.out⟩
  | false =>
    by_cases h : n = 1
    · replace HE : Hid (R = 100) := Lib.hid (by simpa [h] using HE.out)
      subst h
      go_wp2
      go_ret
      exact ⟨ret_intF HE.out.symm, HB.out⟩
    · replace HE : Hid (R = rr) := Lib.hid (by simpa [h] using HE.out)
      have hd : (n == 1) = false := by simpa using h
      go_wp2
      go_ret
      exact ⟨ret_intF HE.out.symm, HB.out⟩
end Go.Proofs.Ytlkihfmojnghhaa

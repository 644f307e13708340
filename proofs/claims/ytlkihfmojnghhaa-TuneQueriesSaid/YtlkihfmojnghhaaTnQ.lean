/-
  Layer 14: the document's query.
-/
import Derived.Test.YtlkihfmojnghhaaTnS
namespace Go.Proofs.Ytlkihfmojnghhaa
open Go.RowKit
set_option linter.unusedVariables false
set_option linter.unusedSimpArgs false
attribute [local go_sem ↓] ld_addr st_addr bld_addr ld_tk st_tk bld_tk ld_tn st_tn bld_tn
attribute [local go_sem] ldr_addr str_addr ldr_tk str_tk ldr_tn str_tn row?_drewN_eq row?_drew_eq

set_option maxRecDepth 100000 in
set_option maxHeartbeats 4000000 in
theorem rqry14_false1 (t : TN) (n : Int) (hg : gdN t = true) (hv : verQ false n = 1) (w : World) : Calls Try.prog 23 #[.agg (tnC t).toArray, .bool false, .int .i64 n] w fun x w' => x = .returned (.agg (tkC (queryT t false n) (.slice none 0 0) (.slice none 0 0)).toArray) ∧ Below w.heap.size w w' := by
  obtain ⟨tr, te, m, tl, tc⟩ := t
  have hb := gdN_iff.1 hg
  simp only at hb
  have hb2 : 1 ≤ m ∧ m ≤ 31744 ∧ 0 ≤ te := by omega
  have H0 := Lib.hid (Bx.made w (tnC ⟨tr, te, m, tl, tc⟩).toArray 23 #[.bool false, .int .i64 0, .int .i64 0, .int .i64 0, .bool false, .int .u8 0, .int .u8 0, .int .u8 0, .int .u8 0, .int .u8 0, .int .u8 0, .int .u8 0, .int .u8 0, .int .u8 0, .int .u8 0, .int .u8 0, .int .u8 0, .int .u8 0, .int .u8 0, .int .u8 0, .int .u8 0, .bool false, .int .i64 0, .int .i64 0, .slice none 0 0, .slice none 0 0] 35)
  obtain ⟨P, hP⟩ : ∃ P : Int, P = 0 := ⟨_, rfl⟩
  obtain ⟨Y, hY⟩ : ∃ Y : Int, Y = (valN (codeN (te / 10) 16 255) 16 : Int) := ⟨_, rfl⟩
  obtain ⟨K, hK⟩ : ∃ K, K = queryT ⟨tr, te, m, tl, tc⟩ false n := ⟨_, rfl⟩
  rw [← hK]
  have HE : Hid (K = ⟨false, 1, 1, P, (false, z16), false, 0, 0, [], []⟩) := Lib.hid (by rw [hK, hP]; unfold queryT; rw [hv]; simp [queryV, newV])
  have HW : Hid (∀ W, Calls Try.prog 39 #[.int .i64 n, .int .i64 1, .int .i64 3] W fun x w' => x = .returned (.int .i64 1) ∧ W = w') := Lib.hid fun W => by
    have := rclamp_any n 1 3 W
    rwa [show clampI n 1 3 = 1 from (show clampI n 1 3 = verQ false n from rfl).trans hv] at this
  have hwm : IntKind.i64.wrap (100 * m) = 100 * m := by simp only [IntKind.wrap_i64]; omega
  have hbA := fun w0 => bld_vq false w0
  have hbT := fun w0 => bld_tkq false 1 w0
  have hfk : fok (tkC ⟨false, 1, 1, 0, (false, z16), false, 0, 0, [], []⟩ (.slice none 0 0) (.slice none 0 0)).toArray 26 = true := fok_tk (z16_ok _) rfl rfl
  have hfe : fok (tkC ⟨false, 1, 1, P, (false, z16), false, 0, 0, [], []⟩ (.slice none 0 0) (.slice none 0 0)).toArray 26 = true := fok_tk (z16_ok _) rfl rfl
  have hfm := fun W => fmade W #[.bool false, .int .i64 0, .int .i64 0, .int .i64 0, .bool false, .int .u8 0, .int .u8 0, .int .u8 0, .int .u8 0, .int .u8 0, .int .u8 0, .int .u8 0, .int .u8 0, .int .u8 0, .int .u8 0, .int .u8 0, .int .u8 0, .int .u8 0, .int .u8 0, .int .u8 0, .int .u8 0, .bool false, .int .i64 0, .int .i64 0, .slice none 0 0, .slice none 0 0] 35 26 rfl
  subst hP
  clear hY hK hg hb hv
  go_enter Try.func23, Try.ntmps23
  go_upto_region 1 with (fail)
  generalize (w.alloc _).alloc _ = W at H0 ⊢
  go_upto_region 6 with (go_at_call 39; (with_reducible refine (HW.out _).mono ?_); rintro x w1 ⟨rfl, rfl⟩)
  have H1 := Lib.hid (Qr.start H0.out ⟨false, 1, 1, 0, (false, z16), false, 0, 0, [], []⟩ (z16_ok _))
  generalize aggW (W.alloc _) W.heap.size _ = W1 at H1 ⊢
  generalize W.heap.size = mm at H1 ⊢
  clear H0 hbA hbT hfm
  obtain ⟨c0, c1, c2, d3, d6, d7, f3, f6, f7, rt, fr⟩ := H1.out.facts
  simp only at c0 c1 c2 d3 d6 d7
  go_upto_region 14 with (fail)
  have hP0 : (0 : Int) = 0 := rfl
  go_wp2
  obtain ⟨q1, q2⟩ := resDone H1.out.res H1.out.blw (by omega) (tkC ⟨false, 1, 1, 0, (false, z16), false, 0, 0, [], []⟩ (.slice none 0 0) (.slice none 0 0)) (by rw [tkC_length (z16_ok _)]; rfl)
  exact bodyPost_ret (results_cell Try.results23 rfl (ld_some q1 (ldr_tk _ _ _))) rfl ⟨by rw [HE.out], q2⟩
set_option maxRecDepth 100000 in
set_option maxHeartbeats 4000000 in
theorem rqry14_false2 (t : TN) (n : Int) (hg : gdN t = true) (hv : verQ false n = 2) (w : World) : Calls Try.prog 23 #[.agg (tnC t).toArray, .bool false, .int .i64 n] w fun x w' => x = .returned (.agg (tkC (queryT t false n) (.slice none 0 0) (.slice none 0 0)).toArray) ∧ Below w.heap.size w w' := by
  obtain ⟨tr, te, m, tl, tc⟩ := t
  have hb := gdN_iff.1 hg
  simp only at hb
  have hb2 : 1 ≤ m ∧ m ≤ 31744 ∧ 0 ≤ te := by omega
  have H0 := Lib.hid (Bx.made w (tnC ⟨tr, te, m, tl, tc⟩).toArray 23 #[.bool false, .int .i64 0, .int .i64 0, .int .i64 0, .bool false, .int .u8 0, .int .u8 0, .int .u8 0, .int .u8 0, .int .u8 0, .int .u8 0, .int .u8 0, .int .u8 0, .int .u8 0, .int .u8 0, .int .u8 0, .int .u8 0, .int .u8 0, .int .u8 0, .int .u8 0, .int .u8 0, .bool false, .int .i64 0, .int .i64 0, .slice none 0 0, .slice none 0 0] 35)
  obtain ⟨P, hP⟩ : ∃ P : Int, P = min m 255 := ⟨_, rfl⟩
  obtain ⟨Y, hY⟩ : ∃ Y : Int, Y = (valN (codeN (te / 10) 16 255) 16 : Int) := ⟨_, rfl⟩
  obtain ⟨K, hK⟩ : ∃ K, K = queryT ⟨tr, te, m, tl, tc⟩ false n := ⟨_, rfl⟩
  rw [← hK]
  have HE : Hid (K = ⟨false, 2, 1, P, (false, z16), false, 0, 0, [], []⟩) := Lib.hid (by rw [hK, hP]; unfold queryT; rw [hv]; simp [queryV, newV])
  have HW : Hid (∀ W, Calls Try.prog 39 #[.int .i64 n, .int .i64 1, .int .i64 3] W fun x w' => x = .returned (.int .i64 2) ∧ W = w') := Lib.hid fun W => by
    have := rclamp_any n 1 3 W
    rwa [show clampI n 1 3 = 2 from (show clampI n 1 3 = verQ false n from rfl).trans hv] at this
  have HV : Hid (∀ W, Calls Try.prog 39 #[.int .i64 m, .int .i64 1, .int .i64 255] W fun x w' => x = .returned (.int .i64 P) ∧ W = w') := Lib.hid fun W => by
    have := rclamp_any m 1 255 W
    rwa [show clampI m 1 255 = P by rw [hP]; unfold clampI; rw [if_neg (by omega)]; split <;> omega] at this
  have hwm : IntKind.i64.wrap (100 * m) = 100 * m := by simp only [IntKind.wrap_i64]; omega
  have hbA := fun w0 => bld_vq false w0
  have hbT := fun w0 => bld_tkq false 2 w0
  have hfk : fok (tkC ⟨false, 2, 1, 0, (false, z16), false, 0, 0, [], []⟩ (.slice none 0 0) (.slice none 0 0)).toArray 26 = true := fok_tk (z16_ok _) rfl rfl
  have hfe : fok (tkC ⟨false, 2, 1, P, (false, z16), false, 0, 0, [], []⟩ (.slice none 0 0) (.slice none 0 0)).toArray 26 = true := fok_tk (z16_ok _) rfl rfl
  have hfm := fun W => fmade W #[.bool false, .int .i64 0, .int .i64 0, .int .i64 0, .bool false, .int .u8 0, .int .u8 0, .int .u8 0, .int .u8 0, .int .u8 0, .int .u8 0, .int .u8 0, .int .u8 0, .int .u8 0, .int .u8 0, .int .u8 0, .int .u8 0, .int .u8 0, .int .u8 0, .int .u8 0, .int .u8 0, .bool false, .int .i64 0, .int .i64 0, .slice none 0 0, .slice none 0 0] 35 26 rfl
  clear hP hY hK hg hb hv
  go_enter Try.func23, Try.ntmps23
  go_upto_region 1 with (fail)
  generalize (w.alloc _).alloc _ = W at H0 ⊢
  go_upto_region 6 with (go_at_call 39; (with_reducible refine (HW.out _).mono ?_); rintro x w1 ⟨rfl, rfl⟩)
  have H1 := Lib.hid (Qr.start H0.out ⟨false, 2, 1, 0, (false, z16), false, 0, 0, [], []⟩ (z16_ok _))
  generalize aggW (W.alloc _) W.heap.size _ = W1 at H1 ⊢
  generalize W.heap.size = mm at H1 ⊢
  clear H0 hbA hbT hfm
  obtain ⟨c0, c1, c2, d3, d6, d7, f3, f6, f7, rt, fr⟩ := H1.out.facts
  simp only at c0 c1 c2 d3 d6 d7
  go_upto_region 14 with (first
    | (go_at_call 39; (with_reducible refine (HV.out _).mono ?_); rintro x w1 ⟨rfl, rfl⟩))
  have H2 := Lib.hid (H1.out.set 3 (.int .i64 P) (e' := ⟨false, 2, 1, P, (false, z16), false, 0, 0, [], []⟩) rfl (z16_ok _))
  generalize World.setCell _ _ _ = W2 at H2 ⊢
  clear c0 c1 c2 d3 d6 d7 f3 f6 f7 rt fr
  obtain ⟨c0, c1, c2, d3, d6, d7, f3, f6, f7, rt, fr⟩ := H2.out.facts
  simp only at c0 c1 c2 d3 d6 d7
  go_wp2
  obtain ⟨q1, q2⟩ := resDone H2.out.res H2.out.blw (by omega) (tkC ⟨false, 2, 1, P, (false, z16), false, 0, 0, [], []⟩ (.slice none 0 0) (.slice none 0 0)) (by rw [tkC_length (z16_ok _)]; rfl)
  exact bodyPost_ret (results_cell Try.results23 rfl (ld_some q1 (ldr_tk _ _ _))) rfl ⟨by rw [HE.out], q2⟩
set_option maxRecDepth 100000 in
set_option maxHeartbeats 4000000 in
theorem rqry14_false3 (t : TN) (n : Int) (hg : gdN t = true) (hv : verQ false n = 3) (w : World) : Calls Try.prog 23 #[.agg (tnC t).toArray, .bool false, .int .i64 n] w fun x w' => x = .returned (.agg (tkC (queryT t false n) (.slice none 0 0) (.slice none 0 0)).toArray) ∧ Below w.heap.size w w' := by
  obtain ⟨tr, te, m, tl, tc⟩ := t
  have hb := gdN_iff.1 hg
  simp only at hb
  have hb2 : 1 ≤ m ∧ m ≤ 31744 ∧ 0 ≤ te := by omega
  have H0 := Lib.hid (Bx.made w (tnC ⟨tr, te, m, tl, tc⟩).toArray 23 #[.bool false, .int .i64 0, .int .i64 0, .int .i64 0, .bool false, .int .u8 0, .int .u8 0, .int .u8 0, .int .u8 0, .int .u8 0, .int .u8 0, .int .u8 0, .int .u8 0, .int .u8 0, .int .u8 0, .int .u8 0, .int .u8 0, .int .u8 0, .int .u8 0, .int .u8 0, .int .u8 0, .bool false, .int .i64 0, .int .i64 0, .slice none 0 0, .slice none 0 0] 35)
  obtain ⟨P, hP⟩ : ∃ P : Int, P = (valN (codeN m 16 255) 16 : Int) := ⟨_, rfl⟩
  obtain ⟨Y, hY⟩ : ∃ Y : Int, Y = (valN (codeN (te / 10) 16 255) 16 : Int) := ⟨_, rfl⟩
  obtain ⟨K, hK⟩ : ∃ K, K = queryT ⟨tr, te, m, tl, tc⟩ false n := ⟨_, rfl⟩
  rw [← hK]
  have HE : Hid (K = ⟨false, 3, 1, P, (false, z16), false, tr, Y, [], []⟩) := Lib.hid (by rw [hK, hP, hY]; unfold queryT; rw [hv]; simp [queryV, newV])
  have HW : Hid (∀ W, Calls Try.prog 39 #[.int .i64 n, .int .i64 1, .int .i64 3] W fun x w' => x = .returned (.int .i64 3) ∧ W = w') := Lib.hid fun W => by
    have := rclamp_any n 1 3 W
    rwa [show clampI n 1 3 = 3 from (show clampI n 1 3 = verQ false n from rfl).trans hv] at this
  have HC8 : Hid (∀ W, Calls Try.prog 43 #[.int .i64 m] W fun x w' => x = .returned (.int .i64 (codeN m 16 255 : Nat)) ∧ W = w') := Lib.hid fun W => rcode8 _ W
  have HV8 : Hid (∀ W, Calls Try.prog 42 #[.int .i64 (codeN m 16 255 : Nat)] W fun x w' => x = .returned (.int .i64 P) ∧ W = w') := Lib.hid fun W => by
    have := rvalue8 (codeN m 16 255 : Nat) W
    rwa [clamp_in _ _ (codeN_le _ _ _), ← hP] at this
  generalize codeN m 16 255 = C at HC8 HV8
  have HCE : Hid (∀ W, Calls Try.prog 43 #[.int .i64 (te / 10)] W fun x w' => x = .returned (.int .i64 (codeN (te / 10) 16 255 : Nat)) ∧ W = w') := Lib.hid fun W => rcode8 _ W
  have HVE : Hid (∀ W, Calls Try.prog 42 #[.int .i64 (codeN (te / 10) 16 255 : Nat)] W fun x w' => x = .returned (.int .i64 Y) ∧ W = w') := Lib.hid fun W => by
    have := rvalue8 (codeN (te / 10) 16 255 : Nat) W
    rwa [clamp_in _ _ (codeN_le _ _ _), ← hY] at this
  generalize codeN (te / 10) 16 255 = CE at HCE HVE
  have w3 : IntKind.i64.wrap (te / 10) = te / 10 := by simp only [IntKind.wrap_i64]; omega
  have w4 : te.tdiv 10 = te / 10 := Int.tdiv_eq_ediv_of_nonneg (by omega)
  generalize te / 10 = te10 at *
  have hwm : IntKind.i64.wrap (100 * m) = 100 * m := by simp only [IntKind.wrap_i64]; omega
  have hbA := fun w0 => bld_vq false w0
  have hbT := fun w0 => bld_tkq false 3 w0
  have hfk : fok (tkC ⟨false, 3, 1, 0, (false, z16), false, 0, 0, [], []⟩ (.slice none 0 0) (.slice none 0 0)).toArray 26 = true := fok_tk (z16_ok _) rfl rfl
  have hfe : fok (tkC ⟨false, 3, 1, P, (false, z16), false, tr, Y, [], []⟩ (.slice none 0 0) (.slice none 0 0)).toArray 26 = true := fok_tk (z16_ok _) rfl rfl
  have hfm := fun W => fmade W #[.bool false, .int .i64 0, .int .i64 0, .int .i64 0, .bool false, .int .u8 0, .int .u8 0, .int .u8 0, .int .u8 0, .int .u8 0, .int .u8 0, .int .u8 0, .int .u8 0, .int .u8 0, .int .u8 0, .int .u8 0, .int .u8 0, .int .u8 0, .int .u8 0, .int .u8 0, .int .u8 0, .bool false, .int .i64 0, .int .i64 0, .slice none 0 0, .slice none 0 0] 35 26 rfl
  clear hP hY hK hg hb hv
  go_enter Try.func23, Try.ntmps23
  go_upto_region 1 with (fail)
  generalize (w.alloc _).alloc _ = W at H0 ⊢
  go_upto_region 6 with (go_at_call 39; (with_reducible refine (HW.out _).mono ?_); rintro x w1 ⟨rfl, rfl⟩)
  have H1 := Lib.hid (Qr.start H0.out ⟨false, 3, 1, 0, (false, z16), false, 0, 0, [], []⟩ (z16_ok _))
  generalize aggW (W.alloc _) W.heap.size _ = W1 at H1 ⊢
  generalize W.heap.size = mm at H1 ⊢
  clear H0 hbA hbT hfm
  obtain ⟨c0, c1, c2, d3, d6, d7, f3, f6, f7, rt, fr⟩ := H1.out.facts
  simp only at c0 c1 c2 d3 d6 d7
  go_upto_region 14 with (first
    | (go_at_call 43; (with_reducible refine (HC8.out _).mono ?_); rintro x w1 ⟨rfl, rfl⟩)
    | (go_at_call 42; (with_reducible refine (HV8.out _).mono ?_); rintro x w1 ⟨rfl, rfl⟩))
  have H2 := Lib.hid (H1.out.set 3 (.int .i64 P) (e' := ⟨false, 3, 1, P, (false, z16), false, 0, 0, [], []⟩) rfl (z16_ok _))
  generalize World.setCell _ _ _ = W2 at H2 ⊢
  clear c0 c1 c2 d3 d6 d7 f3 f6 f7 rt fr
  obtain ⟨c0, c1, c2, d3, d6, d7, f3, f6, f7, rt, fr⟩ := H2.out.facts
  simp only at c0 c1 c2 d3 d6 d7
  have H3 := Lib.hid ((H2.out.set 22 (.int .i64 tr) (e' := ⟨false, 3, 1, P, (false, z16), false, tr, 0, [], []⟩) rfl (z16_ok _)).set 23 (.int .i64 Y) (e' := ⟨false, 3, 1, P, (false, z16), false, tr, Y, [], []⟩) rfl (z16_ok _))
  have HD := Lib.hid (H2.out.drew)
  go_upto_region 15 with (fail)
  go_region_with (first
    | (go_at_call 43; (with_reducible refine (HCE.out _).mono ?_); rintro x w1 ⟨rfl, rfl⟩)
    | (go_at_call 42; (with_reducible refine (HVE.out _).mono ?_); rintro x w1 ⟨rfl, rfl⟩))
  all_goals (
    have H4 := Lib.hid H3.out.drew
    generalize World.drew _ = W4 at H4 ⊢
    clear H3 H2 HD c0 c1 c2 d3 d6 d7 f3 f6 f7 rt fr
    obtain ⟨c0, c1, c2, d3, d6, d7, f3, f6, f7, rt, fr⟩ := H4.out.facts
    simp only at c0 c1 c2 d3 d6 d7
    go_wp2
    obtain ⟨q1, q2⟩ := resDone H4.out.res H4.out.blw (by omega) (tkC ⟨false, 3, 1, P, (false, z16), false, tr, Y, [], []⟩ (.slice none 0 0) (.slice none 0 0)) (by rw [tkC_length (z16_ok _)]; rfl)
    exact bodyPost_ret (results_cell Try.results23 rfl (ld_some q1 (ldr_tk _ _ _))) rfl ⟨by rw [HE.out], q2⟩)
set_option maxRecDepth 100000 in
set_option maxHeartbeats 4000000 in
theorem rqry14_true1 (t : TN) (n : Int) (hg : gdN t = true) (hv : verQ true n = 1) (w : World) : Calls Try.prog 23 #[.agg (tnC t).toArray, .bool true, .int .i64 n] w fun x w' => x = .returned (.agg (tkC (queryT t true n) (.slice none 0 0) (.slice none 0 0)).toArray) ∧ Below w.heap.size w w' := by
  obtain ⟨tr, te, m, tl, tc⟩ := t
  have hb := gdN_iff.1 hg
  simp only at hb
  have hb2 : 1 ≤ m ∧ m ≤ 31744 ∧ 0 ≤ te := by omega
  have H0 := Lib.hid (Bx.made w (tnC ⟨tr, te, m, tl, tc⟩).toArray 23 #[.bool false, .int .i64 0, .int .i64 0, .int .i64 0, .bool false, .int .u8 0, .int .u8 0, .int .u8 0, .int .u8 0, .int .u8 0, .int .u8 0, .int .u8 0, .int .u8 0, .int .u8 0, .int .u8 0, .int .u8 0, .int .u8 0, .int .u8 0, .int .u8 0, .int .u8 0, .int .u8 0, .bool false, .int .i64 0, .int .i64 0, .slice none 0 0, .slice none 0 0] 35)
  obtain ⟨P, hP⟩ : ∃ P : Int, P = min (100 * m) 65535 := ⟨_, rfl⟩
  obtain ⟨Y, hY⟩ : ∃ Y : Int, Y = (valN (codeN (te / 10) 16 255) 16 : Int) := ⟨_, rfl⟩
  obtain ⟨K, hK⟩ : ∃ K, K = queryT ⟨tr, te, m, tl, tc⟩ true n := ⟨_, rfl⟩
  rw [← hK]
  have HE : Hid (K = ⟨true, 1, 1, P, (true, z16), false, 0, 0, [], []⟩) := Lib.hid (by rw [hK, hP]; unfold queryT; rw [hv]; simp [queryV, newV])
  have HW : Hid (∀ W, Calls Try.prog 39 #[.int .i64 n, .int .i64 1, .int .i64 2] W fun x w' => x = .returned (.int .i64 1) ∧ W = w') := Lib.hid fun W => by
    have := rclamp_any n 1 2 W
    rwa [show clampI n 1 2 = 1 from (show clampI n 1 2 = verQ true n from rfl).trans hv] at this
  have HV : Hid (∀ W, Calls Try.prog 39 #[.int .i64 (100 * m), .int .i64 0, .int .i64 65535] W fun x w' => x = .returned (.int .i64 P) ∧ W = w') := Lib.hid fun W => by
    have := rclamp_any (100 * m) 0 65535 W
    rwa [show clampI (100 * m) 0 65535 = P by rw [hP]; unfold clampI; rw [if_neg (by omega)]; split <;> omega] at this
  have hwm : IntKind.i64.wrap (100 * m) = 100 * m := by simp only [IntKind.wrap_i64]; omega
  have hbA := fun w0 => bld_vq true w0
  have hbT := fun w0 => bld_tkq true 1 w0
  have hfk : fok (tkC ⟨true, 1, 1, 0, (true, z16), false, 0, 0, [], []⟩ (.slice none 0 0) (.slice none 0 0)).toArray 26 = true := fok_tk (z16_ok _) rfl rfl
  have hfe : fok (tkC ⟨true, 1, 1, P, (true, z16), false, 0, 0, [], []⟩ (.slice none 0 0) (.slice none 0 0)).toArray 26 = true := fok_tk (z16_ok _) rfl rfl
  have hfm := fun W => fmade W #[.bool false, .int .i64 0, .int .i64 0, .int .i64 0, .bool false, .int .u8 0, .int .u8 0, .int .u8 0, .int .u8 0, .int .u8 0, .int .u8 0, .int .u8 0, .int .u8 0, .int .u8 0, .int .u8 0, .int .u8 0, .int .u8 0, .int .u8 0, .int .u8 0, .int .u8 0, .int .u8 0, .bool false, .int .i64 0, .int .i64 0, .slice none 0 0, .slice none 0 0] 35 26 rfl
  clear hP hY hK hg hb hv
  go_enter Try.func23, Try.ntmps23
  go_upto_region 1 with (fail)
  generalize (w.alloc _).alloc _ = W at H0 ⊢
  go_upto_region 6 with (go_at_call 39; (with_reducible refine (HW.out _).mono ?_); rintro x w1 ⟨rfl, rfl⟩)
  have H1 := Lib.hid (Qr.start H0.out ⟨true, 1, 1, 0, (true, z16), false, 0, 0, [], []⟩ (z16_ok _))
  generalize aggW (W.alloc _) W.heap.size _ = W1 at H1 ⊢
  generalize W.heap.size = mm at H1 ⊢
  clear H0 hbA hbT hfm
  obtain ⟨c0, c1, c2, d3, d6, d7, f3, f6, f7, rt, fr⟩ := H1.out.facts
  simp only at c0 c1 c2 d3 d6 d7
  go_upto_region 14 with (first
    | (go_at_call 39; (with_reducible refine (HV.out _).mono ?_); rintro x w1 ⟨rfl, rfl⟩))
  have H2 := Lib.hid (H1.out.set 3 (.int .i64 P) (e' := ⟨true, 1, 1, P, (true, z16), false, 0, 0, [], []⟩) rfl (z16_ok _))
  generalize World.setCell _ _ _ = W2 at H2 ⊢
  clear c0 c1 c2 d3 d6 d7 f3 f6 f7 rt fr
  obtain ⟨c0, c1, c2, d3, d6, d7, f3, f6, f7, rt, fr⟩ := H2.out.facts
  simp only at c0 c1 c2 d3 d6 d7
  go_wp2
  obtain ⟨q1, q2⟩ := resDone H2.out.res H2.out.blw (by omega) (tkC ⟨true, 1, 1, P, (true, z16), false, 0, 0, [], []⟩ (.slice none 0 0) (.slice none 0 0)) (by rw [tkC_length (z16_ok _)]; rfl)
  exact bodyPost_ret (results_cell Try.results23 rfl (ld_some q1 (ldr_tk _ _ _))) rfl ⟨by rw [HE.out], q2⟩
set_option maxRecDepth 100000 in
set_option maxHeartbeats 4000000 in
theorem rqry14_true2 (t : TN) (n : Int) (hg : gdN t = true) (hv : verQ true n = 2) (w : World) : Calls Try.prog 23 #[.agg (tnC t).toArray, .bool true, .int .i64 n] w fun x w' => x = .returned (.agg (tkC (queryT t true n) (.slice none 0 0) (.slice none 0 0)).toArray) ∧ Below w.heap.size w w' := by
  obtain ⟨tr, te, m, tl, tc⟩ := t
  have hb := gdN_iff.1 hg
  simp only at hb
  have hb2 : 1 ≤ m ∧ m ≤ 31744 ∧ 0 ≤ te := by omega
  have H0 := Lib.hid (Bx.made w (tnC ⟨tr, te, m, tl, tc⟩).toArray 23 #[.bool false, .int .i64 0, .int .i64 0, .int .i64 0, .bool false, .int .u8 0, .int .u8 0, .int .u8 0, .int .u8 0, .int .u8 0, .int .u8 0, .int .u8 0, .int .u8 0, .int .u8 0, .int .u8 0, .int .u8 0, .int .u8 0, .int .u8 0, .int .u8 0, .int .u8 0, .int .u8 0, .bool false, .int .i64 0, .int .i64 0, .slice none 0 0, .slice none 0 0] 35)
  obtain ⟨P, hP⟩ : ∃ P : Int, P = (valN (codeN (100 * m) 4096 65535) 4096 : Int) := ⟨_, rfl⟩
  obtain ⟨Y, hY⟩ : ∃ Y : Int, Y = (valN (codeN (te / 10) 16 255) 16 : Int) := ⟨_, rfl⟩
  obtain ⟨K, hK⟩ : ∃ K, K = queryT ⟨tr, te, m, tl, tc⟩ true n := ⟨_, rfl⟩
  rw [← hK]
  have HE : Hid (K = ⟨true, 2, 1, P, (true, z16), false, tr, Y, [], []⟩) := Lib.hid (by rw [hK, hP, hY]; unfold queryT; rw [hv]; simp [queryV, newV])
  have HW : Hid (∀ W, Calls Try.prog 39 #[.int .i64 n, .int .i64 1, .int .i64 2] W fun x w' => x = .returned (.int .i64 2) ∧ W = w') := Lib.hid fun W => by
    have := rclamp_any n 1 2 W
    rwa [show clampI n 1 2 = 2 from (show clampI n 1 2 = verQ true n from rfl).trans hv] at this
  have HC16 : Hid (∀ W, Calls Try.prog 41 #[.int .i64 (100 * m)] W fun x w' => x = .returned (.int .i64 (codeN (100 * m) 4096 65535 : Nat)) ∧ W = w') := Lib.hid fun W => rcode16 _ W
  have HV16 : Hid (∀ W, Calls Try.prog 40 #[.int .i64 (codeN (100 * m) 4096 65535 : Nat)] W fun x w' => x = .returned (.int .i64 P) ∧ W = w') := Lib.hid fun W => by
    have := rvalue16 (codeN (100 * m) 4096 65535 : Nat) W
    rwa [clamp_in _ _ (codeN_le _ _ _), ← hP] at this
  generalize codeN (100 * m) 4096 65535 = C at HC16 HV16
  have HCE : Hid (∀ W, Calls Try.prog 43 #[.int .i64 (te / 10)] W fun x w' => x = .returned (.int .i64 (codeN (te / 10) 16 255 : Nat)) ∧ W = w') := Lib.hid fun W => rcode8 _ W
  have HVE : Hid (∀ W, Calls Try.prog 42 #[.int .i64 (codeN (te / 10) 16 255 : Nat)] W fun x w' => x = .returned (.int .i64 Y) ∧ W = w') := Lib.hid fun W => by
    have := rvalue8 (codeN (te / 10) 16 255 : Nat) W
    rwa [clamp_in _ _ (codeN_le _ _ _), ← hY] at this
  generalize codeN (te / 10) 16 255 = CE at HCE HVE
  have w3 : IntKind.i64.wrap (te / 10) = te / 10 := by simp only [IntKind.wrap_i64]; omega
  have w4 : te.tdiv 10 = te / 10 := Int.tdiv_eq_ediv_of_nonneg (by omega)
  generalize te / 10 = te10 at *
  have hwm : IntKind.i64.wrap (100 * m) = 100 * m := by simp only [IntKind.wrap_i64]; omega
  have hbA := fun w0 => bld_vq true w0
  have hbT := fun w0 => bld_tkq true 2 w0
  have hfk : fok (tkC ⟨true, 2, 1, 0, (true, z16), false, 0, 0, [], []⟩ (.slice none 0 0) (.slice none 0 0)).toArray 26 = true := fok_tk (z16_ok _) rfl rfl
  have hfe : fok (tkC ⟨true, 2, 1, P, (true, z16), false, tr, Y, [], []⟩ (.slice none 0 0) (.slice none 0 0)).toArray 26 = true := fok_tk (z16_ok _) rfl rfl
  have hfm := fun W => fmade W #[.bool false, .int .i64 0, .int .i64 0, .int .i64 0, .bool false, .int .u8 0, .int .u8 0, .int .u8 0, .int .u8 0, .int .u8 0, .int .u8 0, .int .u8 0, .int .u8 0, .int .u8 0, .int .u8 0, .int .u8 0, .int .u8 0, .int .u8 0, .int .u8 0, .int .u8 0, .int .u8 0, .bool false, .int .i64 0, .int .i64 0, .slice none 0 0, .slice none 0 0] 35 26 rfl
  clear hP hY hK hg hb hv
  go_enter Try.func23, Try.ntmps23
  go_upto_region 1 with (fail)
  generalize (w.alloc _).alloc _ = W at H0 ⊢
  go_upto_region 6 with (go_at_call 39; (with_reducible refine (HW.out _).mono ?_); rintro x w1 ⟨rfl, rfl⟩)
  have H1 := Lib.hid (Qr.start H0.out ⟨true, 2, 1, 0, (true, z16), false, 0, 0, [], []⟩ (z16_ok _))
  generalize aggW (W.alloc _) W.heap.size _ = W1 at H1 ⊢
  generalize W.heap.size = mm at H1 ⊢
  clear H0 hbA hbT hfm
  obtain ⟨c0, c1, c2, d3, d6, d7, f3, f6, f7, rt, fr⟩ := H1.out.facts
  simp only at c0 c1 c2 d3 d6 d7
  go_upto_region 14 with (first
    | (go_at_call 41; (with_reducible refine (HC16.out _).mono ?_); rintro x w1 ⟨rfl, rfl⟩)
    | (go_at_call 40; (with_reducible refine (HV16.out _).mono ?_); rintro x w1 ⟨rfl, rfl⟩))
  have H2 := Lib.hid (H1.out.set 3 (.int .i64 P) (e' := ⟨true, 2, 1, P, (true, z16), false, 0, 0, [], []⟩) rfl (z16_ok _))
  generalize World.setCell _ _ _ = W2 at H2 ⊢
  clear c0 c1 c2 d3 d6 d7 f3 f6 f7 rt fr
  obtain ⟨c0, c1, c2, d3, d6, d7, f3, f6, f7, rt, fr⟩ := H2.out.facts
  simp only at c0 c1 c2 d3 d6 d7
  have H3 := Lib.hid ((H2.out.set 22 (.int .i64 tr) (e' := ⟨true, 2, 1, P, (true, z16), false, tr, 0, [], []⟩) rfl (z16_ok _)).set 23 (.int .i64 Y) (e' := ⟨true, 2, 1, P, (true, z16), false, tr, Y, [], []⟩) rfl (z16_ok _))
  have HD := Lib.hid (H2.out.drew)
  go_upto_region 15 with (fail)
  go_region_with (first
    | (go_at_call 43; (with_reducible refine (HCE.out _).mono ?_); rintro x w1 ⟨rfl, rfl⟩)
    | (go_at_call 42; (with_reducible refine (HVE.out _).mono ?_); rintro x w1 ⟨rfl, rfl⟩))
  all_goals (
    have H4 := Lib.hid H3.out.drew
    generalize World.drew _ = W4 at H4 ⊢
    clear H3 H2 HD c0 c1 c2 d3 d6 d7 f3 f6 f7 rt fr
    obtain ⟨c0, c1, c2, d3, d6, d7, f3, f6, f7, rt, fr⟩ := H4.out.facts
    simp only at c0 c1 c2 d3 d6 d7
    go_wp2
    obtain ⟨q1, q2⟩ := resDone H4.out.res H4.out.blw (by omega) (tkC ⟨true, 2, 1, P, (true, z16), false, tr, Y, [], []⟩ (.slice none 0 0) (.slice none 0 0)) (by rw [tkC_length (z16_ok _)]; rfl)
    exact bodyPost_ret (results_cell Try.results23 rfl (ld_some q1 (ldr_tk _ _ _))) rfl ⟨by rw [HE.out], q2⟩)
theorem rqry14_any (t : TN) (v6 : Bool) (n : Int) (hg : gdN t = true) (w : World) : Calls Try.prog 23 #[.agg (tnC t).toArray, .bool v6, .int .i64 n] w fun x w' => x = .returned (.agg (tkC (queryT t v6 n) (.slice none 0 0) (.slice none 0 0)).toArray) ∧ Below w.heap.size w w' := by
  obtain ⟨h1, h2⟩ := verQ_in v6 n
  cases v6 with
  | false =>
    have h3 : verQ false n = 1 ∨ verQ false n = 2 ∨ verQ false n = 3 := by have : newV false = 3 := rfl; omega
    rcases h3 with h | h | h
    · exact rqry14_false1 t n hg h w
    · exact rqry14_false2 t n hg h w
    · exact rqry14_false3 t n hg h w
  | true =>
    have h3 : verQ true n = 1 ∨ verQ true n = 2 := by have : newV true = 2 := rfl; omega
    rcases h3 with h | h
    · exact rqry14_true1 t n hg h w
    · exact rqry14_true2 t n hg h w
end Go.Proofs.Ytlkihfmojnghhaa

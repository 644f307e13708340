/-
  The document's own Good of layer 9: full queries.
-/
import Derived.Test.YtacnhelnpngkgaaMdG
import Derived.Deep.QuietTactic
import Derived.BigQuiet
namespace Go.Proofs.Ytacnhelnpngkgaa
open Go.RowKit
set_option linter.unusedVariables false
set_option linter.unusedSimpArgs false
attribute [local go_sem ↓] ld_addr st_addr bld_addr
attribute [local go_sem] ldr_addr str_addr row?_drewN_eq row?_drew_eq

theorem exact9 (resp every : Int) : Hid (∃ c16 v16 c8 v8 : Nat, Hid (∀ W, Calls Try.prog 32 #[.int .i64 resp] W fun x w' => x = .returned (.int .i64 c16) ∧ w' = W) ∧ Hid (∀ W, Calls Try.prog 31 #[.int .i64 c16] W fun x w' => x = .returned (.int .i64 v16) ∧ w' = W)
    ∧ Hid (∀ W, Calls Try.prog 34 #[.int .i64 every] W fun x w' => x = .returned (.int .i64 c8) ∧ w' = W) ∧ Hid (∀ W, Calls Try.prog 33 #[.int .i64 c8] W fun x w' => x = .returned (.int .i64 v8) ∧ w' = W)
    ∧ exactN resp 4096 65535 = decide (0 ≤ resp ∧ (v16 : Int) = resp) ∧ exactN every 16 255 = decide (0 ≤ every ∧ (v8 : Int) = every)) := Lib.hid (by
  have hle := codeN_le resp 4096 65535
  have hle2 := codeN_le every 16 255
  refine ⟨codeN resp 4096 65535, valN (codeN resp 4096 65535) 4096, codeN every 16 255, valN (codeN every 16 255) 16, Lib.hid fun W => (rcode16 resp W).mono fun _ _ h => ⟨h.1, h.2.symm⟩, Lib.hid fun W => ?_, Lib.hid fun W => (rcode8 every W).mono fun _ _ h => ⟨h.1, h.2.symm⟩, Lib.hid fun W => ?_, rfl, rfl⟩
  · have := rvalue16 (codeN resp 4096 65535) W
    rw [show clampN ((codeN resp 4096 65535 : Nat) : Int) 65535 = codeN resp 4096 65535 by unfold clampN; split <;> omega] at this
    exact this.mono fun _ _ h => ⟨h.1, h.2.symm⟩
  · have := rvalue8 (codeN every 16 255) W
    rw [show clampN ((codeN every 16 255 : Nat) : Int) 255 = codeN every 16 255 by unfold clampN; split <;> omega] at this
    exact this.mono fun _ _ h => ⟨h.1, h.2.symm⟩)


set_option maxRecDepth 100000 in
set_option maxHeartbeats 4000000 in
theorem rgood9_21 (t : TK) (us ur : Value) (w : World) (ho : t.ok) (hs : Ads w us t.src) (hr : Rcs w ur t.rcs) (hv6 : t.v6 = true) (hve : t.ver = 2) (hki : t.kind = 1) (R : Bool) (hR : R = good9 t) :
    Calls Try.prog 22 #[.agg (tkC t us ur).toArray] w fun x w' => x = .returned (.bool R) ∧ Below w.heap.size w w' := by
  have H0 := Lib.hid (GD9.made w t us ur ho.1)
  have HGD : Hid (∀ W, GD9 w W t us ur → GC9 w W t us ur) := Lib.hid fun W h => h.cells
  have HG := Lib.hid (fun W => rgroup9_any t.g ho.1 W)
  have HZ := Lib.hid (fun W => rzero9_any t.g ho.1 W)
  have HS := Lib.hid (fun W (h : Below w.heap.size w W) => rsources9_any us t.src W (hs.below h))
  have HX := exact9 t.resp t.every
  obtain ⟨pu, cu, e1, hu1, hu2⟩ := hs.len
  obtain ⟨pr, cr, e2, hr1, hr2⟩ := hr.len
  have hm1 : t.src.length ≤ maxLen := by omega
  have hm2 : t.rcs.length ≤ maxLen := by omega
  unfold maxLen at hm1 hm2
  clear hs hr hu1 hu2 hr1 hr2 ho
  obtain ⟨v6, ver, kind, resp, g, quiet, rob, every, src, rcs⟩ := t
  simp only at *
  subst e1 e2 hv6 hve hki
  have H0 := Lib.hid H0.out
  go_enter Try.func22, Try.ntmps22
  go_upto_region 1 with (fail)
  generalize w.alloc (.cells (tkC _ _ _).toArray 28) = W at H0 ⊢
  obtain ⟨c0, c1, c2, c3, c4, c5, c6, c7, c8, c9, c10⟩ := HGD.out _ H0.out
  by_cases lrcs : rcs.length = 0
  · have trcs : decide ((0 : Int) < (rcs.length : Int)) = false := by simp [lrcs]
    have vrcs : decide (0 < rcs.length) = false := by simp [lrcs]
    obtain ⟨zz, hzz⟩ : ∃ b, zer9 g = b := ⟨_, rfl⟩
    obtain ⟨gg, hgg⟩ : ∃ b, grp9 g = b := ⟨_, rfl⟩
    rw [hzz] at HZ
    rw [hgg] at HG
    cases zz with
    | true =>
      by_cases r0 : resp < 0
      · have tr : decide (resp < 0) = true := decide_eq_true r0
        clear HX
        have HR := Lib.hid (show R = false by rw [hR]; simp [good9, lrcs, hzz, r0])
        clear hR
        go_wp2_with (go_at_call 30; (with_reducible refine (HZ.out _).mono ?_); rintro x w1 ⟨rfl, hb1⟩; have H1 := Lib.hid (H0.out.below hb1); clear hb1 c0 c1 c2 c3 c4 c5 c6 c7 c8 c9 c10; obtain ⟨c0, c1, c2, c3, c4, c5, c6, c7, c8, c9, c10⟩ := HGD.out _ H1.out)
        go_ret
        exact ⟨ret_bool8 (by rw [HR.out]), H1.out.2⟩
      have tr : decide (resp < 0) = false := decide_eq_false r0
      obtain ⟨m16, v16, m8, v8, HC16, HV16, HC8, HV8, hx1, hx2⟩ := HX.out
      obtain ⟨x3, hx3⟩ : ∃ b, srcs9 src = b := ⟨_, rfl⟩
      have HV : R = (decide ((v16 : Int) = resp) && ((decide (0 ≤ every ∧ (v8 : Int) = every)) && (decide (0 ≤ rob ∧ rob < 8) && (x3 && (decide (true = false) || decide (src.length = 0)))))) := by
        have hx1' : exactN resp 4096 65535 = decide ((v16 : Int) = resp) := by rw [hx1]; simp; omega
        rw [hR]; simp [good9, lrcs, hzz, r0, hx1', hx2, hx3]
      have HS2 := Lib.hid (fun W (h : Below w.heap.size w W) => HS.out W h)
      rw [hx3] at HS2
      clear hR hx1 hx2 hx3 HS r0 HX
      go_upto_region 24 with (go_at_call 30; (with_reducible refine (HZ.out _).mono ?_); rintro x w1 ⟨rfl, hb1⟩; have H1 := Lib.hid (H0.out.below hb1); clear hb1 c0 c1 c2 c3 c4 c5 c6 c7 c8 c9 c10; obtain ⟨c0, c1, c2, c3, c4, c5, c6, c7, c8, c9, c10⟩ := HGD.out _ H1.out)
      by_cases e16 : (v16 : Int) = resp
      · have t16 : ((v16 : Int) == resp) = true := by rw [beq_iff_eq]; exact e16
        by_cases e0 : 0 ≤ every
        · have te : decide (0 ≤ every) = true := decide_eq_true e0
          by_cases e8 : (v8 : Int) = every
          · have t8 : ((v8 : Int) == every) = true := by rw [beq_iff_eq]; exact e8
            rw [decide_eq_true e16, decide_eq_true (And.intro e0 e8), Bool.true_and, Bool.true_and] at HV
            clear e16 e8
            by_cases r1 : 0 ≤ rob
            · have tq1 : decide (0 ≤ rob) = true := decide_eq_true r1
              by_cases r8 : rob < 8
              · have tq8 : decide (rob < 8) = true := decide_eq_true r8
                cases x3 with
                | false =>
                  have HR := Lib.hid (show R = false by rw [HV]; simp)
                  clear HV
                  go_quiet (first | (go_at_call 32; exact Calls.quiet_of_same (HC16.out _)) | (go_at_call 31; exact Calls.quiet_of_same (HV16.out _)) | (go_at_call 34; exact Calls.quiet_of_same (HC8.out _)) | (go_at_call 33; exact Calls.quiet_of_same (HV8.out _)))
                  go_wp2_with (first
                    | (go_at_call 28; (with_reducible refine (HS2.out _ (bdrewN H1.out.bl _)).mono ?_); rintro x w4 ⟨rfl, hb4⟩; have H4 := Lib.hid ((H1.out.below (bdrewN (Below.refl _ _) _)).below hb4); clear hb4 c0 c1 c2 c3 c4 c5 c6 c7 c8 c9 c10; obtain ⟨c0, c1, c2, c3, c4, c5, c6, c7, c8, c9, c10⟩ := HGD.out _ H4.out))
                  go_ret
                  exact ⟨ret_bool8 (by rw [HR.out]), H4.out.2⟩
                | true =>
                  by_cases l0 : src.length = 0
                  · have tl : ((src.length : Int) == 0) = true := by rw [beq_iff_eq]; omega
                    have HR := Lib.hid (show R = true by rw [HV]; simp [r1, r8, l0])
                    clear HV
                    clear l0
                    go_quiet (first | (go_at_call 32; exact Calls.quiet_of_same (HC16.out _)) | (go_at_call 31; exact Calls.quiet_of_same (HV16.out _)) | (go_at_call 34; exact Calls.quiet_of_same (HC8.out _)) | (go_at_call 33; exact Calls.quiet_of_same (HV8.out _)))
                    go_wp2_with (first
                      | (go_at_call 28; (with_reducible refine (HS2.out _ (bdrewN H1.out.bl _)).mono ?_); rintro x w4 ⟨rfl, hb4⟩; have H4 := Lib.hid ((H1.out.below (bdrewN (Below.refl _ _) _)).below hb4); clear hb4 c0 c1 c2 c3 c4 c5 c6 c7 c8 c9 c10; obtain ⟨c0, c1, c2, c3, c4, c5, c6, c7, c8, c9, c10⟩ := HGD.out _ H4.out)
                      | (go_at_call 30; (with_reducible refine (HZ.out _).mono ?_); rintro x w5 ⟨rfl, hb5⟩; have H5 := Lib.hid (H4.out.below hb5); clear hb5 c0 c1 c2 c3 c4 c5 c6 c7 c8 c9 c10; obtain ⟨c0, c1, c2, c3, c4, c5, c6, c7, c8, c9, c10⟩ := HGD.out _ H5.out))
                    go_ret
                    exact ⟨ret_bool8 (by rw [HR.out]), H5.out.2⟩
                  · have tl : ((src.length : Int) == 0) = false := by rw [beq_eq_false_iff_ne]; omega
                    have HR := Lib.hid (show R = false by rw [HV]; simp [r1, r8, l0])
                    clear HV
                    clear l0
                    go_quiet (first | (go_at_call 32; exact Calls.quiet_of_same (HC16.out _)) | (go_at_call 31; exact Calls.quiet_of_same (HV16.out _)) | (go_at_call 34; exact Calls.quiet_of_same (HC8.out _)) | (go_at_call 33; exact Calls.quiet_of_same (HV8.out _)))
                    go_wp2_with (first
                      | (go_at_call 28; (with_reducible refine (HS2.out _ (bdrewN H1.out.bl _)).mono ?_); rintro x w4 ⟨rfl, hb4⟩; have H4 := Lib.hid ((H1.out.below (bdrewN (Below.refl _ _) _)).below hb4); clear hb4 c0 c1 c2 c3 c4 c5 c6 c7 c8 c9 c10; obtain ⟨c0, c1, c2, c3, c4, c5, c6, c7, c8, c9, c10⟩ := HGD.out _ H4.out)
                      | (go_at_call 30; (with_reducible refine (HZ.out _).mono ?_); rintro x w5 ⟨rfl, hb5⟩; have H5 := Lib.hid (H4.out.below hb5); clear hb5 c0 c1 c2 c3 c4 c5 c6 c7 c8 c9 c10; obtain ⟨c0, c1, c2, c3, c4, c5, c6, c7, c8, c9, c10⟩ := HGD.out _ H5.out))
                    go_ret
                    exact ⟨ret_bool8 (by rw [HR.out]), H5.out.2⟩
              · have tq8 : decide (rob < 8) = false := decide_eq_false r8
                have HR := Lib.hid (show R = false by rw [HV]; rw [decide_eq_false (show ¬ (0 ≤ rob ∧ rob < 8) by omega)]; rfl)
                clear HV
                go_quiet (first | (go_at_call 32; exact Calls.quiet_of_same (HC16.out _)) | (go_at_call 31; exact Calls.quiet_of_same (HV16.out _)) | (go_at_call 34; exact Calls.quiet_of_same (HC8.out _)) | (go_at_call 33; exact Calls.quiet_of_same (HV8.out _)))
                go_wp2
                go_ret
                exact ⟨ret_bool8 (by rw [HR.out]), bdrewN H1.out.2 _⟩
            · have tq1 : decide (0 ≤ rob) = false := decide_eq_false r1
              have HR := Lib.hid (show R = false by rw [HV]; rw [decide_eq_false (show ¬ (0 ≤ rob ∧ rob < 8) by omega)]; rfl)
              clear HV
              go_quiet (first | (go_at_call 32; exact Calls.quiet_of_same (HC16.out _)) | (go_at_call 31; exact Calls.quiet_of_same (HV16.out _)) | (go_at_call 34; exact Calls.quiet_of_same (HC8.out _)) | (go_at_call 33; exact Calls.quiet_of_same (HV8.out _)))
              go_wp2
              go_ret
              exact ⟨ret_bool8 (by rw [HR.out]), bdrewN H1.out.2 _⟩
          · have t8 : ((v8 : Int) == every) = false := by rw [beq_eq_false_iff_ne]; exact e8
            have HR := Lib.hid (show R = false by rw [HV]; simp [e8])
            clear HV
            clear e16 e8
            go_quiet (first | (go_at_call 32; exact Calls.quiet_of_same (HC16.out _)) | (go_at_call 31; exact Calls.quiet_of_same (HV16.out _)) | (go_at_call 34; exact Calls.quiet_of_same (HC8.out _)) | (go_at_call 33; exact Calls.quiet_of_same (HV8.out _)))
            go_wp2
            go_ret
            exact ⟨ret_bool8 (by rw [HR.out]), bdrewN H1.out.2 _⟩
        · have te : decide (0 ≤ every) = false := decide_eq_false e0
          have HR := Lib.hid (show R = false by rw [HV]; simp [e0])
          clear HV
          clear e16
          go_quiet (first | (go_at_call 32; exact Calls.quiet_of_same (HC16.out _)) | (go_at_call 31; exact Calls.quiet_of_same (HV16.out _)) | (go_at_call 34; exact Calls.quiet_of_same (HC8.out _)) | (go_at_call 33; exact Calls.quiet_of_same (HV8.out _)))
          go_wp2
          go_ret
          exact ⟨ret_bool8 (by rw [HR.out]), bdrewN H1.out.2 _⟩
      · have t16 : ((v16 : Int) == resp) = false := by rw [beq_eq_false_iff_ne]; exact e16
        have HR := Lib.hid (show R = false by rw [HV]; simp [e16])
        clear HV
        clear e16
        go_quiet (first | (go_at_call 32; exact Calls.quiet_of_same (HC16.out _)) | (go_at_call 31; exact Calls.quiet_of_same (HV16.out _)) | (go_at_call 34; exact Calls.quiet_of_same (HC8.out _)) | (go_at_call 33; exact Calls.quiet_of_same (HV8.out _)))
        go_wp2
        go_ret
        exact ⟨ret_bool8 (by rw [HR.out]), bdrewN H1.out.2 _⟩
    | false =>
      cases gg with
      | false =>
        have HR := Lib.hid (show R = false by rw [hR]; simp [good9, lrcs, hzz, hgg])
        clear hR
        go_wp2_with (first | (go_at_call 30; (with_reducible refine (HZ.out _).mono ?_); rintro x w1 ⟨rfl, hb1⟩; have H1 := Lib.hid (H0.out.below hb1); clear hb1 c0 c1 c2 c3 c4 c5 c6 c7 c8 c9 c10; obtain ⟨c0, c1, c2, c3, c4, c5, c6, c7, c8, c9, c10⟩ := HGD.out _ H1.out) | (go_at_call 27; (with_reducible refine (HG.out _).mono ?_); rintro x w2 ⟨rfl, hb2⟩; have H2 := Lib.hid (H1.out.below hb2); clear hb2 c0 c1 c2 c3 c4 c5 c6 c7 c8 c9 c10; obtain ⟨c0, c1, c2, c3, c4, c5, c6, c7, c8, c9, c10⟩ := HGD.out _ H2.out))
        go_ret
        exact ⟨ret_bool8 (by rw [HR.out]), H2.out.2⟩
      | true =>
        by_cases r0 : resp < 0
        · have tr : decide (resp < 0) = true := decide_eq_true r0
          clear HX
          have HR := Lib.hid (show R = false by rw [hR]; simp [good9, lrcs, hzz, hgg, r0])
          clear hR
          go_wp2_with (first | (go_at_call 30; (with_reducible refine (HZ.out _).mono ?_); rintro x w1 ⟨rfl, hb1⟩; have H1 := Lib.hid (H0.out.below hb1); clear hb1 c0 c1 c2 c3 c4 c5 c6 c7 c8 c9 c10; obtain ⟨c0, c1, c2, c3, c4, c5, c6, c7, c8, c9, c10⟩ := HGD.out _ H1.out) | (go_at_call 27; (with_reducible refine (HG.out _).mono ?_); rintro x w2 ⟨rfl, hb2⟩; have H2 := Lib.hid (H1.out.below hb2); clear hb2 c0 c1 c2 c3 c4 c5 c6 c7 c8 c9 c10; obtain ⟨c0, c1, c2, c3, c4, c5, c6, c7, c8, c9, c10⟩ := HGD.out _ H2.out))
          go_ret
          exact ⟨ret_bool8 (by rw [HR.out]), H2.out.2⟩
        have tr : decide (resp < 0) = false := decide_eq_false r0
        obtain ⟨m16, v16, m8, v8, HC16, HV16, HC8, HV8, hx1, hx2⟩ := HX.out
        obtain ⟨x3, hx3⟩ : ∃ b, srcs9 src = b := ⟨_, rfl⟩
        have HV : R = (decide ((v16 : Int) = resp) && ((decide (0 ≤ every ∧ (v8 : Int) = every)) && (decide (0 ≤ rob ∧ rob < 8) && (x3 && (decide (false = false) || decide (src.length = 0)))))) := by
          have hx1' : exactN resp 4096 65535 = decide ((v16 : Int) = resp) := by rw [hx1]; simp; omega
          rw [hR]; simp [good9, lrcs, hzz, hgg, r0, hx1', hx2, hx3]
        have HS2 := Lib.hid (fun W (h : Below w.heap.size w W) => HS.out W h)
        rw [hx3] at HS2
        clear hR hx1 hx2 hx3 HS r0 HX
        go_upto_region 24 with (first | (go_at_call 30; (with_reducible refine (HZ.out _).mono ?_); rintro x w1 ⟨rfl, hb1⟩; have H1 := Lib.hid (H0.out.below hb1); clear hb1 c0 c1 c2 c3 c4 c5 c6 c7 c8 c9 c10; obtain ⟨c0, c1, c2, c3, c4, c5, c6, c7, c8, c9, c10⟩ := HGD.out _ H1.out) | (go_at_call 27; (with_reducible refine (HG.out _).mono ?_); rintro x w2 ⟨rfl, hb2⟩; have H2 := Lib.hid (H1.out.below hb2); clear hb2 c0 c1 c2 c3 c4 c5 c6 c7 c8 c9 c10; obtain ⟨c0, c1, c2, c3, c4, c5, c6, c7, c8, c9, c10⟩ := HGD.out _ H2.out))
        by_cases e16 : (v16 : Int) = resp
        · have t16 : ((v16 : Int) == resp) = true := by rw [beq_iff_eq]; exact e16
          by_cases e0 : 0 ≤ every
          · have te : decide (0 ≤ every) = true := decide_eq_true e0
            by_cases e8 : (v8 : Int) = every
            · have t8 : ((v8 : Int) == every) = true := by rw [beq_iff_eq]; exact e8
              rw [decide_eq_true e16, decide_eq_true (And.intro e0 e8), Bool.true_and, Bool.true_and] at HV
              clear e16 e8
              by_cases r1 : 0 ≤ rob
              · have tq1 : decide (0 ≤ rob) = true := decide_eq_true r1
                by_cases r8 : rob < 8
                · have tq8 : decide (rob < 8) = true := decide_eq_true r8
                  cases x3 with
                  | false =>
                    have HR := Lib.hid (show R = false by rw [HV]; simp)
                    clear HV
                    go_quiet (first | (go_at_call 32; exact Calls.quiet_of_same (HC16.out _)) | (go_at_call 31; exact Calls.quiet_of_same (HV16.out _)) | (go_at_call 34; exact Calls.quiet_of_same (HC8.out _)) | (go_at_call 33; exact Calls.quiet_of_same (HV8.out _)))
                    go_wp2_with (first
                      | (go_at_call 28; (with_reducible refine (HS2.out _ (bdrewN H2.out.bl _)).mono ?_); rintro x w4 ⟨rfl, hb4⟩; have H4 := Lib.hid ((H2.out.below (bdrewN (Below.refl _ _) _)).below hb4); clear hb4 c0 c1 c2 c3 c4 c5 c6 c7 c8 c9 c10; obtain ⟨c0, c1, c2, c3, c4, c5, c6, c7, c8, c9, c10⟩ := HGD.out _ H4.out))
                    go_ret
                    exact ⟨ret_bool8 (by rw [HR.out]), H4.out.2⟩
                  | true =>
                    have HR := Lib.hid (show R = true by rw [HV]; simp [r1, r8])
                    clear HV
                    go_quiet (first | (go_at_call 32; exact Calls.quiet_of_same (HC16.out _)) | (go_at_call 31; exact Calls.quiet_of_same (HV16.out _)) | (go_at_call 34; exact Calls.quiet_of_same (HC8.out _)) | (go_at_call 33; exact Calls.quiet_of_same (HV8.out _)))
                    go_wp2_with (first
                      | (go_at_call 28; (with_reducible refine (HS2.out _ (bdrewN H2.out.bl _)).mono ?_); rintro x w4 ⟨rfl, hb4⟩; have H4 := Lib.hid ((H2.out.below (bdrewN (Below.refl _ _) _)).below hb4); clear hb4 c0 c1 c2 c3 c4 c5 c6 c7 c8 c9 c10; obtain ⟨c0, c1, c2, c3, c4, c5, c6, c7, c8, c9, c10⟩ := HGD.out _ H4.out)
                      | (go_at_call 30; (with_reducible refine (HZ.out _).mono ?_); rintro x w5 ⟨rfl, hb5⟩; have H5 := Lib.hid (H4.out.below hb5); clear hb5 c0 c1 c2 c3 c4 c5 c6 c7 c8 c9 c10; obtain ⟨c0, c1, c2, c3, c4, c5, c6, c7, c8, c9, c10⟩ := HGD.out _ H5.out))
                    go_ret
                    exact ⟨ret_bool8 (by rw [HR.out]), H5.out.2⟩
                · have tq8 : decide (rob < 8) = false := decide_eq_false r8
                  have HR := Lib.hid (show R = false by rw [HV]; rw [decide_eq_false (show ¬ (0 ≤ rob ∧ rob < 8) by omega)]; rfl)
                  clear HV
                  go_quiet (first | (go_at_call 32; exact Calls.quiet_of_same (HC16.out _)) | (go_at_call 31; exact Calls.quiet_of_same (HV16.out _)) | (go_at_call 34; exact Calls.quiet_of_same (HC8.out _)) | (go_at_call 33; exact Calls.quiet_of_same (HV8.out _)))
                  go_wp2
                  go_ret
                  exact ⟨ret_bool8 (by rw [HR.out]), bdrewN H2.out.2 _⟩
              · have tq1 : decide (0 ≤ rob) = false := decide_eq_false r1
                have HR := Lib.hid (show R = false by rw [HV]; rw [decide_eq_false (show ¬ (0 ≤ rob ∧ rob < 8) by omega)]; rfl)
                clear HV
                go_quiet (first | (go_at_call 32; exact Calls.quiet_of_same (HC16.out _)) | (go_at_call 31; exact Calls.quiet_of_same (HV16.out _)) | (go_at_call 34; exact Calls.quiet_of_same (HC8.out _)) | (go_at_call 33; exact Calls.quiet_of_same (HV8.out _)))
                go_wp2
                go_ret
                exact ⟨ret_bool8 (by rw [HR.out]), bdrewN H2.out.2 _⟩
            · have t8 : ((v8 : Int) == every) = false := by rw [beq_eq_false_iff_ne]; exact e8
              have HR := Lib.hid (show R = false by rw [HV]; simp [e8])
              clear HV
              clear e16 e8
              go_quiet (first | (go_at_call 32; exact Calls.quiet_of_same (HC16.out _)) | (go_at_call 31; exact Calls.quiet_of_same (HV16.out _)) | (go_at_call 34; exact Calls.quiet_of_same (HC8.out _)) | (go_at_call 33; exact Calls.quiet_of_same (HV8.out _)))
              go_wp2
              go_ret
              exact ⟨ret_bool8 (by rw [HR.out]), bdrewN H2.out.2 _⟩
          · have te : decide (0 ≤ every) = false := decide_eq_false e0
            have HR := Lib.hid (show R = false by rw [HV]; simp [e0])
            clear HV
            clear e16
            go_quiet (first | (go_at_call 32; exact Calls.quiet_of_same (HC16.out _)) | (go_at_call 31; exact Calls.quiet_of_same (HV16.out _)) | (go_at_call 34; exact Calls.quiet_of_same (HC8.out _)) | (go_at_call 33; exact Calls.quiet_of_same (HV8.out _)))
            go_wp2
            go_ret
            exact ⟨ret_bool8 (by rw [HR.out]), bdrewN H2.out.2 _⟩
        · have t16 : ((v16 : Int) == resp) = false := by rw [beq_eq_false_iff_ne]; exact e16
          have HR := Lib.hid (show R = false by rw [HV]; simp [e16])
          clear HV
          clear e16
          go_quiet (first | (go_at_call 32; exact Calls.quiet_of_same (HC16.out _)) | (go_at_call 31; exact Calls.quiet_of_same (HV16.out _)) | (go_at_call 34; exact Calls.quiet_of_same (HC8.out _)) | (go_at_call 33; exact Calls.quiet_of_same (HV8.out _)))
          go_wp2
          go_ret
          exact ⟨ret_bool8 (by rw [HR.out]), bdrewN H2.out.2 _⟩
  · have prcs : 0 < rcs.length := Nat.pos_of_ne_zero lrcs
    have trcs : decide ((0 : Int) < (rcs.length : Int)) = true := by simp; omega
    have vrcs : decide (0 < rcs.length) = true := by simp; omega
    have HR := Lib.hid (show R = false by rw [hR]; simp [good9, prcs])
    clear hR
    go_wp2
    go_ret
    exact ⟨ret_bool8 (by rw [HR.out]), H0.out.2⟩

end Go.Proofs.Ytacnhelnpngkgaa

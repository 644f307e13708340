/-
  The document's own Good of layer 8: queries.
-/
import Derived.Test.YtacnhelnpngkgaaMg16
namespace Go.Proofs.Ytacnhelnpngkgaa
open Go.RowKit
set_option linter.unusedVariables false
set_option linter.unusedSimpArgs false
attribute [local go_sem ↓] ld_addr st_addr bld_addr
attribute [local go_sem] ldr_addr str_addr


set_option maxRecDepth 100000 in
set_option maxHeartbeats 4000000 in
theorem rgood8_21 (t : TK) (us ur : Value) (w : World) (ho : t.ok) (hs : Ads w us t.src) (hr : Rcs w ur t.rcs) (hv6 : t.v6 = false) (hve : t.ver = 2) (hki : t.kind = 1) (R : Bool) (hR : R = good8 t) :
    Calls Try.prog 23 #[.agg (tkC t us ur).toArray] w fun x w' => x = .returned (.bool R) ∧ Below w.heap.size w w' := by
  have H0 := Lib.hid (GD.made w t us ur ho.1)
  have HGD : Hid (∀ W, GD w W t us ur → GC w W t us ur) := Lib.hid fun W h => h.cells
  have HG := Lib.hid (fun W => rgroup8_any t.g ho.1 W)
  have HX1 := Lib.hid (fun W => rexact8 t.resp W)
  have HX2 := Lib.hid (fun W => rexact8 t.every W)
  have HS := Lib.hid (fun W (h : Below w.heap.size w W) => rsources8_any us t.src W (hs.below h))
  have q := fun w0 => eq_ad t.g zeroA ho.1 zeroA_ok w0
  have hbz := bld_zeroA
  have hfz : fok (adC zeroA).toArray 17 = true := fok_addr false _ zeroA_ok
  have hfm := free_made (w.alloc (.cells (tkC t us ur).toArray 28)) #[.bool false, .int .u8 0, .int .u8 0, .int .u8 0, .int .u8 0, .int .u8 0, .int .u8 0, .int .u8 0, .int .u8 0, .int .u8 0, .int .u8 0, .int .u8 0, .int .u8 0, .int .u8 0, .int .u8 0, .int .u8 0, .int .u8 0] 24 17 (by simp)
  rw [show (w.alloc (.cells (tkC t us ur).toArray 28)).heap.size = w.heap.size + 1 by simp] at hfm
  obtain ⟨pu, cu, e1, hu1, hu2⟩ := hs.len
  obtain ⟨pr, cr, e2, hr1, hr2⟩ := hr.len
  have hm1 : t.src.length ≤ maxLen := by omega
  have hm2 : t.rcs.length ≤ maxLen := by omega
  unfold maxLen at hm1 hm2
  clear hs hr hu1 hu2 hr1 hr2 ho
  obtain ⟨v6, ver, kind, resp, g, quiet, rob, every, src, rcs⟩ := t
  simp only at *
  subst e1 e2 hv6 hve hki
  have H0 := Lib.hid H0.out
  go_enter Try.func23, Try.ntmps23
  go_upto_region 2 with (fail)
  generalize aggW ((w.alloc (.cells (tkC _ _ _).toArray 28)).alloc (.cells #[.bool false, .int .u8 0, .int .u8 0, .int .u8 0, .int .u8 0, .int .u8 0, .int .u8 0, .int .u8 0, .int .u8 0, .int .u8 0, .int .u8 0, .int .u8 0, .int .u8 0, .int .u8 0, .int .u8 0, .int .u8 0, .int .u8 0] 24)) (w.heap.size + 1) _ = W at H0 ⊢
  obtain ⟨c0, c1, c2, c3, c4, c5, c6, c7, c8, c9, c10⟩ := HGD.out _ H0.out
  clear hfm hbz hfz
  cases quiet with
  | true =>
    have HR := Lib.hid (show R = false by rw [hR]; simp [good8, hR])
    clear hR
    go_wp2
    go_ret
    exact ⟨ret_bool8 (by rw [HR.out]), H0.out.2.2⟩
  | false =>
    by_cases zrob : rob = 0
    · have trob : (rob != 0) = false := by simp [zrob]
      by_cases zevery : every = 0
      · have tevery : (every != 0) = false := by simp [zevery]
        by_cases lsrc : src.length = 0
        · have tsrc : decide ((0 : Int) < (src.length : Int)) = false := by simp [lsrc]
          have vsrc : decide (0 < src.length) = false := by simp [lsrc]
          by_cases lrcs : rcs.length = 0
          · have trcs : decide ((0 : Int) < (rcs.length : Int)) = false := by simp [lrcs]
            have vrcs : decide (0 < rcs.length) = false := by simp [lrcs]
            by_cases zg : g = zeroA
            · rw [decide_eq_true zg] at q
              subst zg
              go_upto_region 27 with (fail)
              by_cases r0 : 0 < resp
              · by_cases r1 : resp < 256
                · have HR := Lib.hid (show R = true by rw [hR]; simp [good8, zrob, zevery, lsrc, lrcs, r0, r1])
                  clear hR
                  go_wp2
                  go_ret
                  exact ⟨ret_bool8 (by rw [HR.out]), H0.out.2.2⟩
                · have HR := Lib.hid (show R = false by rw [hR]; simp [good8, zrob, zevery, lsrc, lrcs, r0, r1])
                  clear hR
                  go_wp2
                  go_ret
                  exact ⟨ret_bool8 (by rw [HR.out]), H0.out.2.2⟩
              · have HR := Lib.hid (show R = false by rw [hR]; simp [good8, zrob, zevery, lsrc, lrcs, r0])
                clear hR
                go_wp2
                go_ret
                exact ⟨ret_bool8 (by rw [HR.out]), H0.out.2.2⟩
            · rw [decide_eq_false zg] at q
              cases hgg : grp8 g with
              | false =>
                rw [hgg] at HG
                have HR := Lib.hid (show R = false by rw [hR]; simp [good8, zrob, zevery, lsrc, lrcs, zg, hgg])
                clear hR hgg
                go_wp2_with (go_at_call 35; (with_reducible refine (HG.out _).mono ?_); rintro x w1 ⟨rfl, hb1⟩; have H1 := Lib.hid (H0.out.below hb1); clear hb1)
                go_ret
                exact ⟨ret_bool8 (by rw [HR.out]), H1.out.2.2⟩
              | true =>
                rw [hgg] at HG
                go_upto_region 27 with (go_at_call 35; (with_reducible refine (HG.out _).mono ?_); rintro x w1 ⟨rfl, hb1⟩; have H1 := Lib.hid (H0.out.below hb1); clear hb1; clear c0 c1 c2 c3 c4 c5 c6 c7 c8 c9 c10; obtain ⟨c0, c1, c2, c3, c4, c5, c6, c7, c8, c9, c10⟩ := HGD.out _ H1.out)
                by_cases r0 : 0 < resp
                · by_cases r1 : resp < 256
                  · have HR := Lib.hid (show R = true by rw [hR]; simp [good8, zrob, zevery, lsrc, lrcs, zg, hgg, r0, r1])
                    clear hR
                    go_wp2
                    go_ret
                    exact ⟨ret_bool8 (by rw [HR.out]), H1.out.2.2⟩
                  · have HR := Lib.hid (show R = false by rw [hR]; simp [good8, zrob, zevery, lsrc, lrcs, zg, hgg, r0, r1])
                    clear hR
                    go_wp2
                    go_ret
                    exact ⟨ret_bool8 (by rw [HR.out]), H1.out.2.2⟩
                · have HR := Lib.hid (show R = false by rw [hR]; simp [good8, zrob, zevery, lsrc, lrcs, zg, hgg, r0])
                  clear hR
                  go_wp2
                  go_ret
                  exact ⟨ret_bool8 (by rw [HR.out]), H1.out.2.2⟩
          · have prcs : 0 < rcs.length := Nat.pos_of_ne_zero lrcs
            have trcs : decide ((0 : Int) < (rcs.length : Int)) = true := by simp; omega
            have vrcs : decide (0 < rcs.length) = true := by simp; omega
            have HR := Lib.hid (show R = false by rw [hR]; simp [good8, zrob, zevery, lsrc, prcs])
            clear hR
            go_wp2
            go_ret
            exact ⟨ret_bool8 (by rw [HR.out]), H0.out.2.2⟩
        · have psrc : 0 < src.length := Nat.pos_of_ne_zero lsrc
          have tsrc : decide ((0 : Int) < (src.length : Int)) = true := by simp; omega
          have vsrc : decide (0 < src.length) = true := by simp; omega
          have HR := Lib.hid (show R = false by rw [hR]; simp [good8, zrob, zevery, psrc])
          clear hR
          go_wp2
          go_ret
          exact ⟨ret_bool8 (by rw [HR.out]), H0.out.2.2⟩
      · have tevery : (every != 0) = true := by simp [zevery]
        have HR := Lib.hid (show R = false by rw [hR]; simp [good8, zrob, zevery])
        clear hR
        go_wp2
        go_ret
        exact ⟨ret_bool8 (by rw [HR.out]), H0.out.2.2⟩
    · have trob : (rob != 0) = true := by simp [zrob]
      have HR := Lib.hid (show R = false by rw [hR]; simp [good8, zrob])
      clear hR
      go_wp2
      go_ret
      exact ⟨ret_bool8 (by rw [HR.out]), H0.out.2.2⟩


set_option maxRecDepth 100000 in
set_option maxHeartbeats 4000000 in
theorem rgood8_31 (t : TK) (us ur : Value) (w : World) (ho : t.ok) (hs : Ads w us t.src) (hr : Rcs w ur t.rcs) (hv6 : t.v6 = false) (hve : t.ver = 3) (hki : t.kind = 1) (R : Bool) (hR : R = good8 t) :
    Calls Try.prog 23 #[.agg (tkC t us ur).toArray] w fun x w' => x = .returned (.bool R) ∧ Below w.heap.size w w' := by
  have H0 := Lib.hid (GD.made w t us ur ho.1)
  have HGD : Hid (∀ W, GD w W t us ur → GC w W t us ur) := Lib.hid fun W h => h.cells
  have HG := Lib.hid (fun W => rgroup8_any t.g ho.1 W)
  have HX1 := Lib.hid (fun W => rexact8 t.resp W)
  have HX2 := Lib.hid (fun W => rexact8 t.every W)
  have HS := Lib.hid (fun W (h : Below w.heap.size w W) => rsources8_any us t.src W (hs.below h))
  have q := fun w0 => eq_ad t.g zeroA ho.1 zeroA_ok w0
  have hbz := bld_zeroA
  have hfz : fok (adC zeroA).toArray 17 = true := fok_addr false _ zeroA_ok
  have hfm := free_made (w.alloc (.cells (tkC t us ur).toArray 28)) #[.bool false, .int .u8 0, .int .u8 0, .int .u8 0, .int .u8 0, .int .u8 0, .int .u8 0, .int .u8 0, .int .u8 0, .int .u8 0, .int .u8 0, .int .u8 0, .int .u8 0, .int .u8 0, .int .u8 0, .int .u8 0, .int .u8 0] 24 17 (by simp)
  rw [show (w.alloc (.cells (tkC t us ur).toArray 28)).heap.size = w.heap.size + 1 by simp] at hfm
  obtain ⟨pu, cu, e1, hu1, hu2⟩ := hs.len
  obtain ⟨pr, cr, e2, hr1, hr2⟩ := hr.len
  have hm1 : t.src.length ≤ maxLen := by omega
  have hm2 : t.rcs.length ≤ maxLen := by omega
  unfold maxLen at hm1 hm2
  clear hs hr hu1 hu2 hr1 hr2 ho
  obtain ⟨v6, ver, kind, resp, g, quiet, rob, every, src, rcs⟩ := t
  simp only at *
  subst e1 e2 hv6 hve hki
  have H0 := Lib.hid H0.out
  go_enter Try.func23, Try.ntmps23
  go_upto_region 2 with (fail)
  generalize aggW ((w.alloc (.cells (tkC _ _ _).toArray 28)).alloc (.cells #[.bool false, .int .u8 0, .int .u8 0, .int .u8 0, .int .u8 0, .int .u8 0, .int .u8 0, .int .u8 0, .int .u8 0, .int .u8 0, .int .u8 0, .int .u8 0, .int .u8 0, .int .u8 0, .int .u8 0, .int .u8 0, .int .u8 0] 24)) (w.heap.size + 1) _ = W at H0 ⊢
  obtain ⟨c0, c1, c2, c3, c4, c5, c6, c7, c8, c9, c10⟩ := HGD.out _ H0.out
  clear hfm hbz hfz
  by_cases lrcs : rcs.length = 0
  · have trcs : decide ((0 : Int) < (rcs.length : Int)) = false := by simp [lrcs]
    have vrcs : decide (0 < rcs.length) = false := by simp [lrcs]
    by_cases zg : g = zeroA
    · rw [decide_eq_true zg] at q
      subst zg
      go_upto_region 27 with (fail)
      obtain ⟨x1, hx1⟩ : ∃ b, b = exactN resp 16 255 := ⟨_, rfl⟩
      obtain ⟨x2, hx2⟩ : ∃ b, b = exactN every 16 255 := ⟨_, rfl⟩
      obtain ⟨x3, hx3⟩ : ∃ b, b = srcs8 src := ⟨_, rfl⟩
      have HV : R = (x1 && (x2 && (decide (0 ≤ rob ∧ rob < 8) && (x3 && (decide (zeroA ≠ zeroA) || decide (src.length = 0)))))) := by
        rw [hR, hx1, hx2, hx3]; simp [good8, lrcs]
      rw [← hx1] at HX1
      rw [← hx2] at HX2
      have HS2 := Lib.hid (HS.out _ H0.out.2.2)
      rw [← hx3] at HS2
      clear hR hx1 hx2 hx3 HS
      cases x1 with
      | false =>
        have HR := Lib.hid HV
        clear HV
        go_wp2_with (first
          | (go_at_call 37; (with_reducible refine (HX1.out _).mono ?_); rintro x w3 ⟨rfl, rfl⟩))
        go_ret
        exact ⟨ret_bool8 (by rw [HR.out]; simp [ret_bool8]), H0.out.2.2⟩
      | true =>
        cases x2 with
        | false =>
          have HR := Lib.hid HV
          clear HV
          go_wp2_with (first
            | (go_at_call 37; (with_reducible refine (HX1.out _).mono ?_); rintro x w3 ⟨rfl, rfl⟩)
            | (go_at_call 37; (with_reducible refine (HX2.out _).mono ?_); rintro x w3 ⟨rfl, rfl⟩))
          go_ret
          exact ⟨ret_bool8 (by rw [HR.out]; simp [ret_bool8]), H0.out.2.2⟩
        | true =>
          by_cases r0 : 0 ≤ rob
          · by_cases r8 : rob < 8
            · cases x3 with
              | false =>
                have HR := Lib.hid HV
                clear HV
                go_wp2_with (first
                  | (go_at_call 37; (with_reducible refine (HX1.out _).mono ?_); rintro x w3 ⟨rfl, rfl⟩)
                  | (go_at_call 37; (with_reducible refine (HX2.out _).mono ?_); rintro x w3 ⟨rfl, rfl⟩)
                  | (go_at_call 36; (with_reducible refine (HS2.out).mono ?_); rintro x w4 ⟨rfl, hb4⟩; have H4 := Lib.hid (H0.out.below hb4); clear hb4 c0 c1 c2 c3 c4 c5 c6 c7 c8 c9 c10; obtain ⟨c0, c1, c2, c3, c4, c5, c6, c7, c8, c9, c10⟩ := HGD.out _ H4.out))
                go_ret
                exact ⟨ret_bool8 (by rw [HR.out]; simp [ret_bool8]), H4.out.2.2⟩
              | true =>
                by_cases l0 : src.length = 0
                · have tl : ((src.length : Int) == 0) = true := by rw [beq_iff_eq]; omega
                  have HL := Lib.hid l0
                  clear l0
                  have HR := Lib.hid HV
                  clear HV
                  go_wp2_with (first
                    | (go_at_call 37; (with_reducible refine (HX1.out _).mono ?_); rintro x w3 ⟨rfl, rfl⟩)
                    | (go_at_call 37; (with_reducible refine (HX2.out _).mono ?_); rintro x w3 ⟨rfl, rfl⟩)
                    | (go_at_call 36; (with_reducible refine (HS2.out).mono ?_); rintro x w4 ⟨rfl, hb4⟩; have H4 := Lib.hid (H0.out.below hb4); clear hb4 c0 c1 c2 c3 c4 c5 c6 c7 c8 c9 c10; obtain ⟨c0, c1, c2, c3, c4, c5, c6, c7, c8, c9, c10⟩ := HGD.out _ H4.out))
                  go_ret
                  exact ⟨ret_bool8 (by rw [HR.out]; simp [r0, r8, HL.out]), H4.out.2.2⟩
                · have tl : ((src.length : Int) == 0) = false := by rw [beq_eq_false_iff_ne]; omega
                  have HL := Lib.hid l0
                  clear l0
                  have HR := Lib.hid HV
                  clear HV
                  go_wp2_with (first
                    | (go_at_call 37; (with_reducible refine (HX1.out _).mono ?_); rintro x w3 ⟨rfl, rfl⟩)
                    | (go_at_call 37; (with_reducible refine (HX2.out _).mono ?_); rintro x w3 ⟨rfl, rfl⟩)
                    | (go_at_call 36; (with_reducible refine (HS2.out).mono ?_); rintro x w4 ⟨rfl, hb4⟩; have H4 := Lib.hid (H0.out.below hb4); clear hb4 c0 c1 c2 c3 c4 c5 c6 c7 c8 c9 c10; obtain ⟨c0, c1, c2, c3, c4, c5, c6, c7, c8, c9, c10⟩ := HGD.out _ H4.out))
                  go_ret
                  exact ⟨ret_bool8 (by rw [HR.out]; simp [r0, r8, HL.out]), H4.out.2.2⟩
            · have HR := Lib.hid HV
              clear HV
              go_wp2_with (first
                | (go_at_call 37; (with_reducible refine (HX1.out _).mono ?_); rintro x w3 ⟨rfl, rfl⟩)
                | (go_at_call 37; (with_reducible refine (HX2.out _).mono ?_); rintro x w3 ⟨rfl, rfl⟩))
              go_ret
              exact ⟨ret_bool8 (by rw [HR.out, decide_eq_false (show ¬ (0 ≤ rob ∧ rob < 8) by omega)]; simp), H0.out.2.2⟩
          · have HR := Lib.hid HV
            clear HV
            go_wp2_with (first
              | (go_at_call 37; (with_reducible refine (HX1.out _).mono ?_); rintro x w3 ⟨rfl, rfl⟩)
              | (go_at_call 37; (with_reducible refine (HX2.out _).mono ?_); rintro x w3 ⟨rfl, rfl⟩))
            go_ret
            exact ⟨ret_bool8 (by rw [HR.out, decide_eq_false (show ¬ (0 ≤ rob ∧ rob < 8) by omega)]; simp), H0.out.2.2⟩
    · rw [decide_eq_false zg] at q
      cases hgg : grp8 g with
      | false =>
        rw [hgg] at HG
        have HR := Lib.hid (show R = false by rw [hR]; simp [good8, lrcs, zg, hgg])
        clear hR hgg
        go_wp2_with (go_at_call 35; (with_reducible refine (HG.out _).mono ?_); rintro x w1 ⟨rfl, hb1⟩; have H1 := Lib.hid (H0.out.below hb1); clear hb1)
        go_ret
        exact ⟨ret_bool8 (by rw [HR.out]), H1.out.2.2⟩
      | true =>
        rw [hgg] at HG
        go_upto_region 27 with (go_at_call 35; (with_reducible refine (HG.out _).mono ?_); rintro x w1 ⟨rfl, hb1⟩; have H1 := Lib.hid (H0.out.below hb1); clear hb1; clear c0 c1 c2 c3 c4 c5 c6 c7 c8 c9 c10; obtain ⟨c0, c1, c2, c3, c4, c5, c6, c7, c8, c9, c10⟩ := HGD.out _ H1.out)
        obtain ⟨x1, hx1⟩ : ∃ b, b = exactN resp 16 255 := ⟨_, rfl⟩
        obtain ⟨x2, hx2⟩ : ∃ b, b = exactN every 16 255 := ⟨_, rfl⟩
        obtain ⟨x3, hx3⟩ : ∃ b, b = srcs8 src := ⟨_, rfl⟩
        have HV : R = (x1 && (x2 && (decide (0 ≤ rob ∧ rob < 8) && (x3 && (decide (g ≠ zeroA) || decide (src.length = 0)))))) := by
          rw [hR, hx1, hx2, hx3]; simp [good8, lrcs, zg, hgg]
        rw [← hx1] at HX1
        rw [← hx2] at HX2
        have HS2 := Lib.hid (HS.out _ H1.out.2.2)
        rw [← hx3] at HS2
        clear hR hx1 hx2 hx3 HS
        have HZ := Lib.hid zg
        cases x1 with
        | false =>
          have HR := Lib.hid HV
          clear HV
          go_wp2_with (first
            | (go_at_call 37; (with_reducible refine (HX1.out _).mono ?_); rintro x w3 ⟨rfl, rfl⟩))
          go_ret
          exact ⟨ret_bool8 (by rw [HR.out]; simp [HZ.out]), H1.out.2.2⟩
        | true =>
          cases x2 with
          | false =>
            have HR := Lib.hid HV
            clear HV
            go_wp2_with (first
              | (go_at_call 37; (with_reducible refine (HX1.out _).mono ?_); rintro x w3 ⟨rfl, rfl⟩)
              | (go_at_call 37; (with_reducible refine (HX2.out _).mono ?_); rintro x w3 ⟨rfl, rfl⟩))
            go_ret
            exact ⟨ret_bool8 (by rw [HR.out]; simp [HZ.out]), H1.out.2.2⟩
          | true =>
            by_cases r0 : 0 ≤ rob
            · by_cases r8 : rob < 8
              · cases x3 with
                | false =>
                  have HR := Lib.hid HV
                  clear HV
                  go_wp2_with (first
                    | (go_at_call 37; (with_reducible refine (HX1.out _).mono ?_); rintro x w3 ⟨rfl, rfl⟩)
                    | (go_at_call 37; (with_reducible refine (HX2.out _).mono ?_); rintro x w3 ⟨rfl, rfl⟩)
                    | (go_at_call 36; (with_reducible refine (HS2.out).mono ?_); rintro x w4 ⟨rfl, hb4⟩; have H4 := Lib.hid (H1.out.below hb4); clear hb4 c0 c1 c2 c3 c4 c5 c6 c7 c8 c9 c10; obtain ⟨c0, c1, c2, c3, c4, c5, c6, c7, c8, c9, c10⟩ := HGD.out _ H4.out))
                  go_ret
                  exact ⟨ret_bool8 (by rw [HR.out]; simp [HZ.out]), H4.out.2.2⟩
                | true =>
                  by_cases l0 : src.length = 0
                  · have tl : ((src.length : Int) == 0) = true := by rw [beq_iff_eq]; omega
                    have HL := Lib.hid l0
                    clear l0
                    have HR := Lib.hid HV
                    clear HV
                    go_wp2_with (first
                      | (go_at_call 37; (with_reducible refine (HX1.out _).mono ?_); rintro x w3 ⟨rfl, rfl⟩)
                      | (go_at_call 37; (with_reducible refine (HX2.out _).mono ?_); rintro x w3 ⟨rfl, rfl⟩)
                      | (go_at_call 36; (with_reducible refine (HS2.out).mono ?_); rintro x w4 ⟨rfl, hb4⟩; have H4 := Lib.hid (H1.out.below hb4); clear hb4 c0 c1 c2 c3 c4 c5 c6 c7 c8 c9 c10; obtain ⟨c0, c1, c2, c3, c4, c5, c6, c7, c8, c9, c10⟩ := HGD.out _ H4.out))
                    go_ret
                    exact ⟨ret_bool8 (by rw [HR.out]; simp [r0, r8, HL.out, HZ.out]), H4.out.2.2⟩
                  · have tl : ((src.length : Int) == 0) = false := by rw [beq_eq_false_iff_ne]; omega
                    have HL := Lib.hid l0
                    clear l0
                    have HR := Lib.hid HV
                    clear HV
                    go_wp2_with (first
                      | (go_at_call 37; (with_reducible refine (HX1.out _).mono ?_); rintro x w3 ⟨rfl, rfl⟩)
                      | (go_at_call 37; (with_reducible refine (HX2.out _).mono ?_); rintro x w3 ⟨rfl, rfl⟩)
                      | (go_at_call 36; (with_reducible refine (HS2.out).mono ?_); rintro x w4 ⟨rfl, hb4⟩; have H4 := Lib.hid (H1.out.below hb4); clear hb4 c0 c1 c2 c3 c4 c5 c6 c7 c8 c9 c10; obtain ⟨c0, c1, c2, c3, c4, c5, c6, c7, c8, c9, c10⟩ := HGD.out _ H4.out))
                    go_ret
                    exact ⟨ret_bool8 (by rw [HR.out]; simp [r0, r8, HL.out, HZ.out]), H4.out.2.2⟩
              · have HR := Lib.hid HV
                clear HV
                go_wp2_with (first
                  | (go_at_call 37; (with_reducible refine (HX1.out _).mono ?_); rintro x w3 ⟨rfl, rfl⟩)
                  | (go_at_call 37; (with_reducible refine (HX2.out _).mono ?_); rintro x w3 ⟨rfl, rfl⟩))
                go_ret
                exact ⟨ret_bool8 (by rw [HR.out, decide_eq_false (show ¬ (0 ≤ rob ∧ rob < 8) by omega)]; simp), H1.out.2.2⟩
            · have HR := Lib.hid HV
              clear HV
              go_wp2_with (first
                | (go_at_call 37; (with_reducible refine (HX1.out _).mono ?_); rintro x w3 ⟨rfl, rfl⟩)
                | (go_at_call 37; (with_reducible refine (HX2.out _).mono ?_); rintro x w3 ⟨rfl, rfl⟩))
              go_ret
              exact ⟨ret_bool8 (by rw [HR.out, decide_eq_false (show ¬ (0 ≤ rob ∧ rob < 8) by omega)]; simp), H1.out.2.2⟩
  · have prcs : 0 < rcs.length := Nat.pos_of_ne_zero lrcs
    have trcs : decide ((0 : Int) < (rcs.length : Int)) = true := by simp; omega
    have vrcs : decide (0 < rcs.length) = true := by simp; omega
    have HR := Lib.hid (show R = false by rw [hR]; simp [good8, prcs])
    clear hR
    go_wp2
    go_ret
    exact ⟨ret_bool8 (by rw [HR.out]), H0.out.2.2⟩

end Go.Proofs.Ytacnhelnpngkgaa

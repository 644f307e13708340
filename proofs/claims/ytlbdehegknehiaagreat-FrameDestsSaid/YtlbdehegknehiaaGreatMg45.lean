/-
  Texts joined: TkI, TkK, FrE.
-/
import Derived.Test.YtlbdehegknehiaaGreatMg00
import Derived.Test.YtlbdehegknehiaaGreatMg08
import Derived.Test.YtlbdehegknehiaaGreatTkH
import Derived.Test.YtlbdehegknehiaaGreatMg30
import Derived.Test.YtlbdehegknehiaaGreatMdJ
import Derived.Test.YtlbdehegknehiaaGreatMg03
/- A part of the proof. -/
namespace Go.Proofs.YtlbdehegknehiaaGreat
set_option maxRecDepth 100000
set_option maxHeartbeats 4000000
open Go.RowKit
set_option linter.unusedVariables false
set_option linter.unusedSimpArgs false
attribute [local go_sem ↓] ld_addr st_addr bld_addr
attribute [local go_sem] ldr_addr str_addr
theorem rgood8_21 (t : TK) (us ur : Value) (w : World) (ho : t.ok) (hs : Ads w us t.src) (hr : Rcs w ur t.rcs) (hv6 : t.v6 = false) (hve : t.ver = 2) (hki : t.kind = 1) (R : Bool) (hR : R = good8 t) :
    Calls Tryz.prog 62 #[.agg (tkC t us ur).toArray] w fun x w' => x = .returned (.bool R) ∧ Below w.heap.size w w' := by
  have H0 := zh (GD.made w t us ur ho.1)
  have HGD : Hid (∀ W, GD w W t us ur → GC w W t us ur) := zh fun W h => h.cells
  have HG := zh (fun W => rgroup8_any t.g ho.1 W)
  have HX1 := zh (fun W => rexact8 t.resp W)
  have HX2 := zh (fun W => rexact8 t.every W)
  have HS := zh (fun W (h : Below w.heap.size w W) => rsources8_any us t.src W (hs.below h))
  have q := fun w0 => eq_ad t.g zeroA ho.1 zeroA_ok w0
  have hbz := bld_zeroA
  have hfz : fok (adC zeroA).toArray 17 = true := fok_addr false _ zeroA_ok
  have hfm := free_made (w.alloc (.cells (tkC t us ur).toArray 28)) zz17 24 17 (by simp)
  rw [show (w.alloc (.cells (tkC t us ur).toArray 28)).heap.size = w.heap.size + 1 by simp] at hfm
  obtain ⟨pu, cu, e1, hu1, hu2⟩ := hs.len
  obtain ⟨pr, cr, e2, hr1, hr2⟩ := hr.len
  have hm1 : t.src.length ≤ maxLen := by omega
  have hm2 : t.rcs.length ≤ maxLen := by omega
  unfold maxLen at hm1 hm2
  clear hs hr hu1 hu2 hr1 hr2 ho
  obtain ⟨v6, ver, kind, resp, g, quiet, rob, every, src, rcs⟩ := t
  simp only at *
  subst e1 e2 hv6 hve hki
  have H0 := zh H0.out
  go_enter Tryz.func62, Tryz.ntmps62
  go_upto_region 2 with (fail)
  generalize aggW ((w.alloc (.cells (tkC _ _ _).toArray 28)).alloc (.cells zz17 24)) (w.heap.size + 1) _ = W at H0 ⊢
  obtain ⟨c0, c1, c2, c3, c4, c5, c6, c7, c8, c9, c10⟩ := HGD.out _ H0.out
  clear hfm hbz hfz
  cases quiet with
  | true =>
    have HR := zh (show R = false by rw [hR]; simp [good8, hR])
    clear hR
    go_wp2
    go_ret
    exact ⟨ret_bool8 (by rw [HR.out]), H0.out.2.2⟩
  | false =>
    by_cases zrob : rob = 0
    · have trob : (rob != 0) = false := by simp [zrob]
      by_cases zevery : every = 0
      · have tevery : (every != 0) = false := by simp [zevery]
        by_cases lsrc : src.length = 0
        · have tsrc : decide ((0 : Int) < (src.length : Int)) = false := by simp [lsrc]
          have vsrc : decide (0 < src.length) = false := by simp [lsrc]
          by_cases lrcs : rcs.length = 0
          · have trcs : decide ((0 : Int) < (rcs.length : Int)) = false := by simp [lrcs]
            have vrcs : decide (0 < rcs.length) = false := by simp [lrcs]
            by_cases zg : g = zeroA
            · rw [decide_eq_true zg] at q
              subst zg
              go_upto_region 27 with (fail)
              by_cases r0 : 0 < resp
              · by_cases r1 : resp < 256
                · have HR := zh (show R = true by rw [hR]; simp [good8, zrob, zevery, lsrc, lrcs, r0, r1])
                  clear hR
                  go_wp2
                  go_ret
                  exact ⟨ret_bool8 (by rw [HR.out]), H0.out.2.2⟩
                · have HR := zh (show R = false by rw [hR]; simp [good8, zrob, zevery, lsrc, lrcs, r0, r1])
                  clear hR
                  go_wp2
                  go_ret
                  exact ⟨ret_bool8 (by rw [HR.out]), H0.out.2.2⟩
              · have HR := zh (show R = false by rw [hR]; simp [good8, zrob, zevery, lsrc, lrcs, r0])
                clear hR
                go_wp2
                go_ret
                exact ⟨ret_bool8 (by rw [HR.out]), H0.out.2.2⟩
            · rw [decide_eq_false zg] at q
              cases hgg : grp8 g with
              | false =>
                rw [hgg] at HG
                have HR := zh (show R = false by rw [hR]; simp [good8, zrob, zevery, lsrc, lrcs, zg, hgg])
                clear hR hgg
                go_wp2_with (go_at_call 115; (with_reducible refine (HG.out _).mono ?_); rintro x w1 ⟨rfl, hb1⟩; have H1 := zh (H0.out.below hb1); clear hb1)
                go_ret
                exact ⟨ret_bool8 (by rw [HR.out]), H1.out.2.2⟩
              | true =>
                rw [hgg] at HG
                go_upto_region 27 with (go_at_call 115; (with_reducible refine (HG.out _).mono ?_); rintro x w1 ⟨rfl, hb1⟩; have H1 := zh (H0.out.below hb1); clear hb1; clear c0 c1 c2 c3 c4 c5 c6 c7 c8 c9 c10; obtain ⟨c0, c1, c2, c3, c4, c5, c6, c7, c8, c9, c10⟩ := HGD.out _ H1.out)
                by_cases r0 : 0 < resp
                · by_cases r1 : resp < 256
                  · have HR := zh (show R = true by rw [hR]; simp [good8, zrob, zevery, lsrc, lrcs, zg, hgg, r0, r1])
                    clear hR
                    go_wp2
                    go_ret
                    exact ⟨ret_bool8 (by rw [HR.out]), H1.out.2.2⟩
                  · have HR := zh (show R = false by rw [hR]; simp [good8, zrob, zevery, lsrc, lrcs, zg, hgg, r0, r1])
                    clear hR
                    go_wp2
                    go_ret
                    exact ⟨ret_bool8 (by rw [HR.out]), H1.out.2.2⟩
                · have HR := zh (show R = false by rw [hR]; simp [good8, zrob, zevery, lsrc, lrcs, zg, hgg, r0])
                  clear hR
                  go_wp2
                  go_ret
                  exact ⟨ret_bool8 (by rw [HR.out]), H1.out.2.2⟩
          · have prcs : 0 < rcs.length := Nat.pos_of_ne_zero lrcs
            have trcs : decide ((0 : Int) < (rcs.length : Int)) = true := by simp; omega
            have vrcs : decide (0 < rcs.length) = true := by simp; omega
            have HR := zh (show R = false by rw [hR]; simp [good8, zrob, zevery, lsrc, prcs])
            clear hR
            go_wp2
            go_ret
            exact ⟨ret_bool8 (by rw [HR.out]), H0.out.2.2⟩
        · have psrc : 0 < src.length := Nat.pos_of_ne_zero lsrc
          have tsrc : decide ((0 : Int) < (src.length : Int)) = true := by simp; omega
          have vsrc : decide (0 < src.length) = true := by simp; omega
          have HR := zh (show R = false by rw [hR]; simp [good8, zrob, zevery, psrc])
          clear hR
          go_wp2
          go_ret
          exact ⟨ret_bool8 (by rw [HR.out]), H0.out.2.2⟩
      · have tevery : (every != 0) = true := by simp [zevery]
        have HR := zh (show R = false by rw [hR]; simp [good8, zrob, zevery])
        clear hR
        go_wp2
        go_ret
        exact ⟨ret_bool8 (by rw [HR.out]), H0.out.2.2⟩
    · have trob : (rob != 0) = true := by simp [zrob]
      have HR := zh (show R = false by rw [hR]; simp [good8, zrob])
      clear hR
      go_wp2
      go_ret
      exact ⟨ret_bool8 (by rw [HR.out]), H0.out.2.2⟩
theorem rgood8_31 (t : TK) (us ur : Value) (w : World) (ho : t.ok) (hs : Ads w us t.src) (hr : Rcs w ur t.rcs) (hv6 : t.v6 = false) (hve : t.ver = 3) (hki : t.kind = 1) (R : Bool) (hR : R = good8 t) :
    Calls Tryz.prog 62 #[.agg (tkC t us ur).toArray] w fun x w' => x = .returned (.bool R) ∧ Below w.heap.size w w' := by
  have H0 := zh (GD.made w t us ur ho.1)
  have HGD : Hid (∀ W, GD w W t us ur → GC w W t us ur) := zh fun W h => h.cells
  have HG := zh (fun W => rgroup8_any t.g ho.1 W)
  have HX1 := zh (fun W => rexact8 t.resp W)
  have HX2 := zh (fun W => rexact8 t.every W)
  have HS := zh (fun W (h : Below w.heap.size w W) => rsources8_any us t.src W (hs.below h))
  have q := fun w0 => eq_ad t.g zeroA ho.1 zeroA_ok w0
  have hbz := bld_zeroA
  have hfz : fok (adC zeroA).toArray 17 = true := fok_addr false _ zeroA_ok
  have hfm := free_made (w.alloc (.cells (tkC t us ur).toArray 28)) zz17 24 17 (by simp)
  rw [show (w.alloc (.cells (tkC t us ur).toArray 28)).heap.size = w.heap.size + 1 by simp] at hfm
  obtain ⟨pu, cu, e1, hu1, hu2⟩ := hs.len
  obtain ⟨pr, cr, e2, hr1, hr2⟩ := hr.len
  have hm1 : t.src.length ≤ maxLen := by omega
  have hm2 : t.rcs.length ≤ maxLen := by omega
  unfold maxLen at hm1 hm2
  clear hs hr hu1 hu2 hr1 hr2 ho
  obtain ⟨v6, ver, kind, resp, g, quiet, rob, every, src, rcs⟩ := t
  simp only at *
  subst e1 e2 hv6 hve hki
  have H0 := zh H0.out
  go_enter Tryz.func62, Tryz.ntmps62
  go_upto_region 2 with (fail)
  generalize aggW ((w.alloc (.cells (tkC _ _ _).toArray 28)).alloc (.cells zz17 24)) (w.heap.size + 1) _ = W at H0 ⊢
  obtain ⟨c0, c1, c2, c3, c4, c5, c6, c7, c8, c9, c10⟩ := HGD.out _ H0.out
  clear hfm hbz hfz
  by_cases lrcs : rcs.length = 0
  · have trcs : decide ((0 : Int) < (rcs.length : Int)) = false := by simp [lrcs]
    have vrcs : decide (0 < rcs.length) = false := by simp [lrcs]
    by_cases zg : g = zeroA
    · rw [decide_eq_true zg] at q
      subst zg
      go_upto_region 27 with (fail)
      obtain ⟨x1, hx1⟩ : ∃ b, b = exactN resp 16 255 := ⟨_, rfl⟩
      obtain ⟨x2, hx2⟩ : ∃ b, b = exactN every 16 255 := ⟨_, rfl⟩
      obtain ⟨x3, hx3⟩ : ∃ b, b = srcs8 src := ⟨_, rfl⟩
      have HV : R = (x1 && (x2 && (decide (0 ≤ rob ∧ rob < 8) && (x3 && (decide (zeroA ≠ zeroA) || decide (src.length = 0)))))) := by
        rw [hR, hx1, hx2, hx3]; simp [good8, lrcs]
      rw [← hx1] at HX1
      rw [← hx2] at HX2
      have HS2 := zh (HS.out _ H0.out.2.2)
      rw [← hx3] at HS2
      clear hR hx1 hx2 hx3 HS
      cases x1 with
      | false =>
        have HR := zh HV
        clear HV
        go_wp2_with (first
          | (go_at_call 136; (with_reducible refine (HX1.out _).mono ?_); rintro x w3 ⟨rfl, rfl⟩))
        go_ret
        exact ⟨ret_bool8 (by rw [HR.out]; simp [ret_bool8]), H0.out.2.2⟩
      | true =>
        cases x2 with
        | false =>
          have HR := zh HV
          clear HV
          go_wp2_with (first
            | (go_at_call 136; (with_reducible refine (HX1.out _).mono ?_); rintro x w3 ⟨rfl, rfl⟩)
            | (go_at_call 136; (with_reducible refine (HX2.out _).mono ?_); rintro x w3 ⟨rfl, rfl⟩))
          go_ret
          exact ⟨ret_bool8 (by rw [HR.out]; simp [ret_bool8]), H0.out.2.2⟩
        | true =>
          by_cases r0 : 0 ≤ rob
          · by_cases r8 : rob < 8
            · cases x3 with
              | false =>
                have HR := zh HV
                clear HV
                go_wp2_with (first
                  | (go_at_call 136; (with_reducible refine (HX1.out _).mono ?_); rintro x w3 ⟨rfl, rfl⟩)
                  | (go_at_call 136; (with_reducible refine (HX2.out _).mono ?_); rintro x w3 ⟨rfl, rfl⟩)
                  | (go_at_call 135; (with_reducible refine (HS2.out).mono ?_); rintro x w4 ⟨rfl, hb4⟩; have H4 := zh (H0.out.below hb4); clear hb4 c0 c1 c2 c3 c4 c5 c6 c7 c8 c9 c10; obtain ⟨c0, c1, c2, c3, c4, c5, c6, c7, c8, c9, c10⟩ := HGD.out _ H4.out))
                go_ret
                exact ⟨ret_bool8 (by rw [HR.out]; simp [ret_bool8]), H4.out.2.2⟩
              | true =>
                by_cases l0 : src.length = 0
                · have tl : ((src.length : Int) == 0) = true := by rw [beq_iff_eq]; omega
                  have HL := zh l0
                  clear l0
                  have HR := zh HV
                  clear HV
                  go_wp2_with (first
                    | (go_at_call 136; (with_reducible refine (HX1.out _).mono ?_); rintro x w3 ⟨rfl, rfl⟩)
                    | (go_at_call 136; (with_reducible refine (HX2.out _).mono ?_); rintro x w3 ⟨rfl, rfl⟩)
                    | (go_at_call 135; (with_reducible refine (HS2.out).mono ?_); rintro x w4 ⟨rfl, hb4⟩; have H4 := zh (H0.out.below hb4); clear hb4 c0 c1 c2 c3 c4 c5 c6 c7 c8 c9 c10; obtain ⟨c0, c1, c2, c3, c4, c5, c6, c7, c8, c9, c10⟩ := HGD.out _ H4.out))
                  go_ret
                  exact ⟨ret_bool8 (by rw [HR.out]; simp [r0, r8, HL.out]), H4.out.2.2⟩
                · have tl : ((src.length : Int) == 0) = false := by rw [beq_eq_false_iff_ne]; omega
                  have HL := zh l0
                  clear l0
                  have HR := zh HV
                  clear HV
                  go_wp2_with (first
                    | (go_at_call 136; (with_reducible refine (HX1.out _).mono ?_); rintro x w3 ⟨rfl, rfl⟩)
                    | (go_at_call 136; (with_reducible refine (HX2.out _).mono ?_); rintro x w3 ⟨rfl, rfl⟩)
                    | (go_at_call 135; (with_reducible refine (HS2.out).mono ?_); rintro x w4 ⟨rfl, hb4⟩; have H4 := zh (H0.out.below hb4); clear hb4 c0 c1 c2 c3 c4 c5 c6 c7 c8 c9 c10; obtain ⟨c0, c1, c2, c3, c4, c5, c6, c7, c8, c9, c10⟩ := HGD.out _ H4.out))
                  go_ret
                  exact ⟨ret_bool8 (by rw [HR.out]; simp [r0, r8, HL.out]), H4.out.2.2⟩
            · have HR := zh HV
              clear HV
              go_wp2_with (first
                | (go_at_call 136; (with_reducible refine (HX1.out _).mono ?_); rintro x w3 ⟨rfl, rfl⟩)
                | (go_at_call 136; (with_reducible refine (HX2.out _).mono ?_); rintro x w3 ⟨rfl, rfl⟩))
              go_ret
              exact ⟨ret_bool8 (by rw [HR.out, decide_eq_false (show ¬ (0 ≤ rob ∧ rob < 8) by omega)]; simp), H0.out.2.2⟩
          · have HR := zh HV
            clear HV
            go_wp2_with (first
              | (go_at_call 136; (with_reducible refine (HX1.out _).mono ?_); rintro x w3 ⟨rfl, rfl⟩)
              | (go_at_call 136; (with_reducible refine (HX2.out _).mono ?_); rintro x w3 ⟨rfl, rfl⟩))
            go_ret
            exact ⟨ret_bool8 (by rw [HR.out, decide_eq_false (show ¬ (0 ≤ rob ∧ rob < 8) by omega)]; simp), H0.out.2.2⟩
    · rw [decide_eq_false zg] at q
      cases hgg : grp8 g with
      | false =>
        rw [hgg] at HG
        have HR := zh (show R = false by rw [hR]; simp [good8, lrcs, zg, hgg])
        clear hR hgg
        go_wp2_with (go_at_call 115; (with_reducible refine (HG.out _).mono ?_); rintro x w1 ⟨rfl, hb1⟩; have H1 := zh (H0.out.below hb1); clear hb1)
        go_ret
        exact ⟨ret_bool8 (by rw [HR.out]), H1.out.2.2⟩
      | true =>
        rw [hgg] at HG
        go_upto_region 27 with (go_at_call 115; (with_reducible refine (HG.out _).mono ?_); rintro x w1 ⟨rfl, hb1⟩; have H1 := zh (H0.out.below hb1); clear hb1; clear c0 c1 c2 c3 c4 c5 c6 c7 c8 c9 c10; obtain ⟨c0, c1, c2, c3, c4, c5, c6, c7, c8, c9, c10⟩ := HGD.out _ H1.out)
        obtain ⟨x1, hx1⟩ : ∃ b, b = exactN resp 16 255 := ⟨_, rfl⟩
        obtain ⟨x2, hx2⟩ : ∃ b, b = exactN every 16 255 := ⟨_, rfl⟩
        obtain ⟨x3, hx3⟩ : ∃ b, b = srcs8 src := ⟨_, rfl⟩
        have HV : R = (x1 && (x2 && (decide (0 ≤ rob ∧ rob < 8) && (x3 && (decide (g ≠ zeroA) || decide (src.length = 0)))))) := by
          rw [hR, hx1, hx2, hx3]; simp [good8, lrcs, zg, hgg]
        rw [← hx1] at HX1
        rw [← hx2] at HX2
        have HS2 := zh (HS.out _ H1.out.2.2)
        rw [← hx3] at HS2
        clear hR hx1 hx2 hx3 HS
        have HZ := zh zg
        cases x1 with
        | false =>
          have HR := zh HV
          clear HV
          go_wp2_with (first
            | (go_at_call 136; (with_reducible refine (HX1.out _).mono ?_); rintro x w3 ⟨rfl, rfl⟩))
          go_ret
          exact ⟨ret_bool8 (by rw [HR.out]; simp [HZ.out]), H1.out.2.2⟩
        | true =>
          cases x2 with
          | false =>
            have HR := zh HV
            clear HV
            go_wp2_with (first
              | (go_at_call 136; (with_reducible refine (HX1.out _).mono ?_); rintro x w3 ⟨rfl, rfl⟩)
              | (go_at_call 136; (with_reducible refine (HX2.out _).mono ?_); rintro x w3 ⟨rfl, rfl⟩))
            go_ret
            exact ⟨ret_bool8 (by rw [HR.out]; simp [HZ.out]), H1.out.2.2⟩
          | true =>
            by_cases r0 : 0 ≤ rob
            · by_cases r8 : rob < 8
              · cases x3 with
                | false =>
                  have HR := zh HV
                  clear HV
                  go_wp2_with (first
                    | (go_at_call 136; (with_reducible refine (HX1.out _).mono ?_); rintro x w3 ⟨rfl, rfl⟩)
                    | (go_at_call 136; (with_reducible refine (HX2.out _).mono ?_); rintro x w3 ⟨rfl, rfl⟩)
                    | (go_at_call 135; (with_reducible refine (HS2.out).mono ?_); rintro x w4 ⟨rfl, hb4⟩; have H4 := zh (H1.out.below hb4); clear hb4 c0 c1 c2 c3 c4 c5 c6 c7 c8 c9 c10; obtain ⟨c0, c1, c2, c3, c4, c5, c6, c7, c8, c9, c10⟩ := HGD.out _ H4.out))
                  go_ret
                  exact ⟨ret_bool8 (by rw [HR.out]; simp [HZ.out]), H4.out.2.2⟩
                | true =>
                  by_cases l0 : src.length = 0
                  · have tl : ((src.length : Int) == 0) = true := by rw [beq_iff_eq]; omega
                    have HL := zh l0
                    clear l0
                    have HR := zh HV
                    clear HV
                    go_wp2_with (first
                      | (go_at_call 136; (with_reducible refine (HX1.out _).mono ?_); rintro x w3 ⟨rfl, rfl⟩)
                      | (go_at_call 136; (with_reducible refine (HX2.out _).mono ?_); rintro x w3 ⟨rfl, rfl⟩)
                      | (go_at_call 135; (with_reducible refine (HS2.out).mono ?_); rintro x w4 ⟨rfl, hb4⟩; have H4 := zh (H1.out.below hb4); clear hb4 c0 c1 c2 c3 c4 c5 c6 c7 c8 c9 c10; obtain ⟨c0, c1, c2, c3, c4, c5, c6, c7, c8, c9, c10⟩ := HGD.out _ H4.out))
                    go_ret
                    exact ⟨ret_bool8 (by rw [HR.out]; simp [r0, r8, HL.out, HZ.out]), H4.out.2.2⟩
                  · have tl : ((src.length : Int) == 0) = false := by rw [beq_eq_false_iff_ne]; omega
                    have HL := zh l0
                    clear l0
                    have HR := zh HV
                    clear HV
                    go_wp2_with (first
                      | (go_at_call 136; (with_reducible refine (HX1.out _).mono ?_); rintro x w3 ⟨rfl, rfl⟩)
                      | (go_at_call 136; (with_reducible refine (HX2.out _).mono ?_); rintro x w3 ⟨rfl, rfl⟩)
                      | (go_at_call 135; (with_reducible refine (HS2.out).mono ?_); rintro x w4 ⟨rfl, hb4⟩; have H4 := zh (H1.out.below hb4); clear hb4 c0 c1 c2 c3 c4 c5 c6 c7 c8 c9 c10; obtain ⟨c0, c1, c2, c3, c4, c5, c6, c7, c8, c9, c10⟩ := HGD.out _ H4.out))
                    go_ret
                    exact ⟨ret_bool8 (by rw [HR.out]; simp [r0, r8, HL.out, HZ.out]), H4.out.2.2⟩
              · have HR := zh HV
                clear HV
                go_wp2_with (first
                  | (go_at_call 136; (with_reducible refine (HX1.out _).mono ?_); rintro x w3 ⟨rfl, rfl⟩)
                  | (go_at_call 136; (with_reducible refine (HX2.out _).mono ?_); rintro x w3 ⟨rfl, rfl⟩))
                go_ret
                exact ⟨ret_bool8 (by rw [HR.out, decide_eq_false (show ¬ (0 ≤ rob ∧ rob < 8) by omega)]; simp), H1.out.2.2⟩
            · have HR := zh HV
              clear HV
              go_wp2_with (first
                | (go_at_call 136; (with_reducible refine (HX1.out _).mono ?_); rintro x w3 ⟨rfl, rfl⟩)
                | (go_at_call 136; (with_reducible refine (HX2.out _).mono ?_); rintro x w3 ⟨rfl, rfl⟩))
              go_ret
              exact ⟨ret_bool8 (by rw [HR.out, decide_eq_false (show ¬ (0 ≤ rob ∧ rob < 8) by omega)]; simp), H1.out.2.2⟩
  · have prcs : 0 < rcs.length := Nat.pos_of_ne_zero lrcs
    have trcs : decide ((0 : Int) < (rcs.length : Int)) = true := by simp; omega
    have vrcs : decide (0 < rcs.length) = true := by simp; omega
    have HR := zh (show R = false by rw [hR]; simp [good8, prcs])
    clear hR
    go_wp2
    go_ret
    exact ⟨ret_bool8 (by rw [HR.out]), H0.out.2.2⟩
end Go.Proofs.YtlbdehegknehiaaGreat

/- A part of the proof. -/
namespace Go.Proofs.YtlbdehegknehiaaGreat
open Go.RowKit
theorem rgood8_any (t : TK) (us ur : Value) (w : World) (ho : t.ok) (hs : Ads w us t.src) (hr : Rcs w ur t.rcs) (hL : t.rcs.length ≤ 1000) :
    Calls Tryz.prog 62 #[.agg (tkC t us ur).toArray] w fun x w' => x = .returned (.bool (good8 t)) ∧ Below w.heap.size w w' := by
  by_cases hb : t.v6 = true ∨ t.ver < 1 ∨ 3 < t.ver ∨ t.kind < 1 ∨ 3 < t.kind
  · exact rgood8_bad t us ur w ho hs hr hb _ rfl
  have hv6 : t.v6 = false := by
    cases h : t.v6
    · rfl
    · exact absurd (Or.inl h) hb
  have h1 : t.ver = 1 ∨ t.ver = 2 ∨ t.ver = 3 := by omega
  have h2 : t.kind = 1 ∨ t.kind = 2 ∨ t.kind = 3 := by omega
  rcases h1 with v | v | v <;> rcases h2 with k | k | k
  · exact rgood8_11 t us ur w ho hs hr hv6 v k _ rfl
  · exact rgood8_12 t us ur w ho hs hr hv6 v k _ rfl
  · exact rgood8_13 t us ur w ho hs hr hv6 v k _ rfl
  · exact rgood8_21 t us ur w ho hs hr hv6 v k _ rfl
  · exact rgood8_22 t us ur w ho hs hr hv6 v k _ rfl
  · exact rgood8_23 t us ur w ho hs hr hv6 v k _ rfl
  · exact rgood8_31 t us ur w ho hs hr hv6 v k _ rfl
  · exact rgood8_32 t us ur w ho hs hr hv6 v k hL _ rfl
  · exact rgood8_33 t us ur w ho hs hr hv6 v k _ rfl
end Go.Proofs.YtlbdehegknehiaaGreat

/- A part of the proof. -/
namespace Go.Proofs.YtlbdehegknehiaaGreat
set_option maxRecDepth 100000
set_option maxHeartbeats 4000000
open Go.RowKit
set_option linter.unusedVariables false
set_option linter.unusedSimpArgs false
attribute [local go_sem ↓] ld_addr st_addr bld_addr ld_tk st_tk bld_tk
attribute [local go_sem] ldr_addr str_addr ldr_tk str_tk row?_drewN_eq row?_drew_eq
theorem bld_v (v : Bool) (w : World) : (aggBuild 24 #[(0, .bool v)]).run Tryz.prog w = .ok (.agg (adC (v, [0, 0, 0, 0, 0, 0, 0, 0, 0, 0, 0, 0, 0, 0, 0, 0])).toArray) w := bld_run _ _ _ (by kernel_rfl) _
theorem resDone' {w W : World} {n : Nat} {c : Array Value} {T : TypeId} (h : ObjAt W n c T) (hb : Below w.heap.size w W) (hn : w.heap.size ≤ n) (L : List Value) (hL : L.length = c.size) : row? (aggW W n L) n 0 c.size = some L ∧ Below w.heap.size w (aggW W n L) :=
  ⟨aggW_row (obj_free h (Nat.le_refl _)) hL, aggW_below hb hn _⟩
theorem ron_6 (k : UInt8) (w : World) : Calls Tryz.prog 63 #[.bool true, .int .u8 (k.toNat : Int)] w fun x w' => x = .returned (.agg (adC (onL true k)).toArray) ∧ Below w.heap.size w w' := by
  have H0 := zh (ObjAt.made w zz17 24)
  have HB := zh (bbox w (.cells zz17 24))
  have hbl := fun w0 => bld_v true w0
  have hfm := fun W => fmade W zz17 24 17 rfl
  have hk0 := fok_addr true [0, 0, 0, 0, 0, 0, 0, 0, 0, 0, 0, 0, 0, 0, 0, 0] rfl
  rw [show addrC true [0, 0, 0, 0, 0, 0, 0, 0, 0, 0, 0, 0, 0, 0, 0, 0] = adC (true, [0, 0, 0, 0, 0, 0, 0, 0, 0, 0, 0, 0, 0, 0, 0, 0]) from rfl] at hk0
  have hk := fok_addr (onL true k).1 (onL true k).2 (onL_ok _ _)
  rw [show addrC (onL true k).1 (onL true k).2 = adC (onL true k) from rfl] at hk
  obtain ⟨A, hA⟩ : ∃ A, A = adC (onL true k) := ⟨_, rfl⟩
  have HAL : Hid (A.length = 17) := zh (by rw [hA]; rfl)
  rw [← hA] at hk ⊢
  obtain ⟨kn, hkn⟩ : ∃ kn : Int, kn = (k.toNat : Int) := ⟨_, rfl⟩
  have HA := zh hA
  have HKN := zh hkn
  rw [← hkn]
  clear hA hkn
  go_enter Tryz.func63, Tryz.ntmps63
  go_upto_region 1 with (fail)
  generalize w.alloc _ = W at H0 HB ⊢
  have H2 := zh (Bo2.made (Z := zz17) (U := 24) (L := adC (true, [0, 0, 0, 0, 0, 0, 0, 0, 0, 0, 0, 0, 0, 0, 0, 0])) H0.out HB.out rfl (addrC_one _ _))
  go_upto_region 2 with (fail)
  generalize aggW (W.alloc _) W.heap.size _ = W2 at H2 ⊢
  generalize W.heap.size = m at H2 ⊢
  clear hfm hbl hk0 H0 HB
  have c0 : W2.cell? ⟨m, 1, none⟩ = some (.int .u8 0) := obj_ce H2.out.two (A := (adC (true, [0, 0, 0, 0, 0, 0, 0, 0, 0, 0, 0, 0, 0, 0, 0, 0])).take 1) (C := (adC (true, [0, 0, 0, 0, 0, 0, 0, 0, 0, 0, 0, 0, 0, 0, 0, 0])).drop 2) rfl rfl
  have c1 : W2.cell? ⟨m, 2, none⟩ = some (.int .u8 0) := obj_ce H2.out.two (A := (adC (true, [0, 0, 0, 0, 0, 0, 0, 0, 0, 0, 0, 0, 0, 0, 0, 0])).take 2) (C := (adC (true, [0, 0, 0, 0, 0, 0, 0, 0, 0, 0, 0, 0, 0, 0, 0, 0])).drop 3) rfl rfl
  have c15 : W2.cell? ⟨m, 16, none⟩ = some (.int .u8 0) := obj_ce H2.out.two (A := (adC (true, [0, 0, 0, 0, 0, 0, 0, 0, 0, 0, 0, 0, 0, 0, 0, 0])).take 16) (C := (adC (true, [0, 0, 0, 0, 0, 0, 0, 0, 0, 0, 0, 0, 0, 0, 0, 0])).drop 17) rfl rfl
  have f0 := ObjAt.free H2.out.two 1
  have f1 := ObjAt.free H2.out.two 2
  have f15 := ObjAt.free H2.out.two 16
  have H3 : Hid (Bo2 w _ m zz17 24 A 24) := zh (by
    have := (((H2.out.set 1 (.int .u8 255)).set 2 (.int .u8 2)).set 16 (.int .u8 kn))
    rw [show (List.set (List.set (List.set (adC (true, [0, 0, 0, 0, 0, 0, 0, 0, 0, 0, 0, 0, 0, 0, 0, 0])) 1 (.int .u8 255)) 2 (.int .u8 2)) 16 (.int .u8 kn)) = A by rw [HA.out, HKN.out]; rfl] at this
    exact this)
  go_upto_region 5 with (fail)
  generalize (World.setCell (World.setCell (World.setCell W2 _ _) _ _) _ _) = W3 at H3 ⊢
  have r3 : row? W3 m 0 17 = some A := obj_re H3.out.two (A := []) (M := A) (C := []) (by simp) rfl HAL.out
  have hfr := obj_free_at H3.out.one 0 17 (Nat.le_refl _)
  go_wp2
  obtain ⟨q1, q2⟩ := resDone' H3.out.one H3.out.blw (Nat.le_refl _) A HAL.out
  exact bodyPost_ret (results_cell Tryz.results63 rfl (ld_some q1 (ldr_addr _ _ _))) rfl ⟨rfl, q2⟩
theorem ron_4 (k : UInt8) (w : World) : Calls Tryz.prog 63 #[.bool false, .int .u8 (k.toNat : Int)] w fun x w' => x = .returned (.agg (adC (onL false k)).toArray) ∧ Below w.heap.size w w' := by
  have H0 := zh (ObjAt.made w zz17 24)
  have HB := zh (bbox w (.cells zz17 24))
  have hbl := fun w0 => bld_v false w0
  have hfm := fun W => fmade W zz17 24 17 rfl
  have hk0 := fok_addr false [0, 0, 0, 0, 0, 0, 0, 0, 0, 0, 0, 0, 0, 0, 0, 0] rfl
  rw [show addrC false [0, 0, 0, 0, 0, 0, 0, 0, 0, 0, 0, 0, 0, 0, 0, 0] = adC (false, [0, 0, 0, 0, 0, 0, 0, 0, 0, 0, 0, 0, 0, 0, 0, 0]) from rfl] at hk0
  have hk := fok_addr (onL false k).1 (onL false k).2 (onL_ok _ _)
  rw [show addrC (onL false k).1 (onL false k).2 = adC (onL false k) from rfl] at hk
  obtain ⟨A, hA⟩ : ∃ A, A = adC (onL false k) := ⟨_, rfl⟩
  have HAL : Hid (A.length = 17) := zh (by rw [hA]; rfl)
  rw [← hA] at hk ⊢
  obtain ⟨kn, hkn⟩ : ∃ kn : Int, kn = (k.toNat : Int) := ⟨_, rfl⟩
  have HA := zh hA
  have HKN := zh hkn
  rw [← hkn]
  clear hA hkn
  go_enter Tryz.func63, Tryz.ntmps63
  go_upto_region 1 with (fail)
  generalize w.alloc _ = W at H0 HB ⊢
  have H2 := zh (Bo2.made (Z := zz17) (U := 24) (L := adC (false, [0, 0, 0, 0, 0, 0, 0, 0, 0, 0, 0, 0, 0, 0, 0, 0])) H0.out HB.out rfl (addrC_one _ _))
  go_upto_region 2 with (fail)
  generalize aggW (W.alloc _) W.heap.size _ = W2 at H2 ⊢
  generalize W.heap.size = m at H2 ⊢
  clear hfm hbl hk0 H0 HB
  have c0 : W2.cell? ⟨m, 1, none⟩ = some (.int .u8 0) := obj_ce H2.out.two (A := (adC (false, [0, 0, 0, 0, 0, 0, 0, 0, 0, 0, 0, 0, 0, 0, 0, 0])).take 1) (C := (adC (false, [0, 0, 0, 0, 0, 0, 0, 0, 0, 0, 0, 0, 0, 0, 0, 0])).drop 2) rfl rfl
  have c3 : W2.cell? ⟨m, 4, none⟩ = some (.int .u8 0) := obj_ce H2.out.two (A := (adC (false, [0, 0, 0, 0, 0, 0, 0, 0, 0, 0, 0, 0, 0, 0, 0, 0])).take 4) (C := (adC (false, [0, 0, 0, 0, 0, 0, 0, 0, 0, 0, 0, 0, 0, 0, 0, 0])).drop 5) rfl rfl
  have f0 := ObjAt.free H2.out.two 1
  have f3 := ObjAt.free H2.out.two 4
  have H3 : Hid (Bo2 w _ m zz17 24 A 24) := zh (by
    have := ((H2.out.set 1 (.int .u8 224)).set 4 (.int .u8 kn))
    rw [show (List.set (List.set (adC (false, [0, 0, 0, 0, 0, 0, 0, 0, 0, 0, 0, 0, 0, 0, 0, 0])) 1 (.int .u8 224)) 4 (.int .u8 kn)) = A by rw [HA.out, HKN.out]; rfl] at this
    exact this)
  go_upto_region 5 with (fail)
  generalize (World.setCell (World.setCell W2 _ _) _ _) = W3 at H3 ⊢
  have r3 : row? W3 m 0 17 = some A := obj_re H3.out.two (A := []) (M := A) (C := []) (by simp) rfl HAL.out
  have hfr := obj_free_at H3.out.one 0 17 (Nat.le_refl _)
  go_wp2
  obtain ⟨q1, q2⟩ := resDone' H3.out.one H3.out.blw (Nat.le_refl _) A HAL.out
  exact bodyPost_ret (results_cell Tryz.results63 rfl (ld_some q1 (ldr_addr _ _ _))) rfl ⟨rfl, q2⟩
theorem ron_any (v : Bool) (k : UInt8) (w : World) : Calls Tryz.prog 63 #[.bool v, .int .u8 (k.toNat : Int)] w fun x w' => x = .returned (.agg (adC (onL v k)).toArray) ∧ Below w.heap.size w w' := by
  cases v
  · exact ron_4 k w
  · exact ron_6 k w
theorem rtalk_any (t : TK) (us ur : Value) (w : World) (ho : t.ok) (hs : Ads w us t.src) (hr : Rcs w ur t.rcs) (hL : t.rcs.length ≤ 1000) : Calls Tryz.prog 19 #[.agg (tkC t us ur).toArray] w fun x w' => x = .returned (.bool (gdT t)) ∧ Below w.heap.size w w' := by
  have H0 := zh (TkAt.made w t us ur ho.1)
  have HB := zh (bbox w (.cells (tkC t us ur).toArray 28))
  have H8 := zh (fun W (h : Below w.heap.size w W) => rgood8_any t us ur W ho (hs.below h) (hr.below h) hL)
  have H9 := zh (fun W (h : Below w.heap.size w W) => rgood9_any t us ur W ho (hs.below h) (hr.below h) hL)
  obtain ⟨R, hR⟩ : ∃ R, R = gdT t := ⟨_, rfl⟩
  rw [← hR]
  rw [← talkR_eq, talkR] at hR
  have HR := zh hR; clear hR ho hs hr hL
  go_enter Tryz.func19, Tryz.ntmps19
  go_upto_region 1 with (fail)
  generalize w.alloc (.cells (tkC t us ur).toArray 28) = W at H0 HB ⊢
  have c0 := H0.out.v6
  have r0 := H0.out.row
  cases hv : t.v6 with
  | true =>
    rw [hv] at c0 HR
    have HVV := zh hv
    cases h9 : good9 t
    all_goals (
      rw [h9] at H9 HR
      clear hv h9
      go_wp2_with (go_at_call 61; (with_reducible refine (H9.out _ HB.out).mono ?_); rintro x wn ⟨rfl, hb⟩; replace H0 := zh (H0.out.below hb); replace HB := zh (bstep HB.out hb); clear hb c0 r0; have c0 := H0.out.v6; rw [HVV.out] at c0)
      go_ret
      exact ⟨ret_boolF (by rw [HR.out]; simp), HB.out⟩)
  | false =>
    rw [hv] at c0 HR
    clear hv
    go_wp2_with (go_at_call 62; (with_reducible refine (H8.out _ HB.out).mono ?_); rintro x wn ⟨rfl, hb⟩; replace HB := zh (bstep HB.out hb); clear hb)
    go_ret
    exact ⟨ret_boolF (by rw [HR.out]; simp), HB.out⟩
theorem rdest_any (t : TK) (us ur : Value) (w : World) (ho : t.ok) : Calls Tryz.prog 20 #[.agg (tkC t us ur).toArray] w fun x w' => x = .returned (.agg (adC (destR t)).toArray) ∧ Below w.heap.size w w' := by
  have H0 := zh (Bx.made w (tkC t us ur).toArray 28 (adC zeroA).toArray 24)
  have HZ : Hid (∀ W, Calls Tryz.prog 32 #[.agg (adC t.g).toArray] W fun e w' => e = .returned (.bool (zerA t.g)) ∧ Below W.heap.size W w') := zh (fun W => rzero_any t.g.1 t.g.2 ho.1 W)
  have HN1 : Hid (∀ W, Calls Tryz.prog 63 #[.bool t.v6, .int .u8 1] W fun x w' => x = .returned (.agg (adC (onL t.v6 1)).toArray) ∧ Below W.heap.size W w') := zh fun W => ron_any t.v6 1 W
  have HN22 : Hid (∀ W, Calls Tryz.prog 63 #[.bool t.v6, .int .u8 22] W fun x w' => x = .returned (.agg (adC (onL t.v6 22)).toArray) ∧ Below W.heap.size W w') := zh fun W => ron_any t.v6 22 W
  have HN2 : Hid (∀ W, Calls Tryz.prog 63 #[.bool t.v6, .int .u8 2] W fun x w' => x = .returned (.agg (adC (onL t.v6 2)).toArray) ∧ Below W.heap.size W w') := zh fun W => ron_any t.v6 2 W
  have HV := zh (fun W (h : Bx w W (tkC t us ur).toArray 28 (adC zeroA).toArray 24) => TkAt.view (⟨h.one, ho.1⟩ : TkAt W w.heap.size t us ur))
  have HOG := zh ho.1
  have k1 := fok_addr (onL t.v6 1).1 (onL t.v6 1).2 (onL_ok _ _)
  have k22 := fok_addr (onL t.v6 22).1 (onL t.v6 22).2 (onL_ok _ _)
  have k2 := fok_addr (onL t.v6 2).1 (onL t.v6 2).2 (onL_ok _ _)
  have kg := fok_addr t.g.1 t.g.2 ho.1
  rw [show addrC (onL t.v6 1).1 (onL t.v6 1).2 = adC (onL t.v6 1) from rfl] at k1
  rw [show addrC (onL t.v6 22).1 (onL t.v6 22).2 = adC (onL t.v6 22) from rfl] at k22
  rw [show addrC (onL t.v6 2).1 (onL t.v6 2).2 = adC (onL t.v6 2) from rfl] at k2
  rw [show addrC t.g.1 t.g.2 = adC t.g from rfl] at kg
  obtain ⟨A, hA⟩ : ∃ A, A = destR t := ⟨_, rfl⟩
  rw [← hA]
  unfold destR at hA
  have HO1 := zh (onL_ok t.v6 1)
  have HO22 := zh (onL_ok t.v6 22)
  have HO2 := zh (onL_ok t.v6 2)
  generalize zerA t.g = z at HZ hA
  generalize onL t.v6 1 = N1 at HN1 hA k1 HO1
  generalize onL t.v6 22 = N22 at HN22 hA k22 HO22
  generalize onL t.v6 2 = N2 at HN2 hA k2 HO2
  generalize t.kind = kind at HV hA
  generalize t.ver = ver at HV hA
  generalize t.v6 = v6 at HV HN1 HN2 HN22 hA
  generalize t.g = g at HV hA HZ kg HOG
  have HA := zh hA
  clear hA ho
  generalize tkC t us ur = L at H0 HV ⊢
  rw [zeroA_cells] at H0
  go_enter Tryz.func20, Tryz.ntmps20
  go_upto_region 1 with (fail)
  generalize (w.alloc (.cells L.toArray 28)).alloc _ = W at H0 ⊢
  rw [← zeroA_cells] at H0
  obtain ⟨c0, c1, c2, c3, c4⟩ := HV.out _ H0.out
  have hfr := H0.out.free 17 (Nat.le_of_eq rfl)
  by_cases e3 : kind = 3
  · subst e3
    obtain rfl : A = N2 := by rw [HA.out]; simp
    go_wp2_with (first
        | (go_at_call 63; (with_reducible refine (HN2.out _).mono ?_); rintro x wn ⟨rfl, hb⟩; replace H0 := zh (H0.out.below hb); clear hb c0 c1 c2 c3 c4; obtain ⟨c0, c1, c2, c3, c4⟩ := HV.out _ H0.out; have hfr := H0.out.free 17 (Nat.le_of_eq rfl)))
    obtain ⟨q1, q2⟩ := H0.out.done (adC A) (adC_length HO2.out)
    exact bodyPost_ret (results_cell Tryz.results20 rfl (ld_some q1 (ldr_addr _ _ _))) rfl ⟨rfl, q2⟩
  · have t3 : (kind == 3) = false := by simpa using e3
    by_cases e1 : kind = 1
    · subst e1
      cases z with
      | true =>
        obtain rfl : A = N1 := by rw [HA.out]; simp
        go_wp2_with (first
            | (go_at_call 32; (with_reducible refine (HZ.out _).mono ?_); rintro x wn ⟨rfl, hb⟩; replace H0 := zh (H0.out.below hb); clear hb c0 c1 c2 c3 c4; obtain ⟨c0, c1, c2, c3, c4⟩ := HV.out _ H0.out; have hfr := H0.out.free 17 (Nat.le_of_eq rfl))
            | (go_at_call 63; (with_reducible refine (HN1.out _).mono ?_); rintro x wn ⟨rfl, hb⟩; replace H0 := zh (H0.out.below hb); clear hb c0 c1 c2 c3 c4; obtain ⟨c0, c1, c2, c3, c4⟩ := HV.out _ H0.out; have hfr := H0.out.free 17 (Nat.le_of_eq rfl)))
        obtain ⟨q1, q2⟩ := H0.out.done (adC A) (adC_length HO1.out)
        exact bodyPost_ret (results_cell Tryz.results20 rfl (ld_some q1 (ldr_addr _ _ _))) rfl ⟨rfl, q2⟩
      | false =>
        obtain rfl : A = g := by rw [HA.out]; simp
        go_wp2_with (first
            | (go_at_call 32; (with_reducible refine (HZ.out _).mono ?_); rintro x wn ⟨rfl, hb⟩; replace H0 := zh (H0.out.below hb); clear hb c0 c1 c2 c3 c4; obtain ⟨c0, c1, c2, c3, c4⟩ := HV.out _ H0.out; have hfr := H0.out.free 17 (Nat.le_of_eq rfl)))
        obtain ⟨q1, q2⟩ := H0.out.done (adC A) (adC_length HOG.out)
        exact bodyPost_ret (results_cell Tryz.results20 rfl (ld_some q1 (ldr_addr _ _ _))) rfl ⟨rfl, q2⟩
    · have t1 : (kind == 1) = false := by simpa using e1
      by_cases e2 : kind = 2
      · subst e2
        by_cases ev : ver = 3
        · subst ev
          obtain rfl : A = N22 := by rw [HA.out]; simp
          go_wp2_with (first
              | (go_at_call 63; (with_reducible refine (HN22.out _).mono ?_); rintro x wn ⟨rfl, hb⟩; replace H0 := zh (H0.out.below hb); clear hb c0 c1 c2 c3 c4; obtain ⟨c0, c1, c2, c3, c4⟩ := HV.out _ H0.out; have hfr := H0.out.free 17 (Nat.le_of_eq rfl)))
          obtain ⟨q1, q2⟩ := H0.out.done (adC A) (adC_length HO22.out)
          exact bodyPost_ret (results_cell Tryz.results20 rfl (ld_some q1 (ldr_addr _ _ _))) rfl ⟨rfl, q2⟩
        · have tv : (ver == 3) = false := by simpa using ev
          cases v6 with
          | false =>
            obtain rfl : A = g := by rw [HA.out]; simp [ev]
            go_wp2
            obtain ⟨q1, q2⟩ := H0.out.done (adC A) (adC_length HOG.out)
            exact bodyPost_ret (results_cell Tryz.results20 rfl (ld_some q1 (ldr_addr _ _ _))) rfl ⟨rfl, q2⟩
          | true =>
            by_cases ew : ver = 2
            · subst ew
              obtain rfl : A = N22 := by rw [HA.out]; simp
              go_wp2_with (first
                  | (go_at_call 63; (with_reducible refine (HN22.out _).mono ?_); rintro x wn ⟨rfl, hb⟩; replace H0 := zh (H0.out.below hb); clear hb c0 c1 c2 c3 c4; obtain ⟨c0, c1, c2, c3, c4⟩ := HV.out _ H0.out; have hfr := H0.out.free 17 (Nat.le_of_eq rfl)))
              obtain ⟨q1, q2⟩ := H0.out.done (adC A) (adC_length HO22.out)
              exact bodyPost_ret (results_cell Tryz.results20 rfl (ld_some q1 (ldr_addr _ _ _))) rfl ⟨rfl, q2⟩
            · have tw : (ver == 2) = false := by simpa using ew
              obtain rfl : A = g := by rw [HA.out]; simp [ev, ew]
              go_wp2
              obtain ⟨q1, q2⟩ := H0.out.done (adC A) (adC_length HOG.out)
              exact bodyPost_ret (results_cell Tryz.results20 rfl (ld_some q1 (ldr_addr _ _ _))) rfl ⟨rfl, q2⟩
      · have t2 : (kind == 2) = false := by simpa using e2
        obtain rfl : A = g := by rw [HA.out]; simp [e1, e2, e3]
        go_wp2
        obtain ⟨q1, q2⟩ := H0.out.done (adC A) (adC_length HOG.out)
        exact bodyPost_ret (results_cell Tryz.results20 rfl (ld_some q1 (ldr_addr _ _ _))) rfl ⟨rfl, q2⟩
end Go.Proofs.YtlbdehegknehiaaGreat


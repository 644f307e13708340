/-
  The document's own Good of layer 8: elder versions.
-/
import Derived.Test.YtacnhelnpngkgaaMg16
namespace Go.Proofs.Ytacnhelnpngkgaa
open Go.RowKit
set_option linter.unusedVariables false
set_option linter.unusedSimpArgs false
attribute [local go_sem ↓] ld_addr st_addr bld_addr
attribute [local go_sem] ldr_addr str_addr


set_option maxRecDepth 100000 in
set_option maxHeartbeats 4000000 in
theorem rgood8_13 (t : TK) (us ur : Value) (w : World) (ho : t.ok) (hs : Ads w us t.src) (hr : Rcs w ur t.rcs) (hv6 : t.v6 = false) (hve : t.ver = 1) (hki : t.kind = 3) (R : Bool) (hR : R = good8 t) :
    Calls Try.prog 23 #[.agg (tkC t us ur).toArray] w fun x w' => x = .returned (.bool R) ∧ Below w.heap.size w w' := by
  have H0 := Lib.hid (GD.made w t us ur ho.1)
  have HGD : Hid (∀ W, GD w W t us ur → GC w W t us ur) := Lib.hid fun W h => h.cells
  have HG := Lib.hid (fun W => rgroup8_any t.g ho.1 W)
  have HX1 := Lib.hid (fun W => rexact8 t.resp W)
  have HX2 := Lib.hid (fun W => rexact8 t.every W)
  have HS := Lib.hid (fun W (h : Below w.heap.size w W) => rsources8_any us t.src W (hs.below h))
  have q := fun w0 => eq_ad t.g zeroA ho.1 zeroA_ok w0
  have hbz := bld_zeroA
  have hfz : fok (adC zeroA).toArray 17 = true := fok_addr false _ zeroA_ok
  have hfm := free_made (w.alloc (.cells (tkC t us ur).toArray 28)) #[.bool false, .int .u8 0, .int .u8 0, .int .u8 0, .int .u8 0, .int .u8 0, .int .u8 0, .int .u8 0, .int .u8 0, .int .u8 0, .int .u8 0, .int .u8 0, .int .u8 0, .int .u8 0, .int .u8 0, .int .u8 0, .int .u8 0] 24 17 (by simp)
  rw [show (w.alloc (.cells (tkC t us ur).toArray 28)).heap.size = w.heap.size + 1 by simp] at hfm
  obtain ⟨pu, cu, e1, hu1, hu2⟩ := hs.len
  obtain ⟨pr, cr, e2, hr1, hr2⟩ := hr.len
  have hm1 : t.src.length ≤ maxLen := by omega
  have hm2 : t.rcs.length ≤ maxLen := by omega
  unfold maxLen at hm1 hm2
  clear hs hr hu1 hu2 hr1 hr2 ho
  obtain ⟨v6, ver, kind, resp, g, quiet, rob, every, src, rcs⟩ := t
  simp only at *
  subst e1 e2 hv6 hve hki
  have H0 := Lib.hid H0.out
  go_enter Try.func23, Try.ntmps23
  go_upto_region 2 with (fail)
  generalize aggW ((w.alloc (.cells (tkC _ _ _).toArray 28)).alloc (.cells #[.bool false, .int .u8 0, .int .u8 0, .int .u8 0, .int .u8 0, .int .u8 0, .int .u8 0, .int .u8 0, .int .u8 0, .int .u8 0, .int .u8 0, .int .u8 0, .int .u8 0, .int .u8 0, .int .u8 0, .int .u8 0, .int .u8 0] 24)) (w.heap.size + 1) _ = W at H0 ⊢
  obtain ⟨c0, c1, c2, c3, c4, c5, c6, c7, c8, c9, c10⟩ := HGD.out _ H0.out
  clear hfm hbz hfz
  cases quiet with
  | true =>
    have HR := Lib.hid (show R = false by rw [hR]; simp [good8, hR])
    clear hR
    go_wp2
    go_ret
    exact ⟨ret_bool8 (by rw [HR.out]), H0.out.2.2⟩
  | false =>
    by_cases zrob : rob = 0
    · have trob : (rob != 0) = false := by simp [zrob]
      by_cases zevery : every = 0
      · have tevery : (every != 0) = false := by simp [zevery]
        by_cases lsrc : src.length = 0
        · have tsrc : decide ((0 : Int) < (src.length : Int)) = false := by simp [lsrc]
          have vsrc : decide (0 < src.length) = false := by simp [lsrc]
          by_cases zresp : resp = 0
          · have tresp : (resp != 0) = false := by simp [zresp]
            by_cases lrcs : rcs.length = 0
            · have trcs : decide ((0 : Int) < (rcs.length : Int)) = false := by simp [lrcs]
              have vrcs : decide (0 < rcs.length) = false := by simp [lrcs]
              have HR := Lib.hid (show R = false by rw [hR]; simp [good8, zrob, zevery, lsrc, zresp, lrcs])
              clear hR
              go_wp2
              go_ret
              exact ⟨ret_bool8 (by rw [HR.out]), H0.out.2.2⟩
            · have prcs : 0 < rcs.length := Nat.pos_of_ne_zero lrcs
              have trcs : decide ((0 : Int) < (rcs.length : Int)) = true := by simp; omega
              have vrcs : decide (0 < rcs.length) = true := by simp; omega
              have HR := Lib.hid (show R = false by rw [hR]; simp [good8, zrob, zevery, lsrc, zresp, prcs])
              clear hR
              go_wp2
              go_ret
              exact ⟨ret_bool8 (by rw [HR.out]), H0.out.2.2⟩
          · have tresp : (resp != 0) = true := by simp [zresp]
            have HR := Lib.hid (show R = false by rw [hR]; simp [good8, zrob, zevery, lsrc, zresp])
            clear hR
            go_wp2
            go_ret
            exact ⟨ret_bool8 (by rw [HR.out]), H0.out.2.2⟩
        · have psrc : 0 < src.length := Nat.pos_of_ne_zero lsrc
          have tsrc : decide ((0 : Int) < (src.length : Int)) = true := by simp; omega
          have vsrc : decide (0 < src.length) = true := by simp; omega
          have HR := Lib.hid (show R = false by rw [hR]; simp [good8, zrob, zevery, psrc])
          clear hR
          go_wp2
          go_ret
          exact ⟨ret_bool8 (by rw [HR.out]), H0.out.2.2⟩
      · have tevery : (every != 0) = true := by simp [zevery]
        have HR := Lib.hid (show R = false by rw [hR]; simp [good8, zrob, zevery])
        clear hR
        go_wp2
        go_ret
        exact ⟨ret_bool8 (by rw [HR.out]), H0.out.2.2⟩
    · have trob : (rob != 0) = true := by simp [zrob]
      have HR := Lib.hid (show R = false by rw [hR]; simp [good8, zrob])
      clear hR
      go_wp2
      go_ret
      exact ⟨ret_bool8 (by rw [HR.out]), H0.out.2.2⟩


set_option maxRecDepth 100000 in
set_option maxHeartbeats 4000000 in
theorem rgood8_23 (t : TK) (us ur : Value) (w : World) (ho : t.ok) (hs : Ads w us t.src) (hr : Rcs w ur t.rcs) (hv6 : t.v6 = false) (hve : t.ver = 2) (hki : t.kind = 3) (R : Bool) (hR : R = good8 t) :
    Calls Try.prog 23 #[.agg (tkC t us ur).toArray] w fun x w' => x = .returned (.bool R) ∧ Below w.heap.size w w' := by
  have H0 := Lib.hid (GD.made w t us ur ho.1)
  have HGD : Hid (∀ W, GD w W t us ur → GC w W t us ur) := Lib.hid fun W h => h.cells
  have HG := Lib.hid (fun W => rgroup8_any t.g ho.1 W)
  have HX1 := Lib.hid (fun W => rexact8 t.resp W)
  have HX2 := Lib.hid (fun W => rexact8 t.every W)
  have HS := Lib.hid (fun W (h : Below w.heap.size w W) => rsources8_any us t.src W (hs.below h))
  have q := fun w0 => eq_ad t.g zeroA ho.1 zeroA_ok w0
  have hbz := bld_zeroA
  have hfz : fok (adC zeroA).toArray 17 = true := fok_addr false _ zeroA_ok
  have hfm := free_made (w.alloc (.cells (tkC t us ur).toArray 28)) #[.bool false, .int .u8 0, .int .u8 0, .int .u8 0, .int .u8 0, .int .u8 0, .int .u8 0, .int .u8 0, .int .u8 0, .int .u8 0, .int .u8 0, .int .u8 0, .int .u8 0, .int .u8 0, .int .u8 0, .int .u8 0, .int .u8 0] 24 17 (by simp)
  rw [show (w.alloc (.cells (tkC t us ur).toArray 28)).heap.size = w.heap.size + 1 by simp] at hfm
  obtain ⟨pu, cu, e1, hu1, hu2⟩ := hs.len
  obtain ⟨pr, cr, e2, hr1, hr2⟩ := hr.len
  have hm1 : t.src.length ≤ maxLen := by omega
  have hm2 : t.rcs.length ≤ maxLen := by omega
  unfold maxLen at hm1 hm2
  clear hs hr hu1 hu2 hr1 hr2 ho
  obtain ⟨v6, ver, kind, resp, g, quiet, rob, every, src, rcs⟩ := t
  simp only at *
  subst e1 e2 hv6 hve hki
  have H0 := Lib.hid H0.out
  go_enter Try.func23, Try.ntmps23
  go_upto_region 2 with (fail)
  generalize aggW ((w.alloc (.cells (tkC _ _ _).toArray 28)).alloc (.cells #[.bool false, .int .u8 0, .int .u8 0, .int .u8 0, .int .u8 0, .int .u8 0, .int .u8 0, .int .u8 0, .int .u8 0, .int .u8 0, .int .u8 0, .int .u8 0, .int .u8 0, .int .u8 0, .int .u8 0, .int .u8 0, .int .u8 0] 24)) (w.heap.size + 1) _ = W at H0 ⊢
  obtain ⟨c0, c1, c2, c3, c4, c5, c6, c7, c8, c9, c10⟩ := HGD.out _ H0.out
  clear hfm hbz hfz
  cases quiet with
  | true =>
    have HR := Lib.hid (show R = false by rw [hR]; simp [good8, hR])
    clear hR
    go_wp2
    go_ret
    exact ⟨ret_bool8 (by rw [HR.out]), H0.out.2.2⟩
  | false =>
    by_cases zrob : rob = 0
    · have trob : (rob != 0) = false := by simp [zrob]
      by_cases zevery : every = 0
      · have tevery : (every != 0) = false := by simp [zevery]
        by_cases lsrc : src.length = 0
        · have tsrc : decide ((0 : Int) < (src.length : Int)) = false := by simp [lsrc]
          have vsrc : decide (0 < src.length) = false := by simp [lsrc]
          by_cases zresp : resp = 0
          · have tresp : (resp != 0) = false := by simp [zresp]
            by_cases lrcs : rcs.length = 0
            · have trcs : decide ((0 : Int) < (rcs.length : Int)) = false := by simp [lrcs]
              have vrcs : decide (0 < rcs.length) = false := by simp [lrcs]
              have HR := Lib.hid (show R = grp8 g by rw [hR]; simp [good8, zrob, zevery, lsrc, zresp, lrcs])
              clear hR
              generalize grp8 g = gg at *
              go_wp2_with (go_at_call 35; (with_reducible refine (HG.out _).mono ?_); rintro x w1 ⟨rfl, hb1⟩; have H1 := Lib.hid (H0.out.below hb1); clear hb1)
              go_ret
              exact ⟨ret_bool8 (by rw [HR.out]), H1.out.2.2⟩
            · have prcs : 0 < rcs.length := Nat.pos_of_ne_zero lrcs
              have trcs : decide ((0 : Int) < (rcs.length : Int)) = true := by simp; omega
              have vrcs : decide (0 < rcs.length) = true := by simp; omega
              have HR := Lib.hid (show R = false by rw [hR]; simp [good8, zrob, zevery, lsrc, zresp, prcs])
              clear hR
              go_wp2
              go_ret
              exact ⟨ret_bool8 (by rw [HR.out]), H0.out.2.2⟩
          · have tresp : (resp != 0) = true := by simp [zresp]
            have HR := Lib.hid (show R = false by rw [hR]; simp [good8, zrob, zevery, lsrc, zresp])
            clear hR
            go_wp2
            go_ret
            exact ⟨ret_bool8 (by rw [HR.out]), H0.out.2.2⟩
        · have psrc : 0 < src.length := Nat.pos_of_ne_zero lsrc
          have tsrc : decide ((0 : Int) < (src.length : Int)) = true := by simp; omega
          have vsrc : decide (0 < src.length) = true := by simp; omega
          have HR := Lib.hid (show R = false by rw [hR]; simp [good8, zrob, zevery, psrc])
          clear hR
          go_wp2
          go_ret
          exact ⟨ret_bool8 (by rw [HR.out]), H0.out.2.2⟩
      · have tevery : (every != 0) = true := by simp [zevery]
        have HR := Lib.hid (show R = false by rw [hR]; simp [good8, zrob, zevery])
        clear hR
        go_wp2
        go_ret
        exact ⟨ret_bool8 (by rw [HR.out]), H0.out.2.2⟩
    · have trob : (rob != 0) = true := by simp [zrob]
      have HR := Lib.hid (show R = false by rw [hR]; simp [good8, zrob])
      clear hR
      go_wp2
      go_ret
      exact ⟨ret_bool8 (by rw [HR.out]), H0.out.2.2⟩


set_option maxRecDepth 100000 in
set_option maxHeartbeats 4000000 in
theorem rgood8_33 (t : TK) (us ur : Value) (w : World) (ho : t.ok) (hs : Ads w us t.src) (hr : Rcs w ur t.rcs) (hv6 : t.v6 = false) (hve : t.ver = 3) (hki : t.kind = 3) (R : Bool) (hR : R = good8 t) :
    Calls Try.prog 23 #[.agg (tkC t us ur).toArray] w fun x w' => x = .returned (.bool R) ∧ Below w.heap.size w w' := by
  have H0 := Lib.hid (GD.made w t us ur ho.1)
  have HGD : Hid (∀ W, GD w W t us ur → GC w W t us ur) := Lib.hid fun W h => h.cells
  have HG := Lib.hid (fun W => rgroup8_any t.g ho.1 W)
  have HX1 := Lib.hid (fun W => rexact8 t.resp W)
  have HX2 := Lib.hid (fun W => rexact8 t.every W)
  have HS := Lib.hid (fun W (h : Below w.heap.size w W) => rsources8_any us t.src W (hs.below h))
  have q := fun w0 => eq_ad t.g zeroA ho.1 zeroA_ok w0
  have hbz := bld_zeroA
  have hfz : fok (adC zeroA).toArray 17 = true := fok_addr false _ zeroA_ok
  have hfm := free_made (w.alloc (.cells (tkC t us ur).toArray 28)) #[.bool false, .int .u8 0, .int .u8 0, .int .u8 0, .int .u8 0, .int .u8 0, .int .u8 0, .int .u8 0, .int .u8 0, .int .u8 0, .int .u8 0, .int .u8 0, .int .u8 0, .int .u8 0, .int .u8 0, .int .u8 0, .int .u8 0] 24 17 (by simp)
  rw [show (w.alloc (.cells (tkC t us ur).toArray 28)).heap.size = w.heap.size + 1 by simp] at hfm
  obtain ⟨pu, cu, e1, hu1, hu2⟩ := hs.len
  obtain ⟨pr, cr, e2, hr1, hr2⟩ := hr.len
  have hm1 : t.src.length ≤ maxLen := by omega
  have hm2 : t.rcs.length ≤ maxLen := by omega
  unfold maxLen at hm1 hm2
  clear hs hr hu1 hu2 hr1 hr2 ho
  obtain ⟨v6, ver, kind, resp, g, quiet, rob, every, src, rcs⟩ := t
  simp only at *
  subst e1 e2 hv6 hve hki
  have H0 := Lib.hid H0.out
  go_enter Try.func23, Try.ntmps23
  go_upto_region 2 with (fail)
  generalize aggW ((w.alloc (.cells (tkC _ _ _).toArray 28)).alloc (.cells #[.bool false, .int .u8 0, .int .u8 0, .int .u8 0, .int .u8 0, .int .u8 0, .int .u8 0, .int .u8 0, .int .u8 0, .int .u8 0, .int .u8 0, .int .u8 0, .int .u8 0, .int .u8 0, .int .u8 0, .int .u8 0, .int .u8 0] 24)) (w.heap.size + 1) _ = W at H0 ⊢
  obtain ⟨c0, c1, c2, c3, c4, c5, c6, c7, c8, c9, c10⟩ := HGD.out _ H0.out
  clear hfm hbz hfz
  cases quiet with
  | true =>
    have HR := Lib.hid (show R = false by rw [hR]; simp [good8, hR])
    clear hR
    go_wp2
    go_ret
    exact ⟨ret_bool8 (by rw [HR.out]), H0.out.2.2⟩
  | false =>
    by_cases zrob : rob = 0
    · have trob : (rob != 0) = false := by simp [zrob]
      by_cases zevery : every = 0
      · have tevery : (every != 0) = false := by simp [zevery]
        by_cases lsrc : src.length = 0
        · have tsrc : decide ((0 : Int) < (src.length : Int)) = false := by simp [lsrc]
          have vsrc : decide (0 < src.length) = false := by simp [lsrc]
          by_cases zresp : resp = 0
          · have tresp : (resp != 0) = false := by simp [zresp]
            by_cases lrcs : rcs.length = 0
            · have trcs : decide ((0 : Int) < (rcs.length : Int)) = false := by simp [lrcs]
              have vrcs : decide (0 < rcs.length) = false := by simp [lrcs]
              have HR := Lib.hid (show R = false by rw [hR]; simp [good8, zrob, zevery, lsrc, zresp, lrcs])
              clear hR
              go_wp2
              go_ret
              exact ⟨ret_bool8 (by rw [HR.out]), H0.out.2.2⟩
            · have prcs : 0 < rcs.length := Nat.pos_of_ne_zero lrcs
              have trcs : decide ((0 : Int) < (rcs.length : Int)) = true := by simp; omega
              have vrcs : decide (0 < rcs.length) = true := by simp; omega
              have HR := Lib.hid (show R = false by rw [hR]; simp [good8, zrob, zevery, lsrc, zresp, prcs])
              clear hR
              go_wp2
              go_ret
              exact ⟨ret_bool8 (by rw [HR.out]), H0.out.2.2⟩
          · have tresp : (resp != 0) = true := by simp [zresp]
            have HR := Lib.hid (show R = false by rw [hR]; simp [good8, zrob, zevery, lsrc, zresp])
            clear hR
            go_wp2
            go_ret
            exact ⟨ret_bool8 (by rw [HR.out]), H0.out.2.2⟩
        · have psrc : 0 < src.length := Nat.pos_of_ne_zero lsrc
          have tsrc : decide ((0 : Int) < (src.length : Int)) = true := by simp; omega
          have vsrc : decide (0 < src.length) = true := by simp; omega
          have HR := Lib.hid (show R = false by rw [hR]; simp [good8, zrob, zevery, psrc])
          clear hR
          go_wp2
          go_ret
          exact ⟨ret_bool8 (by rw [HR.out]), H0.out.2.2⟩
      · have tevery : (every != 0) = true := by simp [zevery]
        have HR := Lib.hid (show R = false by rw [hR]; simp [good8, zrob, zevery])
        clear hR
        go_wp2
        go_ret
        exact ⟨ret_bool8 (by rw [HR.out]), H0.out.2.2⟩
    · have trob : (rob != 0) = true := by simp [zrob]
      have HR := Lib.hid (show R = false by rw [hR]; simp [good8, zrob])
      clear hR
      go_wp2
      go_ret
      exact ⟨ret_bool8 (by rw [HR.out]), H0.out.2.2⟩


set_option maxRecDepth 100000 in
set_option maxHeartbeats 4000000 in
theorem rgood8_12 (t : TK) (us ur : Value) (w : World) (ho : t.ok) (hs : Ads w us t.src) (hr : Rcs w ur t.rcs) (hv6 : t.v6 = false) (hve : t.ver = 1) (hki : t.kind = 2) (R : Bool) (hR : R = good8 t) :
    Calls Try.prog 23 #[.agg (tkC t us ur).toArray] w fun x w' => x = .returned (.bool R) ∧ Below w.heap.size w w' := by
  have H0 := Lib.hid (GD.made w t us ur ho.1)
  have HGD : Hid (∀ W, GD w W t us ur → GC w W t us ur) := Lib.hid fun W h => h.cells
  have HG := Lib.hid (fun W => rgroup8_any t.g ho.1 W)
  have HX1 := Lib.hid (fun W => rexact8 t.resp W)
  have HX2 := Lib.hid (fun W => rexact8 t.every W)
  have HS := Lib.hid (fun W (h : Below w.heap.size w W) => rsources8_any us t.src W (hs.below h))
  have q := fun w0 => eq_ad t.g zeroA ho.1 zeroA_ok w0
  have hbz := bld_zeroA
  have hfz : fok (adC zeroA).toArray 17 = true := fok_addr false _ zeroA_ok
  have hfm := free_made (w.alloc (.cells (tkC t us ur).toArray 28)) #[.bool false, .int .u8 0, .int .u8 0, .int .u8 0, .int .u8 0, .int .u8 0, .int .u8 0, .int .u8 0, .int .u8 0, .int .u8 0, .int .u8 0, .int .u8 0, .int .u8 0, .int .u8 0, .int .u8 0, .int .u8 0, .int .u8 0] 24 17 (by simp)
  rw [show (w.alloc (.cells (tkC t us ur).toArray 28)).heap.size = w.heap.size + 1 by simp] at hfm
  obtain ⟨pu, cu, e1, hu1, hu2⟩ := hs.len
  obtain ⟨pr, cr, e2, hr1, hr2⟩ := hr.len
  have hm1 : t.src.length ≤ maxLen := by omega
  have hm2 : t.rcs.length ≤ maxLen := by omega
  unfold maxLen at hm1 hm2
  clear hs hr hu1 hu2 hr1 hr2 ho
  obtain ⟨v6, ver, kind, resp, g, quiet, rob, every, src, rcs⟩ := t
  simp only at *
  subst e1 e2 hv6 hve hki
  have H0 := Lib.hid H0.out
  go_enter Try.func23, Try.ntmps23
  go_upto_region 2 with (fail)
  generalize aggW ((w.alloc (.cells (tkC _ _ _).toArray 28)).alloc (.cells #[.bool false, .int .u8 0, .int .u8 0, .int .u8 0, .int .u8 0, .int .u8 0, .int .u8 0, .int .u8 0, .int .u8 0, .int .u8 0, .int .u8 0, .int .u8 0, .int .u8 0, .int .u8 0, .int .u8 0, .int .u8 0, .int .u8 0] 24)) (w.heap.size + 1) _ = W at H0 ⊢
  obtain ⟨c0, c1, c2, c3, c4, c5, c6, c7, c8, c9, c10⟩ := HGD.out _ H0.out
  clear hfm hbz hfz
  cases quiet with
  | true =>
    have HR := Lib.hid (show R = false by rw [hR]; simp [good8, hR])
    clear hR
    go_wp2
    go_ret
    exact ⟨ret_bool8 (by rw [HR.out]), H0.out.2.2⟩
  | false =>
    by_cases zrob : rob = 0
    · have trob : (rob != 0) = false := by simp [zrob]
      by_cases zevery : every = 0
      · have tevery : (every != 0) = false := by simp [zevery]
        by_cases lsrc : src.length = 0
        · have tsrc : decide ((0 : Int) < (src.length : Int)) = false := by simp [lsrc]
          have vsrc : decide (0 < src.length) = false := by simp [lsrc]
          by_cases zresp : resp = 0
          · have tresp : (resp != 0) = false := by simp [zresp]
            by_cases lrcs : rcs.length = 0
            · have trcs : decide ((0 : Int) < (rcs.length : Int)) = false := by simp [lrcs]
              have vrcs : decide (0 < rcs.length) = false := by simp [lrcs]
              have HR := Lib.hid (show R = grp8 g by rw [hR]; simp [good8, zrob, zevery, lsrc, zresp, lrcs])
              clear hR
              generalize grp8 g = gg at *
              go_wp2_with (go_at_call 35; (with_reducible refine (HG.out _).mono ?_); rintro x w1 ⟨rfl, hb1⟩; have H1 := Lib.hid (H0.out.below hb1); clear hb1)
              go_ret
              exact ⟨ret_bool8 (by rw [HR.out]), H1.out.2.2⟩
            · have prcs : 0 < rcs.length := Nat.pos_of_ne_zero lrcs
              have trcs : decide ((0 : Int) < (rcs.length : Int)) = true := by simp; omega
              have vrcs : decide (0 < rcs.length) = true := by simp; omega
              have HR := Lib.hid (show R = false by rw [hR]; simp [good8, zrob, zevery, lsrc, zresp, prcs])
              clear hR
              go_wp2
              go_ret
              exact ⟨ret_bool8 (by rw [HR.out]), H0.out.2.2⟩
          · have tresp : (resp != 0) = true := by simp [zresp]
            have HR := Lib.hid (show R = false by rw [hR]; simp [good8, zrob, zevery, lsrc, zresp])
            clear hR
            go_wp2
            go_ret
            exact ⟨ret_bool8 (by rw [HR.out]), H0.out.2.2⟩
        · have psrc : 0 < src.length := Nat.pos_of_ne_zero lsrc
          have tsrc : decide ((0 : Int) < (src.length : Int)) = true := by simp; omega
          have vsrc : decide (0 < src.length) = true := by simp; omega
          have HR := Lib.hid (show R = false by rw [hR]; simp [good8, zrob, zevery, psrc])
          clear hR
          go_wp2
          go_ret
          exact ⟨ret_bool8 (by rw [HR.out]), H0.out.2.2⟩
      · have tevery : (every != 0) = true := by simp [zevery]
        have HR := Lib.hid (show R = false by rw [hR]; simp [good8, zrob, zevery])
        clear hR
        go_wp2
        go_ret
        exact ⟨ret_bool8 (by rw [HR.out]), H0.out.2.2⟩
    · have trob : (rob != 0) = true := by simp [zrob]
      have HR := Lib.hid (show R = false by rw [hR]; simp [good8, zrob])
      clear hR
      go_wp2
      go_ret
      exact ⟨ret_bool8 (by rw [HR.out]), H0.out.2.2⟩


set_option maxRecDepth 100000 in
set_option maxHeartbeats 4000000 in
theorem rgood8_22 (t : TK) (us ur : Value) (w : World) (ho : t.ok) (hs : Ads w us t.src) (hr : Rcs w ur t.rcs) (hv6 : t.v6 = false) (hve : t.ver = 2) (hki : t.kind = 2) (R : Bool) (hR : R = good8 t) :
    Calls Try.prog 23 #[.agg (tkC t us ur).toArray] w fun x w' => x = .returned (.bool R) ∧ Below w.heap.size w w' := by
  have H0 := Lib.hid (GD.made w t us ur ho.1)
  have HGD : Hid (∀ W, GD w W t us ur → GC w W t us ur) := Lib.hid fun W h => h.cells
  have HG := Lib.hid (fun W => rgroup8_any t.g ho.1 W)
  have HX1 := Lib.hid (fun W => rexact8 t.resp W)
  have HX2 := Lib.hid (fun W => rexact8 t.every W)
  have HS := Lib.hid (fun W (h : Below w.heap.size w W) => rsources8_any us t.src W (hs.below h))
  have q := fun w0 => eq_ad t.g zeroA ho.1 zeroA_ok w0
  have hbz := bld_zeroA
  have hfz : fok (adC zeroA).toArray 17 = true := fok_addr false _ zeroA_ok
  have hfm := free_made (w.alloc (.cells (tkC t us ur).toArray 28)) #[.bool false, .int .u8 0, .int .u8 0, .int .u8 0, .int .u8 0, .int .u8 0, .int .u8 0, .int .u8 0, .int .u8 0, .int .u8 0, .int .u8 0, .int .u8 0, .int .u8 0, .int .u8 0, .int .u8 0, .int .u8 0, .int .u8 0] 24 17 (by simp)
  rw [show (w.alloc (.cells (tkC t us ur).toArray 28)).heap.size = w.heap.size + 1 by simp] at hfm
  obtain ⟨pu, cu, e1, hu1, hu2⟩ := hs.len
  obtain ⟨pr, cr, e2, hr1, hr2⟩ := hr.len
  have hm1 : t.src.length ≤ maxLen := by omega
  have hm2 : t.rcs.length ≤ maxLen := by omega
  unfold maxLen at hm1 hm2
  clear hs hr hu1 hu2 hr1 hr2 ho
  obtain ⟨v6, ver, kind, resp, g, quiet, rob, every, src, rcs⟩ := t
  simp only at *
  subst e1 e2 hv6 hve hki
  have H0 := Lib.hid H0.out
  go_enter Try.func23, Try.ntmps23
  go_upto_region 2 with (fail)
  generalize aggW ((w.alloc (.cells (tkC _ _ _).toArray 28)).alloc (.cells #[.bool false, .int .u8 0, .int .u8 0, .int .u8 0, .int .u8 0, .int .u8 0, .int .u8 0, .int .u8 0, .int .u8 0, .int .u8 0, .int .u8 0, .int .u8 0, .int .u8 0, .int .u8 0, .int .u8 0, .int .u8 0, .int .u8 0] 24)) (w.heap.size + 1) _ = W at H0 ⊢
  obtain ⟨c0, c1, c2, c3, c4, c5, c6, c7, c8, c9, c10⟩ := HGD.out _ H0.out
  clear hfm hbz hfz
  cases quiet with
  | true =>
    have HR := Lib.hid (show R = false by rw [hR]; simp [good8, hR])
    clear hR
    go_wp2
    go_ret
    exact ⟨ret_bool8 (by rw [HR.out]), H0.out.2.2⟩
  | false =>
    by_cases zrob : rob = 0
    · have trob : (rob != 0) = false := by simp [zrob]
      by_cases zevery : every = 0
      · have tevery : (every != 0) = false := by simp [zevery]
        by_cases lsrc : src.length = 0
        · have tsrc : decide ((0 : Int) < (src.length : Int)) = false := by simp [lsrc]
          have vsrc : decide (0 < src.length) = false := by simp [lsrc]
          by_cases zresp : resp = 0
          · have tresp : (resp != 0) = false := by simp [zresp]
            by_cases lrcs : rcs.length = 0
            · have trcs : decide ((0 : Int) < (rcs.length : Int)) = false := by simp [lrcs]
              have vrcs : decide (0 < rcs.length) = false := by simp [lrcs]
              have HR := Lib.hid (show R = grp8 g by rw [hR]; simp [good8, zrob, zevery, lsrc, zresp, lrcs])
              clear hR
              generalize grp8 g = gg at *
              go_wp2_with (go_at_call 35; (with_reducible refine (HG.out _).mono ?_); rintro x w1 ⟨rfl, hb1⟩; have H1 := Lib.hid (H0.out.below hb1); clear hb1)
              go_ret
              exact ⟨ret_bool8 (by rw [HR.out]), H1.out.2.2⟩
            · have prcs : 0 < rcs.length := Nat.pos_of_ne_zero lrcs
              have trcs : decide ((0 : Int) < (rcs.length : Int)) = true := by simp; omega
              have vrcs : decide (0 < rcs.length) = true := by simp; omega
              have HR := Lib.hid (show R = false by rw [hR]; simp [good8, zrob, zevery, lsrc, zresp, prcs])
              clear hR
              go_wp2
              go_ret
              exact ⟨ret_bool8 (by rw [HR.out]), H0.out.2.2⟩
          · have tresp : (resp != 0) = true := by simp [zresp]
            have HR := Lib.hid (show R = false by rw [hR]; simp [good8, zrob, zevery, lsrc, zresp])
            clear hR
            go_wp2
            go_ret
            exact ⟨ret_bool8 (by rw [HR.out]), H0.out.2.2⟩
        · have psrc : 0 < src.length := Nat.pos_of_ne_zero lsrc
          have tsrc : decide ((0 : Int) < (src.length : Int)) = true := by simp; omega
          have vsrc : decide (0 < src.length) = true := by simp; omega
          have HR := Lib.hid (show R = false by rw [hR]; simp [good8, zrob, zevery, psrc])
          clear hR
          go_wp2
          go_ret
          exact ⟨ret_bool8 (by rw [HR.out]), H0.out.2.2⟩
      · have tevery : (every != 0) = true := by simp [zevery]
        have HR := Lib.hid (show R = false by rw [hR]; simp [good8, zrob, zevery])
        clear hR
        go_wp2
        go_ret
        exact ⟨ret_bool8 (by rw [HR.out]), H0.out.2.2⟩
    · have trob : (rob != 0) = true := by simp [zrob]
      have HR := Lib.hid (show R = false by rw [hR]; simp [good8, zrob])
      clear hR
      go_wp2
      go_ret
      exact ⟨ret_bool8 (by rw [HR.out]), H0.out.2.2⟩


set_option maxRecDepth 100000 in
set_option maxHeartbeats 4000000 in
theorem rgood8_11 (t : TK) (us ur : Value) (w : World) (ho : t.ok) (hs : Ads w us t.src) (hr : Rcs w ur t.rcs) (hv6 : t.v6 = false) (hve : t.ver = 1) (hki : t.kind = 1) (R : Bool) (hR : R = good8 t) :
    Calls Try.prog 23 #[.agg (tkC t us ur).toArray] w fun x w' => x = .returned (.bool R) ∧ Below w.heap.size w w' := by
  have H0 := Lib.hid (GD.made w t us ur ho.1)
  have HGD : Hid (∀ W, GD w W t us ur → GC w W t us ur) := Lib.hid fun W h => h.cells
  have HG := Lib.hid (fun W => rgroup8_any t.g ho.1 W)
  have HX1 := Lib.hid (fun W => rexact8 t.resp W)
  have HX2 := Lib.hid (fun W => rexact8 t.every W)
  have HS := Lib.hid (fun W (h : Below w.heap.size w W) => rsources8_any us t.src W (hs.below h))
  have q := fun w0 => eq_ad t.g zeroA ho.1 zeroA_ok w0
  have hbz := bld_zeroA
  have hfz : fok (adC zeroA).toArray 17 = true := fok_addr false _ zeroA_ok
  have hfm := free_made (w.alloc (.cells (tkC t us ur).toArray 28)) #[.bool false, .int .u8 0, .int .u8 0, .int .u8 0, .int .u8 0, .int .u8 0, .int .u8 0, .int .u8 0, .int .u8 0, .int .u8 0, .int .u8 0, .int .u8 0, .int .u8 0, .int .u8 0, .int .u8 0, .int .u8 0, .int .u8 0] 24 17 (by simp)
  rw [show (w.alloc (.cells (tkC t us ur).toArray 28)).heap.size = w.heap.size + 1 by simp] at hfm
  obtain ⟨pu, cu, e1, hu1, hu2⟩ := hs.len
  obtain ⟨pr, cr, e2, hr1, hr2⟩ := hr.len
  have hm1 : t.src.length ≤ maxLen := by omega
  have hm2 : t.rcs.length ≤ maxLen := by omega
  unfold maxLen at hm1 hm2
  clear hs hr hu1 hu2 hr1 hr2 ho
  obtain ⟨v6, ver, kind, resp, g, quiet, rob, every, src, rcs⟩ := t
  simp only at *
  subst e1 e2 hv6 hve hki
  have H0 := Lib.hid H0.out
  go_enter Try.func23, Try.ntmps23
  go_upto_region 2 with (fail)
  generalize aggW ((w.alloc (.cells (tkC _ _ _).toArray 28)).alloc (.cells #[.bool false, .int .u8 0, .int .u8 0, .int .u8 0, .int .u8 0, .int .u8 0, .int .u8 0, .int .u8 0, .int .u8 0, .int .u8 0, .int .u8 0, .int .u8 0, .int .u8 0, .int .u8 0, .int .u8 0, .int .u8 0, .int .u8 0] 24)) (w.heap.size + 1) _ = W at H0 ⊢
  obtain ⟨c0, c1, c2, c3, c4, c5, c6, c7, c8, c9, c10⟩ := HGD.out _ H0.out
  clear hfm hbz hfz
  cases quiet with
  | true =>
    have HR := Lib.hid (show R = false by rw [hR]; simp [good8, hR])
    clear hR
    go_wp2
    go_ret
    exact ⟨ret_bool8 (by rw [HR.out]), H0.out.2.2⟩
  | false =>
    by_cases zrob : rob = 0
    · have trob : (rob != 0) = false := by simp [zrob]
      by_cases zevery : every = 0
      · have tevery : (every != 0) = false := by simp [zevery]
        by_cases lsrc : src.length = 0
        · have tsrc : decide ((0 : Int) < (src.length : Int)) = false := by simp [lsrc]
          have vsrc : decide (0 < src.length) = false := by simp [lsrc]
          by_cases lrcs : rcs.length = 0
          · have trcs : decide ((0 : Int) < (rcs.length : Int)) = false := by simp [lrcs]
            have vrcs : decide (0 < rcs.length) = false := by simp [lrcs]
            by_cases zresp : resp = 0
            · have tr : (resp == 0) = true := by simp [zresp]
              have HR := Lib.hid (show R = decide (g = zeroA) by rw [hR]; simp [good8, zrob, zevery, lsrc, lrcs, zresp])
              clear hR
              generalize decide (g = zeroA) = gg at *
              go_wp2
              go_ret
              exact ⟨ret_bool8 (by rw [HR.out]), H0.out.2.2⟩
            · have tr : (resp == 0) = false := by simp [zresp]
              have HR := Lib.hid (show R = false by rw [hR]; simp [good8, zrob, zevery, lsrc, lrcs, zresp])
              clear hR
              go_wp2
              go_ret
              exact ⟨ret_bool8 (by rw [HR.out]), H0.out.2.2⟩
          · have prcs : 0 < rcs.length := Nat.pos_of_ne_zero lrcs
            have trcs : decide ((0 : Int) < (rcs.length : Int)) = true := by simp; omega
            have vrcs : decide (0 < rcs.length) = true := by simp; omega
            have HR := Lib.hid (show R = false by rw [hR]; simp [good8, zrob, zevery, lsrc, prcs])
            clear hR
            go_wp2
            go_ret
            exact ⟨ret_bool8 (by rw [HR.out]), H0.out.2.2⟩
        · have psrc : 0 < src.length := Nat.pos_of_ne_zero lsrc
          have tsrc : decide ((0 : Int) < (src.length : Int)) = true := by simp; omega
          have vsrc : decide (0 < src.length) = true := by simp; omega
          have HR := Lib.hid (show R = false by rw [hR]; simp [good8, zrob, zevery, psrc])
          clear hR
          go_wp2
          go_ret
          exact ⟨ret_bool8 (by rw [HR.out]), H0.out.2.2⟩
      · have tevery : (every != 0) = true := by simp [zevery]
        have HR := Lib.hid (show R = false by rw [hR]; simp [good8, zrob, zevery])
        clear hR
        go_wp2
        go_ret
        exact ⟨ret_bool8 (by rw [HR.out]), H0.out.2.2⟩
    · have trob : (rob != 0) = true := by simp [zrob]
      have HR := Lib.hid (show R = false by rw [hR]; simp [good8, zrob])
      clear hR
      go_wp2
      go_ret
      exact ⟨ret_bool8 (by rw [HR.out]), H0.out.2.2⟩

end Go.Proofs.Ytacnhelnpngkgaa

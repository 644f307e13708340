/-
  The document's own Good of layer 9, but for reports of version 2 and full queries.
-/
import Derived.Test.YtacnhelnpngkgaaMg15
import Derived.Test.YtacnhelnpngkgaaTr
namespace Go.Proofs.Ytacnhelnpngkgaa
open Go.RowKit
set_option linter.unusedVariables false
set_option linter.unusedSimpArgs false
attribute [local go_sem ↓] ld_addr st_addr bld_addr
attribute [local go_sem] ldr_addr str_addr

/-- The talk boxed. -/
def GD9 (w W : World) (t : TK) (us ur : Value) : Prop := TkAt W w.heap.size t us ur ∧ Below w.heap.size w W
theorem GD9.made (w : World) (t : TK) (us ur : Value) (h : adOk t.g) : GD9 w (w.alloc (.cells (tkC t us ur).toArray 28)) t us ur := ⟨TkAt.made w t us ur h, (Below.refl _ _).alloc (Nat.le_refl _) _⟩
theorem GD9.below {w W W' : World} {t : TK} {us ur : Value} (h : GD9 w W t us ur) (hb : Below W.heap.size W W') : GD9 w W' t us ur := ⟨h.1.below hb, bstep h.2 hb⟩
theorem GD9.bl {w W : World} {t : TK} {us ur : Value} (h : GD9 w W t us ur) : Below w.heap.size w W := h.2
/-- What Good reads. -/
def GC9 (w W : World) (t : TK) (us ur : Value) : Prop :=
  W.cell? ⟨w.heap.size, 0, none⟩ = some (.bool t.v6) ∧ W.cell? ⟨w.heap.size, 1, none⟩ = some (.int .i64 t.ver) ∧ W.cell? ⟨w.heap.size, 2, none⟩ = some (.int .i64 t.kind) ∧ W.cell? ⟨w.heap.size, 3, none⟩ = some (.int .i64 t.resp) ∧ row? W w.heap.size 4 17 = some (adC t.g) ∧ W.cell? ⟨w.heap.size, 21, none⟩ = some (.bool t.quiet) ∧ W.cell? ⟨w.heap.size, 22, none⟩ = some (.int .i64 t.rob) ∧ W.cell? ⟨w.heap.size, 23, none⟩ = some (.int .i64 t.every) ∧ W.cell? ⟨w.heap.size, 24, none⟩ = some us ∧ W.cell? ⟨w.heap.size, 25, none⟩ = some ur ∧ W.cell? ⟨w.heap.size, 4, none⟩ = some (.bool t.g.1)
theorem GD9.cells {w W : World} {t : TK} {us ur : Value} (h : GD9 w W t us ur) : GC9 w W t us ur :=
  ⟨h.1.v6, h.1.ver, h.1.kind, h.1.resp, h.1.rg, h.1.quiet, h.1.rob, h.1.every, h.1.us, h.1.ur, cells_ad h.1.rg⟩


set_option maxRecDepth 100000 in
set_option maxHeartbeats 4000000 in
theorem rgood9_bad (t : TK) (us ur : Value) (w : World) (ho : t.ok) (hs : Ads w us t.src) (hr : Rcs w ur t.rcs) (hb : t.v6 = false ∨ t.ver < 1 ∨ 2 < t.ver ∨ t.kind < 1 ∨ 3 < t.kind ∨ (t.ver = 2 ∧ t.kind = 3)) (R : Bool) (hR : R = good9 t) :
    Calls Try.prog 22 #[.agg (tkC t us ur).toArray] w fun x w' => x = .returned (.bool R) ∧ Below w.heap.size w w' := by
  have H0 := Lib.hid (GD9.made w t us ur ho.1)
  have HGD : Hid (∀ W, GD9 w W t us ur → GC9 w W t us ur) := Lib.hid fun W h => h.cells
  have HG := Lib.hid (fun W => rgroup9_any t.g ho.1 W)
  have HZ := Lib.hid (fun W => rzero9_any t.g ho.1 W)
  have HS := Lib.hid (fun W (h : Below w.heap.size w W) => rsources9_any us t.src W (hs.below h))
  obtain ⟨pu, cu, e1, hu1, hu2⟩ := hs.len
  obtain ⟨pr, cr, e2, hr1, hr2⟩ := hr.len
  have hm1 : t.src.length ≤ maxLen := by omega
  have hm2 : t.rcs.length ≤ maxLen := by omega
  unfold maxLen at hm1 hm2
  clear hs hr hu1 hu2 hr1 hr2 ho
  obtain ⟨v6, ver, kind, resp, g, quiet, rob, every, src, rcs⟩ := t
  simp only at *
  have HR := Lib.hid (show R = false by rw [hR]; unfold good9; rw [if_pos hb])
  clear hR HS HG HZ hm1 hm2
  subst e1 e2
  have H0 := Lib.hid H0.out
  go_enter Try.func22, Try.ntmps22
  go_upto_region 1 with (fail)
  generalize w.alloc (.cells (tkC _ _ _).toArray 28) = W at H0 ⊢
  obtain ⟨c0, c1, c2, c3, c4, c5, c6, c7, c8, c9, c10⟩ := HGD.out _ H0.out
  clear c3 c4 c5 c6 c7 c8 c9 c10 HGD
  cases v6 with
  | false =>
    clear hb
    go_wp2
    go_ret
    exact ⟨ret_bool8 (by rw [HR.out]), H0.out.2⟩
  | true =>
    by_cases b0 : ver < 1
    · clear hb
      go_wp2
      go_ret
      exact ⟨ret_bool8 (by rw [HR.out]), H0.out.2⟩
    by_cases b1 : 2 < ver
    · clear hb
      go_wp2
      go_ret
      exact ⟨ret_bool8 (by rw [HR.out]), H0.out.2⟩
    by_cases b2 : kind < 1
    · clear hb
      go_wp2
      go_ret
      exact ⟨ret_bool8 (by rw [HR.out]), H0.out.2⟩
    by_cases b3 : 3 < kind
    · clear hb
      go_wp2
      go_ret
      exact ⟨ret_bool8 (by rw [HR.out]), H0.out.2⟩
    have b5 : ver = 2 ∧ kind = 3 := by simp at hb; omega
    obtain ⟨rfl, rfl⟩ := b5
    clear hb b0 b1 b2 b3
    go_wp2
    go_ret
    exact ⟨ret_bool8 (by rw [HR.out]), H0.out.2⟩


set_option maxRecDepth 100000 in
set_option maxHeartbeats 4000000 in
theorem rgood9_13 (t : TK) (us ur : Value) (w : World) (ho : t.ok) (hs : Ads w us t.src) (hr : Rcs w ur t.rcs) (hv6 : t.v6 = true) (hve : t.ver = 1) (hki : t.kind = 3) (R : Bool) (hR : R = good9 t) :
    Calls Try.prog 22 #[.agg (tkC t us ur).toArray] w fun x w' => x = .returned (.bool R) ∧ Below w.heap.size w w' := by
  have H0 := Lib.hid (GD9.made w t us ur ho.1)
  have HGD : Hid (∀ W, GD9 w W t us ur → GC9 w W t us ur) := Lib.hid fun W h => h.cells
  have HG := Lib.hid (fun W => rgroup9_any t.g ho.1 W)
  have HZ := Lib.hid (fun W => rzero9_any t.g ho.1 W)
  have HS := Lib.hid (fun W (h : Below w.heap.size w W) => rsources9_any us t.src W (hs.below h))
  obtain ⟨pu, cu, e1, hu1, hu2⟩ := hs.len
  obtain ⟨pr, cr, e2, hr1, hr2⟩ := hr.len
  have hm1 : t.src.length ≤ maxLen := by omega
  have hm2 : t.rcs.length ≤ maxLen := by omega
  unfold maxLen at hm1 hm2
  clear hs hr hu1 hu2 hr1 hr2 ho
  obtain ⟨v6, ver, kind, resp, g, quiet, rob, every, src, rcs⟩ := t
  simp only at *
  subst e1 e2 hv6 hve hki
  have H0 := Lib.hid H0.out
  go_enter Try.func22, Try.ntmps22
  go_upto_region 1 with (fail)
  generalize w.alloc (.cells (tkC _ _ _).toArray 28) = W at H0 ⊢
  obtain ⟨c0, c1, c2, c3, c4, c5, c6, c7, c8, c9, c10⟩ := HGD.out _ H0.out
  cases quiet with
  | true =>
    have HR := Lib.hid (show R = false by rw [hR]; simp [good9, hR])
    clear hR
    go_wp2
    go_ret
    exact ⟨ret_bool8 (by rw [HR.out]), H0.out.2⟩
  | false =>
    by_cases zrob : rob = 0
    · have trob : (rob != 0) = false := by simp [zrob]
      by_cases zevery : every = 0
      · have tevery : (every != 0) = false := by simp [zevery]
        by_cases lsrc : src.length = 0
        · have tsrc : decide ((0 : Int) < (src.length : Int)) = false := by simp [lsrc]
          have vsrc : decide (0 < src.length) = false := by simp [lsrc]
          by_cases zresp : resp = 0
          · have tresp : (resp != 0) = false := by simp [zresp]
            by_cases lrcs : rcs.length = 0
            · have trcs : decide ((0 : Int) < (rcs.length : Int)) = false := by simp [lrcs]
              have vrcs : decide (0 < rcs.length) = false := by simp [lrcs]
              have HR := Lib.hid (show R = grp9 g by rw [hR]; simp [good9, zrob, zevery, lsrc, zresp, lrcs])
              clear hR
              generalize grp9 g = gg at *
              go_wp2_with (go_at_call 27; (with_reducible refine (HG.out _).mono ?_); rintro x w2 ⟨rfl, hb2⟩; have H2 := Lib.hid (H0.out.below hb2); clear hb2 c0 c1 c2 c3 c4 c5 c6 c7 c8 c9 c10; obtain ⟨c0, c1, c2, c3, c4, c5, c6, c7, c8, c9, c10⟩ := HGD.out _ H2.out)
              go_ret
              exact ⟨ret_bool8 (by rw [HR.out]), H2.out.2⟩
            · have prcs : 0 < rcs.length := Nat.pos_of_ne_zero lrcs
              have trcs : decide ((0 : Int) < (rcs.length : Int)) = true := by simp; omega
              have vrcs : decide (0 < rcs.length) = true := by simp; omega
              have HR := Lib.hid (show R = false by rw [hR]; simp [good9, zrob, zevery, lsrc, zresp, prcs])
              clear hR
              go_wp2
              go_ret
              exact ⟨ret_bool8 (by rw [HR.out]), H0.out.2⟩
          · have tresp : (resp != 0) = true := by simp [zresp]
            have HR := Lib.hid (show R = false by rw [hR]; simp [good9, zrob, zevery, lsrc, zresp])
            clear hR
            go_wp2
            go_ret
            exact ⟨ret_bool8 (by rw [HR.out]), H0.out.2⟩
        · have psrc : 0 < src.length := Nat.pos_of_ne_zero lsrc
          have tsrc : decide ((0 : Int) < (src.length : Int)) = true := by simp; omega
          have vsrc : decide (0 < src.length) = true := by simp; omega
          have HR := Lib.hid (show R = false by rw [hR]; simp [good9, zrob, zevery, psrc])
          clear hR
          go_wp2
          go_ret
          exact ⟨ret_bool8 (by rw [HR.out]), H0.out.2⟩
      · have tevery : (every != 0) = true := by simp [zevery]
        have HR := Lib.hid (show R = false by rw [hR]; simp [good9, zrob, zevery])
        clear hR
        go_wp2
        go_ret
        exact ⟨ret_bool8 (by rw [HR.out]), H0.out.2⟩
    · have trob : (rob != 0) = true := by simp [zrob]
      have HR := Lib.hid (show R = false by rw [hR]; simp [good9, zrob])
      clear hR
      go_wp2
      go_ret
      exact ⟨ret_bool8 (by rw [HR.out]), H0.out.2⟩


set_option maxRecDepth 100000 in
set_option maxHeartbeats 4000000 in
theorem rgood9_12 (t : TK) (us ur : Value) (w : World) (ho : t.ok) (hs : Ads w us t.src) (hr : Rcs w ur t.rcs) (hv6 : t.v6 = true) (hve : t.ver = 1) (hki : t.kind = 2) (R : Bool) (hR : R = good9 t) :
    Calls Try.prog 22 #[.agg (tkC t us ur).toArray] w fun x w' => x = .returned (.bool R) ∧ Below w.heap.size w w' := by
  have H0 := Lib.hid (GD9.made w t us ur ho.1)
  have HGD : Hid (∀ W, GD9 w W t us ur → GC9 w W t us ur) := Lib.hid fun W h => h.cells
  have HG := Lib.hid (fun W => rgroup9_any t.g ho.1 W)
  have HZ := Lib.hid (fun W => rzero9_any t.g ho.1 W)
  have HS := Lib.hid (fun W (h : Below w.heap.size w W) => rsources9_any us t.src W (hs.below h))
  obtain ⟨pu, cu, e1, hu1, hu2⟩ := hs.len
  obtain ⟨pr, cr, e2, hr1, hr2⟩ := hr.len
  have hm1 : t.src.length ≤ maxLen := by omega
  have hm2 : t.rcs.length ≤ maxLen := by omega
  unfold maxLen at hm1 hm2
  clear hs hr hu1 hu2 hr1 hr2 ho
  obtain ⟨v6, ver, kind, resp, g, quiet, rob, every, src, rcs⟩ := t
  simp only at *
  subst e1 e2 hv6 hve hki
  have H0 := Lib.hid H0.out
  go_enter Try.func22, Try.ntmps22
  go_upto_region 1 with (fail)
  generalize w.alloc (.cells (tkC _ _ _).toArray 28) = W at H0 ⊢
  obtain ⟨c0, c1, c2, c3, c4, c5, c6, c7, c8, c9, c10⟩ := HGD.out _ H0.out
  cases quiet with
  | true =>
    have HR := Lib.hid (show R = false by rw [hR]; simp [good9, hR])
    clear hR
    go_wp2
    go_ret
    exact ⟨ret_bool8 (by rw [HR.out]), H0.out.2⟩
  | false =>
    by_cases zrob : rob = 0
    · have trob : (rob != 0) = false := by simp [zrob]
      by_cases zevery : every = 0
      · have tevery : (every != 0) = false := by simp [zevery]
        by_cases lsrc : src.length = 0
        · have tsrc : decide ((0 : Int) < (src.length : Int)) = false := by simp [lsrc]
          have vsrc : decide (0 < src.length) = false := by simp [lsrc]
          by_cases zresp : resp = 0
          · have tresp : (resp != 0) = false := by simp [zresp]
            by_cases lrcs : rcs.length = 0
            · have trcs : decide ((0 : Int) < (rcs.length : Int)) = false := by simp [lrcs]
              have vrcs : decide (0 < rcs.length) = false := by simp [lrcs]
              have HR := Lib.hid (show R = grp9 g by rw [hR]; simp [good9, zrob, zevery, lsrc, zresp, lrcs])
              clear hR
              generalize grp9 g = gg at *
              go_wp2_with (go_at_call 27; (with_reducible refine (HG.out _).mono ?_); rintro x w2 ⟨rfl, hb2⟩; have H2 := Lib.hid (H0.out.below hb2); clear hb2 c0 c1 c2 c3 c4 c5 c6 c7 c8 c9 c10; obtain ⟨c0, c1, c2, c3, c4, c5, c6, c7, c8, c9, c10⟩ := HGD.out _ H2.out)
              go_ret
              exact ⟨ret_bool8 (by rw [HR.out]), H2.out.2⟩
            · have prcs : 0 < rcs.length := Nat.pos_of_ne_zero lrcs
              have trcs : decide ((0 : Int) < (rcs.length : Int)) = true := by simp; omega
              have vrcs : decide (0 < rcs.length) = true := by simp; omega
              have HR := Lib.hid (show R = false by rw [hR]; simp [good9, zrob, zevery, lsrc, zresp, prcs])
              clear hR
              go_wp2
              go_ret
              exact ⟨ret_bool8 (by rw [HR.out]), H0.out.2⟩
          · have tresp : (resp != 0) = true := by simp [zresp]
            have HR := Lib.hid (show R = false by rw [hR]; simp [good9, zrob, zevery, lsrc, zresp])
            clear hR
            go_wp2
            go_ret
            exact ⟨ret_bool8 (by rw [HR.out]), H0.out.2⟩
        · have psrc : 0 < src.length := Nat.pos_of_ne_zero lsrc
          have tsrc : decide ((0 : Int) < (src.length : Int)) = true := by simp; omega
          have vsrc : decide (0 < src.length) = true := by simp; omega
          have HR := Lib.hid (show R = false by rw [hR]; simp [good9, zrob, zevery, psrc])
          clear hR
          go_wp2
          go_ret
          exact ⟨ret_bool8 (by rw [HR.out]), H0.out.2⟩
      · have tevery : (every != 0) = true := by simp [zevery]
        have HR := Lib.hid (show R = false by rw [hR]; simp [good9, zrob, zevery])
        clear hR
        go_wp2
        go_ret
        exact ⟨ret_bool8 (by rw [HR.out]), H0.out.2⟩
    · have trob : (rob != 0) = true := by simp [zrob]
      have HR := Lib.hid (show R = false by rw [hR]; simp [good9, zrob])
      clear hR
      go_wp2
      go_ret
      exact ⟨ret_bool8 (by rw [HR.out]), H0.out.2⟩


set_option maxRecDepth 100000 in
set_option maxHeartbeats 4000000 in
theorem rgood9_11 (t : TK) (us ur : Value) (w : World) (ho : t.ok) (hs : Ads w us t.src) (hr : Rcs w ur t.rcs) (hv6 : t.v6 = true) (hve : t.ver = 1) (hki : t.kind = 1) (R : Bool) (hR : R = good9 t) :
    Calls Try.prog 22 #[.agg (tkC t us ur).toArray] w fun x w' => x = .returned (.bool R) ∧ Below w.heap.size w w' := by
  have H0 := Lib.hid (GD9.made w t us ur ho.1)
  have HGD : Hid (∀ W, GD9 w W t us ur → GC9 w W t us ur) := Lib.hid fun W h => h.cells
  have HG := Lib.hid (fun W => rgroup9_any t.g ho.1 W)
  have HZ := Lib.hid (fun W => rzero9_any t.g ho.1 W)
  have HS := Lib.hid (fun W (h : Below w.heap.size w W) => rsources9_any us t.src W (hs.below h))
  obtain ⟨pu, cu, e1, hu1, hu2⟩ := hs.len
  obtain ⟨pr, cr, e2, hr1, hr2⟩ := hr.len
  have hm1 : t.src.length ≤ maxLen := by omega
  have hm2 : t.rcs.length ≤ maxLen := by omega
  unfold maxLen at hm1 hm2
  clear hs hr hu1 hu2 hr1 hr2 ho
  obtain ⟨v6, ver, kind, resp, g, quiet, rob, every, src, rcs⟩ := t
  simp only at *
  subst e1 e2 hv6 hve hki
  have H0 := Lib.hid H0.out
  go_enter Try.func22, Try.ntmps22
  go_upto_region 1 with (fail)
  generalize w.alloc (.cells (tkC _ _ _).toArray 28) = W at H0 ⊢
  obtain ⟨c0, c1, c2, c3, c4, c5, c6, c7, c8, c9, c10⟩ := HGD.out _ H0.out
  cases quiet with
  | true =>
    have HR := Lib.hid (show R = false by rw [hR]; simp [good9, hR])
    clear hR
    go_wp2
    go_ret
    exact ⟨ret_bool8 (by rw [HR.out]), H0.out.2⟩
  | false =>
    by_cases zrob : rob = 0
    · have trob : (rob != 0) = false := by simp [zrob]
      by_cases zevery : every = 0
      · have tevery : (every != 0) = false := by simp [zevery]
        by_cases lsrc : src.length = 0
        · have tsrc : decide ((0 : Int) < (src.length : Int)) = false := by simp [lsrc]
          have vsrc : decide (0 < src.length) = false := by simp [lsrc]
          by_cases lrcs : rcs.length = 0
          · have trcs : decide ((0 : Int) < (rcs.length : Int)) = false := by simp [lrcs]
            have vrcs : decide (0 < rcs.length) = false := by simp [lrcs]
            obtain ⟨zz, hzz⟩ : ∃ b, zer9 g = b := ⟨_, rfl⟩
            obtain ⟨gg, hgg⟩ : ∃ b, grp9 g = b := ⟨_, rfl⟩
            rw [hzz] at HZ
            rw [hgg] at HG
            cases zz with
            | true =>
              by_cases r0 : resp < 0
              · have tr : decide (resp < 0) = true := decide_eq_true r0
                have HR := Lib.hid (show R = false by rw [hR]; simp [good9, zrob, zevery, lsrc, lrcs, hzz, r0])
                clear hR
                go_wp2_with (go_at_call 30; (with_reducible refine (HZ.out _).mono ?_); rintro x w1 ⟨rfl, hb1⟩; have H1 := Lib.hid (H0.out.below hb1); clear hb1 c0 c1 c2 c3 c4 c5 c6 c7 c8 c9 c10; obtain ⟨c0, c1, c2, c3, c4, c5, c6, c7, c8, c9, c10⟩ := HGD.out _ H1.out)
                go_ret
                exact ⟨ret_bool8 (by rw [HR.out]), H1.out.2⟩
              have tr : decide (resp < 0) = false := decide_eq_false r0
              have HR := Lib.hid (show R = decide (resp < 65536) by rw [hR]; simp [good9, zrob, zevery, lsrc, lrcs, hzz, r0])
              clear hR
              generalize ht : decide (resp < 65536) = tt at *
              go_wp2_with (go_at_call 30; (with_reducible refine (HZ.out _).mono ?_); rintro x w1 ⟨rfl, hb1⟩; have H1 := Lib.hid (H0.out.below hb1); clear hb1 c0 c1 c2 c3 c4 c5 c6 c7 c8 c9 c10; obtain ⟨c0, c1, c2, c3, c4, c5, c6, c7, c8, c9, c10⟩ := HGD.out _ H1.out)
              go_ret
              exact ⟨ret_bool8 (by rw [HR.out]), H1.out.2⟩
            | false =>
              cases gg with
              | false =>
                have HR := Lib.hid (show R = false by rw [hR]; simp [good9, zrob, zevery, lsrc, lrcs, hzz, hgg])
                clear hR
                go_wp2_with (first | (go_at_call 30; (with_reducible refine (HZ.out _).mono ?_); rintro x w1 ⟨rfl, hb1⟩; have H1 := Lib.hid (H0.out.below hb1); clear hb1 c0 c1 c2 c3 c4 c5 c6 c7 c8 c9 c10; obtain ⟨c0, c1, c2, c3, c4, c5, c6, c7, c8, c9, c10⟩ := HGD.out _ H1.out) | (go_at_call 27; (with_reducible refine (HG.out _).mono ?_); rintro x w2 ⟨rfl, hb2⟩; have H2 := Lib.hid (H1.out.below hb2); clear hb2 c0 c1 c2 c3 c4 c5 c6 c7 c8 c9 c10; obtain ⟨c0, c1, c2, c3, c4, c5, c6, c7, c8, c9, c10⟩ := HGD.out _ H2.out))
                go_ret
                exact ⟨ret_bool8 (by rw [HR.out]), H2.out.2⟩
              | true =>
                by_cases r0 : resp < 0
                · have tr : decide (resp < 0) = true := decide_eq_true r0
                  have HR := Lib.hid (show R = false by rw [hR]; simp [good9, zrob, zevery, lsrc, lrcs, hzz, hgg, r0])
                  clear hR
                  go_wp2_with (first | (go_at_call 30; (with_reducible refine (HZ.out _).mono ?_); rintro x w1 ⟨rfl, hb1⟩; have H1 := Lib.hid (H0.out.below hb1); clear hb1 c0 c1 c2 c3 c4 c5 c6 c7 c8 c9 c10; obtain ⟨c0, c1, c2, c3, c4, c5, c6, c7, c8, c9, c10⟩ := HGD.out _ H1.out) | (go_at_call 27; (with_reducible refine (HG.out _).mono ?_); rintro x w2 ⟨rfl, hb2⟩; have H2 := Lib.hid (H1.out.below hb2); clear hb2 c0 c1 c2 c3 c4 c5 c6 c7 c8 c9 c10; obtain ⟨c0, c1, c2, c3, c4, c5, c6, c7, c8, c9, c10⟩ := HGD.out _ H2.out))
                  go_ret
                  exact ⟨ret_bool8 (by rw [HR.out]), H2.out.2⟩
                have tr : decide (resp < 0) = false := decide_eq_false r0
                have HR := Lib.hid (show R = decide (resp < 65536) by rw [hR]; simp [good9, zrob, zevery, lsrc, lrcs, hzz, hgg, r0])
                clear hR
                generalize ht : decide (resp < 65536) = tt at *
                go_wp2_with (first | (go_at_call 30; (with_reducible refine (HZ.out _).mono ?_); rintro x w1 ⟨rfl, hb1⟩; have H1 := Lib.hid (H0.out.below hb1); clear hb1 c0 c1 c2 c3 c4 c5 c6 c7 c8 c9 c10; obtain ⟨c0, c1, c2, c3, c4, c5, c6, c7, c8, c9, c10⟩ := HGD.out _ H1.out) | (go_at_call 27; (with_reducible refine (HG.out _).mono ?_); rintro x w2 ⟨rfl, hb2⟩; have H2 := Lib.hid (H1.out.below hb2); clear hb2 c0 c1 c2 c3 c4 c5 c6 c7 c8 c9 c10; obtain ⟨c0, c1, c2, c3, c4, c5, c6, c7, c8, c9, c10⟩ := HGD.out _ H2.out))
                go_ret
                exact ⟨ret_bool8 (by rw [HR.out]), H2.out.2⟩
          · have prcs : 0 < rcs.length := Nat.pos_of_ne_zero lrcs
            have trcs : decide ((0 : Int) < (rcs.length : Int)) = true := by simp; omega
            have vrcs : decide (0 < rcs.length) = true := by simp; omega
            have HR := Lib.hid (show R = false by rw [hR]; simp [good9, zrob, zevery, lsrc, prcs])
            clear hR
            go_wp2
            go_ret
            exact ⟨ret_bool8 (by rw [HR.out]), H0.out.2⟩
        · have psrc : 0 < src.length := Nat.pos_of_ne_zero lsrc
          have tsrc : decide ((0 : Int) < (src.length : Int)) = true := by simp; omega
          have vsrc : decide (0 < src.length) = true := by simp; omega
          have HR := Lib.hid (show R = false by rw [hR]; simp [good9, zrob, zevery, psrc])
          clear hR
          go_wp2
          go_ret
          exact ⟨ret_bool8 (by rw [HR.out]), H0.out.2⟩
      · have tevery : (every != 0) = true := by simp [zevery]
        have HR := Lib.hid (show R = false by rw [hR]; simp [good9, zrob, zevery])
        clear hR
        go_wp2
        go_ret
        exact ⟨ret_bool8 (by rw [HR.out]), H0.out.2⟩
    · have trob : (rob != 0) = true := by simp [zrob]
      have HR := Lib.hid (show R = false by rw [hR]; simp [good9, zrob])
      clear hR
      go_wp2
      go_ret
      exact ⟨ret_bool8 (by rw [HR.out]), H0.out.2⟩

end Go.Proofs.Ytacnhelnpngkgaa

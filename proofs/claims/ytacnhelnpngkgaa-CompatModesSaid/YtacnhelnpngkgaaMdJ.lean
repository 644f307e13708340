/-
  The document's own Good of layer 9: reports of version 2, and any talk.
-/
import Derived.Test.YtacnhelnpngkgaaMdG
import Derived.Test.YtacnhelnpngkgaaMdI
namespace Go.Proofs.Ytacnhelnpngkgaa
open Go.RowKit
set_option linter.unusedVariables false
set_option linter.unusedSimpArgs false
attribute [local go_sem ↓] ld_addr st_addr bld_addr ld_rec st_rec
attribute [local go_sem] ldr_addr str_addr ldr_rec str_rec

theorem sizeR9_succ {l : List RC} {k : Nat} (h : k < l.length) : sizeR9 (l.take (k + 1)) = sizeR9 (l.take k) + 20 + 16 * l[k].src.length := by
  unfold sizeR9
  rw [List.take_succ_eq_append_getElem h, List.map_append, List.sum_append]
  simp; omega
theorem srcs9_len {l : List AD} (h : srcs9 l = true) : l.length < 65 := by
  unfold srcs9 at h
  rw [Bool.and_eq_true, decide_eq_true_eq] at h
  exact h.2
theorem sizeR9_le {l : List RC} (h : l.all recOk9 = true) : sizeR9 l ≤ 8 + 1044 * l.length := by
  induction l with
  | nil => simp [sizeR9]
  | cons r q ih =>
    rw [List.all_cons, Bool.and_eq_true] at h
    have h1 := ih h.2
    have h2 := h.1
    unfold recOk9 at h2
    rw [Bool.and_eq_true] at h2
    have h3 := srcs9_len h2.2
    unfold sizeR9 at h1 ⊢
    simp at h1 ⊢
    omega


set_option maxRecDepth 100000 in
set_option maxHeartbeats 4000000 in
theorem rgood9_22 (t : TK) (us ur : Value) (w : World) (ho : t.ok) (hs : Ads w us t.src) (hr : Rcs w ur t.rcs) (hv6 : t.v6 = true) (hve : t.ver = 2) (hki : t.kind = 2)  (R : Bool) (hR : R = good9 t) :
    Calls Try.prog 22 #[.agg (tkC t us ur).toArray] w fun x w' => x = .returned (.bool R) ∧ Below w.heap.size w w' := by
  have H0 := Lib.hid (GD9.made w t us ur ho.1)
  have HGD : Hid (∀ W, GD9 w W t us ur → GC9 w W t us ur) := Lib.hid fun W h => h.cells
  have HG := Lib.hid (fun W => rgroup9_any t.g ho.1 W)
  have HZ := Lib.hid (fun W => rzero9_any t.g ho.1 W)
  have HS := Lib.hid (fun W (h : Below w.heap.size w W) => rsources9_any us t.src W (hs.below h))
  obtain ⟨pu, cu, e1, hu1, hu2⟩ := hs.len
  obtain ⟨pr, cr, e2, hr1, hr2⟩ := hr.len
  have hm1 : t.src.length ≤ maxLen := by omega
  have hm2 : t.rcs.length ≤ maxLen := by omega
  unfold maxLen at hm1 hm2
  have HRCS := Lib.hid hr
  have HZ0 := Lib.hid (fun W => rzero_any t.g.1 t.g.2 ho.1 W)
  change Hid (∀ W, Calls Try.prog 29 #[.agg (adC t.g).toArray] W _) at HZ0
  clear hs hr hu1 hu2 hr1 hr2 ho
  obtain ⟨v6, ver, kind, resp, g, quiet, rob, every, src, rcs⟩ := t
  simp only at *
  subst e1 e2 hv6 hve hki
  have H0 := Lib.hid H0.out
  go_enter Try.func22, Try.ntmps22
  go_upto_region 1 with (fail)
  generalize w.alloc (.cells (tkC _ _ _).toArray 28) = W at H0 ⊢
  obtain ⟨c0, c1, c2, c3, c4, c5, c6, c7, c8, c9, c10⟩ := HGD.out _ H0.out
  cases quiet with
  | true =>
    have HR := Lib.hid (show R = false by rw [hR]; simp [good9, hR])
    clear hR
    go_wp2
    go_ret
    exact ⟨ret_bool8 (by rw [HR.out]), H0.out.2⟩
  | false =>
    by_cases zrob : rob = 0
    · have trob : (rob != 0) = false := by simp [zrob]
      by_cases zevery : every = 0
      · have tevery : (every != 0) = false := by simp [zevery]
        by_cases lsrc : src.length = 0
        · have tsrc : decide ((0 : Int) < (src.length : Int)) = false := by simp [lsrc]
          have vsrc : decide (0 < src.length) = false := by simp [lsrc]
          by_cases zresp : resp = 0
          · have tresp : (resp != 0) = false := by simp [zresp]
            have HRV : Hid (R = (rcs.all recOk9 && (decide (g.1 = false) && (decide (g.2 = z16) && (decide (rcs.length < 65) && decide (sizeR9 rcs < 1401)))))) := Lib.hid (by rw [hR]; simp [good9, zrob, zevery, lsrc, zresp])
            clear hR HG HS HZ
            obtain ⟨n, hn⟩ : ∃ n, n = rcs.length := ⟨_, rfl⟩
            have HN := Lib.hid hn
            rw [← hn] at c9
            clear hn
            have HRC : Hid (∀ (W1 : World) (bb : Nat) (x : RC) (u : Value), RcU W1 bb 0 x u → RcC W1 bb 0 x u) := Lib.hid fun W1 bb x u h => h.cells
            by_cases ln : n = 0
            · have tn : decide ((0 : Int) < (n : Int)) = false := decide_eq_false (by omega)
              go_wp2_with fail
              go_loopw [4, 5] (fun nn i wr => ∃ (k : Nat) (z : Int), k ≤ n ∧ i = .int .i64 k ∧ nn = .int .i64 z ∧ Hid (n ≤ 1000 → z = ((sizeR9 (rcs.take k) : Nat) : Int)) ∧ Hid ((rcs.take k).all recOk9 = true) ∧ Hid (GD9 w wr ⟨true, 2, 2, resp, g, false, rob, every, src, rcs⟩ (.slice pu src.length cu) (.slice pr rcs.length cr))) (fun _ i _ => n - (intOf i).toNat)
              case atStart => exact ⟨0, 8, by omega, rfl, rfl, Lib.hid (fun _ => rfl), Lib.hid (by simp), H0⟩
              case round =>
                obtain ⟨k, z, hk, rfl, rfl, HZZ, HA, HB⟩ := hrel
                by_cases hlt : k < n
                · exact absurd hlt (by omega)
                · have hd : ¬ (k : Int) < (n : Int) := by omega
                  have HA2 : Hid (rcs.all recOk9 = true) := Lib.hid (by
                    have e := HA.out
                    rw [List.take_of_length_le (by rw [← HN.out]; omega)] at e
                    exact e)
                  have HSZ : Hid (sizeR9 (rcs.take k) = sizeR9 rcs) := Lib.hid (by rw [List.take_of_length_le (by rw [← HN.out]; omega)])
                  have HB0 := Lib.hid HB.out
                  clear hlt
                  obtain ⟨c0, c1, c2, c3, c4, c5, c6, c7, c8, c9, c10⟩ := HGD.out _ HB.out
                  rw [← HN.out] at c9
                  obtain ⟨gv, hgv⟩ : ∃ b, g.1 = b := ⟨_, rfl⟩
                  obtain ⟨zv, hzv⟩ : ∃ b, zeroV g.2 = b := ⟨_, rfl⟩
                  have hzv2 : decide (g.2 = z16) = zv := hzv
                  rw [hgv] at c10
                  rw [hzv] at HZ0
                  have HV0 : Hid (R = (decide (gv = false) && (zv && (decide (n < 65) && decide (z < 1401))))) := Lib.hid (by
                    by_cases h : n < 65
                    · rw [HZZ.out (by omega), HRV.out, HA2.out, HSZ.out, ← HN.out, hgv, hzv2, Bool.true_and, show decide ((sizeR9 rcs : Int) < 1401) = decide (sizeR9 rcs < 1401) by rw [Bool.eq_iff_iff]; simp; omega]
                    · rw [HRV.out, ← HN.out, decide_eq_false h]; simp)
                  clear HZZ
                  clear hgv hzv hzv2
                  cases gv with
                  | true =>
                    have HV := Lib.hid (show R = false by rw [HV0.out]; rfl)
                    go_wp2
                    go_ret
                    exact ⟨ret_bool8 (by rw [HV.out]), HB0.out.bl⟩
                  | false =>
                    cases zv with
                    | false =>
                      have HV := Lib.hid (show R = false by rw [HV0.out]; rfl)
                      go_wp2_with (go_at_call 29; (with_reducible refine (HZ0.out _).mono ?_); rintro x w5 ⟨rfl, hb5⟩; have H5 := Lib.hid (HB0.out.below hb5); clear hb5 c0 c1 c2 c3 c4 c5 c6 c7 c8 c9 c10; obtain ⟨c0, c1, c2, c3, c4, c5, c6, c7, c8, c9, c10⟩ := HGD.out _ H5.out; rw [← HN.out] at c9)
                      go_ret
                      exact ⟨ret_bool8 (by rw [HV.out]), H5.out.bl⟩
                    | true =>
                      by_cases l65 : n < 65
                      · have tl : decide ((n : Int) < 65) = true := decide_eq_true (by omega)
                        rw [decide_eq_true l65] at HV0
                        clear l65
                        by_cases hz : (z : Int) < 1401
                        · have tz : decide ((z : Int) < 1401) = true := decide_eq_true hz
                          rw [tz] at HV0
                          have HV := Lib.hid (show R = true by rw [HV0.out]; rfl)
                          go_wp2_with (go_at_call 29; (with_reducible refine (HZ0.out _).mono ?_); rintro x w5 ⟨rfl, hb5⟩; have H5 := Lib.hid (HB0.out.below hb5); clear hb5 c0 c1 c2 c3 c4 c5 c6 c7 c8 c9 c10; obtain ⟨c0, c1, c2, c3, c4, c5, c6, c7, c8, c9, c10⟩ := HGD.out _ H5.out; rw [← HN.out] at c9)
                          go_ret
                          exact ⟨ret_bool8 (by rw [HV.out]; try (first | exact tz | exact tz.symm)), H5.out.bl⟩
                        · have tz : decide ((z : Int) < 1401) = false := decide_eq_false hz
                          rw [tz] at HV0
                          have HV := Lib.hid (show R = false by rw [HV0.out]; rfl)
                          go_wp2_with (go_at_call 29; (with_reducible refine (HZ0.out _).mono ?_); rintro x w5 ⟨rfl, hb5⟩; have H5 := Lib.hid (HB0.out.below hb5); clear hb5 c0 c1 c2 c3 c4 c5 c6 c7 c8 c9 c10; obtain ⟨c0, c1, c2, c3, c4, c5, c6, c7, c8, c9, c10⟩ := HGD.out _ H5.out; rw [← HN.out] at c9)
                          go_ret
                          exact ⟨ret_bool8 (by rw [HV.out]; try (first | exact tz | exact tz.symm)), H5.out.bl⟩
                      · exact absurd (show n < 65 by omega) l65
            · have tn : decide ((0 : Int) < (n : Int)) = true := decide_eq_true (by omega)
              obtain ⟨rb, ro, cr', er, _, _, Ra⟩ := HRCS.out.parts (fun h => ln (by rw [HN.out, h]; rfl))
              simp only [Value.slice.injEq] at er
              obtain ⟨rfl, -, hcc⟩ := er
              subst hcc
              have RA := Lib.hid Ra
              clear Ra
              go_wp2_with fail
              go_loopw [4, 5] (fun nn i wr => ∃ (k : Nat) (z : Int), k ≤ n ∧ i = .int .i64 k ∧ nn = .int .i64 z ∧ Hid (n ≤ 1000 → z = ((sizeR9 (rcs.take k) : Nat) : Int)) ∧ Hid ((rcs.take k).all recOk9 = true) ∧ Hid (GD9 w wr ⟨true, 2, 2, resp, g, false, rob, every, src, rcs⟩ (.slice pu src.length cu) (.slice (some ⟨rb, ro, none⟩) rcs.length cr))) (fun _ i _ => n - (intOf i).toNat)
              case atStart => exact ⟨0, 8, by omega, rfl, rfl, Lib.hid (fun _ => rfl), Lib.hid (by simp), H0⟩
              case round =>
                obtain ⟨k, z, hk, rfl, rfl, HZZ, HA, HB⟩ := hrel
                by_cases hlt : k < n
                · have g1 : k < rcs.length := by rw [← HN.out]; exact hlt
                  obtain ⟨u, hu⟩ := (RA.out k g1).u
                  have hu2 := hu.below HB.out.bl
                  have r1 := hu2.2.2.1
                  obtain ⟨ho, hlt2, _, ha⟩ := hu2
                  clear hu
                  obtain ⟨pp, cc, eu, hlu, hlm⟩ := ha.len
                  subst eu
                  have HBX := Lib.hid (RcU.boxed (cs := #[.int .i64 0, .bool false, .int .u8 0, .int .u8 0, .int .u8 0, .int .u8 0, .int .u8 0, .int .u8 0, .int .u8 0, .int .u8 0, .int .u8 0, .int .u8 0, .int .u8 0, .int .u8 0, .int .u8 0, .int .u8 0, .int .u8 0, .int .u8 0, .slice none 0 0]) ho ha rfl)
                  have hfok := fok_rec ho ha.one
                  have hfm := free_made wr #[.int .i64 0, .bool false, .int .u8 0, .int .u8 0, .int .u8 0, .int .u8 0, .int .u8 0, .int .u8 0, .int .u8 0, .int .u8 0, .int .u8 0, .int .u8 0, .int .u8 0, .int .u8 0, .int .u8 0, .int .u8 0, .int .u8 0, .int .u8 0, .slice none 0 0] 40 19 (by simp)
                  have HGr := Lib.hid (fun W => rgroup9_any rcs[k].g ho W)
                  have HSr := Lib.hid (fun W (h : RcU W wr.heap.size 0 rcs[k] (.slice pp rcs[k].src.length cc)) => rsources9_any (.slice pp rcs[k].src.length cc) rcs[k].src W h.2.2.2)
                  have HS1 := Lib.hid (rcs_take_succ g1 recOk9)
                  have HS2 := Lib.hid (sizeR9_succ g1)
                  have HLE := Lib.hid (sizeR9_le HA.out)
                  have HF : Hid (recOk9 rcs[k] = false → rcs.all recOk9 = false) := Lib.hid fun h => by
                    rw [← Bool.not_eq_true, List.all_eq_true]
                    intro hx
                    have := hx _ (List.getElem_mem g1)
                    rw [h] at this
                    exact absurd this (by simp)
                  have HOK : Hid (recOk9 rcs[k] = (decide (1 ≤ rcs[k].kind ∧ rcs[k].kind ≤ 6) && grp9 rcs[k].g && srcs9 rcs[k].src)) := Lib.hid rfl
                  have hd : decide ((k : Int) < (n : Int)) = true := decide_eq_true (by omega)
                  have hk1 : (k : Int) < (n : Int) := by omega
                  have hw1 : IntKind.i64.wrap ((k : Int) + 1) = (k : Int) + 1 := by simp only [IntKind.wrap_i64]; omega
                  obtain ⟨c0, c1, c2, c3, c4, c5, c6, c7, c8, c9, c10⟩ := HGD.out _ HB.out
                  rw [← HN.out] at c9
                  clear c0 c1 c2 c3 c4 c5 c6 c7 c8 c10 ho ha hlt2
                  generalize rcs[k] = x at *
                  obtain ⟨xk, xg, xs⟩ := x
                  simp only at *
                  go_upto_region 12 with (fail)
                  generalize aggW (wr.alloc _) wr.heap.size _ = W1 at HBX ⊢
                  have H1 := Lib.hid (show GD9 w W1 ⟨true, 2, 2, resp, g, false, rob, every, src, rcs⟩ (.slice pu src.length cu) (.slice (some ⟨rb, ro, none⟩) rcs.length cr) ∧ RcU W1 wr.heap.size 0 ⟨xk, xg, xs⟩ (.slice pp xs.length cc) from ⟨HB.out.below HBX.out.2, HBX.out.1⟩)
                  have HQ : Hid (∀ (W1 W2 : World), (GD9 w W1 ⟨true, 2, 2, resp, g, false, rob, every, src, rcs⟩ (.slice pu src.length cu) (.slice (some ⟨rb, ro, none⟩) rcs.length cr) ∧ RcU W1 wr.heap.size 0 ⟨xk, xg, xs⟩ (.slice pp xs.length cc)) → Below W1.heap.size W1 W2 → (GD9 w W2 ⟨true, 2, 2, resp, g, false, rob, every, src, rcs⟩ (.slice pu src.length cu) (.slice (some ⟨rb, ro, none⟩) rcs.length cr) ∧ RcU W2 wr.heap.size 0 ⟨xk, xg, xs⟩ (.slice pp xs.length cc))) := Lib.hid fun W1 W2 h hb => ⟨h.1.below hb, h.2.below hb⟩
                  obtain ⟨d0, d1, d2⟩ := HRC.out _ _ _ _ H1.out.2
                  simp only at d0 d1 d2
                  clear HBX hfm hfok r1 c9 HB
                  by_cases k1 : xk < 1
                  · have t1 : decide (xk < 1) = true := decide_eq_true k1
                    have HV : Hid (R = false) := Lib.hid (by rw [HRV.out, HF.out (by rw [HOK.out, decide_eq_false (show ¬ (1 ≤ xk ∧ xk ≤ 6) by omega)]; rfl)]; rfl)
                    clear HF HOK HS1 k1
                    go_wp2
                    go_ret
                    exact ⟨ret_bool8 (by rw [HV.out]), H1.out.1.bl⟩
                  have t1 : decide (xk < 1) = false := decide_eq_false k1
                  by_cases k6 : 6 < xk
                  · have t6 : decide (6 < xk) = true := decide_eq_true k6
                    have HV : Hid (R = false) := Lib.hid (by rw [HRV.out, HF.out (by rw [HOK.out, decide_eq_false (show ¬ (1 ≤ xk ∧ xk ≤ 6) by omega)]; rfl)]; rfl)
                    clear HF HOK HS1
                    go_wp2
                    go_ret
                    exact ⟨ret_bool8 (by rw [HV.out]), H1.out.1.bl⟩
                  have t6 : decide (6 < xk) = false := decide_eq_false k6
                  rw [decide_eq_true (show 1 ≤ xk ∧ xk ≤ 6 by omega), Bool.true_and] at HOK
                  cases hgx : grp9 xg with
                  | false =>
                    rw [hgx] at HGr HOK
                    have HV : Hid (R = false) := Lib.hid (by rw [HRV.out, HF.out (by rw [HOK.out]; rfl)]; rfl)
                    clear HF HOK HS1 hgx
                    go_wp2_with (go_at_call 27; (with_reducible refine (HGr.out _).mono ?_); rintro x w1 ⟨rfl, hb1⟩; have G1 := Lib.hid (HQ.out _ _ H1.out hb1); clear hb1 d0 d1 d2; obtain ⟨d0, d1, d2⟩ := HRC.out _ _ _ _ G1.out.2; simp only at d0 d1 d2)
                    go_ret
                    exact ⟨ret_bool8 (by rw [HV.out]), G1.out.1.bl⟩
                  | true =>
                    rw [hgx] at HGr HOK
                    cases hsx : srcs9 xs with
                    | false =>
                      rw [hsx] at HSr HOK
                      have HV : Hid (R = false) := Lib.hid (by rw [HRV.out, HF.out (by rw [HOK.out]; rfl)]; rfl)
                      clear HF HOK HS1 hgx hsx
                      go_wp2_with (first | (go_at_call 27; (with_reducible refine (HGr.out _).mono ?_); rintro x w1 ⟨rfl, hb1⟩; have G1 := Lib.hid (HQ.out _ _ H1.out hb1); clear hb1 d0 d1 d2; obtain ⟨d0, d1, d2⟩ := HRC.out _ _ _ _ G1.out.2; simp only at d0 d1 d2) | (go_at_call 28; (with_reducible refine (HSr.out _ G1.out.2).mono ?_); rintro x w2 ⟨rfl, hb2⟩; have G2 := Lib.hid (HQ.out _ _ G1.out hb2); clear hb2 d0 d1 d2; obtain ⟨d0, d1, d2⟩ := HRC.out _ _ _ _ G2.out.2; simp only at d0 d1 d2))
                      go_ret
                      exact ⟨ret_bool8 (by rw [HV.out]), G2.out.1.bl⟩
                    | true =>
                      rw [hsx] at HSr HOK
                      have hx64 := srcs9_len hsx
                      have HA2 : Hid ((rcs.take (k + 1)).all recOk9 = true) := Lib.hid (by rw [HS1.out, HA.out, HOK.out]; rfl)
                      have HS3 : Hid (n ≤ 1000 → ((sizeR9 (rcs.take (k + 1)) : Nat) : Int) = z + 20 + 16 * (xs.length : Int) ∧ 0 ≤ z ∧ z ≤ 2000000 ∧ (xs.length : Int) < 65) := Lib.hid (fun h => by have h1 := HZZ.out h; have h2 := HS2.out; have := HLE.out; rw [List.length_take] at this; omega)
                      clear HF HOK HS1 HS2 hgx hsx HA HLE HZZ hx64
                      go_wp2_with (first | (go_at_call 27; (with_reducible refine (HGr.out _).mono ?_); rintro x w1 ⟨rfl, hb1⟩; have G1 := Lib.hid (HQ.out _ _ H1.out hb1); clear hb1 d0 d1 d2; obtain ⟨d0, d1, d2⟩ := HRC.out _ _ _ _ G1.out.2; simp only at d0 d1 d2) | (go_at_call 28; (with_reducible refine (HSr.out _ G1.out.2).mono ?_); rintro x w2 ⟨rfl, hb2⟩; have G2 := Lib.hid (HQ.out _ _ G1.out hb2); clear hb2 d0 d1 d2; obtain ⟨d0, d1, d2⟩ := HRC.out _ _ _ _ G2.out.2; simp only at d0 d1 d2))
                      go_roundw
                      case rel =>
                        refine ⟨k + 1, _, by omega, by go_num, rfl, Lib.hid (fun h => ?_), HA2, Lib.hid G2.out.1⟩
                        have := HS3.out h
                        simp only [IntKind.wrap_i64, wrap64]
                        omega
                      case measure => simp [intOf]; omega
                · have hd : ¬ (k : Int) < (n : Int) := by omega
                  have HA2 : Hid (rcs.all recOk9 = true) := Lib.hid (by
                    have e := HA.out
                    rw [List.take_of_length_le (by rw [← HN.out]; omega)] at e
                    exact e)
                  have HSZ : Hid (sizeR9 (rcs.take k) = sizeR9 rcs) := Lib.hid (by rw [List.take_of_length_le (by rw [← HN.out]; omega)])
                  have HB0 := Lib.hid HB.out
                  clear hlt
                  obtain ⟨c0, c1, c2, c3, c4, c5, c6, c7, c8, c9, c10⟩ := HGD.out _ HB.out
                  rw [← HN.out] at c9
                  obtain ⟨gv, hgv⟩ : ∃ b, g.1 = b := ⟨_, rfl⟩
                  obtain ⟨zv, hzv⟩ : ∃ b, zeroV g.2 = b := ⟨_, rfl⟩
                  have hzv2 : decide (g.2 = z16) = zv := hzv
                  rw [hgv] at c10
                  rw [hzv] at HZ0
                  have HV0 : Hid (R = (decide (gv = false) && (zv && (decide (n < 65) && decide (z < 1401))))) := Lib.hid (by
                    by_cases h : n < 65
                    · rw [HZZ.out (by omega), HRV.out, HA2.out, HSZ.out, ← HN.out, hgv, hzv2, Bool.true_and, show decide ((sizeR9 rcs : Int) < 1401) = decide (sizeR9 rcs < 1401) by rw [Bool.eq_iff_iff]; simp; omega]
                    · rw [HRV.out, ← HN.out, decide_eq_false h]; simp)
                  clear HZZ
                  clear hgv hzv hzv2
                  cases gv with
                  | true =>
                    have HV := Lib.hid (show R = false by rw [HV0.out]; rfl)
                    go_wp2
                    go_ret
                    exact ⟨ret_bool8 (by rw [HV.out]), HB0.out.bl⟩
                  | false =>
                    cases zv with
                    | false =>
                      have HV := Lib.hid (show R = false by rw [HV0.out]; rfl)
                      go_wp2_with (go_at_call 29; (with_reducible refine (HZ0.out _).mono ?_); rintro x w5 ⟨rfl, hb5⟩; have H5 := Lib.hid (HB0.out.below hb5); clear hb5 c0 c1 c2 c3 c4 c5 c6 c7 c8 c9 c10; obtain ⟨c0, c1, c2, c3, c4, c5, c6, c7, c8, c9, c10⟩ := HGD.out _ H5.out; rw [← HN.out] at c9)
                      go_ret
                      exact ⟨ret_bool8 (by rw [HV.out]), H5.out.bl⟩
                    | true =>
                      by_cases l65 : n < 65
                      · have tl : decide ((n : Int) < 65) = true := decide_eq_true (by omega)
                        rw [decide_eq_true l65] at HV0
                        clear l65
                        by_cases hz : (z : Int) < 1401
                        · have tz : decide ((z : Int) < 1401) = true := decide_eq_true hz
                          rw [tz] at HV0
                          have HV := Lib.hid (show R = true by rw [HV0.out]; rfl)
                          go_wp2_with (go_at_call 29; (with_reducible refine (HZ0.out _).mono ?_); rintro x w5 ⟨rfl, hb5⟩; have H5 := Lib.hid (HB0.out.below hb5); clear hb5 c0 c1 c2 c3 c4 c5 c6 c7 c8 c9 c10; obtain ⟨c0, c1, c2, c3, c4, c5, c6, c7, c8, c9, c10⟩ := HGD.out _ H5.out; rw [← HN.out] at c9)
                          go_ret
                          exact ⟨ret_bool8 (by rw [HV.out]; try (first | exact tz | exact tz.symm)), H5.out.bl⟩
                        · have tz : decide ((z : Int) < 1401) = false := decide_eq_false hz
                          rw [tz] at HV0
                          have HV := Lib.hid (show R = false by rw [HV0.out]; rfl)
                          go_wp2_with (go_at_call 29; (with_reducible refine (HZ0.out _).mono ?_); rintro x w5 ⟨rfl, hb5⟩; have H5 := Lib.hid (HB0.out.below hb5); clear hb5 c0 c1 c2 c3 c4 c5 c6 c7 c8 c9 c10; obtain ⟨c0, c1, c2, c3, c4, c5, c6, c7, c8, c9, c10⟩ := HGD.out _ H5.out; rw [← HN.out] at c9)
                          go_ret
                          exact ⟨ret_bool8 (by rw [HV.out]; try (first | exact tz | exact tz.symm)), H5.out.bl⟩
                      · have tl : decide ((n : Int) < 65) = false := decide_eq_false (by omega)
                        rw [decide_eq_false l65] at HV0
                        have HV := Lib.hid (show R = false by rw [HV0.out]; rfl)
                        clear l65
                        go_wp2_with (go_at_call 29; (with_reducible refine (HZ0.out _).mono ?_); rintro x w5 ⟨rfl, hb5⟩; have H5 := Lib.hid (HB0.out.below hb5); clear hb5 c0 c1 c2 c3 c4 c5 c6 c7 c8 c9 c10; obtain ⟨c0, c1, c2, c3, c4, c5, c6, c7, c8, c9, c10⟩ := HGD.out _ H5.out; rw [← HN.out] at c9)
                        go_ret
                        exact ⟨ret_bool8 (by rw [HV.out]), H5.out.bl⟩
          · have tresp : (resp != 0) = true := by simp [zresp]
            have HR := Lib.hid (show R = false by rw [hR]; simp [good9, zrob, zevery, lsrc, zresp])
            clear hR
            go_wp2
            go_ret
            exact ⟨ret_bool8 (by rw [HR.out]), H0.out.2⟩
        · have psrc : 0 < src.length := Nat.pos_of_ne_zero lsrc
          have tsrc : decide ((0 : Int) < (src.length : Int)) = true := by simp; omega
          have vsrc : decide (0 < src.length) = true := by simp; omega
          have HR := Lib.hid (show R = false by rw [hR]; simp [good9, zrob, zevery, psrc])
          clear hR
          go_wp2
          go_ret
          exact ⟨ret_bool8 (by rw [HR.out]), H0.out.2⟩
      · have tevery : (every != 0) = true := by simp [zevery]
        have HR := Lib.hid (show R = false by rw [hR]; simp [good9, zrob, zevery])
        clear hR
        go_wp2
        go_ret
        exact ⟨ret_bool8 (by rw [HR.out]), H0.out.2⟩
    · have trob : (rob != 0) = true := by simp [zrob]
      have HR := Lib.hid (show R = false by rw [hR]; simp [good9, zrob])
      clear hR
      go_wp2
      go_ret
      exact ⟨ret_bool8 (by rw [HR.out]), H0.out.2⟩


theorem rgood9_all (t : TK) (us ur : Value) (w : World) (ho : t.ok) (hs : Ads w us t.src) (hr : Rcs w ur t.rcs) :
    Calls Try.prog 22 #[.agg (tkC t us ur).toArray] w fun x w' => x = .returned (.bool (good9 t)) ∧ Below w.heap.size w w' := by
  by_cases hb : t.v6 = false ∨ t.ver < 1 ∨ 2 < t.ver ∨ t.kind < 1 ∨ 3 < t.kind ∨ (t.ver = 2 ∧ t.kind = 3)
  · exact rgood9_bad t us ur w ho hs hr hb _ rfl
  have hv6 : t.v6 = true := by
    cases h : t.v6
    · exact absurd (Or.inl h) hb
    · rfl
  have h1 : t.ver = 1 ∨ t.ver = 2 := by omega
  have h2 : t.kind = 1 ∨ t.kind = 2 ∨ (t.kind = 3 ∧ t.ver = 1) := by omega
  rcases h1 with v | v
  · rcases h2 with k | k | ⟨k, _⟩
    · exact rgood9_11 t us ur w ho hs hr hv6 v k _ rfl
    · exact rgood9_12 t us ur w ho hs hr hv6 v k _ rfl
    · exact rgood9_13 t us ur w ho hs hr hv6 v k _ rfl
  · rcases h2 with k | k | ⟨_, k⟩
    · exact rgood9_21 t us ur w ho hs hr hv6 v k _ rfl
    · exact rgood9_22 t us ur w ho hs hr hv6 v k _ rfl
    · omega
end Go.Proofs.Ytacnhelnpngkgaa

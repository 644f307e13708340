/-
  The library's sort by pattern-defeating quicksort, of fewer than 50 texts.
-/
import Derived.Test.YtiegeejbnplhdaaSoJ
import Derived.Test.YtiegeejbnplhdaaSoL
import Derived.Test.YtiegeejbnplhdaaSoM
import Derived.Test.YtiegeejbnplhdaaSoO
import Derived.Test.YtiegeejbnplhdaaSoQ
import Derived.Sort.Walk13a
import Derived.Sort.AssemblyPlain
import Derived.Deep.Cut
namespace Go.Proofs.Ytiegeejbnplhdaa
open Go.RowKit
set_option linter.unusedVariables false
set_option linter.unusedSimpArgs false

theorem hintI_two {h : Sort.Hint} : hintI h = 2 ↔ h = .decreasing := by cases h <;> simp [hintI]
theorem hintI_one {h : Sort.Hint} : hintI h = 1 ↔ h = .increasing := by cases h <;> simp [hintI]
theorem eighth {x y p q : Nat} (h1 : q ≤ p) (h2 : y ≤ x) : decide (((x : Int) - (y : Int)) / 8 ≤ (p : Int) - (q : Int)) = decide (p - q ≥ (x - y) / 8) :=
  decide_eq_decide.2 ⟨fun h => by omega, fun h => by omega⟩
theorem partEq_range {lt : List UInt8 → List UInt8 → Bool} (d : Array (List UInt8)) (a b pv : Nat) (hab : a < b) (hb : b ≤ d.size) : a < (Sort.partitionEqual lt d a b pv).1 ∧ (Sort.partitionEqual lt d a b pv).1 ≤ b := by
  unfold Sort.partitionEqual
  obtain ⟨r1, r2, _⟩ := Sort.partEqLoop_spec lt a b _ (a + 1) (b - 1) (Sort.swp d a pv) (Nat.le_refl _) (Nat.lt_succ_self a) (by omega) (by omega) (by rw [Sort.size_swp]; exact hb) (fun t h1 h2 => by omega) (fun t h1 h2 => by omega)
  exact ⟨r1, r2⟩
set_option maxRecDepth 1000000 in
set_option maxHeartbeats 16000000 in
theorem pdq_any (E : SE) (ok : E.Ok) (h50 : E.n < 50) : ∀ (N a b lim : Nat) (d : Array (List UInt8)) (w : World), b - a < N → St E w d → a ≤ b → b ≤ E.n → lim < 4611686018427387904 →
    Calls Try.prog 33 #[.slice (some ⟨E.g, 0, none⟩) E.n E.cap, .int .i64 a, .int .i64 b, .int .i64 lim, .func (.func 29) #[.pointer (some ⟨E.b, 0, none⟩)] #[]] w fun x w' => x = .returned (.tuple #[]) ∧ St E w' (Sort.pdq E.lt d a b lim true true) := by
  intro N
  induction N with
  | zero => intro _ _ _ _ _ h; exact absurd h (Nat.not_lt_zero _)
  | succ N ih =>
    intro a b lim0 d w hN S0 hab hb hlim0
    have hnm := ok.nm
    have HK := Lib.hid ok
    have IH := Lib.hid ih
    obtain ⟨R, HR0⟩ : ∃ R, Hid (Sort.pdq E.lt d a b lim0 true true = R) := ⟨_, Lib.hid rfl⟩
    rw [HR0.out]
    have ST := Lib.hid S0
    clear S0 ih ok
    go_enter Try.func33, Try.ntmps33
    go_wp2_with fail
    go_loopg [1, 2, 3, 10, 11] (b - a) (fun k s1 s2 s3 s10 s11 wr => ∃ (a' b' lim : Nat) (wb wp : Bool) (dk : Array (List UInt8)), s1 = .int .i64 a' ∧ s2 = .int .i64 b' ∧ s3 = .int .i64 lim ∧ s10 = .bool wb ∧ s11 = .bool wp ∧ Hid (a' ≤ b' ∧ b' ≤ E.n ∧ b' - a' ≤ k ∧ k ≤ b - a ∧ lim ≤ lim0) ∧ Hid (St E wr dk) ∧ Hid (Sort.pdq E.lt dk a' b' lim wb wp = R))
    case atStart => exact ⟨a, b, lim0, true, true, d, rfl, rfl, rfl, rfl, rfl, Lib.hid ⟨hab, hb, Nat.le_refl _, Nat.le_refl _, Nat.le_refl _⟩, ST, HR0⟩
    case round =>
      clear ST HR0
      obtain ⟨a', b', lim, wb, wp, dk, rfl, rfl, rfl, rfl, rfl, HB, ST1, HR⟩ := hrel
      obtain ⟨hab', hb', hk, hkN, hlim⟩ := HB.out
      by_cases h12 : b' - a' ≤ 12
      · have h12z : (b' : Int) - (a' : Int) ≤ 12 := by omega
        have hc := Lib.hid (insS_any E HK.out a' b' dk wr ST1.out hab' hb')
        go_wp2_with (go_at_call 40; (with_reducible refine hc.out.mono ?_); rintro x w1 ⟨rfl, h1⟩; have H1 := Lib.hid h1; clear h1)
        refine bodyPost_ret (results_none rfl _ _ _) rfl ?_
        refine ⟨rfl, ?_⟩
        rw [← HR.out, Sort.pdq_small h12]
        exact H1.out
      · have h12z : ¬ ((b' : Int) - (a' : Int) ≤ 12) := by omega
        by_cases hl0 : lim = 0
        · subst hl0
          have hc := Lib.hid (heapS_any E HK.out a' b' _ _ rfl rfl dk wr ST1.out hab' hb')
          go_wp2_with (go_at_call 41; (with_reducible refine hc.out.mono ?_); rintro x w1 ⟨rfl, h1⟩; have H1 := Lib.hid h1; clear h1)
          refine bodyPost_ret (results_none rfl _ _ _) rfl ?_
          refine ⟨rfl, ?_⟩
          rw [← HR.out, Sort.pdq_heap h12 rfl]
          exact H1.out
        · have hl0z : ¬ ((lim : Int) = 0) := by omega
          have HSZ := Lib.hid ST1.out.sz
          obtain ⟨r, Hr⟩ : ∃ r, Hid (Sort.rd E.lt dk a' b' lim wb wp = r) := ⟨_, Lib.hid rfl⟩
          have hrl : r.lim ≤ lim := by have := Sort.rd_lim_le (lt := E.lt) (d := dk) (a := a') (b := b') (limit := lim) (wb := wb) (wp := wp); rw [Hr.out] at this; exact this
          go_upto_if 39 with fail
          go_cut [3] from 21 (fun s3 wc => s3 = .int .i64 r.lim ∧ Hid (St E wc r.d1))
          case first =>
            cases wb
            · have he := Sort.rd_false (lt := E.lt) (d := dk) (a := a') (b := b') (limit := lim) (wp := wp)
              rw [Hr.out] at he
              have HE := Lib.hid he
              clear he
              have hc := Lib.hid (fun fv => brk_any E HK.out a' b' _ _ rfl rfl fv dk wr ST1.out (by omega) hb')
              go_wp2_with (go_at_call 42; (with_reducible refine (hc.out _).mono ?_); rintro x w1 ⟨rfl, h1⟩; have H1 := Lib.hid h1; clear h1)
              go_meet
              case rel =>
                refine ⟨?_, Lib.hid (by rw [HE.out.1]; exact H1.out)⟩
                rw [HE.out.2]
                congr 1
                omega
            · have he := Sort.rd_true (lt := E.lt) (d := dk) (a := a') (b := b') (limit := lim) (wp := wp)
              rw [Hr.out] at he
              have HE := Lib.hid he
              clear he
              go_wp2_with fail
              go_meet
              case rel => exact ⟨by rw [HE.out.2], Lib.hid (by rw [HE.out.1]; exact ST1.out)⟩
          case rest =>
            obtain ⟨rfl, ST2⟩ := hcut
            have hc : r.c = Sort.choosePivot E.lt r.d1 a' b' := by rw [← Hr.out]; exact Sort.rd_c
            obtain ⟨c1, c2⟩ := Sort.choosePivot_holds E.lt r.d1 a' b' (by omega)
            rw [← hc] at c1 c2
            have HC := Lib.hid hc
            have hcl := pivot_any E HK.out a' b' _ _ rfl rfl r.d1 wc ST2.out (by omega) hb'
            rw [← hc] at hcl
            have HP := Lib.hid hcl
            clear hc hcl
            obtain ⟨p0, q0, Hp0, Hq0⟩ : ∃ (p0 : Nat) (q0 : Int), Hid (r.c.1 = p0) ∧ Hid (hintI r.c.2 = q0) := ⟨_, _, Lib.hid rfl, Lib.hid rfl⟩
            rw [Hp0.out] at HP c1 c2
            rw [Hq0.out] at HP
            go_upto_if 56 with (go_at_call 43; (with_reducible refine HP.out.mono ?_); rintro x w2 ⟨rfl, h2⟩; have H2 := Lib.hid h2; clear h2)
            have hpv : a' ≤ r.pivot ∧ r.pivot < b' := by
              by_cases hh : r.c.2 = .decreasing
              · have := Sort.rd_dec (lt := E.lt) (d := dk) (a := a') (b := b') (limit := lim) (wb := wb) (wp := wp) (by rw [Hr.out]; exact hh)
                rw [Hr.out, Hp0.out] at this
                rw [this.2.1]; omega
              · have := Sort.rd_not (lt := E.lt) (d := dk) (a := a') (b := b') (limit := lim) (wb := wb) (wp := wp) (by rw [Hr.out]; exact hh)
                rw [Hr.out, Hp0.out] at this
                rw [this.2.1]; omega
            go_cut [13, 14] from 21 (fun s13 s14 wc => s13 = .int .i64 r.pivot ∧ s14 = .int .i64 (hintI r.hint) ∧ Hid (St E wc r.d2))
            case first =>
              by_cases hh : r.c.2 = .decreasing
              · have hq : q0 = 2 := by rw [← Hq0.out]; exact hintI_two.2 hh
                have he := Sort.rd_dec (lt := E.lt) (d := dk) (a := a') (b := b') (limit := lim) (wb := wb) (wp := wp) (by rw [Hr.out]; exact hh)
                rw [Hr.out, Hp0.out] at he
                have HE := Lib.hid he
                have HV := Lib.hid (fun fv => rev_any E HK.out a' b' _ _ rfl rfl fv r.d1 w2 H2.out (by omega) hb')
                clear he hh
                go_wp2_with (go_at_call 44; (with_reducible refine (HV.out _).mono ?_); rintro x w3 ⟨rfl, h3⟩; have H3 := Lib.hid h3; clear h3)
                go_meet
                case rel =>
                  refine ⟨?_, by rw [HE.out.2.2]; rfl, Lib.hid (by rw [HE.out.1]; exact H3.out)⟩
                  rw [HE.out.2.1]
                  congr 1
                  omega
              · have hq : ¬ q0 = 2 := fun h => hh (hintI_two.1 (Hq0.out.trans h))
                have he := Sort.rd_not (lt := E.lt) (d := dk) (a := a') (b := b') (limit := lim) (wb := wb) (wp := wp) (by rw [Hr.out]; exact hh)
                rw [Hr.out, Hp0.out] at he
                have HE := Lib.hid he
                clear he hh
                go_wp2_with fail
                go_meet
                case rel => exact ⟨by rw [HE.out.2.1], by rw [HE.out.2.2, Hq0.out], Lib.hid (by rw [HE.out.1]; exact H2.out)⟩
            case rest =>
              clear HP c1 c2 Hp0 Hq0 HC H2 ST2
              obtain ⟨rfl, rfl, ST3⟩ := hcut
              obtain ⟨g, Hg⟩ : ∃ g, Hid (g = (wb && wp && decide (r.hint = .increasing))) := ⟨_, Lib.hid rfl⟩
              go_upto_region 15 with fail
              go_cut [14, 75] from 21 (fun s14 s75 wx => s14 = .int .i64 (hintI r.hint) ∧ s75 = .bool g ∧ wx = wc)
              case first =>
                obtain ⟨q, Hq⟩ : ∃ q, Hid (hintI r.hint = q) := ⟨_, Lib.hid rfl⟩
                rw [Hq.out]
                have HG : Hid (g = (wb && wp && decide (q = 1))) := Lib.hid (by rw [Hg.out, ← Hq.out]; congr 1; exact decide_eq_decide.2 hintI_one.symm)
                clear Hr HR
                by_cases hq : q = 1
                · have hq1 : (q == 1) = true := by rw [hq]; rfl
                  cases wb <;> cases wp <;>
                  (go_wp2_with fail
                   go_meet
                   exact ⟨by rw [Hq.out], by rw [HG.out]; simp [hq], rfl⟩)
                · have hq1 : (q == 1) = false := by simpa using hq
                  cases wb <;> cases wp <;>
                  (go_wp2_with fail
                   go_meet
                   exact ⟨by rw [Hq.out], by rw [HG.out]; simp [hq], rfl⟩)
              case rest =>
                obtain ⟨rfl, rfl, rfl⟩ := hcut
                go_upto_if 75 with fail
                go_cut [] from 21 (fun wx => Hid (r.pi.2 = false) ∧ Hid (St E wx r.pi.1))
                case first =>
                  cases hg : g
                  · have he := Sort.rd_pi_no (lt := E.lt) (d := dk) (a := a') (b := b') (limit := lim) (wb := wb) (wp := wp) (by rw [Hr.out, ← Hg.out, hg])
                    rw [Hr.out] at he
                    have HE := Lib.hid he
                    clear he
                    go_wp2_with fail
                    go_meet
                    case rel => exact ⟨Lib.hid (by rw [HE.out]), Lib.hid (by rw [HE.out]; exact ST3.out)⟩
                  · have he := Sort.rd_pi_yes (lt := E.lt) (d := dk) (a := a') (b := b') (limit := lim) (wb := wb) (wp := wp) (by rw [Hr.out, ← Hg.out, hg])
                    rw [Hr.out] at he
                    have hcl := partI_any E HK.out a' b' _ _ rfl rfl r.d2 wc ST3.out (by omega) hb' (by omega)
                    rw [← he] at hcl
                    clear he
                    cases ht : r.pi.2
                    · rw [ht] at hcl
                      have HP := Lib.hid hcl
                      clear hcl
                      have HT := Lib.hid ht
                      clear ht
                      go_wp2_with (go_at_call 45; (with_reducible refine HP.out.mono ?_); rintro x w4 ⟨rfl, h4⟩; have H4 := Lib.hid h4; clear h4)
                      go_meet
                      case rel => exact ⟨HT, H4⟩
                    · rw [ht] at hcl
                      have HP := Lib.hid hcl
                      clear hcl
                      have HT := Lib.hid (Sort.pdq_done (lt := E.lt) (wb := wb) (wp := wp) h12 hl0 (by rw [Hr.out]; exact ht))
                      clear ht
                      go_wp2_with (go_at_call 45; (with_reducible refine HP.out.mono ?_); rintro x w4 ⟨rfl, h4⟩; have H4 := Lib.hid h4; clear h4)
                      refine bodyPost_ret (results_none rfl _ _ _) rfl ?_
                      refine ⟨rfl, ?_⟩
                      rw [← HR.out, HT.out, Hr.out]
                      exact H4.out
                case rest =>
                  clear ST3 Hg
                  obtain ⟨HT, ST4⟩ := hcut
                  go_upto_region 17 with fail
                  go_cut [1, 12, 13, 97] from 21 (fun s1 s12 s13 s97 wx => s1 = .int .i64 a' ∧ s12 = .int .i64 ((b' : Int) - (a' : Int)) ∧ s13 = .int .i64 r.pivot ∧ s97 = .bool (decide (a' > 0) && !E.lt r.pi.1[a' - 1]! r.pi.1[r.pivot]!) ∧ Hid (St E wx r.pi.1))
                  case first =>
                    obtain ⟨v, Hv⟩ : ∃ v, Hid ((decide (a' > 0) && !E.lt r.pi.1[a' - 1]! r.pi.1[r.pivot]!) = v) := ⟨_, Lib.hid rfl⟩
                    obtain ⟨xa, HXa⟩ : ∃ x : Int, Hid (x = (a' : Int)) := ⟨_, Lib.hid rfl⟩
                    obtain ⟨xp, HXp⟩ : ∃ x : Int, Hid (x = (r.pivot : Int)) := ⟨_, Lib.hid rfl⟩
                    rw [← HXa.out, ← HXp.out]
                    have HBp : Hid (r.pivot < E.n) := Lib.hid (by omega)
                    rcases Nat.eq_zero_or_pos a' with ha0 | ha0
                    · have hd : decide (xa > 0) = false := decide_eq_false (by rw [HXa.out]; omega)
                      have hd' : ¬ xa > 0 := by rw [HXa.out]; omega
                      have hvf : v = false := by rw [← Hv.out, decide_eq_false (by omega : ¬ a' > 0)]; rfl
                      obtain ⟨S, HS0, HSE⟩ := ST4.out.noTest
                      have hne : Nonempty (InS S) := ⟨⟨_, HS0.out⟩⟩
                      refine wp_region_inS S (by kernel_rfl) (by kernel_rfl) HS0.out ?_
                      repeat (go_big_quiet_step (fail))
                      refine wpQuiet_nil ?_
                      rintro w2 ⟨⟨W2, hS2⟩, rfl⟩
                      have ST5 := Lib.hid (HSE.out _ hS2)
                      clear hS2 hne HS0 HSE
                      (try go_wp2_with fail)
                      go_meet
                      case rel => exact ⟨by rw [HXa.out], by rw [HXa.out], by rw [HXp.out], by (rw [Hv.out, hvf]; try rfl), ST5⟩
                    · have hd : decide (xa > 0) = true := decide_eq_true (by rw [HXa.out]; omega)
                      have hd' : xa > 0 := by rw [HXa.out]; omega
                      obtain ⟨xh, HXh, wh⟩ := wrapL (xa - 1) ((a' - 1 : Nat) : Int) (by rw [HXa.out]; omega) (by omega) (by omega)
                      obtain ⟨h, HH⟩ : ∃ h, Hid (a' - 1 = h) := ⟨_, Lib.hid rfl⟩
                      obtain ⟨p, HPp⟩ : ∃ h, Hid (r.pivot = h) := ⟨_, Lib.hid rfl⟩
                      have hvt : v = !E.lt r.pi.1[h]! r.pi.1[p]! := by rw [← Hv.out, decide_eq_true ha0, HH.out, HPp.out]; rfl
                      have HV := Lib.hid hvt
                      rw [HH.out] at HXh
                      rw [HPp.out] at HXp HBp
                      clear hvt
                      have HBh : Hid (h < E.n) := Lib.hid (by have := HH.out; omega)
                      obtain ⟨th, ph, bh⟩ := idxV HXh.out HBh.out
                      obtain ⟨tp, pp, bp⟩ := idxV HXp.out HBp.out
                      obtain ⟨S, X, Y, c, HS0, HSE, HKP, l1, l2, HC, HLT⟩ := ST4.out.test HK.out HBh.out HBp.out
                      have hne : Nonempty (InS S) := ⟨⟨_, HS0.out⟩⟩
                      by_cases hv : c < 0
                      · have hv1 : decide (c < 0) = true := decide_eq_true hv
                        have hlt := HLT.out.trans hv1
                        have HLT := Lib.hid hlt
                        clear hlt
                        refine wp_region_inS S (by kernel_rfl) (by kernel_rfl) HS0.out ?_
                        repeat (go_big_quiet_step (exact Calls.inS HKP.out _ HC.out))
                        refine wpQuiet_nil ?_
                        rintro w2 ⟨⟨W2, hS2⟩, rfl⟩
                        have ST5 := Lib.hid (HSE.out _ hS2)
                        clear hS2 hne l1 l2 HS0 HSE HKP HC
                        (try go_wp2_with fail)
                        go_meet
                        case rel => exact ⟨by rw [HXa.out], by rw [HXa.out], by rw [HXp.out, HPp.out], by (rw [Hv.out, HV.out, HLT.out]; try rfl), ST5⟩
                      · have hv1 : decide (c < 0) = false := decide_eq_false hv
                        have hlt := HLT.out.trans hv1
                        have HLT := Lib.hid hlt
                        clear hlt
                        refine wp_region_inS S (by kernel_rfl) (by kernel_rfl) HS0.out ?_
                        repeat (go_big_quiet_step (exact Calls.inS HKP.out _ HC.out))
                        refine wpQuiet_nil ?_
                        rintro w2 ⟨⟨W2, hS2⟩, rfl⟩
                        have ST5 := Lib.hid (HSE.out _ hS2)
                        clear hS2 hne l1 l2 HS0 HSE HKP HC
                        (try go_wp2_with fail)
                        go_meet
                        case rel => exact ⟨by rw [HXa.out], by rw [HXa.out], by rw [HXp.out, HPp.out], by (rw [Hv.out, HV.out, HLT.out]; try rfl), ST5⟩
                  case rest =>
                    obtain ⟨rfl, rfl, rfl, rfl, ST5⟩ := hcut
                    clear ST4
                    cases h97 : (decide (a' > 0) && !E.lt r.pi.1[a' - 1]! r.pi.1[r.pivot]!)
                    · have hrange := Sort.partition_holds E.lt (swoE E) r.pi.1 a' b' r.pivot hpv.1 hpv.2 (by rw [ST5.out.sz]; exact hb')
                      have hcl := part_any E HK.out a' b' r.pivot _ _ _ rfl rfl rfl r.pi.1 wc ST5.out (by omega) hb' (by omega)
                      obtain ⟨mid, ap, d4, hx⟩ : ∃ mid ap d4, Sort.partition E.lt r.pi.1 a' b' r.pivot = (mid, ap, d4) := ⟨(Sort.partition E.lt r.pi.1 a' b' r.pivot).1, (Sort.partition E.lt r.pi.1 a' b' r.pivot).2.1, (Sort.partition E.lt r.pi.1 a' b' r.pivot).2.2, rfl⟩
                      rw [hx] at hrange hcl
                      have m1 : a' ≤ mid := hrange.1
                      have m2 : mid < b' := hrange.2.1
                      have HX := Lib.hid hx
                      have HP := Lib.hid hcl
                      have H97 := Lib.hid h97
                      clear hx hrange hcl h97
                      go_upto_if 125 with (go_at_call 47; (with_reducible refine HP.out.mono ?_); rintro x w7 ⟨rfl, h7⟩; have H7 := Lib.hid h7; clear h7)
                      have HR2 := Lib.hid (fun h4 => (Sort.pdq_left (lt := E.lt) (d := dk) (a := a') (b := b') (limit := lim) (wb := wb) (wp := wp) h12 hl0 (by rw [Hr.out]; exact HT.out) (by rw [Hr.out]; exact H97.out) (by rw [Hr.out, HX.out]; exact ⟨m1, m2⟩) (by rw [Hr.out, HX.out]; exact h4)))
                      have HR3 := Lib.hid (fun h4 => (Sort.pdq_right (lt := E.lt) (d := dk) (a := a') (b := b') (limit := lim) (wb := wb) (wp := wp) h12 hl0 (by rw [Hr.out]; exact HT.out) (by rw [Hr.out]; exact H97.out) (by rw [Hr.out, HX.out]; exact ⟨m1, m2⟩) (by rw [Hr.out, HX.out]; exact h4)))
                      by_cases h4 : mid - a' < b' - mid
                      · have h4z : (mid : Int) - (a' : Int) < (b' : Int) - (mid : Int) := by omega
                        have hih := Lib.hid (IH.out a' mid r.lim d4 w7 (by omega) H7.out m1 (by omega) (by omega))
                        go_wp2_with (go_at_call 33; (with_reducible refine hih.out.mono ?_); rintro x w8 ⟨rfl, h8⟩; have H8 := Lib.hid h8; clear h8)
                        go_roundg (b' - (mid + 1))
                        case measure => omega
                        case rel =>
                          refine ⟨mid + 1, b', r.lim, decide (mid - a' ≥ (b' - a') / 8), ap, _, by simp, rfl, rfl, ?_, rfl, Lib.hid ⟨by omega, hb', Nat.le_refl _, by omega, Nat.le_trans hrl hlim⟩, H8, Lib.hid ?_⟩
                          · exact congrArg Value.bool (eighth (by omega) (by omega))
                          · have := HR2.out h4
                            rw [Hr.out, HX.out] at this
                            rw [← HR.out, this]
                      · have h4z : ¬ ((mid : Int) - (a' : Int) < (b' : Int) - (mid : Int)) := by omega
                        have hi0 := IH.out (mid + 1) b' r.lim d4 w7 (by omega) H7.out (by omega) hb' (by omega)
                        rw [show (((mid + 1 : Nat)) : Int) = (mid : Int) + 1 from rfl] at hi0
                        have hih := Lib.hid hi0
                        clear hi0
                        go_wp2_with (go_at_call 33; (with_reducible refine hih.out.mono ?_); rintro x w8 ⟨rfl, h8⟩; have H8 := Lib.hid h8; clear h8)
                        go_roundg (mid - a')
                        case measure => omega
                        case rel =>
                          refine ⟨a', mid, r.lim, decide (b' - mid ≥ (b' - a') / 8), ap, _, rfl, rfl, rfl, ?_, rfl, Lib.hid ⟨m1, by omega, Nat.le_refl _, by omega, Nat.le_trans hrl hlim⟩, H8, Lib.hid ?_⟩
                          · exact congrArg Value.bool (eighth (by omega) (by omega))
                          · have := HR3.out h4
                            rw [Hr.out, HX.out] at this
                            rw [← HR.out, this]
                    · have hrange := partEq_range (lt := E.lt) r.pi.1 a' b' r.pivot (by omega) (by rw [ST5.out.sz]; exact hb')
                      have hcl := partEq_any E HK.out a' b' r.pivot _ _ _ rfl rfl rfl r.pi.1 wc ST5.out (by omega) hb' (by omega)
                      obtain ⟨mid, d4, hx⟩ : ∃ mid d4, Sort.partitionEqual E.lt r.pi.1 a' b' r.pivot = (mid, d4) := ⟨(Sort.partitionEqual E.lt r.pi.1 a' b' r.pivot).1, (Sort.partitionEqual E.lt r.pi.1 a' b' r.pivot).2, rfl⟩
                      rw [hx] at hrange hcl
                      have m1 : a' < mid := hrange.1
                      have m2 : mid ≤ b' := hrange.2
                      have HX := Lib.hid hx
                      have HP := Lib.hid hcl
                      have H97 := Lib.hid h97
                      clear hx hrange hcl h97
                      have HR2 := Lib.hid ((Sort.pdq_eq (lt := E.lt) (d := dk) (a := a') (b := b') (limit := lim) (wb := wb) (wp := wp) h12 hl0 (by rw [Hr.out]; exact HT.out) (by rw [Hr.out]; exact H97.out) (by rw [Hr.out, HX.out]; exact ⟨m1, m2⟩)))
                      go_wp2_with (go_at_call 46; (with_reducible refine HP.out.mono ?_); rintro x w7 ⟨rfl, h7⟩; have H7 := Lib.hid h7; clear h7)
                      go_roundg (b' - mid)
                      case measure => omega
                      case rel =>
                        refine ⟨mid, b', r.lim, wb, wp, _, rfl, rfl, rfl, rfl, rfl, Lib.hid ⟨m2, hb', Nat.le_refl _, by omega, Nat.le_trans hrl hlim⟩, H7, Lib.hid ?_⟩
                        have := HR2.out
                        rw [Hr.out, HX.out] at this
                        rw [← HR.out, this]
end Go.Proofs.Ytiegeejbnplhdaa

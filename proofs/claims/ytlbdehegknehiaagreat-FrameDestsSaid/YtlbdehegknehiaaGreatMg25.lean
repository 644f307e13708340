/-
  Texts joined: IgB, IgC, IgP, MgP, Ge.
-/
import Derived.Test.YtlbdehegknehiaaGreatMg00
import Derived.Test.YtlbdehegknehiaaGreatMg23
import Derived.Test.YtlbdehegknehiaaGreatCodP
import Derived.Test.YtlbdehegknehiaaGreatMgA
import Derived.Test.YtlbdehegknehiaaGreatMg16
import Derived.Test.YtlbdehegknehiaaGreatIp
/- A part of the proof. -/
namespace Go.Proofs.YtlbdehegknehiaaGreat
set_option maxRecDepth 100000
set_option maxHeartbeats 2000000
open Go.RowKit
set_option linter.unusedVariables false
set_option linter.unusedSimpArgs false
attribute [local go_sem ↓] ld_addr
attribute [local go_sem] ldr_addr row?_drewN_eq row?_drew_eq
theorem equal8_any (va vb : Value) (la lb : List AD) (w : World) (ha : Ads w va la) (hb : Ads w vb lb) :
    Calls Tryz.prog 79 #[va, vb] w fun x w' => x = .returned (.bool (decide (la = lb))) ∧ ∃ d, w' = w.drewN d := by
  obtain ⟨pa, ca, rfl, ha1, ha2⟩ := ha.len
  obtain ⟨pb, cb, rfl, hb1, hb2⟩ := hb.len
  by_cases hl : la.length = lb.length
  · by_cases h0 : la.length = 0
    · have e1 : la = [] := List.eq_nil_of_length_eq_zero h0
      have e2 : lb = [] := List.eq_nil_of_length_eq_zero (by omega)
      subst e1 e2
      have hz : ((0 : Int) != 0) = false := rfl
      go_enter Tryz.func79, Tryz.ntmps79
      go_wp2_with fail
      go_loop [13] (fun i => i = .int .i64 0) (fun _ => 0)
      case atStart => rfl
      case round =>
        subst hrel
        go_wp2
        go_ret
        exact ⟨rfl, 0, rfl⟩
    · have na : la ≠ [] := fun h => h0 (by rw [h]; rfl)
      have nb : lb ≠ [] := fun h => h0 (by rw [hl, h]; rfl)
      obtain ⟨ba, oa, ca', ea, _, _, _, Ra⟩ := ha.parts na
      obtain ⟨bb, ob, cb', eb, _, _, _, Rb⟩ := hb.parts nb
      simp only [Value.slice.injEq] at ea eb
      obtain ⟨rfl, _, _⟩ := ea
      obtain ⟨rfl, _, _⟩ := eb
      have OA := zh ha.ok
      have OB := zh hb.ok
      have RA := zh Ra
      have RB := zh Rb
      have HL := zh hl
      obtain ⟨n, hn⟩ : ∃ n, n = la.length := ⟨_, rfl⟩
      rw [← hn] at hl ha1 h0
      rw [← hl]
      rw [← hn]
      have HN := zh hn
      have hmx : n ≤ maxLen := Nat.le_trans ha1 ha2
      unfold maxLen at hmx
      clear Ra Rb ha hb na nb hn
      have hz : ((n : Int) != (n : Int)) = false := by simp
      go_enter Tryz.func79, Tryz.ntmps79
      go_wp2_with fail
      go_loopw [13] (fun i wr => ∃ k : Nat, k ≤ n ∧ i = .int .i64 k ∧ Hid (la.take k = lb.take k) ∧ ∃ d, wr = w.drewN d) (fun i _ => n - (intOf i).toNat)
      case atStart => exact ⟨0, by omega, rfl, zh (by simp), 0, rfl⟩
      case round =>
        obtain ⟨k, hk, rfl, HT, d, rfl⟩ := hrel
        by_cases hlt : k < n
        · have g1 : k < la.length := by rw [← HN.out]; exact hlt
          have g2 : k < lb.length := by omega
          have r1 := RA.out k g1
          have r2 := RB.out k g2
          have q := fun w0 => eq_ad la[k] lb[k] (OA.out _ (List.getElem_mem g1)) (OB.out _ (List.getElem_mem g2)) w0
          have hd : decide ((k : Int) < (n : Int)) = true := by simp; omega
          have hw1 : IntKind.i64.wrap ((k : Int) + 1) = (k : Int) + 1 := by simp only [IntKind.wrap_i64]; omega
          have hk1 : (k : Int) < (n : Int) := by omega
          by_cases he : la[k] = lb[k]
          · have HS : Hid (la.take (k + 1) = lb.take (k + 1)) := zh (by rw [List.take_succ_eq_append_getElem g1, List.take_succ_eq_append_getElem g2, HT.out, he])
            rw [decide_eq_true he] at q
            generalize adC la[k] = A at *
            generalize adC lb[k] = B at *
            clear he g1 g2
            go_upto_region 6 with (fail)
            go_quiet (fail)
            go_wp2
            go_roundw
            case rel => exact ⟨k + 1, by omega, by go_num, HS, _, rfl⟩
            case measure => simp [intOf]; omega
          · have HD := zh (show decide (la = lb) = false by
              rw [decide_eq_false_iff_not]
              intro e
              apply he
              simp only [e])
            rw [decide_eq_false he] at q
            generalize adC la[k] = A at *
            generalize adC lb[k] = B at *
            clear he g1 g2
            go_upto_region 6 with (fail)
            go_quiet (fail)
            go_wp2
            go_ret
            exact ⟨ret_bool8 (by rw [HD.out]), _, World.drewN_drewN _ _ _⟩
        · have hd : ¬ (k : Int) < (n : Int) := by omega
          have HD := zh (show decide (la = lb) = true by
            rw [decide_eq_true_iff]
            have e := HT.out
            rw [List.take_of_length_le (by rw [← HN.out]; omega), List.take_of_length_le (by omega)] at e
            exact e)
          go_wp2
          go_ret
          exact ⟨ret_bool8 (by rw [HD.out]), _, rfl⟩
  · have HD := zh (show decide (la = lb) = false by
      rw [decide_eq_false_iff_not]; intro e; exact hl (by rw [e]))
    have hz : ((la.length : Int) != (lb.length : Int)) = true := by simp; omega
    clear ha hb hl
    go_enter Tryz.func79, Tryz.ntmps79
    go_wp2
    go_ret
    exact ⟨ret_bool8 (by rw [HD.out]), 0, rfl⟩
def R2 (w W : World) (x y : RC) (u v : Value) : Prop := RcU W w.heap.size 0 x u ∧ RcU W (w.heap.size + 1) 0 y v ∧ Below w.heap.size w W
theorem R2.made (w : World) (x y : RC) (u v : Value) (hx : adOk x.g) (hy : adOk y.g) (ax : Ads w u x.src) (ay : Ads w v y.src) : R2 w ((w.alloc (.cells (rcC x u).toArray 109)).alloc (.cells (rcC y v).toArray 109)) x y u v := by
  have s1 : (w.alloc (.cells (rcC x u).toArray 109)).heap.size = w.heap.size + 1 := by simp
  obtain ⟨h1, b1⟩ := RB8.made w x u hx ax
  obtain ⟨h2, b2⟩ := RB8.made (w.alloc (.cells (rcC x u).toArray 109)) y v hy (ay.below b1)
  rw [s1] at h2 b2
  exact ⟨h1.below (by rw [s1]; exact b2), h2, bstep b1 (by rw [s1]; exact b2)⟩
theorem samerec8_any (x y : RC) (u v : Value) (w : World) (hx : adOk x.g) (hy : adOk y.g) (ax : Ads w u x.src) (ay : Ads w v y.src) :
    Calls Tryz.prog 81 #[.agg (rcC x u).toArray, .agg (rcC y v).toArray] w fun e w' => e = .returned (.bool (decide (x = y))) ∧ Below w.heap.size w w' := by
  have H0 := zh (R2.made w x y u v hx hy ax ay)
  have HK : Hid (∀ W, R2 w W x y u v → RcC W w.heap.size 0 x u ∧ RcC W (w.heap.size + 1) 0 y v) := zh fun W h => ⟨h.1.cells, h.2.1.cells⟩
  have HS := zh (fun W (h : R2 w W x y u v) => equal8_any u v x.src y.src W h.1.2.2.2 h.2.1.2.2.2)
  have q := fun w0 => eq_ad x.g y.g hx hy w0
  obtain ⟨R, hR⟩ : ∃ R, R = decide (x = y) := ⟨_, rfl⟩
  rw [← hR]
  obtain ⟨xk, xg, xs⟩ := x
  obtain ⟨yk, yg, ys⟩ := y
  have hR2 : R = (decide (xk = yk) && (decide (xg = yg) && decide (xs = ys))) := by
    rw [hR, Bool.eq_iff_iff]; simp
  simp only at q HS
  clear hR hx hy ax ay
  generalize decide (xg = yg) = bg at *
  generalize decide (xs = ys) = bs at *
  have HR := zh hR2
  clear hR2
  go_enter Tryz.func81, Tryz.ntmps81
  go_upto_region 1 with (fail)
  generalize (w.alloc (.cells (rcC _ u).toArray 109)).alloc (.cells (rcC _ v).toArray 109) = W at H0 ⊢
  obtain ⟨⟨d0, d1, d2⟩, ⟨f0, f1, f2⟩⟩ := HK.out _ H0.out
  simp only at d0 d1 d2 f0 f1 f2
  by_cases e1 : xk = yk
  · have t1 : (xk == yk) = true := by simpa using e1
    rw [decide_eq_true e1] at HR
    subst e1
    generalize adC xg = A at *
    generalize adC yg = B at *
    cases bg with
    | false =>
      go_wp2
      go_ret
      exact ⟨ret_bool8 (by rw [HR.out]; rfl), H0.out.2.2⟩
    | true =>
      go_wp2_with (go_at_call 79; (with_reducible refine (HS.out _ H0.out).mono ?_); rintro x w1 ⟨rfl, d, rfl⟩)
      go_ret
      exact ⟨ret_bool8 (by rw [HR.out]; rfl), bdrewN H0.out.2.2 _⟩
  · have t1 : (xk == yk) = false := by simpa using e1
    rw [decide_eq_false e1] at HR
    clear e1
    go_wp2
    go_ret
    exact ⟨ret_bool8 (by rw [HR.out]; rfl), H0.out.2.2⟩
attribute [local go_sem ↓] ld_rec st_rec
attribute [local go_sem] ldr_rec str_rec
theorem equalf8_any (va vb : Value) (la lb : List RC) (w : World) (ha : Rcs w va la) (hb : Rcs w vb lb) :
    Calls Tryz.prog 80 #[va, vb, .func (.func 81) #[] #[]] w fun x w' => x = .returned (.bool (decide (la = lb))) ∧ Below w.heap.size w w' := by
  obtain ⟨pa, ca, rfl, ha1, ha2⟩ := ha.len
  obtain ⟨pb, cb, rfl, hb1, hb2⟩ := hb.len
  by_cases hl : la.length = lb.length
  · by_cases h0 : la.length = 0
    · have e1 : la = [] := List.eq_nil_of_length_eq_zero h0
      have e2 : lb = [] := List.eq_nil_of_length_eq_zero (by omega)
      subst e1 e2
      have hz : ((0 : Int) != 0) = false := rfl
      clear ha hb ha1 ha2 hb1 hb2
      go_enter Tryz.func80, Tryz.ntmps80
      go_wp2_with fail
      go_loop [17] (fun i => i = .int .i64 0) (fun _ => 0)
      case atStart => rfl
      case round =>
        subst hrel
        go_wp2
        go_ret
        exact ⟨rfl, Below.refl _ _⟩
    · have na : la ≠ [] := fun h => h0 (by rw [h]; rfl)
      have nb : lb ≠ [] := fun h => h0 (by rw [hl, h]; rfl)
      obtain ⟨ba, oa, ca', ea, _, _, Ra⟩ := ha.parts na
      obtain ⟨bb, ob, cb', eb, _, _, Rb⟩ := hb.parts nb
      simp only [Value.slice.injEq] at ea eb
      obtain ⟨rfl, -, hca⟩ := ea
      obtain ⟨rfl, -, hcb⟩ := eb
      subst hca hcb
      have RA := zh Ra
      have RB := zh Rb
      have HL := zh hl
      obtain ⟨n, hn⟩ : ∃ n, n = la.length := ⟨_, rfl⟩
      rw [← hn] at hl ha1 h0
      rw [← hl]
      rw [← hn]
      have HN := zh hn
      have hmx : n ≤ maxLen := Nat.le_trans ha1 ha2
      unfold maxLen at hmx
      have HL2 := zh hl
      clear Ra Rb ha hb na nb hn hl
      have hz : ((n : Int) != (n : Int)) = false := by simp
      go_enter Tryz.func80, Tryz.ntmps80
      go_wp2_with fail
      go_loopw [17] (fun i wr => ∃ k : Nat, k ≤ n ∧ i = .int .i64 k ∧ Hid (la.take k = lb.take k) ∧ Hid (Below w.heap.size w wr)) (fun i _ => n - (intOf i).toNat)
      case atStart => exact ⟨0, by omega, rfl, zh (by simp), zh (Below.refl _ _)⟩
      case round =>
        obtain ⟨k, hk, rfl, HT, HB⟩ := hrel
        by_cases hlt : k < n
        · have g1 : k < la.length := by rw [← HN.out]; exact hlt
          have g2 : k < lb.length := by rw [← HL2.out]; exact hlt
          obtain ⟨u, hu⟩ := (RA.out k g1).u
          obtain ⟨v, hv⟩ := (RB.out k g2).u
          have hu2 := hu.below HB.out
          have HV2 := zh (fun W (h : Below w.heap.size w W) => hv.below h)
          clear hu hv
          obtain ⟨ho, hlt2, r1, au⟩ := hu2
          have hoy := (HV2.out _ HB.out).1
          have HBX := zh (RcU.boxed (cs := zz19) ho au rfl)
          have hfok := fok_rec ho au.one
          have hfm := free_made wr zz19 109 19 (by simp)
          have hd : decide ((k : Int) < (n : Int)) = true := by simp; omega
          have hw1 : IntKind.i64.wrap ((k : Int) + 1) = (k : Int) + 1 := by simp only [IntKind.wrap_i64]; omega
          have hk1 : (k : Int) < (n : Int) := by omega
          have HD : Hid (la[k] ≠ lb[k] → decide (la = lb) = false) := zh fun he => by
            rw [decide_eq_false_iff_not]
            intro e
            apply he
            simp only [e]
          have HE : Hid (la[k] = lb[k] → la.take (k + 1) = lb.take (k + 1)) := zh fun he => by rw [List.take_succ_eq_append_getElem g1, List.take_succ_eq_append_getElem g2, HT.out, he]
          have HO := zh (And.intro ho hoy)
          generalize la[k] = x at *
          generalize lb[k] = y at *
          have HC : Hid (∀ W, RcU W wr.heap.size 0 x u → RcU W W.heap.size 0 y v → True) := zh fun _ _ _ => trivial
          clear HC au ho hlt2 g1 g2
          go_upto_region 6 with (fail)
          generalize aggW (wr.alloc _) wr.heap.size _ = W1 at HBX ⊢
          have H1 := zh (show Below w.heap.size w W1 from bstep HB.out HBX.out.2)
          obtain ⟨_, _, r2, av⟩ := HV2.out _ H1.out
          have HBY := zh (RcU.boxed (cs := zz19) hoy av rfl)
          have hfok2 := fok_rec hoy av.one
          have hfm2 := free_made W1 zz19 109 19 (by simp)
          clear av r1 hfm hfok hoy
          go_upto_region 7 with (fail)
          generalize aggW (W1.alloc _) W1.heap.size _ = W2 at HBY ⊢
          have HX2 := zh (HBX.out.1.below HBY.out.2)
          have H2 := zh (bstep H1.out HBY.out.2)
          have r1 := HX2.out.2.2.1
          have r2 := HBY.out.1.2.2.1
          have HS := zh (samerec8_any x y u v W2 HO.out.1 HO.out.2 HX2.out.2.2.2 HBY.out.1.2.2.2)
          by_cases he : x = y
          · rw [decide_eq_true he] at HS
            have HS2 := zh (HE.out he)
            clear he HE HD
            go_wp2_with (go_at_call 81; (with_reducible refine (HS.out).mono ?_); rintro e w1 ⟨rfl, hb1⟩; have H3 := zh (bstep H2.out hb1); clear hb1)
            go_roundw
            case rel => exact ⟨k + 1, by omega, by go_num, HS2, H3⟩
            case measure => simp [intOf]; omega
          · rw [decide_eq_false he] at HS
            have HD2 := zh (HD.out he)
            clear he HE HD
            go_wp2_with (go_at_call 81; (with_reducible refine (HS.out).mono ?_); rintro e w1 ⟨rfl, hb1⟩; have H3 := zh (bstep H2.out hb1); clear hb1)
            go_ret
            exact ⟨ret_bool8 (by rw [HD2.out]), H3.out⟩
        · have hd : ¬ (k : Int) < (n : Int) := by omega
          have HD := zh (show decide (la = lb) = true by
            rw [decide_eq_true_iff]
            have e := HT.out
            rw [List.take_of_length_le (by rw [← HN.out]; omega), List.take_of_length_le (by rw [← HL2.out]; omega)] at e
            exact e)
          go_wp2
          go_ret
          exact ⟨ret_bool8 (by rw [HD.out]), HB.out⟩
  · have HD := zh (show decide (la = lb) = false by
      rw [decide_eq_false_iff_not]; intro e; exact hl (by rw [e]))
    have hz : ((la.length : Int) != (lb.length : Int)) = true := by simp; omega
    clear ha hb hl
    go_enter Tryz.func80, Tryz.ntmps80
    go_wp2
    go_ret
    exact ⟨ret_bool8 (by rw [HD.out]), Below.refl _ _⟩
end Go.Proofs.YtlbdehegknehiaaGreat

/- A part of the proof. -/
namespace Go.Proofs.YtlbdehegknehiaaGreat
set_option maxRecDepth 100000
set_option maxHeartbeats 4000000
open Go.RowKit
set_option linter.unusedVariables false
set_option linter.unusedSimpArgs false
attribute [local go_sem ↓] ld_addr
attribute [local go_sem] ldr_addr row?_drewN_eq row?_drew_eq
theorem same8_any (ca cb : List Value) (a b : TK) (w : World) (ha : Tks w ca a) (hb : Tks w cb b) : Calls Tryz.prog 35 #[.agg ca.toArray, .agg cb.toArray] w fun x w' => x = .returned (.bool (decide (a = b))) ∧ Below w.heap.size w w' := by
  obtain ⟨oa, ua, va, rfl, sa, ra⟩ := ha
  obtain ⟨ob, ub, vb, rfl, sb, rb⟩ := hb
  have H0 := zh (T2.made w a b ua va ub vb oa ob)
  have HA := zh (fun W (h : Below w.heap.size w W) => equal8_any ua ub a.src b.src W (sa.below h) (sb.below h))
  have HR := zh (fun W (h : Below w.heap.size w W) => equalf8_any va vb a.rcs b.rcs W (ra.below h) (rb.below h))
  have q := fun w0 => eq_ad a.g b.g oa ob w0
  obtain ⟨R, hR⟩ : ∃ R, R = decide (a = b) := ⟨_, rfl⟩
  rw [← hR]
  have HDD := zh hR
  clear hR oa ob sa sb ra rb
  obtain ⟨a0, a1, a2, a3, a4, a5, a6, a7, a8, a9⟩ := a
  obtain ⟨b0, b1, b2, b3, b4, b5, b6, b7, b8, b9⟩ := b
  simp only at q HA HR
  have HCL : Hid (∀ W, T2 w W ⟨a0, a1, a2, a3, a4, a5, a6, a7, a8, a9⟩ ⟨b0, b1, b2, b3, b4, b5, b6, b7, b8, b9⟩ ua va ub vb → W.cell? ⟨w.heap.size, 0, none⟩ = some (.bool a0) ∧ W.cell? ⟨w.heap.size + 1, 0, none⟩ = some (.bool b0) ∧ W.cell? ⟨w.heap.size, 1, none⟩ = some (.int .i64 a1) ∧ W.cell? ⟨w.heap.size + 1, 1, none⟩ = some (.int .i64 b1) ∧ W.cell? ⟨w.heap.size, 2, none⟩ = some (.int .i64 a2) ∧ W.cell? ⟨w.heap.size + 1, 2, none⟩ = some (.int .i64 b2) ∧ W.cell? ⟨w.heap.size, 3, none⟩ = some (.int .i64 a3) ∧ W.cell? ⟨w.heap.size + 1, 3, none⟩ = some (.int .i64 b3) ∧ row? W w.heap.size 4 17 = some (adC a4) ∧ row? W (w.heap.size + 1) 4 17 = some (adC b4) ∧ W.cell? ⟨w.heap.size, 21, none⟩ = some (.bool a5) ∧ W.cell? ⟨w.heap.size + 1, 21, none⟩ = some (.bool b5) ∧ W.cell? ⟨w.heap.size, 22, none⟩ = some (.int .i64 a6) ∧ W.cell? ⟨w.heap.size + 1, 22, none⟩ = some (.int .i64 b6) ∧ W.cell? ⟨w.heap.size, 23, none⟩ = some (.int .i64 a7) ∧ W.cell? ⟨w.heap.size + 1, 23, none⟩ = some (.int .i64 b7)) := zh fun W h => ⟨h.1.v6, h.2.1.v6, h.1.ver, h.2.1.ver, h.1.kind, h.2.1.kind, h.1.resp, h.2.1.resp, h.1.rg, h.2.1.rg, h.1.quiet, h.2.1.quiet, h.1.rob, h.2.1.rob, h.1.every, h.2.1.every⟩
  have HCM : Hid (∀ W, T2 w W ⟨a0, a1, a2, a3, a4, a5, a6, a7, a8, a9⟩ ⟨b0, b1, b2, b3, b4, b5, b6, b7, b8, b9⟩ ua va ub vb → W.cell? ⟨w.heap.size, 24, none⟩ = some ua ∧ W.cell? ⟨w.heap.size + 1, 24, none⟩ = some ub ∧ W.cell? ⟨w.heap.size, 25, none⟩ = some va ∧ W.cell? ⟨w.heap.size + 1, 25, none⟩ = some vb ∧ Below w.heap.size w W) := zh fun W h => ⟨h.1.us, h.2.1.us, h.1.ur, h.2.1.ur, h.2.2⟩
  go_enter Tryz.func35, Tryz.ntmps35
  go_upto_region 1 with (fail)
  generalize (w.alloc (.cells (tkC _ ua va).toArray 28)).alloc (.cells (tkC _ ub vb).toArray 28) = W at H0 ⊢
  obtain ⟨c0, d0, c1, d1, c2, d2, c3, d3, c4, d4, c5, d5, c6, d6, c7, d7⟩ := HCL.out _ H0.out
  clear HCL
  by_cases e0 : a0 = b0
  · have t0 : (a0 == b0) = true := by simpa using e0
    by_cases e1 : a1 = b1
    · have t1 : (a1 == b1) = true := by simpa using e1
      by_cases e2 : a2 = b2
      · have t2 : (a2 == b2) = true := by simpa using e2
        by_cases e3 : a3 = b3
        · have t3 : (a3 == b3) = true := by simpa using e3
          by_cases e4 : a4 = b4
          · rw [decide_eq_true e4] at q
            generalize adC a4 = A at *
            generalize adC b4 = B at *
            by_cases e5 : a5 = b5
            · have t5 : (a5 == b5) = true := by simpa using e5
              by_cases e6 : a6 = b6
              · have t6 : (a6 == b6) = true := by simpa using e6
                by_cases e7 : a7 = b7
                · have t7 : (a7 == b7) = true := by simpa using e7
                  obtain ⟨x1, y1, x2, y2, hbW⟩ := HCM.out _ H0.out
                  have HA2 := zh (HA.out W hbW)
                  by_cases e8 : a8 = b8
                  · rw [decide_eq_true e8] at HA2
                    have HR2 := zh (fun d => HR.out (W.drewN d) (bdrewN hbW d))
                    have HV := zh (show R = decide (a9 = b9) by rw [HDD.out, e0, e1, e2, e3, e4, e5, e6, e7, e8, Bool.eq_iff_iff]; simp)
                    have HBW := zh hbW
                    clear e0 e1 e2 e3 e4 e5 e6 e7 e8 hbW HA HR HDD
                    generalize decide (a9 = b9) = r9 at *
                    go_wp2_with (first
                      | (go_at_call 79; (with_reducible refine (HA2.out).mono ?_); rintro x w1 ⟨rfl, d1, rfl⟩)
                      | (go_at_call 80; (with_reducible refine (HR2.out _).mono ?_); rintro x w2 ⟨rfl, hb2⟩))
                    go_ret
                    exact ⟨ret_bool8 (by rw [HV.out]), bstep (bdrewN HBW.out _) hb2⟩
                  · rw [decide_eq_false e8] at HA2
                    have HV := zh (show R = false by rw [HDD.out, decide_eq_false_iff_not]; intro h; simp only [TK.mk.injEq] at h; exact e8 h.2.2.2.2.2.2.2.2.1)
                    have HBW := zh hbW
                    clear e0 e1 e2 e3 e4 e5 e6 e7 e8 hbW HA HR HDD
                    go_wp2_with (go_at_call 79; (with_reducible refine (HA2.out).mono ?_); rintro x w1 ⟨rfl, d1, rfl⟩)
                    go_ret
                    exact ⟨ret_bool8 (by rw [HV.out]), bdrewN HBW.out _⟩
                · have t7 : (a7 == b7) = false := by simpa using e7
                  have HV := zh (show R = false by rw [HDD.out, decide_eq_false_iff_not]; intro h; simp only [TK.mk.injEq] at h; exact e7 h.2.2.2.2.2.2.2.1)
                  go_wp2
                  go_ret
                  exact ⟨ret_bool8 (by rw [HV.out]), H0.out.2.2⟩
              · have t6 : (a6 == b6) = false := by simpa using e6
                have HV := zh (show R = false by rw [HDD.out, decide_eq_false_iff_not]; intro h; simp only [TK.mk.injEq] at h; exact e6 h.2.2.2.2.2.2.1)
                go_wp2
                go_ret
                exact ⟨ret_bool8 (by rw [HV.out]), H0.out.2.2⟩
            · have t5 : (a5 == b5) = false := by simpa using e5
              have HV := zh (show R = false by rw [HDD.out, decide_eq_false_iff_not]; intro h; simp only [TK.mk.injEq] at h; exact e5 h.2.2.2.2.2.1)
              go_wp2
              go_ret
              exact ⟨ret_bool8 (by rw [HV.out]), H0.out.2.2⟩
          · rw [decide_eq_false e4] at q
            generalize adC a4 = A at *
            generalize adC b4 = B at *
            have HV := zh (show R = false by rw [HDD.out, decide_eq_false_iff_not]; intro h; simp only [TK.mk.injEq] at h; exact e4 h.2.2.2.2.1)
            go_wp2
            go_ret
            exact ⟨ret_bool8 (by rw [HV.out]), H0.out.2.2⟩
        · have t3 : (a3 == b3) = false := by simpa using e3
          have HV := zh (show R = false by rw [HDD.out, decide_eq_false_iff_not]; intro h; simp only [TK.mk.injEq] at h; exact e3 h.2.2.2.1)
          go_wp2
          go_ret
          exact ⟨ret_bool8 (by rw [HV.out]), H0.out.2.2⟩
      · have t2 : (a2 == b2) = false := by simpa using e2
        have HV := zh (show R = false by rw [HDD.out, decide_eq_false_iff_not]; intro h; simp only [TK.mk.injEq] at h; exact e2 h.2.2.1)
        go_wp2
        go_ret
        exact ⟨ret_bool8 (by rw [HV.out]), H0.out.2.2⟩
    · have t1 : (a1 == b1) = false := by simpa using e1
      have HV := zh (show R = false by rw [HDD.out, decide_eq_false_iff_not]; intro h; simp only [TK.mk.injEq] at h; exact e1 h.2.1)
      go_wp2
      go_ret
      exact ⟨ret_bool8 (by rw [HV.out]), H0.out.2.2⟩
  · have t0 : (a0 == b0) = false := by simpa using e0
    have HV := zh (show R = false by rw [HDD.out, decide_eq_false_iff_not]; intro h; simp only [TK.mk.injEq] at h; exact e0 h.1)
    go_wp2
    go_ret
    exact ⟨ret_bool8 (by rw [HV.out]), H0.out.2.2⟩
end Go.Proofs.YtlbdehegknehiaaGreat

/- A part of the proof. -/
namespace Go.Proofs.YtlbdehegknehiaaGreat
open Go.RowKit
set_option linter.unusedVariables false
set_option linter.unusedSimpArgs false
theorem len0 {α : Type} (l : List α) : (0 < l.length) ↔ l ≠ [] := List.length_pos_iff
theorem g8_11 (v6 : Bool) (resp : Int) (g : AD) (q : Bool) (rob every : Int) (src : List AD) (rcs : List RC) :
    good8 ⟨v6, 1, 1, resp, g, q, rob, every, src, rcs⟩ = (true && decide ((⟨v6, 1, 1, resp, g, q, rob, every, src, rcs⟩ : TK) = ⟨false, 1, 1, 0, zeroA, false, 0, 0, [], []⟩)) := by
  rw [Bool.eq_iff_iff]
  simp only [Bool.and_eq_true, decide_eq_true_iff, TK.mk.injEq, true_and]
  unfold good8
  simp only [len0]
  cases v6 <;> cases q <;> simp <;> (try split) <;> (try simp_all) <;> (try split) <;> (try simp_all) <;> (try omega) <;> (try grind)
theorem g8_21 (v6 : Bool) (resp : Int) (g : AD) (q : Bool) (rob every : Int) (src : List AD) (rcs : List RC) :
    good8 ⟨v6, 2, 1, resp, g, q, rob, every, src, rcs⟩ = ((decide (1 ≤ resp ∧ resp ≤ 255) && targ8 g) && decide ((⟨v6, 2, 1, resp, g, q, rob, every, src, rcs⟩ : TK) = ⟨false, 2, 1, resp, g, false, 0, 0, [], []⟩)) := by
  rw [Bool.eq_iff_iff]
  simp only [Bool.and_eq_true, decide_eq_true_iff, TK.mk.injEq, true_and]
  unfold good8 targ8
  simp only [len0]
  cases v6 <;> cases q <;> simp <;> (try split) <;> (try simp_all) <;> (try split) <;> (try simp_all) <;> (try omega) <;> (try grind)
theorem g8_12 (v6 : Bool) (ver kind : Int) (h : ver = 1 ∧ kind = 2 ∨ ver = 2 ∧ kind = 2 ∨ ver = 2 ∧ kind = 3) (resp : Int) (g : AD) (q : Bool) (rob every : Int) (src : List AD) (rcs : List RC) :
    good8 ⟨v6, ver, kind, resp, g, q, rob, every, src, rcs⟩ = (grp8 g && decide ((⟨v6, ver, kind, resp, g, q, rob, every, src, rcs⟩ : TK) = ⟨false, ver, kind, 0, g, false, 0, 0, [], []⟩)) := by
  rw [Bool.eq_iff_iff]
  simp only [Bool.and_eq_true, decide_eq_true_iff, TK.mk.injEq, true_and]
  unfold good8
  simp only [len0]
  rcases h with ⟨rfl, rfl⟩ | ⟨rfl, rfl⟩ | ⟨rfl, rfl⟩ <;> cases v6 <;> cases q <;> simp <;> (try split) <;> (try simp_all) <;> (try split) <;> (try simp_all) <;> (try omega) <;> (try grind)
theorem g8_31 (v6 : Bool) (resp : Int) (g : AD) (q : Bool) (rob every : Int) (src : List AD) (rcs : List RC) :
    good8 ⟨v6, 3, 1, resp, g, q, rob, every, src, rcs⟩ = ((((((exactN resp 16 255 && exactN every 16 255) && decide (0 ≤ rob ∧ rob ≤ 7)) && targ8 g) && srcs8 src) && (!decide (g = zeroA) || decide (src.length = 0))) && decide ((⟨v6, 3, 1, resp, g, q, rob, every, src, rcs⟩ : TK) = ⟨false, 3, 1, resp, g, q, rob, every, src, []⟩)) := by
  rw [Bool.eq_iff_iff]
  simp only [Bool.and_eq_true, decide_eq_true_iff, TK.mk.injEq, true_and]
  unfold good8 targ8
  simp only [len0]
  cases v6 <;> simp <;> (try split) <;> (try simp_all) <;> (try split) <;> (try simp_all) <;> (try omega) <;> (try grind)
theorem g8_32 (v6 : Bool) (resp : Int) (g : AD) (q : Bool) (rob every : Int) (src : List AD) (rcs : List RC) :
    good8 ⟨v6, 3, 2, resp, g, q, rob, every, src, rcs⟩ = (recs8 rcs && decide ((⟨v6, 3, 2, resp, g, q, rob, every, src, rcs⟩ : TK) = ⟨false, 3, 2, 0, zeroA, false, 0, 0, [], rcs⟩)) := by
  rw [Bool.eq_iff_iff]
  simp only [Bool.and_eq_true, decide_eq_true_iff, TK.mk.injEq, true_and]
  unfold good8 recs8
  simp only [len0]
  cases v6 <;> cases q <;> simp <;> (try split) <;> (try simp_all) <;> (try split) <;> (try simp_all) <;> (try omega) <;> (try grind)
theorem g8_no (v6 : Bool) (ver kind : Int) (h : ¬ (ver = 1 ∧ kind = 1) ∧ ¬ (ver = 2 ∧ kind = 1) ∧ ¬ (ver = 1 ∧ kind = 2) ∧ ¬ (ver = 2 ∧ kind = 2) ∧ ¬ (ver = 2 ∧ kind = 3) ∧ ¬ (ver = 3 ∧ kind = 1) ∧ ¬ (ver = 3 ∧ kind = 2)) (resp : Int) (g : AD) (q : Bool) (rob every : Int) (src : List AD) (rcs : List RC) :
    good8 ⟨v6, ver, kind, resp, g, q, rob, every, src, rcs⟩ = false := by
  unfold good8
  by_cases h1 : v6 = true ∨ ver < 1 ∨ 3 < ver ∨ kind < 1 ∨ 3 < kind
  · rw [if_pos h1]
  · have h2 : kind = 3 ∧ ver ≠ 2 := by omega
    obtain ⟨rfl, h3⟩ := h2
    simp [h3]
end Go.Proofs.YtlbdehegknehiaaGreat

/- A part of the proof. -/
namespace Go.Proofs.YtlbdehegknehiaaGreat
open Go.RowKit
set_option linter.unusedVariables false
set_option linter.unusedSimpArgs false
theorem g9_11 (v6 : Bool) (resp : Int) (g : AD) (q : Bool) (rob every : Int) (src : List AD) (rcs : List RC) :
    good9 ⟨v6, 1, 1, resp, g, q, rob, every, src, rcs⟩ = ((decide (0 ≤ resp ∧ resp ≤ 65535) && targ9 g) && decide ((⟨v6, 1, 1, resp, g, q, rob, every, src, rcs⟩ : TK) = ⟨true, 1, 1, resp, g, false, 0, 0, [], []⟩)) := by
  rw [Bool.eq_iff_iff]
  simp only [Bool.and_eq_true, decide_eq_true_iff, TK.mk.injEq, true_and]
  unfold good9 targ9
  simp only [len0]
  cases v6 <;> cases q <;> simp <;> (try split) <;> (try simp_all) <;> (try split) <;> (try simp_all) <;> (try omega) <;> (try grind)
theorem g9_12 (v6 : Bool) (ver kind : Int) (h : ver = 1 ∧ kind = 2 ∨ ver = 1 ∧ kind = 3) (resp : Int) (g : AD) (q : Bool) (rob every : Int) (src : List AD) (rcs : List RC) :
    good9 ⟨v6, ver, kind, resp, g, q, rob, every, src, rcs⟩ = (grp9 g && decide ((⟨v6, ver, kind, resp, g, q, rob, every, src, rcs⟩ : TK) = ⟨true, ver, kind, 0, g, false, 0, 0, [], []⟩)) := by
  rw [Bool.eq_iff_iff]
  simp only [Bool.and_eq_true, decide_eq_true_iff, TK.mk.injEq, true_and]
  unfold good9
  simp only [len0]
  rcases h with ⟨rfl, rfl⟩ | ⟨rfl, rfl⟩ <;> cases v6 <;> cases q <;> simp <;> (try split) <;> (try simp_all) <;> (try split) <;> (try simp_all) <;> (try omega) <;> (try grind)
theorem g9_21 (v6 : Bool) (resp : Int) (g : AD) (q : Bool) (rob every : Int) (src : List AD) (rcs : List RC) :
    good9 ⟨v6, 2, 1, resp, g, q, rob, every, src, rcs⟩ = ((((((exactN resp 4096 65535 && exactN every 16 255) && decide (0 ≤ rob ∧ rob ≤ 7)) && targ9 g) && srcs9 src) && (!zer9 g || decide (src.length = 0))) && decide ((⟨v6, 2, 1, resp, g, q, rob, every, src, rcs⟩ : TK) = ⟨true, 2, 1, resp, g, q, rob, every, src, []⟩)) := by
  have hx : exactN resp 4096 65535 = true → 0 ≤ resp := fun h => (exactN_parts h).1
  rw [Bool.eq_iff_iff]
  simp only [Bool.and_eq_true, decide_eq_true_iff, TK.mk.injEq, true_and]
  unfold good9 targ9
  simp only [len0]
  cases v6 <;> simp <;> (try split) <;> (try simp_all) <;> (try split) <;> (try simp_all) <;> (try omega) <;> (try grind)
theorem zeroA_eq (g : AD) : decide (g = zeroA) = (decide (g.1 = false) && decide (g.2 = z16)) := by
  obtain ⟨v, l⟩ := g
  unfold zeroA z16
  rw [Bool.eq_iff_iff]
  simp
theorem g9_22 (v6 : Bool) (resp : Int) (g : AD) (q : Bool) (rob every : Int) (src : List AD) (rcs : List RC) :
    good9 ⟨v6, 2, 2, resp, g, q, rob, every, src, rcs⟩ = (recs9 rcs && decide ((⟨v6, 2, 2, resp, g, q, rob, every, src, rcs⟩ : TK) = ⟨true, 2, 2, 0, zeroA, false, 0, 0, [], rcs⟩)) := by
  have hz : g = zeroA ↔ (g.1 = false ∧ g.2 = z16) := by
    have := zeroA_eq g
    rw [Bool.eq_iff_iff] at this
    simpa using this
  rw [Bool.eq_iff_iff]
  simp only [Bool.and_eq_true, decide_eq_true_iff, TK.mk.injEq, true_and, hz]
  unfold good9 recs9
  simp only [len0]
  cases v6 <;> cases q <;> simp <;> (try split) <;> (try simp_all) <;> (try split) <;> (try simp_all) <;> (try omega) <;> (try grind)
theorem g9_no (v6 : Bool) (ver kind : Int) (h : ¬ (ver = 1 ∧ kind = 1) ∧ ¬ (ver = 1 ∧ kind = 2) ∧ ¬ (ver = 1 ∧ kind = 3) ∧ ¬ (ver = 2 ∧ kind = 1) ∧ ¬ (ver = 2 ∧ kind = 2)) (resp : Int) (g : AD) (q : Bool) (rob every : Int) (src : List AD) (rcs : List RC) :
    good9 ⟨v6, ver, kind, resp, g, q, rob, every, src, rcs⟩ = false := by
  unfold good9
  rw [if_pos]
  simp only
  by_cases hv : v6 = true
  · omega
  · exact Or.inl (by simpa using hv)
end Go.Proofs.YtlbdehegknehiaaGreat

/- A part of the proof. -/
namespace Go.Proofs.YtlbdehegknehiaaGreat
open Go.RowKit
set_option linter.unusedVariables false
set_option linter.unusedSimpArgs false
structure GE (w W : World) (m : Nat) (t : TK) (us ur : Value) (e : TK) (se re : Value) : Prop where
  tk : TkAt W w.heap.size t us ur
  ek : TkAt W m e se re
  blw : Below w.heap.size w W
  lt : w.heap.size < m
theorem GE.below {w W W' : World} {m : Nat} {t e : TK} {us ur se re : Value} (h : GE w W m t us ur e se re) (hb : Below W.heap.size W W') : GE w W' m t us ur e se re := ⟨h.tk.below hb, h.ek.below hb, bstep h.blw hb, h.lt⟩
theorem GE.set {w W : World} {m : Nat} {t e e' : TK} {us ur se re se' re' : Value} (h : GE w W m t us ur e se re) (j : Nat) (v : Value) (he : (tkC e se re).set j v = tkC e' se' re') (ho : adOk e'.g) : GE w (W.setCell ⟨m, j, none⟩ v) m t us ur e' se' re' := by
  have hlt := h.lt
  have h1 : ObjAt (W.setCell ⟨m, j, none⟩ v) m (tkC e' se' re').toArray 28 := by
    have := ObjAt.set h.ek.1 j v
    rw [zsA, he] at this
    exact this
  exact ⟨⟨h.tk.1.other _ _ (by simp; omega), h.tk.2⟩, ⟨h1, ho⟩, h.blw.setCell (p := ⟨m, j, none⟩) (by simp; omega) v, h.lt⟩
theorem tkC_grp (e : TK) (se re : Value) (ho : adOk e.g) (a : AD) (ha : adOk a) : over (tkC e se re) 4 (adC a) = tkC ⟨e.v6, e.ver, e.kind, e.resp, a, e.quiet, e.rob, e.every, e.src, e.rcs⟩ se re := by
  unfold over tkC
  have l1 := adC_length ho
  have l2 := adC_length ha
  rw [l2]
  simp only [List.cons_append, List.nil_append, List.take_succ_cons, List.take_zero, List.drop_succ_cons]
  rw [List.drop_append_of_le_length (by omega), List.drop_of_length_le (by omega)]
  simp
theorem GE.grp {w W : World} {m : Nat} {t e : TK} {us ur se re : Value} (h : GE w W m t us ur e se re) (a : AD) (ha : adOk a) : GE w (aggO W m 4 (adC a)) m t us ur ⟨e.v6, e.ver, e.kind, e.resp, a, e.quiet, e.rob, e.every, e.src, e.rcs⟩ se re := by
  have hlt := h.lt
  have l1 := tkC_length h.ek.2 se re
  have h1 := aggO_obj (o := 4) (cs := adC a) h.ek.1 (by rw [l1, adC_length ha]; omega) (addrC_one _ _)
  rw [tkC_grp e se re h.ek.2 a ha] at h1
  exact ⟨⟨aggO_other h.tk.1 _ (by omega), h.tk.2⟩, ⟨h1, ha⟩, aggO_below h.blw (by omega) _ _, h.lt⟩
def GEC (w W : World) (m : Nat) (t : TK) (us ur : Value) (e : TK) (se re : Value) : Prop :=
  W.cell? ⟨w.heap.size, 1, none⟩ = some (.int .i64 t.ver) ∧ W.cell? ⟨w.heap.size, 2, none⟩ = some (.int .i64 t.kind) ∧ W.cell? ⟨w.heap.size, 3, none⟩ = some (.int .i64 t.resp) ∧ row? W w.heap.size 4 17 = some (adC t.g) ∧ W.cell? ⟨w.heap.size, 21, none⟩ = some (.bool t.quiet) ∧ W.cell? ⟨w.heap.size, 22, none⟩ = some (.int .i64 t.rob) ∧ W.cell? ⟨w.heap.size, 23, none⟩ = some (.int .i64 t.every) ∧ W.cell? ⟨w.heap.size, 24, none⟩ = some us ∧ W.cell? ⟨w.heap.size, 25, none⟩ = some ur ∧ row? W w.heap.size 0 26 = some (tkC t us ur) ∧ row? W m 0 26 = some (tkC e se re)
theorem GE.cells {w W : World} {m : Nat} {t e : TK} {us ur se re : Value} (h : GE w W m t us ur e se re) : GEC w W m t us ur e se re :=
  ⟨h.tk.ver, h.tk.kind, h.tk.resp, h.tk.rg, h.tk.quiet, h.tk.rob, h.tk.every, h.tk.us, h.tk.ur, h.tk.row, h.ek.row⟩
def GEF (W : World) (m : Nat) (e : TK) (se re : Value) : Prop :=
  W.cell? ⟨m, 3, none⟩ = some (.int .i64 e.resp) ∧ free? W m 4 17 = true ∧ W.cell? ⟨m, 21, none⟩ = some (.bool e.quiet) ∧ W.cell? ⟨m, 22, none⟩ = some (.int .i64 e.rob) ∧ W.cell? ⟨m, 23, none⟩ = some (.int .i64 e.every) ∧ W.cell? ⟨m, 24, none⟩ = some se ∧ W.cell? ⟨m, 25, none⟩ = some re ∧ (∀ j, W.frozen? ⟨m, j, none⟩ = false)
theorem GE.cellsf {w W : World} {m : Nat} {t e : TK} {us ur se re : Value} (h : GE w W m t us ur e se re) : GEF W m e se re :=
  ⟨h.ek.resp, free_of fun j hj => by
    refine ⟨?_, ObjAt.free h.ek.1 (4 + j)⟩
    rw [ObjAt.cell h.ek.1 (4 + j), Array.getElem?_eq_getElem (by simp [tkC_length h.ek.2]; omega)]; rfl, h.ek.quiet, h.ek.rob, h.ek.every, h.ek.us, h.ek.ur, fun j => ObjAt.free h.ek.1 j⟩
theorem GE.drew {w W : World} {m : Nat} {t e : TK} {us ur se re : Value} (h : GE w W m t us ur e se re) : GE w W.drew m t us ur e se re := ⟨h.tk, h.ek, (bdrewN h.blw 1), h.lt⟩
end Go.Proofs.YtlbdehegknehiaaGreat


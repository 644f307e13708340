/-
  The contracts of igmp's Same (with slices.Equal, slices.EqualFunc and its comparison) and Good.
-/
import Derived.Test.YtgpccgcppbdlpaaMg22
import Derived.Test.YtgpccgcppbdlpaaCodP
namespace Go.Proofs.Ytgpccgcppbdlpaa
open Go.RowKit
set_option linter.unusedVariables false
set_option linter.unusedSimpArgs false
attribute [local go_sem ↓] ld_addr
attribute [local go_sem] ldr_addr row?_drewN_eq row?_drew_eq

set_option maxRecDepth 100000 in
set_option maxHeartbeats 2000000 in
theorem equal8_any (va vb : Value) (la lb : List AD) (w : World) (ha : Ads w va la) (hb : Ads w vb lb) :
    Calls Try.prog 70 #[va, vb] w fun x w' => x = .returned (.bool (decide (la = lb))) ∧ ∃ d, w' = w.drewN d := by
  obtain ⟨pa, ca, rfl, ha1, ha2⟩ := ha.len
  obtain ⟨pb, cb, rfl, hb1, hb2⟩ := hb.len
  by_cases hl : la.length = lb.length
  · by_cases h0 : la.length = 0
    · have e1 : la = [] := List.eq_nil_of_length_eq_zero h0
      have e2 : lb = [] := List.eq_nil_of_length_eq_zero (by omega)
      subst e1 e2
      have hz : ((0 : Int) != 0) = false := rfl
      go_enter Try.func70, Try.ntmps70
      go_wp2_with fail
      go_loop [13] (fun i => i = .int .i64 0) (fun _ => 0)
      case atStart => rfl
      case round =>
        subst hrel
        go_wp2
        go_ret
        exact ⟨rfl, 0, rfl⟩
    · have na : la ≠ [] := fun h => h0 (by rw [h]; rfl)
      have nb : lb ≠ [] := fun h => h0 (by rw [hl, h]; rfl)
      obtain ⟨ba, oa, ca', ea, _, _, _, Ra⟩ := ha.parts na
      obtain ⟨bb, ob, cb', eb, _, _, _, Rb⟩ := hb.parts nb
      simp only [Value.slice.injEq] at ea eb
      obtain ⟨rfl, _, _⟩ := ea
      obtain ⟨rfl, _, _⟩ := eb
      have OA := Lib.hid ha.ok
      have OB := Lib.hid hb.ok
      have RA := Lib.hid Ra
      have RB := Lib.hid Rb
      have HL := Lib.hid hl
      obtain ⟨n, hn⟩ : ∃ n, n = la.length := ⟨_, rfl⟩
      rw [← hn] at hl ha1 h0
      rw [← hl]
      rw [← hn]
      have HN := Lib.hid hn
      have hmx : n ≤ maxLen := Nat.le_trans ha1 ha2
      unfold maxLen at hmx
      clear Ra Rb ha hb na nb hn
      have hz : ((n : Int) != (n : Int)) = false := by simp
      go_enter Try.func70, Try.ntmps70
      go_wp2_with fail
      go_loopw [13] (fun i wr => ∃ k : Nat, k ≤ n ∧ i = .int .i64 k ∧ Hid (la.take k = lb.take k) ∧ ∃ d, wr = w.drewN d) (fun i _ => n - (intOf i).toNat)
      case atStart => exact ⟨0, by omega, rfl, Lib.hid (by simp), 0, rfl⟩
      case round =>
        obtain ⟨k, hk, rfl, HT, d, rfl⟩ := hrel
        by_cases hlt : k < n
        · have g1 : k < la.length := by rw [← HN.out]; exact hlt
          have g2 : k < lb.length := by omega
          have r1 := RA.out k g1
          have r2 := RB.out k g2
          have q := fun w0 => eq_ad la[k] lb[k] (OA.out _ (List.getElem_mem g1)) (OB.out _ (List.getElem_mem g2)) w0
          have hd : decide ((k : Int) < (n : Int)) = true := by simp; omega
          have hw1 : IntKind.i64.wrap ((k : Int) + 1) = (k : Int) + 1 := by simp only [IntKind.wrap_i64]; omega
          have hk1 : (k : Int) < (n : Int) := by omega
          by_cases he : la[k] = lb[k]
          · have HS : Hid (la.take (k + 1) = lb.take (k + 1)) := Lib.hid (by rw [List.take_succ_eq_append_getElem g1, List.take_succ_eq_append_getElem g2, HT.out, he])
            rw [decide_eq_true he] at q
            generalize adC la[k] = A at *
            generalize adC lb[k] = B at *
            clear he g1 g2
            go_upto_region 6 with (fail)
            go_quiet (fail)
            go_wp2
            go_roundw
            case rel => exact ⟨k + 1, by omega, by go_num, HS, _, rfl⟩
            case measure => simp [intOf]; omega
          · have HD := Lib.hid (show decide (la = lb) = false by
              rw [decide_eq_false_iff_not]
              intro e
              apply he
              simp only [e])
            rw [decide_eq_false he] at q
            generalize adC la[k] = A at *
            generalize adC lb[k] = B at *
            clear he g1 g2
            go_upto_region 6 with (fail)
            go_quiet (fail)
            go_wp2
            go_ret
            exact ⟨ret_bool8 (by rw [HD.out]), _, World.drewN_drewN _ _ _⟩
        · have hd : ¬ (k : Int) < (n : Int) := by omega
          have HD := Lib.hid (show decide (la = lb) = true by
            rw [decide_eq_true_iff]
            have e := HT.out
            rw [List.take_of_length_le (by rw [← HN.out]; omega), List.take_of_length_le (by omega)] at e
            exact e)
          go_wp2
          go_ret
          exact ⟨ret_bool8 (by rw [HD.out]), _, rfl⟩
  · have HD := Lib.hid (show decide (la = lb) = false by
      rw [decide_eq_false_iff_not]; intro e; exact hl (by rw [e]))
    have hz : ((la.length : Int) != (lb.length : Int)) = true := by simp; omega
    clear ha hb hl
    go_enter Try.func70, Try.ntmps70
    go_wp2
    go_ret
    exact ⟨ret_bool8 (by rw [HD.out]), 0, rfl⟩

/-- Two records boxed. -/
def R2 (w W : World) (x y : RC) (u v : Value) : Prop := RcU W w.heap.size 0 x u ∧ RcU W (w.heap.size + 1) 0 y v ∧ Below w.heap.size w W
theorem R2.made (w : World) (x y : RC) (u v : Value) (hx : adOk x.g) (hy : adOk y.g) (ax : Ads w u x.src) (ay : Ads w v y.src) : R2 w ((w.alloc (.cells (rcC x u).toArray 41)).alloc (.cells (rcC y v).toArray 41)) x y u v := by
  have s1 : (w.alloc (.cells (rcC x u).toArray 41)).heap.size = w.heap.size + 1 := by simp
  obtain ⟨h1, b1⟩ := RB8.made w x u hx ax
  obtain ⟨h2, b2⟩ := RB8.made (w.alloc (.cells (rcC x u).toArray 41)) y v hy (ay.below b1)
  rw [s1] at h2 b2
  exact ⟨h1.below (by rw [s1]; exact b2), h2, bstep b1 (by rw [s1]; exact b2)⟩
set_option maxRecDepth 100000 in
set_option maxHeartbeats 1000000 in
theorem samerec8_any (x y : RC) (u v : Value) (w : World) (hx : adOk x.g) (hy : adOk y.g) (ax : Ads w u x.src) (ay : Ads w v y.src) :
    Calls Try.prog 72 #[.agg (rcC x u).toArray, .agg (rcC y v).toArray] w fun e w' => e = .returned (.bool (decide (x = y))) ∧ Below w.heap.size w w' := by
  have H0 := Lib.hid (R2.made w x y u v hx hy ax ay)
  have HK : Hid (∀ W, R2 w W x y u v → RcC W w.heap.size 0 x u ∧ RcC W (w.heap.size + 1) 0 y v) := Lib.hid fun W h => ⟨h.1.cells, h.2.1.cells⟩
  have HS := Lib.hid (fun W (h : R2 w W x y u v) => equal8_any u v x.src y.src W h.1.2.2.2 h.2.1.2.2.2)
  have q := fun w0 => eq_ad x.g y.g hx hy w0
  obtain ⟨R, hR⟩ : ∃ R, R = decide (x = y) := ⟨_, rfl⟩
  rw [← hR]
  obtain ⟨xk, xg, xs⟩ := x
  obtain ⟨yk, yg, ys⟩ := y
  have hR2 : R = (decide (xk = yk) && (decide (xg = yg) && decide (xs = ys))) := by
    rw [hR, Bool.eq_iff_iff]; simp
  simp only at q HS
  clear hR hx hy ax ay
  generalize decide (xg = yg) = bg at *
  generalize decide (xs = ys) = bs at *
  have HR := Lib.hid hR2
  clear hR2
  go_enter Try.func72, Try.ntmps72
  go_upto_region 1 with (fail)
  generalize (w.alloc (.cells (rcC _ u).toArray 41)).alloc (.cells (rcC _ v).toArray 41) = W at H0 ⊢
  obtain ⟨⟨d0, d1, d2⟩, ⟨f0, f1, f2⟩⟩ := HK.out _ H0.out
  simp only at d0 d1 d2 f0 f1 f2
  by_cases e1 : xk = yk
  · have t1 : (xk == yk) = true := by simpa using e1
    rw [decide_eq_true e1] at HR
    subst e1
    generalize adC xg = A at *
    generalize adC yg = B at *
    cases bg with
    | false =>
      go_wp2
      go_ret
      exact ⟨ret_bool8 (by rw [HR.out]; rfl), H0.out.2.2⟩
    | true =>
      go_wp2_with (go_at_call 70; (with_reducible refine (HS.out _ H0.out).mono ?_); rintro x w1 ⟨rfl, d, rfl⟩)
      go_ret
      exact ⟨ret_bool8 (by rw [HR.out]; rfl), bdrewN H0.out.2.2 _⟩
  · have t1 : (xk == yk) = false := by simpa using e1
    rw [decide_eq_false e1] at HR
    clear e1
    go_wp2
    go_ret
    exact ⟨ret_bool8 (by rw [HR.out]; rfl), H0.out.2.2⟩

attribute [local go_sem ↓] ld_rec st_rec
attribute [local go_sem] ldr_rec str_rec
set_option maxRecDepth 100000 in
set_option maxHeartbeats 2000000 in
theorem equalf8_any (va vb : Value) (la lb : List RC) (w : World) (ha : Rcs w va la) (hb : Rcs w vb lb) :
    Calls Try.prog 71 #[va, vb, .func (.func 72) #[] #[]] w fun x w' => x = .returned (.bool (decide (la = lb))) ∧ Below w.heap.size w w' := by
  obtain ⟨pa, ca, rfl, ha1, ha2⟩ := ha.len
  obtain ⟨pb, cb, rfl, hb1, hb2⟩ := hb.len
  by_cases hl : la.length = lb.length
  · by_cases h0 : la.length = 0
    · have e1 : la = [] := List.eq_nil_of_length_eq_zero h0
      have e2 : lb = [] := List.eq_nil_of_length_eq_zero (by omega)
      subst e1 e2
      have hz : ((0 : Int) != 0) = false := rfl
      clear ha hb ha1 ha2 hb1 hb2
      go_enter Try.func71, Try.ntmps71
      go_wp2_with fail
      go_loop [17] (fun i => i = .int .i64 0) (fun _ => 0)
      case atStart => rfl
      case round =>
        subst hrel
        go_wp2
        go_ret
        exact ⟨rfl, Below.refl _ _⟩
    · have na : la ≠ [] := fun h => h0 (by rw [h]; rfl)
      have nb : lb ≠ [] := fun h => h0 (by rw [hl, h]; rfl)
      obtain ⟨ba, oa, ca', ea, _, _, Ra⟩ := ha.parts na
      obtain ⟨bb, ob, cb', eb, _, _, Rb⟩ := hb.parts nb
      simp only [Value.slice.injEq] at ea eb
      obtain ⟨rfl, -, hca⟩ := ea
      obtain ⟨rfl, -, hcb⟩ := eb
      subst hca hcb
      have RA := Lib.hid Ra
      have RB := Lib.hid Rb
      have HL := Lib.hid hl
      obtain ⟨n, hn⟩ : ∃ n, n = la.length := ⟨_, rfl⟩
      rw [← hn] at hl ha1 h0
      rw [← hl]
      rw [← hn]
      have HN := Lib.hid hn
      have hmx : n ≤ maxLen := Nat.le_trans ha1 ha2
      unfold maxLen at hmx
      have HL2 := Lib.hid hl
      clear Ra Rb ha hb na nb hn hl
      have hz : ((n : Int) != (n : Int)) = false := by simp
      go_enter Try.func71, Try.ntmps71
      go_wp2_with fail
      go_loopw [17] (fun i wr => ∃ k : Nat, k ≤ n ∧ i = .int .i64 k ∧ Hid (la.take k = lb.take k) ∧ Hid (Below w.heap.size w wr)) (fun i _ => n - (intOf i).toNat)
      case atStart => exact ⟨0, by omega, rfl, Lib.hid (by simp), Lib.hid (Below.refl _ _)⟩
      case round =>
        obtain ⟨k, hk, rfl, HT, HB⟩ := hrel
        by_cases hlt : k < n
        · have g1 : k < la.length := by rw [← HN.out]; exact hlt
          have g2 : k < lb.length := by rw [← HL2.out]; exact hlt
          obtain ⟨u, hu⟩ := (RA.out k g1).u
          obtain ⟨v, hv⟩ := (RB.out k g2).u
          have hu2 := hu.below HB.out
          have HV2 := Lib.hid (fun W (h : Below w.heap.size w W) => hv.below h)
          clear hu hv
          obtain ⟨ho, hlt2, r1, au⟩ := hu2
          have hoy := (HV2.out _ HB.out).1
          have HBX := Lib.hid (RcU.boxed (cs := #[.int .i64 0, .bool false, .int .u8 0, .int .u8 0, .int .u8 0, .int .u8 0, .int .u8 0, .int .u8 0, .int .u8 0, .int .u8 0, .int .u8 0, .int .u8 0, .int .u8 0, .int .u8 0, .int .u8 0, .int .u8 0, .int .u8 0, .int .u8 0, .slice none 0 0]) ho au rfl)
          have hfok := fok_rec ho au.one
          have hfm := free_made wr #[.int .i64 0, .bool false, .int .u8 0, .int .u8 0, .int .u8 0, .int .u8 0, .int .u8 0, .int .u8 0, .int .u8 0, .int .u8 0, .int .u8 0, .int .u8 0, .int .u8 0, .int .u8 0, .int .u8 0, .int .u8 0, .int .u8 0, .int .u8 0, .slice none 0 0] 41 19 (by simp)
          have hd : decide ((k : Int) < (n : Int)) = true := by simp; omega
          have hw1 : IntKind.i64.wrap ((k : Int) + 1) = (k : Int) + 1 := by simp only [IntKind.wrap_i64]; omega
          have hk1 : (k : Int) < (n : Int) := by omega
          have HD : Hid (la[k] ≠ lb[k] → decide (la = lb) = false) := Lib.hid fun he => by
            rw [decide_eq_false_iff_not]
            intro e
            apply he
            simp only [e]
          have HE : Hid (la[k] = lb[k] → la.take (k + 1) = lb.take (k + 1)) := Lib.hid fun he => by rw [List.take_succ_eq_append_getElem g1, List.take_succ_eq_append_getElem g2, HT.out, he]
          have HO := Lib.hid (And.intro ho hoy)
          generalize la[k] = x at *
          generalize lb[k] = y at *
          have HC : Hid (∀ W, RcU W wr.heap.size 0 x u → RcU W W.heap.size 0 y v → True) := Lib.hid fun _ _ _ => trivial
          clear HC au ho hlt2 g1 g2
          go_upto_region 6 with (fail)
          generalize aggW (wr.alloc _) wr.heap.size _ = W1 at HBX ⊢
          have H1 := Lib.hid (show Below w.heap.size w W1 from bstep HB.out HBX.out.2)
          obtain ⟨_, _, r2, av⟩ := HV2.out _ H1.out
          have HBY := Lib.hid (RcU.boxed (cs := #[.int .i64 0, .bool false, .int .u8 0, .int .u8 0, .int .u8 0, .int .u8 0, .int .u8 0, .int .u8 0, .int .u8 0, .int .u8 0, .int .u8 0, .int .u8 0, .int .u8 0, .int .u8 0, .int .u8 0, .int .u8 0, .int .u8 0, .int .u8 0, .slice none 0 0]) hoy av rfl)
          have hfok2 := fok_rec hoy av.one
          have hfm2 := free_made W1 #[.int .i64 0, .bool false, .int .u8 0, .int .u8 0, .int .u8 0, .int .u8 0, .int .u8 0, .int .u8 0, .int .u8 0, .int .u8 0, .int .u8 0, .int .u8 0, .int .u8 0, .int .u8 0, .int .u8 0, .int .u8 0, .int .u8 0, .int .u8 0, .slice none 0 0] 41 19 (by simp)
          clear av r1 hfm hfok hoy
          go_upto_region 7 with (fail)
          generalize aggW (W1.alloc _) W1.heap.size _ = W2 at HBY ⊢
          have HX2 := Lib.hid (HBX.out.1.below HBY.out.2)
          have H2 := Lib.hid (bstep H1.out HBY.out.2)
          have r1 := HX2.out.2.2.1
          have r2 := HBY.out.1.2.2.1
          have HS := Lib.hid (samerec8_any x y u v W2 HO.out.1 HO.out.2 HX2.out.2.2.2 HBY.out.1.2.2.2)
          by_cases he : x = y
          · rw [decide_eq_true he] at HS
            have HS2 := Lib.hid (HE.out he)
            clear he HE HD
            go_wp2_with (go_at_call 72; (with_reducible refine (HS.out).mono ?_); rintro e w1 ⟨rfl, hb1⟩; have H3 := Lib.hid (bstep H2.out hb1); clear hb1)
            go_roundw
            case rel => exact ⟨k + 1, by omega, by go_num, HS2, H3⟩
            case measure => simp [intOf]; omega
          · rw [decide_eq_false he] at HS
            have HD2 := Lib.hid (HD.out he)
            clear he HE HD
            go_wp2_with (go_at_call 72; (with_reducible refine (HS.out).mono ?_); rintro e w1 ⟨rfl, hb1⟩; have H3 := Lib.hid (bstep H2.out hb1); clear hb1)
            go_ret
            exact ⟨ret_bool8 (by rw [HD2.out]), H3.out⟩
        · have hd : ¬ (k : Int) < (n : Int) := by omega
          have HD := Lib.hid (show decide (la = lb) = true by
            rw [decide_eq_true_iff]
            have e := HT.out
            rw [List.take_of_length_le (by rw [← HN.out]; omega), List.take_of_length_le (by rw [← HL2.out]; omega)] at e
            exact e)
          go_wp2
          go_ret
          exact ⟨ret_bool8 (by rw [HD.out]), HB.out⟩
  · have HD := Lib.hid (show decide (la = lb) = false by
      rw [decide_eq_false_iff_not]; intro e; exact hl (by rw [e]))
    have hz : ((la.length : Int) != (lb.length : Int)) = true := by simp; omega
    clear ha hb hl
    go_enter Try.func71, Try.ntmps71
    go_wp2
    go_ret
    exact ⟨ret_bool8 (by rw [HD.out]), Below.refl _ _⟩
end Go.Proofs.Ytgpccgcppbdlpaa

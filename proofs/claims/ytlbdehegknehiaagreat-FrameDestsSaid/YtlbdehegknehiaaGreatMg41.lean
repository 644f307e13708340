/-
  Texts joined: IgN, IgO.
-/
import Derived.Test.YtlbdehegknehiaaGreatMg00
import Derived.Test.YtlbdehegknehiaaGreatMg34
/- A part of the proof. -/
namespace Go.Proofs.YtlbdehegknehiaaGreat
set_option maxRecDepth 100000
set_option maxHeartbeats 4000000
open Go.RowKit
set_option linter.unusedVariables false
set_option linter.unusedSimpArgs false
attribute [local go_sem ↓] ld_addr st_addr bld_addr ld_tk st_tk bld_tk
attribute [local go_sem] ldr_addr str_addr str_addr_at ldr_tk str_tk row?_drew_eq
theorem pbits_any (n f w0 r : Nat) (hn : n < 256) (hr : bitsN n f w0 = r) (w : World) : Calls Tryz.prog 85 #[.int .u64 n, .int .i64 f, .int .i64 w0] w fun e w' => e = .returned (.int .u64 r) ∧ ∃ k, w' = w.drewN k := by
  have := bits_any n (by omega) f w0 w
  rw [hr] at this
  exact this
theorem QM.drewN {w W : World} {b0 bp rr m : Nat} {l : List UInt8} {k : Nat} {bad : Bool} {t : TK} {us ur : Value} (h : QM w W b0 bp rr m l k bad t us ur) (d : Nat) : QM w (W.drewN d) b0 bp rr m l k bad t us ur := h.below (bdrewN (Below.refl _ _) d)
theorem QM.startm {w : World} {b0 : Nat} {l : List UInt8} {k : Nat} {bad : Bool} {t : TK} {us ur : Value} (h : RdAt w b0 l k bad) (ho : adOk t.g) (hs : AdsT w us t.src) (hr : RcT w ur t.rcs) : QM w (((w.alloc (.cells #[.pointer (some ⟨b0, 0, none⟩)] 192)).alloc (.cells (tkC t us ur).toArray 28)).alloc (.cells zz26 28)) b0 w.heap.size (w.heap.size + 2) (w.heap.size + 1) l k bad t us ur := by
  have s1 : (w.alloc (.cells #[.pointer (some ⟨b0, 0, none⟩)] 192)).heap.size = w.heap.size + 1 := by simp
  have s2 : ((w.alloc (.cells #[.pointer (some ⟨b0, 0, none⟩)] 192)).alloc (.cells (tkC t us ur).toArray 28)).heap.size = w.heap.size + 2 := by simp
  have k1 := (Below.refl w.heap.size w).alloc (Nat.le_refl _) (.cells #[.pointer (some ⟨b0, 0, none⟩)] 192)
  have k2 := (Below.refl _ (w.alloc (.cells #[.pointer (some ⟨b0, 0, none⟩)] 192))).alloc (Nat.le_refl _) (.cells (tkC t us ur).toArray 28)
  have k3 := (Below.refl _ ((w.alloc (.cells #[.pointer (some ⟨b0, 0, none⟩)] 192)).alloc (.cells (tkC t us ur).toArray 28))).alloc (Nat.le_refl _) (.cells zz26 28)
  have hp := ((PB.start h).below k2).below k3
  have ht := ObjAt.made (w.alloc (.cells #[.pointer (some ⟨b0, 0, none⟩)] 192)) (tkC t us ur).toArray 28
  rw [s1] at ht
  have hz := ObjAt.made ((w.alloc (.cells #[.pointer (some ⟨b0, 0, none⟩)] 192)).alloc (.cells (tkC t us ur).toArray 28)) zz26 28
  rw [s2] at hz
  exact ⟨hp.rd, hp.pp, hz, ⟨ht.below k3 ht.lt, ho⟩, ((hs.below k1).below k2).below k3, ((hr.below k1).below k2).below k3, hp.frm, Nat.le_refl _, by omega, by omega, by omega, by omega, by omega, hp.lt⟩
def moreE (s : List UInt8) (g : AD) : Int := if g = zeroA ∧ 0 < wd s 10 then 2 else srcsE s 12 (wd s 10)
def moreT (s : List UInt8) (resp : Int) (g : AD) : TK := ⟨false, 3, 1, resp, g, decide (by8 s 8 / 8 % 2 = 1), (by8 s 8 % 8 : Nat), valN (by8 s 9) 16, srcsL s 12 (wd s 10), []⟩
def MoreQ (w W' : World) (b0 : Nat) (s : List UInt8) (resp : Int) (g : AD) (x : Ending) : Prop := ∃ (us ur : Value) (e : Int) (t : TK), x = .returned (.tuple #[.agg (tkC t us ur).toArray, .int .i64 e]) ∧ AdsT W' us t.src ∧ RcT W' ur t.rcs ∧ w.grownBy W' (some b0) ∧ adOk t.g ∧ e = moreE s g ∧ (e = 0 → t = moreT s resp g)
theorem pmore_any (resp : Int) (g : AD) (hog : adOk g) (w : World) (b0 : Nat) (s : List UInt8) (hs : s.length ≤ 100000) (h12 : 12 ≤ s.length) (h : RdAt w b0 (s.drop 8) 8 false) :
    Calls Tryz.prog 222 #[pv b0, .agg (tkC ⟨false, 3, 1, resp, g, false, 0, 0, [], []⟩ (.slice none 0 0) (.slice none 0 0)).toArray] w fun x W' => MoreQ w W' b0 s resp g x := by
  have H0 := zh (QM.startm (t := ⟨false, 3, 1, resp, g, false, 0, 0, [], []⟩) h hog (AdsT.nil w) (RcT.nil w))
  have f1 := by8_lt s 8
  have f2 := by8_lt s 9
  have f3 := wd_lt s 10 (by omega)
  have HN1 : Hid (∀ W, RdAt W b0 (s.drop 8) 8 false → Calls Tryz.prog 84 #[.pointer (some ⟨b0, 0, none⟩), .int .i64 1] W fun x w' => x = .returned (.int .u64 (by8 s 8)) ∧ RdAt w' b0 (s.drop 9) 9 false ∧ W.grownBy w' (some b0)) := zh fun W h => by
    have := numq_any b0 (s.drop 8) 8 false 1 (by omega) (by simp; omega) (by omega) W h
    obtain ⟨e1, e2, e3, e4⟩ := rd_good (l := s.drop 8) (n := 1) (k := 8) (by simp; omega)
    rw [e1, e2, e3, e4, List.drop_drop, num_by8 s 8 (by omega)] at this
    exact this
  have HN2 : Hid (PNum b0 (s.drop 9) 9 false 1 (by8 s 9) (s.drop 10) 10 false) := zh (by
    have := pnum_good b0 s 9 1 (by omega) (by omega) (by omega)
    rw [num_by8 s 9 (by omega)] at this
    exact this)
  have HN3 : Hid (PNum b0 (s.drop 10) 10 false 2 (wd s 10) (s.drop 12) 12 false) := zh (pnum_good b0 s 10 2 (by omega) (by omega) (by omega))
  have HB1 : Hid (∀ W, Calls Tryz.prog 85 #[.int .u64 (by8 s 8 : Nat), .int .i64 3, .int .i64 1] W fun e w' => e = .returned (.int .u64 (by8 s 8 / 8 % 2 : Nat)) ∧ ∃ k, w' = W.drewN k) := zh fun W => pbits_any (by8 s 8) 3 1 _ f1 rfl W
  have HB2 : Hid (∀ W, Calls Tryz.prog 85 #[.int .u64 (by8 s 8 : Nat), .int .i64 0, .int .i64 3] W fun e w' => e = .returned (.int .u64 (by8 s 8 % 8 : Nat)) ∧ ∃ k, w' = W.drewN k) := zh fun W => pbits_any (by8 s 8) 0 3 _ f1 (by show by8 s 8 / 2 ^ 0 % 2 ^ 3 = _; simp) W
  have HV8 : Hid (∀ W, Calls Tryz.prog 179 #[.int .i64 (by8 s 9 : Nat)] W fun x w' => x = .returned (.int .i64 (valN (by8 s 9) 16)) ∧ Below W.heap.size W w') := zh fun W => by
    have := value8_any (by8 s 9 : Nat) W
    rw [show clampN (by8 s 9 : Nat) 255 = by8 s 9 by unfold clampN; split <;> omega] at this
    exact this
  have HZ := zh (fun W => zero8_any g hog W)
  have HSR := zh (fun W h => psources_any b0 s 12 (wd s 10) hs (by omega) (by omega) W h)
  have hq1 : ∀ f : Nat, ((f : Int) == 1) = decide (f = 1) := fun f => by rw [Bool.eq_iff_iff]; simp; omega
  have hq2 := hq1 (by8 s 8 / 8 % 2)
  have hw8 : IntKind.i64.wrap ((by8 s 8 % 8 : Nat) : Int) = ((by8 s 8 % 8 : Nat) : Int) := by simp only [IntKind.wrap_i64]; omega
  have HT : Hid (moreT s resp g = ⟨false, 3, 1, resp, g, decide (by8 s 8 / 8 % 2 = 1), (by8 s 8 % 8 : Nat), valN (by8 s 9) 16, srcsL s 12 (wd s 10), []⟩) := zh rfl
  have HEE : Hid (moreE s g = if decide (g = zeroA) = true ∧ 0 < wd s 10 then 2 else srcsE s 12 (wd s 10)) := zh (by unfold moreE; simp)
  have HOG := zh hog
  generalize decide (by8 s 8 / 8 % 2 = 1) = qq at *
  generalize by8 s 8 / 8 % 2 = fq at *
  generalize by8 s 8 % 8 = fr at *
  generalize valN (by8 s 9) 16 = ve at *
  generalize by8 s 8 = fb at *
  generalize by8 s 9 = fc at *
  generalize decide (g = zeroA) = zg at *
  obtain ⟨n, hn⟩ : ∃ n, n = wd s 10 := ⟨_, rfl⟩
  rw [← hn] at HN3 HSR HT HEE f3
  clear h hog hn hq1 f1 f2
  go_enter Tryz.func222, Tryz.ntmps222
  go_upto_region 1 with (fail)
  generalize ((w.alloc (.cells #[.pointer (some ⟨b0, 0, none⟩)] 192)).alloc (.cells (tkC _ _ _).toArray 28)).alloc (.cells zz26 28) = W at H0 ⊢
  obtain ⟨k1, k2, k3, k4, k5, k6, k7, k8, k9, ka, kb, kc, kd⟩ := H0.out.c; (try simp only at k2 k3 k4 k5 k6 k7 k8)
  go_upto_region 2 with (go_at_call 84; (with_reducible refine (HN1.out _ H0.out.rd).mono ?_); rintro x w1 ⟨rfl, h9, k9⟩; have H1 := zh (H0.out.call h9 k9); clear h9 k9; clear k1 k2 k3 k4 k5 k6 k7 k8 k9 ka kb kc kd; obtain ⟨k1, k2, k3, k4, k5, k6, k7, k8, k9, ka, kb, kc, kd⟩ := H1.out.c; (try simp only at k2 k3 k4 k5 k6 k7 k8))
  go_upto_region 3 with (go_at_call 85; (with_reducible refine (HB1.out _).mono ?_); rintro x w2 ⟨rfl, d2, rfl⟩; have H2 := zh (H1.out.drewN d2); clear k1 k2 k3 k4 k5 k6 k7 k8 k9 ka kb kc kd; obtain ⟨k1, k2, k3, k4, k5, k6, k7, k8, k9, ka, kb, kc, kd⟩ := H2.out.c; (try simp only at k2 k3 k4 k5 k6 k7 k8))
  have H3 := zh (H2.out.set 21 (.bool qq) (tkC_quiet _ _ _ HOG.out _) HOG.out H2.out.src H2.out.rcs)
  generalize World.setCell (w1.drewN d2) _ _ = w3 at H3 ⊢
  clear k1 k2 k3 k4 k5 k6 k7 k8 k9 ka kb kc kd; obtain ⟨k1, k2, k3, k4, k5, k6, k7, k8, k9, ka, kb, kc, kd⟩ := H3.out.c; (try simp only at k2 k3 k4 k5 k6 k7 k8)
  go_upto_region 4 with (go_at_call 85; (with_reducible refine (HB2.out _).mono ?_); rintro x w4 ⟨rfl, d4, rfl⟩; have H4 := zh (H3.out.drewN d4); clear k1 k2 k3 k4 k5 k6 k7 k8 k9 ka kb kc kd; obtain ⟨k1, k2, k3, k4, k5, k6, k7, k8, k9, ka, kb, kc, kd⟩ := H4.out.c; (try simp only at k2 k3 k4 k5 k6 k7 k8))
  have H5 := zh (H4.out.set 22 (.int .i64 fr) (tkC_rob _ _ _ HOG.out _) HOG.out H4.out.src H4.out.rcs)
  generalize World.setCell (w3.drewN d4) _ _ = w5 at H5 ⊢
  clear k1 k2 k3 k4 k5 k6 k7 k8 k9 ka kb kc kd; obtain ⟨k1, k2, k3, k4, k5, k6, k7, k8, k9, ka, kb, kc, kd⟩ := H5.out.c; (try simp only at k2 k3 k4 k5 k6 k7 k8)
  go_upto_region 5 with (first
    | (go_at_call 206; (with_reducible refine (HN2.out _ H5.out.rd).mono ?_); rintro x w6 ⟨rfl, h9, k9⟩; have H6 := zh (H5.out.call h9 k9); clear h9 k9; clear k1 k2 k3 k4 k5 k6 k7 k8 k9 ka kb kc kd; obtain ⟨k1, k2, k3, k4, k5, k6, k7, k8, k9, ka, kb, kc, kd⟩ := H6.out.c; (try simp only at k2 k3 k4 k5 k6 k7 k8))
    | (go_at_call 179; (with_reducible refine (HV8.out _).mono ?_); rintro x w7 ⟨rfl, hb⟩; have H7 := zh (H6.out.below hb); clear hb; clear k1 k2 k3 k4 k5 k6 k7 k8 k9 ka kb kc kd; obtain ⟨k1, k2, k3, k4, k5, k6, k7, k8, k9, ka, kb, kc, kd⟩ := H7.out.c; (try simp only at k2 k3 k4 k5 k6 k7 k8)))
  have H8 := zh (H7.out.set 23 (.int .i64 ve) (tkC_every _ _ _ HOG.out _) HOG.out H7.out.src H7.out.rcs)
  generalize World.setCell w7 _ _ = w8 at H8 ⊢
  clear k1 k2 k3 k4 k5 k6 k7 k8 k9 ka kb kc kd; obtain ⟨k1, k2, k3, k4, k5, k6, k7, k8, k9, ka, kb, kc, kd⟩ := H8.out.c; (try simp only at k2 k3 k4 k5 k6 k7 k8)
  go_upto_region 6 with (go_at_call 206; (with_reducible refine (HN3.out _ H8.out.rd).mono ?_); rintro x w9 ⟨rfl, h9, k9⟩; have H9 := zh (H8.out.call h9 k9); clear h9 k9; clear k1 k2 k3 k4 k5 k6 k7 k8 k9 ka kb kc kd; obtain ⟨k1, k2, k3, k4, k5, k6, k7, k8, k9, ka, kb, kc, kd⟩ := H9.out.c; (try simp only at k2 k3 k4 k5 k6 k7 k8))
  cases zg with
  | true =>
    by_cases hnz : 0 < n
    · have t1 : decide ((0 : Int) < (n : Int)) = true := decide_eq_true (by omega)
      have t2 : decide (0 < n) = true := decide_eq_true hnz
      have t3 : (0 : Int) < (n : Int) := by omega
      have HE := zh (show (2 : Int) = moreE s g by rw [HEE.out, if_pos ⟨rfl, hnz⟩])
      clear hnz
      go_upto_region 7 with (go_at_call 121; (with_reducible refine (HZ.out _).mono ?_); rintro x wz ⟨rfl, hb⟩; have Hz := zh (H9.out.below hb); clear hb; clear k1 k2 k3 k4 k5 k6 k7 k8 k9 ka kb kc kd; obtain ⟨k1, k2, k3, k4, k5, k6, k7, k8, k9, ka, kb, kc, kd⟩ := Hz.out.c; (try simp only at k2 k3 k4 k5 k6 k7 k8))
      repeat (first | go_values | go_skip | go_guarded | go_step | go_upon | go_in)
      obtain ⟨q1, q2, q3, q4, q5⟩ := Hz.out.done
      exact bodyPost_ret (results_cell2 Tryz.results222 rfl (ld_some q1 (ldr_tk _ _ _))) rfl ⟨_, _, 2, (⟨false, 3, 1, resp, g, qq, (fr : Int), (ve : Int), [], []⟩ : TK), rfl, q2, q3, q4, q5, HE.out, fun h => by simp at h⟩
    · have t1 : decide ((0 : Int) < (n : Int)) = false := decide_eq_false (by omega)
      have t2 : decide (0 < n) = false := decide_eq_false hnz
      have t3 : ¬ (0 : Int) < (n : Int) := by omega
      have HE := zh (show srcsE s 12 n = moreE s g by rw [HEE.out, if_neg (fun h => hnz h.2)])
      clear hnz
      go_upto_region 10 with (first
        | (go_at_call 121; (with_reducible refine (HZ.out _).mono ?_); rintro x wz ⟨rfl, hb⟩; have Hz := zh (H9.out.below hb); clear hb; clear k1 k2 k3 k4 k5 k6 k7 k8 k9 ka kb kc kd; obtain ⟨k1, k2, k3, k4, k5, k6, k7, k8, k9, ka, kb, kc, kd⟩ := Hz.out.c; (try simp only at k2 k3 k4 k5 k6 k7 k8))
        | (go_at_call 232; (with_reducible refine (HSR.out _ Hz.out.rd).mono ?_); rintro x wb ⟨v, e, ls, l5, kk5, b5, rfl, he, hv, hrd, hgr, _, _, h0⟩; obtain ⟨pv9, cv9, hvv, _, _⟩ := hv.1.len; subst hvv; have Hb := zh (Hz.out.call hrd hgr); have HV := zh hv; have HER := zh he; have HZ0 := zh h0; clear hrd hgr hv he h0; clear k1 k2 k3 k4 k5 k6 k7 k8 k9 ka kb kc kd; obtain ⟨k1, k2, k3, k4, k5, k6, k7, k8, k9, ka, kb, kc, kd⟩ := Hb.out.c; (try simp only at k2 k3 k4 k5 k6 k7 k8)))
      have Hc := zh (Hb.out.set 24 (.slice pv9 ls.length cv9) (tkC_src _ _ _ HOG.out _ ls) HOG.out HV.out Hb.out.rcs)
      generalize World.setCell wb _ _ = wc at Hc ⊢
      clear k1 k2 k3 k4 k5 k6 k7 k8 k9 ka kb kc kd; obtain ⟨k1, k2, k3, k4, k5, k6, k7, k8, k9, ka, kb, kc, kd⟩ := Hc.out.c; (try simp only at k2 k3 k4 k5 k6 k7 k8)
      repeat (first | go_values | go_skip | go_guarded | go_step | go_upon | go_in)
      obtain ⟨q1, q2, q3, q4, q5⟩ := Hc.out.done
      exact bodyPost_ret (results_cell2 Tryz.results222 rfl (ld_some q1 (ldr_tk _ _ _))) rfl ⟨_, _, e, (⟨false, 3, 1, resp, g, qq, (fr : Int), (ve : Int), ls, []⟩ : TK), rfl, q2, q3, q4, q5, by rw [HER.out]; exact HE.out, fun h => by rw [HT.out, (HZ0.out h).1]⟩
  | false =>
    have HE := zh (show srcsE s 12 n = moreE s g by rw [HEE.out, if_neg (fun h => by cases h.1)])
    go_upto_region 10 with (first
      | (go_at_call 121; (with_reducible refine (HZ.out _).mono ?_); rintro x wz ⟨rfl, hb⟩; have Hz := zh (H9.out.below hb); clear hb; clear k1 k2 k3 k4 k5 k6 k7 k8 k9 ka kb kc kd; obtain ⟨k1, k2, k3, k4, k5, k6, k7, k8, k9, ka, kb, kc, kd⟩ := Hz.out.c; (try simp only at k2 k3 k4 k5 k6 k7 k8))
      | (go_at_call 232; (with_reducible refine (HSR.out _ Hz.out.rd).mono ?_); rintro x wb ⟨v, e, ls, l5, kk5, b5, rfl, he, hv, hrd, hgr, _, _, h0⟩; obtain ⟨pv9, cv9, hvv, _, _⟩ := hv.1.len; subst hvv; have Hb := zh (Hz.out.call hrd hgr); have HV := zh hv; have HER := zh he; have HZ0 := zh h0; clear hrd hgr hv he h0; clear k1 k2 k3 k4 k5 k6 k7 k8 k9 ka kb kc kd; obtain ⟨k1, k2, k3, k4, k5, k6, k7, k8, k9, ka, kb, kc, kd⟩ := Hb.out.c; (try simp only at k2 k3 k4 k5 k6 k7 k8)))
    have Hc := zh (Hb.out.set 24 (.slice pv9 ls.length cv9) (tkC_src _ _ _ HOG.out _ ls) HOG.out HV.out Hb.out.rcs)
    generalize World.setCell wb _ _ = wc at Hc ⊢
    clear k1 k2 k3 k4 k5 k6 k7 k8 k9 ka kb kc kd; obtain ⟨k1, k2, k3, k4, k5, k6, k7, k8, k9, ka, kb, kc, kd⟩ := Hc.out.c; (try simp only at k2 k3 k4 k5 k6 k7 k8)
    repeat (first | go_values | go_skip | go_guarded | go_step | go_upon | go_in)
    obtain ⟨q1, q2, q3, q4, q5⟩ := Hc.out.done
    exact bodyPost_ret (results_cell2 Tryz.results222 rfl (ld_some q1 (ldr_tk _ _ _))) rfl ⟨_, _, e, (⟨false, 3, 1, resp, g, qq, (fr : Int), (ve : Int), ls, []⟩ : TK), rfl, q2, q3, q4, q5, by rw [HER.out]; exact HE.out, fun h => by rw [HT.out, (HZ0.out h).1]⟩
end Go.Proofs.YtlbdehegknehiaaGreat

/- A part of the proof. -/
namespace Go.Proofs.YtlbdehegknehiaaGreat
set_option maxRecDepth 100000
set_option maxHeartbeats 8000000
open Go.RowKit
set_option linter.unusedVariables false
set_option linter.unusedSimpArgs false
attribute [local go_sem ↓] ld_addr st_addr bld_addr ld_tk st_tk bld_tk
attribute [local go_sem] ldr_addr str_addr str_addr_at ldr_tk str_tk row?_drew_eq
def QueQ (w W' : World) (b0 : Nat) (s : List UInt8) (x : Ending) : Prop := ∃ (us ur : Value) (e : Int) (t : TK), x = .returned (.tuple #[.agg (tkC t us ur).toArray, .int .i64 e]) ∧ AdsT W' us t.src ∧ RcT W' ur t.rcs ∧ w.grownBy W' (some b0) ∧ adOk t.g ∧ e = (qry s).2 ∧ (e = 0 → t = (qry s).1)
theorem targ8_eq (a : AD) : targ8 a = false ↔ (a ≠ zeroA ∧ grp8 a = false) := by
  unfold targ8
  rw [Bool.or_eq_false_iff, decide_eq_false_iff_not]
theorem QM.more {w W : World} {b0 bp rr m : Nat} {l : List UInt8} {k : Nat} {bad : Bool} {t : TK} {us ur : Value} {W' : World} {t' : TK} {us' ur' : Value} (h : QM w W b0 bp rr m l k bad t us ur) (hg : W.grownBy W' (some b0)) (hs : AdsT W' us' t'.src) (hr : RcT W' ur' t'.rcs) (ho : adOk t'.g) :
    free? W' rr 0 26 = true ∧ fok (tkC t' us' ur').toArray 26 = true ∧ row? (aggW W' rr (tkC t' us' ur')) rr 0 26 = some (tkC t' us' ur') ∧ AdsT (aggW W' rr (tkC t' us' ur')) us' t'.src ∧ RcT (aggW W' rr (tkC t' us' ur')) ur' t'.rcs ∧ w.grownBy (aggW W' rr (tkC t' us' ur')) (some b0) ∧ adOk t'.g := by
  have l0 := h.l0; have lr := h.lr
  have hres := ObjAt.grown h.res hg (by simp; omega)
  exact ⟨obj_free hres (by simp), fok_tk ho hs.1.one hr.rcs.one, aggW_row (obj_free hres (by simp)) (tkC_length ho _ _), hs.far hres (by decide) (aggW_grown _ _ _), hr.far hres (by decide) (by decide) (aggW_grown _ _ _), qbelow (gtrans h.frm hg) (aggW_below (Below.refl _ _) lr _), ho⟩
theorem pquery_any (w : World) (b0 : Nat) (s : List UInt8) (hs : s.length ≤ 100000) (h8 : 8 ≤ s.length) (h : RdAt w b0 (s.drop 1) 1 false) :
    Calls Tryz.prog 207 #[pv b0] w fun x W' => QueQ w W' b0 s x := by
  have H0 := zh (P0T.start h)
  have f1 := by8_lt s 1
  have HN : Hid (PNum b0 (s.drop 1) 1 false 1 (by8 s 1) (s.drop 2) 2 false) := zh (by
    have := pnum_good b0 s 1 1 (by omega) (by omega) (by omega)
    rw [num_by8 s 1 (by omega)] at this
    exact this)
  have HC : Hid (∀ W, RdAt W b0 (s.drop 2) 2 false → Calls Tryz.prog 220 #[pv b0] W fun x w' => x = .returned (.tuple #[]) ∧ RdAt w' b0 (s.drop 4) 4 false ∧ W.grownBy w' (some b0)) := zh fun W h => pchk_good b0 s 2 (by omega) (by omega) W h
  have HA : Hid (PAdr b0 (s.drop 4) 4 false (fourL s 4) (s.drop 8) 8 false) := zh (paddr_good b0 s 4 (by omega) (by omega))
  have HLF : Hid (∀ W, RdAt W b0 (s.drop 8) 8 false → Calls Tryz.prog 199 #[.pointer (some ⟨b0, 0, none⟩)] W fun e w' => e = .returned (.int .i64 (s.drop 8).length) ∧ w' = W) := zh fun W h => left_any b0 _ 8 false W h
  have hoa := fourL_ok s 4
  have hbk := bldr_vkr 2 1 (by8 s 1 : Nat)
  have hfk : fok (tkC ⟨false, 2, 1, (by8 s 1 : Nat), zeroA, false, 0, 0, [], []⟩ (.slice none 0 0) (.slice none 0 0)).toArray 26 = true := fok_tk zeroA_ok rfl rfl
  have hfa : fok (adC (fourL s 4)).toArray 17 = true := fok_addr _ _ hoa
  have HV8 : Hid (∀ W, Calls Tryz.prog 179 #[.int .i64 (by8 s 1 : Nat)] W fun x w' => x = .returned (.int .i64 (valN (by8 s 1) 16)) ∧ Below W.heap.size W w') := zh fun W => by
    have := value8_any (by8 s 1 : Nat) W
    rw [show clampN (by8 s 1 : Nat) 255 = by8 s 1 by unfold clampN; split <;> omega] at this
    exact this
  have HG := zh (fun W => target8_any (fourL s 4) hoa W)
  have HZ := zh (fun W => zero8_any (fourL s 4) hoa W)
  have HOA := zh hoa
  have HMORE : Hid (12 ≤ s.length → ∀ W, RdAt W b0 (s.drop 8) 8 false → Calls Tryz.prog 222 #[pv b0, .agg (tkC ⟨false, 3, 1, (valN (by8 s 1) 16 : Nat), fourL s 4, false, 0, 0, [], []⟩ (.slice none 0 0) (.slice none 0 0)).toArray] W fun x W' => MoreQ W W' b0 s (valN (by8 s 1) 16 : Nat) (fourL s 4) x) := zh fun h12 W h => pmore_any _ _ hoa W b0 s hs h12 h
  -- what the bytes say
  have Q1 := zh (show 8 < s.length → s.length < 12 → (qry s).2 = 2 by intro a b; unfold qry; rw [if_pos ⟨a, b⟩])
  have Q2 := zh (show ¬ (8 < s.length ∧ s.length < 12) → targ8 (fourL s 4) = false → (qry s).2 = 2 by intro a b; unfold qry; rw [if_neg a, if_pos ((targ8_eq _).1 b)])
  have Q3 := zh (show s.length = 8 → targ8 (fourL s 4) = true → by8 s 1 = 0 → fourL s 4 ≠ zeroA → (qry s).2 = 2 by
    intro a b c d
    unfold qry
    rw [if_neg (by omega), if_neg (fun h => by rw [(targ8_eq _).2 h] at b; cases b), if_pos a, if_pos c, if_pos d])
  have Q4 := zh (show s.length = 8 → targ8 (fourL s 4) = true → by8 s 1 = 0 → fourL s 4 = zeroA → qry s = (⟨false, 1, 1, (by8 s 1 : Nat), fourL s 4, false, 0, 0, [], []⟩, 0) by
    intro a b c d
    unfold qry
    rw [if_neg (by omega), if_neg (fun h => by rw [(targ8_eq _).2 h] at b; cases b), if_pos a, if_pos c, if_neg (by simp [d]), c]; rfl)
  have Q5 := zh (show s.length = 8 → targ8 (fourL s 4) = true → by8 s 1 ≠ 0 → qry s = (⟨false, 2, 1, (by8 s 1 : Nat), fourL s 4, false, 0, 0, [], []⟩, 0) by
    intro a b c
    unfold qry
    rw [if_neg (by omega), if_neg (fun h => by rw [(targ8_eq _).2 h] at b; cases b), if_pos a, if_neg c])
  have Q6 := zh (show 12 ≤ s.length → targ8 (fourL s 4) = true → moreE s (fourL s 4) = (qry s).2 ∧ ((qry s).2 = 0 → moreT s (valN (by8 s 1) 16 : Nat) (fourL s 4) = (qry s).1) by
    intro a b
    have e1 : qry s = if fourL s 4 = zeroA ∧ 0 < wd s 10 then (zeroT, 2) else if srcsE s 12 (wd s 10) ≠ 0 then (zeroT, srcsE s 12 (wd s 10)) else (⟨false, 3, 1, valN (by8 s 1) 16, fourL s 4, decide (by8 s 8 / 8 % 2 = 1), (by8 s 8 % 8 : Nat), valN (by8 s 9) 16, srcsL s 12 (wd s 10), []⟩, 0) := by
      unfold qry
      rw [if_neg (by omega), if_neg (fun h => by rw [(targ8_eq _).2 h] at b; cases b), if_neg (by omega)]
    rw [e1]
    unfold moreE moreT
    by_cases c : fourL s 4 = zeroA ∧ 0 < wd s 10
    · rw [if_pos c, if_pos c]; exact ⟨rfl, fun h => by cases h⟩
    · rw [if_neg c, if_neg c]
      by_cases d : srcsE s 12 (wd s 10) = 0
      · rw [if_neg (by rw [d]; simp)]; exact ⟨d, fun _ => rfl⟩
      · rw [if_pos d]; exact ⟨rfl, fun h => absurd h d⟩)
  obtain ⟨lf, hlf⟩ : ∃ lf, lf = s.length - 8 := ⟨_, rfl⟩
  have HLL := zh (show (s.drop 8).length = lf by rw [List.length_drop]; exact hlf.symm)
  rw [HLL.out] at HLF
  have HL8 := zh (show s.length = lf + 8 by omega)
  clear hlf h hoa hs h8 HLL
  generalize hga : fourL s 4 = a at *
  have HGA := zh hga
  clear hga
  generalize hvv : valN (by8 s 1) 16 = vv at *
  clear hvv
  generalize hbb : by8 s 1 = c at *
  have HBB := zh hbb
  clear hbb
  obtain ⟨tg, htg⟩ : ∃ tg, tg = targ8 a := ⟨_, rfl⟩
  obtain ⟨zg, hzg⟩ : ∃ zg, zg = decide (a = zeroA) := ⟨_, rfl⟩
  rw [← htg] at HG Q2 Q3 Q4 Q5 Q6
  rw [← hzg] at HZ
  have HZG := zh hzg
  clear htg hzg
  go_enter Tryz.func207, Tryz.ntmps207
  go_upto_region 1 with (fail)
  generalize (w.alloc (.cells #[.pointer (some ⟨b0, 0, none⟩)] 192)).alloc (.cells zz26 28) = W at H0 ⊢
  have c0 := H0.out.pb.c
  have hfm := hfm26
  go_upto_region 2 with (go_at_call 206; (with_reducible refine (HN.out _ H0.out.pb.rd).mono ?_); rintro x w1 ⟨rfl, h9, k9⟩; have H1 := zh (H0.out.call h9 k9); clear h9 k9 c0)
  have H2 := zh (H1.out.qm ⟨false, 2, 1, (c : Nat), zeroA, false, 0, 0, [], []⟩ zeroA_ok rfl rfl)
  generalize aggW (w1.alloc (.cells zz26 28)) w1.heap.size _ = w2 at H2 ⊢
  generalize w1.heap.size = m at H2 ⊢
  clear hfm hfk hbk H0 H1
  obtain ⟨k1, k2, k3, k4, k5, k6, k7, k8, k9, ka, kb, kc, kd⟩ := H2.out.c; (try simp only at k2 k3 k4 k5 k6 k7 k8)
  go_upto_region 3 with (go_at_call 220; (with_reducible refine (HC.out _ H2.out.rd).mono ?_); rintro x w3 ⟨rfl, h9, k9⟩; have H3 := zh (H2.out.call h9 k9); clear h9 k9; clear k1 k2 k3 k4 k5 k6 k7 k8 k9 ka kb kc kd; obtain ⟨k1, k2, k3, k4, k5, k6, k7, k8, k9, ka, kb, kc, kd⟩ := H3.out.c; (try simp only at k2 k3 k4 k5 k6 k7 k8))
  go_upto_region 4 with (go_at_call 221; (with_reducible refine (HA.out _ H3.out.rd).mono ?_); rintro x w4 ⟨rfl, h9, k9⟩; have H4 := zh (H3.out.call h9 k9); clear h9 k9; clear k1 k2 k3 k4 k5 k6 k7 k8 k9 ka kb kc kd; obtain ⟨k1, k2, k3, k4, k5, k6, k7, k8, k9, ka, kb, kc, kd⟩ := H4.out.c; (try simp only at k2 k3 k4 k5 k6 k7 k8))
  have H5 := zh (H4.out.grp a HOA.out)
  generalize aggO w4 m 4 _ = w5 at H5 ⊢
  clear hfa H2 H3 H4
  clear k1 k2 k3 k4 k5 k6 k7 k8 k9 ka kb kc kd; obtain ⟨k1, k2, k3, k4, k5, k6, k7, k8, k9, ka, kb, kc, kd⟩ := H5.out.c; (try simp only at k2 k3 k4 k5 k6 k7 k8)
  by_cases g4 : 4 ≤ lf
  · have t4 : decide ((4 : Int) ≤ (lf : Int)) = true := decide_eq_true (by omega)
    have t4n : decide (4 ≤ lf) = true := decide_eq_true g4
    have G4 := zh g4
    clear g4
    go_upto_region 6 with (go_at_call 199; (with_reducible refine (HLF.out _ H5.out.rd).mono ?_); rintro x w6 ⟨rfl, hw⟩; subst hw)
    go_upto_region 11 with (go_at_call 179; (with_reducible refine (HV8.out _).mono ?_); rintro x w7 ⟨rfl, hb⟩; have H7 := zh (H5.out.below hb); clear hb; clear k1 k2 k3 k4 k5 k6 k7 k8 k9 ka kb kc kd; obtain ⟨k1, k2, k3, k4, k5, k6, k7, k8, k9, ka, kb, kc, kd⟩ := H7.out.c; (try simp only at k2 k3 k4 k5 k6 k7 k8))
    have H8 := zh ((H7.out.set 1 (.int .i64 3) (tkC_ver _ _ _ 3) HOA.out H7.out.src H7.out.rcs).set 3 (.int .i64 (vv : Nat)) (tkC_resp _ _ _ (vv : Nat)) HOA.out (AdsT.nil _) (RcT.nil _))
    generalize World.setCell (World.setCell w7 _ _) _ _ = w8 at H8 ⊢
    clear k1 k2 k3 k4 k5 k6 k7 k8 k9 ka kb kc kd; obtain ⟨k1, k2, k3, k4, k5, k6, k7, k8, k9, ka, kb, kc, kd⟩ := H8.out.c; (try simp only at k2 k3 k4 k5 k6 k7 k8)
    cases tg with
    | false =>
      have HE := zh (show (2 : Int) = (qry s).2 from (Q2.out (by have := G4.out; have := HL8.out; omega) rfl).symm)
      go_upto_region 12 with (go_at_call 117; (with_reducible refine (HG.out _).mono ?_); rintro x w9 ⟨rfl, hb⟩; have H9 := zh (H8.out.below hb); clear hb; clear k1 k2 k3 k4 k5 k6 k7 k8 k9 ka kb kc kd; obtain ⟨k1, k2, k3, k4, k5, k6, k7, k8, k9, ka, kb, kc, kd⟩ := H9.out.c; (try simp only at k2 k3 k4 k5 k6 k7 k8))
      repeat (first | go_values | go_skip | go_guarded | go_step | go_upon | go_in)
      obtain ⟨q1, q2, q3, q4, q5⟩ := H9.out.done
      exact bodyPost_ret (results_cell2 Tryz.results207 rfl (ld_some q1 (ldr_tk _ _ _))) rfl ⟨_, _, 2, (⟨false, 3, 1, (vv : Nat), a, false, 0, 0, [], []⟩ : TK), rfl, q2, q3, q4, q5, HE.out, fun h => by simp at h⟩
    | true =>
      have HM := zh (HMORE.out (by have := G4.out; have := HL8.out; omega))
      have HQ := zh (Q6.out (by have := G4.out; have := HL8.out; omega) rfl)
      go_upto_region 14 with (go_at_call 117; (with_reducible refine (HG.out _).mono ?_); rintro x w9 ⟨rfl, hb⟩; have H9 := zh (H8.out.below hb); clear hb; clear k1 k2 k3 k4 k5 k6 k7 k8 k9 ka kb kc kd; obtain ⟨k1, k2, k3, k4, k5, k6, k7, k8, k9, ka, kb, kc, kd⟩ := H9.out.c; (try simp only at k2 k3 k4 k5 k6 k7 k8))
      go_upto_region 15 with (go_at_call 222; (with_reducible refine (HM.out _ H9.out.rd).mono ?_); rintro x wm ⟨us9, ur9, e9, t9, rfl, hs9, hr9, hg9, ho9, he9, h09⟩; have HX := zh (H9.out.more hg9 hs9 hr9 ho9); have HX2 := zh (And.intro he9 h09); clear hs9 hr9 hg9 ho9 he9 h09; obtain ⟨fr9, fk9, q1, q2, q3, q4, q5⟩ := HX.out)
      repeat (first | go_values | go_skip | go_guarded | go_step | go_upon | go_in)
      exact bodyPost_ret (results_cell2 Tryz.results207 rfl (ld_some q1 (ldr_tk _ _ _))) rfl ⟨_, _, e9, t9, rfl, q2, q3, q4, q5, by rw [HX2.out.1]; exact HQ.out.1, fun h => by rw [HX2.out.2 h]; exact HQ.out.2 (by rw [← HQ.out.1, ← HX2.out.1]; exact h)⟩
  · have t4 : decide ((4 : Int) ≤ (lf : Int)) = false := decide_eq_false (by omega)
    have t4n : decide (4 ≤ lf) = false := decide_eq_false g4
    have G4 := zh g4
    by_cases g0 : 0 < lf
    · have t0 : decide ((0 : Int) < (lf : Int)) = true := decide_eq_true (by omega)
      have t0n : decide (0 < lf) = true := decide_eq_true g0
      have HE := zh (show (2 : Int) = (qry s).2 from (Q1.out (by have := HL8.out; omega) (by have := HL8.out; omega)).symm)
      clear g4 g0
      go_upto_region 8 with (go_at_call 199; (with_reducible refine (HLF.out _ H5.out.rd).mono ?_); rintro x w6 ⟨rfl, hw⟩; subst hw)
      repeat (first | go_values | go_skip | go_guarded | go_step | go_upon | go_in)
      obtain ⟨q1, q2, q3, q4, q5⟩ := H5.out.done
      exact bodyPost_ret (results_cell2 Tryz.results207 rfl (ld_some q1 (ldr_tk _ _ _))) rfl ⟨_, _, 2, (⟨false, 2, 1, (c : Nat), a, false, 0, 0, [], []⟩ : TK), rfl, q2, q3, q4, q5, HE.out, fun h => by simp at h⟩
    · have t0 : decide ((0 : Int) < (lf : Int)) = false := decide_eq_false (by omega)
      have t0n : decide (0 < lf) = false := decide_eq_false g0
      have HL0 := zh (show s.length = 8 by have := HL8.out; omega)
      clear g4 g0
      by_cases hc : c = 0
      · have tc : ((c : Int) == 0) = true := by simp [hc]
        have HC0 := zh hc
        clear hc
        have H8 := zh (H5.out.set 1 (.int .i64 1) (tkC_ver _ _ _ 1) HOA.out H5.out.src H5.out.rcs)
        go_upto_region 11 with (go_at_call 199; (with_reducible refine (HLF.out _ H5.out.rd).mono ?_); rintro x w6 ⟨rfl, hw⟩; subst hw)
        generalize World.setCell _ _ _ = w8 at H8 ⊢
        clear k1 k2 k3 k4 k5 k6 k7 k8 k9 ka kb kc kd; obtain ⟨k1, k2, k3, k4, k5, k6, k7, k8, k9, ka, kb, kc, kd⟩ := H8.out.c; (try simp only at k2 k3 k4 k5 k6 k7 k8)
        cases tg with
        | false =>
          have HE := zh (show (2 : Int) = (qry s).2 from (Q2.out (by have := HL0.out; omega) rfl).symm)
          go_upto_region 12 with (go_at_call 117; (with_reducible refine (HG.out _).mono ?_); rintro x w9 ⟨rfl, hb⟩; have H9 := zh (H8.out.below hb); clear hb; clear k1 k2 k3 k4 k5 k6 k7 k8 k9 ka kb kc kd; obtain ⟨k1, k2, k3, k4, k5, k6, k7, k8, k9, ka, kb, kc, kd⟩ := H9.out.c; (try simp only at k2 k3 k4 k5 k6 k7 k8))
          repeat (first | go_values | go_skip | go_guarded | go_step | go_upon | go_in)
          obtain ⟨q1, q2, q3, q4, q5⟩ := H9.out.done
          exact bodyPost_ret (results_cell2 Tryz.results207 rfl (ld_some q1 (ldr_tk _ _ _))) rfl ⟨_, _, 2, (⟨false, 1, 1, (c : Nat), a, false, 0, 0, [], []⟩ : TK), rfl, q2, q3, q4, q5, HE.out, fun h => by simp at h⟩
        | true =>
          cases zg with
          | false =>
            have HE := zh (show (2 : Int) = (qry s).2 from (Q3.out HL0.out rfl HC0.out (of_decide_eq_false HZG.out.symm)).symm)
            go_upto_region 12 with (first | (go_at_call 117; (with_reducible refine (HG.out _).mono ?_); rintro x w9 ⟨rfl, hb⟩; have H9 := zh (H8.out.below hb); clear hb; clear k1 k2 k3 k4 k5 k6 k7 k8 k9 ka kb kc kd; obtain ⟨k1, k2, k3, k4, k5, k6, k7, k8, k9, ka, kb, kc, kd⟩ := H9.out.c; (try simp only at k2 k3 k4 k5 k6 k7 k8)) | (go_at_call 121; (with_reducible refine (HZ.out _).mono ?_); rintro x wa ⟨rfl, hb⟩; have Ha := zh (H9.out.below hb); clear hb; clear k1 k2 k3 k4 k5 k6 k7 k8 k9 ka kb kc kd; obtain ⟨k1, k2, k3, k4, k5, k6, k7, k8, k9, ka, kb, kc, kd⟩ := Ha.out.c; (try simp only at k2 k3 k4 k5 k6 k7 k8)))
            repeat (first | go_values | go_skip | go_guarded | go_step | go_upon | go_in)
            obtain ⟨q1, q2, q3, q4, q5⟩ := Ha.out.done
            exact bodyPost_ret (results_cell2 Tryz.results207 rfl (ld_some q1 (ldr_tk _ _ _))) rfl ⟨_, _, 2, (⟨false, 1, 1, (c : Nat), a, false, 0, 0, [], []⟩ : TK), rfl, q2, q3, q4, q5, HE.out, fun h => by simp at h⟩
          | true =>
            have HE := zh (Q4.out HL0.out rfl HC0.out (of_decide_eq_true HZG.out.symm))
            go_upto_region 13 with (first | (go_at_call 117; (with_reducible refine (HG.out _).mono ?_); rintro x w9 ⟨rfl, hb⟩; have H9 := zh (H8.out.below hb); clear hb; clear k1 k2 k3 k4 k5 k6 k7 k8 k9 ka kb kc kd; obtain ⟨k1, k2, k3, k4, k5, k6, k7, k8, k9, ka, kb, kc, kd⟩ := H9.out.c; (try simp only at k2 k3 k4 k5 k6 k7 k8)) | (go_at_call 121; (with_reducible refine (HZ.out _).mono ?_); rintro x wa ⟨rfl, hb⟩; have Ha := zh (H9.out.below hb); clear hb; clear k1 k2 k3 k4 k5 k6 k7 k8 k9 ka kb kc kd; obtain ⟨k1, k2, k3, k4, k5, k6, k7, k8, k9, ka, kb, kc, kd⟩ := Ha.out.c; (try simp only at k2 k3 k4 k5 k6 k7 k8)))
            repeat (first | go_values | go_skip | go_guarded | go_step | go_upon | go_in)
            obtain ⟨q1, q2, q3, q4, q5⟩ := Ha.out.done
            exact bodyPost_ret (results_cell2 Tryz.results207 rfl (ld_some q1 (ldr_tk _ _ _))) rfl ⟨_, _, 0, (⟨false, 1, 1, (c : Nat), a, false, 0, 0, [], []⟩ : TK), rfl, q2, q3, q4, q5, by rw [HE.out], fun _ => by rw [HE.out]⟩
      · have tc : ((c : Int) == 0) = false := by simp; exact hc
        have HCN := zh hc
        clear hc
        have H8 := zh H5.out
        go_upto_region 11 with (go_at_call 199; (with_reducible refine (HLF.out _ H5.out.rd).mono ?_); rintro x w6 ⟨rfl, hw⟩; subst hw)
        clear k1 k2 k3 k4 k5 k6 k7 k8 k9 ka kb kc kd; obtain ⟨k1, k2, k3, k4, k5, k6, k7, k8, k9, ka, kb, kc, kd⟩ := H8.out.c; (try simp only at k2 k3 k4 k5 k6 k7 k8)
        cases tg with
        | false =>
          have HE := zh (show (2 : Int) = (qry s).2 from (Q2.out (by have := HL0.out; omega) rfl).symm)
          go_upto_region 12 with (go_at_call 117; (with_reducible refine (HG.out _).mono ?_); rintro x w9 ⟨rfl, hb⟩; have H9 := zh (H8.out.below hb); clear hb; clear k1 k2 k3 k4 k5 k6 k7 k8 k9 ka kb kc kd; obtain ⟨k1, k2, k3, k4, k5, k6, k7, k8, k9, ka, kb, kc, kd⟩ := H9.out.c; (try simp only at k2 k3 k4 k5 k6 k7 k8))
          repeat (first | go_values | go_skip | go_guarded | go_step | go_upon | go_in)
          obtain ⟨q1, q2, q3, q4, q5⟩ := H9.out.done
          exact bodyPost_ret (results_cell2 Tryz.results207 rfl (ld_some q1 (ldr_tk _ _ _))) rfl ⟨_, _, 2, (⟨false, 2, 1, (c : Nat), a, false, 0, 0, [], []⟩ : TK), rfl, q2, q3, q4, q5, HE.out, fun h => by simp at h⟩
        | true =>
          have HE := zh (Q5.out HL0.out rfl HCN.out)
          go_upto_region 13 with (go_at_call 117; (with_reducible refine (HG.out _).mono ?_); rintro x w9 ⟨rfl, hb⟩; have H9 := zh (H8.out.below hb); clear hb; clear k1 k2 k3 k4 k5 k6 k7 k8 k9 ka kb kc kd; obtain ⟨k1, k2, k3, k4, k5, k6, k7, k8, k9, ka, kb, kc, kd⟩ := H9.out.c; (try simp only at k2 k3 k4 k5 k6 k7 k8))
          repeat (first | go_values | go_skip | go_guarded | go_step | go_upon | go_in)
          obtain ⟨q1, q2, q3, q4, q5⟩ := H9.out.done
          exact bodyPost_ret (results_cell2 Tryz.results207 rfl (ld_some q1 (ldr_tk _ _ _))) rfl ⟨_, _, 0, (⟨false, 2, 1, (c : Nat), a, false, 0, 0, [], []⟩ : TK), rfl, q2, q3, q4, q5, by rw [HE.out], fun _ => by rw [HE.out]⟩
end Go.Proofs.YtlbdehegknehiaaGreat


/-
  The contracts of igmp's parser's queryMore.
-/
import Derived.Test.YtchbkamjmkfikaaIgM
namespace Go.Proofs.Ytchbkamjmkfikaa
open Go.RowKit
set_option linter.unusedVariables false
set_option linter.unusedSimpArgs false
attribute [local go_sem ↓] ld_addr st_addr bld_addr ld_tk st_tk bld_tk
attribute [local go_sem] ldr_addr str_addr str_addr_at ldr_tk str_tk row?_drew_eq

theorem pbits_any (n f w0 r : Nat) (hn : n < 256) (hr : bitsN n f w0 = r) (w : World) : Calls Try.prog 86 #[.int .u64 n, .int .i64 f, .int .i64 w0] w fun e w' => e = .returned (.int .u64 r) ∧ ∃ k, w' = w.drewN k := by
  have := bits_any n (by omega) f w0 w
  rw [hr] at this
  exact this
theorem QM.drewN {w W : World} {b0 bp rr m : Nat} {l : List UInt8} {k : Nat} {bad : Bool} {t : TK} {us ur : Value} (h : QM w W b0 bp rr m l k bad t us ur) (d : Nat) : QM w (W.drewN d) b0 bp rr m l k bad t us ur := h.below (bdrewN (Below.refl _ _) d)
theorem QM.startm {w : World} {b0 : Nat} {l : List UInt8} {k : Nat} {bad : Bool} {t : TK} {us ur : Value} (h : RdAt w b0 l k bad) (ho : adOk t.g) (hs : AdsT w us t.src) (hr : RcT w ur t.rcs) : QM w (((w.alloc (.cells #[.pointer (some ⟨b0, 0, none⟩)] 46)).alloc (.cells (tkC t us ur).toArray 29)).alloc (.cells #[.bool false, .int .i64 0, .int .i64 0, .int .i64 0, .bool false, .int .u8 0, .int .u8 0, .int .u8 0, .int .u8 0, .int .u8 0, .int .u8 0, .int .u8 0, .int .u8 0, .int .u8 0, .int .u8 0, .int .u8 0, .int .u8 0, .int .u8 0, .int .u8 0, .int .u8 0, .int .u8 0, .bool false, .int .i64 0, .int .i64 0, .slice none 0 0, .slice none 0 0] 29)) b0 w.heap.size (w.heap.size + 2) (w.heap.size + 1) l k bad t us ur := by
  have s1 : (w.alloc (.cells #[.pointer (some ⟨b0, 0, none⟩)] 46)).heap.size = w.heap.size + 1 := by simp
  have s2 : ((w.alloc (.cells #[.pointer (some ⟨b0, 0, none⟩)] 46)).alloc (.cells (tkC t us ur).toArray 29)).heap.size = w.heap.size + 2 := by simp
  have k1 := (Below.refl w.heap.size w).alloc (Nat.le_refl _) (.cells #[.pointer (some ⟨b0, 0, none⟩)] 46)
  have k2 := (Below.refl _ (w.alloc (.cells #[.pointer (some ⟨b0, 0, none⟩)] 46))).alloc (Nat.le_refl _) (.cells (tkC t us ur).toArray 29)
  have k3 := (Below.refl _ ((w.alloc (.cells #[.pointer (some ⟨b0, 0, none⟩)] 46)).alloc (.cells (tkC t us ur).toArray 29))).alloc (Nat.le_refl _) (.cells #[.bool false, .int .i64 0, .int .i64 0, .int .i64 0, .bool false, .int .u8 0, .int .u8 0, .int .u8 0, .int .u8 0, .int .u8 0, .int .u8 0, .int .u8 0, .int .u8 0, .int .u8 0, .int .u8 0, .int .u8 0, .int .u8 0, .int .u8 0, .int .u8 0, .int .u8 0, .int .u8 0, .bool false, .int .i64 0, .int .i64 0, .slice none 0 0, .slice none 0 0] 29)
  have hp := ((PB.start h).below k2).below k3
  have ht := ObjAt.made (w.alloc (.cells #[.pointer (some ⟨b0, 0, none⟩)] 46)) (tkC t us ur).toArray 29
  rw [s1] at ht
  have hz := ObjAt.made ((w.alloc (.cells #[.pointer (some ⟨b0, 0, none⟩)] 46)).alloc (.cells (tkC t us ur).toArray 29)) #[.bool false, .int .i64 0, .int .i64 0, .int .i64 0, .bool false, .int .u8 0, .int .u8 0, .int .u8 0, .int .u8 0, .int .u8 0, .int .u8 0, .int .u8 0, .int .u8 0, .int .u8 0, .int .u8 0, .int .u8 0, .int .u8 0, .int .u8 0, .int .u8 0, .int .u8 0, .int .u8 0, .bool false, .int .i64 0, .int .i64 0, .slice none 0 0, .slice none 0 0] 29
  rw [s2] at hz
  exact ⟨hp.rd, hp.pp, hz, ⟨ht.below k3 ht.lt, ho⟩, ((hs.below k1).below k2).below k3, ((hr.below k1).below k2).below k3, hp.frm, Nat.le_refl _, by omega, by omega, by omega, by omega, by omega, hp.lt⟩
/-- What queryMore's errors are, and its talk. -/
def moreE (s : List UInt8) (g : AD) : Int := if g = zeroA ∧ 0 < wd s 10 then 2 else srcsE s 12 (wd s 10)
def moreT (s : List UInt8) (resp : Int) (g : AD) : TK := ⟨false, 3, 1, resp, g, decide (by8 s 8 / 8 % 2 = 1), (by8 s 8 % 8 : Nat), valN (by8 s 9) 16, srcsL s 12 (wd s 10), []⟩
def MoreQ (w W' : World) (b0 : Nat) (s : List UInt8) (resp : Int) (g : AD) (x : Ending) : Prop := ∃ (us ur : Value) (e : Int) (t : TK), x = .returned (.tuple #[.agg (tkC t us ur).toArray, .int .i64 e]) ∧ AdsT W' us t.src ∧ RcT W' ur t.rcs ∧ w.grownBy W' (some b0) ∧ adOk t.g ∧ e = moreE s g ∧ (e = 0 → t = moreT s resp g)
set_option maxRecDepth 100000 in
set_option maxHeartbeats 4000000 in
theorem pmore_any (resp : Int) (g : AD) (hog : adOk g) (w : World) (b0 : Nat) (s : List UInt8) (hs : s.length ≤ 100000) (h12 : 12 ≤ s.length) (h : RdAt w b0 (s.drop 8) 8 false) :
    Calls Try.prog 54 #[pv b0, .agg (tkC ⟨false, 3, 1, resp, g, false, 0, 0, [], []⟩ (.slice none 0 0) (.slice none 0 0)).toArray] w fun x W' => MoreQ w W' b0 s resp g x := by
  have H0 := Lib.hid (QM.startm (t := ⟨false, 3, 1, resp, g, false, 0, 0, [], []⟩) h hog (AdsT.nil w) (RcT.nil w))
  have f1 := by8_lt s 8
  have f2 := by8_lt s 9
  have f3 := wd_lt s 10 (by omega)
  have HN1 : Hid (∀ W, RdAt W b0 (s.drop 8) 8 false → Calls Try.prog 49 #[.pointer (some ⟨b0, 0, none⟩), .int .i64 1] W fun x w' => x = .returned (.int .u64 (by8 s 8)) ∧ RdAt w' b0 (s.drop 9) 9 false ∧ W.grownBy w' (some b0)) := Lib.hid fun W h => by
    have := numq_any b0 (s.drop 8) 8 false 1 (by omega) (by simp; omega) (by omega) W h
    obtain ⟨e1, e2, e3, e4⟩ := rd_good (l := s.drop 8) (n := 1) (k := 8) (by simp; omega)
    rw [e1, e2, e3, e4, List.drop_drop, num_by8 s 8 (by omega)] at this
    exact this
  have HN2 : Hid (PNum b0 (s.drop 9) 9 false 1 (by8 s 9) (s.drop 10) 10 false) := Lib.hid (by
    have := pnum_good b0 s 9 1 (by omega) (by omega) (by omega)
    rw [num_by8 s 9 (by omega)] at this
    exact this)
  have HN3 : Hid (PNum b0 (s.drop 10) 10 false 2 (wd s 10) (s.drop 12) 12 false) := Lib.hid (pnum_good b0 s 10 2 (by omega) (by omega) (by omega))
  have HB1 : Hid (∀ W, Calls Try.prog 86 #[.int .u64 (by8 s 8 : Nat), .int .i64 3, .int .i64 1] W fun e w' => e = .returned (.int .u64 (by8 s 8 / 8 % 2 : Nat)) ∧ ∃ k, w' = W.drewN k) := Lib.hid fun W => pbits_any (by8 s 8) 3 1 _ f1 rfl W
  have HB2 : Hid (∀ W, Calls Try.prog 86 #[.int .u64 (by8 s 8 : Nat), .int .i64 0, .int .i64 3] W fun e w' => e = .returned (.int .u64 (by8 s 8 % 8 : Nat)) ∧ ∃ k, w' = W.drewN k) := Lib.hid fun W => pbits_any (by8 s 8) 0 3 _ f1 (by show by8 s 8 / 2 ^ 0 % 2 ^ 3 = _; simp) W
  have HV8 : Hid (∀ W, Calls Try.prog 53 #[.int .i64 (by8 s 9 : Nat)] W fun x w' => x = .returned (.int .i64 (valN (by8 s 9) 16)) ∧ Below W.heap.size W w') := Lib.hid fun W => by
    have := value8_any (by8 s 9 : Nat) W
    rw [show clampN (by8 s 9 : Nat) 255 = by8 s 9 by unfold clampN; split <;> omega] at this
    exact this
  have HZ := Lib.hid (fun W => zero8_any g hog W)
  have HSR := Lib.hid (fun W h => psources_any b0 s 12 (wd s 10) hs (by omega) (by omega) W h)
  have hq1 : ∀ f : Nat, ((f : Int) == 1) = decide (f = 1) := fun f => by rw [Bool.eq_iff_iff]; simp; omega
  have hq2 := hq1 (by8 s 8 / 8 % 2)
  have hw8 : IntKind.i64.wrap ((by8 s 8 % 8 : Nat) : Int) = ((by8 s 8 % 8 : Nat) : Int) := by simp only [IntKind.wrap_i64]; omega
  have HT : Hid (moreT s resp g = ⟨false, 3, 1, resp, g, decide (by8 s 8 / 8 % 2 = 1), (by8 s 8 % 8 : Nat), valN (by8 s 9) 16, srcsL s 12 (wd s 10), []⟩) := Lib.hid rfl
  have HEE : Hid (moreE s g = if decide (g = zeroA) = true ∧ 0 < wd s 10 then 2 else srcsE s 12 (wd s 10)) := Lib.hid (by unfold moreE; simp)
  have HOG := Lib.hid hog
  generalize decide (by8 s 8 / 8 % 2 = 1) = qq at *
  generalize by8 s 8 / 8 % 2 = fq at *
  generalize by8 s 8 % 8 = fr at *
  generalize valN (by8 s 9) 16 = ve at *
  generalize by8 s 8 = fb at *
  generalize by8 s 9 = fc at *
  generalize decide (g = zeroA) = zg at *
  obtain ⟨n, hn⟩ : ∃ n, n = wd s 10 := ⟨_, rfl⟩
  rw [← hn] at HN3 HSR HT HEE f3
  clear h hog hn hq1 f1 f2
  go_enter Try.func54, Try.ntmps54
  go_upto_region 1 with (fail)
  generalize ((w.alloc (.cells #[.pointer (some ⟨b0, 0, none⟩)] 46)).alloc (.cells (tkC _ _ _).toArray 29)).alloc (.cells #[.bool false, .int .i64 0, .int .i64 0, .int .i64 0, .bool false, .int .u8 0, .int .u8 0, .int .u8 0, .int .u8 0, .int .u8 0, .int .u8 0, .int .u8 0, .int .u8 0, .int .u8 0, .int .u8 0, .int .u8 0, .int .u8 0, .int .u8 0, .int .u8 0, .int .u8 0, .int .u8 0, .bool false, .int .i64 0, .int .i64 0, .slice none 0 0, .slice none 0 0] 29) = W at H0 ⊢
  obtain ⟨k1, k2, k3, k4, k5, k6, k7, k8, k9, ka, kb, kc, kd⟩ := H0.out.c; (try simp only at k2 k3 k4 k5 k6 k7 k8)
  go_upto_region 2 with (go_at_call 49; (with_reducible refine (HN1.out _ H0.out.rd).mono ?_); rintro x w1 ⟨rfl, h9, k9⟩; have H1 := Lib.hid (H0.out.call h9 k9); clear h9 k9; clear k1 k2 k3 k4 k5 k6 k7 k8 k9 ka kb kc kd; obtain ⟨k1, k2, k3, k4, k5, k6, k7, k8, k9, ka, kb, kc, kd⟩ := H1.out.c; (try simp only at k2 k3 k4 k5 k6 k7 k8))
  go_upto_region 3 with (go_at_call 86; (with_reducible refine (HB1.out _).mono ?_); rintro x w2 ⟨rfl, d2, rfl⟩; have H2 := Lib.hid (H1.out.drewN d2); clear k1 k2 k3 k4 k5 k6 k7 k8 k9 ka kb kc kd; obtain ⟨k1, k2, k3, k4, k5, k6, k7, k8, k9, ka, kb, kc, kd⟩ := H2.out.c; (try simp only at k2 k3 k4 k5 k6 k7 k8))
  have H3 := Lib.hid (H2.out.set 21 (.bool qq) (tkC_quiet _ _ _ HOG.out _) HOG.out H2.out.src H2.out.rcs)
  generalize World.setCell (w1.drewN d2) _ _ = w3 at H3 ⊢
  clear k1 k2 k3 k4 k5 k6 k7 k8 k9 ka kb kc kd; obtain ⟨k1, k2, k3, k4, k5, k6, k7, k8, k9, ka, kb, kc, kd⟩ := H3.out.c; (try simp only at k2 k3 k4 k5 k6 k7 k8)
  go_upto_region 4 with (go_at_call 86; (with_reducible refine (HB2.out _).mono ?_); rintro x w4 ⟨rfl, d4, rfl⟩; have H4 := Lib.hid (H3.out.drewN d4); clear k1 k2 k3 k4 k5 k6 k7 k8 k9 ka kb kc kd; obtain ⟨k1, k2, k3, k4, k5, k6, k7, k8, k9, ka, kb, kc, kd⟩ := H4.out.c; (try simp only at k2 k3 k4 k5 k6 k7 k8))
  have H5 := Lib.hid (H4.out.set 22 (.int .i64 fr) (tkC_rob _ _ _ HOG.out _) HOG.out H4.out.src H4.out.rcs)
  generalize World.setCell (w3.drewN d4) _ _ = w5 at H5 ⊢
  clear k1 k2 k3 k4 k5 k6 k7 k8 k9 ka kb kc kd; obtain ⟨k1, k2, k3, k4, k5, k6, k7, k8, k9, ka, kb, kc, kd⟩ := H5.out.c; (try simp only at k2 k3 k4 k5 k6 k7 k8)
  go_upto_region 5 with (first
    | (go_at_call 16; (with_reducible refine (HN2.out _ H5.out.rd).mono ?_); rintro x w6 ⟨rfl, h9, k9⟩; have H6 := Lib.hid (H5.out.call h9 k9); clear h9 k9; clear k1 k2 k3 k4 k5 k6 k7 k8 k9 ka kb kc kd; obtain ⟨k1, k2, k3, k4, k5, k6, k7, k8, k9, ka, kb, kc, kd⟩ := H6.out.c; (try simp only at k2 k3 k4 k5 k6 k7 k8))
    | (go_at_call 53; (with_reducible refine (HV8.out _).mono ?_); rintro x w7 ⟨rfl, hb⟩; have H7 := Lib.hid (H6.out.below hb); clear hb; clear k1 k2 k3 k4 k5 k6 k7 k8 k9 ka kb kc kd; obtain ⟨k1, k2, k3, k4, k5, k6, k7, k8, k9, ka, kb, kc, kd⟩ := H7.out.c; (try simp only at k2 k3 k4 k5 k6 k7 k8)))
  have H8 := Lib.hid (H7.out.set 23 (.int .i64 ve) (tkC_every _ _ _ HOG.out _) HOG.out H7.out.src H7.out.rcs)
  generalize World.setCell w7 _ _ = w8 at H8 ⊢
  clear k1 k2 k3 k4 k5 k6 k7 k8 k9 ka kb kc kd; obtain ⟨k1, k2, k3, k4, k5, k6, k7, k8, k9, ka, kb, kc, kd⟩ := H8.out.c; (try simp only at k2 k3 k4 k5 k6 k7 k8)
  go_upto_region 6 with (go_at_call 16; (with_reducible refine (HN3.out _ H8.out.rd).mono ?_); rintro x w9 ⟨rfl, h9, k9⟩; have H9 := Lib.hid (H8.out.call h9 k9); clear h9 k9; clear k1 k2 k3 k4 k5 k6 k7 k8 k9 ka kb kc kd; obtain ⟨k1, k2, k3, k4, k5, k6, k7, k8, k9, ka, kb, kc, kd⟩ := H9.out.c; (try simp only at k2 k3 k4 k5 k6 k7 k8))
  cases zg with
  | true =>
    by_cases hnz : 0 < n
    · have t1 : decide ((0 : Int) < (n : Int)) = true := decide_eq_true (by omega)
      have t2 : decide (0 < n) = true := decide_eq_true hnz
      have t3 : (0 : Int) < (n : Int) := by omega
      have HE := Lib.hid (show (2 : Int) = moreE s g by rw [HEE.out, if_pos ⟨rfl, hnz⟩])
      clear hnz
      go_upto_region 7 with (go_at_call 32; (with_reducible refine (HZ.out _).mono ?_); rintro x wz ⟨rfl, hb⟩; have Hz := Lib.hid (H9.out.below hb); clear hb; clear k1 k2 k3 k4 k5 k6 k7 k8 k9 ka kb kc kd; obtain ⟨k1, k2, k3, k4, k5, k6, k7, k8, k9, ka, kb, kc, kd⟩ := Hz.out.c; (try simp only at k2 k3 k4 k5 k6 k7 k8))
      repeat (first | go_values | go_skip | go_guarded | go_step | go_upon | go_in)
      obtain ⟨q1, q2, q3, q4, q5⟩ := Hz.out.done
      exact bodyPost_ret (results_cell2 Try.results54 rfl (ld_some q1 (ldr_tk _ _ _))) rfl ⟨_, _, 2, (⟨false, 3, 1, resp, g, qq, (fr : Int), (ve : Int), [], []⟩ : TK), rfl, q2, q3, q4, q5, HE.out, fun h => by simp at h⟩
    · have t1 : decide ((0 : Int) < (n : Int)) = false := decide_eq_false (by omega)
      have t2 : decide (0 < n) = false := decide_eq_false hnz
      have t3 : ¬ (0 : Int) < (n : Int) := by omega
      have HE := Lib.hid (show srcsE s 12 n = moreE s g by rw [HEE.out, if_neg (fun h => hnz h.2)])
      clear hnz
      go_upto_region 10 with (first
        | (go_at_call 32; (with_reducible refine (HZ.out _).mono ?_); rintro x wz ⟨rfl, hb⟩; have Hz := Lib.hid (H9.out.below hb); clear hb; clear k1 k2 k3 k4 k5 k6 k7 k8 k9 ka kb kc kd; obtain ⟨k1, k2, k3, k4, k5, k6, k7, k8, k9, ka, kb, kc, kd⟩ := Hz.out.c; (try simp only at k2 k3 k4 k5 k6 k7 k8))
        | (go_at_call 87; (with_reducible refine (HSR.out _ Hz.out.rd).mono ?_); rintro x wb ⟨v, e, ls, l5, kk5, b5, rfl, he, hv, hrd, hgr, _, _, h0⟩; obtain ⟨pv9, cv9, hvv, _, _⟩ := hv.1.len; subst hvv; have Hb := Lib.hid (Hz.out.call hrd hgr); have HV := Lib.hid hv; have HER := Lib.hid he; have HZ0 := Lib.hid h0; clear hrd hgr hv he h0; clear k1 k2 k3 k4 k5 k6 k7 k8 k9 ka kb kc kd; obtain ⟨k1, k2, k3, k4, k5, k6, k7, k8, k9, ka, kb, kc, kd⟩ := Hb.out.c; (try simp only at k2 k3 k4 k5 k6 k7 k8)))
      have Hc := Lib.hid (Hb.out.set 24 (.slice pv9 ls.length cv9) (tkC_src _ _ _ HOG.out _ ls) HOG.out HV.out Hb.out.rcs)
      generalize World.setCell wb _ _ = wc at Hc ⊢
      clear k1 k2 k3 k4 k5 k6 k7 k8 k9 ka kb kc kd; obtain ⟨k1, k2, k3, k4, k5, k6, k7, k8, k9, ka, kb, kc, kd⟩ := Hc.out.c; (try simp only at k2 k3 k4 k5 k6 k7 k8)
      repeat (first | go_values | go_skip | go_guarded | go_step | go_upon | go_in)
      obtain ⟨q1, q2, q3, q4, q5⟩ := Hc.out.done
      exact bodyPost_ret (results_cell2 Try.results54 rfl (ld_some q1 (ldr_tk _ _ _))) rfl ⟨_, _, e, (⟨false, 3, 1, resp, g, qq, (fr : Int), (ve : Int), ls, []⟩ : TK), rfl, q2, q3, q4, q5, by rw [HER.out]; exact HE.out, fun h => by rw [HT.out, (HZ0.out h).1]⟩
  | false =>
    have HE := Lib.hid (show srcsE s 12 n = moreE s g by rw [HEE.out, if_neg (fun h => by cases h.1)])
    go_upto_region 10 with (first
      | (go_at_call 32; (with_reducible refine (HZ.out _).mono ?_); rintro x wz ⟨rfl, hb⟩; have Hz := Lib.hid (H9.out.below hb); clear hb; clear k1 k2 k3 k4 k5 k6 k7 k8 k9 ka kb kc kd; obtain ⟨k1, k2, k3, k4, k5, k6, k7, k8, k9, ka, kb, kc, kd⟩ := Hz.out.c; (try simp only at k2 k3 k4 k5 k6 k7 k8))
      | (go_at_call 87; (with_reducible refine (HSR.out _ Hz.out.rd).mono ?_); rintro x wb ⟨v, e, ls, l5, kk5, b5, rfl, he, hv, hrd, hgr, _, _, h0⟩; obtain ⟨pv9, cv9, hvv, _, _⟩ := hv.1.len; subst hvv; have Hb := Lib.hid (Hz.out.call hrd hgr); have HV := Lib.hid hv; have HER := Lib.hid he; have HZ0 := Lib.hid h0; clear hrd hgr hv he h0; clear k1 k2 k3 k4 k5 k6 k7 k8 k9 ka kb kc kd; obtain ⟨k1, k2, k3, k4, k5, k6, k7, k8, k9, ka, kb, kc, kd⟩ := Hb.out.c; (try simp only at k2 k3 k4 k5 k6 k7 k8)))
    have Hc := Lib.hid (Hb.out.set 24 (.slice pv9 ls.length cv9) (tkC_src _ _ _ HOG.out _ ls) HOG.out HV.out Hb.out.rcs)
    generalize World.setCell wb _ _ = wc at Hc ⊢
    clear k1 k2 k3 k4 k5 k6 k7 k8 k9 ka kb kc kd; obtain ⟨k1, k2, k3, k4, k5, k6, k7, k8, k9, ka, kb, kc, kd⟩ := Hc.out.c; (try simp only at k2 k3 k4 k5 k6 k7 k8)
    repeat (first | go_values | go_skip | go_guarded | go_step | go_upon | go_in)
    obtain ⟨q1, q2, q3, q4, q5⟩ := Hc.out.done
    exact bodyPost_ret (results_cell2 Try.results54 rfl (ld_some q1 (ldr_tk _ _ _))) rfl ⟨_, _, e, (⟨false, 3, 1, resp, g, qq, (fr : Int), (ve : Int), ls, []⟩ : TK), rfl, q2, q3, q4, q5, by rw [HER.out]; exact HE.out, fun h => by rw [HT.out, (HZ0.out h).1]⟩
end Go.Proofs.Ytchbkamjmkfikaa

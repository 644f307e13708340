/- A part of the proof. -/
import Derived.Test.YtlbdehegknehiaaGreatMg00
import Derived.Test.YtlbdehegknehiaaGreatIgY
import Derived.Test.YtlbdehegknehiaaGreatMg21
namespace Go.Proofs.YtlbdehegknehiaaGreat
set_option maxRecDepth 100000
set_option maxHeartbeats 4000000
open Go.RowKit
set_option linter.unusedVariables false
set_option linter.unusedSimpArgs false
attribute [local go_sem ↓] ld_addr st_addr bld_addr ld_rec st_rec ld_tk st_tk bld_tk bld_shp adsLit_eq
attribute [local go_sem] ldr_addr str_addr str_addr_at ldr_tk str_tk bldr_shp ldr_rec str_rec row?_drew_eq
theorem good8_sec {t : TK} (h : good8 t = true) : 0 ≤ t.resp ∧ (t.ver = 3 → t.kind ≠ 1 → t.resp = 0) ∧ secT t ≤ 255 := by
  have hk := good8_kinds h
  obtain ⟨v6, ver, kind, resp, g, q, rob, every, src, rcs⟩ := t
  unfold kinds8 at hk
  simp only at hk
  rcases hk with ⟨rfl, rfl⟩ | ⟨rfl, rfl⟩ | ⟨rfl, rfl⟩ | ⟨rfl, rfl⟩ | ⟨rfl, rfl⟩ | ⟨rfl, rfl⟩ | ⟨rfl, rfl⟩
  · rw [g8_11, Bool.true_and, decide_eq_true_iff, TK.mk.injEq] at h
    have := h.2.2.2.1; subst this
    simp [secT]
  · rw [g8_21, Bool.and_eq_true, Bool.and_eq_true, decide_eq_true_iff] at h
    have := h.1.1
    refine ⟨by simp only; omega, by simp, ?_⟩
    unfold secT; rw [if_neg (by simp)]; simp only; omega
  · rw [g8_12 v6 1 2 (by omega), Bool.and_eq_true, decide_eq_true_iff, TK.mk.injEq] at h
    have := h.2.2.2.2.1; subst this
    simp [secT]
  · rw [g8_12 v6 2 2 (by omega), Bool.and_eq_true, decide_eq_true_iff, TK.mk.injEq] at h
    have := h.2.2.2.2.1; subst this
    simp [secT]
  · rw [g8_12 v6 2 3 (by omega), Bool.and_eq_true, decide_eq_true_iff, TK.mk.injEq] at h
    have := h.2.2.2.2.1; subst this
    simp [secT]
  · rw [g8_31] at h
    simp only [Bool.and_eq_true] at h
    have he := h.1.1.1.1.1.1
    unfold exactN at he
    rw [decide_eq_true_iff] at he
    refine ⟨he.1, by simp, ?_⟩
    unfold secT; rw [if_pos ⟨rfl, rfl⟩]; exact codeN_le _ _ _
  · rw [g8_32, Bool.and_eq_true, decide_eq_true_iff, TK.mk.injEq] at h
    have := h.2.2.2.2.1; subst this
    simp [secT]
theorem kindT_le (t : TK) : kindT t ≤ 34 := by unfold kindT; repeat' split
                                               all_goals omega
theorem putL_four (n : Nat) (h : n < 65536) : putL n 4 = putL 0 2 ++ putL n 2 := by
  have e1 : n / 256 ^ 3 = 0 := by rw [Nat.div_eq_zero_iff]; omega
  have e2 : n / 256 ^ 2 = 0 := by rw [Nat.div_eq_zero_iff]; omega
  simp [putL, e1, e2]
structure SW (w W : World) (ba bb base : Nat) (t : TK) (us ur : Value) (la : List UInt8) : Prop where
  tk : TkAt W w.heap.size t us ur
  wa : WB base W ba la
  fb : ObjAt W bb #[.pointer none, .slice none 0 0] 156
  blw : Below w.heap.size w W
  la1 : w.heap.size < ba
  lb1 : w.heap.size < bb
  ne : ba ≠ bb
  lbs : w.heap.size ≤ base
  lz : base ≤ W.heap.size
theorem SW.below {w W W' : World} {ba bb base : Nat} {t : TK} {us ur : Value} {la : List UInt8} (h : SW w W ba bb base t us ur la) (k : Below W.heap.size W W') : SW w W' ba bb base t us ur la :=
  ⟨h.tk.below k, h.wa.below k, h.fb.below k h.fb.lt, bstep h.blw k, h.la1, h.lb1, h.ne, h.lbs, Nat.le_trans h.lz k.size⟩
theorem SW.step {w W W' : World} {ba bb base : Nat} {t : TK} {us ur : Value} {la la' : List UInt8} (h : SW w W ba bb base t us ur la) (h1 : WB base W' ba la') (k : WK base ba W W') : SW w W' ba bb base t us ur la' :=
  ⟨⟨ObjAt.wk h.tk.1 k (by have := h.la1; omega) (by decide), h.tk.2⟩, h1, ObjAt.wk h.fb k h.ne.symm (by decide), h.blw.trans (k.blw h.lbs (by have := h.la1; omega) h.blw.size), h.la1, h.lb1, h.ne, h.lbs, Nat.le_trans h.lz k.size⟩
theorem SW.start {w W : World} {t : TK} {us ur : Value} (h : TB w W t us ur) : SW w ((W.alloc (.cells #[.pointer none, .slice none 0 0] 156)).alloc (.cells #[.pointer none, .slice none 0 0] 156)) W.heap.size (W.heap.size + 1) (W.heap.size + 2) t us ur [] := by
  have k1 := (Below.refl W.heap.size W).alloc (Nat.le_refl _) (.cells #[.pointer none, .slice none 0 0] 156)
  have s1 : (W.alloc (.cells #[.pointer none, .slice none 0 0] 156)).heap.size = W.heap.size + 1 := by simp
  have k2 := (Below.refl _ (W.alloc (.cells #[.pointer none, .slice none 0 0] 156))).alloc (Nat.le_refl _) (.cells #[.pointer none, .slice none 0 0] 156)
  have o1 := ObjAt.made W #[.pointer none, .slice none 0 0] 156
  have o2 := ObjAt.made (W.alloc (.cells #[.pointer none, .slice none 0 0] 156)) #[.pointer none, .slice none 0 0] 156
  rw [s1] at o2
  have hlt := h.1.1.lt
  exact ⟨(h.1.below k1).below k2, WB.new (o1.below k2 o1.lt) _, o2, bstep (bstep h.2 k1) k2, hlt, by omega, by omega, by omega, by simp⟩
def WZ (N base a b : Nat) (la lb : List UInt8) (w : World) : Prop := W2 base a b la lb w ∧ ∀ p v g, w.heap[a]? = some (.cells #[p, v] 156 (0, 0)) → v.ownBlock = some g → N ≤ g
theorem WZ.below {N base a b : Nat} {la lb : List UInt8} {w w' : World} (h : WZ N base a b la lb w) (k : Below w.heap.size w w') : WZ N base a b la lb w' := by
  refine ⟨h.1.below k, fun p v g e hv => ?_⟩
  obtain ⟨p2, v2, _, h2, _⟩ := h.1.wa
  rw [k.block a (Array.getElem?_eq_some_iff.1 h2).1] at e
  exact h.2 p v g e hv
theorem wz_a {N base a b : Nat} {la lb : List UInt8} (h0 : la ≠ []) (hl : la.length ≤ 1000000000) (w : World) (h : WZ N base a b la lb w) : Calls Tryz.prog 159 #[.pointer (some ⟨a, 0, none⟩)] w fun x w' => x = .returned (.string (Str la)) ∧ WZ N base a b la lb w' ∧ Below N w w' :=
  (wtext_a w h.1 h0 hl h.2).mono fun x w' ⟨e, h1, h2, h3⟩ => ⟨e, ⟨h1, h3⟩, h2⟩
theorem wz_b {N base a b : Nat} {la lb : List UInt8} (h0 : lb ≠ []) (hl : lb.length ≤ 1000000000) (hN : N ≤ base) (w : World) (h : WZ N base a b la lb w) : Calls Tryz.prog 159 #[.pointer (some ⟨b, 0, none⟩)] w fun x w' => x = .returned (.string (Str lb)) ∧ WZ N base a b la lb w' ∧ Below N w w' :=
  (wtext_b w h.1 h0 hl hN h.2).mono fun x w' ⟨e, h1, h2, h3⟩ => ⟨e, ⟨h1, h3⟩, h2⟩
theorem SW.done {w W W' : World} {ba bb base : Nat} {t : TK} {us ur : Value} {la lb : List UInt8} (h : SW w W ba bb base t us ur la) (h1 : WB W.heap.size W' bb lb) (k : WK W.heap.size bb W W') : WZ w.heap.size W.heap.size ba bb la lb W' ∧ Below w.heap.size w W' := by
  have hlt := h.wa.lt
  have hba := k.block ba hlt h.ne (Or.inl hlt)
  refine ⟨⟨⟨h.wa.top.keep hba (fun g hg ⟨cur, fz, e⟩ => k.block g hg (fun eq => ?_) (Or.inl hg)), h1, h.ne⟩, fun p v g e hv => ?_⟩, h.blw.trans (k.blw h.blw.size (by have := h.lb1; omega) h.blw.size)⟩
  · subst eq
    have hf := h.fb
    unfold ObjAt at hf
    rw [hf] at e
    simp at e
  · rw [hba] at e
    obtain ⟨p2, v2, q1, q2, q3⟩ := h.wa
    rw [q2] at e
    simp only [Option.some.injEq, Obj.cells.injEq] at e
    have e2 : v2 = v := by have := e.1; simp at this; exact this.2
    subst e2
    have := (q3.lt g hv).1
    have := h.lbs
    omega
theorem SW.fresh {w W : World} {ba bb base : Nat} {t : TK} {us ur : Value} {la : List UInt8} (h : SW w W ba bb base t us ur la) : WB W.heap.size W bb [] := WB.new h.fb _
theorem iwrite_d (t : TK) (us ur : Value) (w : World) (ho : t.ok) (hs : Ads w us t.src) (hr : Rcs w ur t.rcs) (hL : t.rcs.length ≤ 1000) (hg : good8 t = true) (hn : ¬ (t.ver = 3 ∧ t.kind = 1) ∧ ¬ (t.ver = 3 ∧ t.kind = 2)) (hv : t.g.1 = false) :
    Calls Tryz.prog 70 #[.agg (tkC t us ur).toArray] w fun x w' => x = .returned (.tuple #[.string (Str (wrtT t)), .int .i64 0]) ∧ Below w.heap.size w w' := by
  have H0 := zh (TB.made w t us ur ho.1)
  have HG : Hid (∀ W, TB w W t us ur → Calls Tryz.prog 56 #[.agg (tkC t us ur).toArray] W fun x w' => x = .returned (.bool true) ∧ Below W.heap.size W w') := zh fun W h => by
    have := good8_any t us ur W ho (hs.below h.2) (hr.below h.2) hL
    rw [hg] at this
    exact this
  obtain ⟨hrs0, hrs1, hsc⟩ := good8_sec hg
  have hkt := kindT_le t
  have HTY := zh (fun W => typ_any t us ur W ho.1 (good8_kinds hg))
  have HRS := zh (fun W => rsp_any t us ur W ho.1 hrs0 hrs1)
  have q31 : ∀ w0, (Op.equalIn 10000 135 (.agg #[.int .i64 t.ver, .int .i64 t.kind]) (.agg #[.int .i64 3, .int .i64 1])).run Tryz.prog w0 = .ok false w0 := fun w0 => by rw [eq_shp]; congr 1; simp; omega
  have q32 : ∀ w0, (Op.equalIn 10000 135 (.agg #[.int .i64 t.ver, .int .i64 t.kind]) (.agg #[.int .i64 3, .int .i64 2])).run Tryz.prog w0 = .ok false w0 := fun w0 => by rw [eq_shp]; congr 1; simp; omega
  have HNK : Hid (∀ base b l W, WB base W b l → l.length ≤ 100000000 → base ≤ W.heap.size → Calls Tryz.prog 153 #[.pointer (some ⟨b, 0, none⟩), .int .i64 (kindT t : Nat), .int .i64 1] W fun x w' => x = .returned (.tuple #[]) ∧ WB base w' b (l ++ putL (kindT t) 1) ∧ WK base b W w') := zh fun base b l W h1 h2 h3 => wnum_any base b l (kindT t) 1 W (by omega) (by omega) h1 h2 h3
  have HNS : Hid (∀ base b l W, WB base W b l → l.length ≤ 100000000 → base ≤ W.heap.size → Calls Tryz.prog 153 #[.pointer (some ⟨b, 0, none⟩), .int .i64 (secT t : Nat), .int .i64 1] W fun x w' => x = .returned (.tuple #[]) ∧ WB base w' b (l ++ putL (secT t) 1) ∧ WK base b W w') := zh fun base b l W h1 h2 h3 => wnum_any base b l (secT t) 1 W (by omega) (by omega) h1 h2 h3
  have HCK : Hid (∀ W, TkAt W w.heap.size t us ur → row? W w.heap.size 0 26 = some (tkC t us ur) ∧ W.cell? ⟨w.heap.size, 1, none⟩ = some (.int .i64 t.ver) ∧ W.cell? ⟨w.heap.size, 2, none⟩ = some (.int .i64 t.kind) ∧ row? W w.heap.size 4 17 = some (adC t.g) ∧ W.cell? ⟨w.heap.size, 25, none⟩ = some ur) := zh fun W h => ⟨h.row, h.ver, h.kind, h.rg, h.ur⟩
  have hR : restT t = adB t.g := by unfold restT; rw [if_neg (by omega), if_neg (by omega)]
  have hlb4 : 4 ≤ (restT t).length ∧ (restT t).length ≤ 1000000 := by
    rw [hR]
    have h16 : t.g.2.length = 16 := ho.1
    unfold adB bytesV
    rw [hv]
    simp; omega
  have hlit := adsLit_run t.g ho.1
  have HLIT : Hid (∀ W b, WB W.heap.size W b [] → Calls Tryz.prog 158 #[.pointer (some ⟨b, 0, none⟩), .slice (some ⟨W.heap.size, 0, none⟩) 1 1] (W.alloc (.cells (adC t.g).toArray 24)) fun x w' => x = .returned (.tuple #[]) ∧ WB W.heap.size w' b (restT t) ∧ WK W.heap.size b W w') := zh fun W b h => by
    have hk := (Below.refl W.heap.size W).alloc (Nat.le_refl _) (.cells (adC t.g).toArray 24)
    refine (waddrs_any W.heap.size b [] _ [t.g] _ (h.below hk) (AdsK.lit ho.1 h.lt) (by simp) (by simp) hk.size).mono ?_
    rintro x w' ⟨e, h1, h2⟩
    refine ⟨e, ?_, (WK.of hk).trans h2⟩
    rw [hR]
    simpa [listL] using h1
  have hla : (headT t).length = 2 := headT_length t
  have hlne : headT t ≠ [] := fun h => by rw [h] at hla; cases hla
  have hlbne : restT t ≠ [] := fun h => by rw [h] at hlb4; simp at hlb4
  have HZA := zh (fun N base a b W h => wz_a (N := N) (base := base) (a := a) (b := b) (la := headT t) (lb := restT t) hlne (by omega) W h)
  have HZB := zh (fun N base a b (hN : N ≤ base) W h => wz_b (N := N) (base := base) (a := a) (b := b) (la := headT t) (lb := restT t) hlbne (by omega) hN W h)
  have hck : chkT t ≤ 65535 := by unfold chkT; omega
  have HP : Hid (∀ W, Calls Tryz.prog 73 #[.int .u64 (chkT t : Nat), .int .i64 2] W fun e w' => e = .returned (.string (Str (putL (chkT t) 2))) ∧ Below W.heap.size W w') := zh (fun W => putw_any (chkT t) (by omega) 2 (by omega) W)
  have hlAB : ([headT t, restT t] : List (List UInt8)).flatten.length ≤ 1048576 := by simp; omega
  have HCH : Hid (∀ W : World, Calls Tryz.prog 147 #[.slice (some ⟨W.heap.size, 0, none⟩) 2 2] (W.alloc (.cells #[.string (Str (headT t)), .string (Str (restT t))] 9)) fun e w' => e = .returned (.int .i64 (chkT t : Int)) ∧ Below W.heap.size W w') := zh fun W => by
    refine (check_own [headT t, restT t] hlAB (by simp) 0 _ _ (own_lit0 W #[.string (Str (headT t)), .string (Str (restT t))] _ 2 _ rfl (by omega) rfl)).mono ?_
    rintro e w1 ⟨rfl, d, rfl⟩
    exact ⟨by unfold chkT; simp, bdrewN ((Below.refl _ _).alloc (Nat.le_refl _) _) _⟩
  have HW : Hid (wrtT t = headT t ++ (putL (chkT t) 2 ++ restT t)) := zh rfl
  have HHD : Hid (headT t = putL (kindT t) 1 ++ putL (secT t) 1) := zh rfl
  have z2 := putL_length (chkT t) 2
  have cc1 := run_cat (P := Tryz.prog) (headT t) (putL (chkT t) 2) (by omega)
  have cc2 := run_cat (P := Tryz.prog) (headT t ++ putL (chkT t) 2) (restT t) (by rw [List.length_append]; omega)
  rw [List.append_assoc] at cc2
  have hwc : IntKind.u64.wrap ((chkT t : Nat) : Int) = ((chkT t : Nat) : Int) := by simp only [IntKind.wrap_u64]; omega
  generalize hEa : headT t = la at *
  generalize hEb : restT t = lb at *
  generalize chkT t = ck at *
  generalize putL ck 2 = pc at *
  clear hEa hEb hR hs hr hL hg hrs0 hrs1 hsc hkt ho
  go_enter Tryz.func70, Tryz.ntmps70
  go_upto_region 1 with (fail)
  generalize w.alloc (.cells (tkC t us ur).toArray 28) = W0 at H0 ⊢
  obtain ⟨c0, c1, c2, c3, c4⟩ := HCK.out _ H0.out.1
  go_upto_region 3 with (go_at_call 56; (with_reducible refine (HG.out _ H0.out).mono ?_); rintro x w1 ⟨rfl, hb1⟩; have H1 := zh (H0.out.keep hb1); clear hb1)
  have H2 := zh (SW.start H1.out)
  go_upto_region 4 with (fail)
  generalize (w1.alloc (.cells #[.pointer none, .slice none 0 0] 156)).alloc (.cells #[.pointer none, .slice none 0 0] 156) = W2 at H2 ⊢
  generalize w1.heap.size + 2 = bs at H2 ⊢
  obtain ⟨bb, hbb⟩ : ∃ bb, bb = w1.heap.size + 1 := ⟨_, rfl⟩
  rw [← hbb] at H2 ⊢
  clear hbb
  generalize w1.heap.size = ba at H2 ⊢
  clear c0 c1 c2 c3 c4
  obtain ⟨c0, c1, c2, c3, c4⟩ := HCK.out _ H2.out.tk
  go_upto_region 5 with (first
    | (go_at_call 154; (with_reducible refine (HTY.out _).mono ?_); rintro x w3 ⟨rfl, hb⟩; have H3 := zh (H2.out.below hb); clear hb)
    | (go_at_call 153; (with_reducible refine (HNK.out _ _ _ _ H3.out.wa (by simp) H3.out.lz).mono ?_); rintro x w4 ⟨rfl, h9, k9⟩; have H4 := zh (H3.out.step h9 k9); clear h9 k9 c0 c1 c2 c3 c4; obtain ⟨c0, c1, c2, c3, c4⟩ := HCK.out _ H4.out.tk))
  go_upto_region 6 with (first
    | (go_at_call 155; (with_reducible refine (HRS.out _).mono ?_); rintro x w5 ⟨rfl, hb⟩; have H5 := zh (H4.out.below hb); clear hb)
    | (go_at_call 153; (with_reducible refine (HNS.out _ _ _ _ H5.out.wa (by simp [putL_length]) H5.out.lz).mono ?_); rintro x w6 ⟨rfl, h9, k9⟩; have H6 := zh (H5.out.step h9 k9); clear h9 k9 c0 c1 c2 c3 c4; obtain ⟨c0, c1, c2, c3, c4⟩ := HCK.out _ H6.out.tk))
  have H6 := zh (show SW w w6 ba bb bs t us ur la by have := H6.out; rw [List.nil_append, ← HHD.out] at this; exact this)
  clear H2 H3 H4 H5 H0 H1
  have HFR := zh H6.out.fresh
  have HDN : Hid (∀ W', WB w6.heap.size W' bb lb → WK w6.heap.size bb w6 W' → WZ w.heap.size w6.heap.size ba bb la lb W' ∧ Below w.heap.size w W') := zh fun W' h1 h2 => H6.out.done h1 h2
  have HNB := zh H6.out.blw.size
  go_upto_region 12 with (go_at_call 158; (with_reducible refine (HLIT.out _ _ HFR.out).mono ?_); rintro x w7 ⟨rfl, h9, k9⟩; have H7 := zh (HDN.out _ h9 k9); clear h9 k9)
  go_upto_region 13 with (first
    | (go_at_call 159; (with_reducible refine (HZA.out _ _ _ _ _ H7.out.1).mono ?_); rintro x w8 ⟨rfl, h9, k9⟩; have H8 := zh (And.intro h9 (H7.out.2.trans k9)); clear h9 k9)
    | (go_at_call 159; (with_reducible refine (HZB.out _ _ _ _ HNB.out _ H8.out.1).mono ?_); rintro x w9 ⟨rfl, h9, k9⟩; have H9 := zh (And.intro h9 (H8.out.2.trans k9)); clear h9 k9)
    | (go_at_call 147; (with_reducible refine (HCH.out _).mono ?_); rintro x wa ⟨rfl, hb⟩; have HA := zh (And.intro (H9.out.1.below hb) (bstep H9.out.2 hb)); clear hb))
  go_wp2_with (first
    | (go_at_call 159; (with_reducible refine (HZA.out _ _ _ _ _ HA.out.1).mono ?_); rintro x wb ⟨rfl, h9, k9⟩; have HB := zh (And.intro h9 (HA.out.2.trans k9)); clear h9 k9)
    | (go_at_call 73; (with_reducible refine (HP.out _).mono ?_); rintro x wc ⟨rfl, hb⟩; have HC := zh (And.intro (HB.out.1.below hb) (bstep HB.out.2 hb)); clear hb)
    | (go_at_call 159; (with_reducible refine (HZB.out _ _ _ _ HNB.out _ HC.out.1).mono ?_); rintro x wd ⟨rfl, h9, k9⟩; have HD := zh (And.intro h9 (HC.out.2.trans k9)); clear h9 k9))
  go_ret2
  exact ⟨by rw [HW.out]; rfl, HD.out.2⟩
theorem iwrite_q (t : TK) (us ur : Value) (w : World) (ho : t.ok) (hs : Ads w us t.src) (hr : Rcs w ur t.rcs) (hL : t.rcs.length ≤ 1000) (hg : good8 t = true) (hv3 : t.ver = 3) (hk1 : t.kind = 1) (hr0 : 0 ≤ t.rob) (hr1 : t.rob ≤ 7) (hn : t.src.length ≤ 64) (hv : t.g.1 = false) :
    Calls Tryz.prog 70 #[.agg (tkC t us ur).toArray] w fun x w' => x = .returned (.tuple #[.string (Str (wrtT t)), .int .i64 0]) ∧ Below w.heap.size w w' := by
  have H0 := zh (TB.made w t us ur ho.1)
  have HG : Hid (∀ W, TB w W t us ur → Calls Tryz.prog 56 #[.agg (tkC t us ur).toArray] W fun x w' => x = .returned (.bool true) ∧ Below W.heap.size W w') := zh fun W h => by
    have := good8_any t us ur W ho (hs.below h.2) (hr.below h.2) hL
    rw [hg] at this
    exact this
  obtain ⟨hrs0, hrs1, hsc⟩ := good8_sec hg
  have hkt := kindT_le t
  have HTY := zh (fun W => typ_any t us ur W ho.1 (good8_kinds hg))
  have HRS := zh (fun W => rsp_any t us ur W ho.1 hrs0 hrs1)
  have q31 : ∀ w0, (Op.equalIn 10000 135 (.agg #[.int .i64 t.ver, .int .i64 t.kind]) (.agg #[.int .i64 3, .int .i64 1])).run Tryz.prog w0 = .ok true w0 := fun w0 => by rw [eq_shp]; congr 1; simp; omega
  have q32 : ∀ w0, (Op.equalIn 10000 135 (.agg #[.int .i64 t.ver, .int .i64 t.kind]) (.agg #[.int .i64 3, .int .i64 2])).run Tryz.prog w0 = .ok false w0 := fun w0 => by rw [eq_shp]; congr 1; simp; omega
  have HNK : Hid (∀ base b l W, WB base W b l → l.length ≤ 100000000 → base ≤ W.heap.size → Calls Tryz.prog 153 #[.pointer (some ⟨b, 0, none⟩), .int .i64 (kindT t : Nat), .int .i64 1] W fun x w' => x = .returned (.tuple #[]) ∧ WB base w' b (l ++ putL (kindT t) 1) ∧ WK base b W w') := zh fun base b l W h1 h2 h3 => wnum_any base b l (kindT t) 1 W (by omega) (by omega) h1 h2 h3
  have HNS : Hid (∀ base b l W, WB base W b l → l.length ≤ 100000000 → base ≤ W.heap.size → Calls Tryz.prog 153 #[.pointer (some ⟨b, 0, none⟩), .int .i64 (secT t : Nat), .int .i64 1] W fun x w' => x = .returned (.tuple #[]) ∧ WB base w' b (l ++ putL (secT t) 1) ∧ WK base b W w') := zh fun base b l W h1 h2 h3 => wnum_any base b l (secT t) 1 W (by omega) (by omega) h1 h2 h3
  have HCK : Hid (∀ W, TkAt W w.heap.size t us ur → row? W w.heap.size 0 26 = some (tkC t us ur) ∧ W.cell? ⟨w.heap.size, 1, none⟩ = some (.int .i64 t.ver) ∧ W.cell? ⟨w.heap.size, 2, none⟩ = some (.int .i64 t.kind) ∧ row? W w.heap.size 4 17 = some (adC t.g) ∧ W.cell? ⟨w.heap.size, 25, none⟩ = some ur) := zh fun W h => ⟨h.row, h.ver, h.kind, h.rg, h.ur⟩
  have hR : restT t = adB t.g ++ putL (flagT t) 1 ++ putL (codeN t.every 16 255) 1 ++ putL t.src.length 2 ++ listL t.src := by unfold restT; rw [if_neg (by omega), if_pos ⟨hk1, hv3⟩]; simp
  have hlb4 : 4 ≤ (restT t).length ∧ (restT t).length ≤ 1000000 := by
    rw [hR]
    have h16 := adB_le ho.1
    have hls := listL_le (l := t.src) ho.2.1
    simp only [List.length_append, putL_length]
    omega
  have HQ : Hid (∀ W b, WB W.heap.size W b [] → Below w.heap.size w W → w.heap.size ≤ b → Calls Tryz.prog 156 #[.pointer (some ⟨b, 0, none⟩), .agg (tkC t us ur).toArray] W fun x w' => x = .returned (.tuple #[]) ∧ WB W.heap.size w' b (restT t) ∧ WK W.heap.size b W w') := zh fun W b h hb hN => by
    cases hq : t.quiet with
    | true =>
      have := wquery_t W.heap.size b [] t us ur w W ho h hs hb hb.size hN (by simp) (Nat.le_refl _) hr0 hr1 hn hq
      rw [List.nil_append, ← hR] at this
      exact this
    | false =>
      have := wquery_f W.heap.size b [] t us ur w W ho h hs hb hb.size hN (by simp) (Nat.le_refl _) hr0 hr1 hn hq
      rw [List.nil_append, ← hR] at this
      exact this
  have hla : (headT t).length = 2 := headT_length t
  have hlne : headT t ≠ [] := fun h => by rw [h] at hla; cases hla
  have hlbne : restT t ≠ [] := fun h => by rw [h] at hlb4; simp at hlb4
  have HZA := zh (fun N base a b W h => wz_a (N := N) (base := base) (a := a) (b := b) (la := headT t) (lb := restT t) hlne (by omega) W h)
  have HZB := zh (fun N base a b (hN : N ≤ base) W h => wz_b (N := N) (base := base) (a := a) (b := b) (la := headT t) (lb := restT t) hlbne (by omega) hN W h)
  have hck : chkT t ≤ 65535 := by unfold chkT; omega
  have HP : Hid (∀ W, Calls Tryz.prog 73 #[.int .u64 (chkT t : Nat), .int .i64 2] W fun e w' => e = .returned (.string (Str (putL (chkT t) 2))) ∧ Below W.heap.size W w') := zh (fun W => putw_any (chkT t) (by omega) 2 (by omega) W)
  have hlAB : ([headT t, restT t] : List (List UInt8)).flatten.length ≤ 1048576 := by simp; omega
  have HCH : Hid (∀ W : World, Calls Tryz.prog 147 #[.slice (some ⟨W.heap.size, 0, none⟩) 2 2] (W.alloc (.cells #[.string (Str (headT t)), .string (Str (restT t))] 9)) fun e w' => e = .returned (.int .i64 (chkT t : Int)) ∧ Below W.heap.size W w') := zh fun W => by
    refine (check_own [headT t, restT t] hlAB (by simp) 0 _ _ (own_lit0 W #[.string (Str (headT t)), .string (Str (restT t))] _ 2 _ rfl (by omega) rfl)).mono ?_
    rintro e w1 ⟨rfl, d, rfl⟩
    exact ⟨by unfold chkT; simp, bdrewN ((Below.refl _ _).alloc (Nat.le_refl _) _) _⟩
  have HW : Hid (wrtT t = headT t ++ (putL (chkT t) 2 ++ restT t)) := zh rfl
  have HHD : Hid (headT t = putL (kindT t) 1 ++ putL (secT t) 1) := zh rfl
  have z2 := putL_length (chkT t) 2
  have cc1 := run_cat (P := Tryz.prog) (headT t) (putL (chkT t) 2) (by omega)
  have cc2 := run_cat (P := Tryz.prog) (headT t ++ putL (chkT t) 2) (restT t) (by rw [List.length_append]; omega)
  rw [List.append_assoc] at cc2
  have hwc : IntKind.u64.wrap ((chkT t : Nat) : Int) = ((chkT t : Nat) : Int) := by simp only [IntKind.wrap_u64]; omega
  generalize hEa : headT t = la at *
  generalize hEb : restT t = lb at *
  generalize chkT t = ck at *
  generalize putL ck 2 = pc at *
  clear hEa hEb hR hs hr hL hg hrs0 hrs1 hsc hkt ho
  go_enter Tryz.func70, Tryz.ntmps70
  go_upto_region 1 with (fail)
  generalize w.alloc (.cells (tkC t us ur).toArray 28) = W0 at H0 ⊢
  obtain ⟨c0, c1, c2, c3, c4⟩ := HCK.out _ H0.out.1
  go_upto_region 3 with (go_at_call 56; (with_reducible refine (HG.out _ H0.out).mono ?_); rintro x w1 ⟨rfl, hb1⟩; have H1 := zh (H0.out.keep hb1); clear hb1)
  have H2 := zh (SW.start H1.out)
  go_upto_region 4 with (fail)
  generalize (w1.alloc (.cells #[.pointer none, .slice none 0 0] 156)).alloc (.cells #[.pointer none, .slice none 0 0] 156) = W2 at H2 ⊢
  generalize w1.heap.size + 2 = bs at H2 ⊢
  obtain ⟨bb, hbb⟩ : ∃ bb, bb = w1.heap.size + 1 := ⟨_, rfl⟩
  rw [← hbb] at H2 ⊢
  clear hbb
  generalize w1.heap.size = ba at H2 ⊢
  clear c0 c1 c2 c3 c4
  obtain ⟨c0, c1, c2, c3, c4⟩ := HCK.out _ H2.out.tk
  go_upto_region 5 with (first
    | (go_at_call 154; (with_reducible refine (HTY.out _).mono ?_); rintro x w3 ⟨rfl, hb⟩; have H3 := zh (H2.out.below hb); clear hb)
    | (go_at_call 153; (with_reducible refine (HNK.out _ _ _ _ H3.out.wa (by simp) H3.out.lz).mono ?_); rintro x w4 ⟨rfl, h9, k9⟩; have H4 := zh (H3.out.step h9 k9); clear h9 k9 c0 c1 c2 c3 c4; obtain ⟨c0, c1, c2, c3, c4⟩ := HCK.out _ H4.out.tk))
  go_upto_region 6 with (first
    | (go_at_call 155; (with_reducible refine (HRS.out _).mono ?_); rintro x w5 ⟨rfl, hb⟩; have H5 := zh (H4.out.below hb); clear hb)
    | (go_at_call 153; (with_reducible refine (HNS.out _ _ _ _ H5.out.wa (by simp [putL_length]) H5.out.lz).mono ?_); rintro x w6 ⟨rfl, h9, k9⟩; have H6 := zh (H5.out.step h9 k9); clear h9 k9 c0 c1 c2 c3 c4; obtain ⟨c0, c1, c2, c3, c4⟩ := HCK.out _ H6.out.tk))
  have H6 := zh (show SW w w6 ba bb bs t us ur la by have := H6.out; rw [List.nil_append, ← HHD.out] at this; exact this)
  clear H2 H3 H4 H5 H0 H1
  have HFR := zh H6.out.fresh
  have HDN : Hid (∀ W', WB w6.heap.size W' bb lb → WK w6.heap.size bb w6 W' → WZ w.heap.size w6.heap.size ba bb la lb W' ∧ Below w.heap.size w W') := zh fun W' h1 h2 => H6.out.done h1 h2
  have HNB := zh H6.out.blw.size
  have HNb := zh (show w.heap.size ≤ bb by have := H6.out.lb1; omega)
  go_upto_region 12 with (go_at_call 156; (with_reducible refine (HQ.out _ _ HFR.out H6.out.blw HNb.out).mono ?_); rintro x w7 ⟨rfl, h9, k9⟩; have H7 := zh (HDN.out _ h9 k9); clear h9 k9)
  go_upto_region 13 with (first
    | (go_at_call 159; (with_reducible refine (HZA.out _ _ _ _ _ H7.out.1).mono ?_); rintro x w8 ⟨rfl, h9, k9⟩; have H8 := zh (And.intro h9 (H7.out.2.trans k9)); clear h9 k9)
    | (go_at_call 159; (with_reducible refine (HZB.out _ _ _ _ HNB.out _ H8.out.1).mono ?_); rintro x w9 ⟨rfl, h9, k9⟩; have H9 := zh (And.intro h9 (H8.out.2.trans k9)); clear h9 k9)
    | (go_at_call 147; (with_reducible refine (HCH.out _).mono ?_); rintro x wa ⟨rfl, hb⟩; have HA := zh (And.intro (H9.out.1.below hb) (bstep H9.out.2 hb)); clear hb))
  go_wp2_with (first
    | (go_at_call 159; (with_reducible refine (HZA.out _ _ _ _ _ HA.out.1).mono ?_); rintro x wb ⟨rfl, h9, k9⟩; have HB := zh (And.intro h9 (HA.out.2.trans k9)); clear h9 k9)
    | (go_at_call 73; (with_reducible refine (HP.out _).mono ?_); rintro x wc ⟨rfl, hb⟩; have HC := zh (And.intro (HB.out.1.below hb) (bstep HB.out.2 hb)); clear hb)
    | (go_at_call 159; (with_reducible refine (HZB.out _ _ _ _ HNB.out _ HC.out.1).mono ?_); rintro x wd ⟨rfl, h9, k9⟩; have HD := zh (And.intro h9 (HC.out.2.trans k9)); clear h9 k9))
  go_ret2
  exact ⟨by rw [HW.out]; rfl, HD.out.2⟩
theorem iwrite_r (t : TK) (us ur : Value) (w : World) (ho : t.ok) (hs : Ads w us t.src) (hr : Rcs w ur t.rcs) (hL : t.rcs.length ≤ 1000) (hg : good8 t = true) (hv3 : t.ver = 3) (hk2 : t.kind = 2) (hn : t.rcs.length ≤ 64) (hok : t.rcs.all recOk = true) :
    Calls Tryz.prog 70 #[.agg (tkC t us ur).toArray] w fun x w' => x = .returned (.tuple #[.string (Str (wrtT t)), .int .i64 0]) ∧ Below w.heap.size w w' := by
  have H0 := zh (TB.made w t us ur ho.1)
  have HG : Hid (∀ W, TB w W t us ur → Calls Tryz.prog 56 #[.agg (tkC t us ur).toArray] W fun x w' => x = .returned (.bool true) ∧ Below W.heap.size W w') := zh fun W h => by
    have := good8_any t us ur W ho (hs.below h.2) (hr.below h.2) hL
    rw [hg] at this
    exact this
  obtain ⟨hrs0, hrs1, hsc⟩ := good8_sec hg
  have hkt := kindT_le t
  have HTY := zh (fun W => typ_any t us ur W ho.1 (good8_kinds hg))
  have HRS := zh (fun W => rsp_any t us ur W ho.1 hrs0 hrs1)
  have q31 : ∀ w0, (Op.equalIn 10000 135 (.agg #[.int .i64 t.ver, .int .i64 t.kind]) (.agg #[.int .i64 3, .int .i64 1])).run Tryz.prog w0 = .ok false w0 := fun w0 => by rw [eq_shp]; congr 1; simp; omega
  have q32 : ∀ w0, (Op.equalIn 10000 135 (.agg #[.int .i64 t.ver, .int .i64 t.kind]) (.agg #[.int .i64 3, .int .i64 2])).run Tryz.prog w0 = .ok true w0 := fun w0 => by rw [eq_shp]; congr 1; simp; omega
  have HNK : Hid (∀ base b l W, WB base W b l → l.length ≤ 100000000 → base ≤ W.heap.size → Calls Tryz.prog 153 #[.pointer (some ⟨b, 0, none⟩), .int .i64 (kindT t : Nat), .int .i64 1] W fun x w' => x = .returned (.tuple #[]) ∧ WB base w' b (l ++ putL (kindT t) 1) ∧ WK base b W w') := zh fun base b l W h1 h2 h3 => wnum_any base b l (kindT t) 1 W (by omega) (by omega) h1 h2 h3
  have HNS : Hid (∀ base b l W, WB base W b l → l.length ≤ 100000000 → base ≤ W.heap.size → Calls Tryz.prog 153 #[.pointer (some ⟨b, 0, none⟩), .int .i64 (secT t : Nat), .int .i64 1] W fun x w' => x = .returned (.tuple #[]) ∧ WB base w' b (l ++ putL (secT t) 1) ∧ WK base b W w') := zh fun base b l W h1 h2 h3 => wnum_any base b l (secT t) 1 W (by omega) (by omega) h1 h2 h3
  have HCK : Hid (∀ W, TkAt W w.heap.size t us ur → row? W w.heap.size 0 26 = some (tkC t us ur) ∧ W.cell? ⟨w.heap.size, 1, none⟩ = some (.int .i64 t.ver) ∧ W.cell? ⟨w.heap.size, 2, none⟩ = some (.int .i64 t.kind) ∧ row? W w.heap.size 4 17 = some (adC t.g) ∧ W.cell? ⟨w.heap.size, 25, none⟩ = some ur) := zh fun W h => ⟨h.row, h.ver, h.kind, h.rg, h.ur⟩
  have hR : restT t = putL 0 2 ++ putL t.rcs.length 2 ++ wrecsB t.rcs := by unfold restT wrecsB; rw [if_pos ⟨hk2, hv3⟩, putL_four _ (by omega)]
  have hlb4 : 4 ≤ (restT t).length ∧ (restT t).length ≤ 1000000 := by
    rw [hR]
    have h3 := wrecsB_le t.rcs ho.2.2 (fun r hr => by
      have h1 := List.all_eq_true.1 hok r hr
      unfold recOk at h1
      rw [Bool.and_eq_true] at h1
      have := srcs8_len h1.2
      omega)
    simp only [List.length_append, putL_length]
    omega
  have HQ : Hid (∀ W b, WB W.heap.size W b [] → Below w.heap.size w W → w.heap.size ≤ b → Calls Tryz.prog 157 #[.pointer (some ⟨b, 0, none⟩), ur] W fun x w' => x = .returned (.tuple #[]) ∧ WB W.heap.size w' b (restT t) ∧ WK W.heap.size b W w') := zh fun W b h hb hN => by
    have := wreport_any W.heap.size b [] ur t.rcs w W h hr hb hb.size hN (by simp) (Nat.le_refl _) hn hok
    rw [List.nil_append, ← hR] at this
    exact this
  have hla : (headT t).length = 2 := headT_length t
  have hlne : headT t ≠ [] := fun h => by rw [h] at hla; cases hla
  have hlbne : restT t ≠ [] := fun h => by rw [h] at hlb4; simp at hlb4
  have HZA := zh (fun N base a b W h => wz_a (N := N) (base := base) (a := a) (b := b) (la := headT t) (lb := restT t) hlne (by omega) W h)
  have HZB := zh (fun N base a b (hN : N ≤ base) W h => wz_b (N := N) (base := base) (a := a) (b := b) (la := headT t) (lb := restT t) hlbne (by omega) hN W h)
  have hck : chkT t ≤ 65535 := by unfold chkT; omega
  have HP : Hid (∀ W, Calls Tryz.prog 73 #[.int .u64 (chkT t : Nat), .int .i64 2] W fun e w' => e = .returned (.string (Str (putL (chkT t) 2))) ∧ Below W.heap.size W w') := zh (fun W => putw_any (chkT t) (by omega) 2 (by omega) W)
  have hlAB : ([headT t, restT t] : List (List UInt8)).flatten.length ≤ 1048576 := by simp; omega
  have HCH : Hid (∀ W : World, Calls Tryz.prog 147 #[.slice (some ⟨W.heap.size, 0, none⟩) 2 2] (W.alloc (.cells #[.string (Str (headT t)), .string (Str (restT t))] 9)) fun e w' => e = .returned (.int .i64 (chkT t : Int)) ∧ Below W.heap.size W w') := zh fun W => by
    refine (check_own [headT t, restT t] hlAB (by simp) 0 _ _ (own_lit0 W #[.string (Str (headT t)), .string (Str (restT t))] _ 2 _ rfl (by omega) rfl)).mono ?_
    rintro e w1 ⟨rfl, d, rfl⟩
    exact ⟨by unfold chkT; simp, bdrewN ((Below.refl _ _).alloc (Nat.le_refl _) _) _⟩
  have HW : Hid (wrtT t = headT t ++ (putL (chkT t) 2 ++ restT t)) := zh rfl
  have HHD : Hid (headT t = putL (kindT t) 1 ++ putL (secT t) 1) := zh rfl
  have z2 := putL_length (chkT t) 2
  have cc1 := run_cat (P := Tryz.prog) (headT t) (putL (chkT t) 2) (by omega)
  have cc2 := run_cat (P := Tryz.prog) (headT t ++ putL (chkT t) 2) (restT t) (by rw [List.length_append]; omega)
  rw [List.append_assoc] at cc2
  have hwc : IntKind.u64.wrap ((chkT t : Nat) : Int) = ((chkT t : Nat) : Int) := by simp only [IntKind.wrap_u64]; omega
  generalize hEa : headT t = la at *
  generalize hEb : restT t = lb at *
  generalize chkT t = ck at *
  generalize putL ck 2 = pc at *
  clear hEa hEb hR hs hr hL hg hrs0 hrs1 hsc hkt ho
  go_enter Tryz.func70, Tryz.ntmps70
  go_upto_region 1 with (fail)
  generalize w.alloc (.cells (tkC t us ur).toArray 28) = W0 at H0 ⊢
  obtain ⟨c0, c1, c2, c3, c4⟩ := HCK.out _ H0.out.1
  go_upto_region 3 with (go_at_call 56; (with_reducible refine (HG.out _ H0.out).mono ?_); rintro x w1 ⟨rfl, hb1⟩; have H1 := zh (H0.out.keep hb1); clear hb1)
  have H2 := zh (SW.start H1.out)
  go_upto_region 4 with (fail)
  generalize (w1.alloc (.cells #[.pointer none, .slice none 0 0] 156)).alloc (.cells #[.pointer none, .slice none 0 0] 156) = W2 at H2 ⊢
  generalize w1.heap.size + 2 = bs at H2 ⊢
  obtain ⟨bb, hbb⟩ : ∃ bb, bb = w1.heap.size + 1 := ⟨_, rfl⟩
  rw [← hbb] at H2 ⊢
  clear hbb
  generalize w1.heap.size = ba at H2 ⊢
  clear c0 c1 c2 c3 c4
  obtain ⟨c0, c1, c2, c3, c4⟩ := HCK.out _ H2.out.tk
  go_upto_region 5 with (first
    | (go_at_call 154; (with_reducible refine (HTY.out _).mono ?_); rintro x w3 ⟨rfl, hb⟩; have H3 := zh (H2.out.below hb); clear hb)
    | (go_at_call 153; (with_reducible refine (HNK.out _ _ _ _ H3.out.wa (by simp) H3.out.lz).mono ?_); rintro x w4 ⟨rfl, h9, k9⟩; have H4 := zh (H3.out.step h9 k9); clear h9 k9 c0 c1 c2 c3 c4; obtain ⟨c0, c1, c2, c3, c4⟩ := HCK.out _ H4.out.tk))
  go_upto_region 6 with (first
    | (go_at_call 155; (with_reducible refine (HRS.out _).mono ?_); rintro x w5 ⟨rfl, hb⟩; have H5 := zh (H4.out.below hb); clear hb)
    | (go_at_call 153; (with_reducible refine (HNS.out _ _ _ _ H5.out.wa (by simp [putL_length]) H5.out.lz).mono ?_); rintro x w6 ⟨rfl, h9, k9⟩; have H6 := zh (H5.out.step h9 k9); clear h9 k9 c0 c1 c2 c3 c4; obtain ⟨c0, c1, c2, c3, c4⟩ := HCK.out _ H6.out.tk))
  have H6 := zh (show SW w w6 ba bb bs t us ur la by have := H6.out; rw [List.nil_append, ← HHD.out] at this; exact this)
  clear H2 H3 H4 H5 H0 H1
  have HFR := zh H6.out.fresh
  have HDN : Hid (∀ W', WB w6.heap.size W' bb lb → WK w6.heap.size bb w6 W' → WZ w.heap.size w6.heap.size ba bb la lb W' ∧ Below w.heap.size w W') := zh fun W' h1 h2 => H6.out.done h1 h2
  have HNB := zh H6.out.blw.size
  have HNb := zh (show w.heap.size ≤ bb by have := H6.out.lb1; omega)
  go_upto_region 12 with (go_at_call 157; (with_reducible refine (HQ.out _ _ HFR.out H6.out.blw HNb.out).mono ?_); rintro x w7 ⟨rfl, h9, k9⟩; have H7 := zh (HDN.out _ h9 k9); clear h9 k9)
  go_upto_region 13 with (first
    | (go_at_call 159; (with_reducible refine (HZA.out _ _ _ _ _ H7.out.1).mono ?_); rintro x w8 ⟨rfl, h9, k9⟩; have H8 := zh (And.intro h9 (H7.out.2.trans k9)); clear h9 k9)
    | (go_at_call 159; (with_reducible refine (HZB.out _ _ _ _ HNB.out _ H8.out.1).mono ?_); rintro x w9 ⟨rfl, h9, k9⟩; have H9 := zh (And.intro h9 (H8.out.2.trans k9)); clear h9 k9)
    | (go_at_call 147; (with_reducible refine (HCH.out _).mono ?_); rintro x wa ⟨rfl, hb⟩; have HA := zh (And.intro (H9.out.1.below hb) (bstep H9.out.2 hb)); clear hb))
  go_wp2_with (first
    | (go_at_call 159; (with_reducible refine (HZA.out _ _ _ _ _ HA.out.1).mono ?_); rintro x wb ⟨rfl, h9, k9⟩; have HB := zh (And.intro h9 (HA.out.2.trans k9)); clear h9 k9)
    | (go_at_call 73; (with_reducible refine (HP.out _).mono ?_); rintro x wc ⟨rfl, hb⟩; have HC := zh (And.intro (HB.out.1.below hb) (bstep HB.out.2 hb)); clear hb)
    | (go_at_call 159; (with_reducible refine (HZB.out _ _ _ _ HNB.out _ HC.out.1).mono ?_); rintro x wd ⟨rfl, h9, k9⟩; have HD := zh (And.intro h9 (HC.out.2.trans k9)); clear h9 k9))
  go_ret2
  exact ⟨by rw [HW.out]; rfl, HD.out.2⟩
theorem TK.eta2 {t : TK} {v k : Int} (h1 : t.ver = v) (h2 : t.kind = k) : t = ⟨t.v6, v, k, t.resp, t.g, t.quiet, t.rob, t.every, t.src, t.rcs⟩ := by subst h1 h2; rfl
theorem targ8_v {a : AD} (h : targ8 a = true) : a.1 = false := by
  unfold targ8 at h
  rw [Bool.or_eq_true, decide_eq_true_iff] at h
  rcases h with rfl | h
  · rfl
  · exact (grp8_parts h).1
theorem write8_bad (t : TK) (us ur : Value) (w : World) (ho : t.ok) (hs : Ads w us t.src) (hr : Rcs w ur t.rcs) (hL : t.rcs.length ≤ 1000) (hg : good8 t = false) : Calls Tryz.prog 70 #[.agg (tkC t us ur).toArray] w fun x w' => x = .returned (.tuple #[.string (Str []), .int .i64 2]) ∧ Below w.heap.size w w' := by
  have H0 := zh (TB.made w t us ur ho.1)
  have HG : Hid (∀ W, TB w W t us ur → Calls Tryz.prog 56 #[.agg (tkC t us ur).toArray] W fun x w' => x = .returned (.bool false) ∧ Below W.heap.size W w') := zh fun W h => by
    have := good8_any t us ur W ho (hs.below h.2) (hr.below h.2) hL
    rw [hg] at this
    exact this
  have HCK : Hid (∀ W, TkAt W w.heap.size t us ur → row? W w.heap.size 0 26 = some (tkC t us ur)) := zh fun W h => h.row
  clear hs hr hL hg ho
  go_enter Tryz.func70, Tryz.ntmps70
  go_upto_region 1 with (fail)
  generalize w.alloc (.cells (tkC t us ur).toArray 28) = W0 at H0 ⊢
  have c0 := HCK.out _ H0.out.1
  go_wp2_with (go_at_call 56; (with_reducible refine (HG.out _ H0.out).mono ?_); rintro x w1 ⟨rfl, hb1⟩; have H1 := zh (H0.out.keep hb1); clear hb1)
  go_ret2
  exact ⟨rfl, H1.out.2⟩
theorem write8_any (t : TK) (us ur : Value) (w : World) (ho : t.ok) (hs : Ads w us t.src) (hr : Rcs w ur t.rcs) (hL : t.rcs.length ≤ 1000) : Calls Tryz.prog 70 #[.agg (tkC t us ur).toArray] w fun x w' => x = .returned (.tuple #[.string (Str (if good8 t then wrtT t else [])), .int .i64 (if good8 t then 0 else 2)]) ∧ Below w.heap.size w w' := by
  cases hg : good8 t with
  | false => exact write8_bad t us ur w ho hs hr hL hg
  | true =>
    have hg2 := hg
    have hk := good8_kinds hg
    simp only [if_true]
    by_cases h31 : t.ver = 3 ∧ t.kind = 1
    · have e : t = ⟨t.v6, 3, 1, t.resp, t.g, t.quiet, t.rob, t.every, t.src, t.rcs⟩ := TK.eta2 h31.1 h31.2
      rw [e, g8_31] at hg2
      simp only [Bool.and_eq_true, decide_eq_true_iff] at hg2
      have hn := srcs8_len hg2.1.1.2
      exact iwrite_q t us ur w ho hs hr hL hg h31.1 h31.2 hg2.1.1.1.1.2.1 hg2.1.1.1.1.2.2 (by omega) (targ8_v hg2.1.1.1.2)
    by_cases h32 : t.ver = 3 ∧ t.kind = 2
    · have e : t = ⟨t.v6, 3, 2, t.resp, t.g, t.quiet, t.rob, t.every, t.src, t.rcs⟩ := TK.eta2 h32.1 h32.2
      rw [e, g8_32] at hg2
      unfold recs8 at hg2
      simp only [Bool.and_eq_true, decide_eq_true_iff] at hg2
      exact iwrite_r t us ur w ho hs hr hL hg h32.1 h32.2 (by omega) hg2.1.2.1
    refine iwrite_d t us ur w ho hs hr hL hg ⟨h31, h32⟩ ?_
    rcases hk with ⟨h1, h2⟩ | ⟨h1, h2⟩ | ⟨h1, h2⟩ | ⟨h1, h2⟩ | ⟨h1, h2⟩ | h1 | h1
    · have e : t = ⟨t.v6, 1, 1, t.resp, t.g, t.quiet, t.rob, t.every, t.src, t.rcs⟩ := TK.eta2 h1 h2
      rw [e, g8_11, Bool.true_and, decide_eq_true_iff, TK.mk.injEq] at hg2
      rw [hg2.2.2.2.2.1]; rfl
    · have e : t = ⟨t.v6, 2, 1, t.resp, t.g, t.quiet, t.rob, t.every, t.src, t.rcs⟩ := TK.eta2 h1 h2
      rw [e, g8_21] at hg2
      simp only [Bool.and_eq_true] at hg2
      exact targ8_v hg2.1.2
    · have e : t = ⟨t.v6, 1, 2, t.resp, t.g, t.quiet, t.rob, t.every, t.src, t.rcs⟩ := TK.eta2 h1 h2
      rw [e, g8_12 t.v6 1 2 (by omega), Bool.and_eq_true] at hg2
      exact (grp8_parts hg2.1).1
    · have e : t = ⟨t.v6, 2, 2, t.resp, t.g, t.quiet, t.rob, t.every, t.src, t.rcs⟩ := TK.eta2 h1 h2
      rw [e, g8_12 t.v6 2 2 (by omega), Bool.and_eq_true] at hg2
      exact (grp8_parts hg2.1).1
    · have e : t = ⟨t.v6, 2, 3, t.resp, t.g, t.quiet, t.rob, t.every, t.src, t.rcs⟩ := TK.eta2 h1 h2
      rw [e, g8_12 t.v6 2 3 (by omega), Bool.and_eq_true] at hg2
      exact (grp8_parts hg2.1).1
    · exact absurd h1 h31
    · exact absurd h1 h32
end Go.Proofs.YtlbdehegknehiaaGreat

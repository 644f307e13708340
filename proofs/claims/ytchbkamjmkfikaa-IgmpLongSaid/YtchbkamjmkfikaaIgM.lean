/-
  The contracts of igmp's parser's member, queryMore, query.
-/
import Derived.Test.YtchbkamjmkfikaaIgT
namespace Go.Proofs.Ytchbkamjmkfikaa
open Go.RowKit
set_option linter.unusedVariables false
set_option linter.unusedSimpArgs false
attribute [local go_sem ↓] ld_addr st_addr bld_addr ld_tk st_tk bld_tk
attribute [local go_sem] ldr_addr str_addr str_addr_at ldr_tk str_tk row?_drew_eq

theorem bldr_vka (ver kind : Int) (a : AD) (ho : adOk a) (w : World) : (aggBuild 29 #[(1, .int .i64 ver), (2, .int .i64 kind), (4, .agg (adC a).toArray)]).run Try.prog w = .ok (.agg (tkC ⟨false, ver, kind, 0, a, false, 0, 0, [], []⟩ (.slice none 0 0) (.slice none 0 0)).toArray) w := by
  obtain ⟨v, l⟩ := a
  obtain ⟨b0, b1, b2, b3, b4, b5, b6, b7, b8, b9, ba, bb, bc, bd, be, bf, e⟩ := list16 (show l.length = 16 from ho)
  subst e
  exact bld_run _ _ _ (by kernel_rfl) _
theorem bldr_vkr (ver kind resp : Int) (w : World) : (aggBuild 29 #[(1, .int .i64 ver), (2, .int .i64 kind), (3, .int .i64 resp)]).run Try.prog w = .ok (.agg (tkC ⟨false, ver, kind, resp, zeroA, false, 0, 0, [], []⟩ (.slice none 0 0) (.slice none 0 0)).toArray) w := bld_run _ _ _ (by kernel_rfl) _
theorem RcT.far {w w' : World} {v : Value} {l : List RC} {m : Nat} {L : Array Value} {T : TypeId} (h : RcT w v l) (hm : ObjAt w m L T) (h1 : T ≠ 25) (h2 : T ≠ 64) (hg : w.grownBy w' (some m)) : RcT w' v l := by
  obtain ⟨base, q, h3, h4⟩ := h
  exact ⟨base, q, h3.far hm h1 h2 hg, h4⟩
/-- The parser boxed, the result's block, a talk that is filled. -/
structure QM (w W : World) (b0 bp rr m : Nat) (l : List UInt8) (k : Nat) (bad : Bool) (t : TK) (us ur : Value) : Prop where
  rd : RdAt W b0 l k bad
  pp : ObjAt W bp #[.pointer (some ⟨b0, 0, none⟩)] 46
  res : ObjAt W rr #[.bool false, .int .i64 0, .int .i64 0, .int .i64 0, .bool false, .int .u8 0, .int .u8 0, .int .u8 0, .int .u8 0, .int .u8 0, .int .u8 0, .int .u8 0, .int .u8 0, .int .u8 0, .int .u8 0, .int .u8 0, .int .u8 0, .int .u8 0, .int .u8 0, .int .u8 0, .int .u8 0, .bool false, .int .i64 0, .int .i64 0, .slice none 0 0, .slice none 0 0] 29
  tk : TkAt W m t us ur
  src : AdsT W us t.src
  rcs : RcT W ur t.rcs
  frm : w.grownBy W (some b0)
  lp : w.heap.size ≤ bp
  lr : w.heap.size ≤ rr
  lm : w.heap.size ≤ m
  n1 : bp ≠ m
  n2 : rr ≠ m
  n3 : rr ≠ bp
  l0 : b0 < w.heap.size
theorem QM.below {w W : World} {b0 bp rr m : Nat} {l : List UInt8} {k : Nat} {bad : Bool} {t : TK} {us ur : Value} {W' : World} (h : QM w W b0 bp rr m l k bad t us ur) (hb : Below W.heap.size W W') : QM w W' b0 bp rr m l k bad t us ur :=
  ⟨ObjAt.below h.rd hb (ObjAt.lt h.rd), h.pp.below hb h.pp.lt, h.res.below hb h.res.lt, h.tk.below hb, h.src.below hb, h.rcs.below hb, qbelow h.frm (hb.mono h.frm.size), h.lp, h.lr, h.lm, h.n1, h.n2, h.n3, h.l0⟩
theorem QM.call {w W : World} {b0 bp rr m : Nat} {l : List UInt8} {k : Nat} {bad : Bool} {t : TK} {us ur : Value} {W' : World} {l' : List UInt8} {k' : Nat} {bad' : Bool} (h : QM w W b0 bp rr m l k bad t us ur) (hr : RdAt W' b0 l' k' bad') (hg : W.grownBy W' (some b0)) : QM w W' b0 bp rr m l' k' bad' t us ur := by
  have l0 := h.l0; have lp := h.lp; have lr := h.lr; have lm := h.lm
  exact ⟨hr, ObjAt.grown h.pp hg (by simp; omega), ObjAt.grown h.res hg (by simp; omega), ⟨ObjAt.grown h.tk.1 hg (by simp; omega), h.tk.2⟩, h.src.far h.rd (by decide) hg, h.rcs.far h.rd (by decide) (by decide) hg, gtrans h.frm hg, h.lp, h.lr, h.lm, h.n1, h.n2, h.n3, h.l0⟩
theorem QM.set {w W : World} {b0 bp rr m : Nat} {l : List UInt8} {k : Nat} {bad : Bool} {t : TK} {us ur : Value} {t' : TK} {us' ur' : Value} (h : QM w W b0 bp rr m l k bad t us ur) (j : Nat) (v : Value) (e : (tkC t us ur).set j v = tkC t' us' ur') (ho : adOk t'.g) (hs : AdsT W us' t'.src) (hr : RcT W ur' t'.rcs) : QM w (W.setCell ⟨m, j, none⟩ v) b0 bp rr m l k bad t' us' ur' := by
  have l0 := h.l0; have lm := h.lm
  have h1 : ObjAt (W.setCell ⟨m, j, none⟩ v) m (tkC t' us' ur').toArray 29 := by
    have := ObjAt.set h.tk.1 j v
    rw [List.setIfInBounds_toArray, e] at this
    exact this
  exact ⟨ObjAt.other h.rd _ _ (by simp; omega), ObjAt.other h.pp _ _ (by simpa using h.n1), ObjAt.other h.res _ _ (by simpa using h.n2), ⟨h1, ho⟩, hs.far h.tk.1 (by decide) (gset W m j v), hr.far h.tk.1 (by decide) (by decide) (gset W m j v), qbelow h.frm ((Below.refl _ _).setCell (p := ⟨m, j, none⟩) (by simpa using lm) v), h.lp, h.lr, h.lm, h.n1, h.n2, h.n3, h.l0⟩
theorem QM.grp {w W : World} {b0 bp rr m : Nat} {l : List UInt8} {k : Nat} {bad : Bool} {t : TK} {us ur : Value} (h : QM w W b0 bp rr m l k bad t us ur) (a : AD) (ha : adOk a) : QM w (aggO W m 4 (adC a)) b0 bp rr m l k bad ⟨t.v6, t.ver, t.kind, t.resp, a, t.quiet, t.rob, t.every, t.src, t.rcs⟩ us ur := by
  have l0 := h.l0; have lm := h.lm
  have l1 := tkC_length h.tk.2 us ur
  have h1 := aggO_obj (o := 4) (cs := adC a) h.tk.1 (by rw [l1, adC_length ha]; omega) (addrC_one _ _)
  rw [tkC_grp t us ur h.tk.2 a ha] at h1
  have hg : W.grownBy (aggO W m 4 (adC a)) (some m) := by rw [aggO_eq]; exact setCells_grown m _ 4 W
  exact ⟨aggO_other h.rd _ (by omega), aggO_other h.pp _ h.n1, aggO_other h.res _ h.n2, ⟨h1, ha⟩, h.src.far h.tk.1 (by decide) hg, h.rcs.far h.tk.1 (by decide) (by decide) hg, qbelow h.frm (aggO_below (Below.refl _ _) lm _ _), h.lp, h.lr, h.lm, h.n1, h.n2, h.n3, h.l0⟩
/-- What is read of it. -/
def QMC (W : World) (b0 bp rr m : Nat) (t : TK) (us ur : Value) : Prop :=
  W.cell? ⟨bp, 0, none⟩ = some (.pointer (some ⟨b0, 0, none⟩)) ∧ W.cell? ⟨m, 1, none⟩ = some (.int .i64 t.ver) ∧ W.cell? ⟨m, 3, none⟩ = some (.int .i64 t.resp) ∧ row? W m 4 17 = some (adC t.g) ∧ W.cell? ⟨m, 21, none⟩ = some (.bool t.quiet) ∧ W.cell? ⟨m, 22, none⟩ = some (.int .i64 t.rob) ∧ W.cell? ⟨m, 23, none⟩ = some (.int .i64 t.every) ∧ W.cell? ⟨m, 24, none⟩ = some us ∧ row? W m 0 26 = some (tkC t us ur) ∧ free? W rr 0 26 = true ∧ free? W m 4 17 = true ∧ fok (tkC t us ur).toArray 26 = true ∧ (∀ j, W.frozen? ⟨m, j, none⟩ = false)
theorem QM.c {w W : World} {b0 bp rr m : Nat} {l : List UInt8} {k : Nat} {bad : Bool} {t : TK} {us ur : Value} (h : QM w W b0 bp rr m l k bad t us ur) : QMC W b0 bp rr m t us ur :=
  ⟨by rw [ObjAt.cell h.pp]; rfl, h.tk.ver, h.tk.resp, h.tk.rg, h.tk.quiet, h.tk.rob, h.tk.every, h.tk.us, h.tk.row, obj_free h.res (by simp), free_of fun j hj => by
    refine ⟨?_, ObjAt.free h.tk.1 (4 + j)⟩
    rw [ObjAt.cell h.tk.1 (4 + j), Array.getElem?_eq_getElem (by simp [tkC_length h.tk.2]; omega)]; rfl, fok_tk h.tk.2 h.src.1.one h.rcs.rcs.one, fun j => ObjAt.free h.tk.1 j⟩
/-- What a parser of talks tells. -/
def TalkQ (w W' : World) (b0 : Nat) (e : Int) (t : TK) (x : Ending) : Prop := ∃ us ur, x = .returned (.tuple #[.agg (tkC t us ur).toArray, .int .i64 e]) ∧ AdsT W' us t.src ∧ RcT W' ur t.rcs ∧ w.grownBy W' (some b0) ∧ adOk t.g
theorem QM.done {w W : World} {b0 bp rr m : Nat} {l : List UInt8} {k : Nat} {bad : Bool} {t : TK} {us ur : Value} (h : QM w W b0 bp rr m l k bad t us ur) : row? (aggW W rr (tkC t us ur)) rr 0 26 = some (tkC t us ur) ∧ AdsT (aggW W rr (tkC t us ur)) us t.src ∧ RcT (aggW W rr (tkC t us ur)) ur t.rcs ∧ w.grownBy (aggW W rr (tkC t us ur)) (some b0) ∧ adOk t.g :=
  ⟨aggW_row (obj_free h.res (by simp)) (tkC_length h.tk.2 _ _), h.src.far h.res (by decide) (aggW_grown _ _ _), h.rcs.far h.res (by decide) (by decide) (aggW_grown _ _ _), qbelow h.frm (aggW_below (Below.refl _ _) h.lr _), h.tk.2⟩
theorem P0T.qm {w W : World} {b0 : Nat} {l : List UInt8} {k : Nat} {bad : Bool} (h : P0T w W b0 l k bad) (t : TK) (ho : adOk t.g) (hs : t.src = []) (hr : t.rcs = []) : QM w (aggW (W.alloc (.cells #[.bool false, .int .i64 0, .int .i64 0, .int .i64 0, .bool false, .int .u8 0, .int .u8 0, .int .u8 0, .int .u8 0, .int .u8 0, .int .u8 0, .int .u8 0, .int .u8 0, .int .u8 0, .int .u8 0, .int .u8 0, .int .u8 0, .int .u8 0, .int .u8 0, .int .u8 0, .int .u8 0, .bool false, .int .i64 0, .int .i64 0, .slice none 0 0, .slice none 0 0] 29)) W.heap.size (tkC t (.slice none 0 0) (.slice none 0 0))) b0 w.heap.size (w.heap.size + 1) W.heap.size l k bad t (.slice none 0 0) (.slice none 0 0) := by
  have hm := TM.made (w := W) (t := t) (Below.refl _ _) ho (by rw [hs]; exact Ads.nil W) (by rw [hr]; exact Rcs.nil W)
  have h2 := h.below hm.blw
  have l1 := h.pb.pp.lt
  have l2 := h.res.lt
  exact ⟨h2.pb.rd, h2.pb.pp, h2.res, hm.tk, by rw [hs]; exact AdsT.nil _, by rw [hr]; exact RcT.nil _, h2.pb.frm, Nat.le_refl _, by omega, by omega, by omega, by omega, by omega, h2.pb.lt⟩
set_option maxRecDepth 100000 in
set_option maxHeartbeats 4000000 in
theorem pmember_any (ver kind : Int) (w : World) (b0 : Nat) (s : List UInt8) (hs : s.length ≤ 100000) (h8 : 8 ≤ s.length) (h : RdAt w b0 (s.drop 1) 1 false) :
    Calls Try.prog 18 #[pv b0, .int .i64 ver, .int .i64 kind] w fun x W' => TalkQ w W' b0 (if grp8 (fourL s 4) then 0 else 2) ⟨false, ver, kind, 0, fourL s 4, false, 0, 0, [], []⟩ x := by
  have H0 := Lib.hid (P0T.start h)
  have HT1 : Hid (∀ W, RdAt W b0 (s.drop 1) 1 false → Calls Try.prog 55 #[.pointer (some ⟨b0, 0, none⟩), .int .i64 1] W fun x w' => x = .returned (.string (Str ((s.drop 1).take 1))) ∧ RdAt w' b0 (s.drop 2) 2 false ∧ W.grownBy w' (some b0)) := Lib.hid fun W h => PTk b0 s 1 1 (by omega) (by omega) W h
  have HC : Hid (∀ W, RdAt W b0 (s.drop 2) 2 false → Calls Try.prog 50 #[pv b0] W fun x w' => x = .returned (.tuple #[]) ∧ RdAt w' b0 (s.drop 4) 4 false ∧ W.grownBy w' (some b0)) := Lib.hid fun W h => pchk_good b0 s 2 (by omega) (by omega) W h
  have HA : Hid (PAdr b0 (s.drop 4) 4 false (fourL s 4) (s.drop 8) 8 false) := Lib.hid (paddr_good b0 s 4 (by omega) (by omega))
  have hoa := fourL_ok s 4
  have hbk := bldr_vka ver kind (fourL s 4) hoa
  have hfk : fok (tkC ⟨false, ver, kind, 0, fourL s 4, false, 0, 0, [], []⟩ (.slice none 0 0) (.slice none 0 0)).toArray 26 = true := fok_tk hoa rfl rfl
  have HG := Lib.hid (fun W => group8_any (fourL s 4) hoa W)
  have HOA := Lib.hid hoa
  generalize fourL s 4 = a at *
  generalize grp8 a = g at *
  clear h hoa
  go_enter Try.func18, Try.ntmps18
  go_upto_region 1 with (fail)
  generalize (w.alloc (.cells #[.pointer (some ⟨b0, 0, none⟩)] 46)).alloc (.cells #[.bool false, .int .i64 0, .int .i64 0, .int .i64 0, .bool false, .int .u8 0, .int .u8 0, .int .u8 0, .int .u8 0, .int .u8 0, .int .u8 0, .int .u8 0, .int .u8 0, .int .u8 0, .int .u8 0, .int .u8 0, .int .u8 0, .int .u8 0, .int .u8 0, .int .u8 0, .int .u8 0, .bool false, .int .i64 0, .int .i64 0, .slice none 0 0, .slice none 0 0] 29) = W at H0 ⊢
  have c0 := H0.out.pb.c
  go_upto_region 2 with (go_at_call 55; (with_reducible refine (HT1.out _ H0.out.pb.rd).mono ?_); rintro x w2 ⟨rfl, h9, k9⟩; have H2 := Lib.hid (H0.out.call h9 k9); clear h9 k9 c0; have c0 := H2.out.pb.c)
  go_upto_region 3 with (go_at_call 50; (with_reducible refine (HC.out _ H2.out.pb.rd).mono ?_); rintro x w3 ⟨rfl, h9, k9⟩; have H3 := Lib.hid (H2.out.call h9 k9); clear h9 k9 c0; have c0 := H3.out.pb.c)
  have hfm := hfm26
  go_upto_region 4 with (go_at_call 51; (with_reducible refine (HA.out _ H3.out.pb.rd).mono ?_); rintro x w4 ⟨rfl, h9, k9⟩; have H4 := Lib.hid (H3.out.call h9 k9); clear h9 k9 c0; have c0 := H4.out.pb.c)
  have H5 := Lib.hid (H4.out.qm ⟨false, ver, kind, 0, a, false, 0, 0, [], []⟩ HOA.out rfl rfl)
  generalize aggW (w4.alloc (.cells #[.bool false, .int .i64 0, .int .i64 0, .int .i64 0, .bool false, .int .u8 0, .int .u8 0, .int .u8 0, .int .u8 0, .int .u8 0, .int .u8 0, .int .u8 0, .int .u8 0, .int .u8 0, .int .u8 0, .int .u8 0, .int .u8 0, .int .u8 0, .int .u8 0, .int .u8 0, .int .u8 0, .bool false, .int .i64 0, .int .i64 0, .slice none 0 0, .slice none 0 0] 29)) w4.heap.size _ = w5 at H5 ⊢
  generalize w4.heap.size = m at H5 ⊢
  clear hfm hfk hbk H0 H2 H3 H4 c0
  obtain ⟨k1, k2, k3, k4, k5, k6, k7, k8, k9, ka, kb, kc, kd⟩ := H5.out.c; (try simp only at k2 k3 k4 k5 k6 k7 k8)
  cases g with
  | false =>
    go_upto_region 5 with (go_at_call 29; (with_reducible refine (HG.out _).mono ?_); rintro x w6 ⟨rfl, hb⟩; have H6 := Lib.hid (H5.out.below hb); clear hb; clear k1 k2 k3 k4 k5 k6 k7 k8 k9 ka kb kc kd; obtain ⟨k1, k2, k3, k4, k5, k6, k7, k8, k9, ka, kb, kc, kd⟩ := H6.out.c; (try simp only at k2 k3 k4 k5 k6 k7 k8))
    repeat (first | go_values | go_skip | go_guarded | go_step | go_upon | go_in)
    obtain ⟨q1, q2, q3, q4, q5⟩ := H6.out.done
    exact bodyPost_ret (results_cell2 Try.results18 rfl (ld_some q1 (ldr_tk _ _ _))) rfl ⟨_, _, rfl, q2, q3, q4, q5⟩
  | true =>
    go_upto_region 6 with (go_at_call 29; (with_reducible refine (HG.out _).mono ?_); rintro x w6 ⟨rfl, hb⟩; have H6 := Lib.hid (H5.out.below hb); clear hb; clear k1 k2 k3 k4 k5 k6 k7 k8 k9 ka kb kc kd; obtain ⟨k1, k2, k3, k4, k5, k6, k7, k8, k9, ka, kb, kc, kd⟩ := H6.out.c; (try simp only at k2 k3 k4 k5 k6 k7 k8))
    repeat (first | go_values | go_skip | go_guarded | go_step | go_upon | go_in)
    obtain ⟨q1, q2, q3, q4, q5⟩ := H6.out.done
    exact bodyPost_ret (results_cell2 Try.results18 rfl (ld_some q1 (ldr_tk _ _ _))) rfl ⟨_, _, rfl, q2, q3, q4, q5⟩
end Go.Proofs.Ytchbkamjmkfikaa

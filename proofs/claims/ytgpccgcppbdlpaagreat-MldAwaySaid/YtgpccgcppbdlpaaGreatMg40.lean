/-
  Texts joined: MgM, MgN.
-/
import Derived.Test.YtgpccgcppbdlpaaGreatMgS
/-
  The contract of mld's member.
-/
namespace Go.Proofs.YtgpccgcppbdlpaaGreat
open Go.RowKit
set_option linter.unusedVariables false
set_option linter.unusedSimpArgs false
attribute [local go_sem ↓] ld_addr st_addr bld_addr ld_tk st_tk bld_tk
attribute [local go_sem] ldr_addr str_addr str_addr_at ldr_tk str_tk row?_drew_eq

theorem bldr_vka9 (ver kind : Int) (a : AD) (ho : adOk a) (w : World) : (aggBuild 28 #[(0, .bool true), (1, .int .i64 ver), (2, .int .i64 kind), (4, .agg (adC a).toArray)]).run Tryz.prog w = .ok (.agg (tkC ⟨true, ver, kind, 0, a, false, 0, 0, [], []⟩ (.slice none 0 0) (.slice none 0 0)).toArray) w := by
  obtain ⟨v, l⟩ := a
  obtain ⟨b0, b1, b2, b3, b4, b5, b6, b7, b8, b9, ba, bb, bc, bd, be, bf, e⟩ := list16 (show l.length = 16 from ho)
  subst e
  exact bld_run _ _ _ (by kernel_rfl) _
theorem bldr_vkr9 (ver kind resp : Int) (w : World) : (aggBuild 28 #[(0, .bool true), (1, .int .i64 ver), (2, .int .i64 kind), (3, .int .i64 resp)]).run Tryz.prog w = .ok (.agg (tkC ⟨true, ver, kind, resp, zeroA, false, 0, 0, [], []⟩ (.slice none 0 0) (.slice none 0 0)).toArray) w := bld_run _ _ _ (by kernel_rfl) _
theorem RcT.far9 {w w' : World} {v : Value} {l : List RC} {m : Nat} {L : Array Value} {T : TypeId} (h : RcT w v l) (hm : ObjAt w m L T) (h1 : T ≠ 24) (h2 : T ≠ 62) (hg : w.grownBy w' (some m)) : RcT w' v l := by
  obtain ⟨base, q, h3, h4⟩ := h
  exact ⟨base, q, h3.far9 hm h1 h2 hg, h4⟩
/-- The result's block, a talk that is filled. -/
structure QM9 (w W : World) (b0 rr m : Nat) (l : List UInt8) (k : Nat) (bad : Bool) (t : TK) (us ur : Value) : Prop where
  rd : RdAt W b0 l k bad
  res : ObjAt W rr #[.bool false, .int .i64 0, .int .i64 0, .int .i64 0, .bool false, .int .u8 0, .int .u8 0, .int .u8 0, .int .u8 0, .int .u8 0, .int .u8 0, .int .u8 0, .int .u8 0, .int .u8 0, .int .u8 0, .int .u8 0, .int .u8 0, .int .u8 0, .int .u8 0, .int .u8 0, .int .u8 0, .bool false, .int .i64 0, .int .i64 0, .slice none 0 0, .slice none 0 0] 28
  tk : TkAt W m t us ur
  src : AdsT W us t.src
  rcs : RcT W ur t.rcs
  frm : w.grownBy W (some b0)
  lr : w.heap.size ≤ rr
  lm : w.heap.size ≤ m
  n2 : rr ≠ m
  l0 : b0 < w.heap.size
theorem QM9.below {w W : World} {b0 rr m : Nat} {l : List UInt8} {k : Nat} {bad : Bool} {t : TK} {us ur : Value} {W' : World} (h : QM9 w W b0 rr m l k bad t us ur) (hb : Below W.heap.size W W') : QM9 w W' b0 rr m l k bad t us ur :=
  ⟨ObjAt.below h.rd hb (ObjAt.lt h.rd), h.res.below hb h.res.lt, h.tk.below hb, h.src.below hb, h.rcs.below hb, qbelow h.frm (hb.mono h.frm.size), h.lr, h.lm, h.n2, h.l0⟩
theorem QM9.call {w W : World} {b0 rr m : Nat} {l : List UInt8} {k : Nat} {bad : Bool} {t : TK} {us ur : Value} {W' : World} {l' : List UInt8} {k' : Nat} {bad' : Bool} (h : QM9 w W b0 rr m l k bad t us ur) (hr : RdAt W' b0 l' k' bad') (hg : W.grownBy W' (some b0)) : QM9 w W' b0 rr m l' k' bad' t us ur := by
  have l0 := h.l0; have lr := h.lr; have lm := h.lm
  exact ⟨hr, ObjAt.grown h.res hg (by simp; omega), ⟨ObjAt.grown h.tk.1 hg (by simp; omega), h.tk.2⟩, h.src.far9 h.rd (by decide) hg, h.rcs.far9 h.rd (by decide) (by decide) hg, gtrans h.frm hg, h.lr, h.lm, h.n2, h.l0⟩
theorem QM9.set {w W : World} {b0 rr m : Nat} {l : List UInt8} {k : Nat} {bad : Bool} {t : TK} {us ur : Value} {t' : TK} {us' ur' : Value} (h : QM9 w W b0 rr m l k bad t us ur) (j : Nat) (v : Value) (e : (tkC t us ur).set j v = tkC t' us' ur') (ho : adOk t'.g) (hs : AdsT W us' t'.src) (hr : RcT W ur' t'.rcs) : QM9 w (W.setCell ⟨m, j, none⟩ v) b0 rr m l k bad t' us' ur' := by
  have l0 := h.l0; have lm := h.lm
  have h1 : ObjAt (W.setCell ⟨m, j, none⟩ v) m (tkC t' us' ur').toArray 28 := by
    have := ObjAt.set h.tk.1 j v
    rw [List.setIfInBounds_toArray, e] at this
    exact this
  exact ⟨ObjAt.other h.rd _ _ (by simp; omega), ObjAt.other h.res _ _ (by simpa using h.n2), ⟨h1, ho⟩, hs.far9 h.tk.1 (by decide) (gset W m j v), hr.far9 h.tk.1 (by decide) (by decide) (gset W m j v), qbelow h.frm ((Below.refl _ _).setCell (p := ⟨m, j, none⟩) (by simpa using lm) v), h.lr, h.lm, h.n2, h.l0⟩
theorem tkC_grpx (t : TK) (us ur : Value) (ho : adOk t.g) (a : AD) (ha : adOk a) : over (tkC t us ur) 4 (adC a) = tkC ⟨t.v6, t.ver, t.kind, t.resp, a, t.quiet, t.rob, t.every, t.src, t.rcs⟩ us ur := tkC_grp t us ur ho a ha
theorem QM9.grp {w W : World} {b0 rr m : Nat} {l : List UInt8} {k : Nat} {bad : Bool} {t : TK} {us ur : Value} (h : QM9 w W b0 rr m l k bad t us ur) (a : AD) (ha : adOk a) : QM9 w (aggO W m 4 (adC a)) b0 rr m l k bad ⟨t.v6, t.ver, t.kind, t.resp, a, t.quiet, t.rob, t.every, t.src, t.rcs⟩ us ur := by
  have l0 := h.l0; have lm := h.lm
  have l1 := tkC_length h.tk.2 us ur
  have h1 := aggO_obj (o := 4) (cs := adC a) h.tk.1 (by rw [l1, adC_length ha]; omega) (addrC_one _ _)
  rw [tkC_grpx t us ur h.tk.2 a ha] at h1
  have hg : W.grownBy (aggO W m 4 (adC a)) (some m) := by rw [aggO_eq]; exact setCells_grown m _ 4 W
  exact ⟨aggO_other h.rd _ (by omega), aggO_other h.res _ h.n2, ⟨h1, ha⟩, h.src.far9 h.tk.1 (by decide) hg, h.rcs.far9 h.tk.1 (by decide) (by decide) hg, qbelow h.frm (aggO_below (Below.refl _ _) lm _ _), h.lr, h.lm, h.n2, h.l0⟩
/-- What is read of it. -/
def QMC9 (W : World) (rr m : Nat) (t : TK) (us ur : Value) : Prop :=
  W.cell? ⟨m, 1, none⟩ = some (.int .i64 t.ver) ∧ W.cell? ⟨m, 3, none⟩ = some (.int .i64 t.resp) ∧ row? W m 4 17 = some (adC t.g) ∧ W.cell? ⟨m, 21, none⟩ = some (.bool t.quiet) ∧ W.cell? ⟨m, 22, none⟩ = some (.int .i64 t.rob) ∧ W.cell? ⟨m, 23, none⟩ = some (.int .i64 t.every) ∧ W.cell? ⟨m, 24, none⟩ = some us ∧ row? W m 0 26 = some (tkC t us ur) ∧ free? W rr 0 26 = true ∧ free? W m 4 17 = true ∧ fok (tkC t us ur).toArray 26 = true ∧ (∀ j, W.frozen? ⟨m, j, none⟩ = false)
theorem QM9.c {w W : World} {b0 rr m : Nat} {l : List UInt8} {k : Nat} {bad : Bool} {t : TK} {us ur : Value} (h : QM9 w W b0 rr m l k bad t us ur) : QMC9 W rr m t us ur :=
  ⟨h.tk.ver, h.tk.resp, h.tk.rg, h.tk.quiet, h.tk.rob, h.tk.every, h.tk.us, h.tk.row, obj_free h.res (by simp), free_of fun j hj => by
    refine ⟨?_, ObjAt.free h.tk.1 (4 + j)⟩
    rw [ObjAt.cell h.tk.1 (4 + j), Array.getElem?_eq_getElem (by simp [tkC_length h.tk.2]; omega)]; rfl, fok_tk h.tk.2 h.src.1.one h.rcs.rcs.one, fun j => ObjAt.free h.tk.1 j⟩
theorem QM9.done {w W : World} {b0 rr m : Nat} {l : List UInt8} {k : Nat} {bad : Bool} {t : TK} {us ur : Value} (h : QM9 w W b0 rr m l k bad t us ur) : row? (aggW W rr (tkC t us ur)) rr 0 26 = some (tkC t us ur) ∧ AdsT (aggW W rr (tkC t us ur)) us t.src ∧ RcT (aggW W rr (tkC t us ur)) ur t.rcs ∧ w.grownBy (aggW W rr (tkC t us ur)) (some b0) ∧ adOk t.g :=
  ⟨aggW_row (obj_free h.res (by simp)) (tkC_length h.tk.2 _ _), h.src.far9 h.res (by decide) (aggW_grown _ _ _), h.rcs.far9 h.res (by decide) (by decide) (aggW_grown _ _ _), qbelow h.frm (aggW_below (Below.refl _ _) h.lr _), h.tk.2⟩
theorem P0T9.qm {w W : World} {b0 : Nat} {l : List UInt8} {k : Nat} {bad : Bool} (h : P0T9 w W b0 l k bad) (t : TK) (ho : adOk t.g) (hs : t.src = []) (hr : t.rcs = []) : QM9 w (aggW (W.alloc (.cells #[.bool false, .int .i64 0, .int .i64 0, .int .i64 0, .bool false, .int .u8 0, .int .u8 0, .int .u8 0, .int .u8 0, .int .u8 0, .int .u8 0, .int .u8 0, .int .u8 0, .int .u8 0, .int .u8 0, .int .u8 0, .int .u8 0, .int .u8 0, .int .u8 0, .int .u8 0, .int .u8 0, .bool false, .int .i64 0, .int .i64 0, .slice none 0 0, .slice none 0 0] 28)) W.heap.size (tkC t (.slice none 0 0) (.slice none 0 0))) b0 w.heap.size W.heap.size l k bad t (.slice none 0 0) (.slice none 0 0) := by
  have hm := TM.made (w := W) (t := t) (Below.refl _ _) ho (by rw [hs]; exact Ads.nil W) (by rw [hr]; exact Rcs.nil W)
  have h2 := h.below hm.blw
  have l2 := h.res.lt
  exact ⟨h2.rd, h2.res, hm.tk, by rw [hs]; exact AdsT.nil _, by rw [hr]; exact RcT.nil _, h2.frm, by omega, by omega, by omega, h2.l0⟩
/-- What a part of a reader tells: R's error, and its talk if there is none. -/
def PartV (w W' : World) (b0 : Nat) (R : TK × Int) (x : Ending) : Prop := ∃ (us ur : Value) (e : Int) (t : TK), x = .returned (.tuple #[.agg (tkC t us ur).toArray, .int .i64 e]) ∧ AdsT W' us t.src ∧ RcT W' ur t.rcs ∧ w.grownBy W' (some b0) ∧ adOk t.g ∧ e = R.2 ∧ (e = 0 → t = R.1)
set_option maxRecDepth 100000 in
set_option maxHeartbeats 4000000 in
theorem m9mem_core (kind : Int) (w : World) (b0 : Nat) (s : List UInt8) (hs : s.length ≤ 100000) (h8 : 8 ≤ s.length) (h : RdAt w b0 (s.drop 4) 0 false) (a : AD) (l' : List UInt8) (k' : Nat) (bad' g : Bool) (hA : RAdr b0 (s.drop 8) 4 false a l' k' bad') (hoa : adOk a) (hg : grp9 a = g) (R : TK × Int)
    (h1 : bad' = true → R.2 = 3) (h2 : bad' = false → g = false → R.2 = 2) (h3 : bad' = false → g = true → R = (⟨true, 1, kind, 0, a, false, 0, 0, [], []⟩, 0)) :
    Calls Tryz.prog 46 #[rp b0, .int .i64 kind] w fun x W' => PartV w W' b0 R x := by
  have HS0 := Lib.hid (P0T9.start h)
  have HT : Hid (RTk b0 (s.drop 4) 0 false 4 (s.drop 8) 4 false) := Lib.hid (rtk_good b0 s 4 0 4 (by omega) (by omega) (by omega))
  have HA := Lib.hid hA
  have HBD := Lib.hid (fun W (h : RdAt W b0 l' k' bad') => bad_any b0 l' k' bad' W h)
  have hbk := bldr_vka9 1 kind a hoa
  have hfk : fok (tkC ⟨true, 1, kind, 0, a, false, 0, 0, [], []⟩ (.slice none 0 0) (.slice none 0 0)).toArray 26 = true := fok_tk hoa rfl rfl
  have HG := Lib.hid (fun W => group9_any a hoa W)
  rw [hg] at HG
  have HOA := Lib.hid hoa
  have HR := Lib.hid (And.intro h1 (And.intro h2 h3))
  clear h hoa hA hg h1 h2 h3 hs h8
  go_enter Tryz.func46, Tryz.ntmps46
  go_upto_region 1 with (fail)
  generalize w.alloc (.cells #[.bool false, .int .i64 0, .int .i64 0, .int .i64 0, .bool false, .int .u8 0, .int .u8 0, .int .u8 0, .int .u8 0, .int .u8 0, .int .u8 0, .int .u8 0, .int .u8 0, .int .u8 0, .int .u8 0, .int .u8 0, .int .u8 0, .int .u8 0, .int .u8 0, .int .u8 0, .int .u8 0, .bool false, .int .i64 0, .int .i64 0, .slice none 0 0, .slice none 0 0] 28) = W at HS0 ⊢
  go_upto_region 2 with (go_at_call 82; (with_reducible refine (HT.out _ HS0.out.rd).mono ?_); rintro x w2 ⟨⟨tt, rfl⟩, h9, k9⟩; have H2 := Lib.hid (HS0.out.call h9 k9); clear h9 k9)
  have hfm := hfm26
  go_upto_region 3 with (go_at_call 83; (with_reducible refine (HA.out _ H2.out.rd).mono ?_); rintro x w4 ⟨rfl, h9, k9⟩; have H4 := Lib.hid (H2.out.call h9 k9); clear h9 k9)
  have H5 := Lib.hid (H4.out.qm ⟨true, 1, kind, 0, a, false, 0, 0, [], []⟩ HOA.out rfl rfl)
  generalize aggW (w4.alloc (.cells #[.bool false, .int .i64 0, .int .i64 0, .int .i64 0, .bool false, .int .u8 0, .int .u8 0, .int .u8 0, .int .u8 0, .int .u8 0, .int .u8 0, .int .u8 0, .int .u8 0, .int .u8 0, .int .u8 0, .int .u8 0, .int .u8 0, .int .u8 0, .int .u8 0, .int .u8 0, .int .u8 0, .bool false, .int .i64 0, .int .i64 0, .slice none 0 0, .slice none 0 0] 28)) w4.heap.size _ = w5 at H5 ⊢
  generalize w4.heap.size = m at H5 ⊢
  clear hfm hfk hbk HS0 H2 H4
  obtain ⟨k2, k3, k4, k5, k6, k7, k8, k9, ka, kb, kc, kd⟩ := H5.out.c; (try simp only at k2 k3 k4 k5 k6 k7 k8)
  cases bad' with
  | true =>
    have HE := Lib.hid (HR.out.1 rfl)
    go_upto_region 4 with (go_at_call 84; (with_reducible refine (HBD.out _ H5.out.rd).mono ?_); rintro x w6 ⟨rfl, hw⟩; subst hw)
    repeat (first | go_values | go_skip | go_guarded | go_step | go_upon | go_in)
    obtain ⟨q1, q2, q3, q4, q5⟩ := H5.out.done
    exact bodyPost_ret (results_cell2 Tryz.results46 rfl (ld_some q1 (ldr_tk _ _ _))) rfl ⟨_, _, 3, (⟨true, 1, kind, 0, a, false, 0, 0, [], []⟩ : TK), rfl, q2, q3, q4, q5, HE.out.symm, fun h => by simp at h⟩
  | false =>
    cases g with
    | false =>
      have HE := Lib.hid (HR.out.2.1 rfl rfl)
      go_upto_region 6 with (first | (go_at_call 84; (with_reducible refine (HBD.out _ H5.out.rd).mono ?_); rintro x w6 ⟨rfl, hw⟩; subst hw) | (go_at_call 27; (with_reducible refine (HG.out _).mono ?_); rintro x w7 ⟨rfl, hb⟩; have H6 := Lib.hid (H5.out.below hb); clear hb; clear k2 k3 k4 k5 k6 k7 k8 k9 ka kb kc kd; obtain ⟨k2, k3, k4, k5, k6, k7, k8, k9, ka, kb, kc, kd⟩ := H6.out.c; (try simp only at k2 k3 k4 k5 k6 k7 k8)))
      repeat (first | go_values | go_skip | go_guarded | go_step | go_upon | go_in)
      obtain ⟨q1, q2, q3, q4, q5⟩ := H6.out.done
      exact bodyPost_ret (results_cell2 Tryz.results46 rfl (ld_some q1 (ldr_tk _ _ _))) rfl ⟨_, _, 2, (⟨true, 1, kind, 0, a, false, 0, 0, [], []⟩ : TK), rfl, q2, q3, q4, q5, HE.out.symm, fun h => by simp at h⟩
    | true =>
      have HE := Lib.hid (HR.out.2.2 rfl rfl)
      go_upto_region 7 with (first | (go_at_call 84; (with_reducible refine (HBD.out _ H5.out.rd).mono ?_); rintro x w6 ⟨rfl, hw⟩; subst hw) | (go_at_call 27; (with_reducible refine (HG.out _).mono ?_); rintro x w7 ⟨rfl, hb⟩; have H6 := Lib.hid (H5.out.below hb); clear hb; clear k2 k3 k4 k5 k6 k7 k8 k9 ka kb kc kd; obtain ⟨k2, k3, k4, k5, k6, k7, k8, k9, ka, kb, kc, kd⟩ := H6.out.c; (try simp only at k2 k3 k4 k5 k6 k7 k8)))
      repeat (first | go_values | go_skip | go_guarded | go_step | go_upon | go_in)
      obtain ⟨q1, q2, q3, q4, q5⟩ := H6.out.done
      exact bodyPost_ret (results_cell2 Tryz.results46 rfl (ld_some q1 (ldr_tk _ _ _))) rfl ⟨_, _, 0, (⟨true, 1, kind, 0, a, false, 0, 0, [], []⟩ : TK), rfl, q2, q3, q4, q5, by rw [HE.out], fun _ => by rw [HE.out]⟩
/-- member on a report or a leave. -/
theorem m9member_any (kind : Nat) (hk : kind = 2 ∨ kind = 3) (w : World) (b0 : Nat) (s : List UInt8) (hs : s.length ≤ 100000) (h8 : 8 ≤ s.length) (hc : by8 s 0 = 129 + kind) (h : RdAt w b0 (s.drop 4) 0 false) :
    Calls Tryz.prog 46 #[rp b0, .int .i64 kind] w fun x W' => PartV w W' b0 (one9 s) x := by
  by_cases hl : 24 ≤ s.length
  · refine m9mem_core kind w b0 s hs h8 h _ _ _ _ _ (radr_good b0 s 8 4 (by omega) hl (by omega)) (sixL_ok s 8) rfl _ (fun h => by cases h) (fun _ hg => ?_) (fun _ hg => ?_)
    · unfold one9
      rw [if_neg (by omega), if_neg (by omega), if_pos ⟨hg, Or.inl (by omega)⟩]
    · unfold one9
      rw [if_neg (by omega), if_neg (by omega), if_neg (fun h => by rw [hg] at h; cases h.1), if_pos (by omega), hc]
      rw [show ((129 + kind : Nat) : Int) - 129 = (kind : Int) by omega]
  · obtain ⟨a, p, ho⟩ := radr_bad b0 (s.drop 8) 4 false (by simp; omega) (by omega) (Or.inr (by simp; omega))
    refine m9mem_core kind w b0 s hs h8 h a _ _ _ _ p ho rfl _ (fun _ => ?_) (fun h => by cases h) (fun h => by cases h)
    unfold one9
    rw [if_pos (by omega)]
end Go.Proofs.YtgpccgcppbdlpaaGreat

/-
  The contract of mld's queryMore.
-/
namespace Go.Proofs.YtgpccgcppbdlpaaGreat
open Go.RowKit
set_option linter.unusedVariables false
set_option linter.unusedSimpArgs false
attribute [local go_sem ↓] ld_addr st_addr bld_addr ld_tk st_tk bld_tk
attribute [local go_sem] ldr_addr str_addr str_addr_at ldr_tk str_tk row?_drew_eq

attribute [local go_sem] row?_drewN_eq
theorem pbits9_any (n f w0 r : Nat) (hn : n < 256) (hr : bitsN n f w0 = r) (w : World) : Calls Tryz.prog 99 #[.int .u64 n, .int .i64 f, .int .i64 w0] w fun e w' => e = .returned (.int .u64 r) ∧ ∃ k, w' = w.drewN k := by
  have := bits_any n (by omega) f w0 w
  rw [hr] at this
  exact this
theorem QM9.drewN {w W : World} {b0 rr m : Nat} {l : List UInt8} {k : Nat} {bad : Bool} {t : TK} {us ur : Value} (h : QM9 w W b0 rr m l k bad t us ur) (d : Nat) : QM9 w (W.drewN d) b0 rr m l k bad t us ur := h.below (bdrewN (Below.refl _ _) d)
theorem QM9.startm {w : World} {b0 : Nat} {l : List UInt8} {k : Nat} {bad : Bool} {t : TK} {us ur : Value} (h : RdAt w b0 l k bad) (ho : adOk t.g) (hs : AdsT w us t.src) (hr : RcT w ur t.rcs) : QM9 w ((w.alloc (.cells (tkC t us ur).toArray 28)).alloc (.cells #[.bool false, .int .i64 0, .int .i64 0, .int .i64 0, .bool false, .int .u8 0, .int .u8 0, .int .u8 0, .int .u8 0, .int .u8 0, .int .u8 0, .int .u8 0, .int .u8 0, .int .u8 0, .int .u8 0, .int .u8 0, .int .u8 0, .int .u8 0, .int .u8 0, .int .u8 0, .int .u8 0, .bool false, .int .i64 0, .int .i64 0, .slice none 0 0, .slice none 0 0] 28)) b0 (w.heap.size + 1) w.heap.size l k bad t us ur := by
  have s1 : (w.alloc (.cells (tkC t us ur).toArray 28)).heap.size = w.heap.size + 1 := by simp
  have k2 := (Below.refl w.heap.size w).alloc (Nat.le_refl _) (.cells (tkC t us ur).toArray 28)
  have k3 := (Below.refl _ (w.alloc (.cells (tkC t us ur).toArray 28))).alloc (Nat.le_refl _) (.cells #[.bool false, .int .i64 0, .int .i64 0, .int .i64 0, .bool false, .int .u8 0, .int .u8 0, .int .u8 0, .int .u8 0, .int .u8 0, .int .u8 0, .int .u8 0, .int .u8 0, .int .u8 0, .int .u8 0, .int .u8 0, .int .u8 0, .int .u8 0, .int .u8 0, .int .u8 0, .int .u8 0, .bool false, .int .i64 0, .int .i64 0, .slice none 0 0, .slice none 0 0] 28)
  have ht := ObjAt.made w (tkC t us ur).toArray 28
  have hz := ObjAt.made (w.alloc (.cells (tkC t us ur).toArray 28)) #[.bool false, .int .i64 0, .int .i64 0, .int .i64 0, .bool false, .int .u8 0, .int .u8 0, .int .u8 0, .int .u8 0, .int .u8 0, .int .u8 0, .int .u8 0, .int .u8 0, .int .u8 0, .int .u8 0, .int .u8 0, .int .u8 0, .int .u8 0, .int .u8 0, .int .u8 0, .int .u8 0, .bool false, .int .i64 0, .int .i64 0, .slice none 0 0, .slice none 0 0] 28
  rw [s1] at hz
  have hl := ObjAt.lt h
  exact ⟨ObjAt.alloc (ObjAt.alloc h _) _, hz, ⟨ht.below k3 ht.lt, ho⟩, (hs.below k2).below k3, (hr.below k2).below k3, qof (bstep k2 k3), by omega, by omega, by omega, hl⟩
/-- What queryMore tells. -/
def more9 (s : List UInt8) (g : AD) : TK × Int := (⟨true, 2, 1, valN (wd s 4) 4096, g, decide (by8 s 24 / 8 % 2 = 1), (by8 s 24 % 8 : Nat), valN (by8 s 25) 16, srcsL9 s 28 (wd s 26), []⟩, if zer9 g = true ∧ 0 < wd s 26 then 2 else srcsE9 s 28 (wd s 26))
set_option maxRecDepth 100000 in
set_option maxHeartbeats 4000000 in
theorem m9more_any (g : AD) (hog : adOk g) (w : World) (b0 : Nat) (s : List UInt8) (hs : s.length ≤ 100000) (h28 : 28 ≤ s.length) (h : RdAt w b0 (s.drop 24) 20 false) :
    Calls Tryz.prog 85 #[rp b0, .agg (tkC ⟨true, 1, 1, (wd s 4 : Nat), g, false, 0, 0, [], []⟩ (.slice none 0 0) (.slice none 0 0)).toArray] w fun x W' => PartV w W' b0 (more9 s g) x := by
  have HS0 := Lib.hid (QM9.startm (t := ⟨true, 1, 1, (wd s 4 : Nat), g, false, 0, 0, [], []⟩) h hog (AdsT.nil w) (RcT.nil w))
  have f0 := wd_lt s 4 (by omega)
  have f1 := by8_lt s 24
  have f2 := by8_lt s 25
  have f3 := wd_lt s 26 (by omega)
  have HN1 : Hid (∀ W, RdAt W b0 (s.drop 24) 20 false → Calls Tryz.prog 102 #[.pointer (some ⟨b0, 0, none⟩), .int .i64 1] W fun x w' => x = .returned (.int .u64 (by8 s 24)) ∧ RdAt w' b0 (s.drop 25) 21 false ∧ W.grownBy w' (some b0)) := Lib.hid fun W h => by
    have := numq_any b0 (s.drop 24) 20 false 1 (by omega) (by simp; omega) (by omega) W h
    obtain ⟨e1, e2, e3, e4⟩ := rd_good (l := s.drop 24) (n := 1) (k := 20) (by simp; omega)
    rw [e1, e2, e3, e4, List.drop_drop, num_by89 s 24 (by omega)] at this
    exact this
  have HN2 : Hid (RNum b0 (s.drop 25) 21 false 1 (by8 s 25) (s.drop 26) 22 false) := Lib.hid (by
    have := rnum_good b0 s 25 21 1 (by omega) (by omega) (by omega) (by omega)
    rw [num_by89 s 25 (by omega)] at this
    exact this)
  have HN3 : Hid (RNum b0 (s.drop 26) 22 false 2 (wd s 26) (s.drop 28) 24 false) := Lib.hid (rnum_good b0 s 26 22 2 (by omega) (by omega) (by omega) (by omega))
  have HB1 : Hid (∀ W, Calls Tryz.prog 99 #[.int .u64 (by8 s 24 : Nat), .int .i64 3, .int .i64 1] W fun e w' => e = .returned (.int .u64 (by8 s 24 / 8 % 2 : Nat)) ∧ ∃ k, w' = W.drewN k) := Lib.hid fun W => pbits9_any (by8 s 24) 3 1 _ f1 rfl W
  have HB2 : Hid (∀ W, Calls Tryz.prog 99 #[.int .u64 (by8 s 24 : Nat), .int .i64 0, .int .i64 3] W fun e w' => e = .returned (.int .u64 (by8 s 24 % 8 : Nat)) ∧ ∃ k, w' = W.drewN k) := Lib.hid fun W => pbits9_any (by8 s 24) 0 3 _ f1 (by show by8 s 24 / 2 ^ 0 % 2 ^ 3 = _; simp) W
  have HV8 : Hid (∀ W, Calls Tryz.prog 71 #[.int .i64 (by8 s 25 : Nat)] W fun x w' => x = .returned (.int .i64 (valN (by8 s 25) 16)) ∧ Below W.heap.size W w') := Lib.hid fun W => by
    have := value8_any (by8 s 25 : Nat) W
    rw [show clampN (by8 s 25 : Nat) 255 = by8 s 25 by unfold clampN; split <;> omega] at this
    exact this
  have HV16 : Hid (∀ W, Calls Tryz.prog 70 #[.int .i64 (wd s 4 : Nat)] W fun x w' => x = .returned (.int .i64 (valN (wd s 4) 4096)) ∧ Below W.heap.size W w') := Lib.hid fun W => by
    have := value16_any (wd s 4 : Nat) W
    rw [show clampN (wd s 4 : Nat) 65535 = wd s 4 by unfold clampN; split <;> omega] at this
    exact this
  have HZ := Lib.hid (fun W => zero9p_any g hog W)
  have HSR := Lib.hid (fun W h => m9sources_any b0 s 28 24 (wd s 26) hs (by omega) (by omega) (by omega) W h)
  have hq1 : ∀ f : Nat, ((f : Int) == 1) = decide (f = 1) := fun f => by rw [Bool.eq_iff_iff]; simp; omega
  have hq2 := hq1 (by8 s 24 / 8 % 2)
  have hw8 : IntKind.i64.wrap ((by8 s 24 % 8 : Nat) : Int) = ((by8 s 24 % 8 : Nat) : Int) := by simp only [IntKind.wrap_i64]; omega
  have HT : Hid (more9 s g = (⟨true, 2, 1, valN (wd s 4) 4096, g, decide (by8 s 24 / 8 % 2 = 1), (by8 s 24 % 8 : Nat), valN (by8 s 25) 16, srcsL9 s 28 (wd s 26), []⟩, if zer9 g = true ∧ 0 < wd s 26 then 2 else srcsE9 s 28 (wd s 26))) := Lib.hid rfl
  have HOG := Lib.hid hog
  generalize more9 s g = R at *
  generalize decide (by8 s 24 / 8 % 2 = 1) = qq at *
  generalize by8 s 24 / 8 % 2 = fq at *
  generalize by8 s 24 % 8 = fr at *
  generalize valN (by8 s 25) 16 = ve at *
  generalize valN (wd s 4) 4096 = vr at *
  generalize by8 s 24 = fb at *
  generalize by8 s 25 = fc at *
  generalize zer9 g = zg at *
  generalize wd s 4 = rr0 at *
  obtain ⟨n, hn⟩ : ∃ n, n = wd s 26 := ⟨_, rfl⟩
  rw [← hn] at HN3 HSR HT f3
  clear h hog hn hq1 f1 f2 f0 h28 hs
  go_enter Tryz.func85, Tryz.ntmps85
  go_upto_region 1 with (fail)
  generalize (w.alloc (.cells (tkC _ _ _).toArray 28)).alloc (.cells #[.bool false, .int .i64 0, .int .i64 0, .int .i64 0, .bool false, .int .u8 0, .int .u8 0, .int .u8 0, .int .u8 0, .int .u8 0, .int .u8 0, .int .u8 0, .int .u8 0, .int .u8 0, .int .u8 0, .int .u8 0, .int .u8 0, .int .u8 0, .int .u8 0, .int .u8 0, .int .u8 0, .bool false, .int .i64 0, .int .i64 0, .slice none 0 0, .slice none 0 0] 28) = W at HS0 ⊢
  obtain ⟨k2, k3, k4, k5, k6, k7, k8, k9, ka, kb, kc, kd⟩ := HS0.out.c; (try simp only at k2 k3 k4 k5 k6 k7 k8)
  go_upto_region 2 with (go_at_call 70; (with_reducible refine (HV16.out _).mono ?_); rintro x wa ⟨rfl, hb⟩; have HSa := Lib.hid (HS0.out.below hb); clear hb; clear k2 k3 k4 k5 k6 k7 k8 k9 ka kb kc kd; obtain ⟨k2, k3, k4, k5, k6, k7, k8, k9, ka, kb, kc, kd⟩ := HSa.out.c; (try simp only at k2 k3 k4 k5 k6 k7 k8))
  have HSb := Lib.hid ((HSa.out.set 1 (.int .i64 2) (tkC_ver _ _ _ 2) HOG.out HSa.out.src HSa.out.rcs).set 3 (.int .i64 (vr : Nat)) (tkC_resp _ _ _ (vr : Nat)) HOG.out (AdsT.nil _) (RcT.nil _))
  generalize World.setCell (World.setCell wa _ _) _ _ = wb at HSb ⊢
  clear k2 k3 k4 k5 k6 k7 k8 k9 ka kb kc kd; obtain ⟨k2, k3, k4, k5, k6, k7, k8, k9, ka, kb, kc, kd⟩ := HSb.out.c; (try simp only at k2 k3 k4 k5 k6 k7 k8)
  go_upto_region 3 with (go_at_call 102; (with_reducible refine (HN1.out _ HSb.out.rd).mono ?_); rintro x w1 ⟨rfl, h9, k9⟩; have H1 := Lib.hid (HSb.out.call h9 k9); clear h9 k9; clear k2 k3 k4 k5 k6 k7 k8 k9 ka kb kc kd; obtain ⟨k2, k3, k4, k5, k6, k7, k8, k9, ka, kb, kc, kd⟩ := H1.out.c; (try simp only at k2 k3 k4 k5 k6 k7 k8))
  go_upto_region 4 with (go_at_call 99; (with_reducible refine (HB1.out _).mono ?_); rintro x w2 ⟨rfl, d2, rfl⟩; have H2 := Lib.hid (H1.out.drewN d2); clear k2 k3 k4 k5 k6 k7 k8 k9 ka kb kc kd; obtain ⟨k2, k3, k4, k5, k6, k7, k8, k9, ka, kb, kc, kd⟩ := H2.out.c; (try simp only at k2 k3 k4 k5 k6 k7 k8))
  have H3 := Lib.hid (H2.out.set 21 (.bool qq) (tkC_quiet _ _ _ HOG.out _) HOG.out H2.out.src H2.out.rcs)
  generalize World.setCell (w1.drewN d2) _ _ = w3 at H3 ⊢
  clear k2 k3 k4 k5 k6 k7 k8 k9 ka kb kc kd; obtain ⟨k2, k3, k4, k5, k6, k7, k8, k9, ka, kb, kc, kd⟩ := H3.out.c; (try simp only at k2 k3 k4 k5 k6 k7 k8)
  go_upto_region 5 with (go_at_call 99; (with_reducible refine (HB2.out _).mono ?_); rintro x w4 ⟨rfl, d4, rfl⟩; have H4 := Lib.hid (H3.out.drewN d4); clear k2 k3 k4 k5 k6 k7 k8 k9 ka kb kc kd; obtain ⟨k2, k3, k4, k5, k6, k7, k8, k9, ka, kb, kc, kd⟩ := H4.out.c; (try simp only at k2 k3 k4 k5 k6 k7 k8))
  have H5 := Lib.hid (H4.out.set 22 (.int .i64 fr) (tkC_rob _ _ _ HOG.out _) HOG.out H4.out.src H4.out.rcs)
  generalize World.setCell (w3.drewN d4) _ _ = w5 at H5 ⊢
  clear k2 k3 k4 k5 k6 k7 k8 k9 ka kb kc kd; obtain ⟨k2, k3, k4, k5, k6, k7, k8, k9, ka, kb, kc, kd⟩ := H5.out.c; (try simp only at k2 k3 k4 k5 k6 k7 k8)
  go_upto_region 6 with (first
    | (go_at_call 81; (with_reducible refine (HN2.out _ H5.out.rd).mono ?_); rintro x w6 ⟨rfl, h9, k9⟩; have H6 := Lib.hid (H5.out.call h9 k9); clear h9 k9; clear k2 k3 k4 k5 k6 k7 k8 k9 ka kb kc kd; obtain ⟨k2, k3, k4, k5, k6, k7, k8, k9, ka, kb, kc, kd⟩ := H6.out.c; (try simp only at k2 k3 k4 k5 k6 k7 k8))
    | (go_at_call 71; (with_reducible refine (HV8.out _).mono ?_); rintro x w7 ⟨rfl, hb⟩; have H7 := Lib.hid (H6.out.below hb); clear hb; clear k2 k3 k4 k5 k6 k7 k8 k9 ka kb kc kd; obtain ⟨k2, k3, k4, k5, k6, k7, k8, k9, ka, kb, kc, kd⟩ := H7.out.c; (try simp only at k2 k3 k4 k5 k6 k7 k8)))
  have H8 := Lib.hid (H7.out.set 23 (.int .i64 ve) (tkC_every _ _ _ HOG.out _) HOG.out H7.out.src H7.out.rcs)
  generalize World.setCell w7 _ _ = w8 at H8 ⊢
  clear k2 k3 k4 k5 k6 k7 k8 k9 ka kb kc kd; obtain ⟨k2, k3, k4, k5, k6, k7, k8, k9, ka, kb, kc, kd⟩ := H8.out.c; (try simp only at k2 k3 k4 k5 k6 k7 k8)
  go_upto_region 7 with (go_at_call 81; (with_reducible refine (HN3.out _ H8.out.rd).mono ?_); rintro x w9 ⟨rfl, h9, k9⟩; have H9 := Lib.hid (H8.out.call h9 k9); clear h9 k9; clear k2 k3 k4 k5 k6 k7 k8 k9 ka kb kc kd; obtain ⟨k2, k3, k4, k5, k6, k7, k8, k9, ka, kb, kc, kd⟩ := H9.out.c; (try simp only at k2 k3 k4 k5 k6 k7 k8))
  cases zg with
  | true =>
    by_cases hnz : 0 < n
    · have t1 : decide ((0 : Int) < (n : Int)) = true := decide_eq_true (by omega)
      have t2 : decide (0 < n) = true := decide_eq_true hnz
      have t3 : (0 : Int) < (n : Int) := by omega
      have HE := Lib.hid (show (2 : Int) = R.2 by rw [HT.out]; simp [hnz])
      clear hnz
      go_upto_region 8 with (go_at_call 31; (with_reducible refine (HZ.out _).mono ?_); rintro x wz ⟨rfl, hb⟩; have Hz := Lib.hid (H9.out.below hb); clear hb; clear k2 k3 k4 k5 k6 k7 k8 k9 ka kb kc kd; obtain ⟨k2, k3, k4, k5, k6, k7, k8, k9, ka, kb, kc, kd⟩ := Hz.out.c; (try simp only at k2 k3 k4 k5 k6 k7 k8))
      repeat (first | go_values | go_skip | go_guarded | go_step | go_upon | go_in)
      obtain ⟨q1, q2, q3, q4, q5⟩ := Hz.out.done
      exact bodyPost_ret (results_cell2 Tryz.results85 rfl (ld_some q1 (ldr_tk _ _ _))) rfl ⟨_, _, 2, (⟨true, 2, 1, (vr : Int), g, qq, (fr : Int), (ve : Int), [], []⟩ : TK), rfl, q2, q3, q4, q5, HE.out, fun h => by simp at h⟩
    · have t1 : decide ((0 : Int) < (n : Int)) = false := decide_eq_false (by omega)
      have t2 : decide (0 < n) = false := decide_eq_false hnz
      have t3 : ¬ (0 : Int) < (n : Int) := by omega
      have HE := Lib.hid (show srcsE9 s 28 n = R.2 by rw [HT.out]; simp [hnz])
      clear hnz
      go_upto_region 11 with (first
        | (go_at_call 31; (with_reducible refine (HZ.out _).mono ?_); rintro x wz ⟨rfl, hb⟩; have Hz := Lib.hid (H9.out.below hb); clear hb; clear k2 k3 k4 k5 k6 k7 k8 k9 ka kb kc kd; obtain ⟨k2, k3, k4, k5, k6, k7, k8, k9, ka, kb, kc, kd⟩ := Hz.out.c; (try simp only at k2 k3 k4 k5 k6 k7 k8))
        | (go_at_call 104; (with_reducible refine (HSR.out _ Hz.out.rd).mono ?_); rintro x wc ⟨v, e, ls, l5, kk5, b5, rfl, he, hv, hrd, hgr, _, _, h0⟩; obtain ⟨pv9, cv9, hvv, _, _⟩ := hv.1.len; subst hvv; have Hb := Lib.hid (Hz.out.call hrd hgr); have HV := Lib.hid hv; have HER := Lib.hid he; have HZ0 := Lib.hid h0; clear hrd hgr hv he h0; clear k2 k3 k4 k5 k6 k7 k8 k9 ka kb kc kd; obtain ⟨k2, k3, k4, k5, k6, k7, k8, k9, ka, kb, kc, kd⟩ := Hb.out.c; (try simp only at k2 k3 k4 k5 k6 k7 k8)))
      have Hc := Lib.hid (Hb.out.set 24 (.slice pv9 ls.length cv9) (tkC_src _ _ _ HOG.out _ ls) HOG.out HV.out Hb.out.rcs)
      generalize World.setCell wc _ _ = wd at Hc ⊢
      clear k2 k3 k4 k5 k6 k7 k8 k9 ka kb kc kd; obtain ⟨k2, k3, k4, k5, k6, k7, k8, k9, ka, kb, kc, kd⟩ := Hc.out.c; (try simp only at k2 k3 k4 k5 k6 k7 k8)
      repeat (first | go_values | go_skip | go_guarded | go_step | go_upon | go_in)
      obtain ⟨q1, q2, q3, q4, q5⟩ := Hc.out.done
      exact bodyPost_ret (results_cell2 Tryz.results85 rfl (ld_some q1 (ldr_tk _ _ _))) rfl ⟨_, _, e, (⟨true, 2, 1, (vr : Int), g, qq, (fr : Int), (ve : Int), ls, []⟩ : TK), rfl, q2, q3, q4, q5, by rw [HER.out]; exact HE.out, fun h => by rw [HT.out, (HZ0.out h).1]⟩
  | false =>
    have HE := Lib.hid (show srcsE9 s 28 n = R.2 by rw [HT.out]; simp)
    go_upto_region 11 with (first
      | (go_at_call 31; (with_reducible refine (HZ.out _).mono ?_); rintro x wz ⟨rfl, hb⟩; have Hz := Lib.hid (H9.out.below hb); clear hb; clear k2 k3 k4 k5 k6 k7 k8 k9 ka kb kc kd; obtain ⟨k2, k3, k4, k5, k6, k7, k8, k9, ka, kb, kc, kd⟩ := Hz.out.c; (try simp only at k2 k3 k4 k5 k6 k7 k8))
      | (go_at_call 104; (with_reducible refine (HSR.out _ Hz.out.rd).mono ?_); rintro x wc ⟨v, e, ls, l5, kk5, b5, rfl, he, hv, hrd, hgr, _, _, h0⟩; obtain ⟨pv9, cv9, hvv, _, _⟩ := hv.1.len; subst hvv; have Hb := Lib.hid (Hz.out.call hrd hgr); have HV := Lib.hid hv; have HER := Lib.hid he; have HZ0 := Lib.hid h0; clear hrd hgr hv he h0; clear k2 k3 k4 k5 k6 k7 k8 k9 ka kb kc kd; obtain ⟨k2, k3, k4, k5, k6, k7, k8, k9, ka, kb, kc, kd⟩ := Hb.out.c; (try simp only at k2 k3 k4 k5 k6 k7 k8)))
    have Hc := Lib.hid (Hb.out.set 24 (.slice pv9 ls.length cv9) (tkC_src _ _ _ HOG.out _ ls) HOG.out HV.out Hb.out.rcs)
    generalize World.setCell wc _ _ = wd at Hc ⊢
    clear k2 k3 k4 k5 k6 k7 k8 k9 ka kb kc kd; obtain ⟨k2, k3, k4, k5, k6, k7, k8, k9, ka, kb, kc, kd⟩ := Hc.out.c; (try simp only at k2 k3 k4 k5 k6 k7 k8)
    repeat (first | go_values | go_skip | go_guarded | go_step | go_upon | go_in)
    obtain ⟨q1, q2, q3, q4, q5⟩ := Hc.out.done
    exact bodyPost_ret (results_cell2 Tryz.results85 rfl (ld_some q1 (ldr_tk _ _ _))) rfl ⟨_, _, e, (⟨true, 2, 1, (vr : Int), g, qq, (fr : Int), (ve : Int), ls, []⟩ : TK), rfl, q2, q3, q4, q5, by rw [HER.out]; exact HE.out, fun h => by rw [HT.out, (HZ0.out h).1]⟩
end Go.Proofs.YtgpccgcppbdlpaaGreat


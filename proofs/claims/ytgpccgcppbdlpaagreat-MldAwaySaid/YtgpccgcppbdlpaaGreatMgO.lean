/-
  The contract of mld's query.
-/
import Derived.Test.YtgpccgcppbdlpaaGreatMg40
namespace Go.Proofs.YtgpccgcppbdlpaaGreat
open Go.RowKit
set_option linter.unusedVariables false
set_option linter.unusedSimpArgs false
attribute [local go_sem ↓] ld_addr st_addr bld_addr ld_tk st_tk bld_tk
attribute [local go_sem] ldr_addr str_addr str_addr_at ldr_tk str_tk row?_drew_eq

theorem QM9.more {w W : World} {b0 rr m : Nat} {l : List UInt8} {k : Nat} {bad : Bool} {t : TK} {us ur : Value} {W' : World} {t' : TK} {us' ur' : Value} (h : QM9 w W b0 rr m l k bad t us ur) (hg : W.grownBy W' (some b0)) (hs : AdsT W' us' t'.src) (hr : RcT W' ur' t'.rcs) (ho : adOk t'.g) :
    free? W' rr 0 26 = true ∧ fok (tkC t' us' ur').toArray 26 = true ∧ row? (aggW W' rr (tkC t' us' ur')) rr 0 26 = some (tkC t' us' ur') ∧ AdsT (aggW W' rr (tkC t' us' ur')) us' t'.src ∧ RcT (aggW W' rr (tkC t' us' ur')) ur' t'.rcs ∧ w.grownBy (aggW W' rr (tkC t' us' ur')) (some b0) ∧ adOk t'.g := by
  have l0 := h.l0; have lr := h.lr
  have hres := ObjAt.grown h.res hg (by simp; omega)
  exact ⟨obj_free hres (by simp), fok_tk ho hs.1.one hr.rcs.one, aggW_row (obj_free hres (by simp)) (tkC_length ho _ _), hs.far9 hres (by decide) (aggW_grown _ _ _), hr.far9 hres (by decide) (by decide) (aggW_grown _ _ _), qbelow (gtrans h.frm hg) (aggW_below (Below.refl _ _) lr _), ho⟩
theorem targ9_eq (a : AD) : targ9 a = false ↔ (zer9 a = false ∧ grp9 a = false) := by
  unfold targ9
  rw [Bool.or_eq_false_iff]
set_option maxRecDepth 100000 in
set_option maxHeartbeats 8000000 in
theorem m9q_short (w : World) (b0 : Nat) (s : List UInt8) (hs : s.length ≤ 100000) (h8 : 8 ≤ s.length) (h : RdAt w b0 (s.drop 4) 0 false) (a : AD) (l' : List UInt8) (k' : Nat) (hA : RAdr b0 (s.drop 8) 4 false a l' k' true) (hoa : adOk a) (lf : Nat) (hlf : s.length = lf + 4) (R : TK × Int) (hR : R.2 = 3) :
    Calls Tryz.prog 45 #[rp b0] w fun x W' => PartV w W' b0 R x := by
  have HS0 := Lib.hid (P0T9.start h)
  have f0 := wd_lt s 4 (by omega)
  have HL : Hid (∀ W, RdAt W b0 (s.drop 4) 0 false → Calls Tryz.prog 80 #[.pointer (some ⟨b0, 0, none⟩)] W fun e w' => e = .returned (.int .i64 lf) ∧ w' = W) := Lib.hid fun W h => by
    have := left_any b0 _ 0 false W h
    rw [show (s.drop 4).length = lf by simp; omega] at this
    exact this
  have HN : Hid (RNum b0 (s.drop 4) 0 false 2 (wd s 4) (s.drop 6) 2 false) := Lib.hid (rnum_good b0 s 4 0 2 (by omega) (by omega) (by omega) (by omega))
  have HT : Hid (RTk b0 (s.drop 6) 2 false 2 (s.drop 8) 4 false) := Lib.hid (rtk_good b0 s 6 2 2 (by omega) (by omega) (by omega))
  have HA := Lib.hid hA
  have HBD := Lib.hid (fun W (h : RdAt W b0 l' k' true) => bad_any b0 l' k' true W h)
  have hbk := bldr_vkr9 1 1 (wd s 4 : Nat)
  have hfk : fok (tkC ⟨true, 1, 1, (wd s 4 : Nat), zeroA, false, 0, 0, [], []⟩ (.slice none 0 0) (.slice none 0 0)).toArray 26 = true := fok_tk zeroA_ok rfl rfl
  have hfa : fok (adC a).toArray 17 = true := fok_addr _ _ hoa
  have HG := Lib.hid (fun W => target9_any a hoa W)
  have HOA := Lib.hid hoa
  have HE := Lib.hid hR
  generalize wd s 4 = c at *
  clear h hoa hA hs h8 hlf f0
  go_enter Tryz.func45, Tryz.ntmps45
  go_upto_region 1 with (fail)
  generalize w.alloc (.cells #[.bool false, .int .i64 0, .int .i64 0, .int .i64 0, .bool false, .int .u8 0, .int .u8 0, .int .u8 0, .int .u8 0, .int .u8 0, .int .u8 0, .int .u8 0, .int .u8 0, .int .u8 0, .int .u8 0, .int .u8 0, .int .u8 0, .int .u8 0, .int .u8 0, .int .u8 0, .int .u8 0, .bool false, .int .i64 0, .int .i64 0, .slice none 0 0, .slice none 0 0] 28) = W at HS0 ⊢
  go_upto_region 2 with (go_at_call 80; (with_reducible refine (HL.out _ HS0.out.rd).mono ?_); rintro x w0 ⟨rfl, hw⟩; subst hw)
  have hfm := hfm26
  go_upto_region 3 with (go_at_call 81; (with_reducible refine (HN.out _ HS0.out.rd).mono ?_); rintro x w1 ⟨rfl, h9, k9⟩; have H1 := Lib.hid (HS0.out.call h9 k9); clear h9 k9)
  have H2 := Lib.hid (H1.out.qm ⟨true, 1, 1, (c : Nat), zeroA, false, 0, 0, [], []⟩ zeroA_ok rfl rfl)
  generalize aggW (w1.alloc (.cells #[.bool false, .int .i64 0, .int .i64 0, .int .i64 0, .bool false, .int .u8 0, .int .u8 0, .int .u8 0, .int .u8 0, .int .u8 0, .int .u8 0, .int .u8 0, .int .u8 0, .int .u8 0, .int .u8 0, .int .u8 0, .int .u8 0, .int .u8 0, .int .u8 0, .int .u8 0, .int .u8 0, .bool false, .int .i64 0, .int .i64 0, .slice none 0 0, .slice none 0 0] 28)) w1.heap.size _ = w2 at H2 ⊢
  generalize w1.heap.size = m at H2 ⊢
  clear hfm hfk hbk HS0 H1
  obtain ⟨k2, k3, k4, k5, k6, k7, k8, k9, ka, kb, kc, kd⟩ := H2.out.c; (try simp only at k2 k3 k4 k5 k6 k7 k8)
  go_upto_region 4 with (go_at_call 82; (with_reducible refine (HT.out _ H2.out.rd).mono ?_); rintro x w3 ⟨⟨tt, rfl⟩, h9, k9⟩; have H3 := Lib.hid (H2.out.call h9 k9); clear h9 k9; clear k2 k3 k4 k5 k6 k7 k8 k9 ka kb kc kd; obtain ⟨k2, k3, k4, k5, k6, k7, k8, k9, ka, kb, kc, kd⟩ := H3.out.c; (try simp only at k2 k3 k4 k5 k6 k7 k8))
  go_upto_region 5 with (go_at_call 83; (with_reducible refine (HA.out _ H3.out.rd).mono ?_); rintro x w4 ⟨rfl, h9, k9⟩; have H4 := Lib.hid (H3.out.call h9 k9); clear h9 k9; clear k2 k3 k4 k5 k6 k7 k8 k9 ka kb kc kd; obtain ⟨k2, k3, k4, k5, k6, k7, k8, k9, ka, kb, kc, kd⟩ := H4.out.c; (try simp only at k2 k3 k4 k5 k6 k7 k8))
  have H5 := Lib.hid (H4.out.grp a HOA.out)
  generalize aggO w4 m 4 _ = w5 at H5 ⊢
  clear hfa H2 H3 H4
  clear k2 k3 k4 k5 k6 k7 k8 k9 ka kb kc kd; obtain ⟨k2, k3, k4, k5, k6, k7, k8, k9, ka, kb, kc, kd⟩ := H5.out.c; (try simp only at k2 k3 k4 k5 k6 k7 k8)
  go_upto_region 6 with (go_at_call 84; (with_reducible refine (HBD.out _ H5.out.rd).mono ?_); rintro x w6 ⟨rfl, hw⟩; subst hw)
  repeat (first | go_values | go_skip | go_guarded | go_step | go_upon | go_in)
  obtain ⟨q1, q2, q3, q4, q5⟩ := H5.out.done
  exact bodyPost_ret (results_cell2 Tryz.results45 rfl (ld_some q1 (ldr_tk _ _ _))) rfl ⟨_, _, 3, (⟨true, 1, 1, (c : Nat), a, false, 0, 0, [], []⟩ : TK), rfl, q2, q3, q4, q5, HE.out.symm, fun h => by simp at h⟩
set_option maxRecDepth 100000 in
set_option maxHeartbeats 8000000 in
theorem m9q_mid (w : World) (b0 : Nat) (s : List UInt8) (hs : s.length ≤ 100000) (h8 : 8 ≤ s.length) (h : RdAt w b0 (s.drop 4) 0 false) (a : AD) (l' : List UInt8) (k' : Nat) (hA : RAdr b0 (s.drop 8) 4 false a l' k' false) (hoa : adOk a) (lf : Nat) (hlf : s.length = lf + 4) (R : TK × Int) (h1 : 20 < lf) (h2 : lf < 24) (hR : R.2 = 2) :
    Calls Tryz.prog 45 #[rp b0] w fun x W' => PartV w W' b0 R x := by
  have HS0 := Lib.hid (P0T9.start h)
  have f0 := wd_lt s 4 (by omega)
  have HL : Hid (∀ W, RdAt W b0 (s.drop 4) 0 false → Calls Tryz.prog 80 #[.pointer (some ⟨b0, 0, none⟩)] W fun e w' => e = .returned (.int .i64 lf) ∧ w' = W) := Lib.hid fun W h => by
    have := left_any b0 _ 0 false W h
    rw [show (s.drop 4).length = lf by simp; omega] at this
    exact this
  have HN : Hid (RNum b0 (s.drop 4) 0 false 2 (wd s 4) (s.drop 6) 2 false) := Lib.hid (rnum_good b0 s 4 0 2 (by omega) (by omega) (by omega) (by omega))
  have HT : Hid (RTk b0 (s.drop 6) 2 false 2 (s.drop 8) 4 false) := Lib.hid (rtk_good b0 s 6 2 2 (by omega) (by omega) (by omega))
  have HA := Lib.hid hA
  have HBD := Lib.hid (fun W (h : RdAt W b0 l' k' false) => bad_any b0 l' k' false W h)
  have hbk := bldr_vkr9 1 1 (wd s 4 : Nat)
  have hfk : fok (tkC ⟨true, 1, 1, (wd s 4 : Nat), zeroA, false, 0, 0, [], []⟩ (.slice none 0 0) (.slice none 0 0)).toArray 26 = true := fok_tk zeroA_ok rfl rfl
  have hfa : fok (adC a).toArray 17 = true := fok_addr _ _ hoa
  have HG := Lib.hid (fun W => target9_any a hoa W)
  have HOA := Lib.hid hoa
  have HE := Lib.hid hR
  have ta1 : decide ((20 : Int) < (lf : Int)) = true := decide_eq_true (by omega)
  have ta2 : decide (20 < lf) = true := decide_eq_true (by omega)
  have tb1 : decide ((lf : Int) < 24) = true := decide_eq_true (by omega)
  have tb2 : decide (lf < 24) = true := decide_eq_true (by omega)
  clear h1 h2
  generalize wd s 4 = c at *
  clear h hoa hA hs h8 hlf f0
  go_enter Tryz.func45, Tryz.ntmps45
  go_upto_region 1 with (fail)
  generalize w.alloc (.cells #[.bool false, .int .i64 0, .int .i64 0, .int .i64 0, .bool false, .int .u8 0, .int .u8 0, .int .u8 0, .int .u8 0, .int .u8 0, .int .u8 0, .int .u8 0, .int .u8 0, .int .u8 0, .int .u8 0, .int .u8 0, .int .u8 0, .int .u8 0, .int .u8 0, .int .u8 0, .int .u8 0, .bool false, .int .i64 0, .int .i64 0, .slice none 0 0, .slice none 0 0] 28) = W at HS0 ⊢
  go_upto_region 2 with (go_at_call 80; (with_reducible refine (HL.out _ HS0.out.rd).mono ?_); rintro x w0 ⟨rfl, hw⟩; subst hw)
  have hfm := hfm26
  go_upto_region 3 with (go_at_call 81; (with_reducible refine (HN.out _ HS0.out.rd).mono ?_); rintro x w1 ⟨rfl, h9, k9⟩; have H1 := Lib.hid (HS0.out.call h9 k9); clear h9 k9)
  have H2 := Lib.hid (H1.out.qm ⟨true, 1, 1, (c : Nat), zeroA, false, 0, 0, [], []⟩ zeroA_ok rfl rfl)
  generalize aggW (w1.alloc (.cells #[.bool false, .int .i64 0, .int .i64 0, .int .i64 0, .bool false, .int .u8 0, .int .u8 0, .int .u8 0, .int .u8 0, .int .u8 0, .int .u8 0, .int .u8 0, .int .u8 0, .int .u8 0, .int .u8 0, .int .u8 0, .int .u8 0, .int .u8 0, .int .u8 0, .int .u8 0, .int .u8 0, .bool false, .int .i64 0, .int .i64 0, .slice none 0 0, .slice none 0 0] 28)) w1.heap.size _ = w2 at H2 ⊢
  generalize w1.heap.size = m at H2 ⊢
  clear hfm hfk hbk HS0 H1
  obtain ⟨k2, k3, k4, k5, k6, k7, k8, k9, ka, kb, kc, kd⟩ := H2.out.c; (try simp only at k2 k3 k4 k5 k6 k7 k8)
  go_upto_region 4 with (go_at_call 82; (with_reducible refine (HT.out _ H2.out.rd).mono ?_); rintro x w3 ⟨⟨tt, rfl⟩, h9, k9⟩; have H3 := Lib.hid (H2.out.call h9 k9); clear h9 k9; clear k2 k3 k4 k5 k6 k7 k8 k9 ka kb kc kd; obtain ⟨k2, k3, k4, k5, k6, k7, k8, k9, ka, kb, kc, kd⟩ := H3.out.c; (try simp only at k2 k3 k4 k5 k6 k7 k8))
  go_upto_region 5 with (go_at_call 83; (with_reducible refine (HA.out _ H3.out.rd).mono ?_); rintro x w4 ⟨rfl, h9, k9⟩; have H4 := Lib.hid (H3.out.call h9 k9); clear h9 k9; clear k2 k3 k4 k5 k6 k7 k8 k9 ka kb kc kd; obtain ⟨k2, k3, k4, k5, k6, k7, k8, k9, ka, kb, kc, kd⟩ := H4.out.c; (try simp only at k2 k3 k4 k5 k6 k7 k8))
  have H5 := Lib.hid (H4.out.grp a HOA.out)
  generalize aggO w4 m 4 _ = w5 at H5 ⊢
  clear hfa H2 H3 H4
  clear k2 k3 k4 k5 k6 k7 k8 k9 ka kb kc kd; obtain ⟨k2, k3, k4, k5, k6, k7, k8, k9, ka, kb, kc, kd⟩ := H5.out.c; (try simp only at k2 k3 k4 k5 k6 k7 k8)
  go_upto_region 8 with (go_at_call 84; (with_reducible refine (HBD.out _ H5.out.rd).mono ?_); rintro x w6 ⟨rfl, hw⟩; subst hw)
  repeat (first | go_values | go_skip | go_guarded | go_step | go_upon | go_in)
  obtain ⟨q1, q2, q3, q4, q5⟩ := H5.out.done
  exact bodyPost_ret (results_cell2 Tryz.results45 rfl (ld_some q1 (ldr_tk _ _ _))) rfl ⟨_, _, 2, (⟨true, 1, 1, (c : Nat), a, false, 0, 0, [], []⟩ : TK), rfl, q2, q3, q4, q5, HE.out.symm, fun h => by simp at h⟩
set_option maxRecDepth 100000 in
set_option maxHeartbeats 8000000 in
theorem m9q_targ24 (w : World) (b0 : Nat) (s : List UInt8) (hs : s.length ≤ 100000) (h8 : 8 ≤ s.length) (h : RdAt w b0 (s.drop 4) 0 false) (a : AD) (l' : List UInt8) (k' : Nat) (hA : RAdr b0 (s.drop 8) 4 false a l' k' false) (hoa : adOk a) (lf : Nat) (hlf : s.length = lf + 4) (R : TK × Int) (h1 : lf = 20) (hg : targ9 a = false) (hR : R.2 = 2) :
    Calls Tryz.prog 45 #[rp b0] w fun x W' => PartV w W' b0 R x := by
  have HS0 := Lib.hid (P0T9.start h)
  have f0 := wd_lt s 4 (by omega)
  have HL : Hid (∀ W, RdAt W b0 (s.drop 4) 0 false → Calls Tryz.prog 80 #[.pointer (some ⟨b0, 0, none⟩)] W fun e w' => e = .returned (.int .i64 lf) ∧ w' = W) := Lib.hid fun W h => by
    have := left_any b0 _ 0 false W h
    rw [show (s.drop 4).length = lf by simp; omega] at this
    exact this
  have HN : Hid (RNum b0 (s.drop 4) 0 false 2 (wd s 4) (s.drop 6) 2 false) := Lib.hid (rnum_good b0 s 4 0 2 (by omega) (by omega) (by omega) (by omega))
  have HT : Hid (RTk b0 (s.drop 6) 2 false 2 (s.drop 8) 4 false) := Lib.hid (rtk_good b0 s 6 2 2 (by omega) (by omega) (by omega))
  have HA := Lib.hid hA
  have HBD := Lib.hid (fun W (h : RdAt W b0 l' k' false) => bad_any b0 l' k' false W h)
  have hbk := bldr_vkr9 1 1 (wd s 4 : Nat)
  have hfk : fok (tkC ⟨true, 1, 1, (wd s 4 : Nat), zeroA, false, 0, 0, [], []⟩ (.slice none 0 0) (.slice none 0 0)).toArray 26 = true := fok_tk zeroA_ok rfl rfl
  have hfa : fok (adC a).toArray 17 = true := fok_addr _ _ hoa
  have HG := Lib.hid (fun W => target9_any a hoa W)
  have HOA := Lib.hid hoa
  have HE := Lib.hid hR
  rw [hg] at HG
  have ta1 : decide ((20 : Int) < (lf : Int)) = false := decide_eq_false (by omega)
  have ta2 : decide (20 < lf) = false := decide_eq_false (by omega)
  clear hg
  generalize wd s 4 = c at *
  clear h h1 hoa hA hs h8 hlf f0
  go_enter Tryz.func45, Tryz.ntmps45
  go_upto_region 1 with (fail)
  generalize w.alloc (.cells #[.bool false, .int .i64 0, .int .i64 0, .int .i64 0, .bool false, .int .u8 0, .int .u8 0, .int .u8 0, .int .u8 0, .int .u8 0, .int .u8 0, .int .u8 0, .int .u8 0, .int .u8 0, .int .u8 0, .int .u8 0, .int .u8 0, .int .u8 0, .int .u8 0, .int .u8 0, .int .u8 0, .bool false, .int .i64 0, .int .i64 0, .slice none 0 0, .slice none 0 0] 28) = W at HS0 ⊢
  go_upto_region 2 with (go_at_call 80; (with_reducible refine (HL.out _ HS0.out.rd).mono ?_); rintro x w0 ⟨rfl, hw⟩; subst hw)
  have hfm := hfm26
  go_upto_region 3 with (go_at_call 81; (with_reducible refine (HN.out _ HS0.out.rd).mono ?_); rintro x w1 ⟨rfl, h9, k9⟩; have H1 := Lib.hid (HS0.out.call h9 k9); clear h9 k9)
  have H2 := Lib.hid (H1.out.qm ⟨true, 1, 1, (c : Nat), zeroA, false, 0, 0, [], []⟩ zeroA_ok rfl rfl)
  generalize aggW (w1.alloc (.cells #[.bool false, .int .i64 0, .int .i64 0, .int .i64 0, .bool false, .int .u8 0, .int .u8 0, .int .u8 0, .int .u8 0, .int .u8 0, .int .u8 0, .int .u8 0, .int .u8 0, .int .u8 0, .int .u8 0, .int .u8 0, .int .u8 0, .int .u8 0, .int .u8 0, .int .u8 0, .int .u8 0, .bool false, .int .i64 0, .int .i64 0, .slice none 0 0, .slice none 0 0] 28)) w1.heap.size _ = w2 at H2 ⊢
  generalize w1.heap.size = m at H2 ⊢
  clear hfm hfk hbk HS0 H1
  obtain ⟨k2, k3, k4, k5, k6, k7, k8, k9, ka, kb, kc, kd⟩ := H2.out.c; (try simp only at k2 k3 k4 k5 k6 k7 k8)
  go_upto_region 4 with (go_at_call 82; (with_reducible refine (HT.out _ H2.out.rd).mono ?_); rintro x w3 ⟨⟨tt, rfl⟩, h9, k9⟩; have H3 := Lib.hid (H2.out.call h9 k9); clear h9 k9; clear k2 k3 k4 k5 k6 k7 k8 k9 ka kb kc kd; obtain ⟨k2, k3, k4, k5, k6, k7, k8, k9, ka, kb, kc, kd⟩ := H3.out.c; (try simp only at k2 k3 k4 k5 k6 k7 k8))
  go_upto_region 5 with (go_at_call 83; (with_reducible refine (HA.out _ H3.out.rd).mono ?_); rintro x w4 ⟨rfl, h9, k9⟩; have H4 := Lib.hid (H3.out.call h9 k9); clear h9 k9; clear k2 k3 k4 k5 k6 k7 k8 k9 ka kb kc kd; obtain ⟨k2, k3, k4, k5, k6, k7, k8, k9, ka, kb, kc, kd⟩ := H4.out.c; (try simp only at k2 k3 k4 k5 k6 k7 k8))
  have H5 := Lib.hid (H4.out.grp a HOA.out)
  generalize aggO w4 m 4 _ = w5 at H5 ⊢
  clear hfa H2 H3 H4
  clear k2 k3 k4 k5 k6 k7 k8 k9 ka kb kc kd; obtain ⟨k2, k3, k4, k5, k6, k7, k8, k9, ka, kb, kc, kd⟩ := H5.out.c; (try simp only at k2 k3 k4 k5 k6 k7 k8)
  go_upto_region 10 with (first | (go_at_call 84; (with_reducible refine (HBD.out _ H5.out.rd).mono ?_); rintro x w6 ⟨rfl, hw⟩; subst hw) | (go_at_call 26; (with_reducible refine (HG.out _).mono ?_); rintro x w7 ⟨rfl, hb⟩; have H6 := Lib.hid (H5.out.below hb); clear hb; clear k2 k3 k4 k5 k6 k7 k8 k9 ka kb kc kd; obtain ⟨k2, k3, k4, k5, k6, k7, k8, k9, ka, kb, kc, kd⟩ := H6.out.c; (try simp only at k2 k3 k4 k5 k6 k7 k8)))
  repeat (first | go_values | go_skip | go_guarded | go_step | go_upon | go_in)
  obtain ⟨q1, q2, q3, q4, q5⟩ := H6.out.done
  exact bodyPost_ret (results_cell2 Tryz.results45 rfl (ld_some q1 (ldr_tk _ _ _))) rfl ⟨_, _, 2, (⟨true, 1, 1, (c : Nat), a, false, 0, 0, [], []⟩ : TK), rfl, q2, q3, q4, q5, HE.out.symm, fun h => by simp at h⟩
set_option maxRecDepth 100000 in
set_option maxHeartbeats 8000000 in
theorem m9q_targ28 (w : World) (b0 : Nat) (s : List UInt8) (hs : s.length ≤ 100000) (h8 : 8 ≤ s.length) (h : RdAt w b0 (s.drop 4) 0 false) (a : AD) (l' : List UInt8) (k' : Nat) (hA : RAdr b0 (s.drop 8) 4 false a l' k' false) (hoa : adOk a) (lf : Nat) (hlf : s.length = lf + 4) (R : TK × Int) (h1 : 24 ≤ lf) (hg : targ9 a = false) (hR : R.2 = 2) :
    Calls Tryz.prog 45 #[rp b0] w fun x W' => PartV w W' b0 R x := by
  have HS0 := Lib.hid (P0T9.start h)
  have f0 := wd_lt s 4 (by omega)
  have HL : Hid (∀ W, RdAt W b0 (s.drop 4) 0 false → Calls Tryz.prog 80 #[.pointer (some ⟨b0, 0, none⟩)] W fun e w' => e = .returned (.int .i64 lf) ∧ w' = W) := Lib.hid fun W h => by
    have := left_any b0 _ 0 false W h
    rw [show (s.drop 4).length = lf by simp; omega] at this
    exact this
  have HN : Hid (RNum b0 (s.drop 4) 0 false 2 (wd s 4) (s.drop 6) 2 false) := Lib.hid (rnum_good b0 s 4 0 2 (by omega) (by omega) (by omega) (by omega))
  have HT : Hid (RTk b0 (s.drop 6) 2 false 2 (s.drop 8) 4 false) := Lib.hid (rtk_good b0 s 6 2 2 (by omega) (by omega) (by omega))
  have HA := Lib.hid hA
  have HBD := Lib.hid (fun W (h : RdAt W b0 l' k' false) => bad_any b0 l' k' false W h)
  have hbk := bldr_vkr9 1 1 (wd s 4 : Nat)
  have hfk : fok (tkC ⟨true, 1, 1, (wd s 4 : Nat), zeroA, false, 0, 0, [], []⟩ (.slice none 0 0) (.slice none 0 0)).toArray 26 = true := fok_tk zeroA_ok rfl rfl
  have hfa : fok (adC a).toArray 17 = true := fok_addr _ _ hoa
  have HG := Lib.hid (fun W => target9_any a hoa W)
  have HOA := Lib.hid hoa
  have HE := Lib.hid hR
  rw [hg] at HG
  have ta1 : decide ((20 : Int) < (lf : Int)) = true := decide_eq_true (by omega)
  have ta2 : decide (20 < lf) = true := decide_eq_true (by omega)
  have tb1 : decide ((lf : Int) < 24) = false := decide_eq_false (by omega)
  have tb2 : decide (lf < 24) = false := decide_eq_false (by omega)
  clear hg
  generalize wd s 4 = c at *
  clear h h1 hoa hA hs h8 hlf f0
  go_enter Tryz.func45, Tryz.ntmps45
  go_upto_region 1 with (fail)
  generalize w.alloc (.cells #[.bool false, .int .i64 0, .int .i64 0, .int .i64 0, .bool false, .int .u8 0, .int .u8 0, .int .u8 0, .int .u8 0, .int .u8 0, .int .u8 0, .int .u8 0, .int .u8 0, .int .u8 0, .int .u8 0, .int .u8 0, .int .u8 0, .int .u8 0, .int .u8 0, .int .u8 0, .int .u8 0, .bool false, .int .i64 0, .int .i64 0, .slice none 0 0, .slice none 0 0] 28) = W at HS0 ⊢
  go_upto_region 2 with (go_at_call 80; (with_reducible refine (HL.out _ HS0.out.rd).mono ?_); rintro x w0 ⟨rfl, hw⟩; subst hw)
  have hfm := hfm26
  go_upto_region 3 with (go_at_call 81; (with_reducible refine (HN.out _ HS0.out.rd).mono ?_); rintro x w1 ⟨rfl, h9, k9⟩; have H1 := Lib.hid (HS0.out.call h9 k9); clear h9 k9)
  have H2 := Lib.hid (H1.out.qm ⟨true, 1, 1, (c : Nat), zeroA, false, 0, 0, [], []⟩ zeroA_ok rfl rfl)
  generalize aggW (w1.alloc (.cells #[.bool false, .int .i64 0, .int .i64 0, .int .i64 0, .bool false, .int .u8 0, .int .u8 0, .int .u8 0, .int .u8 0, .int .u8 0, .int .u8 0, .int .u8 0, .int .u8 0, .int .u8 0, .int .u8 0, .int .u8 0, .int .u8 0, .int .u8 0, .int .u8 0, .int .u8 0, .int .u8 0, .bool false, .int .i64 0, .int .i64 0, .slice none 0 0, .slice none 0 0] 28)) w1.heap.size _ = w2 at H2 ⊢
  generalize w1.heap.size = m at H2 ⊢
  clear hfm hfk hbk HS0 H1
  obtain ⟨k2, k3, k4, k5, k6, k7, k8, k9, ka, kb, kc, kd⟩ := H2.out.c; (try simp only at k2 k3 k4 k5 k6 k7 k8)
  go_upto_region 4 with (go_at_call 82; (with_reducible refine (HT.out _ H2.out.rd).mono ?_); rintro x w3 ⟨⟨tt, rfl⟩, h9, k9⟩; have H3 := Lib.hid (H2.out.call h9 k9); clear h9 k9; clear k2 k3 k4 k5 k6 k7 k8 k9 ka kb kc kd; obtain ⟨k2, k3, k4, k5, k6, k7, k8, k9, ka, kb, kc, kd⟩ := H3.out.c; (try simp only at k2 k3 k4 k5 k6 k7 k8))
  go_upto_region 5 with (go_at_call 83; (with_reducible refine (HA.out _ H3.out.rd).mono ?_); rintro x w4 ⟨rfl, h9, k9⟩; have H4 := Lib.hid (H3.out.call h9 k9); clear h9 k9; clear k2 k3 k4 k5 k6 k7 k8 k9 ka kb kc kd; obtain ⟨k2, k3, k4, k5, k6, k7, k8, k9, ka, kb, kc, kd⟩ := H4.out.c; (try simp only at k2 k3 k4 k5 k6 k7 k8))
  have H5 := Lib.hid (H4.out.grp a HOA.out)
  generalize aggO w4 m 4 _ = w5 at H5 ⊢
  clear hfa H2 H3 H4
  clear k2 k3 k4 k5 k6 k7 k8 k9 ka kb kc kd; obtain ⟨k2, k3, k4, k5, k6, k7, k8, k9, ka, kb, kc, kd⟩ := H5.out.c; (try simp only at k2 k3 k4 k5 k6 k7 k8)
  go_upto_region 10 with (first | (go_at_call 84; (with_reducible refine (HBD.out _ H5.out.rd).mono ?_); rintro x w6 ⟨rfl, hw⟩; subst hw) | (go_at_call 26; (with_reducible refine (HG.out _).mono ?_); rintro x w7 ⟨rfl, hb⟩; have H6 := Lib.hid (H5.out.below hb); clear hb; clear k2 k3 k4 k5 k6 k7 k8 k9 ka kb kc kd; obtain ⟨k2, k3, k4, k5, k6, k7, k8, k9, ka, kb, kc, kd⟩ := H6.out.c; (try simp only at k2 k3 k4 k5 k6 k7 k8)))
  repeat (first | go_values | go_skip | go_guarded | go_step | go_upon | go_in)
  obtain ⟨q1, q2, q3, q4, q5⟩ := H6.out.done
  exact bodyPost_ret (results_cell2 Tryz.results45 rfl (ld_some q1 (ldr_tk _ _ _))) rfl ⟨_, _, 2, (⟨true, 1, 1, (c : Nat), a, false, 0, 0, [], []⟩ : TK), rfl, q2, q3, q4, q5, HE.out.symm, fun h => by simp at h⟩
set_option maxRecDepth 100000 in
set_option maxHeartbeats 8000000 in
theorem m9q_24 (w : World) (b0 : Nat) (s : List UInt8) (hs : s.length ≤ 100000) (h8 : 8 ≤ s.length) (h : RdAt w b0 (s.drop 4) 0 false) (a : AD) (l' : List UInt8) (k' : Nat) (hA : RAdr b0 (s.drop 8) 4 false a l' k' false) (hoa : adOk a) (lf : Nat) (hlf : s.length = lf + 4) (R : TK × Int) (h1 : lf = 20) (hg : targ9 a = true) (hR : R = (⟨true, 1, 1, (wd s 4 : Nat), a, false, 0, 0, [], []⟩, 0)) :
    Calls Tryz.prog 45 #[rp b0] w fun x W' => PartV w W' b0 R x := by
  have HS0 := Lib.hid (P0T9.start h)
  have f0 := wd_lt s 4 (by omega)
  have HL : Hid (∀ W, RdAt W b0 (s.drop 4) 0 false → Calls Tryz.prog 80 #[.pointer (some ⟨b0, 0, none⟩)] W fun e w' => e = .returned (.int .i64 lf) ∧ w' = W) := Lib.hid fun W h => by
    have := left_any b0 _ 0 false W h
    rw [show (s.drop 4).length = lf by simp; omega] at this
    exact this
  have HN : Hid (RNum b0 (s.drop 4) 0 false 2 (wd s 4) (s.drop 6) 2 false) := Lib.hid (rnum_good b0 s 4 0 2 (by omega) (by omega) (by omega) (by omega))
  have HT : Hid (RTk b0 (s.drop 6) 2 false 2 (s.drop 8) 4 false) := Lib.hid (rtk_good b0 s 6 2 2 (by omega) (by omega) (by omega))
  have HA := Lib.hid hA
  have HBD := Lib.hid (fun W (h : RdAt W b0 l' k' false) => bad_any b0 l' k' false W h)
  have hbk := bldr_vkr9 1 1 (wd s 4 : Nat)
  have hfk : fok (tkC ⟨true, 1, 1, (wd s 4 : Nat), zeroA, false, 0, 0, [], []⟩ (.slice none 0 0) (.slice none 0 0)).toArray 26 = true := fok_tk zeroA_ok rfl rfl
  have hfa : fok (adC a).toArray 17 = true := fok_addr _ _ hoa
  have HG := Lib.hid (fun W => target9_any a hoa W)
  have HOA := Lib.hid hoa
  have HE := Lib.hid hR
  rw [hg] at HG
  have ta1 : decide ((20 : Int) < (lf : Int)) = false := decide_eq_false (by omega)
  have ta2 : decide (20 < lf) = false := decide_eq_false (by omega)
  clear hg hR
  generalize wd s 4 = c at *
  clear h h1 hoa hA hs h8 hlf f0
  go_enter Tryz.func45, Tryz.ntmps45
  go_upto_region 1 with (fail)
  generalize w.alloc (.cells #[.bool false, .int .i64 0, .int .i64 0, .int .i64 0, .bool false, .int .u8 0, .int .u8 0, .int .u8 0, .int .u8 0, .int .u8 0, .int .u8 0, .int .u8 0, .int .u8 0, .int .u8 0, .int .u8 0, .int .u8 0, .int .u8 0, .int .u8 0, .int .u8 0, .int .u8 0, .int .u8 0, .bool false, .int .i64 0, .int .i64 0, .slice none 0 0, .slice none 0 0] 28) = W at HS0 ⊢
  go_upto_region 2 with (go_at_call 80; (with_reducible refine (HL.out _ HS0.out.rd).mono ?_); rintro x w0 ⟨rfl, hw⟩; subst hw)
  have hfm := hfm26
  go_upto_region 3 with (go_at_call 81; (with_reducible refine (HN.out _ HS0.out.rd).mono ?_); rintro x w1 ⟨rfl, h9, k9⟩; have H1 := Lib.hid (HS0.out.call h9 k9); clear h9 k9)
  have H2 := Lib.hid (H1.out.qm ⟨true, 1, 1, (c : Nat), zeroA, false, 0, 0, [], []⟩ zeroA_ok rfl rfl)
  generalize aggW (w1.alloc (.cells #[.bool false, .int .i64 0, .int .i64 0, .int .i64 0, .bool false, .int .u8 0, .int .u8 0, .int .u8 0, .int .u8 0, .int .u8 0, .int .u8 0, .int .u8 0, .int .u8 0, .int .u8 0, .int .u8 0, .int .u8 0, .int .u8 0, .int .u8 0, .int .u8 0, .int .u8 0, .int .u8 0, .bool false, .int .i64 0, .int .i64 0, .slice none 0 0, .slice none 0 0] 28)) w1.heap.size _ = w2 at H2 ⊢
  generalize w1.heap.size = m at H2 ⊢
  clear hfm hfk hbk HS0 H1
  obtain ⟨k2, k3, k4, k5, k6, k7, k8, k9, ka, kb, kc, kd⟩ := H2.out.c; (try simp only at k2 k3 k4 k5 k6 k7 k8)
  go_upto_region 4 with (go_at_call 82; (with_reducible refine (HT.out _ H2.out.rd).mono ?_); rintro x w3 ⟨⟨tt, rfl⟩, h9, k9⟩; have H3 := Lib.hid (H2.out.call h9 k9); clear h9 k9; clear k2 k3 k4 k5 k6 k7 k8 k9 ka kb kc kd; obtain ⟨k2, k3, k4, k5, k6, k7, k8, k9, ka, kb, kc, kd⟩ := H3.out.c; (try simp only at k2 k3 k4 k5 k6 k7 k8))
  go_upto_region 5 with (go_at_call 83; (with_reducible refine (HA.out _ H3.out.rd).mono ?_); rintro x w4 ⟨rfl, h9, k9⟩; have H4 := Lib.hid (H3.out.call h9 k9); clear h9 k9; clear k2 k3 k4 k5 k6 k7 k8 k9 ka kb kc kd; obtain ⟨k2, k3, k4, k5, k6, k7, k8, k9, ka, kb, kc, kd⟩ := H4.out.c; (try simp only at k2 k3 k4 k5 k6 k7 k8))
  have H5 := Lib.hid (H4.out.grp a HOA.out)
  generalize aggO w4 m 4 _ = w5 at H5 ⊢
  clear hfa H2 H3 H4
  clear k2 k3 k4 k5 k6 k7 k8 k9 ka kb kc kd; obtain ⟨k2, k3, k4, k5, k6, k7, k8, k9, ka, kb, kc, kd⟩ := H5.out.c; (try simp only at k2 k3 k4 k5 k6 k7 k8)
  go_upto_region 11 with (first | (go_at_call 84; (with_reducible refine (HBD.out _ H5.out.rd).mono ?_); rintro x w6 ⟨rfl, hw⟩; subst hw) | (go_at_call 26; (with_reducible refine (HG.out _).mono ?_); rintro x w7 ⟨rfl, hb⟩; have H6 := Lib.hid (H5.out.below hb); clear hb; clear k2 k3 k4 k5 k6 k7 k8 k9 ka kb kc kd; obtain ⟨k2, k3, k4, k5, k6, k7, k8, k9, ka, kb, kc, kd⟩ := H6.out.c; (try simp only at k2 k3 k4 k5 k6 k7 k8)))
  repeat (first | go_values | go_skip | go_guarded | go_step | go_upon | go_in)
  obtain ⟨q1, q2, q3, q4, q5⟩ := H6.out.done
  exact bodyPost_ret (results_cell2 Tryz.results45 rfl (ld_some q1 (ldr_tk _ _ _))) rfl ⟨_, _, 0, (⟨true, 1, 1, (c : Nat), a, false, 0, 0, [], []⟩ : TK), rfl, q2, q3, q4, q5, by rw [HE.out], fun _ => by rw [HE.out]⟩
set_option maxRecDepth 100000 in
set_option maxHeartbeats 8000000 in
theorem m9q_28 (w : World) (b0 : Nat) (s : List UInt8) (hs : s.length ≤ 100000) (h8 : 8 ≤ s.length) (h : RdAt w b0 (s.drop 4) 0 false) (a : AD) (hA : RAdr b0 (s.drop 8) 4 false a (s.drop 24) 20 false) (hoa : adOk a) (lf : Nat) (hlf : s.length = lf + 4) (h1 : 24 ≤ lf) (hg : targ9 a = true) :
    Calls Tryz.prog 45 #[rp b0] w fun x W' => PartV w W' b0 (more9 s a) x := by
  have HS0 := Lib.hid (P0T9.start h)
  have f0 := wd_lt s 4 (by omega)
  have HL : Hid (∀ W, RdAt W b0 (s.drop 4) 0 false → Calls Tryz.prog 80 #[.pointer (some ⟨b0, 0, none⟩)] W fun e w' => e = .returned (.int .i64 lf) ∧ w' = W) := Lib.hid fun W h => by
    have := left_any b0 _ 0 false W h
    rw [show (s.drop 4).length = lf by simp; omega] at this
    exact this
  have HN : Hid (RNum b0 (s.drop 4) 0 false 2 (wd s 4) (s.drop 6) 2 false) := Lib.hid (rnum_good b0 s 4 0 2 (by omega) (by omega) (by omega) (by omega))
  have HT : Hid (RTk b0 (s.drop 6) 2 false 2 (s.drop 8) 4 false) := Lib.hid (rtk_good b0 s 6 2 2 (by omega) (by omega) (by omega))
  have HA := Lib.hid hA
  have HBD := Lib.hid (fun W (h : RdAt W b0 (s.drop 24) 20 false) => bad_any b0 (s.drop 24) 20 false W h)
  have hbk := bldr_vkr9 1 1 (wd s 4 : Nat)
  have hfk : fok (tkC ⟨true, 1, 1, (wd s 4 : Nat), zeroA, false, 0, 0, [], []⟩ (.slice none 0 0) (.slice none 0 0)).toArray 26 = true := fok_tk zeroA_ok rfl rfl
  have hfa : fok (adC a).toArray 17 = true := fok_addr _ _ hoa
  have HG := Lib.hid (fun W => target9_any a hoa W)
  have HOA := Lib.hid hoa
  have HM := Lib.hid (fun W h => m9more_any a hoa W b0 s hs (by omega) h)
  rw [hg] at HG
  have ta1 : decide ((20 : Int) < (lf : Int)) = true := decide_eq_true (by omega)
  have ta2 : decide (20 < lf) = true := decide_eq_true (by omega)
  have tb1 : decide ((lf : Int) < 24) = false := decide_eq_false (by omega)
  have tb2 : decide (lf < 24) = false := decide_eq_false (by omega)
  generalize more9 s a = R at *
  clear hg
  generalize wd s 4 = c at *
  clear h h1 hoa hA hs h8 hlf f0
  go_enter Tryz.func45, Tryz.ntmps45
  go_upto_region 1 with (fail)
  generalize w.alloc (.cells #[.bool false, .int .i64 0, .int .i64 0, .int .i64 0, .bool false, .int .u8 0, .int .u8 0, .int .u8 0, .int .u8 0, .int .u8 0, .int .u8 0, .int .u8 0, .int .u8 0, .int .u8 0, .int .u8 0, .int .u8 0, .int .u8 0, .int .u8 0, .int .u8 0, .int .u8 0, .int .u8 0, .bool false, .int .i64 0, .int .i64 0, .slice none 0 0, .slice none 0 0] 28) = W at HS0 ⊢
  go_upto_region 2 with (go_at_call 80; (with_reducible refine (HL.out _ HS0.out.rd).mono ?_); rintro x w0 ⟨rfl, hw⟩; subst hw)
  have hfm := hfm26
  go_upto_region 3 with (go_at_call 81; (with_reducible refine (HN.out _ HS0.out.rd).mono ?_); rintro x w1 ⟨rfl, h9, k9⟩; have H1 := Lib.hid (HS0.out.call h9 k9); clear h9 k9)
  have H2 := Lib.hid (H1.out.qm ⟨true, 1, 1, (c : Nat), zeroA, false, 0, 0, [], []⟩ zeroA_ok rfl rfl)
  generalize aggW (w1.alloc (.cells #[.bool false, .int .i64 0, .int .i64 0, .int .i64 0, .bool false, .int .u8 0, .int .u8 0, .int .u8 0, .int .u8 0, .int .u8 0, .int .u8 0, .int .u8 0, .int .u8 0, .int .u8 0, .int .u8 0, .int .u8 0, .int .u8 0, .int .u8 0, .int .u8 0, .int .u8 0, .int .u8 0, .bool false, .int .i64 0, .int .i64 0, .slice none 0 0, .slice none 0 0] 28)) w1.heap.size _ = w2 at H2 ⊢
  generalize w1.heap.size = m at H2 ⊢
  clear hfm hfk hbk HS0 H1
  obtain ⟨k2, k3, k4, k5, k6, k7, k8, k9, ka, kb, kc, kd⟩ := H2.out.c; (try simp only at k2 k3 k4 k5 k6 k7 k8)
  go_upto_region 4 with (go_at_call 82; (with_reducible refine (HT.out _ H2.out.rd).mono ?_); rintro x w3 ⟨⟨tt, rfl⟩, h9, k9⟩; have H3 := Lib.hid (H2.out.call h9 k9); clear h9 k9; clear k2 k3 k4 k5 k6 k7 k8 k9 ka kb kc kd; obtain ⟨k2, k3, k4, k5, k6, k7, k8, k9, ka, kb, kc, kd⟩ := H3.out.c; (try simp only at k2 k3 k4 k5 k6 k7 k8))
  go_upto_region 5 with (go_at_call 83; (with_reducible refine (HA.out _ H3.out.rd).mono ?_); rintro x w4 ⟨rfl, h9, k9⟩; have H4 := Lib.hid (H3.out.call h9 k9); clear h9 k9; clear k2 k3 k4 k5 k6 k7 k8 k9 ka kb kc kd; obtain ⟨k2, k3, k4, k5, k6, k7, k8, k9, ka, kb, kc, kd⟩ := H4.out.c; (try simp only at k2 k3 k4 k5 k6 k7 k8))
  have H5 := Lib.hid (H4.out.grp a HOA.out)
  generalize aggO w4 m 4 _ = w5 at H5 ⊢
  clear hfa H2 H3 H4
  clear k2 k3 k4 k5 k6 k7 k8 k9 ka kb kc kd; obtain ⟨k2, k3, k4, k5, k6, k7, k8, k9, ka, kb, kc, kd⟩ := H5.out.c; (try simp only at k2 k3 k4 k5 k6 k7 k8)
  go_upto_region 12 with (first | (go_at_call 84; (with_reducible refine (HBD.out _ H5.out.rd).mono ?_); rintro x w6 ⟨rfl, hw⟩; subst hw) | (go_at_call 26; (with_reducible refine (HG.out _).mono ?_); rintro x w7 ⟨rfl, hb⟩; have H6 := Lib.hid (H5.out.below hb); clear hb; clear k2 k3 k4 k5 k6 k7 k8 k9 ka kb kc kd; obtain ⟨k2, k3, k4, k5, k6, k7, k8, k9, ka, kb, kc, kd⟩ := H6.out.c; (try simp only at k2 k3 k4 k5 k6 k7 k8)))
  go_wp2_with (go_at_call 85; (with_reducible refine (HM.out _ H6.out.rd).mono ?_); rintro x wm ⟨us9, ur9, e9, t9, rfl, hs9, hr9, hg9, ho9, he9, h09⟩; have HX := Lib.hid (H6.out.more hg9 hs9 hr9 ho9); have HX2 := Lib.hid (And.intro he9 h09); clear hs9 hr9 hg9 ho9 he9 h09; obtain ⟨fr9, fk9, q1, q2, q3, q4, q5⟩ := HX.out)
  exact bodyPost_ret (results_cell2 Tryz.results45 rfl (ld_some q1 (ldr_tk _ _ _))) rfl ⟨_, _, e9, t9, rfl, q2, q3, q4, q5, HX2.out.1, HX2.out.2⟩
/-- query on a query's bytes. -/
theorem m9query_any (w : World) (b0 : Nat) (s : List UInt8) (hs : s.length ≤ 100000) (h8 : 8 ≤ s.length) (hc : by8 s 0 = 130) (h : RdAt w b0 (s.drop 4) 0 false) :
    Calls Tryz.prog 45 #[rp b0] w fun x W' => PartV w W' b0 (one9 s) x := by
  by_cases hl : 24 ≤ s.length
  · have hA := radr_good b0 s 8 4 (by omega) hl (by omega)
    have hoa := sixL_ok s 8
    by_cases hm : 24 < s.length ∧ s.length < 28
    · exact m9q_mid w b0 s hs h8 h _ _ _ hA hoa (s.length - 4) (by omega) _ (by omega) (by omega) (by unfold one9; rw [if_neg (by omega), if_pos ⟨hc, hm⟩])
    by_cases hg : targ9 (sixL s 8) = true
    · have hn : ¬ (grp9 (sixL s 8) = false ∧ (by8 s 0 ≠ 130 ∨ zer9 (sixL s 8) = false)) := fun h => by
        rw [(targ9_eq _).2 ⟨h.2.resolve_left (fun h => h hc), h.1⟩] at hg; cases hg
      by_cases h24 : s.length = 24
      · exact m9q_24 w b0 s hs h8 h _ _ _ hA hoa (s.length - 4) (by omega) _ (by omega) hg (by unfold one9; rw [if_neg (by omega), if_neg (by omega), if_neg hn, if_neg (by omega), if_pos h24])
      · refine (m9q_28 w b0 s hs h8 h _ hA hoa (s.length - 4) (by omega) (by omega) hg).mono ?_
        rintro x W' ⟨us, ur, e, t, h1, h2, h3, h4, h5, h6, h7⟩
        have e1 : one9 s = if zer9 (sixL s 8) = true ∧ 0 < wd s 26 then (zeroT, 2) else if srcsE9 s 28 (wd s 26) ≠ 0 then (zeroT, srcsE9 s 28 (wd s 26)) else ((more9 s (sixL s 8)).1, 0) := by
          unfold one9
          rw [if_neg (by omega), if_neg (by omega), if_neg hn, if_neg (by omega), if_neg h24]; rfl
        have e2 : (more9 s (sixL s 8)).2 = if zer9 (sixL s 8) = true ∧ 0 < wd s 26 then 2 else srcsE9 s 28 (wd s 26) := rfl
        rw [e2] at h6
        refine ⟨us, ur, e, t, h1, h2, h3, h4, h5, ?_, ?_⟩
        · rw [e1, h6]
          by_cases c : zer9 (sixL s 8) = true ∧ 0 < wd s 26
          · rw [if_pos c, if_pos c]
          · rw [if_neg c, if_neg c]
            by_cases d : srcsE9 s 28 (wd s 26) = 0
            · rw [if_neg (by rw [d]; simp)]; exact d
            · rw [if_pos d]
        · intro h0
          rw [h7 h0, e1]
          rw [h0] at h6
          by_cases c : zer9 (sixL s 8) = true ∧ 0 < wd s 26
          · rw [if_pos c] at h6; cases h6
          · rw [if_neg c] at h6 ⊢
            rw [if_neg (by rw [← h6]; simp)]
    · have hg2 : targ9 (sixL s 8) = false := by simpa using hg
      have hR : (one9 s).2 = 2 := by
        unfold one9
        rw [if_neg (by omega), if_neg (by omega), if_pos ⟨((targ9_eq _).1 hg2).2, Or.inr ((targ9_eq _).1 hg2).1⟩]
      by_cases h24 : s.length = 24
      · exact m9q_targ24 w b0 s hs h8 h _ _ _ hA hoa (s.length - 4) (by omega) _ (by omega) hg2 hR
      · exact m9q_targ28 w b0 s hs h8 h _ _ _ hA hoa (s.length - 4) (by omega) _ (by omega) hg2 hR
  · obtain ⟨a, p, ho⟩ := radr_bad b0 (s.drop 8) 4 false (by simp; omega) (by omega) (Or.inr (by simp; omega))
    exact m9q_short w b0 s hs h8 h a _ _ p ho (s.length - 4) (by omega) _ (by unfold one9; rw [if_pos (by omega)])
end Go.Proofs.YtgpccgcppbdlpaaGreat

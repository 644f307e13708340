/- A part of the proof. -/
import Derived.Test.YtlbdehegknehiaaGreatMg00
import Derived.Test.YtlbdehegknehiaaGreatMg30
import Derived.Test.YtlbdehegknehiaaGreatMg17
import Derived.Test.YtlbdehegknehiaaGreatMg31
import Derived.Test.YtlbdehegknehiaaGreatMg34
namespace Go.Proofs.YtlbdehegknehiaaGreat
set_option maxRecDepth 100000
set_option maxHeartbeats 4000000
open Go.RowKit
set_option linter.unusedVariables false
set_option linter.unusedSimpArgs false
attribute [local go_sem ↓] ld_addr st_addr bld_addr ld_tk st_tk bld_tk ld_sd st_sd bld_sd ld_pk st_pk bld_pk ld_mac st_mac bld_mac ld_eth st_eth bld_eth ld_ip st_ip bld_ip ld_iq st_iq bld_iq
attribute [local go_sem] ldr_addr str_addr ldr_tk str_tk ldr_sd str_sd ldr_pk str_pk ldr_mac str_mac ldr_eth str_eth ldr_ip str_ip ldr_iq str_iq row?_drewN_eq row?_drew_eq
theorem keepNew {W : World} {b : Nat} {c Z : Array Value} {T U : TypeId} {L : List Value} (h : ObjAt W b c T) : ObjAt (aggW (W.alloc (.cells Z U)) W.heap.size L) b c T := aggW_other (h.alloc _) _ (Nat.ne_of_lt h.lt)
theorem newObj (W : World) (Z : Array Value) (U : TypeId) {L : List Value} (hl : L.length = Z.size) (h1 : ∀ v ∈ L, v.oneCell' = true) : ObjAt (aggW (W.alloc (.cells Z U)) W.heap.size L) W.heap.size L.toArray U :=
  aggW_obj (L := Z.toList) (by simpa using ObjAt.made W Z U) (by simpa using hl) h1
theorem newBlw (W : World) (o : Obj) (L : List Value) : Below W.heap.size W (aggW (W.alloc o) W.heap.size L) := aggW_below (bbox W o) (Nat.le_refl _) _
theorem resDone {w W : World} {n : Nat} {c : Array Value} {T : TypeId} (h : ObjAt W n c T) (hb : Below w.heap.size w W) (hn : w.heap.size ≤ n) (L : List Value) (hL : L.length = c.size) : row? (aggW W n L) n 0 c.size = some L ∧ Below w.heap.size w (aggW W n L) :=
  ⟨aggW_row (obj_free h (Nat.le_refl _)) hL, aggW_below hb hn _⟩
def TkR (w : World) (t : TK) (e : Int) (x : Ending) (w' : World) : Prop := ∃ us ur, x = .returned (.tuple #[.agg (tkC t us ur).toArray, .int .i64 e]) ∧ Below w.heap.size w w' ∧ adOk t.g ∧ AdsT w' us t.src ∧ RcT w' ur t.rcs
def SdR (w : World) (s : SD) (e : Int) (x : Ending) (w' : World) : Prop := ∃ us ur, x = .returned (.tuple #[.agg (sdC s us ur).toArray, .int .i64 e]) ∧ Below w.heap.size w w' ∧ s.ok ∧ AdsT w' us s.tk.src ∧ RcT w' ur s.tk.rcs
theorem AdsT.ads {w : World} {v : Value} {l : List AD} (h : AdsT w v l) : Ads w v l := h.1
theorem zeroS_ok : zeroS.ok := ⟨zeroA_ok, zeroA_ok, zeroT_ok⟩
theorem otherS_ok (vl : Int) : (otherS vl).ok := ⟨zeroA_ok, zeroA_ok, zeroT_ok⟩
theorem bld_s0 (w : World) : (aggBuild 30 #[]).run Tryz.prog w = .ok (.agg (sdC zeroS (.slice none 0 0) (.slice none 0 0)).toArray) w := bld_run _ _ _ (by kernel_rfl) _
theorem bld_so (vl : Int) (w : World) : (aggBuild 30 #[(0, .int .i64 0), (1, .int .i64 vl)]).run Tryz.prog w = .ok (.agg (sdC (otherS vl) (.slice none 0 0) (.slice none 0 0)).toArray) w := bld_run _ _ _ (by kernel_rfl) _
theorem bld_pk6 (p : PK) (ho : p.ok) (w : World) : (aggBuild 58 #[(0, .agg (adC p.fr).toArray), (1, .agg (adC p.tw).toArray), (2, .int .i64 p.pro), (3, .int .i64 p.hop), (4, .bool p.al), (5, .string (Str p.bd))]).run Tryz.prog w = .ok (.agg (pkC p).toArray) w := by
  refine bld_run _ _ _ ?_ w
  obtain ⟨⟨v, l⟩, ⟨u, m⟩, pro, hop, al, bd⟩ := p
  obtain ⟨h1, h2⟩ := ho
  simp only [adOk] at h1 h2
  obtain ⟨a0, a1, a2, a3, a4, a5, a6, a7, a8, a9, aa, ab, ac, ad, ae, af, rfl⟩ := list16 h1
  obtain ⟨b0, b1, b2, b3, b4, b5, b6, b7, b8, b9, ba, bb, bc, bd', be, bf, rfl⟩ := list16 h2
  kernel_rfl
theorem readPk_core (ty : Int) (b : List UInt8) (q : Ip) (hq : q.ok) (e : Int) (w : World)
    (h6 : ty = 34525 → ∀ W, Calls Tryz.prog 90 #[.string (Str b)] W fun x w' => x = .returned (.tuple #[.agg (ipC q).toArray, .int .i64 e]) ∧ Below W.heap.size W w')
    (h4 : ty ≠ 34525 → ∀ W, Calls Tryz.prog 91 #[.string (Str b)] W fun x w' => x = .returned (.tuple #[.agg (ipC q).toArray, .int .i64 e]) ∧ Below W.heap.size W w') :
    Calls Tryz.prog 39 #[.int .i64 ty, .string (Str b)] w fun x w' => x = .returned (.tuple #[.agg (pkC (if ty = 34525 then pk6 q else pk4 q)).toArray, .int .i64 e]) ∧ Below w.heap.size w w' := by
  have H0 := zh (ObjAt.made w zz38 58)
  have HB := zh (bbox w (.cells zz38 58))
  have H6 := zh h6
  have H4 := zh h4
  have HQ := zh hq
  have HLI := zh (ipC_length hq)
  have hki := fok_ip hq
  have hfm4 := fun W => fmade W zz40 78 40 rfl
  have hfm6 := fun W => fmade W zz40 75 40 rfl
  obtain ⟨P, hP⟩ : ∃ P, P = if ty = 34525 then pk6 q else pk4 q := ⟨_, rfl⟩
  rw [← hP]
  have HP := zh hP
  clear h6 h4 hq hP
  generalize Str b = B at H6 H4 ⊢
  by_cases ht : ty = 34525
  · replace H6 := zh (H6.out ht)
    subst ht
    replace HP := zh (by rw [HP.out]; exact if_pos rfl : P = pk6 q)
    clear H4
    go_enter Tryz.func39, Tryz.ntmps39
    go_upto_region 1 with (fail)
    generalize w.alloc _ = W at H0 HB ⊢
    go_upto_region 3 with (go_at_call 90; (with_reducible refine (H6.out _).mono ?_); rintro x w1 ⟨rfl, hb⟩; have H1 := zh (Bo2.made (Z := zz40) (U := 75) (L := ipC q) (obj_keep H0.out hb) (bstep HB.out hb) HLI.out (ipC_one q)); clear hb)
    generalize aggW (w1.alloc _) w1.heap.size _ = W2 at H1 ⊢
    generalize w1.heap.size = m at H1 ⊢
    have r1 : row? W2 m 4 17 = some (adC P.fr) := by rw [HP.out]; exact IqAt.rfr H1.out.two HQ.out
    have r2 : row? W2 m 21 17 = some (adC P.tw) := by rw [HP.out]; exact IqAt.rto H1.out.two HQ.out
    have c2 : W2.cell? ⟨m, 2, none⟩ = some (.int .i64 P.pro) := by rw [HP.out]; exact IqAt.ttl H1.out.two
    have c3 : W2.cell? ⟨m, 3, none⟩ = some (.int .i64 P.hop) := by rw [HP.out]; exact IqAt.pro H1.out.two
    have c6 : W2.cell? ⟨m, 38, none⟩ = some (.bool P.al) := by rw [HP.out]; exact IqAt.al H1.out.two HQ.out
    have c7 : W2.cell? ⟨m, 39, none⟩ = some (.string (Str P.bd)) := by rw [HP.out]; exact IqAt.bd H1.out.two HQ.out
    have HPO : Hid P.ok := zh (by rw [HP.out]; exact HQ.out)
    have hb6 := fun w0 => bld_pk6 P HPO.out w0
    have hkp := fok_pk HPO.out
    have hf := obj_free_at H1.out.one 0 38 (Nat.le_refl _)
    clear hfm4 hfm6 hki HP
    go_wp2
    obtain ⟨q1, q2⟩ := resDone H1.out.one H1.out.blw (Nat.le_refl _) (pkC P) (pkC_length HPO.out)
    exact bodyPost_ret (results_cell2 Tryz.results39 rfl (ld_some q1 (ldr_pk _ _ _))) rfl ⟨rfl, q2⟩
  · replace H4 := zh (H4.out ht)
    replace HP := zh (by rw [HP.out]; exact if_neg ht : P = pk4 q)
    have t0 : (ty == 34525) = false := by simpa using ht
    clear H6 ht
    go_enter Tryz.func39, Tryz.ntmps39
    go_upto_region 1 with (fail)
    generalize w.alloc _ = W at H0 HB ⊢
    go_upto_region 5 with (go_at_call 91; (with_reducible refine (H4.out _).mono ?_); rintro x w1 ⟨rfl, hb⟩; have H1 := zh (Bo2.made (Z := zz40) (U := 78) (L := ipC q) (obj_keep H0.out hb) (bstep HB.out hb) HLI.out (ipC_one q)); clear hb)
    generalize aggW (w1.alloc _) w1.heap.size _ = W2 at H1 ⊢
    generalize w1.heap.size = m at H1 ⊢
    have r1 : row? W2 m 4 17 = some (adC P.fr) := by rw [HP.out]; exact IpAt.rfr H1.out.two HQ.out
    have r2 : row? W2 m 21 17 = some (adC P.tw) := by rw [HP.out]; exact IpAt.rto H1.out.two HQ.out
    have c2 : W2.cell? ⟨m, 2, none⟩ = some (.int .i64 P.hop) := by rw [HP.out]; exact IpAt.ttl H1.out.two
    have c3 : W2.cell? ⟨m, 3, none⟩ = some (.int .i64 P.pro) := by rw [HP.out]; exact IpAt.pro H1.out.two
    have c6 : W2.cell? ⟨m, 38, none⟩ = some (.bool P.al) := by rw [HP.out]; exact IpAt.al H1.out.two HQ.out
    have c7 : W2.cell? ⟨m, 39, none⟩ = some (.string (Str P.bd)) := by rw [HP.out]; exact IpAt.bd H1.out.two HQ.out
    have HPO : Hid P.ok := zh (by rw [HP.out]; exact HQ.out)
    have hb6 := fun w0 => bld_pk6 P HPO.out w0
    have hkp := fok_pk HPO.out
    have hf := obj_free_at H1.out.one 0 38 (Nat.le_refl _)
    clear hfm4 hfm6 hki HP
    go_wp2
    obtain ⟨q1, q2⟩ := resDone H1.out.one H1.out.blw (Nat.le_refl _) (pkC P) (pkC_length HPO.out)
    exact bodyPost_ret (results_cell2 Tryz.results39 rfl (ld_some q1 (ldr_pk _ _ _))) rfl ⟨rfl, q2⟩
theorem otherF_any (E : Eth) (ho : E.ok) (w : World) : Calls Tryz.prog 38 #[.agg (ethC E).toArray] w fun x w' => x = .returned (.agg (sdC (otherS E.vl) (.slice none 0 0) (.slice none 0 0)).toArray) ∧ Below w.heap.size w w' := by
  have H0 := zh (Bx.made w (ethC E).toArray 54 Tryz.zeroCells30 30)
  have hbl := fun w0 => bld_so E.vl w0
  have HC := zh (fun W (h : EthAt W w.heap.size E) => h.vl ho)
  have hk : fok (sdC (otherS E.vl) (.slice none 0 0) (.slice none 0 0)).toArray 65 = true := fok_sd zeroA_ok zeroA_ok zeroA_ok rfl rfl
  have HL := zh (sdC_length (s := otherS E.vl) zeroA_ok zeroA_ok zeroA_ok (.slice none 0 0) (.slice none 0 0))
  clear ho
  generalize sdC (otherS E.vl) (.slice none 0 0) (.slice none 0 0) = L at hbl hk HL ⊢
  go_enter Tryz.func38, Tryz.ntmps38
  go_upto_region 1 with (fail)
  generalize (w.alloc (.cells (ethC E).toArray _)).alloc _ = W at H0 ⊢
  have c1 := HC.out _ H0.out.one
  have hf := H0.out.free 65 (Nat.le_refl _)
  go_wp2
  obtain ⟨q1, q2⟩ := H0.out.done L HL.out
  exact bodyPost_ret (results_cell Tryz.results38 rfl (ld_some q1 (ldr_sd _ _ _))) rfl ⟨rfl, q2⟩
theorem takeT_core (p : PK) (ho : p.ok) (t : TK) (e : Int) (w : World)
    (h6 : p.tw.1 = true → ∀ W, Calls Tryz.prog 170 #[.string (Str p.bd), .agg (adC p.fr).toArray, .agg (adC p.tw).toArray] W fun x w' => TkR W t e x w')
    (h4 : p.tw.1 = false → ∀ W, Calls Tryz.prog 171 #[.string (Str p.bd)] W fun x w' => TkR W t e x w') :
    Calls Tryz.prog 93 #[.agg (pkC p).toArray] w fun x w' => TkR w t e x w' := by
  have H0 := zh (Bx.made w (pkC p).toArray 58 zz26 28)
  have HV := zh (fun W (h : ObjAt W w.heap.size (pkC p).toArray 58) => PV.of h ho)
  have H6 := zh h6
  have H4 := zh h4
  clear ho h4 h6
  go_enter Tryz.func93, Tryz.ntmps93
  go_upto_region 1 with (fail)
  generalize (w.alloc (.cells (pkC p).toArray _)).alloc _ = W at H0 ⊢
  obtain ⟨-, c1, c2, c3, -, -, -, c7⟩ := HV.out _ H0.out.one
  cases hv : p.tw.1
  · replace H4 := zh (H4.out hv)
    rw [hv] at c3
    clear hv
    go_upto_region 3 with (fail)
    go_wp2_with (go_at_call 171; (with_reducible refine (H4.out _).mono ?_); rintro x wn ⟨us, ur, rfl, hb, hg, hs, hr⟩; replace H0 := zh (H0.out.below hb); have HG := zh hg; have HS := zh hs; have HR := zh hr; clear hb c1 c2 c3 c7 hg hs hr; have hfr := H0.out.free 26 (Nat.le_refl _); have hkt : fok (tkC t us ur).toArray 26 = true := fok_tk HG.out HS.out.1.one HR.out.rcs.one)
    obtain ⟨q1, q2⟩ := H0.out.done (tkC t us ur) (tkC_length HG.out _ _)
    exact bodyPost_ret (results_cell2 Tryz.results93 rfl (ld_some q1 (ldr_tk _ _ _))) rfl ⟨us, ur, rfl, q2, HG.out, HS.out.far H0.out.two (by decide) (aggW_grown _ _ _), HR.out.far H0.out.two (by decide) (by decide) (aggW_grown _ _ _)⟩
  · replace H6 := zh (H6.out hv)
    rw [hv] at c3
    clear hv
    go_upto_region 2 with (fail)
    go_wp2_with (go_at_call 170; (with_reducible refine (H6.out _).mono ?_); rintro x wn ⟨us, ur, rfl, hb, hg, hs, hr⟩; replace H0 := zh (H0.out.below hb); have HG := zh hg; have HS := zh hs; have HR := zh hr; clear hb c1 c2 c3 c7 hg hs hr; have hfr := H0.out.free 26 (Nat.le_refl _); have hkt : fok (tkC t us ur).toArray 26 = true := fok_tk HG.out HS.out.1.one HR.out.rcs.one)
    obtain ⟨q1, q2⟩ := H0.out.done (tkC t us ur) (tkC_length HG.out _ _)
    exact bodyPost_ret (results_cell2 Tryz.results93 rfl (ld_some q1 (ldr_tk _ _ _))) rfl ⟨us, ur, rfl, q2, HG.out, HS.out.far H0.out.two (by decide) (aggW_grown _ _ _), HR.out.far H0.out.two (by decide) (by decide) (aggW_grown _ _ _)⟩
def rtV (vl : Int) (p : PK) (t : TK) (e : Int) (g : Bool) : SD × Int := if e ≠ 0 then (zeroS, e) else if p.hop ≠ 1 ∨ (needsA t = true ∧ p.al = false) ∨ g = false then (zeroS, 2) else (⟨1, vl, p.fr, p.tw, t, 0, 0, []⟩, 0)
theorem bld_st (vl : Int) (p : PK) (ho : p.ok) (t : TK) (hg : adOk t.g) (us ur : Value) (w : World) : (aggBuild 30 #[(0, .int .i64 1), (1, .int .i64 vl), (2, .agg (adC p.fr).toArray), (3, .agg (adC p.tw).toArray), (4, .agg (tkC t us ur).toArray)]).run Tryz.prog w = .ok (.agg (sdC ⟨1, vl, p.fr, p.tw, t, 0, 0, []⟩ us ur).toArray) w := by
  refine bld_run _ _ _ ?_ w
  obtain ⟨⟨v, l⟩, ⟨u, m⟩, pro, hop, al, bd⟩ := p
  obtain ⟨h1, h2⟩ := ho
  obtain ⟨v6, ver, kind, resp, ⟨gv, gl⟩, quiet, rob, every, src, rcs⟩ := t
  simp only [adOk] at h1 h2 hg
  obtain ⟨a0, a1, a2, a3, a4, a5, a6, a7, a8, a9, aa, ab, ac, ad, ae, af, rfl⟩ := list16 h1
  obtain ⟨b0, b1, b2, b3, b4, b5, b6, b7, b8, b9, ba, bb, bc, bd', be, bf, rfl⟩ := list16 h2
  obtain ⟨g0, g1, g2, g3, g4, g5, g6, g7, g8, g9, ga, gb, gc, gd, ge, gf, rfl⟩ := list16 hg
  kernel_rfl
theorem readTk_core (vl : Int) (p : PK) (ho : p.ok) (t : TK) (htk : t.ok) (e : Int) (g : Bool) (w : World)
    (hT : ∀ W, Calls Tryz.prog 93 #[.agg (pkC p).toArray] W fun x w' => TkR W t e x w')
    (hG : e = 0 → ∀ us ur W, Ads W us t.src → Rcs W ur t.rcs → Calls Tryz.prog 8 #[.agg (sdC ⟨1, vl, p.fr, p.tw, t, 0, 0, []⟩ us ur).toArray] W fun x w' => x = .returned (.bool g) ∧ Below W.heap.size W w') :
    Calls Tryz.prog 41 #[.int .i64 vl, .agg (pkC p).toArray] w fun x w' => SdR w (rtV vl p t e g).1 (rtV vl p t e g).2 x w' := by
  have H0 := zh (Bx.made w (pkC p).toArray 58 Tryz.zeroCells30 30)
  have HV := zh (fun W (h : ObjAt W w.heap.size (pkC p).toArray 58) => PV.of h ho)
  have HTT := zh hT
  have HGG := zh hG
  have HO := zh ho
  have HKT := zh htk
  have hb0 := bld_s0
  have k0 : fok (sdC zeroS (.slice none 0 0) (.slice none 0 0)).toArray 65 = true := fok_sd zeroA_ok zeroA_ok zeroA_ok rfl rfl
  have hfm26 := fun W => fmade W zz26 28 26 rfl
  have hfm65 := fun W => fmade W Tryz.zeroCells30 30 65 rfl
  obtain ⟨V, hV⟩ : ∃ V, V = rtV vl p t e g := ⟨_, rfl⟩
  rw [← hV]
  have HV2 := zh hV
  clear ho hT hG htk hV
  go_enter Tryz.func41, Tryz.ntmps41
  go_upto_region 1 with (fail)
  generalize (w.alloc (.cells (pkC p).toArray _)).alloc _ = W at H0 ⊢
  have c0 := (HV.out _ H0.out.one).1
  go_upto_region 2 with (go_at_call 93; (with_reducible refine (HTT.out _).mono ?_); rintro x wn ⟨us, ur, rfl, hb, hg, hs, hr⟩; replace H0 := zh (H0.out.below hb); have HK := zh hg; have HA := zh hs; have HC := zh hr; clear hb c0 hg hs hr; have hkt : fok (tkC t us ur).toArray 26 = true := fok_tk HK.out HA.out.1.one HC.out.rcs.one)
  have HW := zh (newBlw wn (.cells zz26 28) (tkC t us ur))
  have HR0 := zh (keepNew (L := tkC t us ur) (Z := zz26) (U := 28) H0.out.two)
  have HP := zh (keepNew (L := tkC t us ur) (Z := zz26) (U := 28) H0.out.one)
  have HT1 := zh (newObj wn zz26 28 (L := tkC t us ur) (tkC_length HK.out _ _) (tkC_one HA.out.1.one HC.out.rcs.one))
  have HBB := zh (bstep H0.out.blw HW.out)
  replace HA := zh (HA.out.below HW.out)
  replace HC := zh (HC.out.below HW.out)
  clear HW H0
  generalize aggW (wn.alloc _) wn.heap.size _ = W1 at HR0 HP HT1 HBB HA HC ⊢
  generalize wn.heap.size = m at HT1 ⊢
  have HRT : Hid (∀ W b, ObjAt W b (tkC t us ur).toArray 28 → row? W b 0 26 = some (tkC t us ur)) := zh fun W b h => obj_re h (A := []) (M := tkC t us ur) (C := []) (by simp) rfl (tkC_length HK.out _ _)
  by_cases he : e = 0
  · subst he
    replace HGG := zh (HGG.out rfl)
    obtain ⟨c0, c1, c2, c3, c4, c5, c6, c7⟩ := HV.out _ HP.out
    have rt := HRT.out _ _ HT1.out
    have hbs := fun w0 => bld_st vl p HO.out t HK.out us ur w0
    have hks : fok (sdC ⟨1, vl, p.fr, p.tw, t, 0, 0, []⟩ us ur).toArray 65 = true := fok_sd HO.out.1 HO.out.2 HK.out HA.out.1.one HC.out.rcs.one
    have HG := zh (HGG.out us ur)
    have HLS := zh (sdC_length (s := ⟨1, vl, p.fr, p.tw, t, 0, 0, []⟩) HO.out.1 HO.out.2 HK.out us ur)
    have HRS : Hid (∀ W b, ObjAt W b (sdC ⟨1, vl, p.fr, p.tw, t, 0, 0, []⟩ us ur).toArray 30 → row? W b 0 65 = some (sdC ⟨1, vl, p.fr, p.tw, t, 0, 0, []⟩ us ur)) := zh fun W b h => obj_re h (A := []) (M := sdC ⟨1, vl, p.fr, p.tw, t, 0, 0, []⟩ us ur) (C := []) (by simp) rfl HLS.out
    have HW := zh (newBlw W1 (.cells Tryz.zeroCells30 30) (sdC ⟨1, vl, p.fr, p.tw, t, 0, 0, []⟩ us ur))
    have HS1 := zh (newObj W1 Tryz.zeroCells30 30 (L := sdC ⟨1, vl, p.fr, p.tw, t, 0, 0, []⟩ us ur) HLS.out (sdC_one HA.out.1.one HC.out.rcs.one))
    replace HR0 := zh (keepNew (L := sdC ⟨1, vl, p.fr, p.tw, t, 0, 0, []⟩ us ur) (Z := Tryz.zeroCells30) (U := 30) HR0.out)
    replace HP := zh (keepNew (L := sdC ⟨1, vl, p.fr, p.tw, t, 0, 0, []⟩ us ur) (Z := Tryz.zeroCells30) (U := 30) HP.out)
    replace HT1 := zh (keepNew (L := sdC ⟨1, vl, p.fr, p.tw, t, 0, 0, []⟩ us ur) (Z := Tryz.zeroCells30) (U := 30) HT1.out)
    replace HBB := zh (bstep HBB.out HW.out)
    replace HA := zh (HA.out.below HW.out)
    replace HC := zh (HC.out.below HW.out)
    go_upto_region 5 with (fail)
    generalize aggW (W1.alloc _) W1.heap.size _ = W2 at HR0 HP HT1 HS1 HBB HA HC ⊢
    generalize W1.heap.size = m2 at HS1 ⊢
    clear HW hbs hfm26 hfm65 c0 c1 c2 c3 c4 c5 c6 c7 rt hkt
    have HN := zh (fun W => needsA_any t us ur W HK.out)
    obtain ⟨na, hna⟩ : ∃ na, na = needsA t := ⟨_, rfl⟩
    rw [← hna] at HN
    have HNA := zh hna
    obtain ⟨c0, c1, c2, c3, c4, c5, c6, c7⟩ := HV.out _ HP.out
    have rt := HRT.out _ _ HT1.out
    have rs := HRS.out _ _ HS1.out
    have hfr := obj_free_at HR0.out 0 65 (Nat.le_refl _)
    clear hna
    by_cases h1 : p.hop = 1
    · have E1 := zh h1
      have t1 : (p.hop != 1) = false := by simpa using h1
      clear h1
      cases na with
      | true =>
        have N1 := zh HNA.out.symm
        cases ha : p.al with
        | true =>
          rw [ha] at c6
          have A1 := zh ha
          clear ha
          cases g with
          | true =>
            go_wp2_with (first
                | (go_at_call 68; (with_reducible refine (HN.out _).mono ?_); rintro x wn ⟨rfl, hb⟩; replace HR0 := zh (obj_keep HR0.out hb); replace HP := zh (obj_keep HP.out hb); replace HT1 := zh (obj_keep HT1.out hb); replace HS1 := zh (obj_keep HS1.out hb); replace HBB := zh (bstep HBB.out hb); replace HA := zh (HA.out.below hb); replace HC := zh (HC.out.below hb); clear hb c0 c1 c2 c3 c4 c5 c6 c7 rt rs; obtain ⟨c0, c1, c2, c3, c4, c5, c6, c7⟩ := HV.out _ HP.out; have rt := HRT.out _ _ HT1.out; have rs := HRS.out _ _ HS1.out; have hfr := obj_free_at HR0.out 0 65 (Nat.le_refl _); first | rw [A1.out] at c6 | skip)
                | (go_at_call 8; (with_reducible refine (HG.out _ (AdsT.ads HA.out) (RcT.rcs HC.out)).mono ?_); rintro x wn ⟨rfl, hb⟩; replace HR0 := zh (obj_keep HR0.out hb); replace HS1 := zh (obj_keep HS1.out hb); replace HBB := zh (bstep HBB.out hb); replace HA := zh (HA.out.below hb); replace HC := zh (HC.out.below hb); clear hb c0 c1 c2 c3 c4 c5 c6 c7 rt rs; have rs := HRS.out _ _ HS1.out; have hfr := obj_free_at HR0.out 0 65 (Nat.le_refl _)))
            obtain rfl : V = (⟨1, vl, p.fr, p.tw, t, 0, 0, []⟩, 0) := by rw [HV2.out, rtV, if_neg (by simp), if_neg (by simp [E1.out, N1.out, A1.out])]
            obtain ⟨q1, q2⟩ := resDone HR0.out HBB.out (Nat.le_succ _) (sdC ⟨1, vl, p.fr, p.tw, t, 0, 0, []⟩ us ur) (sdC_length (s := ⟨1, vl, p.fr, p.tw, t, 0, 0, []⟩) HO.out.1 HO.out.2 HK.out _ _)
            exact bodyPost_ret (results_cell2 Tryz.results41 rfl (ld_some q1 (ldr_sd _ _ _))) rfl ⟨us, ur, rfl, q2, ⟨HO.out.1, HO.out.2, HKT.out⟩, HA.out.far HR0.out (by decide) (aggW_grown _ _ _), HC.out.far HR0.out (by decide) (by decide) (aggW_grown _ _ _)⟩
          | false =>
            go_wp2_with (first
                | (go_at_call 68; (with_reducible refine (HN.out _).mono ?_); rintro x wn ⟨rfl, hb⟩; replace HR0 := zh (obj_keep HR0.out hb); replace HP := zh (obj_keep HP.out hb); replace HT1 := zh (obj_keep HT1.out hb); replace HS1 := zh (obj_keep HS1.out hb); replace HBB := zh (bstep HBB.out hb); replace HA := zh (HA.out.below hb); replace HC := zh (HC.out.below hb); clear hb c0 c1 c2 c3 c4 c5 c6 c7 rt rs; obtain ⟨c0, c1, c2, c3, c4, c5, c6, c7⟩ := HV.out _ HP.out; have rt := HRT.out _ _ HT1.out; have rs := HRS.out _ _ HS1.out; have hfr := obj_free_at HR0.out 0 65 (Nat.le_refl _); first | rw [A1.out] at c6 | skip)
                | (go_at_call 8; (with_reducible refine (HG.out _ (AdsT.ads HA.out) (RcT.rcs HC.out)).mono ?_); rintro x wn ⟨rfl, hb⟩; replace HR0 := zh (obj_keep HR0.out hb); replace HS1 := zh (obj_keep HS1.out hb); replace HBB := zh (bstep HBB.out hb); replace HA := zh (HA.out.below hb); replace HC := zh (HC.out.below hb); clear hb c0 c1 c2 c3 c4 c5 c6 c7 rt rs; have rs := HRS.out _ _ HS1.out; have hfr := obj_free_at HR0.out 0 65 (Nat.le_refl _)))
            obtain ⟨q1, q2⟩ := resDone HR0.out HBB.out (Nat.le_succ _) (sdC zeroS (.slice none 0 0) (.slice none 0 0)) (sdC_length (s := zeroS) zeroA_ok zeroA_ok zeroA_ok _ _)
            obtain rfl : V = (zeroS, 2) := by rw [HV2.out, rtV, if_neg (by simp), if_pos (by simp [E1.out, N1.out, A1.out])]
            exact bodyPost_ret (results_cell2 Tryz.results41 rfl (ld_some q1 (ldr_sd _ _ _))) rfl ⟨_, _, rfl, q2, zeroS_ok, AdsT.nil _, RcT.nil _⟩
        | false =>
          rw [ha] at c6
          have A1 := zh ha
          clear ha
          go_wp2_with (first
              | (go_at_call 68; (with_reducible refine (HN.out _).mono ?_); rintro x wn ⟨rfl, hb⟩; replace HR0 := zh (obj_keep HR0.out hb); replace HP := zh (obj_keep HP.out hb); replace HT1 := zh (obj_keep HT1.out hb); replace HS1 := zh (obj_keep HS1.out hb); replace HBB := zh (bstep HBB.out hb); replace HA := zh (HA.out.below hb); replace HC := zh (HC.out.below hb); clear hb c0 c1 c2 c3 c4 c5 c6 c7 rt rs; obtain ⟨c0, c1, c2, c3, c4, c5, c6, c7⟩ := HV.out _ HP.out; have rt := HRT.out _ _ HT1.out; have rs := HRS.out _ _ HS1.out; have hfr := obj_free_at HR0.out 0 65 (Nat.le_refl _); first | rw [A1.out] at c6 | skip))
          obtain ⟨q1, q2⟩ := resDone HR0.out HBB.out (Nat.le_succ _) (sdC zeroS (.slice none 0 0) (.slice none 0 0)) (sdC_length (s := zeroS) zeroA_ok zeroA_ok zeroA_ok _ _)
          obtain rfl : V = (zeroS, 2) := by rw [HV2.out, rtV, if_neg (by simp), if_pos (by simp [E1.out, N1.out, A1.out])]
          exact bodyPost_ret (results_cell2 Tryz.results41 rfl (ld_some q1 (ldr_sd _ _ _))) rfl ⟨_, _, rfl, q2, zeroS_ok, AdsT.nil _, RcT.nil _⟩
      | false =>
        have N1 := zh HNA.out.symm
        cases g with
        | true =>
          go_wp2_with (first
              | (go_at_call 68; (with_reducible refine (HN.out _).mono ?_); rintro x wn ⟨rfl, hb⟩; replace HR0 := zh (obj_keep HR0.out hb); replace HP := zh (obj_keep HP.out hb); replace HT1 := zh (obj_keep HT1.out hb); replace HS1 := zh (obj_keep HS1.out hb); replace HBB := zh (bstep HBB.out hb); replace HA := zh (HA.out.below hb); replace HC := zh (HC.out.below hb); clear hb c0 c1 c2 c3 c4 c5 c6 c7 rt rs; obtain ⟨c0, c1, c2, c3, c4, c5, c6, c7⟩ := HV.out _ HP.out; have rt := HRT.out _ _ HT1.out; have rs := HRS.out _ _ HS1.out; have hfr := obj_free_at HR0.out 0 65 (Nat.le_refl _); first | rw [A1.out] at c6 | skip)
              | (go_at_call 8; (with_reducible refine (HG.out _ (AdsT.ads HA.out) (RcT.rcs HC.out)).mono ?_); rintro x wn ⟨rfl, hb⟩; replace HR0 := zh (obj_keep HR0.out hb); replace HS1 := zh (obj_keep HS1.out hb); replace HBB := zh (bstep HBB.out hb); replace HA := zh (HA.out.below hb); replace HC := zh (HC.out.below hb); clear hb c0 c1 c2 c3 c4 c5 c6 c7 rt rs; have rs := HRS.out _ _ HS1.out; have hfr := obj_free_at HR0.out 0 65 (Nat.le_refl _)))
          obtain rfl : V = (⟨1, vl, p.fr, p.tw, t, 0, 0, []⟩, 0) := by rw [HV2.out, rtV, if_neg (by simp), if_neg (by simp [E1.out, N1.out])]
          obtain ⟨q1, q2⟩ := resDone HR0.out HBB.out (Nat.le_succ _) (sdC ⟨1, vl, p.fr, p.tw, t, 0, 0, []⟩ us ur) (sdC_length (s := ⟨1, vl, p.fr, p.tw, t, 0, 0, []⟩) HO.out.1 HO.out.2 HK.out _ _)
          exact bodyPost_ret (results_cell2 Tryz.results41 rfl (ld_some q1 (ldr_sd _ _ _))) rfl ⟨us, ur, rfl, q2, ⟨HO.out.1, HO.out.2, HKT.out⟩, HA.out.far HR0.out (by decide) (aggW_grown _ _ _), HC.out.far HR0.out (by decide) (by decide) (aggW_grown _ _ _)⟩
        | false =>
          go_wp2_with (first
              | (go_at_call 68; (with_reducible refine (HN.out _).mono ?_); rintro x wn ⟨rfl, hb⟩; replace HR0 := zh (obj_keep HR0.out hb); replace HP := zh (obj_keep HP.out hb); replace HT1 := zh (obj_keep HT1.out hb); replace HS1 := zh (obj_keep HS1.out hb); replace HBB := zh (bstep HBB.out hb); replace HA := zh (HA.out.below hb); replace HC := zh (HC.out.below hb); clear hb c0 c1 c2 c3 c4 c5 c6 c7 rt rs; obtain ⟨c0, c1, c2, c3, c4, c5, c6, c7⟩ := HV.out _ HP.out; have rt := HRT.out _ _ HT1.out; have rs := HRS.out _ _ HS1.out; have hfr := obj_free_at HR0.out 0 65 (Nat.le_refl _); first | rw [A1.out] at c6 | skip)
              | (go_at_call 8; (with_reducible refine (HG.out _ (AdsT.ads HA.out) (RcT.rcs HC.out)).mono ?_); rintro x wn ⟨rfl, hb⟩; replace HR0 := zh (obj_keep HR0.out hb); replace HS1 := zh (obj_keep HS1.out hb); replace HBB := zh (bstep HBB.out hb); replace HA := zh (HA.out.below hb); replace HC := zh (HC.out.below hb); clear hb c0 c1 c2 c3 c4 c5 c6 c7 rt rs; have rs := HRS.out _ _ HS1.out; have hfr := obj_free_at HR0.out 0 65 (Nat.le_refl _)))
          obtain ⟨q1, q2⟩ := resDone HR0.out HBB.out (Nat.le_succ _) (sdC zeroS (.slice none 0 0) (.slice none 0 0)) (sdC_length (s := zeroS) zeroA_ok zeroA_ok zeroA_ok _ _)
          obtain rfl : V = (zeroS, 2) := by rw [HV2.out, rtV, if_neg (by simp), if_pos (by simp [E1.out, N1.out])]
          exact bodyPost_ret (results_cell2 Tryz.results41 rfl (ld_some q1 (ldr_sd _ _ _))) rfl ⟨_, _, rfl, q2, zeroS_ok, AdsT.nil _, RcT.nil _⟩
    · have t1 : (p.hop != 1) = true := by simpa using h1
      have E1 := zh h1
      clear h1
      go_wp2
      obtain ⟨q1, q2⟩ := resDone HR0.out HBB.out (Nat.le_succ _) (sdC zeroS (.slice none 0 0) (.slice none 0 0)) (sdC_length (s := zeroS) zeroA_ok zeroA_ok zeroA_ok _ _)
      obtain rfl : V = (zeroS, 2) := by rw [HV2.out, rtV, if_neg (by simp), if_pos (by simp [E1.out])]
      exact bodyPost_ret (results_cell2 Tryz.results41 rfl (ld_some q1 (ldr_sd _ _ _))) rfl ⟨_, _, rfl, q2, zeroS_ok, AdsT.nil _, RcT.nil _⟩
  · have t0 : (e != 0) = true := by simpa using he
    have hv := show V = (zeroS, e) by rw [HV2.out, rtV, if_pos he]
    have HVV := zh hv
    have hfr := obj_free_at HR0.out 0 65 (Nat.le_refl _)
    clear hv he hfm26 hfm65
    go_wp2
    obtain ⟨q1, q2⟩ := resDone HR0.out HBB.out (Nat.le_succ _) (sdC zeroS (.slice none 0 0) (.slice none 0 0)) (sdC_length (s := zeroS) zeroA_ok zeroA_ok zeroA_ok _ _)
    obtain rfl : V = (zeroS, e) := HVV.out
    exact bodyPost_ret (results_cell2 Tryz.results41 rfl (ld_some q1 (ldr_sd _ _ _))) rfl ⟨_, _, rfl, q2, zeroS_ok, AdsT.nil _, RcT.nil _⟩
end Go.Proofs.YtlbdehegknehiaaGreat

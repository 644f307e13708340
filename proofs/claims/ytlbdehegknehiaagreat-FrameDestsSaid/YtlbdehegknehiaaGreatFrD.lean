/- A part of the proof. -/
import Derived.Test.YtlbdehegknehiaaGreatMg00
import Derived.Test.YtlbdehegknehiaaGreatFrR
namespace Go.Proofs.YtlbdehegknehiaaGreat
set_option maxRecDepth 100000
set_option maxHeartbeats 4000000
open Go.RowKit
set_option linter.unusedVariables false
set_option linter.unusedSimpArgs false
attribute [local go_sem ↓] ld_addr st_addr bld_addr ld_tk st_tk bld_tk ld_sd st_sd bld_sd ld_pk st_pk bld_pk ld_mac st_mac bld_mac ld_eth st_eth bld_eth
attribute [local go_sem] ldr_addr str_addr ldr_tk str_tk ldr_sd str_sd ldr_pk str_pk ldr_mac str_mac ldr_eth str_eth row?_drewN_eq row?_drew_eq
def rfV (E : Eth) (e1 : Int) (P : PK) (e2 : Int) (V : SD × Int) : SD × Int := if e1 ≠ 0 then (zeroS, e1) else if E.ty ≠ 2048 ∧ E.ty ≠ 34525 then (otherS E.vl, 0) else if e2 ≠ 0 then (zeroS, e2) else if grpA P.fr = true then (zeroS, 2) else if grpA P.tw = false then (otherS E.vl, 0) else if Eth.to E ≠ macG P.tw.1 P.tw.2 then (zeroS, 2) else if isTk P = true then V else (sayD E.vl P, 0)
theorem bld_da (vl : Int) (p : PK) (ho : p.ok) (w : World) : (aggBuild 30 #[(0, .int .i64 2), (1, .int .i64 vl), (2, .agg (adC p.fr).toArray), (3, .agg (adC p.tw).toArray), (5, .int .i64 p.pro), (6, .int .i64 p.hop), (7, .string (Str p.bd))]).run Tryz.prog w = .ok (.agg (sdC (sayD vl p) (.slice none 0 0) (.slice none 0 0)).toArray) w := by
  refine bld_run _ _ _ ?_ w
  obtain ⟨⟨v, l⟩, ⟨u, m⟩, pro, hop, al, bd⟩ := p
  obtain ⟨h1, h2⟩ := ho
  simp only [adOk] at h1 h2
  obtain ⟨a0, a1, a2, a3, a4, a5, a6, a7, a8, a9, aa, ab, ac, ad, ae, af, rfl⟩ := list16 h1
  obtain ⟨b0, b1, b2, b3, b4, b5, b6, b7, b8, b9, ba, bb, bc, bd', be, bf, rfl⟩ := list16 h2
  kernel_rfl
theorem readF_core (b : List UInt8) (E : Eth) (hEo : E.ok) (e1 : Int) (P : PK) (hPo : P.ok) (hPl : P.bd.length ≤ 100000) (e2 : Int) (V0 : SD × Int) (w : World)
    (hE : ∀ W, Calls Tryz.prog 37 #[.string (Str b)] W fun x w' => x = .returned (.tuple #[.agg (ethC E).toArray, .int .i64 e1]) ∧ Below W.heap.size W w')
    (hP : e1 = 0 → E.ty = 2048 ∨ E.ty = 34525 → ∀ W, Calls Tryz.prog 39 #[.int .i64 E.ty, .string (Str E.bd)] W fun x w' => x = .returned (.tuple #[.agg (pkC P).toArray, .int .i64 e2]) ∧ Below W.heap.size W w')
    (hT : e2 = 0 → isTk P = true → ∀ W, Calls Tryz.prog 41 #[.int .i64 E.vl, .agg (pkC P).toArray] W fun x w' => SdR W V0.1 V0.2 x w') :
    Calls Tryz.prog 13 #[.string (Str b)] w fun x w' => SdR w (rfV E e1 P e2 V0).1 (rfV E e1 P e2 V0).2 x w' := by
  have H0 := zh (ObjAt.made w Tryz.zeroCells30 30)
  have HB := zh (bbox w (.cells Tryz.zeroCells30 30))
  have HE := zh hE
  have HP := zh hP
  have HTK := zh hT
  have HOT := zh (fun W => otherF_any E hEo W)
  have HEO := zh hEo
  have HPO := zh hPo
  have HI := zh (fun W => isTk_any P hPo hPl W)
  have HGR : Hid (∀ W, Calls Tryz.prog 29 #[.agg (adC P.fr).toArray] W fun x w' => x = .returned (.bool (grpA P.fr)) ∧ Below W.heap.size W w') := zh fun W => group_any P.fr.1 P.fr.2 hPo.1 W
  have HMC : Hid (∀ W, Calls Tryz.prog 21 #[.agg (adC P.tw).toArray] W fun x w' => x = .returned (.tuple #[.agg (B8 (macG P.tw.1 P.tw.2)).toArray, .bool (grpA P.tw)]) ∧ Below W.heap.size W w') := zh fun W => mac_any P.tw.1 P.tw.2 hPo.2 W
  have hD := macG_length P.tw.1 P.tw.2 hPo.2
  have hb0 := bld_s0
  have k0 : fok (sdC zeroS (.slice none 0 0) (.slice none 0 0)).toArray 65 = true := fok_sd zeroA_ok zeroA_ok zeroA_ok rfl rfl
  have ko : fok (sdC (otherS E.vl) (.slice none 0 0) (.slice none 0 0)).toArray 65 = true := fok_sd zeroA_ok zeroA_ok zeroA_ok rfl rfl
  have ke := fok_eth hEo
  have kp := fok_pk hPo
  have hfmE := fun W => fmade W zze 54 17 rfl
  have hfmP := fun W => fmade W zz38 58 38 rfl
  have hfmM := fun W => fmade W #[.int .u8 0, .int .u8 0, .int .u8 0, .int .u8 0, .int .u8 0, .int .u8 0] 32 6 rfl
  obtain ⟨V, hV⟩ : ∃ V, V = rfV E e1 P e2 V0 := ⟨_, rfl⟩
  rw [← hV]
  have HV2 := zh hV
  have HVE := zh (fun W m (h : EthAt W m E) => (⟨h.row hEo, h.rto hEo, h.vl hEo, h.ty hEo, h.bd hEo⟩ : row? W m 0 17 = some (ethC E) ∧ row? W m 0 6 = some (B8 (Eth.to E)) ∧ W.cell? ⟨m, 13, none⟩ = some (.int .i64 E.vl) ∧ W.cell? ⟨m, 15, none⟩ = some (.int .i64 E.ty) ∧ W.cell? ⟨m, 16, none⟩ = some (.string (Str E.bd))))
  have HVP := zh (fun W m (h : ObjAt W m (pkC P).toArray 58) => PV.of h hPo)
  generalize Str b = B at HE ⊢
  clear hE hP hT hEo hPo hPl hV
  go_enter Tryz.func13, Tryz.ntmps13
  go_upto_region 1 with (fail)
  generalize w.alloc _ = W at H0 HB ⊢
  go_upto_region 2 with (go_at_call 37; (with_reducible refine (HE.out _).mono ?_); rintro x wn ⟨rfl, hb⟩; replace H0 := zh (obj_keep H0.out hb); replace HB := zh (bstep HB.out hb); clear hb)
  have HW := zh (newBlw wn (.cells zze 54) (ethC E))
  have HR0 := zh (keepNew (L := ethC E) (Z := zze) (U := 54) H0.out)
  have HE1 := zh (newObj wn zze 54 (L := ethC E) (ethC_length HEO.out) (ethC_one E))
  have HBB := zh (bstep HB.out HW.out)
  clear HW H0 HB HE hfmE
  generalize aggW (wn.alloc _) wn.heap.size _ = W1 at HR0 HE1 HBB ⊢
  generalize wn.heap.size = m1 at HE1 ⊢
  have hfr := obj_free_at HR0.out 0 65 (Nat.le_refl _)
  obtain ⟨g0, g1, g2, g3, g4⟩ := HVE.out _ _ HE1.out
  by_cases h1 : e1 = 0
  case neg =>
    have t1 : (e1 != 0) = true := by simpa using h1
    have E1 := zh h1
    clear h1
    go_wp2
    obtain rfl : V = (zeroS, e1) := by rw [HV2.out, rfV, if_pos E1.out]
    obtain ⟨q1, q2⟩ := resDone HR0.out HBB.out (Nat.le_refl _) (sdC zeroS (.slice none 0 0) (.slice none 0 0)) (sdC_length (s := zeroS) zeroA_ok zeroA_ok zeroA_ok _ _)
    exact bodyPost_ret (results_cell2 Tryz.results13 rfl (ld_some q1 (ldr_sd _ _ _))) rfl ⟨_, _, rfl, q2, zeroS_ok, AdsT.nil _, RcT.nil _⟩
  subst h1
  replace HP := zh (HP.out rfl)
  have hty : E.ty = 2048 ∨ E.ty = 34525 ∨ (E.ty ≠ 2048 ∧ E.ty ≠ 34525) := by omega
  rcases hty with hty | hty | ⟨hty, hty2⟩
  case inr.inr =>
    have t1 : (E.ty != 2048) = true := by simpa using hty
    have t2 : (E.ty != 34525) = true := by simpa using hty2
    have E1 := zh hty
    have E2 := zh hty2
    clear hty hty2
    go_wp2_with (go_at_call 38; (with_reducible refine (HOT.out _).mono ?_); rintro x wo ⟨rfl, hb⟩; replace HR0 := zh (obj_keep HR0.out hb); replace HBB := zh (bstep HBB.out hb); clear hb g0 g1 g2 g3 g4 hfr; have hfr := obj_free_at HR0.out 0 65 (Nat.le_refl _))
    obtain rfl : V = (otherS E.vl, 0) := by rw [HV2.out, rfV, if_neg (by simp), if_pos ⟨E1.out, E2.out⟩]
    obtain ⟨q1, q2⟩ := resDone HR0.out HBB.out (Nat.le_refl _) (sdC (otherS E.vl) (.slice none 0 0) (.slice none 0 0)) (sdC_length (s := (otherS E.vl)) zeroA_ok zeroA_ok zeroA_ok _ _)
    exact bodyPost_ret (results_cell2 Tryz.results13 rfl (ld_some q1 (ldr_sd _ _ _))) rfl ⟨_, _, rfl, q2, otherS_ok _, AdsT.nil _, RcT.nil _⟩
  all_goals (
    replace HP := zh (HP.out (by simp [hty]))
    have HTY : Hid (E.ty = 2048 ∨ E.ty = 34525) := zh (by simp [hty])
    rw [hty] at g3 HP
    clear hty
    go_upto_region 7 with (first
      | (go_at_call 39; (with_reducible refine (HP.out _).mono ?_); rintro x wn ⟨rfl, hb⟩; replace HR0 := zh (obj_keep HR0.out hb); replace HE1 := zh (obj_keep HE1.out hb); replace HBB := zh (bstep HBB.out hb); clear hb g0 g1 g2 g3 g4 hfr; skip))
    have HW := zh (newBlw wn (.cells zz38 58) (pkC P))
    replace HR0 := zh (keepNew (L := pkC P) (Z := zz38) (U := 58) HR0.out)
    replace HE1 := zh (keepNew (L := pkC P) (Z := zz38) (U := 58) HE1.out)
    have HP1 := zh (newObj wn zz38 58 (L := pkC P) (pkC_length HPO.out) (pkC_one P))
    replace HBB := zh (bstep HBB.out HW.out)
    clear HW HP hfmP kp
    generalize aggW (wn.alloc _) wn.heap.size _ = W2 at HR0 HE1 HP1 HBB ⊢
    generalize wn.heap.size = m2 at HP1 ⊢
    have c2 := (HVP.out _ _ HP1.out).2.2.1
    go_upto_region 8 with (first
      | (go_at_call 21; (with_reducible refine (HMC.out _).mono ?_); rintro x wn ⟨rfl, hb⟩; replace HR0 := zh (obj_keep HR0.out hb); replace HE1 := zh (obj_keep HE1.out hb); replace HP1 := zh (obj_keep HP1.out hb); replace HBB := zh (bstep HBB.out hb); clear hb c2; have hk6 := fok_bytes (macG P.tw.1 P.tw.2) 6 hD))
    have HW := zh (newBlw wn (.cells #[.int .u8 0, .int .u8 0, .int .u8 0, .int .u8 0, .int .u8 0, .int .u8 0] 32) (B8 (macG P.tw.1 P.tw.2)))
    replace HR0 := zh (keepNew (L := B8 (macG P.tw.1 P.tw.2)) (Z := #[.int .u8 0, .int .u8 0, .int .u8 0, .int .u8 0, .int .u8 0, .int .u8 0]) (U := 32) HR0.out)
    replace HE1 := zh (keepNew (L := B8 (macG P.tw.1 P.tw.2)) (Z := #[.int .u8 0, .int .u8 0, .int .u8 0, .int .u8 0, .int .u8 0, .int .u8 0]) (U := 32) HE1.out)
    replace HP1 := zh (keepNew (L := B8 (macG P.tw.1 P.tw.2)) (Z := #[.int .u8 0, .int .u8 0, .int .u8 0, .int .u8 0, .int .u8 0, .int .u8 0]) (U := 32) HP1.out)
    have HM1 := zh (newObj wn #[.int .u8 0, .int .u8 0, .int .u8 0, .int .u8 0, .int .u8 0, .int .u8 0] 32 (L := B8 (macG P.tw.1 P.tw.2)) (by rw [B8_length, hD]; rfl) (B8_one _))
    replace HBB := zh (bstep HBB.out HW.out)
    clear HW HMC hfmM
    generalize aggW (wn.alloc _) wn.heap.size _ = W3 at HR0 HE1 HP1 HM1 HBB ⊢
    generalize wn.heap.size = m3 at HM1 ⊢
    have hfr := obj_free_at HR0.out 0 65 (Nat.le_refl _)
    obtain ⟨g0, g1, g2, g3, g4⟩ := HVE.out _ _ HE1.out
    obtain ⟨c0, c1, c2, c3, c4, c5, c6, c7⟩ := HVP.out _ _ HP1.out
    have rm : row? W3 m3 0 6 = some (B8 (macG P.tw.1 P.tw.2)) := obj_re HM1.out (A := []) (M := B8 (macG P.tw.1 P.tw.2)) (C := []) (by simp) rfl (by rw [B8_length, hD])
    have HRM : Hid (∀ W m, ObjAt W m (B8 (macG P.tw.1 P.tw.2)).toArray 32 → row? W m 0 6 = some (B8 (macG P.tw.1 P.tw.2))) := zh fun W m h => obj_re h (A := []) (M := B8 (macG P.tw.1 P.tw.2)) (C := []) (by simp) rfl (by rw [B8_length, hD])
    have hq := fun w0 => eq_mac (Eth.to E) (macG P.tw.1 P.tw.2) HEO.out.1 hD w0
    have HD := zh hD
    clear hD hk6
    by_cases h2 : e2 = 0
    case neg =>
      have t2 : (e2 != 0) = true := by simpa using h2
      have E2 := zh h2
      clear h2 hq
      go_wp2
      obtain rfl : V = (zeroS, e2) := by rw [HV2.out, rfV, if_neg (by simp), if_neg (by have := HTY.out; omega), if_pos E2.out]
      obtain ⟨q1, q2⟩ := resDone HR0.out HBB.out (Nat.le_refl _) (sdC zeroS (.slice none 0 0) (.slice none 0 0)) (sdC_length (s := zeroS) zeroA_ok zeroA_ok zeroA_ok _ _)
      exact bodyPost_ret (results_cell2 Tryz.results13 rfl (ld_some q1 (ldr_sd _ _ _))) rfl ⟨_, _, rfl, q2, zeroS_ok, AdsT.nil _, RcT.nil _⟩
    subst h2
    replace HTK := zh (HTK.out rfl)
    cases hg : grpA P.fr
    case true =>
      rw [hg] at HGR
      have G1 := zh hg
      clear hg hq
      go_wp2_with (first
          | (go_at_call 29; (with_reducible refine (HGR.out _).mono ?_); rintro x wn ⟨rfl, hb⟩; replace HR0 := zh (obj_keep HR0.out hb); replace HE1 := zh (obj_keep HE1.out hb); replace HP1 := zh (obj_keep HP1.out hb); replace HM1 := zh (obj_keep HM1.out hb); replace HBB := zh (bstep HBB.out hb); clear hb g0 g1 g2 g3 g4 c0 c1 c2 c3 c4 c5 c6 c7 rm hfr; have hfr := obj_free_at HR0.out 0 65 (Nat.le_refl _); obtain ⟨g0, g1, g2, g3, g4⟩ := HVE.out _ _ HE1.out; obtain ⟨c0, c1, c2, c3, c4, c5, c6, c7⟩ := HVP.out _ _ HP1.out; have rm := HRM.out _ _ HM1.out))
      obtain rfl : V = (zeroS, 2) := by rw [HV2.out, rfV, if_neg (by simp), if_neg (by have := HTY.out; omega), if_neg (by simp), if_pos G1.out]
      obtain ⟨q1, q2⟩ := resDone HR0.out HBB.out (Nat.le_refl _) (sdC zeroS (.slice none 0 0) (.slice none 0 0)) (sdC_length (s := zeroS) zeroA_ok zeroA_ok zeroA_ok _ _)
      exact bodyPost_ret (results_cell2 Tryz.results13 rfl (ld_some q1 (ldr_sd _ _ _))) rfl ⟨_, _, rfl, q2, zeroS_ok, AdsT.nil _, RcT.nil _⟩
    rw [hg] at HGR
    have G1 := zh hg
    clear hg
    cases hm : grpA P.tw
    case false =>
      have G2 := zh hm
      clear hm hq
      go_wp2_with (first
          | (go_at_call 29; (with_reducible refine (HGR.out _).mono ?_); rintro x wn ⟨rfl, hb⟩; replace HR0 := zh (obj_keep HR0.out hb); replace HE1 := zh (obj_keep HE1.out hb); replace HP1 := zh (obj_keep HP1.out hb); replace HM1 := zh (obj_keep HM1.out hb); replace HBB := zh (bstep HBB.out hb); clear hb g0 g1 g2 g3 g4 c0 c1 c2 c3 c4 c5 c6 c7 rm hfr; have hfr := obj_free_at HR0.out 0 65 (Nat.le_refl _); obtain ⟨g0, g1, g2, g3, g4⟩ := HVE.out _ _ HE1.out; obtain ⟨c0, c1, c2, c3, c4, c5, c6, c7⟩ := HVP.out _ _ HP1.out; have rm := HRM.out _ _ HM1.out)
          | (go_at_call 38; (with_reducible refine (HOT.out _).mono ?_); rintro x wo ⟨rfl, hb⟩; replace HR0 := zh (obj_keep HR0.out hb); replace HBB := zh (bstep HBB.out hb); clear hb g0 g1 g2 g3 g4 c0 c1 c2 c3 c4 c5 c6 c7 rm hfr; have hfr := obj_free_at HR0.out 0 65 (Nat.le_refl _)))
      obtain rfl : V = (otherS E.vl, 0) := by rw [HV2.out, rfV, if_neg (by simp), if_neg (by have := HTY.out; omega), if_neg (by simp), if_neg (by rw [G1.out]; simp), if_pos G2.out]
      obtain ⟨q1, q2⟩ := resDone HR0.out HBB.out (Nat.le_refl _) (sdC (otherS E.vl) (.slice none 0 0) (.slice none 0 0)) (sdC_length (s := (otherS E.vl)) zeroA_ok zeroA_ok zeroA_ok _ _)
      exact bodyPost_ret (results_cell2 Tryz.results13 rfl (ld_some q1 (ldr_sd _ _ _))) rfl ⟨_, _, rfl, q2, otherS_ok _, AdsT.nil _, RcT.nil _⟩
    have G2 := zh hm
    clear hm
    by_cases hd : Eth.to E = macG P.tw.1 P.tw.2
    case neg =>
      rw [decide_eq_false hd] at hq
      have G3 := zh hd
      clear hd
      go_wp2_with (first
          | (go_at_call 29; (with_reducible refine (HGR.out _).mono ?_); rintro x wn ⟨rfl, hb⟩; replace HR0 := zh (obj_keep HR0.out hb); replace HE1 := zh (obj_keep HE1.out hb); replace HP1 := zh (obj_keep HP1.out hb); replace HM1 := zh (obj_keep HM1.out hb); replace HBB := zh (bstep HBB.out hb); clear hb g0 g1 g2 g3 g4 c0 c1 c2 c3 c4 c5 c6 c7 rm hfr; have hfr := obj_free_at HR0.out 0 65 (Nat.le_refl _); obtain ⟨g0, g1, g2, g3, g4⟩ := HVE.out _ _ HE1.out; obtain ⟨c0, c1, c2, c3, c4, c5, c6, c7⟩ := HVP.out _ _ HP1.out; have rm := HRM.out _ _ HM1.out))
      obtain rfl : V = (zeroS, 2) := by rw [HV2.out, rfV, if_neg (by simp), if_neg (by have := HTY.out; omega), if_neg (by simp), if_neg (by rw [G1.out]; simp), if_neg (by rw [G2.out]; simp), if_pos G3.out]
      obtain ⟨q1, q2⟩ := resDone HR0.out HBB.out (Nat.le_refl _) (sdC zeroS (.slice none 0 0) (.slice none 0 0)) (sdC_length (s := zeroS) zeroA_ok zeroA_ok zeroA_ok _ _)
      exact bodyPost_ret (results_cell2 Tryz.results13 rfl (ld_some q1 (ldr_sd _ _ _))) rfl ⟨_, _, rfl, q2, zeroS_ok, AdsT.nil _, RcT.nil _⟩
    rw [decide_eq_true hd] at hq
    have G3 := zh hd
    clear hd
    cases hi : isTk P
    case false =>
      rw [hi] at HI
      have G4 := zh hi
      clear hi
      have hbd := fun w0 => bld_da E.vl P HPO.out w0
      have kd : fok (sdC (sayD E.vl P) (.slice none 0 0) (.slice none 0 0)).toArray 65 = true := fok_sd HPO.out.1 HPO.out.2 zeroA_ok rfl rfl
      go_wp2_with (first
          | (go_at_call 29; (with_reducible refine (HGR.out _).mono ?_); rintro x wn ⟨rfl, hb⟩; replace HR0 := zh (obj_keep HR0.out hb); replace HE1 := zh (obj_keep HE1.out hb); replace HP1 := zh (obj_keep HP1.out hb); replace HM1 := zh (obj_keep HM1.out hb); replace HBB := zh (bstep HBB.out hb); clear hb g0 g1 g2 g3 g4 c0 c1 c2 c3 c4 c5 c6 c7 rm hfr; have hfr := obj_free_at HR0.out 0 65 (Nat.le_refl _); obtain ⟨g0, g1, g2, g3, g4⟩ := HVE.out _ _ HE1.out; obtain ⟨c0, c1, c2, c3, c4, c5, c6, c7⟩ := HVP.out _ _ HP1.out; have rm := HRM.out _ _ HM1.out)
          | (go_at_call 40; (with_reducible refine (HI.out _).mono ?_); rintro x wn ⟨rfl, hb⟩; replace HR0 := zh (obj_keep HR0.out hb); replace HE1 := zh (obj_keep HE1.out hb); replace HP1 := zh (obj_keep HP1.out hb); replace HM1 := zh (obj_keep HM1.out hb); replace HBB := zh (bstep HBB.out hb); clear hb g0 g1 g2 g3 g4 c0 c1 c2 c3 c4 c5 c6 c7 rm hfr; have hfr := obj_free_at HR0.out 0 65 (Nat.le_refl _); obtain ⟨g0, g1, g2, g3, g4⟩ := HVE.out _ _ HE1.out; obtain ⟨c0, c1, c2, c3, c4, c5, c6, c7⟩ := HVP.out _ _ HP1.out; have rm := HRM.out _ _ HM1.out))
      obtain rfl : V = (sayD E.vl P, 0) := by rw [HV2.out, rfV, if_neg (by simp), if_neg (by have := HTY.out; omega), if_neg (by simp), if_neg (by rw [G1.out]; simp), if_neg (by rw [G2.out]; simp), if_neg (by rw [G3.out]; simp), if_neg (by rw [G4.out]; simp)]
      obtain ⟨q1, q2⟩ := resDone HR0.out HBB.out (Nat.le_refl _) (sdC (sayD E.vl P) (.slice none 0 0) (.slice none 0 0)) (sdC_length (s := (sayD E.vl P)) HPO.out.1 HPO.out.2 zeroA_ok _ _)
      exact bodyPost_ret (results_cell2 Tryz.results13 rfl (ld_some q1 (ldr_sd _ _ _))) rfl ⟨_, _, rfl, q2, ⟨HPO.out.1, HPO.out.2, zeroT_ok⟩, AdsT.nil _, RcT.nil _⟩
    replace HTK := zh (HTK.out hi)
    rw [hi] at HI
    have G4 := zh hi
    clear hi
    go_wp2_with (first
        | (go_at_call 29; (with_reducible refine (HGR.out _).mono ?_); rintro x wn ⟨rfl, hb⟩; replace HR0 := zh (obj_keep HR0.out hb); replace HE1 := zh (obj_keep HE1.out hb); replace HP1 := zh (obj_keep HP1.out hb); replace HM1 := zh (obj_keep HM1.out hb); replace HBB := zh (bstep HBB.out hb); clear hb g0 g1 g2 g3 g4 c0 c1 c2 c3 c4 c5 c6 c7 rm hfr; have hfr := obj_free_at HR0.out 0 65 (Nat.le_refl _); obtain ⟨g0, g1, g2, g3, g4⟩ := HVE.out _ _ HE1.out; obtain ⟨c0, c1, c2, c3, c4, c5, c6, c7⟩ := HVP.out _ _ HP1.out; have rm := HRM.out _ _ HM1.out)
        | (go_at_call 40; (with_reducible refine (HI.out _).mono ?_); rintro x wn ⟨rfl, hb⟩; replace HR0 := zh (obj_keep HR0.out hb); replace HE1 := zh (obj_keep HE1.out hb); replace HP1 := zh (obj_keep HP1.out hb); replace HM1 := zh (obj_keep HM1.out hb); replace HBB := zh (bstep HBB.out hb); clear hb g0 g1 g2 g3 g4 c0 c1 c2 c3 c4 c5 c6 c7 rm hfr; have hfr := obj_free_at HR0.out 0 65 (Nat.le_refl _); obtain ⟨g0, g1, g2, g3, g4⟩ := HVE.out _ _ HE1.out; obtain ⟨c0, c1, c2, c3, c4, c5, c6, c7⟩ := HVP.out _ _ HP1.out; have rm := HRM.out _ _ HM1.out)
        | (go_at_call 41; (with_reducible refine (HTK.out _).mono ?_); rintro x wn ⟨us, ur, rfl, hb, ho, ha, hc⟩; replace HR0 := zh (obj_keep HR0.out hb); replace HBB := zh (bstep HBB.out hb); have HOO := zh ho; have HA := zh ha; have HC := zh hc; clear hb ho ha hc g0 g1 g2 g3 g4 c0 c1 c2 c3 c4 c5 c6 c7 rm hfr; have hfr := obj_free_at HR0.out 0 65 (Nat.le_refl _); have kv : fok (sdC V0.1 us ur).toArray 65 = true := fok_sd HOO.out.1 HOO.out.2.1 HOO.out.2.2.1 HA.out.1.one HC.out.rcs.one))
    obtain rfl : V = V0 := by rw [HV2.out, rfV, if_neg (by simp), if_neg (by have := HTY.out; omega), if_neg (by simp), if_neg (by rw [G1.out]; simp), if_neg (by rw [G2.out]; simp), if_neg (by rw [G3.out]; simp), if_pos G4.out]
    obtain ⟨q1, q2⟩ := resDone HR0.out HBB.out (Nat.le_refl _) (sdC V.1 us ur) (sdC_length HOO.out.1 HOO.out.2.1 HOO.out.2.2.1 _ _)
    exact bodyPost_ret (results_cell2 Tryz.results13 rfl (ld_some q1 (ldr_sd _ _ _))) rfl ⟨us, ur, rfl, q2, HOO.out, HA.out.far HR0.out (by decide) (aggW_grown _ _ _), HC.out.far HR0.out (by decide) (by decide) (aggW_grown _ _ _)⟩)
end Go.Proofs.YtlbdehegknehiaaGreat

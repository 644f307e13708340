/-
  Texts joined: FtX, FtSh.
-/
import Derived.Test.YtokpogoblnhihaaFtV
import Derived.Test.YtokpogoblnhihaaFtO
/-
  The walk of FilterApplies.
-/
namespace Go.Proofs.Ytokpogoblnhihaa
open Go.RowKit
set_option linter.unusedVariables false
set_option linter.unusedSimpArgs false
attribute [local go_sem ↓] ld_addr st_addr bld_addr ld_sta st_sta bld_sta ld_sp st_sp bld_sp adsLit_eq
attribute [local go_sem] ldr_addr str_addr ldr_sta str_sta ldr_sp str_sp row?_drewN_eq row?_drew_eq

/-- What FilterApplies holds: the state boxed, the step in block m, and the list. -/
structure ApS (w : World) (m : Nat) (e : Bool) (a y : Value) (F : ST) (us : Nat → Value) (P : SP) (vl : Value) (L : List AD) (W : World) : Prop where
  blw : Below w.heap.size w W
  one : ObjAt W w.heap.size (stC e a y).toArray 24
  two : ObjAt W m (spC P.st.ex us P.grp P.all).toArray 28
  st : StT W a y F
  sp : SpT W us P
  vl : AdsT W vl L
theorem ApS.keep {w : World} {m : Nat} {e : Bool} {a y : Value} {F : ST} {us : Nat → Value} {P : SP} {vl : Value} {L : List AD} (W W' : World) (h : ApS w m e a y F us P vl L W) (hb : Below W.heap.size W W') : ApS w m e a y F us P vl L W' := ⟨bstep h.blw hb, obj_keep h.one hb, obj_keep h.two hb, h.st.below hb, h.sp.below hb, h.vl.below hb⟩
theorem ApS.facts {w : World} {m : Nat} {e : Bool} {a y : Value} {F : ST} {us : Nat → Value} {P : SP} {vl : Value} {L : List AD} {W : World} (h : ApS w m e a y F us P vl L W) : row? W m 0 8 = some (spC P.st.ex us P.grp P.all) ∧ row? W w.heap.size 0 3 = some (stC e a y) ∧ row? W m 0 3 = some (stC P.st.ex (us 1) (us 2)) :=
  ⟨obj_re h.two (A := []) (M := spC P.st.ex us P.grp P.all) (C := []) (by simp) rfl rfl, st_row h.one, sp_st h.two⟩
set_option maxRecDepth 100000 in
set_option maxHeartbeats 8000000 in
theorem fapplies_any (s : ST) (K : Int) (a y vl : Value) (l : List AD) (w : World) (h : StA w a y s) (hl : Ads w vl l) : Calls Try.prog 3 #[.agg (stC s.ex a y).toArray, .int .i64 K, vl] w fun x w' => x = .returned (.bool true) ∧ Below w.heap.size w w' := by
  have H0 := Lib.hid (ObjAt.made w (stC s.ex a y).toArray 24)
  have HB := Lib.hid (bbox w (.cells (stC s.ex a y).toArray 24))
  have HF1 : Hid (∀ W, Below w.heap.size w W → Calls Try.prog 7 #[.agg (stC s.ex a y).toArray] W fun x w' => ∃ a' y', x = .returned (.agg (stC s.ex a' y').toArray) ∧ Below W.heap.size W w' ∧ StT w' a' y' (fewS15 s)) := Lib.hid fun W hb => lfew15_any s a y W (h.below hb)
  have HA1 : Hid (∀ W, Below w.heap.size w W → Calls Try.prog 8 #[vl, .int .i64 6] W fun x w' => ∃ p n c, x = .returned (.slice p n c) ∧ Below W.heap.size W w' ∧ AdsT w' (.slice p n c) (l.take 6)) := Lib.hid fun W hb => (laddrs_own vl l 6 (by omega) W (hl.below hb)).mono fun x w' ⟨v, hx, hb2, ho⟩ => by
    obtain ⟨p, n, c, rfl⟩ := ho.shape
    exact ⟨p, n, c, hx, hb2, ho.ads (fun x hx => hl.ok x (List.mem_of_mem_take hx))⟩
  obtain ⟨F, HFE⟩ : ∃ F, Hid (F = fewS15 s) := ⟨_, Lib.hid rfl⟩
  obtain ⟨L, HLE⟩ : ∃ L, Hid (L = l.take 6) := ⟨_, Lib.hid rfl⟩
  obtain ⟨e, HEE⟩ : ∃ e, Hid (e = s.ex) := ⟨_, Lib.hid rfl⟩
  have hFe : F.ex = e := by rw [HFE.out, HEE.out]; rfl
  have hFg : F.Good := by rw [HFE.out]; exact fewS15_good s
  have hFl : F.on.length ≤ 6 ∧ F.off.length ≤ 6 := by rw [HFE.out]; exact fewS15_len s
  have hFF : fewS15 F = F := by rw [HFE.out]; exact fewS15_few s
  have hLl : L.length ≤ 6 := by rw [HLE.out, List.length_take]; omega
  rw [← HFE.out, ← HEE.out] at HF1
  rw [← HLE.out] at HA1
  rw [← HEE.out] at H0 HB ⊢
  have hL6 : L.take 6 = L := List.take_of_length_le hLl
  obtain ⟨P, HPE⟩ : ∃ P, Hid (P = stepR F K (ofA L)) := ⟨_, Lib.hid rfl⟩
  have HF2 : Hid (∀ W a1 y1, StT W a1 y1 F → Calls Try.prog 7 #[.agg (stC e a1 y1).toArray] W fun x w' => ∃ a' y', x = .returned (.agg (stC e a' y').toArray) ∧ Below W.heap.size W w' ∧ StT w' a' y' F) := Lib.hid fun W a1 y1 hs => by
    have := lfew15_any F a1 y1 W hs.sta
    rwa [hFe, hFF] at this
  have HA2 : Hid (∀ W v, AdsT W v L → Calls Try.prog 8 #[v, .int .i64 6] W fun x w' => ∃ p n c, x = .returned (.slice p n c) ∧ Below W.heap.size W w' ∧ AdsT w' (.slice p n c) L) := Lib.hid fun W v hv => (laddrs_own v L 6 (by omega) W hv.1).mono fun x w' ⟨v2, hx, hb2, ho⟩ => by
    obtain ⟨p, n, c, rfl⟩ := ho.shape
    rw [hL6] at ho
    exact ⟨p, n, c, hx, hb2, ho.ads hv.1.ok⟩
  have HAP : Hid (∀ W a1 y1 v, StT W a1 y1 F → AdsT W v L → Calls Try.prog 9 #[.agg (stC e a1 y1).toArray, .int .i64 K, v] W fun x w' => ∃ us, x = .returned (.agg (spC P.st.ex us P.grp P.all).toArray) ∧ Below W.heap.size W w' ∧ SpT w' us P) := Lib.hid fun W a1 y1 v hs hv => by
    have := fapply_any F hFg K a1 y1 v L W hs hv (by omega) (by omega) (by omega)
    rwa [hFe, ← HPE.out] at this
  have HOF : Hid (∀ W v, AdsT W v L → Calls Try.prog 12 #[v] W fun x w' => ∃ v', x = .returned v' ∧ Below W.heap.size W w' ∧ Ads w' v' (ofA L)) := Lib.hid fun W v hv => (of11_any v L W hv.1 (by omega)).mono fun x w' ⟨v2, hx, hb2, ho⟩ => ⟨v2, hx, hb2, (ho.ads (ofA_ok hv.1.ok)).1⟩
  have HRA : Hid (∀ W a1 y1 v, StT W a1 y1 F → Ads W v (ofA L) → Calls Try.prog 11 #[.agg (stC e a1 y1).toArray, .int .i64 K, v] W fun x w' => ∃ us, x = .returned (.agg (spC P.st.ex us P.grp P.all).toArray) ∧ Below W.heap.size W w' ∧ SpA w' us P) := Lib.hid fun W a1 y1 v hs hv => by
    have := rapply15_any F K a1 y1 v (ofA L) W hs.sta hv (by omega) (by omega) (Nat.le_trans (ofA_length _) (by omega))
    rw [hFe] at this
    refine this.mono fun x w' ⟨us, hx, hb2, hr⟩ => ⟨us, by rw [HPE.out]; exact hx, hb2, by rw [HPE.out]; exact ApR.spA hr⟩
  have HSS := Lib.hid (fun W us vs (h1 : SpA W us P) (h2 : SpA W vs P) => rsameStep15_any P us vs W h1 h2)
  have HGD : Hid (∀ W us, SpT W us P → Calls Try.prog 13 #[.agg (stC P.st.ex (us 1) (us 2)).toArray] W fun x w' => x = .returned (.bool true) ∧ Below W.heap.size W w') := Lib.hid fun W us hs => by
    have hg : P.st.Good := by rw [HPE.out]; exact stepR_good hFg (SetA.of L) K
    have l1 : P.st.on.length ≤ 100 := by
      rw [HPE.out]
      exact Nat.le_trans (List.length_filter_le _ _) (Nat.le_trans (ofA_length _) (by
        rw [List.length_append]
        have q1 : (orA F.on F.off).length ≤ 12 := Nat.le_trans (ofA_length _) (by rw [List.length_append]; omega)
        have q2 : (ofA (ofA L)).length ≤ 6 := Nat.le_trans (ofA_length _) (Nat.le_trans (ofA_length _) hLl)
        omega))
    have l2 : P.st.off.length ≤ 100 := by
      rw [HPE.out]
      exact Nat.le_trans (List.length_filter_le _ _) (Nat.le_trans (ofA_length _) (by
        rw [List.length_append]
        have q1 : (orA F.on F.off).length ≤ 12 := Nat.le_trans (ofA_length _) (by rw [List.length_append]; omega)
        have q2 : (ofA (ofA L)).length ≤ 6 := Nat.le_trans (ofA_length _) (Nat.le_trans (ofA_length _) hLl)
        omega))
    have := fgood_any P.st (us 1) (us 2) W hs.st.sta l1 l2
    rwa [gdS_iff.2 hg] at this
  have HLV := Lib.hid (fun W => lives15_any W)
  have hfm := fun W => fmade W #[.bool false, .slice none 0 0, .slice none 0 0, .slice none 0 0, .slice none 0 0, .bool false, .slice none 0 0, .bool false] 28 8 rfl
  clear h hl hFe hFg hFl hFF hLl hL6 HFE HLE HEE HPE
  go_enter Try.func3, Try.ntmps3
  go_upto_region 1 with (fail)
  generalize w.alloc _ = W at H0 HB ⊢
  have r0 := st_row H0.out
  go_upto_region 2 with (first
    | (go_at_call 7; (with_reducible refine (HF1.out _ HB.out).mono ?_); rintro x w1 ⟨a1, y1, rfl, hb, hs⟩; have HB1 := Lib.hid (bstep HB.out hb); have H1 := Lib.hid (obj_keep H0.out hb); have HS1 := Lib.hid hs; clear hb hs r0)
    | (go_at_call 8; (with_reducible refine (HA1.out _ HB1.out).mono ?_); rintro x w2 ⟨lp, ln, lc, rfl, hb, hv⟩; have HB2 := Lib.hid (bstep HB1.out hb); have H2 := Lib.hid (obj_keep H1.out hb); have HS2 := Lib.hid (HS1.out.below hb); have HV := Lib.hid hv; have hf := obj_free_at H2.out 0 3 (Nat.le_refl _); have hk : fok (stC e a1 y1).toArray 3 = true := fok_of rfl (HS2.out.sta.one e); clear hb hv))
  have HB3 := Lib.hid (aggW_below HB2.out (Nat.le_refl _) (stC e a1 y1))
  have H3 := Lib.hid (aggW_obj (L := stC e a y) (cs := stC e a1 y1) H2.out rfl (HS2.out.sta.one e))
  have HS3 := Lib.hid (HS2.out.off' H2.out (by decide) (aggW_grown _ _ (stC e a1 y1)))
  have HV3 := Lib.hid (AdsT.off HV.out H2.out (by decide) (aggW_grown _ _ (stC e a1 y1)))
  generalize aggW _ w.heap.size _ = W3 at HB3 H3 HS3 HV3 ⊢
  clear HB HB1 HB2 H0 H1 H2 HS1 HS2 HV hf hk HF1 HA1
  have r0 := st_row H3.out
  go_upto_region 3 with (first
    | (go_at_call 7; (with_reducible refine (HF2.out _ _ _ HS3.out).mono ?_); rintro x w4 ⟨a2, y2, rfl, hb, hs⟩; have HB4 := Lib.hid (bstep HB3.out hb); have H4 := Lib.hid (obj_keep H3.out hb); have HS4 := Lib.hid (HS3.out.below hb); have HV4 := Lib.hid (HV3.out.below hb); have HT4 := Lib.hid hs; clear hb hs r0)
    | (go_at_call 8; (with_reducible refine (HA2.out _ _ HV4.out).mono ?_); rintro x w5 ⟨mp, mn, mc, rfl, hb, hv⟩; have HB5 := Lib.hid (bstep HB4.out hb); have H5 := Lib.hid (obj_keep H4.out hb); have HS5 := Lib.hid (HS4.out.below hb); have HV5 := Lib.hid (HV4.out.below hb); have HT5 := Lib.hid (HT4.out.below hb); have HN5 := Lib.hid hv; clear hb hv)
    | (go_at_call 9; (with_reducible refine (HAP.out _ _ _ _ HT5.out HN5.out).mono ?_); rintro x w6 ⟨us, rfl, hb, hs⟩; have HB6 := Lib.hid (bstep HB5.out hb); have H6 := Lib.hid (obj_keep H5.out hb); have HS6 := Lib.hid (HS5.out.below hb); have HV6 := Lib.hid (HV5.out.below hb); have HP6 := Lib.hid hs; have hk : fok (spC P.st.ex us P.grp P.all).toArray 8 = true := fok_of rfl (hs.one _ _ _); clear hb hs))
  have HQ : Hid (ApS w w6.heap.size e a1 y1 F us P (.slice lp ln lc) L (aggW (w6.alloc (.cells #[.bool false, .slice none 0 0, .slice none 0 0, .slice none 0 0, .slice none 0 0, .bool false, .slice none 0 0, .bool false] 28)) w6.heap.size (spC P.st.ex us P.grp P.all))) := Lib.hid ⟨bstep HB6.out (newBlw w6 _ _), keepNew H6.out, newObj w6 _ _ rfl (HP6.out.one _ _ _), HS6.out.below (newBlw w6 _ _), HP6.out.below (newBlw w6 _ _), HV6.out.below (newBlw w6 _ _)⟩
  generalize aggW (w6.alloc _) w6.heap.size _ = W7 at HQ ⊢
  generalize w6.heap.size = m at HQ ⊢
  clear HB3 H3 HS3 HV3 HB4 H4 HS4 HV4 HT4 HB5 H5 HS5 HV5 HT5 HN5 HB6 H6 HS6 HV6 HP6 hk hfm HF2 HA2 HAP
  refine wp_region_held_drew (S := fun W => row? W m 0 8 = some (spC P.st.ex us P.grp P.all) ∧ row? W w.heap.size 0 3 = some (stC e a1 y1) ∧ row? W m 0 3 = some (stC P.st.ex (us 1) (us 2))) (by kernel_rfl) ((ApS.keep _ W7.drew HQ.out (bdrewN (Below.refl _ _) 1)).facts) (fun hHeld => ?_)
  replace HQ := Lib.hid (ApS.keep _ W7.drew HQ.out (bdrewN (Below.refl _ _) 1))
  generalize World.drew W7 = W8 at HQ hHeld ⊢
  refine wpAnyH_take (i := 0) (oi := { dst := some 18, op := _, type := _, pos := _, after := _, guard := _ }) (v := ?v1) rfl (by kernel_rfl) (by kernel_rfl) (by kernel_rfl) (fun _ _ _ h => h) (Or.inl ⟨by rfl, ?y1⟩) (by assumption) ?r1
  case y1 => (intro w hSw; go_simp; try with_reducible rfl)
  try simp only [Act.put, List.setIfInBounds_toArray, List.set_cons_zero, List.set_cons_succ]
  refine wpAnyH_take (i := 1) (oi := { dst := some 19, op := _, type := _, pos := _, after := _, guard := _ }) (v := ?v2) rfl (by kernel_rfl) (by kernel_rfl) (by kernel_rfl) (fun _ _ _ h => h) (Or.inl ⟨by rfl, ?y2⟩) (by assumption) ?r2
  case y2 => (intro w hSw; go_simp; try with_reducible rfl)
  try simp only [Act.put, List.setIfInBounds_toArray, List.set_cons_zero, List.set_cons_succ]
  refine wpAnyH_take (i := 2) (oi := { dst := some 20, op := _, type := _, pos := _, after := _, guard := _ }) (v := ?v3) rfl (by kernel_rfl) (by kernel_rfl) (by kernel_rfl) (fun _ _ _ h => h) (Or.inl ⟨by rfl, ?y3⟩) (by assumption) ?r3
  case y3 => (intro w hSw; go_simp; try with_reducible rfl)
  try simp only [Act.put, List.setIfInBounds_toArray, List.set_cons_zero, List.set_cons_succ]
  refine wpAnyH_take (i := 3) (oi := { dst := some 21, op := _, type := _, pos := _, after := _, guard := _ }) (v := ?v4) rfl (by kernel_rfl) (by kernel_rfl) (by kernel_rfl) (fun _ _ _ h => h) (Or.inl ⟨by rfl, ?y4⟩) (by assumption) ?r4
  case y4 => (intro w hSw; go_simp; try with_reducible rfl)
  try simp only [Act.put, List.setIfInBounds_toArray, List.set_cons_zero, List.set_cons_succ]
  refine wpAnyH_ready (rs := [4]) (by kernel_rfl) (by simp) (AllReadyH.cons (o := _) rfl (fun K hK => ?_) AllReadyH.nil)
  go_simp
  (go_at_call 12; (with_reducible refine (HOF.out _ _ HQ.out.vl).mono ?_); rintro x w8 ⟨vb, rfl, hb, ho⟩; replace HQ := Lib.hid (ApS.keep _ _ HQ.out hb); have HVB := Lib.hid ho; clear hb ho)
  try go_wp2_with fail
  refine hK.out _ _ (HQ.out.facts) (fun hHeld => ?_)
  clear hK K
  try simp only [Act.put, List.setIfInBounds_toArray, List.set_cons_zero, List.set_cons_succ]
  refine wpAnyH_ready (rs := [5]) (by kernel_rfl) (by simp) (AllReadyH.cons (o := _) rfl (fun K hK => ?_) AllReadyH.nil)
  go_simp
  (go_at_call 11; (with_reducible refine (HRA.out _ _ _ _ HQ.out.st HVB.out).mono ?_); rintro x w9 ⟨vs, rfl, hb, ho⟩; replace HQ := Lib.hid (ApS.keep _ _ HQ.out hb); have HVS := Lib.hid ho; clear hb ho HVB)
  try go_wp2_with fail
  refine hK.out _ _ (HQ.out.facts) (fun hHeld => ?_)
  clear hK K
  try simp only [Act.put, List.setIfInBounds_toArray, List.set_cons_zero, List.set_cons_succ]
  refine wpAnyH_ready (rs := [6]) (by kernel_rfl) (by simp) (AllReadyH.cons (o := _) rfl (fun K hK => ?_) AllReadyH.nil)
  go_simp
  (go_at_call 10; (with_reducible refine (HSS.out _ _ _ HQ.out.sp.spa HVS.out).mono ?_); rintro x w10 ⟨rfl, hb⟩; replace HQ := Lib.hid (ApS.keep _ _ HQ.out hb); clear hb HVS)
  try go_wp2_with fail
  refine hK.out _ _ (HQ.out.facts) (fun hHeld => ?_)
  clear hK K
  try simp only [Act.put, List.setIfInBounds_toArray, List.set_cons_zero, List.set_cons_succ]
  refine wpAnyH_take (i := 7) (oi := { dst := some 25, op := _, type := _, pos := _, after := _, guard := _ }) (v := ?v5) rfl (by kernel_rfl) (by kernel_rfl) (by kernel_rfl) (fun _ _ _ h => h) (Or.inl ⟨by rfl, ?y5⟩) (by assumption) ?r5
  case y5 => (intro w hSw; go_simp; try with_reducible rfl)
  try simp only [Act.put, List.setIfInBounds_toArray, List.set_cons_zero, List.set_cons_succ]
  refine wpAnyH_take (i := 8) (oi := { dst := some 26, op := _, type := _, pos := _, after := _, guard := _ }) (v := ?v6) rfl (by kernel_rfl) (by kernel_rfl) (by kernel_rfl) (fun _ _ _ h => h) (Or.inl ⟨by rfl, ?y6⟩) (by assumption) ?r6
  case y6 => (intro w hSw; go_simp; try with_reducible rfl)
  try simp only [Act.put, List.setIfInBounds_toArray, List.set_cons_zero, List.set_cons_succ]
  refine wpAnyH_take (i := 9) (oi := { dst := some 27, op := _, type := _, pos := _, after := _, guard := _ }) (v := ?v7) rfl (by kernel_rfl) (by kernel_rfl) (by kernel_rfl) (fun _ _ _ h => h) (Or.inl ⟨by rfl, ?y7⟩) (by assumption) ?r7
  case y7 => (intro w hSw; go_simp; try with_reducible rfl)
  try simp only [Act.put, List.setIfInBounds_toArray, List.set_cons_zero, List.set_cons_succ]
  refine wpAnyH_ready (rs := [10]) (by kernel_rfl) (by simp) (AllReadyH.cons (o := _) rfl (fun K hK => ?_) AllReadyH.nil)
  go_simp
  (go_at_call 13; (with_reducible refine (HGD.out _ _ HQ.out.sp).mono ?_); rintro x w11 ⟨rfl, hb⟩; replace HQ := Lib.hid (ApS.keep _ _ HQ.out hb); clear hb)
  try go_wp2_with fail
  refine hK.out _ _ (HQ.out.facts) (fun hHeld => ?_)
  clear hK K
  try simp only [Act.put, List.setIfInBounds_toArray, List.set_cons_zero, List.set_cons_succ]
  refine wpAnyH_take (i := 11) (oi := { dst := some 29, op := _, type := _, pos := _, after := _, guard := _ }) (v := ?v8) rfl (by kernel_rfl) (by kernel_rfl) (by kernel_rfl) (fun _ _ _ h => h) (Or.inl ⟨by rfl, ?y8⟩) (by assumption) ?r8
  case y8 => (intro w hSw; go_simp; try with_reducible rfl)
  try simp only [Act.put, List.setIfInBounds_toArray, List.set_cons_zero, List.set_cons_succ]
  refine wpAnyH_take (i := 12) (oi := { dst := some 30, op := _, type := _, pos := _, after := _, guard := _ }) (v := ?v9) rfl (by kernel_rfl) (by kernel_rfl) (by kernel_rfl) (fun _ _ _ h => h) (Or.inl ⟨by rfl, ?y9⟩) (by assumption) ?r9
  case y9 => (intro w hSw; go_simp; try with_reducible rfl)
  try simp only [Act.put, List.setIfInBounds_toArray, List.set_cons_zero, List.set_cons_succ]
  refine wpAnyH_ready (rs := [13]) (by kernel_rfl) (by simp) (AllReadyH.cons (o := _) rfl (fun K hK => ?_) AllReadyH.nil)
  go_simp
  (go_at_call 14; (with_reducible refine (HLV.out _).mono ?_); rintro x w12 ⟨rfl, hb⟩; replace HQ := Lib.hid (ApS.keep _ _ HQ.out hb); clear hb)
  try go_wp2_with fail
  refine hK.out _ _ (HQ.out.facts) (fun hHeld => ?_)
  clear hK K
  try simp only [Act.put, List.setIfInBounds_toArray, List.set_cons_zero, List.set_cons_succ]
  refine wpAnyH_take (i := 14) (oi := { dst := some 32, op := _, type := _, pos := _, after := _, guard := _ }) (v := ?v10) rfl (by kernel_rfl) (by kernel_rfl) (by kernel_rfl) (fun _ _ _ h => h) (Or.inl ⟨by rfl, ?y10⟩) (by assumption) ?r10
  case y10 => (intro w hSw; go_simp; try with_reducible rfl)
  try simp only [Act.put, List.setIfInBounds_toArray, List.set_cons_zero, List.set_cons_succ]
  refine wpAnyH_take (i := 15) (oi := { dst := some 6, op := _, type := _, pos := _, after := _, guard := _ }) (v := ?v11) rfl (by kernel_rfl) (by kernel_rfl) (by kernel_rfl) (fun _ _ _ h => h) (Or.inl ⟨by rfl, ?y11⟩) (by assumption) ?r11
  case y11 => (intro w hSw; go_simp; try with_reducible rfl)
  try simp only [Act.put, List.setIfInBounds_toArray, List.set_cons_zero, List.set_cons_succ]
  refine wpAnyH_done (by kernel_rfl) ?_ _
  clear hHeld
  go_wp2
  go_ret
  exact ⟨rfl, HQ.out.blw⟩
end Go.Proofs.Ytokpogoblnhihaa

/-
  The shape of a state that a law takes.
-/
namespace Go.Proofs.Ytokpogoblnhihaa
open Go.RowKit
set_option linter.unusedVariables false
set_option linter.unusedSimpArgs false

def stateS := pairS 1 boolS (pairS 1 (sliceS 17 addrS) (pairS 1 (sliceS 17 addrS) unitS))
theorem opens_stateS : Opens Try.prog 24 stateS :=
  opens_struct Try.underlying24 (opens_cons rfl (by kernel_rfl) (of_decide_eq_true (by kernel_rfl)) (opens_bool Try.underlying4)
    (opens_cons rfl (by kernel_rfl) (of_decide_eq_true (by kernel_rfl)) (opens_slice Try.underlying22 (by kernel_rfl) (by omega) opens_addrS)
    (opens_cons rfl (by kernel_rfl) (of_decide_eq_true (by kernel_rfl)) (opens_slice Try.underlying22 (by kernel_rfl) (by omega) opens_addrS)
    (opens_nil (by kernel_rfl)))))
def adsS15 := sliceS 17 addrS
theorem opens_adsS15 : Opens Try.prog 22 adsS15 := opens_slice Try.underlying22 (by kernel_rfl) (by omega) opens_addrS
theorem nil_of15 {w : World} {v : Value} {xs : List (Bool × (List UInt8 × Unit))} (h : sliceS 17 addrS w [v] xs) : ∀ n c, v = .slice none n c → c = 0 := by
  rcases h with ⟨h1, h2⟩ | ⟨a, cap, h1, _⟩
  · simp at h1
    intro n c e; rw [h1] at e; cases e; rfl
  · simp at h1
    intro n c e; rw [h1] at e; cases e
theorem stateS_cells {w : World} {cs : List Value} {x : _} (h : stateS w cs x) : ∃ (s : ST) (a y : Value), cs = stC s.ex a y ∧ StA w a y s := by
  obtain ⟨c1, d1, rfl, l1, h1, c2, d2, e2, l2, h2, c3, d3, e3, l3, h3, h4⟩ := h
  have k1 : c1 = [.bool x.1] := h1
  obtain ⟨a, ka⟩ : ∃ a, c2 = [a] := List.length_eq_one_iff.1 l2
  obtain ⟨y, ky⟩ : ∃ y, c3 = [y] := List.length_eq_one_iff.1 l3
  subst ka ky
  unfold unitS at h4
  refine ⟨⟨x.1, x.2.1.map adOf, x.2.2.1.map adOf⟩, a, y, ?_, Ads.of h2, Ads.of h3, nil_of15 h2, nil_of15 h3⟩
  rw [e2, e3, h4, k1]
  rfl
end Go.Proofs.Ytokpogoblnhihaa


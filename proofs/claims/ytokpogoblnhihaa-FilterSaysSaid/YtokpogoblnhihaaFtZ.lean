/-
  The walk of FilterSays.
-/
import Derived.Test.YtokpogoblnhihaaFtY
import Derived.Test.YtokpogoblnhihaaAdE
namespace Go.Proofs.Ytokpogoblnhihaa
open Go.RowKit
set_option linter.unusedVariables false
set_option linter.unusedSimpArgs false
attribute [local go_sem ↓] ld_addr st_addr bld_addr ld_sta st_sta bld_sta ld_sp st_sp bld_sp adsLit_eq
attribute [local go_sem] ldr_addr str_addr ldr_sta str_sta ldr_sp str_sp row?_drewN_eq row?_drew_eq

theorem stepR_in {s : ST} {k : Int} {b : List AD} (h : s.Good) (hb : SetA b) (hk : inK k = true) {c : AD} (hc : c ∈ b) : letS (stepR s k b).st c = true := by
  have m1 : c ∈ allS s b := (mem_allS h hb).2 (Or.inr (Or.inr hc))
  have he : exK k = false := by unfold inK at hk; unfold exK; simp only [decide_eq_true_eq] at hk; rw [decide_eq_false]; omega
  unfold letS
  show (if (exK k || s.ex) then !decide (c ∈ (allS s b).filter (bySrc fOff s k b)) else decide (c ∈ (allS s b).filter (bySrc fOn s k b))) = true
  have q1 : c ∈ (allS s b).filter (bySrc fOn s k b) := List.mem_filter.2 ⟨m1, by unfold bySrc fOn; simp [hk, hc]⟩
  have q2 : c ∉ (allS s b).filter (bySrc fOff s k b) := fun q => by
    have := (List.mem_filter.1 q).2
    unfold bySrc fOff at this
    simp [hk, hc] at this
  split
  · rw [decide_eq_false q2]; rfl
  · exact decide_eq_true q1
theorem stepR_ex {s : ST} {k : Int} {b : List AD} (hk : exK k = true) {c : AD} (hc : c ∉ b) : letS (stepR s k b).st c = true := by
  have he : inK k = false := by unfold exK at hk; unfold inK; simp only [decide_eq_true_eq] at hk; rw [decide_eq_false]; omega
  unfold letS
  show (if (exK k || s.ex) then !decide (c ∈ (allS s b).filter (bySrc fOff s k b)) else decide (c ∈ (allS s b).filter (bySrc fOn s k b))) = true
  have q2 : c ∉ (allS s b).filter (bySrc fOff s k b) := fun q => by
    have := (List.mem_filter.1 q).2
    unfold bySrc fOff at this
    simp [he, hk, hc] at this
  rw [hk]
  simp only [Bool.true_or, if_true]
  rw [decide_eq_false q2]; rfl
/-- What FilterSays holds: the state boxed, the step's state in block m, and the list. -/
structure LsX (w : World) (e : Bool) (a y : Value) (F : ST) (m : Nat) (u1 u2 : Value) (P : ST) (vl : Value) (L : List AD) (W : World) : Prop where
  blw : Below w.heap.size w W
  one : ObjAt W w.heap.size (stC e a y).toArray 24
  two : ObjAt W m (stC P.ex u1 u2).toArray 24
  st : StT W a y F
  sx : StT W u1 u2 P
  vl : AdsT W vl L
theorem LsX.keep {w : World} {e : Bool} {a y : Value} {F : ST} {m : Nat} {u1 u2 : Value} {P : ST} {vl : Value} {L : List AD} (W W' : World) (h : LsX w e a y F m u1 u2 P vl L W) (hb : Below W.heap.size W W') : LsX w e a y F m u1 u2 P vl L W' := ⟨bstep h.blw hb, obj_keep h.one hb, obj_keep h.two hb, h.st.below hb, h.sx.below hb, h.vl.below hb⟩
structure LsY (w : World) (e : Bool) (a y : Value) (F : ST) (m : Nat) (u1 u2 : Value) (P : ST) (vl : Value) (L : List AD) (vg : Value) (G : List AD) (W : World) : Prop where
  b : LsX w e a y F m u1 u2 P vl L W
  g : AdsT W vg G
theorem LsY.keep {w : World} {e : Bool} {a y : Value} {F : ST} {m : Nat} {u1 u2 : Value} {P : ST} {vl : Value} {L : List AD} {vg : Value} {G : List AD} (W W' : World) (h : LsY w e a y F m u1 u2 P vl L vg G W) (hb : Below W.heap.size W W') : LsY w e a y F m u1 u2 P vl L vg G W' := ⟨LsX.keep _ _ h.b hb, h.g.below hb⟩
set_option maxRecDepth 100000 in
set_option maxHeartbeats 16000000 in
theorem fsays_any (s : ST) (K : Int) (a y vl : Value) (l : List AD) (w : World) (h : StA w a y s) (hl : Ads w vl l) : Calls Try.prog 5 #[.agg (stC s.ex a y).toArray, .int .i64 K, vl] w fun x w' => x = .returned (.bool true) ∧ Below w.heap.size w w' := by
  have H0 := Lib.hid (ObjAt.made w (stC s.ex a y).toArray 24)
  have HB := Lib.hid (bbox w (.cells (stC s.ex a y).toArray 24))
  have HF1 : Hid (∀ W, Below w.heap.size w W → Calls Try.prog 7 #[.agg (stC s.ex a y).toArray] W fun x w' => ∃ a' y', x = .returned (.agg (stC s.ex a' y').toArray) ∧ Below W.heap.size W w' ∧ StT w' a' y' (fewS15 s)) := Lib.hid fun W hb => lfew15_any s a y W (h.below hb)
  have HA1 : Hid (∀ W, Below w.heap.size w W → Calls Try.prog 8 #[vl, .int .i64 6] W fun x w' => ∃ v, x = .returned v ∧ Below W.heap.size W w' ∧ AdsT w' v (l.take 6)) := Lib.hid fun W hb => (laddrs_own vl l 6 (by omega) W (hl.below hb)).mono fun x w' ⟨v, hx, hb2, ho⟩ => ⟨v, hx, hb2, ho.ads (fun x hx => hl.ok x (List.mem_of_mem_take hx))⟩
  have HOF : Hid (∀ W v, AdsT W v (l.take 6) → Calls Try.prog 12 #[v] W fun x w' => ∃ p n c, x = .returned (.slice p n c) ∧ n = (ofA (l.take 6)).length ∧ Below W.heap.size W w' ∧ AdsT w' (.slice p n c) (ofA (l.take 6))) := Lib.hid fun W v hv => (of11_any v _ W hv.1 (by rw [List.length_take]; omega)).mono fun x w' ⟨v2, hx, hb2, ho⟩ => by
    have hk := ho.ads (ofA_ok hv.1.ok)
    obtain ⟨p, c, rfl, _, _⟩ := hk.1.len
    exact ⟨p, _, c, hx, rfl, hb2, hk⟩
  obtain ⟨F, HFE⟩ : ∃ F, Hid (F = fewS15 s) := ⟨_, Lib.hid rfl⟩
  obtain ⟨L, HLE⟩ : ∃ L, Hid (L = ofA (l.take 6)) := ⟨_, Lib.hid rfl⟩
  obtain ⟨e, HEE⟩ : ∃ e, Hid (e = s.ex) := ⟨_, Lib.hid rfl⟩
  have hFe : F.ex = e := by rw [HFE.out, HEE.out]; rfl
  have hFg : F.Good := by rw [HFE.out]; exact fewS15_good s
  have hFl : F.on.length ≤ 6 ∧ F.off.length ≤ 6 := by rw [HFE.out]; exact fewS15_len s
  have hFF : fewS15 F = F := by rw [HFE.out]; exact fewS15_few s
  have hLs : SetA L := by rw [HLE.out]; exact SetA.of _
  have hLl : L.length ≤ 6 := by rw [HLE.out]; exact Nat.le_trans (ofA_length _) (by rw [List.length_take]; omega)
  rw [← HFE.out, ← HEE.out] at HF1
  rw [← HLE.out] at HOF
  rw [← HEE.out] at H0 HB ⊢
  have hL6 : L.take 6 = L := List.take_of_length_le hLl
  obtain ⟨P, HPE⟩ : ∃ P, Hid (P = stepR F K L) := ⟨_, Lib.hid rfl⟩
  have HF2 : Hid (∀ W a1 y1, StT W a1 y1 F → Calls Try.prog 7 #[.agg (stC e a1 y1).toArray] W fun x w' => ∃ a' y', x = .returned (.agg (stC e a' y').toArray) ∧ Below W.heap.size W w' ∧ StT w' a' y' F) := Lib.hid fun W a1 y1 hs => by
    have := lfew15_any F a1 y1 W hs.sta
    rwa [hFe, hFF] at this
  have HA2 : Hid (∀ W v, AdsT W v L → Calls Try.prog 8 #[v, .int .i64 6] W fun x w' => ∃ v', x = .returned v' ∧ Below W.heap.size W w' ∧ AdsT w' v' L) := Lib.hid fun W v hv => (laddrs_own v L 6 (by omega) W hv.1).mono fun x w' ⟨v2, hx, hb2, ho⟩ => by
    rw [hL6] at ho
    exact ⟨v2, hx, hb2, ho.ads hv.1.ok⟩
  have HAP : Hid (∀ W a1 y1 v, StT W a1 y1 F → AdsT W v L → Calls Try.prog 9 #[.agg (stC e a1 y1).toArray, .int .i64 K, v] W fun x w' => ∃ us, x = .returned (.agg (spC P.st.ex us P.grp P.all).toArray) ∧ Below W.heap.size W w' ∧ StT w' (us 1) (us 2) P.st) := Lib.hid fun W a1 y1 v hs hv => by
    have := fapply_any F hFg K a1 y1 v L W hs hv (by omega) (by omega) (by omega)
    rw [hFe, hLs.id, ← HPE.out] at this
    exact this.mono fun x w' ⟨us, hx, hb, hs⟩ => ⟨us, hx, hb, hs.st⟩
  have hPg : P.st.Good := by rw [HPE.out]; exact stepR_good hFg hLs K
  have hal : (allS F L).length ≤ 18 := by
    refine Nat.le_trans (ofA_length _) ?_
    rw [List.length_append]
    have q1 : (orA F.on F.off).length ≤ 12 := Nat.le_trans (ofA_length _) (by rw [List.length_append]; omega)
    have q2 : (ofA L).length ≤ 6 := Nat.le_trans (ofA_length _) hLl
    omega
  have hP1 : P.st.on.length ≤ 100 := by rw [HPE.out]; exact Nat.le_trans (List.length_filter_le _ _) (by omega)
  have hP2 : P.st.off.length ≤ 100 := by rw [HPE.out]; exact Nat.le_trans (List.length_filter_le _ _) (by omega)
  have HIN : Hid (inK K = true → ∀ c ∈ L, letS P.st c = true) := Lib.hid fun q c hc => by rw [HPE.out]; exact stepR_in hFg hLs q hc
  have HXN : Hid (exK K = true → ∀ c, c ∉ L → letS P.st c = true) := Lib.hid fun q c hc => by rw [HPE.out]; exact stepR_ex q hc
  have HXE : Hid (exK K = true → P.st.ex = true) := Lib.hid fun q => by rw [HPE.out]; show (exK K || F.ex) = true; rw [q]; rfl
  obtain ⟨G, HGE⟩ : ∃ G, Hid (G = orA F.on F.off) := ⟨_, Lib.hid rfl⟩
  have HOR : Hid (∀ W u v, StT W u v F → Calls Try.prog 24 #[u, v] W fun x w' => ∃ p n c, x = .returned (.slice p n c) ∧ n = G.length ∧ Below W.heap.size W w' ∧ AdsT w' (.slice p n c) G) := Lib.hid fun W u v hs => (or11_any u v F.on F.off W hs.on.1 hs.off.1 hs.ca hs.cy (by omega) (by omega)).mono fun x w' ⟨v2, hx, hb2, ho⟩ => by
    rw [← HGE.out] at ho
    have hk := ho.ads (fun c hc => by
      rw [HGE.out] at hc
      have := ((mem_ofA _ _).1 hc).1
      rw [List.mem_append] at this
      rcases this with q | q
      · exact hs.on.1.ok c q
      · exact hs.off.1.ok c q)
    obtain ⟨p, c, rfl, _, _⟩ := hk.1.len
    exact ⟨p, _, c, hx, rfl, hb2, hk⟩
  have HLT : Hid (∀ W u v c, StT W u v P.st → adOk c → Calls Try.prog 20 #[.agg (stC P.st.ex u v).toArray, .agg (adC c).toArray] W fun x w' => x = .returned (.bool (letS P.st c)) ∧ Below W.heap.size W w') := Lib.hid fun W u v c hs hc => flets_any P.st hPg c u v W hs.sta hc hP1 hP2
  have HHA : Hid (∀ W v c, AdsT W v L → adOk c → Calls Try.prog 25 #[v, .agg (adC c).toArray] W fun x w' => x = .returned (.bool (decide (c ∈ L))) ∧ Below W.heap.size W w') := Lib.hid fun W v c hs hc => has11_any v L c W hs.1 hc
  have HGO : Hid (P.st.ex = true → ∀ W u v, StT W u v P.st → Calls Try.prog 22 #[.agg (stC true u v).toArray] W fun x w' => x = .returned (.bool false) ∧ Below W.heap.size W w') := Lib.hid fun q W u v hs => by
    have := fgone_any P.st u v W hs.sta
    rwa [q] at this
  have HLV := Lib.hid (fun W => lives15_any W)
  have hfd : ∀ (us : Nat → Value) (w0 : World), (Instr.field 28 (.agg (spC P.st.ex us P.grp P.all).toArray) 0).run Try.prog w0 = .ok (.agg (stC P.st.ex (us 1) (us 2)).toArray) w0 := fun us w0 => by kernel_rfl
  have hfm := fun W => fmade W #[.bool false, .slice none 0 0, .slice none 0 0] 24 3 rfl
  have hmx : L.length ≤ maxLen ∧ G.length ≤ maxLen := ⟨by unfold maxLen; omega, by rw [HGE.out]; refine Nat.le_trans (ofA_length _) ?_; rw [List.length_append]; unfold maxLen; omega⟩
  clear h hl hFe hFg hFl hFF hLl hL6 HFE HLE HEE HPE HGE hal hP1 hP2 hPg hLs
  generalize P.st = PS at *
  generalize P.grp = pg at *
  generalize P.all = pa at *
  go_enter Try.func5, Try.ntmps5
  go_upto_region 1 with (fail)
  generalize w.alloc _ = W at H0 HB ⊢
  have r0 := st_row H0.out
  go_upto_region 2 with (go_at_call 7; (with_reducible refine (HF1.out _ HB.out).mono ?_); rintro x w1 ⟨a1, y1, rfl, hb, hs⟩; have HB1 := Lib.hid (bstep HB.out hb); have H1 := Lib.hid (obj_keep H0.out hb); have HS1 := Lib.hid hs; have hf := obj_free_at H1.out 0 3 (Nat.le_refl _); have hk : fok (stC e a1 y1).toArray 3 = true := fok_of rfl (hs.sta.one e); clear hb hs r0)
  have HB2 := Lib.hid (aggW_below HB1.out (Nat.le_refl _) (stC e a1 y1))
  have H2 := Lib.hid (aggW_obj (L := stC e a y) (cs := stC e a1 y1) H1.out rfl (HS1.out.sta.one e))
  have HS2 := Lib.hid (HS1.out.off' H1.out (by decide) (aggW_grown _ _ (stC e a1 y1)))
  generalize aggW _ w.heap.size _ = W2 at HB2 H2 HS2 ⊢
  clear HB HB1 H0 H1 HS1 hf hk HF1
  go_upto_region 3 with (first
    | (go_at_call 8; (with_reducible refine (HA1.out _ HB2.out).mono ?_); rintro x w3 ⟨v3, rfl, hb, hv⟩; have HB3 := Lib.hid (bstep HB2.out hb); have H3 := Lib.hid (obj_keep H2.out hb); have HS3 := Lib.hid (HS2.out.below hb); have HV3 := Lib.hid hv; clear hb hv)
    | (go_at_call 12; (with_reducible refine (HOF.out _ _ HV3.out).mono ?_); rintro x w4 ⟨lp, ln, lc, rfl, hln, hb, hv⟩; have HB4 := Lib.hid (bstep HB3.out hb); have H4 := Lib.hid (obj_keep H3.out hb); have HS4 := Lib.hid (HS3.out.below hb); have HV4 := Lib.hid hv; have HLN := Lib.hid hln; clear hb hv hln))
  clear HB2 H2 HS2 HB3 H3 HS3 HV3 HA1 HOF
  have r0 := st_row H4.out
  go_upto_region 4 with (first
    | (go_at_call 7; (with_reducible refine (HF2.out _ _ _ HS4.out).mono ?_); rintro x w5 ⟨a2, y2, rfl, hb, hs⟩; have HB5 := Lib.hid (bstep HB4.out hb); have H5 := Lib.hid (obj_keep H4.out hb); have HS5 := Lib.hid (HS4.out.below hb); have HV5 := Lib.hid (HV4.out.below hb); have HT5 := Lib.hid hs; clear hb hs r0)
    | (go_at_call 8; (with_reducible refine (HA2.out _ _ HV5.out).mono ?_); rintro x w6 ⟨v6, rfl, hb, hv⟩; have HB6 := Lib.hid (bstep HB5.out hb); have H6 := Lib.hid (obj_keep H5.out hb); have HS6 := Lib.hid (HS5.out.below hb); have HV6 := Lib.hid (HV5.out.below hb); have HT6 := Lib.hid (HT5.out.below hb); have HN6 := Lib.hid hv; clear hb hv)
    | (go_at_call 9; (with_reducible refine (HAP.out _ _ _ _ HT6.out HN6.out).mono ?_); rintro x w7 ⟨us, rfl, hb, hs⟩; have HB7 := Lib.hid (bstep HB6.out hb); have H7 := Lib.hid (obj_keep H6.out hb); have HS7 := Lib.hid (HS6.out.below hb); have HV7 := Lib.hid (HV6.out.below hb); have HP7 := Lib.hid hs; clear hb hs; have hk : fok (stC PS.ex (us 1) (us 2)).toArray 3 = true := fok_of rfl (HP7.out.sta.one _)))
  have HQ : Hid (LsX w e a1 y1 F w7.heap.size (us 1) (us 2) PS (.slice lp ln lc) L (aggW (w7.alloc (.cells #[.bool false, .slice none 0 0, .slice none 0 0] 24)) w7.heap.size (stC PS.ex (us 1) (us 2)))) := Lib.hid ⟨bstep HB7.out (newBlw w7 _ _), keepNew H7.out, newObj w7 _ _ rfl (HP7.out.sta.one _), HS7.out.below (newBlw w7 _ _), HP7.out.below (newBlw w7 _ _), HV7.out.below (newBlw w7 _ _)⟩
  generalize aggW (w7.alloc _) w7.heap.size _ = W8 at HQ ⊢
  generalize w7.heap.size = m at HQ ⊢
  clear HB4 H4 HS4 HV4 HB5 H5 HS5 HV5 HT5 HB6 H6 HS6 HV6 HT6 HN6 HB7 H7 HS7 HV7 HP7 hk hfm HF2 HA2 HAP hfd
  generalize us 1 = u1 at *
  generalize us 2 = u2 at *
  go_cut [8] from 10 (fun p wr => p = .bool (inK K) ∧ wr = W8)
  case first =>
    have hK : K = 1 ∨ K = 3 ∨ K = 5 ∨ K = 2 ∨ K = 4 ∨ (K ≠ 1 ∧ K ≠ 3 ∧ K ≠ 5 ∧ K ≠ 2 ∧ K ≠ 4) := by omega
    clear HIN HXN HXE
    rcases hK with rfl | rfl | rfl | rfl | rfl | ⟨n1, n3, n5, n2, n4⟩
    rotate_right
    · have kk : inK K = false := by unfold inK; rw [decide_eq_false]; omega
      have b1 : (K == 1) = false := by simpa using n1
      have b2 : (K == 2) = false := by simpa using n2
      have b3 : (K == 3) = false := by simpa using n3
      have b4 : (K == 4) = false := by simpa using n4
      have b5 : (K == 5) = false := by simpa using n5
      have KK := Lib.hid kk
      clear n1 n2 n3 n4 n5 kk
      go_wp2
      go_meet
      case rel => exact ⟨congrArg Value.bool KK.out.symm, rfl⟩
    all_goals (
      go_wp2
      go_meet
      case rel => exact ⟨rfl, rfl⟩)
  case rest =>
    obtain ⟨rfl, rfl⟩ := hcut
    go_upto_region 5 with (fail)
    go_cut [9] from 10 (fun p wr => p = .bool (exK K) ∧ wr = wc)
    case first =>
      have hK : K = 1 ∨ K = 3 ∨ K = 5 ∨ K = 2 ∨ K = 4 ∨ (K ≠ 1 ∧ K ≠ 3 ∧ K ≠ 5 ∧ K ≠ 2 ∧ K ≠ 4) := by omega
      clear HIN HXN HXE
      rcases hK with rfl | rfl | rfl | rfl | rfl | ⟨n1, n3, n5, n2, n4⟩
      rotate_right
      · have kk : exK K = false := by unfold exK; rw [decide_eq_false]; omega
        have b1 : (K == 1) = false := by simpa using n1
        have b2 : (K == 2) = false := by simpa using n2
        have b3 : (K == 3) = false := by simpa using n3
        have b4 : (K == 4) = false := by simpa using n4
        have b5 : (K == 5) = false := by simpa using n5
        have KK := Lib.hid kk
        clear n1 n2 n3 n4 n5 kk
        go_wp2
        go_meet
        case rel => exact ⟨congrArg Value.bool KK.out.symm, rfl⟩
      all_goals (
        go_wp2
        go_meet
        case rel => exact ⟨rfl, rfl⟩)
    case rest =>
      obtain ⟨rfl, rfl⟩ := hcut
      generalize inK K = iv at *
      generalize exK K = xv at *
      have HLO : Hid (∀ c ∈ L, adOk c) := Lib.hid HQ.out.vl.1.ok
      obtain ⟨n, hn⟩ : ∃ n, n = L.length := ⟨_, rfl⟩
      have HN := Lib.hid hn
      have e1 : n = ln := by rw [hn]; exact HLN.out.symm
      subst e1
      have hmx1 : n ≤ maxLen := by rw [hn]; exact hmx.1
      unfold maxLen at hmx1
      clear hn HLN
      go_wp2_with fail
      go_loopw [10] (fun i wr => ∃ k : Nat, k ≤ n ∧ i = .int .i64 k ∧ Hid (LsX w e a1 y1 F m u1 u2 PS (.slice lp n lc) L wr)) (fun i _ => n - (intOf i).toNat)
      case atStart => exact ⟨0, by omega, rfl, HQ⟩
      case round =>
        clear HQ
        obtain ⟨k, hk, rfl, HQ⟩ := hrel
        by_cases hlt : k < n
        · have g1 : k < L.length := by rw [← HN.out]; exact hlt
          obtain ⟨lb, lo, rfl, -⟩ := ads_elem HQ.out.vl.1 k g1
          have hk1 : (k : Int) < (n : Int) := by omega
          have hk0 : (0 : Int) ≤ (k : Int) := by omega
          have hd : decide ((k : Int) < (n : Int)) = true := decide_eq_true hk1
          have hw1 : IntKind.i64.wrap ((k : Int) + 1) = (k : Int) + 1 := by simp only [IntKind.wrap_i64]; omega
          cases iv with
          | false =>
            go_upto_region 9 with (fail)
            have hne : Nonempty (InS (LsX w e a1 y1 F m u1 u2 PS (.slice (some ⟨lb, lo, none⟩) n lc) L)) := ⟨⟨_, HQ.out⟩⟩
            refine wp_region_inS (LsX w e a1 y1 F m u1 u2 PS (.slice (some ⟨lb, lo, none⟩) n lc) L) (by kernel_rfl) (by kernel_rfl) (LsX.keep _ _ HQ.out (bdrewN (Below.refl _ _) 1)) ?_
            repeat (go_big_quiet_step (fail))
            refine wpQuiet_nil ?_
            rintro _ ⟨⟨W2, hS2⟩, rfl⟩
            have H2 := Lib.hid hS2
            clear hS2 hne
            go_wp2
            go_roundw
            case rel => exact ⟨k + 1, by omega, by simp, H2⟩
            case measure => simp [intOf]; omega
          | true =>
            have HC1 := Lib.hid (HLO.out _ (List.getElem_mem g1))
            have HL1 : Hid (∀ W, StT W u1 u2 PS → Calls Try.prog 20 #[.agg (stC PS.ex u1 u2).toArray, .agg (adC L[k]).toArray] W fun x w' => x = .returned (.bool true) ∧ Below W.heap.size W w') := Lib.hid fun W hs => by
              have := HLT.out W u1 u2 _ hs HC1.out
              rwa [HIN.out rfl _ (List.getElem_mem g1)] at this
            have HRW := Lib.hid (fun W (q : LsX w e a1 y1 F m u1 u2 PS (.slice (some ⟨lb, lo, none⟩) n lc) L W) => ads_place (W' := W) q.vl.1 rfl g1)
            generalize adC L[k] = C at *
            go_upto_region 9 with (fail)
            have f0 : ∀ p : InS (LsX w e a1 y1 F m u1 u2 PS (.slice (some ⟨lb, lo, none⟩) n lc) L), row? p.W m 0 3 = some (stC PS.ex u1 u2) := fun p => st_row p.h.two
            have f1 : ∀ p : InS (LsX w e a1 y1 F m u1 u2 PS (.slice (some ⟨lb, lo, none⟩) n lc) L), row? p.W lb (lo + k * 17) 17 = some C := fun p => HRW.out _ p.h
            have hne : Nonempty (InS (LsX w e a1 y1 F m u1 u2 PS (.slice (some ⟨lb, lo, none⟩) n lc) L)) := ⟨⟨_, HQ.out⟩⟩
            refine wp_region_inS (LsX w e a1 y1 F m u1 u2 PS (.slice (some ⟨lb, lo, none⟩) n lc) L) (by kernel_rfl) (by kernel_rfl) (LsX.keep _ _ HQ.out (bdrewN (Below.refl _ _) 1)) ?_
            repeat (go_big_quiet_step (first
              | (go_at_call 20; with_reducible exact Calls.inS LsX.keep _ (fun W q => HL1.out W q.sx))))
            refine wpQuiet_nil ?_
            rintro _ ⟨⟨W2, hS2⟩, rfl⟩
            have H2 := Lib.hid hS2
            clear hS2 hne f0 f1
            go_wp2
            go_roundw
            case rel => exact ⟨k + 1, by omega, by simp, H2⟩
            case measure => simp [intOf]; omega
        · have hk1 : ¬ (k : Int) < (n : Int) := by omega
          have hd : decide ((k : Int) < (n : Int)) = false := decide_eq_false hk1
          obtain ⟨c0, c1, c2⟩ := st_cells HQ.out.one
          go_upto_region 12 with (go_at_call 24; (with_reducible refine (HOR.out _ _ _ HQ.out.st).mono ?_); rintro x w9 ⟨gp, gn, gc, rfl, hgn, hb, hv⟩; have HY : Hid (LsY w e a1 y1 F m u1 u2 PS (.slice lp n lc) L (.slice gp gn gc) G w9) := Lib.hid ⟨LsX.keep _ _ HQ.out hb, hv⟩; have HGN := Lib.hid hgn; clear hb hv hgn c0 c1 c2)
          clear HQ HOR hk1 hd
          obtain ⟨q, hq⟩ : ∃ q, q = G.length := ⟨_, rfl⟩
          have HNG := Lib.hid hq
          have e2 : q = gn := by rw [hq]; exact HGN.out.symm
          subst e2
          have hmx2 : q ≤ maxLen := by rw [hq]; exact hmx.2
          unfold maxLen at hmx2
          have HGO2 : Hid (∀ c ∈ G, adOk c) := Lib.hid HY.out.g.1.ok
          clear hq HGN hmx
          go_wp2_with fail
          go_loopw [12] (fun i wr => ∃ k : Nat, k ≤ q ∧ i = .int .i64 k ∧ Hid (LsY w e a1 y1 F m u1 u2 PS (.slice lp n lc) L (.slice gp q gc) G wr)) (fun i _ => q - (intOf i).toNat)
          case atStart => exact ⟨0, by omega, rfl, HY⟩
          case round =>
            clear HY
            obtain ⟨j, hj, rfl, HY⟩ := hrel
            by_cases hlj : j < q
            · have g2 : j < G.length := by rw [← HNG.out]; exact hlj
              obtain ⟨gb, go2, rfl, -⟩ := ads_elem HY.out.g.1 j g2
              have hj1 : (j : Int) < (q : Int) := by omega
              have hj0 : (0 : Int) ≤ (j : Int) := by omega
              have hd : decide ((j : Int) < (q : Int)) = true := decide_eq_true hj1
              have hw1 : IntKind.i64.wrap ((j : Int) + 1) = (j : Int) + 1 := by simp only [IntKind.wrap_i64]; omega
              cases xv with
              | false =>
                go_upto_region 15 with (fail)
                have hne : Nonempty (InS (LsY w e a1 y1 F m u1 u2 PS (.slice lp n lc) L (.slice (some ⟨gb, go2, none⟩) q gc) G)) := ⟨⟨_, HY.out⟩⟩
                refine wp_region_inS (LsY w e a1 y1 F m u1 u2 PS (.slice lp n lc) L (.slice (some ⟨gb, go2, none⟩) q gc) G) (by kernel_rfl) (by kernel_rfl) (LsY.keep _ _ HY.out (bdrewN (Below.refl _ _) 1)) ?_
                repeat (go_big_quiet_step (fail))
                refine wpQuiet_nil ?_
                rintro _ ⟨⟨W2, hS2⟩, rfl⟩
                have H2 := Lib.hid hS2
                clear hS2 hne
                go_wp2
                go_roundw
                case rel => exact ⟨j + 1, by omega, by simp, H2⟩
                case measure => simp [intOf]; omega
              | true =>
                have HC1 := Lib.hid (HGO2.out _ (List.getElem_mem g2))
                have HRW := Lib.hid (fun W (t : LsY w e a1 y1 F m u1 u2 PS (.slice lp n lc) L (.slice (some ⟨gb, go2, none⟩) q gc) G W) => ads_place (W' := W) t.g.1 rfl g2)
                have HH1 := Lib.hid (fun W v (t : AdsT W v L) => HHA.out W v _ t HC1.out)
                by_cases hm : G[j] ∈ L
                · rw [decide_eq_true hm] at HH1
                  clear hm HC1
                  generalize adC G[j] = C at *
                  go_upto_region 15 with (fail)
                  have f1 : ∀ p : InS (LsY w e a1 y1 F m u1 u2 PS (.slice lp n lc) L (.slice (some ⟨gb, go2, none⟩) q gc) G), row? p.W gb (go2 + j * 17) 17 = some C := fun p => HRW.out _ p.h
                  have hne : Nonempty (InS (LsY w e a1 y1 F m u1 u2 PS (.slice lp n lc) L (.slice (some ⟨gb, go2, none⟩) q gc) G)) := ⟨⟨_, HY.out⟩⟩
                  refine wp_region_inS (LsY w e a1 y1 F m u1 u2 PS (.slice lp n lc) L (.slice (some ⟨gb, go2, none⟩) q gc) G) (by kernel_rfl) (by kernel_rfl) (LsY.keep _ _ HY.out (bdrewN (Below.refl _ _) 1)) ?_
                  repeat (go_big_quiet_step (first
                    | (go_at_call 25; with_reducible exact Calls.inS LsY.keep _ (fun W q => HH1.out W _ q.b.vl))))
                  refine wpQuiet_nil ?_
                  rintro _ ⟨⟨W2, hS2⟩, rfl⟩
                  have H2 := Lib.hid hS2
                  clear hS2 hne f1
                  go_wp2
                  go_roundw
                  case rel => exact ⟨j + 1, by omega, by simp, H2⟩
                  case measure => simp [intOf]; omega
                · rw [decide_eq_false hm] at HH1
                  have HL1 : Hid (∀ W, StT W u1 u2 PS → Calls Try.prog 20 #[.agg (stC PS.ex u1 u2).toArray, .agg (adC G[j]).toArray] W fun x w' => x = .returned (.bool true) ∧ Below W.heap.size W w') := Lib.hid fun W hs => by
                    have := HLT.out W u1 u2 _ hs HC1.out
                    rwa [HXN.out rfl _ hm] at this
                  clear hm HC1
                  generalize adC G[j] = C at *
                  go_upto_region 15 with (fail)
                  have f0 : ∀ p : InS (LsY w e a1 y1 F m u1 u2 PS (.slice lp n lc) L (.slice (some ⟨gb, go2, none⟩) q gc) G), row? p.W m 0 3 = some (stC PS.ex u1 u2) := fun p => st_row p.h.b.two
                  have f1 : ∀ p : InS (LsY w e a1 y1 F m u1 u2 PS (.slice lp n lc) L (.slice (some ⟨gb, go2, none⟩) q gc) G), row? p.W gb (go2 + j * 17) 17 = some C := fun p => HRW.out _ p.h
                  have hne : Nonempty (InS (LsY w e a1 y1 F m u1 u2 PS (.slice lp n lc) L (.slice (some ⟨gb, go2, none⟩) q gc) G)) := ⟨⟨_, HY.out⟩⟩
                  refine wp_region_inS (LsY w e a1 y1 F m u1 u2 PS (.slice lp n lc) L (.slice (some ⟨gb, go2, none⟩) q gc) G) (by kernel_rfl) (by kernel_rfl) (LsY.keep _ _ HY.out (bdrewN (Below.refl _ _) 1)) ?_
                  repeat (go_big_quiet_step (first
                    | (go_at_call 25; with_reducible exact Calls.inS LsY.keep _ (fun W q => HH1.out W _ q.b.vl))
                    | (go_at_call 20; with_reducible exact Calls.inS LsY.keep _ (fun W q => HL1.out W q.b.sx))))
                  refine wpQuiet_nil ?_
                  rintro _ ⟨⟨W2, hS2⟩, rfl⟩
                  have H2 := Lib.hid hS2
                  clear hS2 hne f0 f1
                  go_wp2
                  go_roundw
                  case rel => exact ⟨j + 1, by omega, by simp, H2⟩
                  case measure => simp [intOf]; omega
            · have hj1 : ¬ (j : Int) < (q : Int) := by omega
              have hd : decide ((j : Int) < (q : Int)) = false := decide_eq_false hj1
              cases xv with
              | false =>
                go_wp2_with (go_at_call 14; (with_reducible refine (HLV.out _).mono ?_); rintro x w10 ⟨rfl, hb⟩; replace HY := Lib.hid (LsY.keep _ _ HY.out hb); clear hb)
                go_ret
                exact ⟨rfl, HY.out.b.blw⟩
              | true =>
                have hex := HXE.out rfl
                have HGO3 := Lib.hid (HGO.out hex)
                clear HGO HXE HIN HXN
                have HST := Lib.hid (fun W (t : LsY w e a1 y1 F m u1 u2 PS (.slice lp n lc) L (.slice gp q gc) G W) => (⟨by have := st_row t.b.two; rwa [hex] at this, by have := (st_cells t.b.two).1; rwa [hex] at this⟩ : row? W m 0 3 = some (stC true u1 u2) ∧ W.cell? ⟨m, 0, none⟩ = some (.bool true)))
                clear hex
                obtain ⟨r1, c1⟩ := HST.out _ HY.out
                go_wp2_with (first
                  | (go_at_call 22; (with_reducible refine (HGO3.out _ _ _ HY.out.b.sx).mono ?_); rintro x w10 ⟨rfl, hb⟩; replace HY := Lib.hid (LsY.keep _ _ HY.out hb); clear hb r1 c1)
                  | (go_at_call 14; (with_reducible refine (HLV.out _).mono ?_); rintro x w10 ⟨rfl, hb⟩; replace HY := Lib.hid (LsY.keep _ _ HY.out hb); clear hb))
                go_ret
                exact ⟨rfl, HY.out.b.blw⟩
end Go.Proofs.Ytokpogoblnhihaa

/-
  The document's own table, of records of kind none.
-/
import Derived.Test.YtokpogoblnhihaaFtM
namespace Go.Proofs.Ytokpogoblnhihaa
open Go.RowKit
set_option linter.unusedVariables false
set_option linter.unusedSimpArgs false
attribute [local go_sem ↓] ld_addr st_addr bld_addr ld_sta st_sta bld_sta ld_sp st_sp bld_sp adsLit_eq
attribute [local go_sem] ldr_addr str_addr ldr_sta str_sta ldr_sp str_sp row?_drewN_eq row?_drew_eq


set_option maxRecDepth 100000 in
set_option maxHeartbeats 16000000 in
theorem rapply_0f (s : ST) (K : Int) (n1 : K ≠ 1) (n2 : K ≠ 2) (n3 : K ≠ 3) (n4 : K ≠ 4) (n5 : K ≠ 5) (n6 : K ≠ 6) (he : s.ex = false) (a y vb : Value) (b : List AD) (w : World) (ha : Ads w a s.on) (hy : Ads w y s.off) (hb : Ads w vb b) (ca : ∀ n c, a = .slice none n c → c = 0) (cy : ∀ n c, y = .slice none n c → c = 0) (la : s.on.length ≤ 1000) (ly : s.off.length ≤ 1000) (lb : b.length ≤ 1000) :
    Calls Try.prog 11 #[.agg (stC s.ex a y).toArray, .int .i64 K, vb] w fun x w' => ∃ us, x = .returned (.agg (spC false us false false).toArray) ∧ Below w.heap.size w w' ∧ RowsF w' w.heap.size J6 us (apL s K b (allS s b).length) := by
  have H0 : Hid (Bx w ((w.alloc (.cells (stC s.ex a y).toArray 24)).alloc (.cells #[.bool false, .slice none 0 0, .slice none 0 0, .slice none 0 0, .slice none 0 0, .bool false, .slice none 0 0, .bool false] 28)) (stC s.ex a y).toArray 24 (spC false nilF false false).toArray 28) := Lib.hid (Bx.made w _ _ _ _)
  have HOR1 : Hid (∀ W, Below w.heap.size w W → Calls Try.prog 24 #[a, y] W fun x w' => ∃ v', x = .returned v' ∧ Below W.heap.size W w' ∧ OwnL w' W.heap.size v' (orA s.on s.off)) := Lib.hid fun W h => or11_any a y s.on s.off W (ha.below h) (hy.below h) ca cy (by omega) (by omega)
  have HOF : Hid (∀ W, Below w.heap.size w W → Calls Try.prog 12 #[vb] W fun x w' => ∃ v', x = .returned v' ∧ Below W.heap.size W w' ∧ OwnL w' W.heap.size v' (ofA b)) := Lib.hid fun W h => of11_any vb b W (hb.below h) (by omega)
  have oo1 : ∀ x ∈ orA s.on s.off, adOk x := ofA_ok (fun x hx => (List.mem_append.1 hx).elim (ha.ok x) (hy.ok x))
  have oo2 : ∀ x ∈ ofA b, adOk x := ofA_ok hb.ok
  have l1 : (orA s.on s.off).length ≤ 2000 := Nat.le_trans (ofA_length _) (by rw [List.length_append]; omega)
  have l2 : (ofA b).length ≤ 1000 := Nat.le_trans (ofA_length _) lb
  have HLN : Hid ((allS s b).length ≤ 3000) := Lib.hid (Nat.le_trans (ofA_length _) (by rw [List.length_append]; omega))
  have HOK : Hid (∀ x ∈ allS s b, adOk x) := Lib.hid (ofA_ok (fun x hx => (List.mem_append.1 hx).elim (oo1 x) (oo2 x)))
  have HOR2 : Hid (∀ W p1 p2 B1 B2, OwnL W B1 p1 (orA s.on s.off) → OwnL W B2 p2 (ofA b) → Calls Try.prog 24 #[p1, p2] W fun x w' => ∃ v', x = .returned v' ∧ Below W.heap.size W w' ∧ OwnL w' W.heap.size v' (allS s b)) := Lib.hid fun W p1 p2 B1 B2 h1 h2 => or11_any p1 p2 _ _ W (h1.ads oo1).1 (h2.ads oo2).1 h1.cap h2.cap (by omega) (by omega)
  have HH1 : Hid (∀ W c, Below w.heap.size w W → adOk c → Calls Try.prog 25 #[a, .agg (adC c).toArray] W fun x w' => x = .returned (.bool (decide (c ∈ s.on))) ∧ Below W.heap.size W w') := Lib.hid fun W c h hc => has11_any a s.on c W (ha.below h) hc
  have HH2 : Hid (∀ W c, Below w.heap.size w W → adOk c → Calls Try.prog 25 #[y, .agg (adC c).toArray] W fun x w' => x = .returned (.bool (decide (c ∈ s.off))) ∧ Below W.heap.size W w') := Lib.hid fun W c h hc => has11_any y s.off c W (hy.below h) hc
  have HH3 : Hid (∀ W c, Below w.heap.size w W → adOk c → Calls Try.prog 25 #[vb, .agg (adC c).toArray] W fun x w' => x = .returned (.bool (decide (c ∈ b))) ∧ Below W.heap.size W w') := Lib.hid fun W c h hc => has11_any vb b c W (hb.below h) hc
  have hbs := fun e w0 => bld_s15 e w0
  have hbp := fun e w0 => bld_p15 e w0
  have hfk : ∀ e, fok (spC e nilF false false).toArray 8 = true := fun e => fok_of rfl (spC_one fun _ => rfl)
  have hfm := fun W => fmade W #[.bool false, .slice none 0 0, .slice none 0 0, .slice none 0 0, .slice none 0 0, .bool false, .slice none 0 0, .bool false] 28 8 rfl
  clear ha hy hb ca cy la ly lb oo1 oo2 l1 l2
  have d1 : (K == 1) = false := by simpa using n1
  have d2 : (K == 2) = false := by simpa using n2
  have d3 : (K == 3) = false := by simpa using n3
  have d4 : (K == 4) = false := by simpa using n4
  have d5 : (K == 5) = false := by simpa using n5
  have d6 : (K == 6) = false := by simpa using n6
  have HIN : Hid (inK K = false) := Lib.hid (by unfold inK; rw [decide_eq_false_iff_not]; omega)
  have HEX : Hid (exK K = false) := Lib.hid (by unfold exK; rw [decide_eq_false_iff_not]; omega)
  have HNK := Lib.hid (show K ≠ 1 ∧ K ≠ 2 ∧ K ≠ 3 ∧ K ≠ 4 ∧ K ≠ 5 ∧ K ≠ 6 from ⟨n1, n2, n3, n4, n5, n6⟩)
  clear n1 n2 n3 n4 n5 n6
  have HEE := Lib.hid he
  have HX : Hid (∀ W, Bx w W (stC false a y).toArray 24 (spC false nilF false false).toArray 28 → Bx w W (stC s.ex a y).toArray 24 (spC false nilF false false).toArray 28) := Lib.hid fun W h => by rw [he]; exact h
  clear he
  rw [HEE.out] at H0 ⊢
  go_enter Try.func11, Try.ntmps11
  go_upto_region 1 with (fail)
  generalize (w.alloc _).alloc _ = W at H0 ⊢
  replace H0 := Lib.hid (HX.out _ H0.out)
  have c0 : W.cell? ⟨w.heap.size, 0, none⟩ = some (.bool false) := by rw [← HEE.out, ObjAt.cell H0.out.one]; rfl
  go_upto_region 2 with (fail)
  have H1 := Lib.hid (StpR.start H0.out false)
  generalize aggW (W.alloc _) W.heap.size _ = W1 at H1 ⊢
  generalize W.heap.size = m at H1 ⊢
  clear H0 c0 hbs hbp hfk hfm HX
  obtain ⟨s0, s1, s2⟩ := H1.out.cells
  rw [HEE.out] at s0
  obtain ⟨c0, c1, c2, c3, c4, c5, c6, c7, cf⟩ := spC_cells H1.out.obj
  go_upto_region 6 with (fail)
  have H2 := Lib.hid (H1.out.flag 7 false (e' := _) (g' := _) (al' := _) rfl)
  generalize World.setCell _ _ _ = W2 at H2 ⊢
  clear s0 s1 s2 c0 c1 c2 c3 c4 c5 c6 c7 cf H1
  obtain ⟨s0, s1, s2⟩ := H2.out.cells
  rw [HEE.out] at s0
  go_upto_region 7 with (first
      | (go_at_call 24; (with_reducible refine (HOR2.out _ _ _ _ _ HP3.out HP2.out).mono ?_); rintro x w3 ⟨pv, rfl, hb, ho⟩; have H5 := Lib.hid ((H4.out.below hb).all ho (Nat.succ_le_of_lt H4.out.obj.lt) HOK.out); clear hb ho)
      | (go_at_call 24; (with_reducible refine (HOR1.out _ H2.out.blw).mono ?_); rintro x w1 ⟨p1, rfl, hb, ho⟩; have H3 := Lib.hid (H2.out.below hb); have HP1 := Lib.hid ho; clear hb ho)
      | (go_at_call 12; (with_reducible refine (HOF.out _ H3.out.blw).mono ?_); rintro x w2 ⟨p2, rfl, hb, ho⟩; have H4 := Lib.hid (H3.out.below hb); have HP3 := Lib.hid (HP1.out.below hb); have HP2 := Lib.hid ho; clear hb ho))
  clear s0 s1 s2 HOR1 HOR2 HOF H2 H3 H4 HP1 HP2 HP3
  obtain ⟨n, hn⟩ : ∃ n, n = (allS s b).length := ⟨_, rfl⟩
  have HN := Lib.hid hn
  have HN3 : Hid (n ≤ 3000) := Lib.hid (by rw [hn]; exact HLN.out)
  clear hn HLN
  have hn3 := HN3.out
  obtain ⟨us0, hus0⟩ : ∃ us0, us0 = setF nilF 0 pv := ⟨_, rfl⟩
  replace H5 : Hid (StpR w w3 m s a y false false false us0 (apL s K b 0)) := Lib.hid (by rw [hus0]; exact H5.out.congr (fun j hj => by unfold apL setF; split <;> simp))
  obtain ⟨gp, cp, hpv⟩ : ∃ p c, pv = .slice p n c := by
      have h := (H5.out.rows.own 0 (by simp [J6])).1
      have e0 : us0 0 = pv := by rw [hus0]; rfl
      rw [e0] at h
      obtain ⟨p, c, e, _, _⟩ := (Ads.own (H5.out.rows.own 0 (by simp [J6])).2 h).len
      exact ⟨p, c, by rw [e, HN.out]; rfl⟩
  have HPV : Hid (us0 0 = .slice gp n cp) := Lib.hid (by rw [hus0, ← hpv]; rfl)
  subst hpv
  clear hus0
  go_wp2_with fail
  go_loopw [11] (fun i wr => ∃ (k : Nat) (us : Nat → Value), k ≤ n ∧ i = .int .i64 k ∧ Hid (us 0 = .slice gp n cp) ∧ Hid (StpR w wr m s a y false false false us (apL s K b k))) (fun i _ => n - (intOf i).toNat)
  case atStart => exact ⟨0, us0, by omega, rfl, HPV, H5⟩
  case round =>
    clear H5 HPV
    obtain ⟨k, us, hk, rfl, HU, HS⟩ := hrel
    by_cases hlt : k < n
    · have hk1 : (k : Int) < (n : Int) := by omega
      have hw1 : IntKind.i64.wrap ((k : Int) + 1) = (k : Int) + 1 := by simp only [IntKind.wrap_i64]; omega
      have g1 : k < (allS s b).length := by rw [← HN.out]; exact hlt
      have hA : Ads wr (.slice gp n cp) (allS s b) := by
        have h := HS.out.rows.ads (j := 0) (by simp [J6])
        rw [HU.out] at h
        exact h
      obtain ⟨bq, oq, cap', e, _, _, hbl, hat⟩ := hA.parts (fun e => by rw [e] at g1; exact absurd g1 (by simp))
      simp only [Value.slice.injEq] at e
      obtain ⟨rfl, -, -⟩ := e
      have r1 := hat k g1
      have hoc := HOK.out _ (List.getElem_mem g1)
      obtain ⟨c, hc⟩ : ∃ c, (allS s b)[k] = c := ⟨_, rfl⟩
      rw [hc] at r1 hoc
      obtain ⟨m1, m2, m3, m4, m6, m0⟩ := apL_steps (K := K) HEE.out g1 hc
      have HLB : Hid (∀ j, (apL s K b k j).length ≤ 1000000) := Lib.hid (fun j => Nat.le_trans (apL_length _ _ _ _ _) (by rw [← HN.out]; have := HN3.out; omega))
      have HOC := Lib.hid hoc
      have hh1 := Lib.hid (fun W h => HH1.out W c h hoc)
      have hh2 := Lib.hid (fun W h => HH2.out W c h hoc)
      have hh3 := Lib.hid (fun W h => HH3.out W c h hoc)
      have hfA := fmade wr #[.bool false, .int .u8 0, .int .u8 0, .int .u8 0, .int .u8 0, .int .u8 0, .int .u8 0, .int .u8 0, .int .u8 0, .int .u8 0, .int .u8 0, .int .u8 0, .int .u8 0, .int .u8 0, .int .u8 0, .int .u8 0, .int .u8 0] 37 17 rfl
      have hkA := fok_addr c.1 c.2 hoc
      rw [show addrC c.1 c.2 = adC c from rfl] at hkA
      have HQ := Lib.hid (StpQ.start HS.out hoc)
      clear hA hbl hat hc hoc g1
      generalize decide (c ∈ s.on) = on at m1 m2 m3 m4 m6 hh1
      generalize decide (c ∈ s.off) = off at m1 m2 m3 m4 m6 hh2
      generalize decide (c ∈ b) = said at m1 m2 m3 m4 m6 hh3
      have HM := Lib.hid (show _ ∧ _ ∧ _ ∧ _ ∧ _ ∧ _ from ⟨m1, m2, m3, m4, m6, m0⟩)
      clear m1 m2 m3 m4 m6 m0
      go_upto_region 11 with (fail)
      generalize aggW (wr.alloc _) wr.heap.size _ = W1 at HQ ⊢
      generalize wr.heap.size = q at HQ ⊢
      clear r1 hfA hkA HS
      have f1 : ∀ p : InS (fun W => StpQ w W m q s a y false false false us (apL s K b k) c), p.W.cell? ⟨w.heap.size, 1, none⟩ = some a := fun p => p.h.st.cells.2.1
      have f2 : ∀ p : InS (fun W => StpQ w W m q s a y false false false us (apL s K b k) c), p.W.cell? ⟨w.heap.size, 2, none⟩ = some y := fun p => p.h.st.cells.2.2
      have f3 : ∀ p : InS (fun W => StpQ w W m q s a y false false false us (apL s K b k) c), row? p.W q 0 17 = some (adC c) := fun p => p.h.row HOC.out
      have hne : Nonempty (InS (fun W => StpQ w W m q s a y false false false us (apL s K b k) c)) := ⟨⟨_, HQ.out⟩⟩
      refine wp_region_inS (fun W => StpQ w W m q s a y false false false us (apL s K b k) c) (by kernel_rfl) (by kernel_rfl) (StpQ.keep _ _ HQ.out (bdrewN (Below.refl _ _) 1)) ?_
      repeat (go_big_quiet_step (first
        | (go_at_call 25; with_reducible exact Calls.inS StpQ.keep _ (fun W h => hh1.out W h.st.blw))
        | (go_at_call 25; with_reducible exact Calls.inS StpQ.keep _ (fun W h => hh2.out W h.st.blw))
        | (go_at_call 25; with_reducible exact Calls.inS StpQ.keep _ (fun W h => hh3.out W h.st.blw))))
      refine wpQuiet_nil ?_
      rintro _ ⟨⟨W2, hS2⟩, rfl⟩
      have HS := Lib.hid hS2
      clear hS2 hne f1 f2 f3 HQ hh1 hh2 hh3
      have s0 := HS.out.st.cells.1
      rw [HEE.out] at s0
      have rq := HS.out.row HOC.out
      obtain ⟨c0, c1, c2, c3, c4, c5, c6, c7, cf⟩ := spC_cells HS.out.st.obj
      have hlit := adsLit_run c HOC.out
      cases on <;> cases off <;> cases said
      all_goals (
        go_wp2_with (first
        | (at_builtin; refine wpList_appR rfl _ _ rfl (m + 1) J6 _ _ 1 (by exact rfl) c _ (HS.out.st.rows.below (bbS _ _)) (by simp [J6]) rfl (by first | exact ObjAt.made _ _ _ | exact made_set _ _ _ _ _) HOC.out (HLB.out 1) (Nat.le_trans (Nat.succ_le_of_lt HS.out.st.obj.lt) (by simp)) ?_; intro v' w5 hR hg hat; obtain ⟨vp, vn, vc, rfl⟩ := hR.shape (by simp [J6]); obtain ⟨hn, k3, ks, kr⟩ := HS.out.app (by simp [J6]) (by decide) _ hg hR hat HOC.out; clear s0 rq c0 c1 c2 c3 c4 c5 c6 c7 cf; rw [HEE.out] at ks; have s0 := ks; have rq := hn.row HOC.out; obtain ⟨c0, c1, c2, c3, c4, c5, c6, c7, cf⟩ := spC_cells k3; replace HS := Lib.hid hn; clear hR hg hat hn k3 ks kr)
        | (at_builtin; refine wpList_appR rfl _ _ rfl (m + 1) J6 _ _ 2 (by exact rfl) c _ (HS.out.st.rows.below (bbS _ _)) (by simp [J6]) rfl (by first | exact ObjAt.made _ _ _ | exact made_set _ _ _ _ _) HOC.out (HLB.out 2) (Nat.le_trans (Nat.succ_le_of_lt HS.out.st.obj.lt) (by simp)) ?_; intro v' w5 hR hg hat; obtain ⟨vp, vn, vc, rfl⟩ := hR.shape (by simp [J6]); obtain ⟨hn, k3, ks, kr⟩ := HS.out.app (by simp [J6]) (by decide) _ hg hR hat HOC.out; clear s0 rq c0 c1 c2 c3 c4 c5 c6 c7 cf; rw [HEE.out] at ks; have s0 := ks; have rq := hn.row HOC.out; obtain ⟨c0, c1, c2, c3, c4, c5, c6, c7, cf⟩ := spC_cells k3; replace HS := Lib.hid hn; clear hR hg hat hn k3 ks kr)
        | (at_builtin; refine wpList_appR rfl _ _ rfl (m + 1) J6 _ _ 3 (by exact rfl) c _ (HS.out.st.rows.below (bbS _ _)) (by simp [J6]) rfl (by first | exact ObjAt.made _ _ _ | exact made_set _ _ _ _ _) HOC.out (HLB.out 3) (Nat.le_trans (Nat.succ_le_of_lt HS.out.st.obj.lt) (by simp)) ?_; intro v' w5 hR hg hat; obtain ⟨vp, vn, vc, rfl⟩ := hR.shape (by simp [J6]); obtain ⟨hn, k3, ks, kr⟩ := HS.out.app (by simp [J6]) (by decide) _ hg hR hat HOC.out; clear s0 rq c0 c1 c2 c3 c4 c5 c6 c7 cf; rw [HEE.out] at ks; have s0 := ks; have rq := hn.row HOC.out; obtain ⟨c0, c1, c2, c3, c4, c5, c6, c7, cf⟩ := spC_cells k3; replace HS := Lib.hid hn; clear hR hg hat hn k3 ks kr)
        | (at_builtin; refine wpList_appR rfl _ _ rfl (m + 1) J6 _ _ 4 (by exact rfl) c _ (HS.out.st.rows.below (bbS _ _)) (by simp [J6]) rfl (by first | exact ObjAt.made _ _ _ | exact made_set _ _ _ _ _) HOC.out (HLB.out 4) (Nat.le_trans (Nat.succ_le_of_lt HS.out.st.obj.lt) (by simp)) ?_; intro v' w5 hR hg hat; obtain ⟨vp, vn, vc, rfl⟩ := hR.shape (by simp [J6]); obtain ⟨hn, k3, ks, kr⟩ := HS.out.app (by simp [J6]) (by decide) _ hg hR hat HOC.out; clear s0 rq c0 c1 c2 c3 c4 c5 c6 c7 cf; rw [HEE.out] at ks; have s0 := ks; have rq := hn.row HOC.out; obtain ⟨c0, c1, c2, c3, c4, c5, c6, c7, cf⟩ := spC_cells k3; replace HS := Lib.hid hn; clear hR hg hat hn k3 ks kr)
        | (at_builtin; refine wpList_appR rfl _ _ rfl (m + 1) J6 _ _ 6 (by exact rfl) c _ (HS.out.st.rows.below (bbS _ _)) (by simp [J6]) rfl (by first | exact ObjAt.made _ _ _ | exact made_set _ _ _ _ _) HOC.out (HLB.out 6) (Nat.le_trans (Nat.succ_le_of_lt HS.out.st.obj.lt) (by simp)) ?_; intro v' w5 hR hg hat; obtain ⟨vp, vn, vc, rfl⟩ := hR.shape (by simp [J6]); obtain ⟨hn, k3, ks, kr⟩ := HS.out.app (by simp [J6]) (by decide) _ hg hR hat HOC.out; clear s0 rq c0 c1 c2 c3 c4 c5 c6 c7 cf; rw [HEE.out] at ks; have s0 := ks; have rq := hn.row HOC.out; obtain ⟨c0, c1, c2, c3, c4, c5, c6, c7, cf⟩ := spC_cells k3; replace HS := Lib.hid hn; clear hR hg hat hn k3 ks kr))
        go_roundw
        case rel =>
          refine ⟨k + 1, _, by omega, by go_num, ?hu, Lib.hid (HS.out.st.congr (fun j hj => ?_))⟩
          case hu => exact Lib.hid HU.out
          obtain ⟨m1, m2, m3, m4, m6, m0⟩ := HM.out
          simp only [J6, List.mem_cons, List.not_mem_nil, or_false] at hj
          rcases hj with rfl | rfl | rfl | rfl | rfl | rfl
          · rw [m0] <;> simp [setF]
          · rw [m1] <;> simp [fOn, fOff, fFull, fRest, fAsk, HIN.out, HEX.out, HNK.out.1, HNK.out.2.1, HNK.out.2.2.1, HNK.out.2.2.2.1, HNK.out.2.2.2.2.1, HNK.out.2.2.2.2.2, setF]
          · rw [m2] <;> simp [fOn, fOff, fFull, fRest, fAsk, HIN.out, HEX.out, HNK.out.1, HNK.out.2.1, HNK.out.2.2.1, HNK.out.2.2.2.1, HNK.out.2.2.2.2.1, HNK.out.2.2.2.2.2, setF]
          · rw [m3] <;> simp [fOn, fOff, fFull, fRest, fAsk, HIN.out, HEX.out, HNK.out.1, HNK.out.2.1, HNK.out.2.2.1, HNK.out.2.2.2.1, HNK.out.2.2.2.2.1, HNK.out.2.2.2.2.2, setF]
          · rw [m4] <;> simp [fOn, fOff, fFull, fRest, fAsk, HIN.out, HEX.out, HNK.out.1, HNK.out.2.1, HNK.out.2.2.1, HNK.out.2.2.2.1, HNK.out.2.2.2.2.1, HNK.out.2.2.2.2.2, setF]
          · rw [m6] <;> simp [fOn, fOff, fFull, fRest, fAsk, HIN.out, HEX.out, HNK.out.1, HNK.out.2.1, HNK.out.2.2.1, HNK.out.2.2.2.1, HNK.out.2.2.2.2.1, HNK.out.2.2.2.2.2, setF]
        case measure => simp [intOf]; omega)
    · have hd : ¬ (k : Int) < (n : Int) := by omega
      have HKN : Hid (k = n) := Lib.hid (by omega)
      obtain ⟨s0, s1, s2⟩ := HS.out.cells
      have hro : row? wr m 0 8 = some (spC false us false false) := obj_re HS.out.obj (A := []) (M := spC false us false false) (C := []) (by simp) rfl rfl
      have hfr := obj_free_at HS.out.res 0 8 (Nat.le_refl _)
      have hok : fok (spC false us false false).toArray 8 = true := fok_of rfl (spC_one' HS.out.rows)
      clear hlt
      go_wp2
      obtain ⟨q1, q2⟩ := resDone HS.out.res HS.out.blw (by omega) (spC false us false false) rfl
      have HF := HS.out.rows
      rw [HKN.out, HN.out] at HF
      exact bodyPost_ret (results_cell Try.results11 rfl (ld_some q1 (ldr_sp _ _ _))) rfl ⟨us, rfl, q2, (HF.agg (by have := HS.out.lt; omega) _).mono (by have := HS.out.lt; omega)⟩

set_option maxRecDepth 100000 in
set_option maxHeartbeats 16000000 in
theorem rapply_0t (s : ST) (K : Int) (n1 : K ≠ 1) (n2 : K ≠ 2) (n3 : K ≠ 3) (n4 : K ≠ 4) (n5 : K ≠ 5) (n6 : K ≠ 6) (he : s.ex = true) (a y vb : Value) (b : List AD) (w : World) (ha : Ads w a s.on) (hy : Ads w y s.off) (hb : Ads w vb b) (ca : ∀ n c, a = .slice none n c → c = 0) (cy : ∀ n c, y = .slice none n c → c = 0) (la : s.on.length ≤ 1000) (ly : s.off.length ≤ 1000) (lb : b.length ≤ 1000) :
    Calls Try.prog 11 #[.agg (stC s.ex a y).toArray, .int .i64 K, vb] w fun x w' => ∃ us, x = .returned (.agg (spC true us false false).toArray) ∧ Below w.heap.size w w' ∧ RowsF w' w.heap.size J6 us (apL s K b (allS s b).length) := by
  have H0 : Hid (Bx w ((w.alloc (.cells (stC s.ex a y).toArray 24)).alloc (.cells #[.bool false, .slice none 0 0, .slice none 0 0, .slice none 0 0, .slice none 0 0, .bool false, .slice none 0 0, .bool false] 28)) (stC s.ex a y).toArray 24 (spC false nilF false false).toArray 28) := Lib.hid (Bx.made w _ _ _ _)
  have HOR1 : Hid (∀ W, Below w.heap.size w W → Calls Try.prog 24 #[a, y] W fun x w' => ∃ v', x = .returned v' ∧ Below W.heap.size W w' ∧ OwnL w' W.heap.size v' (orA s.on s.off)) := Lib.hid fun W h => or11_any a y s.on s.off W (ha.below h) (hy.below h) ca cy (by omega) (by omega)
  have HOF : Hid (∀ W, Below w.heap.size w W → Calls Try.prog 12 #[vb] W fun x w' => ∃ v', x = .returned v' ∧ Below W.heap.size W w' ∧ OwnL w' W.heap.size v' (ofA b)) := Lib.hid fun W h => of11_any vb b W (hb.below h) (by omega)
  have oo1 : ∀ x ∈ orA s.on s.off, adOk x := ofA_ok (fun x hx => (List.mem_append.1 hx).elim (ha.ok x) (hy.ok x))
  have oo2 : ∀ x ∈ ofA b, adOk x := ofA_ok hb.ok
  have l1 : (orA s.on s.off).length ≤ 2000 := Nat.le_trans (ofA_length _) (by rw [List.length_append]; omega)
  have l2 : (ofA b).length ≤ 1000 := Nat.le_trans (ofA_length _) lb
  have HLN : Hid ((allS s b).length ≤ 3000) := Lib.hid (Nat.le_trans (ofA_length _) (by rw [List.length_append]; omega))
  have HOK : Hid (∀ x ∈ allS s b, adOk x) := Lib.hid (ofA_ok (fun x hx => (List.mem_append.1 hx).elim (oo1 x) (oo2 x)))
  have HOR2 : Hid (∀ W p1 p2 B1 B2, OwnL W B1 p1 (orA s.on s.off) → OwnL W B2 p2 (ofA b) → Calls Try.prog 24 #[p1, p2] W fun x w' => ∃ v', x = .returned v' ∧ Below W.heap.size W w' ∧ OwnL w' W.heap.size v' (allS s b)) := Lib.hid fun W p1 p2 B1 B2 h1 h2 => or11_any p1 p2 _ _ W (h1.ads oo1).1 (h2.ads oo2).1 h1.cap h2.cap (by omega) (by omega)
  have HH1 : Hid (∀ W c, Below w.heap.size w W → adOk c → Calls Try.prog 25 #[a, .agg (adC c).toArray] W fun x w' => x = .returned (.bool (decide (c ∈ s.on))) ∧ Below W.heap.size W w') := Lib.hid fun W c h hc => has11_any a s.on c W (ha.below h) hc
  have HH2 : Hid (∀ W c, Below w.heap.size w W → adOk c → Calls Try.prog 25 #[y, .agg (adC c).toArray] W fun x w' => x = .returned (.bool (decide (c ∈ s.off))) ∧ Below W.heap.size W w') := Lib.hid fun W c h hc => has11_any y s.off c W (hy.below h) hc
  have HH3 : Hid (∀ W c, Below w.heap.size w W → adOk c → Calls Try.prog 25 #[vb, .agg (adC c).toArray] W fun x w' => x = .returned (.bool (decide (c ∈ b))) ∧ Below W.heap.size W w') := Lib.hid fun W c h hc => has11_any vb b c W (hb.below h) hc
  have hbs := fun e w0 => bld_s15 e w0
  have hbp := fun e w0 => bld_p15 e w0
  have hfk : ∀ e, fok (spC e nilF false false).toArray 8 = true := fun e => fok_of rfl (spC_one fun _ => rfl)
  have hfm := fun W => fmade W #[.bool false, .slice none 0 0, .slice none 0 0, .slice none 0 0, .slice none 0 0, .bool false, .slice none 0 0, .bool false] 28 8 rfl
  clear ha hy hb ca cy la ly lb oo1 oo2 l1 l2
  have d1 : (K == 1) = false := by simpa using n1
  have d2 : (K == 2) = false := by simpa using n2
  have d3 : (K == 3) = false := by simpa using n3
  have d4 : (K == 4) = false := by simpa using n4
  have d5 : (K == 5) = false := by simpa using n5
  have d6 : (K == 6) = false := by simpa using n6
  have HIN : Hid (inK K = false) := Lib.hid (by unfold inK; rw [decide_eq_false_iff_not]; omega)
  have HEX : Hid (exK K = false) := Lib.hid (by unfold exK; rw [decide_eq_false_iff_not]; omega)
  have HNK := Lib.hid (show K ≠ 1 ∧ K ≠ 2 ∧ K ≠ 3 ∧ K ≠ 4 ∧ K ≠ 5 ∧ K ≠ 6 from ⟨n1, n2, n3, n4, n5, n6⟩)
  clear n1 n2 n3 n4 n5 n6
  have HEE := Lib.hid he
  have HX : Hid (∀ W, Bx w W (stC true a y).toArray 24 (spC false nilF false false).toArray 28 → Bx w W (stC s.ex a y).toArray 24 (spC false nilF false false).toArray 28) := Lib.hid fun W h => by rw [he]; exact h
  clear he
  rw [HEE.out] at H0 ⊢
  go_enter Try.func11, Try.ntmps11
  go_upto_region 1 with (fail)
  generalize (w.alloc _).alloc _ = W at H0 ⊢
  replace H0 := Lib.hid (HX.out _ H0.out)
  have c0 : W.cell? ⟨w.heap.size, 0, none⟩ = some (.bool true) := by rw [← HEE.out, ObjAt.cell H0.out.one]; rfl
  go_upto_region 2 with (fail)
  have H1 := Lib.hid (StpR.start H0.out true)
  generalize aggW (W.alloc _) W.heap.size _ = W1 at H1 ⊢
  generalize W.heap.size = m at H1 ⊢
  clear H0 c0 hbs hbp hfk hfm HX
  obtain ⟨s0, s1, s2⟩ := H1.out.cells
  rw [HEE.out] at s0
  obtain ⟨c0, c1, c2, c3, c4, c5, c6, c7, cf⟩ := spC_cells H1.out.obj
  go_upto_region 6 with (fail)
  have H2 := Lib.hid (H1.out.flag 7 false (e' := _) (g' := _) (al' := _) rfl)
  generalize World.setCell _ _ _ = W2 at H2 ⊢
  clear s0 s1 s2 c0 c1 c2 c3 c4 c5 c6 c7 cf H1
  obtain ⟨s0, s1, s2⟩ := H2.out.cells
  rw [HEE.out] at s0
  go_upto_region 7 with (first
      | (go_at_call 24; (with_reducible refine (HOR2.out _ _ _ _ _ HP3.out HP2.out).mono ?_); rintro x w3 ⟨pv, rfl, hb, ho⟩; have H5 := Lib.hid ((H4.out.below hb).all ho (Nat.succ_le_of_lt H4.out.obj.lt) HOK.out); clear hb ho)
      | (go_at_call 24; (with_reducible refine (HOR1.out _ H2.out.blw).mono ?_); rintro x w1 ⟨p1, rfl, hb, ho⟩; have H3 := Lib.hid (H2.out.below hb); have HP1 := Lib.hid ho; clear hb ho)
      | (go_at_call 12; (with_reducible refine (HOF.out _ H3.out.blw).mono ?_); rintro x w2 ⟨p2, rfl, hb, ho⟩; have H4 := Lib.hid (H3.out.below hb); have HP3 := Lib.hid (HP1.out.below hb); have HP2 := Lib.hid ho; clear hb ho))
  clear s0 s1 s2 HOR1 HOR2 HOF H2 H3 H4 HP1 HP2 HP3
  obtain ⟨n, hn⟩ : ∃ n, n = (allS s b).length := ⟨_, rfl⟩
  have HN := Lib.hid hn
  have HN3 : Hid (n ≤ 3000) := Lib.hid (by rw [hn]; exact HLN.out)
  clear hn HLN
  have hn3 := HN3.out
  obtain ⟨us0, hus0⟩ : ∃ us0, us0 = setF nilF 0 pv := ⟨_, rfl⟩
  replace H5 : Hid (StpR w w3 m s a y true false false us0 (apL s K b 0)) := Lib.hid (by rw [hus0]; exact H5.out.congr (fun j hj => by unfold apL setF; split <;> simp))
  obtain ⟨gp, cp, hpv⟩ : ∃ p c, pv = .slice p n c := by
      have h := (H5.out.rows.own 0 (by simp [J6])).1
      have e0 : us0 0 = pv := by rw [hus0]; rfl
      rw [e0] at h
      obtain ⟨p, c, e, _, _⟩ := (Ads.own (H5.out.rows.own 0 (by simp [J6])).2 h).len
      exact ⟨p, c, by rw [e, HN.out]; rfl⟩
  have HPV : Hid (us0 0 = .slice gp n cp) := Lib.hid (by rw [hus0, ← hpv]; rfl)
  subst hpv
  clear hus0
  go_wp2_with fail
  go_loopw [11] (fun i wr => ∃ (k : Nat) (us : Nat → Value), k ≤ n ∧ i = .int .i64 k ∧ Hid (us 0 = .slice gp n cp) ∧ Hid (StpR w wr m s a y true false false us (apL s K b k))) (fun i _ => n - (intOf i).toNat)
  case atStart => exact ⟨0, us0, by omega, rfl, HPV, H5⟩
  case round =>
    clear H5 HPV
    obtain ⟨k, us, hk, rfl, HU, HS⟩ := hrel
    by_cases hlt : k < n
    · have hk1 : (k : Int) < (n : Int) := by omega
      have hw1 : IntKind.i64.wrap ((k : Int) + 1) = (k : Int) + 1 := by simp only [IntKind.wrap_i64]; omega
      have g1 : k < (allS s b).length := by rw [← HN.out]; exact hlt
      have hA : Ads wr (.slice gp n cp) (allS s b) := by
        have h := HS.out.rows.ads (j := 0) (by simp [J6])
        rw [HU.out] at h
        exact h
      obtain ⟨bq, oq, cap', e, _, _, hbl, hat⟩ := hA.parts (fun e => by rw [e] at g1; exact absurd g1 (by simp))
      simp only [Value.slice.injEq] at e
      obtain ⟨rfl, -, -⟩ := e
      have r1 := hat k g1
      have hoc := HOK.out _ (List.getElem_mem g1)
      obtain ⟨c, hc⟩ : ∃ c, (allS s b)[k] = c := ⟨_, rfl⟩
      rw [hc] at r1 hoc
      obtain ⟨m1, m2, m3, m4, m6, m0⟩ := apL_steps (K := K) HEE.out g1 hc
      have HLB : Hid (∀ j, (apL s K b k j).length ≤ 1000000) := Lib.hid (fun j => Nat.le_trans (apL_length _ _ _ _ _) (by rw [← HN.out]; have := HN3.out; omega))
      have HOC := Lib.hid hoc
      have hh1 := Lib.hid (fun W h => HH1.out W c h hoc)
      have hh2 := Lib.hid (fun W h => HH2.out W c h hoc)
      have hh3 := Lib.hid (fun W h => HH3.out W c h hoc)
      have hfA := fmade wr #[.bool false, .int .u8 0, .int .u8 0, .int .u8 0, .int .u8 0, .int .u8 0, .int .u8 0, .int .u8 0, .int .u8 0, .int .u8 0, .int .u8 0, .int .u8 0, .int .u8 0, .int .u8 0, .int .u8 0, .int .u8 0, .int .u8 0] 37 17 rfl
      have hkA := fok_addr c.1 c.2 hoc
      rw [show addrC c.1 c.2 = adC c from rfl] at hkA
      have HQ := Lib.hid (StpQ.start HS.out hoc)
      clear hA hbl hat hc hoc g1
      generalize decide (c ∈ s.on) = on at m1 m2 m3 m4 m6 hh1
      generalize decide (c ∈ s.off) = off at m1 m2 m3 m4 m6 hh2
      generalize decide (c ∈ b) = said at m1 m2 m3 m4 m6 hh3
      have HM := Lib.hid (show _ ∧ _ ∧ _ ∧ _ ∧ _ ∧ _ from ⟨m1, m2, m3, m4, m6, m0⟩)
      clear m1 m2 m3 m4 m6 m0
      go_upto_region 11 with (fail)
      generalize aggW (wr.alloc _) wr.heap.size _ = W1 at HQ ⊢
      generalize wr.heap.size = q at HQ ⊢
      clear r1 hfA hkA HS
      have f1 : ∀ p : InS (fun W => StpQ w W m q s a y true false false us (apL s K b k) c), p.W.cell? ⟨w.heap.size, 1, none⟩ = some a := fun p => p.h.st.cells.2.1
      have f2 : ∀ p : InS (fun W => StpQ w W m q s a y true false false us (apL s K b k) c), p.W.cell? ⟨w.heap.size, 2, none⟩ = some y := fun p => p.h.st.cells.2.2
      have f3 : ∀ p : InS (fun W => StpQ w W m q s a y true false false us (apL s K b k) c), row? p.W q 0 17 = some (adC c) := fun p => p.h.row HOC.out
      have hne : Nonempty (InS (fun W => StpQ w W m q s a y true false false us (apL s K b k) c)) := ⟨⟨_, HQ.out⟩⟩
      refine wp_region_inS (fun W => StpQ w W m q s a y true false false us (apL s K b k) c) (by kernel_rfl) (by kernel_rfl) (StpQ.keep _ _ HQ.out (bdrewN (Below.refl _ _) 1)) ?_
      repeat (go_big_quiet_step (first
        | (go_at_call 25; with_reducible exact Calls.inS StpQ.keep _ (fun W h => hh1.out W h.st.blw))
        | (go_at_call 25; with_reducible exact Calls.inS StpQ.keep _ (fun W h => hh2.out W h.st.blw))
        | (go_at_call 25; with_reducible exact Calls.inS StpQ.keep _ (fun W h => hh3.out W h.st.blw))))
      refine wpQuiet_nil ?_
      rintro _ ⟨⟨W2, hS2⟩, rfl⟩
      have HS := Lib.hid hS2
      clear hS2 hne f1 f2 f3 HQ hh1 hh2 hh3
      have s0 := HS.out.st.cells.1
      rw [HEE.out] at s0
      have rq := HS.out.row HOC.out
      obtain ⟨c0, c1, c2, c3, c4, c5, c6, c7, cf⟩ := spC_cells HS.out.st.obj
      have hlit := adsLit_run c HOC.out
      cases on <;> cases off <;> cases said
      all_goals (
        go_wp2_with (first
        | (at_builtin; refine wpList_appR rfl _ _ rfl (m + 1) J6 _ _ 1 (by exact rfl) c _ (HS.out.st.rows.below (bbS _ _)) (by simp [J6]) rfl (by first | exact ObjAt.made _ _ _ | exact made_set _ _ _ _ _) HOC.out (HLB.out 1) (Nat.le_trans (Nat.succ_le_of_lt HS.out.st.obj.lt) (by simp)) ?_; intro v' w5 hR hg hat; obtain ⟨vp, vn, vc, rfl⟩ := hR.shape (by simp [J6]); obtain ⟨hn, k3, ks, kr⟩ := HS.out.app (by simp [J6]) (by decide) _ hg hR hat HOC.out; clear s0 rq c0 c1 c2 c3 c4 c5 c6 c7 cf; rw [HEE.out] at ks; have s0 := ks; have rq := hn.row HOC.out; obtain ⟨c0, c1, c2, c3, c4, c5, c6, c7, cf⟩ := spC_cells k3; replace HS := Lib.hid hn; clear hR hg hat hn k3 ks kr)
        | (at_builtin; refine wpList_appR rfl _ _ rfl (m + 1) J6 _ _ 2 (by exact rfl) c _ (HS.out.st.rows.below (bbS _ _)) (by simp [J6]) rfl (by first | exact ObjAt.made _ _ _ | exact made_set _ _ _ _ _) HOC.out (HLB.out 2) (Nat.le_trans (Nat.succ_le_of_lt HS.out.st.obj.lt) (by simp)) ?_; intro v' w5 hR hg hat; obtain ⟨vp, vn, vc, rfl⟩ := hR.shape (by simp [J6]); obtain ⟨hn, k3, ks, kr⟩ := HS.out.app (by simp [J6]) (by decide) _ hg hR hat HOC.out; clear s0 rq c0 c1 c2 c3 c4 c5 c6 c7 cf; rw [HEE.out] at ks; have s0 := ks; have rq := hn.row HOC.out; obtain ⟨c0, c1, c2, c3, c4, c5, c6, c7, cf⟩ := spC_cells k3; replace HS := Lib.hid hn; clear hR hg hat hn k3 ks kr)
        | (at_builtin; refine wpList_appR rfl _ _ rfl (m + 1) J6 _ _ 3 (by exact rfl) c _ (HS.out.st.rows.below (bbS _ _)) (by simp [J6]) rfl (by first | exact ObjAt.made _ _ _ | exact made_set _ _ _ _ _) HOC.out (HLB.out 3) (Nat.le_trans (Nat.succ_le_of_lt HS.out.st.obj.lt) (by simp)) ?_; intro v' w5 hR hg hat; obtain ⟨vp, vn, vc, rfl⟩ := hR.shape (by simp [J6]); obtain ⟨hn, k3, ks, kr⟩ := HS.out.app (by simp [J6]) (by decide) _ hg hR hat HOC.out; clear s0 rq c0 c1 c2 c3 c4 c5 c6 c7 cf; rw [HEE.out] at ks; have s0 := ks; have rq := hn.row HOC.out; obtain ⟨c0, c1, c2, c3, c4, c5, c6, c7, cf⟩ := spC_cells k3; replace HS := Lib.hid hn; clear hR hg hat hn k3 ks kr)
        | (at_builtin; refine wpList_appR rfl _ _ rfl (m + 1) J6 _ _ 4 (by exact rfl) c _ (HS.out.st.rows.below (bbS _ _)) (by simp [J6]) rfl (by first | exact ObjAt.made _ _ _ | exact made_set _ _ _ _ _) HOC.out (HLB.out 4) (Nat.le_trans (Nat.succ_le_of_lt HS.out.st.obj.lt) (by simp)) ?_; intro v' w5 hR hg hat; obtain ⟨vp, vn, vc, rfl⟩ := hR.shape (by simp [J6]); obtain ⟨hn, k3, ks, kr⟩ := HS.out.app (by simp [J6]) (by decide) _ hg hR hat HOC.out; clear s0 rq c0 c1 c2 c3 c4 c5 c6 c7 cf; rw [HEE.out] at ks; have s0 := ks; have rq := hn.row HOC.out; obtain ⟨c0, c1, c2, c3, c4, c5, c6, c7, cf⟩ := spC_cells k3; replace HS := Lib.hid hn; clear hR hg hat hn k3 ks kr)
        | (at_builtin; refine wpList_appR rfl _ _ rfl (m + 1) J6 _ _ 6 (by exact rfl) c _ (HS.out.st.rows.below (bbS _ _)) (by simp [J6]) rfl (by first | exact ObjAt.made _ _ _ | exact made_set _ _ _ _ _) HOC.out (HLB.out 6) (Nat.le_trans (Nat.succ_le_of_lt HS.out.st.obj.lt) (by simp)) ?_; intro v' w5 hR hg hat; obtain ⟨vp, vn, vc, rfl⟩ := hR.shape (by simp [J6]); obtain ⟨hn, k3, ks, kr⟩ := HS.out.app (by simp [J6]) (by decide) _ hg hR hat HOC.out; clear s0 rq c0 c1 c2 c3 c4 c5 c6 c7 cf; rw [HEE.out] at ks; have s0 := ks; have rq := hn.row HOC.out; obtain ⟨c0, c1, c2, c3, c4, c5, c6, c7, cf⟩ := spC_cells k3; replace HS := Lib.hid hn; clear hR hg hat hn k3 ks kr))
        go_roundw
        case rel =>
          refine ⟨k + 1, _, by omega, by go_num, ?hu, Lib.hid (HS.out.st.congr (fun j hj => ?_))⟩
          case hu => exact Lib.hid HU.out
          obtain ⟨m1, m2, m3, m4, m6, m0⟩ := HM.out
          simp only [J6, List.mem_cons, List.not_mem_nil, or_false] at hj
          rcases hj with rfl | rfl | rfl | rfl | rfl | rfl
          · rw [m0] <;> simp [setF]
          · rw [m1] <;> simp [fOn, fOff, fFull, fRest, fAsk, HIN.out, HEX.out, HNK.out.1, HNK.out.2.1, HNK.out.2.2.1, HNK.out.2.2.2.1, HNK.out.2.2.2.2.1, HNK.out.2.2.2.2.2, setF]
          · rw [m2] <;> simp [fOn, fOff, fFull, fRest, fAsk, HIN.out, HEX.out, HNK.out.1, HNK.out.2.1, HNK.out.2.2.1, HNK.out.2.2.2.1, HNK.out.2.2.2.2.1, HNK.out.2.2.2.2.2, setF]
          · rw [m3] <;> simp [fOn, fOff, fFull, fRest, fAsk, HIN.out, HEX.out, HNK.out.1, HNK.out.2.1, HNK.out.2.2.1, HNK.out.2.2.2.1, HNK.out.2.2.2.2.1, HNK.out.2.2.2.2.2, setF]
          · rw [m4] <;> simp [fOn, fOff, fFull, fRest, fAsk, HIN.out, HEX.out, HNK.out.1, HNK.out.2.1, HNK.out.2.2.1, HNK.out.2.2.2.1, HNK.out.2.2.2.2.1, HNK.out.2.2.2.2.2, setF]
          · rw [m6] <;> simp [fOn, fOff, fFull, fRest, fAsk, HIN.out, HEX.out, HNK.out.1, HNK.out.2.1, HNK.out.2.2.1, HNK.out.2.2.2.1, HNK.out.2.2.2.2.1, HNK.out.2.2.2.2.2, setF]
        case measure => simp [intOf]; omega)
    · have hd : ¬ (k : Int) < (n : Int) := by omega
      have HKN : Hid (k = n) := Lib.hid (by omega)
      obtain ⟨s0, s1, s2⟩ := HS.out.cells
      have hro : row? wr m 0 8 = some (spC true us false false) := obj_re HS.out.obj (A := []) (M := spC true us false false) (C := []) (by simp) rfl rfl
      have hfr := obj_free_at HS.out.res 0 8 (Nat.le_refl _)
      have hok : fok (spC true us false false).toArray 8 = true := fok_of rfl (spC_one' HS.out.rows)
      clear hlt
      go_wp2
      obtain ⟨q1, q2⟩ := resDone HS.out.res HS.out.blw (by omega) (spC true us false false) rfl
      have HF := HS.out.rows
      rw [HKN.out, HN.out] at HF
      exact bodyPost_ret (results_cell Try.results11 rfl (ld_some q1 (ldr_sp _ _ _))) rfl ⟨us, rfl, q2, (HF.agg (by have := HS.out.lt; omega) _).mono (by have := HS.out.lt; omega)⟩
end Go.Proofs.Ytokpogoblnhihaa

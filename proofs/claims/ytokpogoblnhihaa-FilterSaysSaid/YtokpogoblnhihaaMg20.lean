/-
  Texts joined: Lad, FtF.
-/
import Derived.Test.YtokpogoblnhihaaMg14
import Derived.Test.YtokpogoblnhihaaMg10
import Derived.Test.YtokpogoblnhihaaFtQ
/-
  The laws' own copy of some addresses: a row of its own.
-/
namespace Go.Proofs.Ytokpogoblnhihaa
open Go.RowKit
set_option linter.unusedVariables false
set_option linter.unusedSimpArgs false
attribute [local go_sem ↓] ld_addr st_addr adsLit_eq
attribute [local go_sem] ldr_addr str_addr row?_drewN_eq row?_drew_eq

set_option maxRecDepth 100000 in
set_option maxHeartbeats 2000000 in
theorem laddrs_own (v : Value) (l : List AD) (n : Nat) (hn : n ≤ 1000) (w : World) (ha : Ads w v l) : Calls Try.prog 8 #[v, .int .i64 n] w fun x w' => ∃ v', x = .returned v' ∧ Below w.heap.size w w' ∧ OwnL w' w.heap.size v' (l.take n) := by
  obtain ⟨p, cap, rfl, hl1, hl2⟩ := ha.len
  obtain ⟨i0, hi0, hz0, hz1, hz2⟩ := info_parts info_ad
  have HRA : Hid (l ≠ [] → ∃ b o, p = some ⟨b, o, none⟩ ∧ b < w.heap.size ∧ AdsAt w b o l) := Lib.hid fun hne => by
    obtain ⟨b, o, cap', e, _, _, h3, h4⟩ := ha.parts hne
    simp only [Value.slice.injEq] at e
    exact ⟨b, o, e.1, h3, h4⟩
  have OA := Lib.hid ha.ok
  obtain ⟨q, hq⟩ : ∃ q, q = l.length := ⟨_, rfl⟩
  have HQ := Lib.hid hq
  have hmx : q ≤ maxLen := by omega
  unfold maxLen at hmx
  rw [← hq]
  clear ha hl1 hl2 hq
  go_enter Try.func8, Try.ntmps8
  go_wp2_with fail
  go_loopw [5, 6] (fun u i wr => ∃ k : Nat, k ≤ q ∧ k ≤ n ∧ i = .int .i64 k ∧ wr.ownsRow w.heap.size 37 17 u k (adsC (l.take k)) ∧ Hid (Below w.heap.size w wr)) (fun _ i _ => n - (intOf i).toNat)
  case atStart => exact ⟨0, by omega, by omega, rfl, World.ownsRow_lit w #[] 0 (Nat.le_refl _) (by unfold maxLen; omega) (by simp), Lib.hid ((Below.refl _ _).alloc (Nat.le_refl _) _)⟩
  case round =>
    obtain ⟨k, hkq, hkn, rfl, hown, HB⟩ := hrel
    have HO := Lib.hid hown
    clear hown
    by_cases h1 : k < q
    · have t1 : decide ((k : Int) < (q : Int)) = true := decide_eq_true (by omega)
      by_cases h2 : k < n
      · have t2 : decide ((k : Int) < (n : Int)) = true := decide_eq_true (by omega)
        have hk1 : (k : Int) < (q : Int) := by omega
        have g1 : k < l.length := by rw [← HQ.out]; exact h1
        obtain ⟨b, o, rfl, hbl, RA⟩ := HRA.out (fun e => by rw [e] at g1; exact absurd g1 (by simp))
        have r1 := row?_below (RA k g1) hbl HB.out
        have hw1 : IntKind.i64.wrap ((k : Int) + 1) = (k : Int) + 1 := by simp only [IntKind.wrap_i64]; omega
        have hok := OA.out _ (List.getElem_mem g1)
        have HS := Lib.hid (adsC_take g1)
        have HL := Lib.hid (adC_length hok)
        have hlit := adsLit_run _ hok
        have H1 : Hid (∀ u ∈ adC l[k], u.oneCell' = true) := Lib.hid (addrC_one _ _)
        generalize adC l[k] = A at *
        have hown := HO.out
        have hz := HB.out.size
        have hl17 := HL.out
        have h1c := H1.out
        clear RA hok
        go_wp2_with (at_builtin; refine wpList_append_own _ rfl _ _ 22 rfl w.heap.size 37 i0 (.agg #[.bool false, .int .u8 0, .int .u8 0, .int .u8 0, .int .u8 0, .int .u8 0, .int .u8 0, .int .u8 0, .int .u8 0, .int .u8 0, .int .u8 0, .int .u8 0, .int .u8 0, .int .u8 0, .int .u8 0, .int .u8 0, .int .u8 0]) 17 17 Try.underlying22 hi0 hz0 hz1 hz2 rfl (by decide) _ _ _ rfl (hown.alloc _) ⟨wr.heap.size, 0, none⟩ 1 1 A rfl hl17 (World.news_of_block (heap_alloc_new wr _)) h1c (by unfold maxLen; omega) (by omega) (by simp; omega) ?_; intro v' w2 hown' hgrow hnil; have Hown := Lib.hid hown'; have Hgrow := Lib.hid hgrow; clear hown' hgrow hnil hown hz hl17 h1c)
        have hv := HO.out.2
        have H2 : Hid (Below w.heap.size w w2) := Lib.hid (HB.out.alloc HB.out.size _ |>.grown Hgrow.out (by have := HB.out.size; simp; omega) (fun q hq => by
          rcases hv with ⟨e1, _⟩ | ⟨g, cap, cur, e1, e2, _⟩
          · subst e1; cases hq
          · subst e1; cases hq; exact e2))
        clear hv
        go_roundw
        case rel => exact ⟨k + 1, by omega, by omega, by go_num, by rw [HS.out]; exact Hown.out, H2⟩
        case measure => simp [intOf]; omega
      · have t2 : ¬ (k : Int) < (n : Int) := by omega
        have hk1 : (k : Int) < (q : Int) := by omega
        have hkn' : n = k := by omega
        have HE := Lib.hid (show (l.take k).length = k by rw [List.length_take, ← HQ.out]; omega)
        have HK := Lib.hid hkn'
        clear h2 hkn'
        go_wp2
        go_ret
        exact ⟨_, rfl, HB.out, by rw [HK.out]; exact own_len HO.out HE.out.symm⟩
    · have t1 : ¬ (k : Int) < (q : Int) := by omega
      have HE := Lib.hid (show l.take n = l.take k ∧ (l.take k).length = k by
        have hq := HQ.out
        refine ⟨?_, by rw [List.length_take]; omega⟩
        rw [List.take_of_length_le (by omega), List.take_of_length_le (by omega)])
      clear h1
      go_wp2
      go_ret
      exact ⟨_, rfl, HB.out, by rw [HE.out.1]; exact own_len HO.out HE.out.2.symm⟩

end Go.Proofs.Ytokpogoblnhihaa

/-
  Layer 15: the law's own good state.
-/
namespace Go.Proofs.Ytokpogoblnhihaa
open Go.RowKit
set_option linter.unusedVariables false
set_option linter.unusedSimpArgs false
attribute [local go_sem ↓] ld_addr st_addr bld_addr ld_sta st_sta bld_sta ld_sp st_sp bld_sp adsLit_eq
attribute [local go_sem] ldr_addr str_addr ldr_sta str_sta ldr_sp str_sp row?_drewN_eq row?_drew_eq

/-- A state, somewhat cut, as a good one. -/
def fewS15 (s : ST) : ST := ownS ⟨s.ex, s.on.take 6, s.off.take 6⟩
theorem fewS15_good (s : ST) : (fewS15 s).Good := ownS_good _
theorem fewS15_len (s : ST) : (fewS15 s).on.length ≤ 6 ∧ (fewS15 s).off.length ≤ 6 := by
  unfold fewS15 ownS
  refine ⟨Nat.le_trans (ofA_length _) (by rw [List.length_take]; omega), ?_⟩
  show (if s.ex then pickA (ofA (s.off.take 6)) (ofA (s.on.take 6)) false else []).length ≤ 6
  split
  · exact Nat.le_trans (pickA_length _ _ _) (Nat.le_trans (ofA_length _) (by rw [List.length_take]; omega))
  · simp
theorem fewS15_few (s : ST) : fewS15 (fewS15 s) = fewS15 s := by
  obtain ⟨h1, h2⟩ := fewS15_len s
  have hg := fewS15_good s
  show ownS ⟨(fewS15 s).ex, (fewS15 s).on.take 6, (fewS15 s).off.take 6⟩ = fewS15 s
  rw [List.take_of_length_le h1, List.take_of_length_le h2]
  exact ownS_id hg
set_option maxRecDepth 100000 in
set_option maxHeartbeats 4000000 in
theorem lfew15_any (s : ST) (a y : Value) (w : World) (h : StA w a y s) : Calls Try.prog 7 #[.agg (stC s.ex a y).toArray] w fun x w' => ∃ a' y', x = .returned (.agg (stC s.ex a' y').toArray) ∧ Below w.heap.size w w' ∧ StT w' a' y' (fewS15 s) := by
  obtain ⟨e, on, off⟩ := s
  simp only
  have H0 : Hid (Bx w ((w.alloc (.cells (stC e a y).toArray 24)).alloc (.cells #[.bool false, .slice none 0 0, .slice none 0 0] 24)) (stC e a y).toArray 24 (stC false (.slice none 0 0) (.slice none 0 0)).toArray 24) := Lib.hid (Bx.made w _ _ _ _)
  have HA1 : Hid (∀ W, Below w.heap.size w W → Calls Try.prog 8 #[a, .int .i64 6] W fun x w' => ∃ p n c, x = .returned (.slice p n c) ∧ Below W.heap.size W w' ∧ OwnL w' W.heap.size (.slice p n c) (on.take 6)) := Lib.hid fun W hb => (laddrs_own a on 6 (by omega) W (h.on.below hb)).mono fun x w' ⟨v, hx, hb2, ho⟩ => by
    obtain ⟨p, n, c, rfl⟩ := ho.shape
    exact ⟨p, n, c, hx, hb2, ho⟩
  have HA2 : Hid (∀ W, Below w.heap.size w W → Calls Try.prog 8 #[y, .int .i64 6] W fun x w' => ∃ p n c, x = .returned (.slice p n c) ∧ Below W.heap.size W w' ∧ OwnL w' W.heap.size (.slice p n c) (off.take 6)) := Lib.hid fun W hb => (laddrs_own y off 6 (by omega) W (h.off.below hb)).mono fun x w' ⟨v, hx, hb2, ho⟩ => by
    obtain ⟨p, n, c, rfl⟩ := ho.shape
    exact ⟨p, n, c, hx, hb2, ho⟩
  have HK1 : Hid (∀ x ∈ on.take 6, adOk x) := Lib.hid (fun x hx => h.on.ok x (List.mem_of_mem_take hx))
  have HK2 : Hid (∀ x ∈ off.take 6, adOk x) := Lib.hid (fun x hx => h.off.ok x (List.mem_of_mem_take hx))
  have HOW : Hid (∀ W a1 y1, StA W a1 y1 ⟨e, on.take 6, off.take 6⟩ → Calls Try.prog 28 #[.agg (stC e a1 y1).toArray] W fun x w' => ∃ a' y', x = .returned (.agg (stC e a' y').toArray) ∧ Below W.heap.size W w' ∧ StT w' a' y' (fewS15 ⟨e, on, off⟩)) := Lib.hid fun W a1 y1 hs => rown15_any ⟨e, on.take 6, off.take 6⟩ a1 y1 W hs (by rw [List.length_take]; omega) (by rw [List.length_take]; omega)
  have hbu := fun e p q n c m d w0 => bld_v15 e p q n c m d w0
  clear h
  go_enter Try.func7, Try.ntmps7
  go_upto_region 1 with (fail)
  generalize (w.alloc _).alloc _ = W at H0 ⊢
  refine wp_region_held_drew (S := fun W => W.cell? ⟨w.heap.size, 0, none⟩ = some (.bool e) ∧ W.cell? ⟨w.heap.size, 1, none⟩ = some a ∧ W.cell? ⟨w.heap.size, 2, none⟩ = some y) (by kernel_rfl) (⟨(st_cells H0.out.drew1.one).1, (st_cells H0.out.drew1.one).2.1, (st_cells H0.out.drew1.one).2.2⟩) (fun hHeld => ?_)
  replace H0 := Lib.hid H0.out.drew1
  generalize World.drew W = Wd at H0 hHeld ⊢
  refine wpAnyH_take (i := 0) (oi := { dst := some 3, op := _, type := _, pos := _, after := _, guard := _ }) (v := ?v1) rfl (by kernel_rfl) (by kernel_rfl) (by kernel_rfl) (fun _ _ _ h => h) (Or.inl ⟨by rfl, ?y1⟩) (by assumption) ?r1
  case y1 => (intro w hSw; go_simp; try with_reducible rfl)
  try simp only [Act.put, List.setIfInBounds_toArray, List.set_cons_zero, List.set_cons_succ]
  refine wpAnyH_take (i := 1) (oi := { dst := some 4, op := _, type := _, pos := _, after := _, guard := _ }) (v := ?v2) rfl (by kernel_rfl) (by kernel_rfl) (by kernel_rfl) (fun _ _ _ h => h) (Or.inl ⟨by rfl, ?y2⟩) (by assumption) ?r2
  case y2 => (intro w hSw; go_simp; try with_reducible rfl)
  try simp only [Act.put, List.setIfInBounds_toArray, List.set_cons_zero, List.set_cons_succ]
  refine wpAnyH_take (i := 2) (oi := { dst := some 5, op := _, type := _, pos := _, after := _, guard := _ }) (v := ?v3) rfl (by kernel_rfl) (by kernel_rfl) (by kernel_rfl) (fun _ _ _ h => h) (Or.inl ⟨by rfl, ?y3⟩) (by assumption) ?r3
  case y3 => (intro w hSw; go_simp; try with_reducible rfl)
  try simp only [Act.put, List.setIfInBounds_toArray, List.set_cons_zero, List.set_cons_succ]
  refine wpAnyH_take (i := 3) (oi := { dst := some 6, op := _, type := _, pos := _, after := _, guard := _ }) (v := ?v4) rfl (by kernel_rfl) (by kernel_rfl) (by kernel_rfl) (fun _ _ _ h => h) (Or.inl ⟨by rfl, ?y4⟩) (by assumption) ?r4
  case y4 => (intro w hSw; go_simp; try with_reducible rfl)
  try simp only [Act.put, List.setIfInBounds_toArray, List.set_cons_zero, List.set_cons_succ]
  refine wpAnyH_take (i := 5) (oi := { dst := some 8, op := _, type := _, pos := _, after := _, guard := _ }) (v := ?v5) rfl (by kernel_rfl) (by kernel_rfl) (by kernel_rfl) (fun _ _ _ h => h) (Or.inl ⟨by rfl, ?y5⟩) (by assumption) ?r5
  case y5 => (intro w hSw; go_simp; try with_reducible rfl)
  try simp only [Act.put, List.setIfInBounds_toArray, List.set_cons_zero, List.set_cons_succ]
  refine wpAnyH_take (i := 6) (oi := { dst := some 9, op := _, type := _, pos := _, after := _, guard := _ }) (v := ?v6) rfl (by kernel_rfl) (by kernel_rfl) (by kernel_rfl) (fun _ _ _ h => h) (Or.inl ⟨by rfl, ?y6⟩) (by assumption) ?r6
  case y6 => (intro w hSw; go_simp; try with_reducible rfl)
  try simp only [Act.put, List.setIfInBounds_toArray, List.set_cons_zero, List.set_cons_succ]
  refine wpAnyH_ready (rs := [4]) (by kernel_rfl) (by simp) (AllReadyH.cons (o := _) rfl (fun K hK => ?_) AllReadyH.nil)
  go_simp
  (go_at_call 8; (with_reducible refine (HA1.out _ H0.out.blw).mono ?_); rintro x w1 ⟨pp, pn, pc, rfl, hb, ho⟩; replace H0 := Lib.hid (H0.out.below hb); have HO1 := Lib.hid ho; clear hb ho)
  try go_wp2_with fail
  refine hK.out _ _ (⟨(st_cells H0.out.one).1, (st_cells H0.out.one).2.1, (st_cells H0.out.one).2.2⟩) (fun hHeld => ?_)
  clear hK K
  try simp only [Act.put, List.setIfInBounds_toArray, List.set_cons_zero, List.set_cons_succ]
  refine wpAnyH_ready (rs := [7]) (by kernel_rfl) (by simp) (AllReadyH.cons (o := _) rfl (fun K hK => ?_) AllReadyH.nil)
  go_simp
  (go_at_call 8; (with_reducible refine (HA2.out _ H0.out.blw).mono ?_); rintro x w2 ⟨pq, qn, qc, rfl, hb, ho⟩; replace H0 := Lib.hid (H0.out.below hb); replace HO1 := Lib.hid (HO1.out.below hb); have HO2 := Lib.hid ho; clear hb ho)
  try go_wp2_with fail
  refine hK.out _ _ (⟨(st_cells H0.out.one).1, (st_cells H0.out.one).2.1, (st_cells H0.out.one).2.2⟩) (fun hHeld => ?_)
  clear hK K
  try simp only [Act.put, List.setIfInBounds_toArray, List.set_cons_zero, List.set_cons_succ]
  refine wpAnyH_take (i := 8) (oi := { dst := some 11, op := _, type := _, pos := _, after := _, guard := _ }) (v := ?v7) rfl (by kernel_rfl) (by kernel_rfl) (by kernel_rfl) (fun _ _ _ h => h) (Or.inl ⟨by rfl, ?y7⟩) (by assumption) ?r7
  case y7 => (intro w hSw; go_simp; try with_reducible rfl)
  try simp only [Act.put, List.setIfInBounds_toArray, List.set_cons_zero, List.set_cons_succ]
  refine wpAnyH_ready (rs := [9]) (by kernel_rfl) (by simp) (AllReadyH.cons (o := _) rfl (fun K hK => ?_) AllReadyH.nil)
  go_simp
  (go_at_call 28; (with_reducible refine (HOW.out _ _ _ ⟨(HO1.out.ads HK1.out).toAds, (HO2.out.ads HK2.out).toAds, HO1.out.cap, HO2.out.cap⟩).mono ?_); rintro x w3 ⟨fa, fy, rfl, hb, ho⟩; replace H0 := Lib.hid (H0.out.below hb); have HS := Lib.hid ho; clear hb ho HO1 HO2)
  try go_wp2_with fail
  refine hK.out _ _ (⟨(st_cells H0.out.one).1, (st_cells H0.out.one).2.1, (st_cells H0.out.one).2.2⟩) (fun hHeld => ?_)
  clear hK K
  try simp only [Act.put, List.setIfInBounds_toArray, List.set_cons_zero, List.set_cons_succ]
  have hf := H0.out.free 3 (Nat.le_refl _)
  have hk : fok (stC e fa fy).toArray 3 = true := fok_of rfl (HS.out.sta.one e)
  refine wpAnyH_ready (rs := [10]) (by kernel_rfl) (by simp) (AllReadyH.cons (o := _) rfl (fun K hK => ?_) AllReadyH.nil)
  go_simp
  refine hK.out _ _ (⟨(st_cells (aggW_other H0.out.one (stC e fa fy) (by omega))).1, (st_cells (aggW_other H0.out.one (stC e fa fy) (by omega))).2.1, (st_cells (aggW_other H0.out.one (stC e fa fy) (by omega))).2.2⟩) (fun hHeld => ?_)
  clear hK K
  try simp only [Act.put, List.setIfInBounds_toArray, List.set_cons_zero, List.set_cons_succ]
  refine wpAnyH_done (by kernel_rfl) ?_ _
  clear hHeld
  go_wp2
  obtain ⟨q1, q2⟩ := H0.out.done (stC e fa fy) rfl
  exact bodyPost_ret (results_cell Try.results7 rfl (ld_some q1 (ldr_sta _ _ _))) rfl ⟨_, _, rfl, q2, HS.out.off' H0.out.two (by decide) (aggW_grown _ _ _)⟩
end Go.Proofs.Ytokpogoblnhihaa


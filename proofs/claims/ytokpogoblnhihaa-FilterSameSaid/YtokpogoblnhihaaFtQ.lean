/-
  Layer 15: a state whose timers have run out, by the document.
-/
import Derived.Test.YtokpogoblnhihaaFtP
namespace Go.Proofs.Ytokpogoblnhihaa
open Go.RowKit
set_option linter.unusedVariables false
set_option linter.unusedSimpArgs false
attribute [local go_sem ↓] ld_addr st_addr bld_addr ld_sta st_sta bld_sta ld_sp st_sp bld_sp adsLit_eq
attribute [local go_sem] ldr_addr str_addr ldr_sta str_sta ldr_sp str_sp row?_drewN_eq row?_drew_eq

def expS (s : ST) (l : List AD) : ST := ⟨s.ex, pickA s.on l false, if s.ex then orA s.off (pickA s.on l true) else s.off⟩
theorem bld_v15 (e : Bool) (p q : Option Addr) (n c m d : Nat) (w : World) : (aggBuild 24 #[(0, .bool e), (1, .slice p n c), (2, .slice q m d)]).run Try.prog w = .ok (.agg (stC e (.slice p n c) (.slice q m d)).toArray) w := bld_run _ _ _ (by kernel_rfl) _
set_option maxRecDepth 100000 in
set_option maxHeartbeats 4000000 in
theorem rexpire15_any (s : ST) (a y vl : Value) (l : List AD) (w : World) (h : StA w a y s) (hl : Ads w vl l) (la : s.on.length ≤ 1000) (ly : s.off.length ≤ 1000) : Calls Try.prog 18 #[.agg (stC s.ex a y).toArray, vl] w fun x w' => ∃ a' y', x = .returned (.agg (stC s.ex a' y').toArray) ∧ Below w.heap.size w w' ∧ StA w' a' y' (expS s l) := by
  obtain ⟨e, on, off⟩ := s
  simp only at la ly ⊢
  obtain ⟨py, cy, rfl, _, _⟩ := h.off.len
  have HYA : Hid (∀ W, Below w.heap.size w W → Ads W (.slice py off.length cy) off) := Lib.hid fun W hb => h.off.below hb
  have HCY := Lib.hid h.cy
  have hcy2 := h.cy
  have hoff := h.off
  simp only at HYA HCY hcy2 hoff
  have HOA : Hid (∀ W i, Below w.heap.size w W → Calls Try.prog 43 #[a, vl, .bool i] W fun x w' => ∃ p n c, x = .returned (.slice p n c) ∧ Below W.heap.size W w' ∧ OwnL w' W.heap.size (.slice p n c) (pickA on l i)) := Lib.hid fun W i hb => (pick11_any a vl on l i W (h.on.below hb) (hl.below hb) (by omega)).mono fun x w' ⟨v, hx, hb2, ho⟩ => by
    obtain ⟨p, n, c, rfl⟩ := ho.shape
    exact ⟨p, n, c, hx, hb2, ho⟩
  have HOK1 : Hid (∀ i, ∀ x ∈ pickA on l i, adOk x) := Lib.hid (fun i => pickA_ok h.on.ok)
  have HPI : Hid (∀ W v2, Below w.heap.size w W → Ads W v2 (pickA on l true) → (∀ n c, v2 = .slice none n c → c = 0) → Calls Try.prog 24 #[.slice py off.length cy, v2] W fun x w' => ∃ p n c, x = .returned (.slice p n c) ∧ Below W.heap.size W w' ∧ OwnL w' W.heap.size (.slice p n c) (orA off (pickA on l true))) := Lib.hid fun W v2 hb h2 c2 => (or11_any (.slice py off.length cy) v2 off _ W (hoff.below hb) h2 hcy2 c2 (by omega) (Nat.le_trans (pickA_length _ _ _) (by omega))).mono fun x w' ⟨v, hx, hb2, ho⟩ => by
    obtain ⟨p, n, c, rfl⟩ := ho.shape
    exact ⟨p, n, c, hx, hb2, ho⟩
  have HOK3 : Hid (∀ x ∈ orA off (pickA on l true), adOk x) := Lib.hid (ofA_ok (fun x hx => (List.mem_append.1 hx).elim (hoff.ok x) (pickA_ok h.on.ok x)))
  clear h la ly hl hcy2 hoff
  generalize off.length = ny at *
  have H0 : Hid (Bx w ((w.alloc (.cells (stC e a (.slice py ny cy)).toArray 24)).alloc (.cells #[.bool false, .slice none 0 0, .slice none 0 0] 24)) (stC e a (.slice py ny cy)).toArray 24 (stC false (.slice none 0 0) (.slice none 0 0)).toArray 24) := Lib.hid (Bx.made w _ _ _ _)
  have hbu := fun e p q n c m d w0 => bld_v15 e p q n c m d w0
  have hfk : ∀ e p q n c m d, fok (stC e (.slice p n c) (.slice q m d)).toArray 3 = true := fun e p q n c m d => fok_of rfl (stC_one rfl rfl)
  go_enter Try.func18, Try.ntmps18
  go_upto_region 1 with (fail)
  generalize (w.alloc _).alloc _ = W at H0 ⊢
  refine wp_region_held_drew (S := fun W => W.cell? ⟨w.heap.size, 0, none⟩ = some (.bool e) ∧ W.cell? ⟨w.heap.size, 1, none⟩ = some a ∧ W.cell? ⟨w.heap.size, 2, none⟩ = some (.slice py ny cy)) (by kernel_rfl) (⟨(st_cells H0.out.drew1.one).1, (st_cells H0.out.drew1.one).2.1, (st_cells H0.out.drew1.one).2.2⟩) (fun hHeld => ?_)
  have HD := Lib.hid H0.out.drew1
  generalize World.drew W = Wd at HD hHeld ⊢
  refine wpAnyH_take (i := 0) (oi := { dst := some 6, op := _, type := _, pos := _, after := _, guard := _ }) (v := ?v1) rfl (by kernel_rfl) (by kernel_rfl) (by kernel_rfl) (fun _ _ _ h => h) (Or.inl ⟨by rfl, ?y1⟩) (by assumption) ?r1
  case y1 => (intro w hSw; go_simp; try with_reducible rfl)
  try simp only [Act.put, List.setIfInBounds_toArray, List.set_cons_zero, List.set_cons_succ]
  refine wpAnyH_take (i := 1) (oi := { dst := some 7, op := _, type := _, pos := _, after := _, guard := _ }) (v := ?v2) rfl (by kernel_rfl) (by kernel_rfl) (by kernel_rfl) (fun _ _ _ h => h) (Or.inl ⟨by rfl, ?y2⟩) (by assumption) ?r2
  case y2 => (intro w hSw; go_simp; try with_reducible rfl)
  try simp only [Act.put, List.setIfInBounds_toArray, List.set_cons_zero, List.set_cons_succ]
  refine wpAnyH_take (i := 2) (oi := { dst := some 8, op := _, type := _, pos := _, after := _, guard := _ }) (v := ?v3) rfl (by kernel_rfl) (by kernel_rfl) (by kernel_rfl) (fun _ _ _ h => h) (Or.inl ⟨by rfl, ?y3⟩) (by assumption) ?r3
  case y3 => (intro w hSw; go_simp; try with_reducible rfl)
  try simp only [Act.put, List.setIfInBounds_toArray, List.set_cons_zero, List.set_cons_succ]
  refine wpAnyH_take (i := 3) (oi := { dst := some 9, op := _, type := _, pos := _, after := _, guard := _ }) (v := ?v4) rfl (by kernel_rfl) (by kernel_rfl) (by kernel_rfl) (fun _ _ _ h => h) (Or.inl ⟨by rfl, ?y4⟩) (by assumption) ?r4
  case y4 => (intro w hSw; go_simp; try with_reducible rfl)
  try simp only [Act.put, List.setIfInBounds_toArray, List.set_cons_zero, List.set_cons_succ]
  refine wpAnyH_take (i := 4) (oi := { dst := some 10, op := _, type := _, pos := _, after := _, guard := _ }) (v := ?v5) rfl (by kernel_rfl) (by kernel_rfl) (by kernel_rfl) (fun _ _ _ h => h) (Or.inl ⟨by rfl, ?y5⟩) (by assumption) ?r5
  case y5 => (intro w hSw; go_simp; try with_reducible rfl)
  try simp only [Act.put, List.setIfInBounds_toArray, List.set_cons_zero, List.set_cons_succ]
  refine wpAnyH_take (i := 6) (oi := { dst := some 12, op := _, type := _, pos := _, after := _, guard := _ }) (v := ?v6) rfl (by kernel_rfl) (by kernel_rfl) (by kernel_rfl) (fun _ _ _ h => h) (Or.inl ⟨by rfl, ?y6⟩) (by assumption) ?r6
  case y6 => (intro w hSw; go_simp; try with_reducible rfl)
  try simp only [Act.put, List.setIfInBounds_toArray, List.set_cons_zero, List.set_cons_succ]
  refine wpAnyH_take (i := 7) (oi := { dst := some 13, op := _, type := _, pos := _, after := _, guard := _ }) (v := ?v7) rfl (by kernel_rfl) (by kernel_rfl) (by kernel_rfl) (fun _ _ _ h => h) (Or.inl ⟨by rfl, ?y7⟩) (by assumption) ?r7
  case y7 => (intro w hSw; go_simp; try with_reducible rfl)
  try simp only [Act.put, List.setIfInBounds_toArray, List.set_cons_zero, List.set_cons_succ]
  refine wpAnyH_ready (rs := [5, 9]) (by kernel_rfl) (by simp) (AllReadyH.cons (o := _) rfl (fun K hK => ?_) (AllReadyH.cons (o := _) rfl (fun K hK => ?_) AllReadyH.nil))
  · go_simp
    (go_at_call 43; (with_reducible refine (HOA.out _ false HD.out.blw).mono ?_); rintro x w1 ⟨pp, pn, pc, rfl, hb, ho⟩; replace HD := Lib.hid (HD.out.below hb); have HO := Lib.hid ho; clear hb ho)
    try go_wp2_with fail
    refine hK.out _ _ (⟨(st_cells HD.out.one).1, (st_cells HD.out.one).2.1, (st_cells HD.out.one).2.2⟩) (fun hHeld => ?_)
    clear hK K
    try simp only [Act.put, List.setIfInBounds_toArray, List.set_cons_zero, List.set_cons_succ]
    refine wpAnyH_take (i := 8) (oi := { dst := some 14, op := _, type := _, pos := _, after := _, guard := _ }) (v := ?v8) rfl (by kernel_rfl) (by kernel_rfl) (by kernel_rfl) (fun _ _ _ h => h) (Or.inl ⟨by rfl, ?y8⟩) (by assumption) ?r8
    case y8 => (intro w hSw; go_simp; try with_reducible rfl)
    try simp only [Act.put, List.setIfInBounds_toArray, List.set_cons_zero, List.set_cons_succ]
    refine wpAnyH_ready (rs := [9]) (by kernel_rfl) (by simp) (AllReadyH.cons (o := _) rfl (fun K hK => ?_) AllReadyH.nil)
    go_simp
    refine hK.out _ _ (⟨(st_cells (OwR.alloc HD.out).one).1, (st_cells (OwR.alloc HD.out).one).2.1, (st_cells (OwR.alloc HD.out).one).2.2⟩) (fun hHeld => ?_)
    clear hK K
    try simp only [Act.put, List.setIfInBounds_toArray, List.set_cons_zero, List.set_cons_succ]
    have HM := Lib.hid (OwR.alloc HD.out)
    have HO1 := Lib.hid (HO.out.below (bbox w1 (.cells #[.bool false, .slice none 0 0, .slice none 0 0] 24)))
    generalize World.alloc w1 _ = W3 at HM HO1 hHeld ⊢
    generalize w1.heap.size = m at HM ⊢
    have hf := HM.out.free
    refine wpAnyH_ready (rs := [10]) (by kernel_rfl) (by simp) (AllReadyH.cons (o := _) rfl (fun K hK => ?_) AllReadyH.nil)
    go_simp
    refine hK.out _ _ (⟨(st_cells (HM.out.put (e' := e) (b' := (.slice pp pn pc)) (z' := (.slice py ny cy)) rfl rfl).one).1, (st_cells (HM.out.put (e' := e) (b' := (.slice pp pn pc)) (z' := (.slice py ny cy)) rfl rfl).one).2.1, (st_cells (HM.out.put (e' := e) (b' := (.slice pp pn pc)) (z' := (.slice py ny cy)) rfl rfl).one).2.2⟩) (fun hHeld => ?_)
    clear hK K
    try simp only [Act.put, List.setIfInBounds_toArray, List.set_cons_zero, List.set_cons_succ]
    have HQ := Lib.hid (HM.out.put (e' := e) (b' := (.slice pp pn pc)) (z' := (.slice py ny cy)) rfl rfl)
    have HT := Lib.hid (AdsT.off (HO1.out.ads (HOK1.out _)) HM.out.obj (by decide) (aggW_grown _ _ (stC e (.slice pp pn pc) (.slice py ny cy))))
    have HCP := Lib.hid HO1.out.cap
    generalize aggW _ m _ = W5 at HQ HT hHeld ⊢
    refine wpAnyH_done (by kernel_rfl) ?_ _
    clear hHeld hbu H0
    have hrr := obj_free_at HQ.out.res 0 3 (Nat.le_refl _)
    have hrw := st_row HQ.out.obj
    obtain ⟨c0, c1, c2⟩ := st_cells HQ.out.one
    cases e with
    | false =>
      have hfk2 := hfk false pp py pn pc ny cy
      have HT2 := Lib.hid (AdsT.off HT.out HQ.out.res (by decide) (aggW_grown _ _ (stC false (.slice pp pn pc) (.slice py ny cy))))
      go_wp2
      obtain ⟨q1, q2⟩ := resDone HQ.out.res HQ.out.blw (by omega) (stC false (.slice pp pn pc) (.slice py ny cy)) rfl
      exact bodyPost_ret (results_cell Try.results18 rfl (ld_some q1 (ldr_sta _ _ _))) rfl ⟨_, _, rfl, q2, ⟨HT2.out.toAds, HYA.out _ q2, HCP.out, HCY.out⟩⟩
    | true =>
      go_upto_region 3 with (fail)
      refine wp_region_held_drew (S := fun W => W.cell? ⟨w.heap.size, 0, none⟩ = some (.bool true) ∧ W.cell? ⟨w.heap.size, 1, none⟩ = some a ∧ W.cell? ⟨w.heap.size, 2, none⟩ = some (.slice py ny cy)) (by kernel_rfl) (⟨(st_cells HQ.out.drew1.one).1, (st_cells HQ.out.drew1.one).2.1, (st_cells HQ.out.drew1.one).2.2⟩) (fun hHeld => ?_)
      have HN := Lib.hid HQ.out.drew1
      have HTN : Hid (AdsT W5.drew (.slice pp pn pc) (pickA on l false)) := Lib.hid (HT.out.below (bdrewN (Below.refl _ _) 1))
      generalize World.drew W5 = W6 at HN HTN hHeld ⊢
      refine wpAnyH_take (i := 0) (oi := { dst := some 17, op := _, type := _, pos := _, after := _, guard := _ }) (v := ?v201) rfl (by kernel_rfl) (by kernel_rfl) (by kernel_rfl) (fun _ _ _ h => h) (Or.inl ⟨by rfl, ?y201⟩) (by assumption) ?r201
      case y201 => (intro w hSw; go_simp; try with_reducible rfl)
      try simp only [Act.put, List.setIfInBounds_toArray, List.set_cons_zero, List.set_cons_succ]
      refine wpAnyH_take (i := 1) (oi := { dst := some 18, op := _, type := _, pos := _, after := _, guard := _ }) (v := ?v202) rfl (by kernel_rfl) (by kernel_rfl) (by kernel_rfl) (fun _ _ _ h => h) (Or.inl ⟨by rfl, ?y202⟩) (by assumption) ?r202
      case y202 => (intro w hSw; go_simp; try with_reducible rfl)
      try simp only [Act.put, List.setIfInBounds_toArray, List.set_cons_zero, List.set_cons_succ]
      refine wpAnyH_take (i := 2) (oi := { dst := some 19, op := _, type := _, pos := _, after := _, guard := _ }) (v := ?v203) rfl (by kernel_rfl) (by kernel_rfl) (by kernel_rfl) (fun _ _ _ h => h) (Or.inl ⟨by rfl, ?y203⟩) (by assumption) ?r203
      case y203 => (intro w hSw; go_simp; try with_reducible rfl)
      try simp only [Act.put, List.setIfInBounds_toArray, List.set_cons_zero, List.set_cons_succ]
      refine wpAnyH_take (i := 3) (oi := { dst := some 20, op := _, type := _, pos := _, after := _, guard := _ }) (v := ?v204) rfl (by kernel_rfl) (by kernel_rfl) (by kernel_rfl) (fun _ _ _ h => h) (Or.inl ⟨by rfl, ?y204⟩) (by assumption) ?r204
      case y204 => (intro w hSw; go_simp; try with_reducible rfl)
      try simp only [Act.put, List.setIfInBounds_toArray, List.set_cons_zero, List.set_cons_succ]
      refine wpAnyH_take (i := 4) (oi := { dst := some 21, op := _, type := _, pos := _, after := _, guard := _ }) (v := ?v205) rfl (by kernel_rfl) (by kernel_rfl) (by kernel_rfl) (fun _ _ _ h => h) (Or.inl ⟨by rfl, ?y205⟩) (by assumption) ?r205
      case y205 => (intro w hSw; go_simp; try with_reducible rfl)
      try simp only [Act.put, List.setIfInBounds_toArray, List.set_cons_zero, List.set_cons_succ]
      refine wpAnyH_ready (rs := [5]) (by kernel_rfl) (by simp) (AllReadyH.cons (o := _) rfl (fun K hK => ?_) AllReadyH.nil)
      go_simp
      (go_at_call 43; (with_reducible refine (HOA.out _ true HN.out.blw).mono ?_); rintro x w2 ⟨pq, qn, qc, rfl, hb, ho⟩; replace HN := Lib.hid (HN.out.below hb); replace HTN := Lib.hid (HTN.out.below hb); have HO2 := Lib.hid ho; clear hb ho)
      try go_wp2_with fail
      refine hK.out _ _ (⟨(st_cells HN.out.one).1, (st_cells HN.out.one).2.1, (st_cells HN.out.one).2.2⟩) (fun hHeld => ?_)
      clear hK K
      try simp only [Act.put, List.setIfInBounds_toArray, List.set_cons_zero, List.set_cons_succ]
      refine wpAnyH_ready (rs := [6]) (by kernel_rfl) (by simp) (AllReadyH.cons (o := _) rfl (fun K hK => ?_) AllReadyH.nil)
      go_simp
      (go_at_call 24; (with_reducible refine (HPI.out _ _ HN.out.blw (HO2.out.ads (HOK1.out _)).toAds HO2.out.cap).mono ?_); rintro x w3 ⟨pr, rn, rc, rfl, hb, ho⟩; replace HN := Lib.hid (HN.out.below hb); replace HTN := Lib.hid (HTN.out.below hb); have HO3 := Lib.hid ho; clear hb ho)
      try go_wp2_with fail
      refine hK.out _ _ (⟨(st_cells HN.out.one).1, (st_cells HN.out.one).2.1, (st_cells HN.out.one).2.2⟩) (fun hHeld => ?_)
      clear hK K
      try simp only [Act.put, List.setIfInBounds_toArray, List.set_cons_zero, List.set_cons_succ]
      have cm := (st_cells HN.out.obj).2.2
      have fm := HN.out.obj.free 2
      refine wpAnyH_take (i := 7) (oi := { dst := some 24, op := _, type := _, pos := _, after := _, guard := _ }) (v := ?v206) rfl (by kernel_rfl) (by kernel_rfl) (by kernel_rfl) (fun _ _ _ h => h) (Or.inl ⟨by rfl, ?y206⟩) (by assumption) ?r206
      case y206 => (intro w hSw; go_simp; try with_reducible rfl)
      try simp only [Act.put, List.setIfInBounds_toArray, List.set_cons_zero, List.set_cons_succ]
      refine wpAnyH_ready (rs := [8]) (by kernel_rfl) (by simp) (AllReadyH.cons (o := _) rfl (fun K hK => ?_) AllReadyH.nil)
      go_simp
      refine hK.out _ _ (⟨(st_cells (HN.out.set (.slice pr rn rc)).one).1, (st_cells (HN.out.set (.slice pr rn rc)).one).2.1, (st_cells (HN.out.set (.slice pr rn rc)).one).2.2⟩) (fun hHeld => ?_)
      clear hK K
      try simp only [Act.put, List.setIfInBounds_toArray, List.set_cons_zero, List.set_cons_succ]
      have HNN := Lib.hid (HN.out.set (.slice pr rn rc))
      have HTT := Lib.hid (AdsT.off HTN.out HN.out.obj (by decide) (setc_grown _ m 2 (.slice pr rn rc)))
      have HTR := Lib.hid (AdsT.off (HO3.out.ads HOK3.out) HN.out.obj (by decide) (setc_grown _ m 2 (.slice pr rn rc)))
      have HCR := Lib.hid HO3.out.cap
      generalize World.setCell _ _ _ = W7 at HNN HTT HTR hHeld ⊢
      refine wpAnyH_done (by kernel_rfl) ?_ _
      clear hHeld hrr hrw c0 c1 c2
      have hrr := obj_free_at HNN.out.res 0 3 (Nat.le_refl _)
      have hrw := st_row HNN.out.obj
      have hfk2 := hfk true pp pr pn pc rn rc
      have HT2 := Lib.hid (AdsT.off HTT.out HNN.out.res (by decide) (aggW_grown _ _ (stC true (.slice pp pn pc) (.slice pr rn rc))))
      have HT3 := Lib.hid (AdsT.off HTR.out HNN.out.res (by decide) (aggW_grown _ _ (stC true (.slice pp pn pc) (.slice pr rn rc))))
      go_wp2
      obtain ⟨q1, q2⟩ := resDone HNN.out.res HNN.out.blw (by omega) (stC true (.slice pp pn pc) (.slice pr rn rc)) rfl
      exact bodyPost_ret (results_cell Try.results18 rfl (ld_some q1 (ldr_sta _ _ _))) rfl ⟨_, _, rfl, q2, ⟨HT2.out.toAds, HT3.out.toAds, HCP.out, HCR.out⟩⟩
  · go_simp
    refine hK.out _ _ (⟨(st_cells (OwR.alloc HD.out).one).1, (st_cells (OwR.alloc HD.out).one).2.1, (st_cells (OwR.alloc HD.out).one).2.2⟩) (fun hHeld => ?_)
    clear hK K
    try simp only [Act.put, List.setIfInBounds_toArray, List.set_cons_zero, List.set_cons_succ]
    have HM := Lib.hid (OwR.alloc HD.out)
    generalize World.alloc Wd _ = W3 at HM hHeld ⊢
    generalize Wd.heap.size = m at HM ⊢
    refine wpAnyH_ready (rs := [5]) (by kernel_rfl) (by simp) (AllReadyH.cons (o := _) rfl (fun K hK => ?_) AllReadyH.nil)
    go_simp
    (go_at_call 43; (with_reducible refine (HOA.out _ false HM.out.blw).mono ?_); rintro x w1 ⟨pp, pn, pc, rfl, hb, ho⟩; replace HM := Lib.hid (HM.out.below hb); have HO := Lib.hid ho; clear hb ho)
    try go_wp2_with fail
    refine hK.out _ _ (⟨(st_cells HM.out.one).1, (st_cells HM.out.one).2.1, (st_cells HM.out.one).2.2⟩) (fun hHeld => ?_)
    clear hK K
    try simp only [Act.put, List.setIfInBounds_toArray, List.set_cons_zero, List.set_cons_succ]
    have hf := HM.out.free
    refine wpAnyH_take (i := 8) (oi := { dst := some 14, op := _, type := _, pos := _, after := _, guard := _ }) (v := ?v9) rfl (by kernel_rfl) (by kernel_rfl) (by kernel_rfl) (fun _ _ _ h => h) (Or.inl ⟨by rfl, ?y9⟩) (by assumption) ?r9
    case y9 => (intro w hSw; go_simp; try with_reducible rfl)
    try simp only [Act.put, List.setIfInBounds_toArray, List.set_cons_zero, List.set_cons_succ]
    refine wpAnyH_ready (rs := [10]) (by kernel_rfl) (by simp) (AllReadyH.cons (o := _) rfl (fun K hK => ?_) AllReadyH.nil)
    go_simp
    refine hK.out _ _ (⟨(st_cells (HM.out.put (e' := e) (b' := (.slice pp pn pc)) (z' := (.slice py ny cy)) rfl rfl).one).1, (st_cells (HM.out.put (e' := e) (b' := (.slice pp pn pc)) (z' := (.slice py ny cy)) rfl rfl).one).2.1, (st_cells (HM.out.put (e' := e) (b' := (.slice pp pn pc)) (z' := (.slice py ny cy)) rfl rfl).one).2.2⟩) (fun hHeld => ?_)
    clear hK K
    try simp only [Act.put, List.setIfInBounds_toArray, List.set_cons_zero, List.set_cons_succ]
    have HQ := Lib.hid (HM.out.put (e' := e) (b' := (.slice pp pn pc)) (z' := (.slice py ny cy)) rfl rfl)
    have HT := Lib.hid (AdsT.off (HO.out.ads (HOK1.out _)) HM.out.obj (by decide) (aggW_grown _ _ (stC e (.slice pp pn pc) (.slice py ny cy))))
    have HCP := Lib.hid HO.out.cap
    generalize aggW _ m _ = W5 at HQ HT hHeld ⊢
    refine wpAnyH_done (by kernel_rfl) ?_ _
    clear hHeld hbu H0
    have hrr := obj_free_at HQ.out.res 0 3 (Nat.le_refl _)
    have hrw := st_row HQ.out.obj
    obtain ⟨c0, c1, c2⟩ := st_cells HQ.out.one
    cases e with
    | false =>
      have hfk2 := hfk false pp py pn pc ny cy
      have HT2 := Lib.hid (AdsT.off HT.out HQ.out.res (by decide) (aggW_grown _ _ (stC false (.slice pp pn pc) (.slice py ny cy))))
      go_wp2
      obtain ⟨q1, q2⟩ := resDone HQ.out.res HQ.out.blw (by omega) (stC false (.slice pp pn pc) (.slice py ny cy)) rfl
      exact bodyPost_ret (results_cell Try.results18 rfl (ld_some q1 (ldr_sta _ _ _))) rfl ⟨_, _, rfl, q2, ⟨HT2.out.toAds, HYA.out _ q2, HCP.out, HCY.out⟩⟩
    | true =>
      go_upto_region 3 with (fail)
      refine wp_region_held_drew (S := fun W => W.cell? ⟨w.heap.size, 0, none⟩ = some (.bool true) ∧ W.cell? ⟨w.heap.size, 1, none⟩ = some a ∧ W.cell? ⟨w.heap.size, 2, none⟩ = some (.slice py ny cy)) (by kernel_rfl) (⟨(st_cells HQ.out.drew1.one).1, (st_cells HQ.out.drew1.one).2.1, (st_cells HQ.out.drew1.one).2.2⟩) (fun hHeld => ?_)
      have HN := Lib.hid HQ.out.drew1
      have HTN : Hid (AdsT W5.drew (.slice pp pn pc) (pickA on l false)) := Lib.hid (HT.out.below (bdrewN (Below.refl _ _) 1))
      generalize World.drew W5 = W6 at HN HTN hHeld ⊢
      refine wpAnyH_take (i := 0) (oi := { dst := some 17, op := _, type := _, pos := _, after := _, guard := _ }) (v := ?v301) rfl (by kernel_rfl) (by kernel_rfl) (by kernel_rfl) (fun _ _ _ h => h) (Or.inl ⟨by rfl, ?y301⟩) (by assumption) ?r301
      case y301 => (intro w hSw; go_simp; try with_reducible rfl)
      try simp only [Act.put, List.setIfInBounds_toArray, List.set_cons_zero, List.set_cons_succ]
      refine wpAnyH_take (i := 1) (oi := { dst := some 18, op := _, type := _, pos := _, after := _, guard := _ }) (v := ?v302) rfl (by kernel_rfl) (by kernel_rfl) (by kernel_rfl) (fun _ _ _ h => h) (Or.inl ⟨by rfl, ?y302⟩) (by assumption) ?r302
      case y302 => (intro w hSw; go_simp; try with_reducible rfl)
      try simp only [Act.put, List.setIfInBounds_toArray, List.set_cons_zero, List.set_cons_succ]
      refine wpAnyH_take (i := 2) (oi := { dst := some 19, op := _, type := _, pos := _, after := _, guard := _ }) (v := ?v303) rfl (by kernel_rfl) (by kernel_rfl) (by kernel_rfl) (fun _ _ _ h => h) (Or.inl ⟨by rfl, ?y303⟩) (by assumption) ?r303
      case y303 => (intro w hSw; go_simp; try with_reducible rfl)
      try simp only [Act.put, List.setIfInBounds_toArray, List.set_cons_zero, List.set_cons_succ]
      refine wpAnyH_take (i := 3) (oi := { dst := some 20, op := _, type := _, pos := _, after := _, guard := _ }) (v := ?v304) rfl (by kernel_rfl) (by kernel_rfl) (by kernel_rfl) (fun _ _ _ h => h) (Or.inl ⟨by rfl, ?y304⟩) (by assumption) ?r304
      case y304 => (intro w hSw; go_simp; try with_reducible rfl)
      try simp only [Act.put, List.setIfInBounds_toArray, List.set_cons_zero, List.set_cons_succ]
      refine wpAnyH_take (i := 4) (oi := { dst := some 21, op := _, type := _, pos := _, after := _, guard := _ }) (v := ?v305) rfl (by kernel_rfl) (by kernel_rfl) (by kernel_rfl) (fun _ _ _ h => h) (Or.inl ⟨by rfl, ?y305⟩) (by assumption) ?r305
      case y305 => (intro w hSw; go_simp; try with_reducible rfl)
      try simp only [Act.put, List.setIfInBounds_toArray, List.set_cons_zero, List.set_cons_succ]
      refine wpAnyH_ready (rs := [5]) (by kernel_rfl) (by simp) (AllReadyH.cons (o := _) rfl (fun K hK => ?_) AllReadyH.nil)
      go_simp
      (go_at_call 43; (with_reducible refine (HOA.out _ true HN.out.blw).mono ?_); rintro x w2 ⟨pq, qn, qc, rfl, hb, ho⟩; replace HN := Lib.hid (HN.out.below hb); replace HTN := Lib.hid (HTN.out.below hb); have HO2 := Lib.hid ho; clear hb ho)
      try go_wp2_with fail
      refine hK.out _ _ (⟨(st_cells HN.out.one).1, (st_cells HN.out.one).2.1, (st_cells HN.out.one).2.2⟩) (fun hHeld => ?_)
      clear hK K
      try simp only [Act.put, List.setIfInBounds_toArray, List.set_cons_zero, List.set_cons_succ]
      refine wpAnyH_ready (rs := [6]) (by kernel_rfl) (by simp) (AllReadyH.cons (o := _) rfl (fun K hK => ?_) AllReadyH.nil)
      go_simp
      (go_at_call 24; (with_reducible refine (HPI.out _ _ HN.out.blw (HO2.out.ads (HOK1.out _)).toAds HO2.out.cap).mono ?_); rintro x w3 ⟨pr, rn, rc, rfl, hb, ho⟩; replace HN := Lib.hid (HN.out.below hb); replace HTN := Lib.hid (HTN.out.below hb); have HO3 := Lib.hid ho; clear hb ho)
      try go_wp2_with fail
      refine hK.out _ _ (⟨(st_cells HN.out.one).1, (st_cells HN.out.one).2.1, (st_cells HN.out.one).2.2⟩) (fun hHeld => ?_)
      clear hK K
      try simp only [Act.put, List.setIfInBounds_toArray, List.set_cons_zero, List.set_cons_succ]
      have cm := (st_cells HN.out.obj).2.2
      have fm := HN.out.obj.free 2
      refine wpAnyH_take (i := 7) (oi := { dst := some 24, op := _, type := _, pos := _, after := _, guard := _ }) (v := ?v306) rfl (by kernel_rfl) (by kernel_rfl) (by kernel_rfl) (fun _ _ _ h => h) (Or.inl ⟨by rfl, ?y306⟩) (by assumption) ?r306
      case y306 => (intro w hSw; go_simp; try with_reducible rfl)
      try simp only [Act.put, List.setIfInBounds_toArray, List.set_cons_zero, List.set_cons_succ]
      refine wpAnyH_ready (rs := [8]) (by kernel_rfl) (by simp) (AllReadyH.cons (o := _) rfl (fun K hK => ?_) AllReadyH.nil)
      go_simp
      refine hK.out _ _ (⟨(st_cells (HN.out.set (.slice pr rn rc)).one).1, (st_cells (HN.out.set (.slice pr rn rc)).one).2.1, (st_cells (HN.out.set (.slice pr rn rc)).one).2.2⟩) (fun hHeld => ?_)
      clear hK K
      try simp only [Act.put, List.setIfInBounds_toArray, List.set_cons_zero, List.set_cons_succ]
      have HNN := Lib.hid (HN.out.set (.slice pr rn rc))
      have HTT := Lib.hid (AdsT.off HTN.out HN.out.obj (by decide) (setc_grown _ m 2 (.slice pr rn rc)))
      have HTR := Lib.hid (AdsT.off (HO3.out.ads HOK3.out) HN.out.obj (by decide) (setc_grown _ m 2 (.slice pr rn rc)))
      have HCR := Lib.hid HO3.out.cap
      generalize World.setCell _ _ _ = W7 at HNN HTT HTR hHeld ⊢
      refine wpAnyH_done (by kernel_rfl) ?_ _
      clear hHeld hrr hrw c0 c1 c2
      have hrr := obj_free_at HNN.out.res 0 3 (Nat.le_refl _)
      have hrw := st_row HNN.out.obj
      have hfk2 := hfk true pp pr pn pc rn rc
      have HT2 := Lib.hid (AdsT.off HTT.out HNN.out.res (by decide) (aggW_grown _ _ (stC true (.slice pp pn pc) (.slice pr rn rc))))
      have HT3 := Lib.hid (AdsT.off HTR.out HNN.out.res (by decide) (aggW_grown _ _ (stC true (.slice pp pn pc) (.slice pr rn rc))))
      go_wp2
      obtain ⟨q1, q2⟩ := resDone HNN.out.res HNN.out.blw (by omega) (stC true (.slice pp pn pc) (.slice pr rn rc)) rfl
      exact bodyPost_ret (results_cell Try.results18 rfl (ld_some q1 (ldr_sta _ _ _))) rfl ⟨_, _, rfl, q2, ⟨HT2.out.toAds, HT3.out.toAds, HCP.out, HCR.out⟩⟩
end Go.Proofs.Ytokpogoblnhihaa

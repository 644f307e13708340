/-
  Layer 15: what the program's records and timers come to.
-/
import Derived.Test.YtokpogoblnhihaaFtHb
namespace Go.Proofs.Ytokpogoblnhihaa
open Go.RowKit
set_option linter.unusedVariables false
set_option linter.unusedSimpArgs false
attribute [local go_sem ↓] ld_addr st_addr bld_addr ld_sta st_sta bld_sta ld_sp st_sp bld_sp adsLit_eq
attribute [local go_sem] ldr_addr str_addr ldr_sta str_sta ldr_sp str_sp row?_drewN_eq row?_drew_eq

set_option maxRecDepth 100000 in
set_option maxHeartbeats 1000000 in
theorem fcopied_any (s : ST) (a y : Value) (w : World) (h : StT w a y s) (la : s.on.length ≤ 50000) (ly : s.off.length ≤ 50000) : Calls Try.prog 30 #[.agg (stC s.ex a y).toArray] w fun x w' => ∃ p n c q m d, x = .returned (.agg (stC s.ex (.slice p n c) (.slice q m d)).toArray) ∧ Below w.heap.size w w' ∧ GSl w' (.slice p n c) s.on ∧ GSl w' (.slice q m d) s.off := by
  have HC1 : Hid (∀ W, Below w.heap.size w W → Gives 42 #[a] W s.on) := Lib.hid fun W hb => fown_any (h.gon.below hb) la
  have HC2 : Hid (∀ W, Below w.heap.size w W → Gives 42 #[y] W s.off) := Lib.hid fun W hb => fown_any (h.goff.below hb) ly
  have hbl := fun e p q n c m d w0 => bld_v15 e p q n c m d w0
  have hfk : ∀ e p q n c m d, fok (stC e (.slice p n c) (.slice q m d)).toArray 3 = true := fun e p q n c m d => fok_of rfl (stC_one rfl rfl)
  clear h la ly
  generalize s.ex = e at *
  have H0 : Hid (Bx w ((w.alloc (.cells (stC e a y).toArray 24)).alloc (.cells #[.bool false, .slice none 0 0, .slice none 0 0] 24)) (stC e a y).toArray 24 (stC false (.slice none 0 0) (.slice none 0 0)).toArray 24) := Lib.hid (Bx.made w _ _ _ _)
  go_enter Try.func30, Try.ntmps30
  go_upto_region 1 with (fail)
  generalize (w.alloc _).alloc _ = W at H0 ⊢
  refine wp_region_held_drew (S := fun W => W.cell? ⟨w.heap.size, 0, none⟩ = some (.bool e) ∧ W.cell? ⟨w.heap.size, 1, none⟩ = some a ∧ W.cell? ⟨w.heap.size, 2, none⟩ = some y) (by kernel_rfl) (⟨(st_cells H0.out.drew1.one).1, (st_cells H0.out.drew1.one).2.1, (st_cells H0.out.drew1.one).2.2⟩) (fun hHeld => ?_)
  have HD := Lib.hid H0.out.drew1
  generalize World.drew W = Wd at HD hHeld ⊢
  refine wpAnyH_take (i := 0) (oi := { dst := some 3, op := _, type := _, pos := _, after := _, guard := _ }) (v := ?v1) rfl (by kernel_rfl) (by kernel_rfl) (by kernel_rfl) (fun _ _ _ h => h) (Or.inl ⟨by rfl, ?y1⟩) (by assumption) ?r1
  case y1 => (intro w hSw; go_simp; try with_reducible rfl)
  try simp only [Act.put, List.setIfInBounds_toArray, List.set_cons_zero, List.set_cons_succ]
  refine wpAnyH_take (i := 1) (oi := { dst := some 4, op := _, type := _, pos := _, after := _, guard := _ }) (v := ?v2) rfl (by kernel_rfl) (by kernel_rfl) (by kernel_rfl) (fun _ _ _ h => h) (Or.inl ⟨by rfl, ?y2⟩) (by assumption) ?r2
  case y2 => (intro w hSw; go_simp; try with_reducible rfl)
  try simp only [Act.put, List.setIfInBounds_toArray, List.set_cons_zero, List.set_cons_succ]
  refine wpAnyH_take (i := 2) (oi := { dst := some 5, op := _, type := _, pos := _, after := _, guard := _ }) (v := ?v3) rfl (by kernel_rfl) (by kernel_rfl) (by kernel_rfl) (fun _ _ _ h => h) (Or.inl ⟨by rfl, ?y3⟩) (by assumption) ?r3
  case y3 => (intro w hSw; go_simp; try with_reducible rfl)
  try simp only [Act.put, List.setIfInBounds_toArray, List.set_cons_zero, List.set_cons_succ]
  refine wpAnyH_take (i := 3) (oi := { dst := some 6, op := _, type := _, pos := _, after := _, guard := _ }) (v := ?v4) rfl (by kernel_rfl) (by kernel_rfl) (by kernel_rfl) (fun _ _ _ h => h) (Or.inl ⟨by rfl, ?y4⟩) (by assumption) ?r4
  case y4 => (intro w hSw; go_simp; try with_reducible rfl)
  try simp only [Act.put, List.setIfInBounds_toArray, List.set_cons_zero, List.set_cons_succ]
  refine wpAnyH_take (i := 5) (oi := { dst := some 8, op := _, type := _, pos := _, after := _, guard := _ }) (v := ?v5) rfl (by kernel_rfl) (by kernel_rfl) (by kernel_rfl) (fun _ _ _ h => h) (Or.inl ⟨by rfl, ?y5⟩) (by assumption) ?r5
  case y5 => (intro w hSw; go_simp; try with_reducible rfl)
  try simp only [Act.put, List.setIfInBounds_toArray, List.set_cons_zero, List.set_cons_succ]
  refine wpAnyH_take (i := 6) (oi := { dst := some 9, op := _, type := _, pos := _, after := _, guard := _ }) (v := ?v6) rfl (by kernel_rfl) (by kernel_rfl) (by kernel_rfl) (fun _ _ _ h => h) (Or.inl ⟨by rfl, ?y6⟩) (by assumption) ?r6
  case y6 => (intro w hSw; go_simp; try with_reducible rfl)
  try simp only [Act.put, List.setIfInBounds_toArray, List.set_cons_zero, List.set_cons_succ]
  refine wpAnyH_ready (rs := [4]) (by kernel_rfl) (by simp) (AllReadyH.cons (o := _) rfl (fun K hK => ?_) AllReadyH.nil)
  go_simp
  (go_at_call 42; (with_reducible refine (HC1.out _ HD.out.blw).mono ?_); rintro x w1 ⟨p1, n1, c1, rfl, hb, ho⟩; replace HD := Lib.hid (HD.out.below hb); have HS1 := Lib.hid ho; clear hb ho)
  try go_wp2_with fail
  refine hK.out _ _ (⟨(st_cells HD.out.one).1, (st_cells HD.out.one).2.1, (st_cells HD.out.one).2.2⟩) (fun hHeld => ?_)
  clear hK K
  try simp only [Act.put, List.setIfInBounds_toArray, List.set_cons_zero, List.set_cons_succ]
  refine wpAnyH_ready (rs := [7]) (by kernel_rfl) (by simp) (AllReadyH.cons (o := _) rfl (fun K hK => ?_) AllReadyH.nil)
  go_simp
  (go_at_call 42; (with_reducible refine (HC2.out _ HD.out.blw).mono ?_); rintro x w2 ⟨p2, n2, c2, rfl, hb, ho⟩; replace HD := Lib.hid (HD.out.below hb); replace HS1 := Lib.hid (HS1.out.below hb); have HS2 := Lib.hid ho; clear hb ho)
  try go_wp2_with fail
  refine hK.out _ _ (⟨(st_cells HD.out.one).1, (st_cells HD.out.one).2.1, (st_cells HD.out.one).2.2⟩) (fun hHeld => ?_)
  clear hK K
  try simp only [Act.put, List.setIfInBounds_toArray, List.set_cons_zero, List.set_cons_succ]
  have hf := HD.out.free 3 (Nat.le_refl _)
  have hfk2 := hfk e p1 p2 n1 c1 n2 c2
  refine wpAnyH_take (i := 8) (oi := { dst := some 11, op := _, type := _, pos := _, after := _, guard := _ }) (v := ?v7) rfl (by kernel_rfl) (by kernel_rfl) (by kernel_rfl) (fun _ _ _ h => h) (Or.inl ⟨by rfl, ?y7⟩) (by assumption) ?r7
  case y7 => (intro w hSw; go_simp; try with_reducible rfl)
  try simp only [Act.put, List.setIfInBounds_toArray, List.set_cons_zero, List.set_cons_succ]
  refine wpAnyH_ready (rs := [9]) (by kernel_rfl) (by simp) (AllReadyH.cons (o := _) rfl (fun K hK => ?_) AllReadyH.nil)
  go_simp
  refine hK.out _ _ (⟨by rw [ObjAt.cell (aggW_other HD.out.one _ (by omega))]; rfl, by rw [ObjAt.cell (aggW_other HD.out.one _ (by omega))]; rfl, by rw [ObjAt.cell (aggW_other HD.out.one _ (by omega))]; rfl⟩) (fun hHeld => ?_)
  clear hK K
  try simp only [Act.put, List.setIfInBounds_toArray, List.set_cons_zero, List.set_cons_succ]
  have hl := HD.out.done (stC e (.slice p1 n1 c1) (.slice p2 n2 c2)) rfl
  replace HS1 := Lib.hid (HS1.out.off HD.out.two (by decide) (aggW_grown _ _ (stC e (.slice p1 n1 c1) (.slice p2 n2 c2))))
  replace HS2 := Lib.hid (HS2.out.off HD.out.two (by decide) (aggW_grown _ _ (stC e (.slice p1 n1 c1) (.slice p2 n2 c2))))
  have HK := Lib.hid hl
  clear hl
  refine wpAnyH_done (by kernel_rfl) ?_ _
  clear hHeld
  go_wp2
  exact bodyPost_ret (results_cell Try.results30 rfl (ld_some HK.out.1 (ldr_sta _ _ _))) rfl ⟨_, _, _, _, _, _, rfl, HK.out.2, HS1.out, HS2.out⟩
set_option maxRecDepth 100000 in
set_option maxHeartbeats 2000000 in
theorem fexpire_any (s : ST) (hs : s.Good) (a y vl : Value) (l : List AD) (w : World) (h : StT w a y s) (hl : AdsT w vl l) (la : s.on.length ≤ 100) (ly : s.off.length ≤ 100) (lb : l.length ≤ 100) : Calls Try.prog 15 #[.agg (stC s.ex a y).toArray, vl] w fun x w' => ∃ a' y', x = .returned (.agg (stC s.ex a' y').toArray) ∧ Below w.heap.size w w' ∧ StT w' a' y' (expS s l) := by
  obtain ⟨e, on, off⟩ := s
  obtain ⟨h1, h2, h3, h4⟩ := hs
  simp only at la ly h1 h2 h3 h4 h ⊢
  have hlo := ofA_length l
  have HCO := Lib.hid (fun W (hb : Below w.heap.size w W) => gOf (hl.1.below hb) (Nat.le_trans lb (by omega)))
  have HCM : Hid (∀ W u, Below w.heap.size w W → GSl W u (ofA l) → Gives 38 #[a, u] W (pickA on l false)) := Lib.hid fun W u hb hu => by
    have := gMinus (h.on.below hb).1 hu.1.1 (SetA.of l) (show on.length ≤ 100000 by omega) (by omega)
    rwa [pickA_ofA l false h1.2] at this
  have HCA : Hid (∀ W u, Below w.heap.size w W → GSl W u (ofA l) → Gives 36 #[a, u] W (pickA on l true)) := Lib.hid fun W u hb hu => by
    have := gAnd (h.on.below hb).1 hu.1.1 (SetA.of l) (show on.length ≤ 100000 by omega) (by omega)
    rwa [pickA_ofA l true h1.2] at this
  have HCR : Hid (∀ W u, Below w.heap.size w W → GSl W u (pickA on l true) → Gives 40 #[y, u] W (orA off (pickA on l true))) := Lib.hid fun W u hb hu => gOr (h.goff.below hb) hu h2 (h1.pick _ _) (by omega) (Nat.le_trans (pickA_length _ _ _) (by omega))
  have HI : Hid (e = false → off = []) := Lib.hid h4
  have hbl := fun e p q n c m d w0 => bld_v15 e p q n c m d w0
  have hfk : ∀ e p q n c m d, fok (stC e (.slice p n c) (.slice q m d)).toArray 3 = true := fun e p q n c m d => fok_of rfl (stC_one rfl rfl)
  clear h la ly lb hl hlo h1 h2 h3 h4
  have H0 : Hid (Bx w ((w.alloc (.cells (stC e a y).toArray 24)).alloc (.cells #[.bool false, .slice none 0 0, .slice none 0 0] 24)) (stC e a y).toArray 24 (stC false (.slice none 0 0) (.slice none 0 0)).toArray 24) := Lib.hid (Bx.made w _ _ _ _)
  go_enter Try.func15, Try.ntmps15
  go_upto_region 1 with (fail)
  generalize (w.alloc _).alloc _ = W at H0 ⊢
  cases e with
  | false =>
    obtain rfl := HI.out rfl
    go_wp2_with (first
      | (go_at_call 29; (with_reducible refine (HCO.out _ H0.out.blw).mono ?_); rintro x w1 ⟨p1, n1, c1, rfl, hb, ho⟩; replace H0 := Lib.hid (H0.out.below hb); have HS1 := Lib.hid ho; clear hb ho; obtain ⟨k0, k1, k2⟩ := st_cells H0.out.one)
      | (go_at_call 38; (with_reducible refine (HCM.out _ _ H0.out.blw HS1.out).mono ?_); rintro x w1 ⟨p2, n2, c2, rfl, hb, ho⟩; replace H0 := Lib.hid (H0.out.below hb); have HS2 := Lib.hid ho; clear hb ho HS1 k0 k1 k2; obtain ⟨k0, k1, k2⟩ := st_cells H0.out.one)
      | (go_at_call 41; refine (fonly_any _ _ _ _).mono ?_; rintro x w1 ⟨rfl, hb⟩; replace H0 := Lib.hid (H0.out.below hb); replace HS2 := Lib.hid (HS2.out.below hb); clear hb k0 k1 k2; have hf := H0.out.free 3 (Nat.le_refl _); have hfk2 : fok (stC false (.slice p2 n2 c2) (.slice none 0 0)).toArray 3 = true := fok_of rfl (stC_one rfl rfl)))
    obtain ⟨q1, q2⟩ := H0.out.done (stC false (.slice p2 n2 c2) (.slice none 0 0)) rfl
    have HT := GSl.off HS2.out H0.out.two (by decide) (aggW_grown _ _ (stC false (.slice p2 n2 c2) (.slice none 0 0)))
    exact bodyPost_ret (results_cell Try.results15 rfl (ld_some q1 (ldr_sta _ _ _))) rfl ⟨_, _, rfl, q2, StT.gs HT (GSl.nil _)⟩
  | true =>
    clear HI
    go_upto_region 4 with (first
      | (go_at_call 29; (with_reducible refine (HCO.out _ H0.out.blw).mono ?_); rintro x w1 ⟨p1, n1, c1, rfl, hb, ho⟩; replace H0 := Lib.hid (H0.out.below hb); have HS1 := Lib.hid ho; clear hb ho; obtain ⟨k0, k1, k2⟩ := st_cells H0.out.one)
      | (go_at_call 38; (with_reducible refine (HCM.out _ _ H0.out.blw HS1.out).mono ?_); rintro x w2 ⟨p2, n2, c2, rfl, hb, ho⟩; replace H0 := Lib.hid (H0.out.below hb); replace HS1 := Lib.hid (HS1.out.below hb); have HS2 := Lib.hid ho; clear hb ho k0 k1 k2; obtain ⟨k0, k1, k2⟩ := st_cells H0.out.one))
    refine wp_region_held_drew (S := fun W => W.cell? ⟨w.heap.size, 0, none⟩ = some (.bool true) ∧ W.cell? ⟨w.heap.size, 1, none⟩ = some a ∧ W.cell? ⟨w.heap.size, 2, none⟩ = some y) (by kernel_rfl) (⟨(st_cells H0.out.drew1.one).1, (st_cells H0.out.drew1.one).2.1, (st_cells H0.out.drew1.one).2.2⟩) (fun hHeld => ?_)
    have HD := Lib.hid H0.out.drew1
    replace HS1 : Hid (GSl (World.drew w2) (.slice p1 n1 c1) (ofA l)) := Lib.hid (HS1.out.below (bdrewN (Below.refl _ _) 1))
    replace HS2 : Hid (GSl (World.drew w2) (.slice p2 n2 c2) (pickA on l false)) := Lib.hid (HS2.out.below (bdrewN (Below.refl _ _) 1))
    clear k0 k1 k2 H0
    skip
    generalize hWd : World.drew w2 = Wd at HD hHeld HS1 HS2 ⊢
    refine wpAnyH_take (i := 0) (oi := { dst := some 15, op := _, type := _, pos := _, after := _, guard := _ }) (v := ?v101) rfl (by kernel_rfl) (by kernel_rfl) (by kernel_rfl) (fun _ _ _ h => h) (Or.inl ⟨by rfl, ?y101⟩) (by assumption) ?r101
    case y101 => (intro w hSw; go_simp; try with_reducible rfl)
    try simp only [Act.put, List.setIfInBounds_toArray, List.set_cons_zero, List.set_cons_succ]
    refine wpAnyH_take (i := 1) (oi := { dst := some 16, op := _, type := _, pos := _, after := _, guard := _ }) (v := ?v102) rfl (by kernel_rfl) (by kernel_rfl) (by kernel_rfl) (fun _ _ _ h => h) (Or.inl ⟨by rfl, ?y102⟩) (by assumption) ?r102
    case y102 => (intro w hSw; go_simp; try with_reducible rfl)
    try simp only [Act.put, List.setIfInBounds_toArray, List.set_cons_zero, List.set_cons_succ]
    refine wpAnyH_take (i := 2) (oi := { dst := some 17, op := _, type := _, pos := _, after := _, guard := _ }) (v := ?v103) rfl (by kernel_rfl) (by kernel_rfl) (by kernel_rfl) (fun _ _ _ h => h) (Or.inl ⟨by rfl, ?y103⟩) (by assumption) ?r103
    case y103 => (intro w hSw; go_simp; try with_reducible rfl)
    try simp only [Act.put, List.setIfInBounds_toArray, List.set_cons_zero, List.set_cons_succ]
    refine wpAnyH_take (i := 3) (oi := { dst := some 18, op := _, type := _, pos := _, after := _, guard := _ }) (v := ?v104) rfl (by kernel_rfl) (by kernel_rfl) (by kernel_rfl) (fun _ _ _ h => h) (Or.inl ⟨by rfl, ?y104⟩) (by assumption) ?r104
    case y104 => (intro w hSw; go_simp; try with_reducible rfl)
    try simp only [Act.put, List.setIfInBounds_toArray, List.set_cons_zero, List.set_cons_succ]
    refine wpAnyH_take (i := 4) (oi := { dst := some 19, op := _, type := _, pos := _, after := _, guard := _ }) (v := ?v105) rfl (by kernel_rfl) (by kernel_rfl) (by kernel_rfl) (fun _ _ _ h => h) (Or.inl ⟨by rfl, ?y105⟩) (by assumption) ?r105
    case y105 => (intro w hSw; go_simp; try with_reducible rfl)
    try simp only [Act.put, List.setIfInBounds_toArray, List.set_cons_zero, List.set_cons_succ]
    refine wpAnyH_take (i := 5) (oi := { dst := some 20, op := _, type := _, pos := _, after := _, guard := _ }) (v := ?v106) rfl (by kernel_rfl) (by kernel_rfl) (by kernel_rfl) (fun _ _ _ h => h) (Or.inl ⟨by rfl, ?y106⟩) (by assumption) ?r106
    case y106 => (intro w hSw; go_simp; try with_reducible rfl)
    try simp only [Act.put, List.setIfInBounds_toArray, List.set_cons_zero, List.set_cons_succ]
    refine wpAnyH_ready (rs := [6]) (by kernel_rfl) (by simp) (AllReadyH.cons (o := _) rfl (fun K hK => ?_) AllReadyH.nil)
    go_simp
    (go_at_call 36; (with_reducible refine (HCA.out _ _ HD.out.blw HS1.out).mono ?_); rintro x w3 ⟨p3, n3, c3, rfl, hb, ho⟩; replace HD := Lib.hid (HD.out.below hb); replace HS2 := Lib.hid (HS2.out.below hb); have HS3 := Lib.hid ho; clear hb ho)
    try go_wp2_with fail
    refine hK.out _ _ (⟨(st_cells HD.out.one).1, (st_cells HD.out.one).2.1, (st_cells HD.out.one).2.2⟩) (fun hHeld => ?_)
    clear hK K
    try simp only [Act.put, List.setIfInBounds_toArray, List.set_cons_zero, List.set_cons_succ]
    refine wpAnyH_ready (rs := [7]) (by kernel_rfl) (by simp) (AllReadyH.cons (o := _) rfl (fun K hK => ?_) AllReadyH.nil)
    go_simp
    (go_at_call 40; (with_reducible refine (HCR.out _ _ HD.out.blw HS3.out).mono ?_); rintro x w4 ⟨p4, n4, c4, rfl, hb, ho⟩; replace HD := Lib.hid (HD.out.below hb); replace HS2 := Lib.hid (HS2.out.below hb); have HS4 := Lib.hid ho; clear hb ho)
    try go_wp2_with fail
    refine hK.out _ _ (⟨(st_cells HD.out.one).1, (st_cells HD.out.one).2.1, (st_cells HD.out.one).2.2⟩) (fun hHeld => ?_)
    clear hK K
    try simp only [Act.put, List.setIfInBounds_toArray, List.set_cons_zero, List.set_cons_succ]
    refine wpAnyH_ready (rs := [8]) (by kernel_rfl) (by simp) (AllReadyH.cons (o := _) rfl (fun K hK => ?_) AllReadyH.nil)
    go_simp
    (go_at_call 39; refine (fexcept_any _ _ _ _ _ _ _).mono ?_; rintro x w5 ⟨rfl, hb⟩; replace HD := Lib.hid (HD.out.below hb); replace HS2 := Lib.hid (HS2.out.below hb); replace HS4 := Lib.hid (HS4.out.below hb); clear hb)
    try go_wp2_with fail
    refine hK.out _ _ (⟨(st_cells HD.out.one).1, (st_cells HD.out.one).2.1, (st_cells HD.out.one).2.2⟩) (fun hHeld => ?_)
    clear hK K
    try simp only [Act.put, List.setIfInBounds_toArray, List.set_cons_zero, List.set_cons_succ]
    have hf := HD.out.free 3 (Nat.le_refl _)
    have hfk2 := hfk true p2 p4 n2 c2 n4 c4
    refine wpAnyH_ready (rs := [9]) (by kernel_rfl) (by simp) (AllReadyH.cons (o := _) rfl (fun K hK => ?_) AllReadyH.nil)
    go_simp
    refine hK.out _ _ (⟨by rw [ObjAt.cell (aggW_other HD.out.one _ (by omega))]; rfl, by rw [ObjAt.cell (aggW_other HD.out.one _ (by omega))]; rfl, by rw [ObjAt.cell (aggW_other HD.out.one _ (by omega))]; rfl⟩) (fun hHeld => ?_)
    clear hK K
    try simp only [Act.put, List.setIfInBounds_toArray, List.set_cons_zero, List.set_cons_succ]
    have HK := Lib.hid (HD.out.done (stC true (.slice p2 n2 c2) (.slice p4 n4 c4)) rfl)
    replace HS2 := Lib.hid (HS2.out.off HD.out.two (by decide) (aggW_grown _ _ (stC true (.slice p2 n2 c2) (.slice p4 n4 c4))))
    replace HS4 := Lib.hid (HS4.out.off HD.out.two (by decide) (aggW_grown _ _ (stC true (.slice p2 n2 c2) (.slice p4 n4 c4))))
    refine wpAnyH_done (by kernel_rfl) ?_ _
    clear hHeld
    go_wp2
    exact bodyPost_ret (results_cell Try.results15 rfl (ld_some HK.out.1 (ldr_sta _ _ _))) rfl ⟨_, _, rfl, HK.out.2, StT.gs HS2.out HS4.out⟩
theorem fapply_in (s : ST) (hs : s.Good) (K : Int) (hK : K = 1 ∨ K = 5 ∨ K = 3 ∨ K = 6 ∨ K = 2 ∨ K = 4) (he : s.ex = false) (b : List AD) (hb : SetA b) (va vb : Value) (w : World) (h : GSl w va s.on) (k : GSl w vb b) (la : s.on.length ≤ 200) (lb : b.length ≤ 200) : GivesP 32 #[va, vb, .int .i64 K] w (stepT s K b) := by
  unfold stepT
  rw [if_pos he]
  obtain rfl | rfl | rfl | rfl | rfl | rfl := hK
  · exact fin_d 1 (Or.inl rfl) s.on b va vb w h k hs.on hb la lb
  · exact fin_d 5 (Or.inr rfl) s.on b va vb w h k hs.on hb la lb
  · exact fin_3 s.on b va vb w h k hs.on hb la lb
  · exact fin_6 s.on b va vb w h k hs.on hb la lb
  · exact fin_2 s.on b va vb w h k hs.on hb la lb
  · exact fin_4 s.on b va vb w h k hs.on hb la lb
theorem fapply_ex (s : ST) (hs : s.Good) (K : Int) (hK : K = 1 ∨ K = 5 ∨ K = 3 ∨ K = 6 ∨ K = 2 ∨ K = 4) (he : s.ex = true) (b : List AD) (hb : SetA b) (va vy vb : Value) (w : World) (h : GSl w va s.on) (g : GSl w vy s.off) (k : GSl w vb b) (la : s.on.length ≤ 200) (ly : s.off.length ≤ 200) (lb : b.length ≤ 200) : GivesP 31 #[va, vy, vb, .int .i64 K] w (stepT s K b) := by
  unfold stepT
  rw [if_neg (by rw [he]; decide)]
  obtain rfl | rfl | rfl | rfl | rfl | rfl := hK
  · exact fex_d 1 (Or.inl rfl) s.on s.off b va vy vb w h g k hs.on hs.off hb la ly lb
  · exact fex_d 5 (Or.inr rfl) s.on s.off b va vy vb w h g k hs.on hs.off hb la ly lb
  · exact fex_3 s.on s.off b va vy vb w h g k hs.on hs.off hb la ly lb
  · exact fex_6 s.on s.off b va vy vb w h g k hs.on hs.off hb la ly lb
  · exact fex_2 s.on s.off b va vy vb w h g k hs.on hs.off hb la ly lb
  · exact fex_4 s.on s.off b va vy vb w h g k hs.on hs.off hb la ly lb
theorem stepT_out (s : ST) (K : Int) (b : List AD) (h : K < 1 ∨ 6 < K) : stepT s K b = ⟨s, [], [], false, [], false⟩ := by
  have n : ¬ (K = 1 ∨ K = 5) ∧ ¬ K = 3 ∧ ¬ K = 6 ∧ ¬ K = 2 ∧ ¬ K = 4 := by omega
  unfold stepT
  simp only [n.1, n.2.1, n.2.2.1, n.2.2.2.1, n.2.2.2.2, if_false]
  split <;> rfl
theorem bld_q15 (e : Bool) (p q : Option Addr) (n c m d : Nat) (w : World) : (aggBuild 28 #[(0, .agg (stC e (.slice p n c) (.slice q m d)).toArray)]).run Try.prog w = .ok (.agg (spC e (usF (.slice p n c) (.slice q m d) (.slice none 0 0) (.slice none 0 0) (.slice none 0 0)) false false).toArray) w := bld_run _ _ _ (by kernel_rfl) _
theorem SpT.offs {W W' : World} {us : Nat → Value} {P : SP} {m : Nat} {L : Array Value} {T : TypeId} (h : SpT W us P) (hm : ObjAt W m L T) (hT : T ≠ 37) (hg : W.grownBy W' (some m)) : SpT W' us P := h.off' hm hT hg
set_option maxRecDepth 100000 in
set_option maxHeartbeats 2000000 in
theorem fapply_any (s : ST) (hs : s.Good) (K : Int) (a y vl : Value) (l : List AD) (w : World) (h : StT w a y s) (hl : AdsT w vl l) (la : s.on.length ≤ 100) (ly : s.off.length ≤ 100) (lb : l.length ≤ 100) : Calls Try.prog 9 #[.agg (stC s.ex a y).toArray, .int .i64 K, vl] w fun x w' => ∃ us, x = .returned (.agg (spC (stepR s K (ofA l)).st.ex us (stepR s K (ofA l)).grp (stepR s K (ofA l)).all).toArray) ∧ Below w.heap.size w w' ∧ SpT w' us (stepR s K (ofA l)) := by
  rw [← stepT_eq hs (SetA.of l) K]
  have hlo := ofA_length l
  have HCO := Lib.hid (fun W (hb : Below w.heap.size w W) => gOf (hl.1.below hb) (Nat.le_trans lb (by omega)))
  have H0 : Hid (Bx w ((w.alloc (.cells (stC s.ex a y).toArray 24)).alloc (.cells #[.bool false, .slice none 0 0, .slice none 0 0, .slice none 0 0, .slice none 0 0, .bool false, .slice none 0 0, .bool false] 28)) (stC s.ex a y).toArray 24 (spC false nilF false false).toArray 28) := Lib.hid (Bx.made w _ _ _ _)
  have hfk : ∀ e us g al, (∀ v ∈ spC e us g al, v.oneCell' = true) → fok (spC e us g al).toArray 8 = true := fun e us g al h => fok_of rfl h
  by_cases hK : K < 1 ∨ 6 < K
  · rw [stepT_out s K _ hK]
    have HCC : Hid (∀ W, Below w.heap.size w W → Calls Try.prog 30 #[.agg (stC s.ex a y).toArray] W fun x w' => ∃ p n c q m d, x = .returned (.agg (stC s.ex (.slice p n c) (.slice q m d)).toArray) ∧ Below W.heap.size W w' ∧ GSl w' (.slice p n c) s.on ∧ GSl w' (.slice q m d) s.off) := Lib.hid fun W hb => fcopied_any s a y W (h.below hb) (by omega) (by omega)
    have HD : Hid (decide (K < 1) = true ∨ (decide (K < 1) = false ∧ decide (K > 6) = true)) := Lib.hid (by
      by_cases h1 : K < 1
      · exact Or.inl (decide_eq_true h1)
      · exact Or.inr ⟨decide_eq_false h1, decide_eq_true (by omega)⟩)
    have HV : Hid (∀ W, ObjAt W w.heap.size (stC s.ex a y).toArray 24 → row? W w.heap.size 0 3 = some (stC s.ex a y)) := Lib.hid fun W hw => st_row hw
    have hbl := fun e p q n c m d w0 => bld_q15 e p q n c m d w0
    clear h hl la ly lb hlo hs hK
    generalize s.ex = e at *
    go_enter Try.func9, Try.ntmps9
    go_upto_region 1 with (fail)
    generalize (w.alloc _).alloc _ = W at H0 ⊢
    obtain hd | ⟨hd, hd2⟩ := HD.out
    all_goals (
      go_wp2_with (first
        | (go_at_call 29; (with_reducible refine (HCO.out _ H0.out.blw).mono ?_); rintro x w1 ⟨p1, n1, c1, rfl, hb, ho⟩; replace H0 := Lib.hid (H0.out.below hb); clear hb ho; have hr := HV.out _ H0.out.one)
        | (go_at_call 30; (with_reducible refine (HCC.out _ H0.out.blw).mono ?_); rintro x w1 ⟨p2, n2, c2, p3, n3, c3, rfl, hb, ho1, ho2⟩; replace H0 := Lib.hid (H0.out.below hb); have HS2 := Lib.hid ho1; have HS3 := Lib.hid ho2; clear hb ho1 ho2 hr; have hf := H0.out.free 8 (Nat.le_refl _); have hfk2 := hfk e (usF (.slice p2 n2 c2) (.slice p3 n3 c3) (.slice none 0 0) (.slice none 0 0) (.slice none 0 0)) false false (spC_one (usF_one rfl rfl rfl rfl rfl))))
      obtain ⟨q1, q2⟩ := H0.out.done (spC e (usF (.slice p2 n2 c2) (.slice p3 n3 c3) (.slice none 0 0) (.slice none 0 0) (.slice none 0 0)) false false) rfl
      have hg := fun W0 : World => aggW_grown W0 (w.heap.size + 1) (spC e (usF (.slice p2 n2 c2) (.slice p3 n3 c3) (.slice none 0 0) (.slice none 0 0) (.slice none 0 0)) false false)
      exact bodyPost_ret (results_cell Try.results9 rfl (ld_some q1 (ldr_sp _ _ _))) rfl ⟨_, rfl, q2, SpT.gs (HS2.out.off H0.out.two (by decide) (hg _)) (HS3.out.off H0.out.two (by decide) (hg _)) (GSl.nil _) (GSl.nil _) (GSl.nil _)⟩)
  · have hK6 : K = 1 ∨ K = 5 ∨ K = 3 ∨ K = 6 ∨ K = 2 ∨ K = 4 := by omega
    have d1 : decide (K < 1) = false := decide_eq_false (by omega)
    have d2 : decide (K > 6) = false := decide_eq_false (by omega)
    have HCI : Hid (s.ex = false → ∀ W u, Below w.heap.size w W → GSl W u (ofA l) → GivesP 32 #[a, u, .int .i64 K] W (stepT s K (ofA l))) := Lib.hid fun he W u hb hu => fapply_in s hs K hK6 he (ofA l) (SetA.of l) a u W (h.gon.below hb) hu (by omega) (by omega)
    have HCE : Hid (s.ex = true → ∀ W u, Below w.heap.size w W → GSl W u (ofA l) → GivesP 31 #[a, y, u, .int .i64 K] W (stepT s K (ofA l))) := Lib.hid fun he W u hb hu => fapply_ex s hs K hK6 he (ofA l) (SetA.of l) a y u W (h.gon.below hb) (h.goff.below hb) hu (by omega) (by omega) (by omega)
    clear h hl la ly lb hlo hs hK hK6
    generalize stepT s K (ofA l) = P at *
    generalize s.ex = e at *
    go_enter Try.func9, Try.ntmps9
    go_upto_region 1 with (fail)
    generalize (w.alloc _).alloc _ = W at H0 ⊢
    cases e with
    | false =>
      replace HCI := Lib.hid (HCI.out rfl)
      go_wp2_with (first
        | (go_at_call 29; (with_reducible refine (HCO.out _ H0.out.blw).mono ?_); rintro x w1 ⟨p1, n1, c1, rfl, hb, ho⟩; replace H0 := Lib.hid (H0.out.below hb); have HS1 := Lib.hid ho; clear hb ho; obtain ⟨k0, k1, k2⟩ := st_cells H0.out.one)
        | (go_at_call 32; (with_reducible refine (HCI.out _ _ H0.out.blw HS1.out).mono ?_); rintro x w1 ⟨us, rfl, hb, ho⟩; replace H0 := Lib.hid (H0.out.below hb); have HP := Lib.hid ho; clear hb ho k0 k1 k2; have hf := H0.out.free 8 (Nat.le_refl _); have hfk2 := hfk P.st.ex us P.grp P.all (HP.out.one _ _ _)))
      obtain ⟨q1, q2⟩ := H0.out.done (spC P.st.ex us P.grp P.all) rfl
      have hg := fun W0 : World => aggW_grown W0 (w.heap.size + 1) (spC P.st.ex us P.grp P.all)
      exact bodyPost_ret (results_cell Try.results9 rfl (ld_some q1 (ldr_sp _ _ _))) rfl ⟨us, rfl, q2, HP.out.offs H0.out.two (by decide) (hg _)⟩
    | true =>
      replace HCE := Lib.hid (HCE.out rfl)
      go_wp2_with (first
        | (go_at_call 29; (with_reducible refine (HCO.out _ H0.out.blw).mono ?_); rintro x w1 ⟨p1, n1, c1, rfl, hb, ho⟩; replace H0 := Lib.hid (H0.out.below hb); have HS1 := Lib.hid ho; clear hb ho; obtain ⟨k0, k1, k2⟩ := st_cells H0.out.one)
        | (go_at_call 31; (with_reducible refine (HCE.out _ _ H0.out.blw HS1.out).mono ?_); rintro x w1 ⟨us, rfl, hb, ho⟩; replace H0 := Lib.hid (H0.out.below hb); have HP := Lib.hid ho; clear hb ho k0 k1 k2; have hf := H0.out.free 8 (Nat.le_refl _); have hfk2 := hfk P.st.ex us P.grp P.all (HP.out.one _ _ _)))
      obtain ⟨q1, q2⟩ := H0.out.done (spC P.st.ex us P.grp P.all) rfl
      have hg := fun W0 : World => aggW_grown W0 (w.heap.size + 1) (spC P.st.ex us P.grp P.all)
      exact bodyPost_ret (results_cell Try.results9 rfl (ld_some q1 (ldr_sp _ _ _))) rfl ⟨us, rfl, q2, HP.out.offs H0.out.two (by decide) (hg _)⟩
end Go.Proofs.Ytokpogoblnhihaa

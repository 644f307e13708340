/-
  The walk of FilterSame.
-/
import Derived.Test.YtokpogoblnhihaaFtV
namespace Go.Proofs.Ytokpogoblnhihaa
open Go.RowKit
set_option linter.unusedVariables false
set_option linter.unusedSimpArgs false
attribute [local go_sem ↓] ld_addr st_addr bld_addr ld_sta st_sta bld_sta ld_sp st_sp bld_sp adsLit_eq
attribute [local go_sem] ldr_addr str_addr ldr_sta str_sta ldr_sp str_sp row?_drewN_eq row?_drew_eq

/-- Two states boxed, and a third one in block m. -/
structure Sm3 (w W : World) (m : Nat) (ea : Bool) (a y : Value) (eb : Bool) (b z : Value) (e : Bool) (x1 x2 : Value) : Prop where
  one : ObjAt W w.heap.size (stC ea a y).toArray 24
  two : ObjAt W (w.heap.size + 1) (stC eb b z).toArray 24
  obj : ObjAt W m (stC e x1 x2).toArray 24
  blw : Below w.heap.size w W
  lt : w.heap.size + 1 < m
theorem Sm3.below {w W W' : World} {m : Nat} {ea eb e : Bool} {a y b z x1 x2 : Value} (h : Sm3 w W m ea a y eb b z e x1 x2) (hb : Below W.heap.size W W') : Sm3 w W' m ea a y eb b z e x1 x2 := ⟨obj_keep h.one hb, obj_keep h.two hb, obj_keep h.obj hb, bstep h.blw hb, h.lt⟩
theorem Sm3.alloc {w W : World} {ea eb : Bool} {a y b z : Value} (h : Bx w W (stC ea a y).toArray 24 (stC eb b z).toArray 24) : Sm3 w (W.alloc (.cells #[.bool false, .slice none 0 0, .slice none 0 0] 24)) W.heap.size ea a y eb b z false (.slice none 0 0) (.slice none 0 0) :=
  ⟨h.one.alloc _, h.two.alloc _, ObjAt.made W _ _, bstep h.blw (bbox W _), h.two.lt⟩
theorem Sm3.put {w W : World} {m : Nat} {ea eb e e' : Bool} {a y b z x1 x2 u1 u2 : Value} (h : Sm3 w W m ea a y eb b z e x1 x2) (h1 : u1.oneCell' = true) (h2 : u2.oneCell' = true) : Sm3 w (aggW W m (stC e' u1 u2)) m ea a y eb b z e' u1 u2 := by
  have hlt := h.lt
  exact ⟨aggW_other h.one _ (by omega), aggW_other h.two _ (by omega), aggW_obj (L := stC e x1 x2) h.obj rfl (stC_one h1 h2), aggW_below h.blw (by omega) _, h.lt⟩
theorem Sm3.free {w W : World} {m : Nat} {ea eb e : Bool} {a y b z x1 x2 : Value} (h : Sm3 w W m ea a y eb b z e x1 x2) : free? W m 0 3 = true := obj_free_at h.obj 0 3 (Nat.le_refl _)
theorem Sm3.rows {w W : World} {m : Nat} {ea eb e : Bool} {a y b z x1 x2 : Value} (h : Sm3 w W m ea a y eb b z e x1 x2) : row? W w.heap.size 0 3 = some (stC ea a y) ∧ row? W (w.heap.size + 1) 0 3 = some (stC eb b z) ∧ row? W m 0 3 = some (stC e x1 x2) := ⟨st_row h.one, st_row h.two, st_row h.obj⟩
set_option maxRecDepth 100000 in
set_option maxHeartbeats 16000000 in
theorem fsames_any (s t : ST) (a y b z : Value) (w : World) (h : StA w a y s) (k : StA w b z t) : Calls Try.prog 6 #[.agg (stC s.ex a y).toArray, .agg (stC t.ex b z).toArray] w fun x w' => x = .returned (.bool true) ∧ Below w.heap.size w w' := by
  have HFa : Hid (∀ W, Below w.heap.size w W → Calls Try.prog 7 #[.agg (stC s.ex a y).toArray] W fun x w' => ∃ a' y', x = .returned (.agg (stC s.ex a' y').toArray) ∧ Below W.heap.size W w' ∧ StT w' a' y' (fewS15 s)) := Lib.hid fun W hb => lfew15_any s a y W (h.below hb)
  have HFb : Hid (∀ W, Below w.heap.size w W → Calls Try.prog 7 #[.agg (stC t.ex b z).toArray] W fun x w' => ∃ a' y', x = .returned (.agg (stC t.ex a' y').toArray) ∧ Below W.heap.size W w' ∧ StT w' a' y' (fewS15 t)) := Lib.hid fun W hb => lfew15_any t b z W (k.below hb)
  have HA1 : Hid (∀ W, Below w.heap.size w W → Calls Try.prog 8 #[a, .int .i64 6] W fun x w' => ∃ p n c, x = .returned (.slice p n c) ∧ Below W.heap.size W w' ∧ OwnL w' W.heap.size (.slice p n c) (s.on.take 6)) := Lib.hid fun W hb => (laddrs_own a s.on 6 (by omega) W (h.on.below hb)).mono fun x w' ⟨v, hx, hb2, ho⟩ => by
    obtain ⟨p, n, c, rfl⟩ := ho.shape
    exact ⟨p, n, c, hx, hb2, ho⟩
  have HA2 : Hid (∀ W, Below w.heap.size w W → Calls Try.prog 8 #[y, .int .i64 6] W fun x w' => ∃ p n c, x = .returned (.slice p n c) ∧ Below W.heap.size W w' ∧ OwnL w' W.heap.size (.slice p n c) (s.off.take 6)) := Lib.hid fun W hb => (laddrs_own y s.off 6 (by omega) W (h.off.below hb)).mono fun x w' ⟨v, hx, hb2, ho⟩ => by
    obtain ⟨p, n, c, rfl⟩ := ho.shape
    exact ⟨p, n, c, hx, hb2, ho⟩
  have HK1 : Hid (∀ x ∈ s.on.take 6, adOk x) := Lib.hid (fun x hx => h.on.ok x (List.mem_of_mem_take hx))
  have HK2 : Hid (∀ x ∈ s.off.take 6, adOk x) := Lib.hid (fun x hx => h.off.ok x (List.mem_of_mem_take hx))
  obtain ⟨X, HX⟩ : ∃ X : ST, Hid (X = ⟨s.ex, s.on.take 6, s.off.take 6⟩) := ⟨_, Lib.hid rfl⟩
  have hXl : X.on.length ≤ 6 ∧ X.off.length ≤ 6 := by rw [HX.out]; exact ⟨by simp; omega, by simp; omega⟩
  have HG1 : Hid (∀ W u v, StT W u v X → Calls Try.prog 13 #[.agg (stC s.ex u v).toArray] W fun x w' => x = .returned (.bool (gdS X)) ∧ Below W.heap.size W w') := Lib.hid fun W u v hs => by
    have := fgood_any X u v W hs.sta (by omega) (by omega)
    rwa [show X.ex = s.ex by rw [HX.out]] at this
  have HG2 : Hid (∀ W u v, StT W u v X → Calls Try.prog 26 #[.agg (stC s.ex u v).toArray] W fun x w' => x = .returned (.bool (gdS X)) ∧ Below W.heap.size W w') := Lib.hid fun W u v hs => by
    have := rgood15_any X u v W hs.sta (by omega) (by omega)
    rwa [show X.ex = s.ex by rw [HX.out]] at this
  have HST : Hid (∀ W u v, AdsT W u (s.on.take 6) → AdsT W v (s.off.take 6) → (∀ n c, u = .slice none n c → c = 0) → (∀ n c, v = .slice none n c → c = 0) → StT W u v X) := Lib.hid fun W u v h1 h2 h3 h4 => by rw [HX.out]; exact ⟨h1, h2, h3, h4⟩
  obtain ⟨F, HFE⟩ : ∃ F, Hid (F = fewS15 s) := ⟨_, Lib.hid rfl⟩
  obtain ⟨G, HGE⟩ : ∃ G, Hid (G = fewS15 t) := ⟨_, Lib.hid rfl⟩
  have eF : F.ex = s.ex := by rw [HFE.out]; rfl
  have eG : G.ex = t.ex := by rw [HGE.out]; rfl
  rw [← HFE.out] at HFa
  rw [← HGE.out] at HFb
  have HS1 : Hid (∀ W u v u' v', StT W u v F → StT W u' v' G → Calls Try.prog 27 #[.agg (stC s.ex u v).toArray, .agg (stC t.ex u' v').toArray] W fun x w' => x = .returned (.bool (decide (F = G))) ∧ Below W.heap.size W w') := Lib.hid fun W u v u' v' h1 h2 => by
    have := fsame_any F G u v u' v' W h1.sta h2.sta
    rwa [eF, eG] at this
  have HS2 : Hid (∀ W u v u' v', StT W u v F → StT W u' v' G → Calls Try.prog 17 #[.agg (stC s.ex u v).toArray, .agg (stC t.ex u' v').toArray] W fun x w' => x = .returned (.bool (decide (F = G))) ∧ Below W.heap.size W w') := Lib.hid fun W u v u' v' h1 h2 => by
    have := rsame15_any F G u v u' v' W h1.sta h2.sta
    rwa [eF, eG] at this
  have HS3 : Hid (∀ W u v u' v', StT W u v F → StT W u' v' F → Calls Try.prog 27 #[.agg (stC s.ex u v).toArray, .agg (stC s.ex u' v').toArray] W fun x w' => x = .returned (.bool true) ∧ Below W.heap.size W w') := Lib.hid fun W u v u' v' h1 h2 => by
    have := fsame_any F F u v u' v' W h1.sta h2.sta
    rw [decide_eq_true rfl] at this
    rwa [eF] at this
  have HLV := Lib.hid (fun W => lives15_any W)
  have z1 : ∀ q : Bool, (q == q) = true := fun q => by simp
  have H0 := Lib.hid (Bx.made w (stC s.ex a y).toArray 24 (stC t.ex b z).toArray 24)
  have hbu := fun e p q n c m d w0 => bld_v15 e p q n c m d w0
  have hfk : ∀ e p q n c m d, fok (stC e (.slice p n c) (.slice q m d)).toArray 3 = true := fun e p q n c m d => fok_of rfl (stC_one rfl rfl)
  clear h k eF eG hXl HX HFE HGE
  generalize decide (F = G) = fg at *
  generalize gdS X = gx at *
  generalize s.ex = ea at *
  generalize t.ex = eb at *
  go_enter Try.func6, Try.ntmps6
  go_upto_region 1 with (fail)
  generalize (w.alloc _).alloc _ = W at H0 ⊢
  refine wp_region_held_drew (S := fun W => W.cell? ⟨w.heap.size, 0, none⟩ = some (.bool ea) ∧ W.cell? ⟨w.heap.size, 1, none⟩ = some a ∧ W.cell? ⟨w.heap.size, 2, none⟩ = some y) (by kernel_rfl) (⟨(st_cells H0.out.drew1.one).1, (st_cells H0.out.drew1.one).2.1, (st_cells H0.out.drew1.one).2.2⟩) (fun hHeld => ?_)
  have HD : Hid (Bx w W.drew (stC ea a y).toArray 24 (stC eb b z).toArray 24) := Lib.hid H0.out.drew1
  generalize World.drew W = Wd at HD hHeld ⊢
  refine wpAnyH_take (i := 0) (oi := { dst := some 6, op := _, type := _, pos := _, after := _, guard := _ }) (v := ?v1) rfl (by kernel_rfl) (by kernel_rfl) (by kernel_rfl) (fun _ _ _ h => h) (Or.inl ⟨by rfl, ?y1⟩) (by assumption) ?r1
  case y1 => (intro w hSw; go_simp; try with_reducible rfl)
  try simp only [Act.put, List.setIfInBounds_toArray, List.set_cons_zero, List.set_cons_succ]
  refine wpAnyH_take (i := 1) (oi := { dst := some 7, op := _, type := _, pos := _, after := _, guard := _ }) (v := ?v2) rfl (by kernel_rfl) (by kernel_rfl) (by kernel_rfl) (fun _ _ _ h => h) (Or.inl ⟨by rfl, ?y2⟩) (by assumption) ?r2
  case y2 => (intro w hSw; go_simp; try with_reducible rfl)
  try simp only [Act.put, List.setIfInBounds_toArray, List.set_cons_zero, List.set_cons_succ]
  refine wpAnyH_take (i := 2) (oi := { dst := some 8, op := _, type := _, pos := _, after := _, guard := _ }) (v := ?v3) rfl (by kernel_rfl) (by kernel_rfl) (by kernel_rfl) (fun _ _ _ h => h) (Or.inl ⟨by rfl, ?y3⟩) (by assumption) ?r3
  case y3 => (intro w hSw; go_simp; try with_reducible rfl)
  try simp only [Act.put, List.setIfInBounds_toArray, List.set_cons_zero, List.set_cons_succ]
  refine wpAnyH_take (i := 3) (oi := { dst := some 9, op := _, type := _, pos := _, after := _, guard := _ }) (v := ?v4) rfl (by kernel_rfl) (by kernel_rfl) (by kernel_rfl) (fun _ _ _ h => h) (Or.inl ⟨by rfl, ?y4⟩) (by assumption) ?r4
  case y4 => (intro w hSw; go_simp; try with_reducible rfl)
  try simp only [Act.put, List.setIfInBounds_toArray, List.set_cons_zero, List.set_cons_succ]
  refine wpAnyH_take (i := 5) (oi := { dst := some 11, op := _, type := _, pos := _, after := _, guard := _ }) (v := ?v5) rfl (by kernel_rfl) (by kernel_rfl) (by kernel_rfl) (fun _ _ _ h => h) (Or.inl ⟨by rfl, ?y5⟩) (by assumption) ?r5
  case y5 => (intro w hSw; go_simp; try with_reducible rfl)
  try simp only [Act.put, List.setIfInBounds_toArray, List.set_cons_zero, List.set_cons_succ]
  refine wpAnyH_take (i := 6) (oi := { dst := some 12, op := _, type := _, pos := _, after := _, guard := _ }) (v := ?v6) rfl (by kernel_rfl) (by kernel_rfl) (by kernel_rfl) (fun _ _ _ h => h) (Or.inl ⟨by rfl, ?y6⟩) (by assumption) ?r6
  case y6 => (intro w hSw; go_simp; try with_reducible rfl)
  try simp only [Act.put, List.setIfInBounds_toArray, List.set_cons_zero, List.set_cons_succ]
  refine wpAnyH_ready (rs := [4, 9]) (by kernel_rfl) (by simp) (AllReadyH.cons (o := _) rfl (fun K hK => ?_) (AllReadyH.cons (o := _) rfl (fun K hK => ?_) AllReadyH.nil))
  · go_simp
    (go_at_call 8; (with_reducible refine (HA1.out _ HD.out.blw).mono ?_); rintro x wn ⟨pp, pn, pc, rfl, hb, ho⟩; replace HD := Lib.hid (HD.out.below hb); have HO1 := Lib.hid ho; clear hb ho)
    try go_wp2_with fail
    refine hK.out _ _ (⟨(st_cells HD.out.one).1, (st_cells HD.out.one).2.1, (st_cells HD.out.one).2.2⟩) (fun hHeld => ?_)
    clear hK K
    try simp only [Act.put, List.setIfInBounds_toArray, List.set_cons_zero, List.set_cons_succ]
    refine wpAnyH_ready (rs := [7, 9]) (by kernel_rfl) (by simp) (AllReadyH.cons (o := _) rfl (fun K hK => ?_) (AllReadyH.cons (o := _) rfl (fun K hK => ?_) AllReadyH.nil))
    · go_simp
      (go_at_call 8; (with_reducible refine (HA2.out _ HD.out.blw).mono ?_); rintro x wn ⟨pq, qn, qc, rfl, hb, ho⟩; replace HD := Lib.hid (HD.out.below hb); replace HO1 := Lib.hid (HO1.out.below hb); have HO2 := Lib.hid ho; clear hb ho)
      try go_wp2_with fail
      refine hK.out _ _ (⟨(st_cells HD.out.one).1, (st_cells HD.out.one).2.1, (st_cells HD.out.one).2.2⟩) (fun hHeld => ?_)
      clear hK K
      try simp only [Act.put, List.setIfInBounds_toArray, List.set_cons_zero, List.set_cons_succ]
      refine wpAnyH_take (i := 8) (oi := { dst := some 14, op := _, type := _, pos := _, after := _, guard := _ }) (v := ?v7) rfl (by kernel_rfl) (by kernel_rfl) (by kernel_rfl) (fun _ _ _ h => h) (Or.inl ⟨by rfl, ?y7⟩) (by assumption) ?r7
      case y7 => (intro w hSw; go_simp; try with_reducible rfl)
      try simp only [Act.put, List.setIfInBounds_toArray, List.set_cons_zero, List.set_cons_succ]
      refine wpAnyH_ready (rs := [9]) (by kernel_rfl) (by simp) (AllReadyH.cons (o := _) rfl (fun K hK => ?_) AllReadyH.nil)
      go_simp
      refine hK.out _ _ (⟨(st_cells (Sm3.alloc HD.out).one).1, (st_cells (Sm3.alloc HD.out).one).2.1, (st_cells (Sm3.alloc HD.out).one).2.2⟩) (fun hHeld => ?_)
      clear hK K
      try simp only [Act.put, List.setIfInBounds_toArray, List.set_cons_zero, List.set_cons_succ]
      have HM := Lib.hid (Sm3.alloc HD.out)
      replace HO1 := Lib.hid (HO1.out.below (bbox _ (.cells #[.bool false, .slice none 0 0, .slice none 0 0] 24)))
      replace HO2 := Lib.hid (HO2.out.below (bbox _ (.cells #[.bool false, .slice none 0 0, .slice none 0 0] 24)))
      rename World => Wc
      generalize World.alloc Wc _ = W3 at HM HO1 HO2 hHeld ⊢
      generalize Wc.heap.size = m at HM ⊢
      have hf := HM.out.free
      refine wpAnyH_ready (rs := [10]) (by kernel_rfl) (by simp) (AllReadyH.cons (o := _) rfl (fun K hK => ?_) AllReadyH.nil)
      go_simp
      refine hK.out _ _ (⟨(st_cells (HM.out.put (e' := ea) (u1 := (.slice pp pn pc)) (u2 := (.slice pq qn qc)) rfl rfl).one).1, (st_cells (HM.out.put (e' := ea) (u1 := (.slice pp pn pc)) (u2 := (.slice pq qn qc)) rfl rfl).one).2.1, (st_cells (HM.out.put (e' := ea) (u1 := (.slice pp pn pc)) (u2 := (.slice pq qn qc)) rfl rfl).one).2.2⟩) (fun hHeld => ?_)
      clear hK K
      try simp only [Act.put, List.setIfInBounds_toArray, List.set_cons_zero, List.set_cons_succ]
      have HQ := Lib.hid (HM.out.put (e' := ea) (u1 := (.slice pp pn pc)) (u2 := (.slice pq qn qc)) rfl rfl)
      have HT : Hid (StT _ (.slice pp pn pc) (.slice pq qn qc) X) := Lib.hid (HST.out _ _ _ (AdsT.off (HO1.out.ads HK1.out) HM.out.obj (by decide) (aggW_grown _ _ (stC ea (.slice pp pn pc) (.slice pq qn qc)))) (AdsT.off (HO2.out.ads HK2.out) HM.out.obj (by decide) (aggW_grown _ _ (stC ea (.slice pp pn pc) (.slice pq qn qc)))) HO1.out.cap HO2.out.cap)
      generalize aggW _ m _ = W5 at HQ HT hHeld ⊢
      refine wpAnyH_done (by kernel_rfl) ?_ _
      clear hHeld hbu hfk
      go_wp2_with fail
      refine wp_region_held_drew (S := fun W => row? W w.heap.size 0 3 = some (stC ea a y) ∧ row? W (w.heap.size + 1) 0 3 = some (stC eb b z) ∧ row? W m 0 3 = some (stC ea (.slice pp pn pc) (.slice pq qn qc))) (by kernel_rfl) ((HQ.out.below (W' := W5.drew) (bdrewN (Below.refl _ _) 1)).rows) (fun hHeld => ?_)
      replace HT := Lib.hid (HT.out.below (W' := W5.drew) (bdrewN (Below.refl _ _) 1))
      replace HQ : Hid (Sm3 w W5.drew m ea a y eb b z ea (.slice pp pn pc) (.slice pq qn qc)) := Lib.hid (HQ.out.below (bdrewN (Below.refl _ _) 1))
      generalize World.drew W5 = W6 at HQ HT hHeld ⊢
      refine wpAnyH_take (i := 0) (oi := { dst := some 15, op := _, type := _, pos := _, after := _, guard := _ }) (v := ?v201) rfl (by kernel_rfl) (by kernel_rfl) (by kernel_rfl) (fun _ _ _ h => h) (Or.inl ⟨by rfl, ?y201⟩) (by assumption) ?r201
      case y201 => (intro w hSw; go_simp; try with_reducible rfl)
      try simp only [Act.put, List.setIfInBounds_toArray, List.set_cons_zero, List.set_cons_succ]
      refine wpAnyH_take (i := 2) (oi := { dst := some 17, op := _, type := _, pos := _, after := _, guard := _ }) (v := ?v202) rfl (by kernel_rfl) (by kernel_rfl) (by kernel_rfl) (fun _ _ _ h => h) (Or.inl ⟨by rfl, ?y202⟩) (by assumption) ?r202
      case y202 => (intro w hSw; go_simp; try with_reducible rfl)
      try simp only [Act.put, List.setIfInBounds_toArray, List.set_cons_zero, List.set_cons_succ]
      refine wpAnyH_ready (rs := [1]) (by kernel_rfl) (by simp) (AllReadyH.cons (o := _) rfl (fun K hK => ?_) AllReadyH.nil)
      go_simp
      (go_at_call 13; (with_reducible refine (HG1.out _ _ _ HT.out).mono ?_); rintro x wn ⟨rfl, hb⟩; replace HQ := Lib.hid (HQ.out.below hb); replace HT := Lib.hid (HT.out.below hb); clear hb)
      try go_wp2_with fail
      refine hK.out _ _ (HQ.out.rows) (fun hHeld => ?_)
      clear hK K
      try simp only [Act.put, List.setIfInBounds_toArray, List.set_cons_zero, List.set_cons_succ]
      refine wpAnyH_ready (rs := [3]) (by kernel_rfl) (by simp) (AllReadyH.cons (o := _) rfl (fun K hK => ?_) AllReadyH.nil)
      go_simp
      (go_at_call 26; (with_reducible refine (HG2.out _ _ _ HT.out).mono ?_); rintro x wn ⟨rfl, hb⟩; replace HQ := Lib.hid (HQ.out.below hb); replace HT := Lib.hid (HT.out.below hb); clear hb)
      try go_wp2_with fail
      refine hK.out _ _ (HQ.out.rows) (fun hHeld => ?_)
      clear hK K
      try simp only [Act.put, List.setIfInBounds_toArray, List.set_cons_zero, List.set_cons_succ]
      clear HT
      refine wpAnyH_take (i := 4) (oi := { dst := some 19, op := _, type := _, pos := _, after := _, guard := _ }) (v := ?v203) rfl (by kernel_rfl) (by kernel_rfl) (by kernel_rfl) (fun _ _ _ h => h) (Or.inl ⟨by rfl, ?y203⟩) (by assumption) ?r203
      case y203 => (intro w hSw; go_simp; try with_reducible rfl)
      try simp only [Act.put, List.setIfInBounds_toArray, List.set_cons_zero, List.set_cons_succ]
      refine wpAnyH_take (i := 5) (oi := { dst := some 20, op := _, type := _, pos := _, after := _, guard := _ }) (v := ?v204) rfl (by kernel_rfl) (by kernel_rfl) (by kernel_rfl) (fun _ _ _ h => h) (Or.inl ⟨by rfl, ?y204⟩) (by assumption) ?r204
      case y204 => (intro w hSw; go_simp; try with_reducible rfl)
      try simp only [Act.put, List.setIfInBounds_toArray, List.set_cons_zero, List.set_cons_succ]
      refine wpAnyH_take (i := 6) (oi := { dst := some 21, op := _, type := _, pos := _, after := _, guard := _ }) (v := ?v205) rfl (by kernel_rfl) (by kernel_rfl) (by kernel_rfl) (fun _ _ _ h => h) (Or.inl ⟨by rfl, ?y205⟩) (by assumption) ?r205
      case y205 => (intro w hSw; go_simp; try with_reducible rfl)
      try simp only [Act.put, List.setIfInBounds_toArray, List.set_cons_zero, List.set_cons_succ]
      refine wpAnyH_take (i := 8) (oi := { dst := some 23, op := _, type := _, pos := _, after := _, guard := _ }) (v := ?v206) rfl (by kernel_rfl) (by kernel_rfl) (by kernel_rfl) (fun _ _ _ h => h) (Or.inl ⟨by rfl, ?y206⟩) (by assumption) ?r206
      case y206 => (intro w hSw; go_simp; try with_reducible rfl)
      try simp only [Act.put, List.setIfInBounds_toArray, List.set_cons_zero, List.set_cons_succ]
      refine wpAnyH_take (i := 11) (oi := { dst := some 26, op := _, type := _, pos := _, after := _, guard := _ }) (v := ?v207) rfl (by kernel_rfl) (by kernel_rfl) (by kernel_rfl) (fun _ _ _ h => h) (Or.inl ⟨by rfl, ?y207⟩) (by assumption) ?r207
      case y207 => (intro w hSw; go_simp; try with_reducible rfl)
      try simp only [Act.put, List.setIfInBounds_toArray, List.set_cons_zero, List.set_cons_succ]
      refine wpAnyH_take (i := 13) (oi := { dst := some 28, op := _, type := _, pos := _, after := _, guard := _ }) (v := ?v208) rfl (by kernel_rfl) (by kernel_rfl) (by kernel_rfl) (fun _ _ _ h => h) (Or.inl ⟨by rfl, ?y208⟩) (by assumption) ?r208
      case y208 => (intro w hSw; go_simp; try with_reducible rfl)
      try simp only [Act.put, List.setIfInBounds_toArray, List.set_cons_zero, List.set_cons_succ]
      refine wpAnyH_ready (rs := [7]) (by kernel_rfl) (by simp) (AllReadyH.cons (o := _) rfl (fun K hK => ?_) AllReadyH.nil)
      go_simp
      (go_at_call 7; (with_reducible refine (HFa.out _ HQ.out.blw).mono ?_); rintro x wn ⟨f1, g1, rfl, hb, ho⟩; replace HQ := Lib.hid (HQ.out.below hb); have HT1 := Lib.hid ho; clear hb ho)
      try go_wp2_with fail
      refine hK.out _ _ (HQ.out.rows) (fun hHeld => ?_)
      clear hK K
      try simp only [Act.put, List.setIfInBounds_toArray, List.set_cons_zero, List.set_cons_succ]
      refine wpAnyH_ready (rs := [9]) (by kernel_rfl) (by simp) (AllReadyH.cons (o := _) rfl (fun K hK => ?_) AllReadyH.nil)
      go_simp
      (go_at_call 7; (with_reducible refine (HFb.out _ HQ.out.blw).mono ?_); rintro x wn ⟨f2, g2, rfl, hb, ho⟩; replace HQ := Lib.hid (HQ.out.below hb); replace HT1 := Lib.hid (HT1.out.below hb); have HT2 := Lib.hid ho; clear hb ho)
      try go_wp2_with fail
      refine hK.out _ _ (HQ.out.rows) (fun hHeld => ?_)
      clear hK K
      try simp only [Act.put, List.setIfInBounds_toArray, List.set_cons_zero, List.set_cons_succ]
      refine wpAnyH_ready (rs := [10]) (by kernel_rfl) (by simp) (AllReadyH.cons (o := _) rfl (fun K hK => ?_) AllReadyH.nil)
      go_simp
      (go_at_call 27; (with_reducible refine (HS1.out _ _ _ _ _ HT1.out HT2.out).mono ?_); rintro x wn ⟨rfl, hb⟩; replace HQ := Lib.hid (HQ.out.below hb); clear hb)
      try go_wp2_with fail
      refine hK.out _ _ (HQ.out.rows) (fun hHeld => ?_)
      clear hK K
      try simp only [Act.put, List.setIfInBounds_toArray, List.set_cons_zero, List.set_cons_succ]
      clear HT1 HT2
      refine wpAnyH_ready (rs := [12]) (by kernel_rfl) (by simp) (AllReadyH.cons (o := _) rfl (fun K hK => ?_) AllReadyH.nil)
      go_simp
      (go_at_call 7; (with_reducible refine (HFa.out _ HQ.out.blw).mono ?_); rintro x wn ⟨f3, g3, rfl, hb, ho⟩; replace HQ := Lib.hid (HQ.out.below hb); have HT3 := Lib.hid ho; clear hb ho)
      try go_wp2_with fail
      refine hK.out _ _ (HQ.out.rows) (fun hHeld => ?_)
      clear hK K
      try simp only [Act.put, List.setIfInBounds_toArray, List.set_cons_zero, List.set_cons_succ]
      refine wpAnyH_ready (rs := [14]) (by kernel_rfl) (by simp) (AllReadyH.cons (o := _) rfl (fun K hK => ?_) AllReadyH.nil)
      go_simp
      (go_at_call 7; (with_reducible refine (HFb.out _ HQ.out.blw).mono ?_); rintro x wn ⟨f4, g4, rfl, hb, ho⟩; replace HQ := Lib.hid (HQ.out.below hb); replace HT3 := Lib.hid (HT3.out.below hb); have HT4 := Lib.hid ho; clear hb ho)
      try go_wp2_with fail
      refine hK.out _ _ (HQ.out.rows) (fun hHeld => ?_)
      clear hK K
      try simp only [Act.put, List.setIfInBounds_toArray, List.set_cons_zero, List.set_cons_succ]
      refine wpAnyH_ready (rs := [15]) (by kernel_rfl) (by simp) (AllReadyH.cons (o := _) rfl (fun K hK => ?_) AllReadyH.nil)
      go_simp
      (go_at_call 17; (with_reducible refine (HS2.out _ _ _ _ _ HT3.out HT4.out).mono ?_); rintro x wn ⟨rfl, hb⟩; replace HQ := Lib.hid (HQ.out.below hb); clear hb)
      try go_wp2_with fail
      refine hK.out _ _ (HQ.out.rows) (fun hHeld => ?_)
      clear hK K
      try simp only [Act.put, List.setIfInBounds_toArray, List.set_cons_zero, List.set_cons_succ]
      clear HT3 HT4
      refine wpAnyH_take (i := 16) (oi := { dst := some 31, op := _, type := _, pos := _, after := _, guard := _ }) (v := ?v209) rfl (by kernel_rfl) (by kernel_rfl) (by kernel_rfl) (fun _ _ _ h => h) (Or.inl ⟨by rfl, ?y209⟩) (by assumption) ?r209
      case y209 => (intro w hSw; go_simp; try with_reducible rfl)
      try simp only [Act.put, List.setIfInBounds_toArray, List.set_cons_zero, List.set_cons_succ]
      refine wpAnyH_take (i := 17) (oi := { dst := some 32, op := _, type := _, pos := _, after := _, guard := _ }) (v := ?v210) rfl (by kernel_rfl) (by kernel_rfl) (by kernel_rfl) (fun _ _ _ h => h) (Or.inl ⟨by rfl, ?y210⟩) (by assumption) ?r210
      case y210 => (intro w hSw; go_simp; try with_reducible rfl)
      try simp only [Act.put, List.setIfInBounds_toArray, List.set_cons_zero, List.set_cons_succ]
      refine wpAnyH_take (i := 18) (oi := { dst := some 33, op := _, type := _, pos := _, after := _, guard := _ }) (v := ?v211) rfl (by kernel_rfl) (by kernel_rfl) (by kernel_rfl) (fun _ _ _ h => h) (Or.inl ⟨by rfl, ?y211⟩) (by assumption) ?r211
      case y211 => (intro w hSw; go_simp; try with_reducible rfl)
      try simp only [Act.put, List.setIfInBounds_toArray, List.set_cons_zero, List.set_cons_succ]
      refine wpAnyH_take (i := 19) (oi := { dst := some 34, op := _, type := _, pos := _, after := _, guard := _ }) (v := ?v212) rfl (by kernel_rfl) (by kernel_rfl) (by kernel_rfl) (fun _ _ _ h => h) (Or.inl ⟨by rfl, ?y212⟩) (by assumption) ?r212
      case y212 => (intro w hSw; go_simp; try with_reducible rfl)
      try simp only [Act.put, List.setIfInBounds_toArray, List.set_cons_zero, List.set_cons_succ]
      refine wpAnyH_take (i := 21) (oi := { dst := some 36, op := _, type := _, pos := _, after := _, guard := _ }) (v := ?v213) rfl (by kernel_rfl) (by kernel_rfl) (by kernel_rfl) (fun _ _ _ h => h) (Or.inl ⟨by rfl, ?y213⟩) (by assumption) ?r213
      case y213 => (intro w hSw; go_simp; try with_reducible rfl)
      try simp only [Act.put, List.setIfInBounds_toArray, List.set_cons_zero, List.set_cons_succ]
      refine wpAnyH_ready (rs := [20]) (by kernel_rfl) (by simp) (AllReadyH.cons (o := _) rfl (fun K hK => ?_) AllReadyH.nil)
      go_simp
      (go_at_call 7; (with_reducible refine (HFa.out _ HQ.out.blw).mono ?_); rintro x wn ⟨f5, g5, rfl, hb, ho⟩; replace HQ := Lib.hid (HQ.out.below hb); have HT5 := Lib.hid ho; clear hb ho)
      try go_wp2_with fail
      refine hK.out _ _ (HQ.out.rows) (fun hHeld => ?_)
      clear hK K
      try simp only [Act.put, List.setIfInBounds_toArray, List.set_cons_zero, List.set_cons_succ]
      refine wpAnyH_ready (rs := [22]) (by kernel_rfl) (by simp) (AllReadyH.cons (o := _) rfl (fun K hK => ?_) AllReadyH.nil)
      go_simp
      (go_at_call 7; (with_reducible refine (HFa.out _ HQ.out.blw).mono ?_); rintro x wn ⟨f6, g6, rfl, hb, ho⟩; replace HQ := Lib.hid (HQ.out.below hb); replace HT5 := Lib.hid (HT5.out.below hb); have HT6 := Lib.hid ho; clear hb ho)
      try go_wp2_with fail
      refine hK.out _ _ (HQ.out.rows) (fun hHeld => ?_)
      clear hK K
      try simp only [Act.put, List.setIfInBounds_toArray, List.set_cons_zero, List.set_cons_succ]
      refine wpAnyH_ready (rs := [23]) (by kernel_rfl) (by simp) (AllReadyH.cons (o := _) rfl (fun K hK => ?_) AllReadyH.nil)
      go_simp
      (go_at_call 27; (with_reducible refine (HS3.out _ _ _ _ _ HT5.out HT6.out).mono ?_); rintro x wn ⟨rfl, hb⟩; replace HQ := Lib.hid (HQ.out.below hb); clear hb)
      try go_wp2_with fail
      refine hK.out _ _ (HQ.out.rows) (fun hHeld => ?_)
      clear hK K
      try simp only [Act.put, List.setIfInBounds_toArray, List.set_cons_zero, List.set_cons_succ]
      clear HT5 HT6
      refine wpAnyH_take (i := 24) (oi := { dst := some 39, op := _, type := _, pos := _, after := _, guard := _ }) (v := ?v214) rfl (by kernel_rfl) (by kernel_rfl) (by kernel_rfl) (fun _ _ _ h => h) (Or.inl ⟨by rfl, ?y214⟩) (by assumption) ?r214
      case y214 => (intro w hSw; go_simp; try with_reducible rfl)
      try simp only [Act.put, List.setIfInBounds_toArray, List.set_cons_zero, List.set_cons_succ]
      refine wpAnyH_take (i := 25) (oi := { dst := some 40, op := _, type := _, pos := _, after := _, guard := _ }) (v := ?v215) rfl (by kernel_rfl) (by kernel_rfl) (by kernel_rfl) (fun _ _ _ h => h) (Or.inl ⟨by rfl, ?y215⟩) (by assumption) ?r215
      case y215 => (intro w hSw; go_simp; try with_reducible rfl)
      try simp only [Act.put, List.setIfInBounds_toArray, List.set_cons_zero, List.set_cons_succ]
      refine wpAnyH_ready (rs := [26]) (by kernel_rfl) (by simp) (AllReadyH.cons (o := _) rfl (fun K hK => ?_) AllReadyH.nil)
      go_simp
      (go_at_call 14; (with_reducible refine (HLV.out _).mono ?_); rintro x wn ⟨rfl, hb⟩; replace HQ := Lib.hid (HQ.out.below hb); clear hb)
      try go_wp2_with fail
      refine hK.out _ _ (HQ.out.rows) (fun hHeld => ?_)
      clear hK K
      try simp only [Act.put, List.setIfInBounds_toArray, List.set_cons_zero, List.set_cons_succ]
      refine wpAnyH_take (i := 27) (oi := { dst := some 42, op := _, type := _, pos := _, after := _, guard := _ }) (v := ?v216) rfl (by kernel_rfl) (by kernel_rfl) (by kernel_rfl) (fun _ _ _ h => h) (Or.inl ⟨by rfl, ?y216⟩) (by assumption) ?r216
      case y216 => (intro w hSw; go_simp; try with_reducible rfl)
      try simp only [Act.put, List.setIfInBounds_toArray, List.set_cons_zero, List.set_cons_succ]
      refine wpAnyH_take (i := 28) (oi := { dst := some 4, op := _, type := _, pos := _, after := _, guard := _ }) (v := ?v217) rfl (by kernel_rfl) (by kernel_rfl) (by kernel_rfl) (fun _ _ _ h => h) (Or.inl ⟨by rfl, ?y217⟩) (by assumption) ?r217
      case y217 => (intro w hSw; go_simp; try with_reducible rfl)
      try simp only [Act.put, List.setIfInBounds_toArray, List.set_cons_zero, List.set_cons_succ]
      refine wpAnyH_done (by kernel_rfl) ?_ _
      clear hHeld
      go_wp2
      go_ret
      exact ⟨rfl, HQ.out.blw⟩
    · go_simp
      refine hK.out _ _ (⟨(st_cells (Sm3.alloc HD.out).one).1, (st_cells (Sm3.alloc HD.out).one).2.1, (st_cells (Sm3.alloc HD.out).one).2.2⟩) (fun hHeld => ?_)
      clear hK K
      try simp only [Act.put, List.setIfInBounds_toArray, List.set_cons_zero, List.set_cons_succ]
      have HM := Lib.hid (Sm3.alloc HD.out)
      replace HO1 := Lib.hid (HO1.out.below (bbox _ (.cells #[.bool false, .slice none 0 0, .slice none 0 0] 24)))
      rename World => Wc
      generalize World.alloc Wc _ = W3 at HM HO1 hHeld ⊢
      generalize Wc.heap.size = m at HM ⊢
      refine wpAnyH_ready (rs := [7]) (by kernel_rfl) (by simp) (AllReadyH.cons (o := _) rfl (fun K hK => ?_) AllReadyH.nil)
      go_simp
      (go_at_call 8; (with_reducible refine (HA2.out _ HM.out.blw).mono ?_); rintro x wn ⟨pq, qn, qc, rfl, hb, ho⟩; replace HM := Lib.hid (HM.out.below hb); replace HO1 := Lib.hid (HO1.out.below hb); have HO2 := Lib.hid ho; clear hb ho)
      try go_wp2_with fail
      refine hK.out _ _ (⟨(st_cells HM.out.one).1, (st_cells HM.out.one).2.1, (st_cells HM.out.one).2.2⟩) (fun hHeld => ?_)
      clear hK K
      try simp only [Act.put, List.setIfInBounds_toArray, List.set_cons_zero, List.set_cons_succ]
      have hf := HM.out.free
      refine wpAnyH_take (i := 8) (oi := { dst := some 14, op := _, type := _, pos := _, after := _, guard := _ }) (v := ?v8) rfl (by kernel_rfl) (by kernel_rfl) (by kernel_rfl) (fun _ _ _ h => h) (Or.inl ⟨by rfl, ?y8⟩) (by assumption) ?r8
      case y8 => (intro w hSw; go_simp; try with_reducible rfl)
      try simp only [Act.put, List.setIfInBounds_toArray, List.set_cons_zero, List.set_cons_succ]
      refine wpAnyH_ready (rs := [10]) (by kernel_rfl) (by simp) (AllReadyH.cons (o := _) rfl (fun K hK => ?_) AllReadyH.nil)
      go_simp
      refine hK.out _ _ (⟨(st_cells (HM.out.put (e' := ea) (u1 := (.slice pp pn pc)) (u2 := (.slice pq qn qc)) rfl rfl).one).1, (st_cells (HM.out.put (e' := ea) (u1 := (.slice pp pn pc)) (u2 := (.slice pq qn qc)) rfl rfl).one).2.1, (st_cells (HM.out.put (e' := ea) (u1 := (.slice pp pn pc)) (u2 := (.slice pq qn qc)) rfl rfl).one).2.2⟩) (fun hHeld => ?_)
      clear hK K
      try simp only [Act.put, List.setIfInBounds_toArray, List.set_cons_zero, List.set_cons_succ]
      have HQ := Lib.hid (HM.out.put (e' := ea) (u1 := (.slice pp pn pc)) (u2 := (.slice pq qn qc)) rfl rfl)
      have HT : Hid (StT _ (.slice pp pn pc) (.slice pq qn qc) X) := Lib.hid (HST.out _ _ _ (AdsT.off (HO1.out.ads HK1.out) HM.out.obj (by decide) (aggW_grown _ _ (stC ea (.slice pp pn pc) (.slice pq qn qc)))) (AdsT.off (HO2.out.ads HK2.out) HM.out.obj (by decide) (aggW_grown _ _ (stC ea (.slice pp pn pc) (.slice pq qn qc)))) HO1.out.cap HO2.out.cap)
      generalize aggW _ m _ = W5 at HQ HT hHeld ⊢
      refine wpAnyH_done (by kernel_rfl) ?_ _
      clear hHeld hbu hfk
      go_wp2_with fail
      refine wp_region_held_drew (S := fun W => row? W w.heap.size 0 3 = some (stC ea a y) ∧ row? W (w.heap.size + 1) 0 3 = some (stC eb b z) ∧ row? W m 0 3 = some (stC ea (.slice pp pn pc) (.slice pq qn qc))) (by kernel_rfl) ((HQ.out.below (W' := W5.drew) (bdrewN (Below.refl _ _) 1)).rows) (fun hHeld => ?_)
      replace HT := Lib.hid (HT.out.below (W' := W5.drew) (bdrewN (Below.refl _ _) 1))
      replace HQ : Hid (Sm3 w W5.drew m ea a y eb b z ea (.slice pp pn pc) (.slice pq qn qc)) := Lib.hid (HQ.out.below (bdrewN (Below.refl _ _) 1))
      generalize World.drew W5 = W6 at HQ HT hHeld ⊢
      refine wpAnyH_take (i := 0) (oi := { dst := some 15, op := _, type := _, pos := _, after := _, guard := _ }) (v := ?v301) rfl (by kernel_rfl) (by kernel_rfl) (by kernel_rfl) (fun _ _ _ h => h) (Or.inl ⟨by rfl, ?y301⟩) (by assumption) ?r301
      case y301 => (intro w hSw; go_simp; try with_reducible rfl)
      try simp only [Act.put, List.setIfInBounds_toArray, List.set_cons_zero, List.set_cons_succ]
      refine wpAnyH_take (i := 2) (oi := { dst := some 17, op := _, type := _, pos := _, after := _, guard := _ }) (v := ?v302) rfl (by kernel_rfl) (by kernel_rfl) (by kernel_rfl) (fun _ _ _ h => h) (Or.inl ⟨by rfl, ?y302⟩) (by assumption) ?r302
      case y302 => (intro w hSw; go_simp; try with_reducible rfl)
      try simp only [Act.put, List.setIfInBounds_toArray, List.set_cons_zero, List.set_cons_succ]
      refine wpAnyH_ready (rs := [1]) (by kernel_rfl) (by simp) (AllReadyH.cons (o := _) rfl (fun K hK => ?_) AllReadyH.nil)
      go_simp
      (go_at_call 13; (with_reducible refine (HG1.out _ _ _ HT.out).mono ?_); rintro x wn ⟨rfl, hb⟩; replace HQ := Lib.hid (HQ.out.below hb); replace HT := Lib.hid (HT.out.below hb); clear hb)
      try go_wp2_with fail
      refine hK.out _ _ (HQ.out.rows) (fun hHeld => ?_)
      clear hK K
      try simp only [Act.put, List.setIfInBounds_toArray, List.set_cons_zero, List.set_cons_succ]
      refine wpAnyH_ready (rs := [3]) (by kernel_rfl) (by simp) (AllReadyH.cons (o := _) rfl (fun K hK => ?_) AllReadyH.nil)
      go_simp
      (go_at_call 26; (with_reducible refine (HG2.out _ _ _ HT.out).mono ?_); rintro x wn ⟨rfl, hb⟩; replace HQ := Lib.hid (HQ.out.below hb); replace HT := Lib.hid (HT.out.below hb); clear hb)
      try go_wp2_with fail
      refine hK.out _ _ (HQ.out.rows) (fun hHeld => ?_)
      clear hK K
      try simp only [Act.put, List.setIfInBounds_toArray, List.set_cons_zero, List.set_cons_succ]
      clear HT
      refine wpAnyH_take (i := 4) (oi := { dst := some 19, op := _, type := _, pos := _, after := _, guard := _ }) (v := ?v303) rfl (by kernel_rfl) (by kernel_rfl) (by kernel_rfl) (fun _ _ _ h => h) (Or.inl ⟨by rfl, ?y303⟩) (by assumption) ?r303
      case y303 => (intro w hSw; go_simp; try with_reducible rfl)
      try simp only [Act.put, List.setIfInBounds_toArray, List.set_cons_zero, List.set_cons_succ]
      refine wpAnyH_take (i := 5) (oi := { dst := some 20, op := _, type := _, pos := _, after := _, guard := _ }) (v := ?v304) rfl (by kernel_rfl) (by kernel_rfl) (by kernel_rfl) (fun _ _ _ h => h) (Or.inl ⟨by rfl, ?y304⟩) (by assumption) ?r304
      case y304 => (intro w hSw; go_simp; try with_reducible rfl)
      try simp only [Act.put, List.setIfInBounds_toArray, List.set_cons_zero, List.set_cons_succ]
      refine wpAnyH_take (i := 6) (oi := { dst := some 21, op := _, type := _, pos := _, after := _, guard := _ }) (v := ?v305) rfl (by kernel_rfl) (by kernel_rfl) (by kernel_rfl) (fun _ _ _ h => h) (Or.inl ⟨by rfl, ?y305⟩) (by assumption) ?r305
      case y305 => (intro w hSw; go_simp; try with_reducible rfl)
      try simp only [Act.put, List.setIfInBounds_toArray, List.set_cons_zero, List.set_cons_succ]
      refine wpAnyH_take (i := 8) (oi := { dst := some 23, op := _, type := _, pos := _, after := _, guard := _ }) (v := ?v306) rfl (by kernel_rfl) (by kernel_rfl) (by kernel_rfl) (fun _ _ _ h => h) (Or.inl ⟨by rfl, ?y306⟩) (by assumption) ?r306
      case y306 => (intro w hSw; go_simp; try with_reducible rfl)
      try simp only [Act.put, List.setIfInBounds_toArray, List.set_cons_zero, List.set_cons_succ]
      refine wpAnyH_take (i := 11) (oi := { dst := some 26, op := _, type := _, pos := _, after := _, guard := _ }) (v := ?v307) rfl (by kernel_rfl) (by kernel_rfl) (by kernel_rfl) (fun _ _ _ h => h) (Or.inl ⟨by rfl, ?y307⟩) (by assumption) ?r307
      case y307 => (intro w hSw; go_simp; try with_reducible rfl)
      try simp only [Act.put, List.setIfInBounds_toArray, List.set_cons_zero, List.set_cons_succ]
      refine wpAnyH_take (i := 13) (oi := { dst := some 28, op := _, type := _, pos := _, after := _, guard := _ }) (v := ?v308) rfl (by kernel_rfl) (by kernel_rfl) (by kernel_rfl) (fun _ _ _ h => h) (Or.inl ⟨by rfl, ?y308⟩) (by assumption) ?r308
      case y308 => (intro w hSw; go_simp; try with_reducible rfl)
      try simp only [Act.put, List.setIfInBounds_toArray, List.set_cons_zero, List.set_cons_succ]
      refine wpAnyH_ready (rs := [7]) (by kernel_rfl) (by simp) (AllReadyH.cons (o := _) rfl (fun K hK => ?_) AllReadyH.nil)
      go_simp
      (go_at_call 7; (with_reducible refine (HFa.out _ HQ.out.blw).mono ?_); rintro x wn ⟨f1, g1, rfl, hb, ho⟩; replace HQ := Lib.hid (HQ.out.below hb); have HT1 := Lib.hid ho; clear hb ho)
      try go_wp2_with fail
      refine hK.out _ _ (HQ.out.rows) (fun hHeld => ?_)
      clear hK K
      try simp only [Act.put, List.setIfInBounds_toArray, List.set_cons_zero, List.set_cons_succ]
      refine wpAnyH_ready (rs := [9]) (by kernel_rfl) (by simp) (AllReadyH.cons (o := _) rfl (fun K hK => ?_) AllReadyH.nil)
      go_simp
      (go_at_call 7; (with_reducible refine (HFb.out _ HQ.out.blw).mono ?_); rintro x wn ⟨f2, g2, rfl, hb, ho⟩; replace HQ := Lib.hid (HQ.out.below hb); replace HT1 := Lib.hid (HT1.out.below hb); have HT2 := Lib.hid ho; clear hb ho)
      try go_wp2_with fail
      refine hK.out _ _ (HQ.out.rows) (fun hHeld => ?_)
      clear hK K
      try simp only [Act.put, List.setIfInBounds_toArray, List.set_cons_zero, List.set_cons_succ]
      refine wpAnyH_ready (rs := [10]) (by kernel_rfl) (by simp) (AllReadyH.cons (o := _) rfl (fun K hK => ?_) AllReadyH.nil)
      go_simp
      (go_at_call 27; (with_reducible refine (HS1.out _ _ _ _ _ HT1.out HT2.out).mono ?_); rintro x wn ⟨rfl, hb⟩; replace HQ := Lib.hid (HQ.out.below hb); clear hb)
      try go_wp2_with fail
      refine hK.out _ _ (HQ.out.rows) (fun hHeld => ?_)
      clear hK K
      try simp only [Act.put, List.setIfInBounds_toArray, List.set_cons_zero, List.set_cons_succ]
      clear HT1 HT2
      refine wpAnyH_ready (rs := [12]) (by kernel_rfl) (by simp) (AllReadyH.cons (o := _) rfl (fun K hK => ?_) AllReadyH.nil)
      go_simp
      (go_at_call 7; (with_reducible refine (HFa.out _ HQ.out.blw).mono ?_); rintro x wn ⟨f3, g3, rfl, hb, ho⟩; replace HQ := Lib.hid (HQ.out.below hb); have HT3 := Lib.hid ho; clear hb ho)
      try go_wp2_with fail
      refine hK.out _ _ (HQ.out.rows) (fun hHeld => ?_)
      clear hK K
      try simp only [Act.put, List.setIfInBounds_toArray, List.set_cons_zero, List.set_cons_succ]
      refine wpAnyH_ready (rs := [14]) (by kernel_rfl) (by simp) (AllReadyH.cons (o := _) rfl (fun K hK => ?_) AllReadyH.nil)
      go_simp
      (go_at_call 7; (with_reducible refine (HFb.out _ HQ.out.blw).mono ?_); rintro x wn ⟨f4, g4, rfl, hb, ho⟩; replace HQ := Lib.hid (HQ.out.below hb); replace HT3 := Lib.hid (HT3.out.below hb); have HT4 := Lib.hid ho; clear hb ho)
      try go_wp2_with fail
      refine hK.out _ _ (HQ.out.rows) (fun hHeld => ?_)
      clear hK K
      try simp only [Act.put, List.setIfInBounds_toArray, List.set_cons_zero, List.set_cons_succ]
      refine wpAnyH_ready (rs := [15]) (by kernel_rfl) (by simp) (AllReadyH.cons (o := _) rfl (fun K hK => ?_) AllReadyH.nil)
      go_simp
      (go_at_call 17; (with_reducible refine (HS2.out _ _ _ _ _ HT3.out HT4.out).mono ?_); rintro x wn ⟨rfl, hb⟩; replace HQ := Lib.hid (HQ.out.below hb); clear hb)
      try go_wp2_with fail
      refine hK.out _ _ (HQ.out.rows) (fun hHeld => ?_)
      clear hK K
      try simp only [Act.put, List.setIfInBounds_toArray, List.set_cons_zero, List.set_cons_succ]
      clear HT3 HT4
      refine wpAnyH_take (i := 16) (oi := { dst := some 31, op := _, type := _, pos := _, after := _, guard := _ }) (v := ?v309) rfl (by kernel_rfl) (by kernel_rfl) (by kernel_rfl) (fun _ _ _ h => h) (Or.inl ⟨by rfl, ?y309⟩) (by assumption) ?r309
      case y309 => (intro w hSw; go_simp; try with_reducible rfl)
      try simp only [Act.put, List.setIfInBounds_toArray, List.set_cons_zero, List.set_cons_succ]
      refine wpAnyH_take (i := 17) (oi := { dst := some 32, op := _, type := _, pos := _, after := _, guard := _ }) (v := ?v310) rfl (by kernel_rfl) (by kernel_rfl) (by kernel_rfl) (fun _ _ _ h => h) (Or.inl ⟨by rfl, ?y310⟩) (by assumption) ?r310
      case y310 => (intro w hSw; go_simp; try with_reducible rfl)
      try simp only [Act.put, List.setIfInBounds_toArray, List.set_cons_zero, List.set_cons_succ]
      refine wpAnyH_take (i := 18) (oi := { dst := some 33, op := _, type := _, pos := _, after := _, guard := _ }) (v := ?v311) rfl (by kernel_rfl) (by kernel_rfl) (by kernel_rfl) (fun _ _ _ h => h) (Or.inl ⟨by rfl, ?y311⟩) (by assumption) ?r311
      case y311 => (intro w hSw; go_simp; try with_reducible rfl)
      try simp only [Act.put, List.setIfInBounds_toArray, List.set_cons_zero, List.set_cons_succ]
      refine wpAnyH_take (i := 19) (oi := { dst := some 34, op := _, type := _, pos := _, after := _, guard := _ }) (v := ?v312) rfl (by kernel_rfl) (by kernel_rfl) (by kernel_rfl) (fun _ _ _ h => h) (Or.inl ⟨by rfl, ?y312⟩) (by assumption) ?r312
      case y312 => (intro w hSw; go_simp; try with_reducible rfl)
      try simp only [Act.put, List.setIfInBounds_toArray, List.set_cons_zero, List.set_cons_succ]
      refine wpAnyH_take (i := 21) (oi := { dst := some 36, op := _, type := _, pos := _, after := _, guard := _ }) (v := ?v313) rfl (by kernel_rfl) (by kernel_rfl) (by kernel_rfl) (fun _ _ _ h => h) (Or.inl ⟨by rfl, ?y313⟩) (by assumption) ?r313
      case y313 => (intro w hSw; go_simp; try with_reducible rfl)
      try simp only [Act.put, List.setIfInBounds_toArray, List.set_cons_zero, List.set_cons_succ]
      refine wpAnyH_ready (rs := [20]) (by kernel_rfl) (by simp) (AllReadyH.cons (o := _) rfl (fun K hK => ?_) AllReadyH.nil)
      go_simp
      (go_at_call 7; (with_reducible refine (HFa.out _ HQ.out.blw).mono ?_); rintro x wn ⟨f5, g5, rfl, hb, ho⟩; replace HQ := Lib.hid (HQ.out.below hb); have HT5 := Lib.hid ho; clear hb ho)
      try go_wp2_with fail
      refine hK.out _ _ (HQ.out.rows) (fun hHeld => ?_)
      clear hK K
      try simp only [Act.put, List.setIfInBounds_toArray, List.set_cons_zero, List.set_cons_succ]
      refine wpAnyH_ready (rs := [22]) (by kernel_rfl) (by simp) (AllReadyH.cons (o := _) rfl (fun K hK => ?_) AllReadyH.nil)
      go_simp
      (go_at_call 7; (with_reducible refine (HFa.out _ HQ.out.blw).mono ?_); rintro x wn ⟨f6, g6, rfl, hb, ho⟩; replace HQ := Lib.hid (HQ.out.below hb); replace HT5 := Lib.hid (HT5.out.below hb); have HT6 := Lib.hid ho; clear hb ho)
      try go_wp2_with fail
      refine hK.out _ _ (HQ.out.rows) (fun hHeld => ?_)
      clear hK K
      try simp only [Act.put, List.setIfInBounds_toArray, List.set_cons_zero, List.set_cons_succ]
      refine wpAnyH_ready (rs := [23]) (by kernel_rfl) (by simp) (AllReadyH.cons (o := _) rfl (fun K hK => ?_) AllReadyH.nil)
      go_simp
      (go_at_call 27; (with_reducible refine (HS3.out _ _ _ _ _ HT5.out HT6.out).mono ?_); rintro x wn ⟨rfl, hb⟩; replace HQ := Lib.hid (HQ.out.below hb); clear hb)
      try go_wp2_with fail
      refine hK.out _ _ (HQ.out.rows) (fun hHeld => ?_)
      clear hK K
      try simp only [Act.put, List.setIfInBounds_toArray, List.set_cons_zero, List.set_cons_succ]
      clear HT5 HT6
      refine wpAnyH_take (i := 24) (oi := { dst := some 39, op := _, type := _, pos := _, after := _, guard := _ }) (v := ?v314) rfl (by kernel_rfl) (by kernel_rfl) (by kernel_rfl) (fun _ _ _ h => h) (Or.inl ⟨by rfl, ?y314⟩) (by assumption) ?r314
      case y314 => (intro w hSw; go_simp; try with_reducible rfl)
      try simp only [Act.put, List.setIfInBounds_toArray, List.set_cons_zero, List.set_cons_succ]
      refine wpAnyH_take (i := 25) (oi := { dst := some 40, op := _, type := _, pos := _, after := _, guard := _ }) (v := ?v315) rfl (by kernel_rfl) (by kernel_rfl) (by kernel_rfl) (fun _ _ _ h => h) (Or.inl ⟨by rfl, ?y315⟩) (by assumption) ?r315
      case y315 => (intro w hSw; go_simp; try with_reducible rfl)
      try simp only [Act.put, List.setIfInBounds_toArray, List.set_cons_zero, List.set_cons_succ]
      refine wpAnyH_ready (rs := [26]) (by kernel_rfl) (by simp) (AllReadyH.cons (o := _) rfl (fun K hK => ?_) AllReadyH.nil)
      go_simp
      (go_at_call 14; (with_reducible refine (HLV.out _).mono ?_); rintro x wn ⟨rfl, hb⟩; replace HQ := Lib.hid (HQ.out.below hb); clear hb)
      try go_wp2_with fail
      refine hK.out _ _ (HQ.out.rows) (fun hHeld => ?_)
      clear hK K
      try simp only [Act.put, List.setIfInBounds_toArray, List.set_cons_zero, List.set_cons_succ]
      refine wpAnyH_take (i := 27) (oi := { dst := some 42, op := _, type := _, pos := _, after := _, guard := _ }) (v := ?v316) rfl (by kernel_rfl) (by kernel_rfl) (by kernel_rfl) (fun _ _ _ h => h) (Or.inl ⟨by rfl, ?y316⟩) (by assumption) ?r316
      case y316 => (intro w hSw; go_simp; try with_reducible rfl)
      try simp only [Act.put, List.setIfInBounds_toArray, List.set_cons_zero, List.set_cons_succ]
      refine wpAnyH_take (i := 28) (oi := { dst := some 4, op := _, type := _, pos := _, after := _, guard := _ }) (v := ?v317) rfl (by kernel_rfl) (by kernel_rfl) (by kernel_rfl) (fun _ _ _ h => h) (Or.inl ⟨by rfl, ?y317⟩) (by assumption) ?r317
      case y317 => (intro w hSw; go_simp; try with_reducible rfl)
      try simp only [Act.put, List.setIfInBounds_toArray, List.set_cons_zero, List.set_cons_succ]
      refine wpAnyH_done (by kernel_rfl) ?_ _
      clear hHeld
      go_wp2
      go_ret
      exact ⟨rfl, HQ.out.blw⟩
  · go_simp
    refine hK.out _ _ (⟨(st_cells (Sm3.alloc HD.out).one).1, (st_cells (Sm3.alloc HD.out).one).2.1, (st_cells (Sm3.alloc HD.out).one).2.2⟩) (fun hHeld => ?_)
    clear hK K
    try simp only [Act.put, List.setIfInBounds_toArray, List.set_cons_zero, List.set_cons_succ]
    have HM := Lib.hid (Sm3.alloc HD.out)
    rename World => Wc
    generalize World.alloc Wc _ = W3 at HM  hHeld ⊢
    generalize Wc.heap.size = m at HM ⊢
    refine wpAnyH_ready (rs := [4]) (by kernel_rfl) (by simp) (AllReadyH.cons (o := _) rfl (fun K hK => ?_) AllReadyH.nil)
    go_simp
    (go_at_call 8; (with_reducible refine (HA1.out _ HM.out.blw).mono ?_); rintro x wn ⟨pp, pn, pc, rfl, hb, ho⟩; replace HM := Lib.hid (HM.out.below hb); have HO1 := Lib.hid ho; clear hb ho)
    try go_wp2_with fail
    refine hK.out _ _ (⟨(st_cells HM.out.one).1, (st_cells HM.out.one).2.1, (st_cells HM.out.one).2.2⟩) (fun hHeld => ?_)
    clear hK K
    try simp only [Act.put, List.setIfInBounds_toArray, List.set_cons_zero, List.set_cons_succ]
    refine wpAnyH_ready (rs := [7]) (by kernel_rfl) (by simp) (AllReadyH.cons (o := _) rfl (fun K hK => ?_) AllReadyH.nil)
    go_simp
    (go_at_call 8; (with_reducible refine (HA2.out _ HM.out.blw).mono ?_); rintro x wn ⟨pq, qn, qc, rfl, hb, ho⟩; replace HM := Lib.hid (HM.out.below hb); replace HO1 := Lib.hid (HO1.out.below hb); have HO2 := Lib.hid ho; clear hb ho)
    try go_wp2_with fail
    refine hK.out _ _ (⟨(st_cells HM.out.one).1, (st_cells HM.out.one).2.1, (st_cells HM.out.one).2.2⟩) (fun hHeld => ?_)
    clear hK K
    try simp only [Act.put, List.setIfInBounds_toArray, List.set_cons_zero, List.set_cons_succ]
    have hf := HM.out.free
    refine wpAnyH_take (i := 8) (oi := { dst := some 14, op := _, type := _, pos := _, after := _, guard := _ }) (v := ?v9) rfl (by kernel_rfl) (by kernel_rfl) (by kernel_rfl) (fun _ _ _ h => h) (Or.inl ⟨by rfl, ?y9⟩) (by assumption) ?r9
    case y9 => (intro w hSw; go_simp; try with_reducible rfl)
    try simp only [Act.put, List.setIfInBounds_toArray, List.set_cons_zero, List.set_cons_succ]
    refine wpAnyH_ready (rs := [10]) (by kernel_rfl) (by simp) (AllReadyH.cons (o := _) rfl (fun K hK => ?_) AllReadyH.nil)
    go_simp
    refine hK.out _ _ (⟨(st_cells (HM.out.put (e' := ea) (u1 := (.slice pp pn pc)) (u2 := (.slice pq qn qc)) rfl rfl).one).1, (st_cells (HM.out.put (e' := ea) (u1 := (.slice pp pn pc)) (u2 := (.slice pq qn qc)) rfl rfl).one).2.1, (st_cells (HM.out.put (e' := ea) (u1 := (.slice pp pn pc)) (u2 := (.slice pq qn qc)) rfl rfl).one).2.2⟩) (fun hHeld => ?_)
    clear hK K
    try simp only [Act.put, List.setIfInBounds_toArray, List.set_cons_zero, List.set_cons_succ]
    have HQ := Lib.hid (HM.out.put (e' := ea) (u1 := (.slice pp pn pc)) (u2 := (.slice pq qn qc)) rfl rfl)
    have HT : Hid (StT _ (.slice pp pn pc) (.slice pq qn qc) X) := Lib.hid (HST.out _ _ _ (AdsT.off (HO1.out.ads HK1.out) HM.out.obj (by decide) (aggW_grown _ _ (stC ea (.slice pp pn pc) (.slice pq qn qc)))) (AdsT.off (HO2.out.ads HK2.out) HM.out.obj (by decide) (aggW_grown _ _ (stC ea (.slice pp pn pc) (.slice pq qn qc)))) HO1.out.cap HO2.out.cap)
    generalize aggW _ m _ = W5 at HQ HT hHeld ⊢
    refine wpAnyH_done (by kernel_rfl) ?_ _
    clear hHeld hbu hfk
    go_wp2_with fail
    refine wp_region_held_drew (S := fun W => row? W w.heap.size 0 3 = some (stC ea a y) ∧ row? W (w.heap.size + 1) 0 3 = some (stC eb b z) ∧ row? W m 0 3 = some (stC ea (.slice pp pn pc) (.slice pq qn qc))) (by kernel_rfl) ((HQ.out.below (W' := W5.drew) (bdrewN (Below.refl _ _) 1)).rows) (fun hHeld => ?_)
    replace HT := Lib.hid (HT.out.below (W' := W5.drew) (bdrewN (Below.refl _ _) 1))
    replace HQ : Hid (Sm3 w W5.drew m ea a y eb b z ea (.slice pp pn pc) (.slice pq qn qc)) := Lib.hid (HQ.out.below (bdrewN (Below.refl _ _) 1))
    generalize World.drew W5 = W6 at HQ HT hHeld ⊢
    refine wpAnyH_take (i := 0) (oi := { dst := some 15, op := _, type := _, pos := _, after := _, guard := _ }) (v := ?v401) rfl (by kernel_rfl) (by kernel_rfl) (by kernel_rfl) (fun _ _ _ h => h) (Or.inl ⟨by rfl, ?y401⟩) (by assumption) ?r401
    case y401 => (intro w hSw; go_simp; try with_reducible rfl)
    try simp only [Act.put, List.setIfInBounds_toArray, List.set_cons_zero, List.set_cons_succ]
    refine wpAnyH_take (i := 2) (oi := { dst := some 17, op := _, type := _, pos := _, after := _, guard := _ }) (v := ?v402) rfl (by kernel_rfl) (by kernel_rfl) (by kernel_rfl) (fun _ _ _ h => h) (Or.inl ⟨by rfl, ?y402⟩) (by assumption) ?r402
    case y402 => (intro w hSw; go_simp; try with_reducible rfl)
    try simp only [Act.put, List.setIfInBounds_toArray, List.set_cons_zero, List.set_cons_succ]
    refine wpAnyH_ready (rs := [1]) (by kernel_rfl) (by simp) (AllReadyH.cons (o := _) rfl (fun K hK => ?_) AllReadyH.nil)
    go_simp
    (go_at_call 13; (with_reducible refine (HG1.out _ _ _ HT.out).mono ?_); rintro x wn ⟨rfl, hb⟩; replace HQ := Lib.hid (HQ.out.below hb); replace HT := Lib.hid (HT.out.below hb); clear hb)
    try go_wp2_with fail
    refine hK.out _ _ (HQ.out.rows) (fun hHeld => ?_)
    clear hK K
    try simp only [Act.put, List.setIfInBounds_toArray, List.set_cons_zero, List.set_cons_succ]
    refine wpAnyH_ready (rs := [3]) (by kernel_rfl) (by simp) (AllReadyH.cons (o := _) rfl (fun K hK => ?_) AllReadyH.nil)
    go_simp
    (go_at_call 26; (with_reducible refine (HG2.out _ _ _ HT.out).mono ?_); rintro x wn ⟨rfl, hb⟩; replace HQ := Lib.hid (HQ.out.below hb); replace HT := Lib.hid (HT.out.below hb); clear hb)
    try go_wp2_with fail
    refine hK.out _ _ (HQ.out.rows) (fun hHeld => ?_)
    clear hK K
    try simp only [Act.put, List.setIfInBounds_toArray, List.set_cons_zero, List.set_cons_succ]
    clear HT
    refine wpAnyH_take (i := 4) (oi := { dst := some 19, op := _, type := _, pos := _, after := _, guard := _ }) (v := ?v403) rfl (by kernel_rfl) (by kernel_rfl) (by kernel_rfl) (fun _ _ _ h => h) (Or.inl ⟨by rfl, ?y403⟩) (by assumption) ?r403
    case y403 => (intro w hSw; go_simp; try with_reducible rfl)
    try simp only [Act.put, List.setIfInBounds_toArray, List.set_cons_zero, List.set_cons_succ]
    refine wpAnyH_take (i := 5) (oi := { dst := some 20, op := _, type := _, pos := _, after := _, guard := _ }) (v := ?v404) rfl (by kernel_rfl) (by kernel_rfl) (by kernel_rfl) (fun _ _ _ h => h) (Or.inl ⟨by rfl, ?y404⟩) (by assumption) ?r404
    case y404 => (intro w hSw; go_simp; try with_reducible rfl)
    try simp only [Act.put, List.setIfInBounds_toArray, List.set_cons_zero, List.set_cons_succ]
    refine wpAnyH_take (i := 6) (oi := { dst := some 21, op := _, type := _, pos := _, after := _, guard := _ }) (v := ?v405) rfl (by kernel_rfl) (by kernel_rfl) (by kernel_rfl) (fun _ _ _ h => h) (Or.inl ⟨by rfl, ?y405⟩) (by assumption) ?r405
    case y405 => (intro w hSw; go_simp; try with_reducible rfl)
    try simp only [Act.put, List.setIfInBounds_toArray, List.set_cons_zero, List.set_cons_succ]
    refine wpAnyH_take (i := 8) (oi := { dst := some 23, op := _, type := _, pos := _, after := _, guard := _ }) (v := ?v406) rfl (by kernel_rfl) (by kernel_rfl) (by kernel_rfl) (fun _ _ _ h => h) (Or.inl ⟨by rfl, ?y406⟩) (by assumption) ?r406
    case y406 => (intro w hSw; go_simp; try with_reducible rfl)
    try simp only [Act.put, List.setIfInBounds_toArray, List.set_cons_zero, List.set_cons_succ]
    refine wpAnyH_take (i := 11) (oi := { dst := some 26, op := _, type := _, pos := _, after := _, guard := _ }) (v := ?v407) rfl (by kernel_rfl) (by kernel_rfl) (by kernel_rfl) (fun _ _ _ h => h) (Or.inl ⟨by rfl, ?y407⟩) (by assumption) ?r407
    case y407 => (intro w hSw; go_simp; try with_reducible rfl)
    try simp only [Act.put, List.setIfInBounds_toArray, List.set_cons_zero, List.set_cons_succ]
    refine wpAnyH_take (i := 13) (oi := { dst := some 28, op := _, type := _, pos := _, after := _, guard := _ }) (v := ?v408) rfl (by kernel_rfl) (by kernel_rfl) (by kernel_rfl) (fun _ _ _ h => h) (Or.inl ⟨by rfl, ?y408⟩) (by assumption) ?r408
    case y408 => (intro w hSw; go_simp; try with_reducible rfl)
    try simp only [Act.put, List.setIfInBounds_toArray, List.set_cons_zero, List.set_cons_succ]
    refine wpAnyH_ready (rs := [7]) (by kernel_rfl) (by simp) (AllReadyH.cons (o := _) rfl (fun K hK => ?_) AllReadyH.nil)
    go_simp
    (go_at_call 7; (with_reducible refine (HFa.out _ HQ.out.blw).mono ?_); rintro x wn ⟨f1, g1, rfl, hb, ho⟩; replace HQ := Lib.hid (HQ.out.below hb); have HT1 := Lib.hid ho; clear hb ho)
    try go_wp2_with fail
    refine hK.out _ _ (HQ.out.rows) (fun hHeld => ?_)
    clear hK K
    try simp only [Act.put, List.setIfInBounds_toArray, List.set_cons_zero, List.set_cons_succ]
    refine wpAnyH_ready (rs := [9]) (by kernel_rfl) (by simp) (AllReadyH.cons (o := _) rfl (fun K hK => ?_) AllReadyH.nil)
    go_simp
    (go_at_call 7; (with_reducible refine (HFb.out _ HQ.out.blw).mono ?_); rintro x wn ⟨f2, g2, rfl, hb, ho⟩; replace HQ := Lib.hid (HQ.out.below hb); replace HT1 := Lib.hid (HT1.out.below hb); have HT2 := Lib.hid ho; clear hb ho)
    try go_wp2_with fail
    refine hK.out _ _ (HQ.out.rows) (fun hHeld => ?_)
    clear hK K
    try simp only [Act.put, List.setIfInBounds_toArray, List.set_cons_zero, List.set_cons_succ]
    refine wpAnyH_ready (rs := [10]) (by kernel_rfl) (by simp) (AllReadyH.cons (o := _) rfl (fun K hK => ?_) AllReadyH.nil)
    go_simp
    (go_at_call 27; (with_reducible refine (HS1.out _ _ _ _ _ HT1.out HT2.out).mono ?_); rintro x wn ⟨rfl, hb⟩; replace HQ := Lib.hid (HQ.out.below hb); clear hb)
    try go_wp2_with fail
    refine hK.out _ _ (HQ.out.rows) (fun hHeld => ?_)
    clear hK K
    try simp only [Act.put, List.setIfInBounds_toArray, List.set_cons_zero, List.set_cons_succ]
    clear HT1 HT2
    refine wpAnyH_ready (rs := [12]) (by kernel_rfl) (by simp) (AllReadyH.cons (o := _) rfl (fun K hK => ?_) AllReadyH.nil)
    go_simp
    (go_at_call 7; (with_reducible refine (HFa.out _ HQ.out.blw).mono ?_); rintro x wn ⟨f3, g3, rfl, hb, ho⟩; replace HQ := Lib.hid (HQ.out.below hb); have HT3 := Lib.hid ho; clear hb ho)
    try go_wp2_with fail
    refine hK.out _ _ (HQ.out.rows) (fun hHeld => ?_)
    clear hK K
    try simp only [Act.put, List.setIfInBounds_toArray, List.set_cons_zero, List.set_cons_succ]
    refine wpAnyH_ready (rs := [14]) (by kernel_rfl) (by simp) (AllReadyH.cons (o := _) rfl (fun K hK => ?_) AllReadyH.nil)
    go_simp
    (go_at_call 7; (with_reducible refine (HFb.out _ HQ.out.blw).mono ?_); rintro x wn ⟨f4, g4, rfl, hb, ho⟩; replace HQ := Lib.hid (HQ.out.below hb); replace HT3 := Lib.hid (HT3.out.below hb); have HT4 := Lib.hid ho; clear hb ho)
    try go_wp2_with fail
    refine hK.out _ _ (HQ.out.rows) (fun hHeld => ?_)
    clear hK K
    try simp only [Act.put, List.setIfInBounds_toArray, List.set_cons_zero, List.set_cons_succ]
    refine wpAnyH_ready (rs := [15]) (by kernel_rfl) (by simp) (AllReadyH.cons (o := _) rfl (fun K hK => ?_) AllReadyH.nil)
    go_simp
    (go_at_call 17; (with_reducible refine (HS2.out _ _ _ _ _ HT3.out HT4.out).mono ?_); rintro x wn ⟨rfl, hb⟩; replace HQ := Lib.hid (HQ.out.below hb); clear hb)
    try go_wp2_with fail
    refine hK.out _ _ (HQ.out.rows) (fun hHeld => ?_)
    clear hK K
    try simp only [Act.put, List.setIfInBounds_toArray, List.set_cons_zero, List.set_cons_succ]
    clear HT3 HT4
    refine wpAnyH_take (i := 16) (oi := { dst := some 31, op := _, type := _, pos := _, after := _, guard := _ }) (v := ?v409) rfl (by kernel_rfl) (by kernel_rfl) (by kernel_rfl) (fun _ _ _ h => h) (Or.inl ⟨by rfl, ?y409⟩) (by assumption) ?r409
    case y409 => (intro w hSw; go_simp; try with_reducible rfl)
    try simp only [Act.put, List.setIfInBounds_toArray, List.set_cons_zero, List.set_cons_succ]
    refine wpAnyH_take (i := 17) (oi := { dst := some 32, op := _, type := _, pos := _, after := _, guard := _ }) (v := ?v410) rfl (by kernel_rfl) (by kernel_rfl) (by kernel_rfl) (fun _ _ _ h => h) (Or.inl ⟨by rfl, ?y410⟩) (by assumption) ?r410
    case y410 => (intro w hSw; go_simp; try with_reducible rfl)
    try simp only [Act.put, List.setIfInBounds_toArray, List.set_cons_zero, List.set_cons_succ]
    refine wpAnyH_take (i := 18) (oi := { dst := some 33, op := _, type := _, pos := _, after := _, guard := _ }) (v := ?v411) rfl (by kernel_rfl) (by kernel_rfl) (by kernel_rfl) (fun _ _ _ h => h) (Or.inl ⟨by rfl, ?y411⟩) (by assumption) ?r411
    case y411 => (intro w hSw; go_simp; try with_reducible rfl)
    try simp only [Act.put, List.setIfInBounds_toArray, List.set_cons_zero, List.set_cons_succ]
    refine wpAnyH_take (i := 19) (oi := { dst := some 34, op := _, type := _, pos := _, after := _, guard := _ }) (v := ?v412) rfl (by kernel_rfl) (by kernel_rfl) (by kernel_rfl) (fun _ _ _ h => h) (Or.inl ⟨by rfl, ?y412⟩) (by assumption) ?r412
    case y412 => (intro w hSw; go_simp; try with_reducible rfl)
    try simp only [Act.put, List.setIfInBounds_toArray, List.set_cons_zero, List.set_cons_succ]
    refine wpAnyH_take (i := 21) (oi := { dst := some 36, op := _, type := _, pos := _, after := _, guard := _ }) (v := ?v413) rfl (by kernel_rfl) (by kernel_rfl) (by kernel_rfl) (fun _ _ _ h => h) (Or.inl ⟨by rfl, ?y413⟩) (by assumption) ?r413
    case y413 => (intro w hSw; go_simp; try with_reducible rfl)
    try simp only [Act.put, List.setIfInBounds_toArray, List.set_cons_zero, List.set_cons_succ]
    refine wpAnyH_ready (rs := [20]) (by kernel_rfl) (by simp) (AllReadyH.cons (o := _) rfl (fun K hK => ?_) AllReadyH.nil)
    go_simp
    (go_at_call 7; (with_reducible refine (HFa.out _ HQ.out.blw).mono ?_); rintro x wn ⟨f5, g5, rfl, hb, ho⟩; replace HQ := Lib.hid (HQ.out.below hb); have HT5 := Lib.hid ho; clear hb ho)
    try go_wp2_with fail
    refine hK.out _ _ (HQ.out.rows) (fun hHeld => ?_)
    clear hK K
    try simp only [Act.put, List.setIfInBounds_toArray, List.set_cons_zero, List.set_cons_succ]
    refine wpAnyH_ready (rs := [22]) (by kernel_rfl) (by simp) (AllReadyH.cons (o := _) rfl (fun K hK => ?_) AllReadyH.nil)
    go_simp
    (go_at_call 7; (with_reducible refine (HFa.out _ HQ.out.blw).mono ?_); rintro x wn ⟨f6, g6, rfl, hb, ho⟩; replace HQ := Lib.hid (HQ.out.below hb); replace HT5 := Lib.hid (HT5.out.below hb); have HT6 := Lib.hid ho; clear hb ho)
    try go_wp2_with fail
    refine hK.out _ _ (HQ.out.rows) (fun hHeld => ?_)
    clear hK K
    try simp only [Act.put, List.setIfInBounds_toArray, List.set_cons_zero, List.set_cons_succ]
    refine wpAnyH_ready (rs := [23]) (by kernel_rfl) (by simp) (AllReadyH.cons (o := _) rfl (fun K hK => ?_) AllReadyH.nil)
    go_simp
    (go_at_call 27; (with_reducible refine (HS3.out _ _ _ _ _ HT5.out HT6.out).mono ?_); rintro x wn ⟨rfl, hb⟩; replace HQ := Lib.hid (HQ.out.below hb); clear hb)
    try go_wp2_with fail
    refine hK.out _ _ (HQ.out.rows) (fun hHeld => ?_)
    clear hK K
    try simp only [Act.put, List.setIfInBounds_toArray, List.set_cons_zero, List.set_cons_succ]
    clear HT5 HT6
    refine wpAnyH_take (i := 24) (oi := { dst := some 39, op := _, type := _, pos := _, after := _, guard := _ }) (v := ?v414) rfl (by kernel_rfl) (by kernel_rfl) (by kernel_rfl) (fun _ _ _ h => h) (Or.inl ⟨by rfl, ?y414⟩) (by assumption) ?r414
    case y414 => (intro w hSw; go_simp; try with_reducible rfl)
    try simp only [Act.put, List.setIfInBounds_toArray, List.set_cons_zero, List.set_cons_succ]
    refine wpAnyH_take (i := 25) (oi := { dst := some 40, op := _, type := _, pos := _, after := _, guard := _ }) (v := ?v415) rfl (by kernel_rfl) (by kernel_rfl) (by kernel_rfl) (fun _ _ _ h => h) (Or.inl ⟨by rfl, ?y415⟩) (by assumption) ?r415
    case y415 => (intro w hSw; go_simp; try with_reducible rfl)
    try simp only [Act.put, List.setIfInBounds_toArray, List.set_cons_zero, List.set_cons_succ]
    refine wpAnyH_ready (rs := [26]) (by kernel_rfl) (by simp) (AllReadyH.cons (o := _) rfl (fun K hK => ?_) AllReadyH.nil)
    go_simp
    (go_at_call 14; (with_reducible refine (HLV.out _).mono ?_); rintro x wn ⟨rfl, hb⟩; replace HQ := Lib.hid (HQ.out.below hb); clear hb)
    try go_wp2_with fail
    refine hK.out _ _ (HQ.out.rows) (fun hHeld => ?_)
    clear hK K
    try simp only [Act.put, List.setIfInBounds_toArray, List.set_cons_zero, List.set_cons_succ]
    refine wpAnyH_take (i := 27) (oi := { dst := some 42, op := _, type := _, pos := _, after := _, guard := _ }) (v := ?v416) rfl (by kernel_rfl) (by kernel_rfl) (by kernel_rfl) (fun _ _ _ h => h) (Or.inl ⟨by rfl, ?y416⟩) (by assumption) ?r416
    case y416 => (intro w hSw; go_simp; try with_reducible rfl)
    try simp only [Act.put, List.setIfInBounds_toArray, List.set_cons_zero, List.set_cons_succ]
    refine wpAnyH_take (i := 28) (oi := { dst := some 4, op := _, type := _, pos := _, after := _, guard := _ }) (v := ?v417) rfl (by kernel_rfl) (by kernel_rfl) (by kernel_rfl) (fun _ _ _ h => h) (Or.inl ⟨by rfl, ?y417⟩) (by assumption) ?r417
    case y417 => (intro w hSw; go_simp; try with_reducible rfl)
    try simp only [Act.put, List.setIfInBounds_toArray, List.set_cons_zero, List.set_cons_succ]
    refine wpAnyH_done (by kernel_rfl) ?_ _
    clear hHeld
    go_wp2
    go_ret
    exact ⟨rfl, HQ.out.blw⟩
end Go.Proofs.Ytokpogoblnhihaa

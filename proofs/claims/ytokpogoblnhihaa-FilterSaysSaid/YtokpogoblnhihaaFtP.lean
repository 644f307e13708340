/-
  Layer 15: any state as a good one, and one whose timers have run out, by the document.
-/
import Derived.Test.YtokpogoblnhihaaFtO
namespace Go.Proofs.Ytokpogoblnhihaa
open Go.RowKit
set_option linter.unusedVariables false
set_option linter.unusedSimpArgs false
attribute [local go_sem ↓] ld_addr st_addr bld_addr ld_sta st_sta bld_sta ld_sp st_sp bld_sp adsLit_eq
attribute [local go_sem] ldr_addr str_addr ldr_sta str_sta ldr_sp str_sp row?_drewN_eq row?_drew_eq

theorem adsT_nil (w : World) : AdsT w (.slice none 0 0) [] := ⟨Ads.nil w, fun b o n c e => by cases e⟩
/-- A state's slices, in blocks of their type. -/
structure StT (W : World) (a y : Value) (s : ST) : Prop where
  on : AdsT W a s.on
  off : AdsT W y s.off
  ca : ∀ n c, a = .slice none n c → c = 0
  cy : ∀ n c, y = .slice none n c → c = 0
theorem StT.sta {W : World} {a y : Value} {s : ST} (h : StT W a y s) : StA W a y s := ⟨h.on.1, h.off.1, h.ca, h.cy⟩
theorem StT.below {W W' : World} {a y : Value} {s : ST} (h : StT W a y s) (hb : Below W.heap.size W W') : StT W' a y s := ⟨h.on.below hb, h.off.below hb, h.ca, h.cy⟩
theorem StT.off' {W W' : World} {a y : Value} {s : ST} {m : Nat} {L : Array Value} {T : TypeId} (h : StT W a y s) (hm : ObjAt W m L T) (hT : T ≠ 37) (hg : W.grownBy W' (some m)) : StT W' a y s := ⟨AdsT.off h.on hm hT hg, AdsT.off h.off hm hT hg, h.ca, h.cy⟩
theorem OwnL.shape {w : World} {b : Nat} {v : Value} {l : List AD} (h : OwnL w b v l) : ∃ p n c, v = .slice p n c := by
  obtain ⟨_, ⟨h2, _⟩ | ⟨g, cap, cur, e1, _⟩⟩ := h
  · exact ⟨_, _, _, h2⟩
  · exact ⟨_, _, _, e1⟩
/-- A state boxed, the result, and another state in block m. -/
structure OwR (w W : World) (m : Nat) (e0 : Bool) (a y : Value) (e : Bool) (a' y' : Value) : Prop where
  one : ObjAt W w.heap.size (stC e0 a y).toArray 24
  res : ObjAt W (w.heap.size + 1) (stC false (.slice none 0 0) (.slice none 0 0)).toArray 24
  obj : ObjAt W m (stC e a' y').toArray 24
  blw : Below w.heap.size w W
  lt : w.heap.size + 1 < m
theorem OwR.below {w W W' : World} {m : Nat} {e0 e : Bool} {a y a' y' : Value} (h : OwR w W m e0 a y e a' y') (hb : Below W.heap.size W W') : OwR w W' m e0 a y e a' y' := ⟨obj_keep h.one hb, obj_keep h.res hb, obj_keep h.obj hb, bstep h.blw hb, h.lt⟩
theorem OwR.alloc {w W : World} {e0 : Bool} {a y : Value} (h : Bx w W (stC e0 a y).toArray 24 (stC false (.slice none 0 0) (.slice none 0 0)).toArray 24) : OwR w (W.alloc (.cells #[.bool false, .slice none 0 0, .slice none 0 0] 24)) W.heap.size e0 a y false (.slice none 0 0) (.slice none 0 0) :=
  ⟨h.one.alloc _, h.two.alloc _, ObjAt.made W _ _, bstep h.blw (bbox W _), h.two.lt⟩
theorem OwR.put {w W : World} {m : Nat} {e0 e e' : Bool} {a y a' y' b' z' : Value} (h : OwR w W m e0 a y e a' y') (h1 : b'.oneCell' = true) (h2 : z'.oneCell' = true) : OwR w (aggW W m (stC e' b' z')) m e0 a y e' b' z' := by
  have hlt := h.lt
  exact ⟨aggW_other h.one _ (by omega), aggW_other h.res _ (by omega), aggW_obj (L := stC e a' y') h.obj rfl (stC_one h1 h2), aggW_below h.blw (by omega) _, h.lt⟩
theorem OwR.set {w W : World} {m : Nat} {e0 e : Bool} {a y a' y' : Value} (h : OwR w W m e0 a y e a' y') (v : Value) : OwR w (W.setCell ⟨m, 2, none⟩ v) m e0 a y e a' v := by
  have hlt := h.lt
  refine ⟨h.one.other _ _ (by simp; omega), h.res.other _ _ (by simp; omega), ?_, h.blw.setCell (p := ⟨m, 2, none⟩) (by simp; omega) _, h.lt⟩
  have := h.obj.set 2 v
  rwa [List.setIfInBounds_toArray] at this
theorem OwR.free {w W : World} {m : Nat} {e0 e : Bool} {a y a' y' : Value} (h : OwR w W m e0 a y e a' y') : free? W m 0 3 = true := obj_free_at h.obj 0 3 (Nat.le_refl _)
theorem OwR.drew1 {w W : World} {m : Nat} {e0 e : Bool} {a y a' y' : Value} (h : OwR w W m e0 a y e a' y') : OwR w W.drew m e0 a y e a' y' := ⟨h.one, h.res, h.obj, bdrewN h.blw 1, h.lt⟩
theorem Bx.drew1 {w W : World} {c d : Array Value} {T U : TypeId} (h : Bx w W c T d U) : Bx w W.drew c T d U := ⟨h.one, h.two, bdrewN h.blw 1⟩
theorem bld_u15 (e : Bool) (p : Option Addr) (n c : Nat) (w : World) : (aggBuild 24 #[(0, .bool e), (1, .slice p n c)]).run Try.prog w = .ok (.agg (stC e (.slice p n c) (.slice none 0 0)).toArray) w := bld_run _ _ _ (by kernel_rfl) _
set_option maxRecDepth 100000 in
set_option maxHeartbeats 4000000 in
theorem rown15_any (s : ST) (a y : Value) (w : World) (h : StA w a y s) (la : s.on.length ≤ 1000) (ly : s.off.length ≤ 1000) : Calls Try.prog 28 #[.agg (stC s.ex a y).toArray] w fun x w' => ∃ a' y', x = .returned (.agg (stC s.ex a' y').toArray) ∧ Below w.heap.size w w' ∧ StT w' a' y' (ownS s) := by
  obtain ⟨e, on, off⟩ := s
  simp only at la ly ⊢
  have H0 : Hid (Bx w ((w.alloc (.cells (stC e a y).toArray 24)).alloc (.cells #[.bool false, .slice none 0 0, .slice none 0 0] 24)) (stC e a y).toArray 24 (stC false (.slice none 0 0) (.slice none 0 0)).toArray 24) := Lib.hid (Bx.made w _ _ _ _)
  have HOA : Hid (∀ W, Below w.heap.size w W → Calls Try.prog 12 #[a] W fun x w' => ∃ p n c, x = .returned (.slice p n c) ∧ Below W.heap.size W w' ∧ OwnL w' W.heap.size (.slice p n c) (ofA on)) := Lib.hid fun W hb => (of11_any a on W (h.on.below hb) (by omega)).mono fun x w' ⟨v, hx, hb2, ho⟩ => by
    obtain ⟨p, n, c, rfl⟩ := ho.shape
    exact ⟨p, n, c, hx, hb2, ho⟩
  have HOB : Hid (∀ W, Below w.heap.size w W → Calls Try.prog 12 #[y] W fun x w' => ∃ p n c, x = .returned (.slice p n c) ∧ Below W.heap.size W w' ∧ OwnL w' W.heap.size (.slice p n c) (ofA off)) := Lib.hid fun W hb => (of11_any y off W (h.off.below hb) (by omega)).mono fun x w' ⟨v, hx, hb2, ho⟩ => by
    obtain ⟨p, n, c, rfl⟩ := ho.shape
    exact ⟨p, n, c, hx, hb2, ho⟩
  have HOK1 : Hid (∀ x ∈ ofA on, adOk x) := Lib.hid (ofA_ok h.on.ok)
  have HOK2 : Hid (∀ x ∈ ofA off, adOk x) := Lib.hid (ofA_ok h.off.ok)
  have HPI : Hid (∀ W v1 v2, Ads W v2 (ofA off) → Ads W v1 (ofA on) → Calls Try.prog 43 #[v2, v1, .bool false] W fun x w' => ∃ p n c, x = .returned (.slice p n c) ∧ Below W.heap.size W w' ∧ OwnL w' W.heap.size (.slice p n c) (pickA (ofA off) (ofA on) false)) := Lib.hid fun W v1 v2 h2 h1 => (pick11_any v2 v1 _ _ false W h2 h1 (Nat.le_trans (ofA_length _) (by omega))).mono fun x w' ⟨v, hx, hb2, ho⟩ => by
    obtain ⟨p, n, c, rfl⟩ := ho.shape
    exact ⟨p, n, c, hx, hb2, ho⟩
  clear h la ly
  have hbu := fun e p n c w0 => bld_u15 e p n c w0
  have hfk : ∀ e p n c, fok (stC e (.slice p n c) (.slice none 0 0)).toArray 3 = true := fun e p n c => fok_of rfl (stC_one rfl rfl)
  have hfm := fun W => fmade W #[.bool false, .slice none 0 0, .slice none 0 0] 24 3 rfl
  go_enter Try.func28, Try.ntmps28
  go_upto_region 1 with (fail)
  generalize (w.alloc _).alloc _ = W at H0 ⊢
  refine wp_region_held_drew (S := fun W => W.cell? ⟨w.heap.size, 0, none⟩ = some (.bool e) ∧ W.cell? ⟨w.heap.size, 1, none⟩ = some a) (by kernel_rfl) (⟨(st_cells H0.out.drew1.one).1, (st_cells H0.out.drew1.one).2.1⟩) (fun hHeld => ?_)
  have HD := Lib.hid H0.out.drew1
  generalize World.drew W = Wd at HD hHeld ⊢
  refine wpAnyH_take (i := 0) (oi := { dst := some 4, op := _, type := _, pos := _, after := _, guard := _ }) (v := ?v1) rfl (by kernel_rfl) (by kernel_rfl) (by kernel_rfl) (fun _ _ _ h => h) (Or.inl ⟨by rfl, ?y1⟩) (by assumption) ?r1
  case y1 => (intro w hSw; go_simp; try with_reducible rfl)
  try simp only [Act.put, List.setIfInBounds_toArray, List.set_cons_zero, List.set_cons_succ]
  refine wpAnyH_take (i := 1) (oi := { dst := some 5, op := _, type := _, pos := _, after := _, guard := _ }) (v := ?v2) rfl (by kernel_rfl) (by kernel_rfl) (by kernel_rfl) (fun _ _ _ h => h) (Or.inl ⟨by rfl, ?y2⟩) (by assumption) ?r2
  case y2 => (intro w hSw; go_simp; try with_reducible rfl)
  try simp only [Act.put, List.setIfInBounds_toArray, List.set_cons_zero, List.set_cons_succ]
  refine wpAnyH_take (i := 2) (oi := { dst := some 6, op := _, type := _, pos := _, after := _, guard := _ }) (v := ?v3) rfl (by kernel_rfl) (by kernel_rfl) (by kernel_rfl) (fun _ _ _ h => h) (Or.inl ⟨by rfl, ?y3⟩) (by assumption) ?r3
  case y3 => (intro w hSw; go_simp; try with_reducible rfl)
  try simp only [Act.put, List.setIfInBounds_toArray, List.set_cons_zero, List.set_cons_succ]
  refine wpAnyH_take (i := 3) (oi := { dst := some 7, op := _, type := _, pos := _, after := _, guard := _ }) (v := ?v4) rfl (by kernel_rfl) (by kernel_rfl) (by kernel_rfl) (fun _ _ _ h => h) (Or.inl ⟨by rfl, ?y4⟩) (by assumption) ?r4
  case y4 => (intro w hSw; go_simp; try with_reducible rfl)
  try simp only [Act.put, List.setIfInBounds_toArray, List.set_cons_zero, List.set_cons_succ]
  refine wpAnyH_ready (rs := [4, 6]) (by kernel_rfl) (by simp) (AllReadyH.cons (o := _) rfl (fun K hK => ?_) (AllReadyH.cons (o := _) rfl (fun K hK => ?_) AllReadyH.nil))
  · go_simp
    (go_at_call 12; (with_reducible refine (HOA.out _ HD.out.blw).mono ?_); rintro x w1 ⟨pp, pn, pc, rfl, hb, ho⟩; replace HD := Lib.hid (HD.out.below hb); have HO := Lib.hid ho; clear hb ho)
    try go_wp2_with fail
    refine hK.out _ _ (⟨(st_cells HD.out.one).1, (st_cells HD.out.one).2.1⟩) (fun hHeld => ?_)
    clear hK K
    try simp only [Act.put, List.setIfInBounds_toArray, List.set_cons_zero, List.set_cons_succ]
    refine wpAnyH_take (i := 5) (oi := { dst := some 9, op := _, type := _, pos := _, after := _, guard := _ }) (v := ?v5) rfl (by kernel_rfl) (by kernel_rfl) (by kernel_rfl) (fun _ _ _ h => h) (Or.inl ⟨by rfl, ?y5⟩) (by assumption) ?r5
    case y5 => (intro w hSw; go_simp; try with_reducible rfl)
    try simp only [Act.put, List.setIfInBounds_toArray, List.set_cons_zero, List.set_cons_succ]
    refine wpAnyH_ready (rs := [6]) (by kernel_rfl) (by simp) (AllReadyH.cons (o := _) rfl (fun K hK => ?_) AllReadyH.nil)
    go_simp
    refine hK.out _ _ (⟨(st_cells (HD.out.one.alloc _)).1, (st_cells (HD.out.one.alloc _)).2.1⟩) (fun hHeld => ?_)
    clear hK K
    try simp only [Act.put, List.setIfInBounds_toArray, List.set_cons_zero, List.set_cons_succ]
    have HM := Lib.hid (OwR.alloc HD.out)
    have HO1 := Lib.hid (HO.out.below (bbox w1 (.cells #[.bool false, .slice none 0 0, .slice none 0 0] 24)))
    have HLM : Hid (w1.heap.size < (w1.alloc (.cells #[.bool false, .slice none 0 0, .slice none 0 0] 24)).heap.size) := Lib.hid (by simp)
    generalize World.alloc w1 _ = W3 at HM HO1 HLM hHeld ⊢
    generalize w1.heap.size = m at HM ⊢
    have hf := HM.out.free
    refine wpAnyH_ready (rs := [7]) (by kernel_rfl) (by simp) (AllReadyH.cons (o := _) rfl (fun K hK => ?_) AllReadyH.nil)
    go_simp
    refine hK.out _ _ (⟨(st_cells (HM.out.put (e' := e) (b' := .slice pp pn pc) (z' := .slice none 0 0) rfl rfl).one).1, (st_cells (HM.out.put (e' := e) (b' := .slice pp pn pc) (z' := .slice none 0 0) rfl rfl).one).2.1⟩) (fun hHeld => ?_)
    clear hK K
    try simp only [Act.put, List.setIfInBounds_toArray, List.set_cons_zero, List.set_cons_succ]
    have HQ := Lib.hid (HM.out.put (e' := e) (b' := .slice pp pn pc) (z' := .slice none 0 0) rfl rfl)
    have HT := Lib.hid (AdsT.off (HO1.out.ads HOK1.out) HM.out.obj (by decide) (aggW_grown _ _ (stC e (.slice pp pn pc) (.slice none 0 0))))
    have HCP := Lib.hid HO1.out.cap
    generalize aggW _ m _ = W5 at HQ HT hHeld ⊢
    refine wpAnyH_done (by kernel_rfl) ?_ _
    clear hHeld hbu hfk hfm HOA H0
    have hrr := obj_free_at HQ.out.res 0 3 (Nat.le_refl _)
    have hrw := st_row HQ.out.obj
    obtain ⟨c0, c1, c2⟩ := st_cells HQ.out.one
    cases e with
    | false =>
      have hfk : fok (stC false (.slice pp pn pc) (.slice none 0 0)).toArray 3 = true := fok_of rfl (stC_one rfl rfl)
      have HT2 := Lib.hid (AdsT.off HT.out HQ.out.res (by decide) (aggW_grown _ _ (stC false (.slice pp pn pc) (.slice none 0 0))))
      go_wp2
      obtain ⟨q1, q2⟩ := resDone HQ.out.res HQ.out.blw (by omega) (stC false (.slice pp pn pc) (.slice none 0 0)) rfl
      exact bodyPost_ret (results_cell Try.results28 rfl (ld_some q1 (ldr_sta _ _ _))) rfl ⟨_, _, rfl, q2, ⟨HT2.out, adsT_nil _, HCP.out, nilcap⟩⟩
    | true =>
      go_upto_region 3 with (fail)
      refine wp_region_held_drew (S := fun W => W.cell? ⟨w.heap.size, 2, none⟩ = some y ∧ W.cell? ⟨m, 1, none⟩ = some (.slice pp pn pc)) (by kernel_rfl) (⟨(st_cells HQ.out.drew1.one).2.2, (st_cells HQ.out.drew1.obj).2.1⟩) (fun hHeld => ?_)
      have HN := Lib.hid HQ.out.drew1
      have HTN : Hid (AdsT W5.drew (.slice pp pn pc) (ofA on)) := Lib.hid (HT.out.below (bdrewN (Below.refl _ _) 1))
      generalize World.drew W5 = W6 at HN HTN hHeld ⊢
      refine wpAnyH_take (i := 0) (oi := { dst := some 12, op := _, type := _, pos := _, after := _, guard := _ }) (v := ?v101) rfl (by kernel_rfl) (by kernel_rfl) (by kernel_rfl) (fun _ _ _ h => h) (Or.inl ⟨by rfl, ?y101⟩) (by assumption) ?r101
      case y101 => (intro w hSw; go_simp; try with_reducible rfl)
      try simp only [Act.put, List.setIfInBounds_toArray, List.set_cons_zero, List.set_cons_succ]
      refine wpAnyH_take (i := 1) (oi := { dst := some 13, op := _, type := _, pos := _, after := _, guard := _ }) (v := ?v102) rfl (by kernel_rfl) (by kernel_rfl) (by kernel_rfl) (fun _ _ _ h => h) (Or.inl ⟨by rfl, ?y102⟩) (by assumption) ?r102
      case y102 => (intro w hSw; go_simp; try with_reducible rfl)
      try simp only [Act.put, List.setIfInBounds_toArray, List.set_cons_zero, List.set_cons_succ]
      refine wpAnyH_take (i := 3) (oi := { dst := some 15, op := _, type := _, pos := _, after := _, guard := _ }) (v := ?v103) rfl (by kernel_rfl) (by kernel_rfl) (by kernel_rfl) (fun _ _ _ h => h) (Or.inl ⟨by rfl, ?y103⟩) (by assumption) ?r103
      case y103 => (intro w hSw; go_simp; try with_reducible rfl)
      try simp only [Act.put, List.setIfInBounds_toArray, List.set_cons_zero, List.set_cons_succ]
      refine wpAnyH_take (i := 4) (oi := { dst := some 16, op := _, type := _, pos := _, after := _, guard := _ }) (v := ?v104) rfl (by kernel_rfl) (by kernel_rfl) (by kernel_rfl) (fun _ _ _ h => h) (Or.inl ⟨by rfl, ?y104⟩) (by assumption) ?r104
      case y104 => (intro w hSw; go_simp; try with_reducible rfl)
      try simp only [Act.put, List.setIfInBounds_toArray, List.set_cons_zero, List.set_cons_succ]
      refine wpAnyH_ready (rs := [2]) (by kernel_rfl) (by simp) (AllReadyH.cons (o := _) rfl (fun K hK => ?_) AllReadyH.nil)
      go_simp
      (go_at_call 12; (with_reducible refine (HOB.out _ HN.out.blw).mono ?_); rintro x w2 ⟨pq, qn, qc, rfl, hb, ho⟩; replace HN := Lib.hid (HN.out.below hb); replace HTN := Lib.hid (HTN.out.below hb); have HO2 := Lib.hid ho; clear hb ho)
      try go_wp2_with fail
      refine hK.out _ _ (⟨(st_cells HN.out.one).2.2, (st_cells HN.out.obj).2.1⟩) (fun hHeld => ?_)
      clear hK K
      try simp only [Act.put, List.setIfInBounds_toArray, List.set_cons_zero, List.set_cons_succ]
      refine wpAnyH_ready (rs := [5]) (by kernel_rfl) (by simp) (AllReadyH.cons (o := _) rfl (fun K hK => ?_) AllReadyH.nil)
      go_simp
      (go_at_call 43; (with_reducible refine (HPI.out _ _ _ (HO2.out.ads HOK2.out).toAds HTN.out.toAds).mono ?_); rintro x w3 ⟨pr, rn, rc, rfl, hb, ho⟩; replace HN := Lib.hid (HN.out.below hb); replace HTN := Lib.hid (HTN.out.below hb); have HO3 := Lib.hid ho; clear hb ho)
      try go_wp2_with fail
      refine hK.out _ _ (⟨(st_cells HN.out.one).2.2, (st_cells HN.out.obj).2.1⟩) (fun hHeld => ?_)
      clear hK K
      try simp only [Act.put, List.setIfInBounds_toArray, List.set_cons_zero, List.set_cons_succ]
      have cm := (st_cells HN.out.obj).2.2
      have fm := HN.out.obj.free 2
      refine wpAnyH_take (i := 6) (oi := { dst := some 18, op := _, type := _, pos := _, after := _, guard := _ }) (v := ?v105) rfl (by kernel_rfl) (by kernel_rfl) (by kernel_rfl) (fun _ _ _ h => h) (Or.inl ⟨by rfl, ?y105⟩) (by assumption) ?r105
      case y105 => (intro w hSw; go_simp; try with_reducible rfl)
      try simp only [Act.put, List.setIfInBounds_toArray, List.set_cons_zero, List.set_cons_succ]
      refine wpAnyH_ready (rs := [7]) (by kernel_rfl) (by simp) (AllReadyH.cons (o := _) rfl (fun K hK => ?_) AllReadyH.nil)
      go_simp
      refine hK.out _ _ (⟨(st_cells (HN.out.set (.slice pr rn rc)).one).2.2, (st_cells (HN.out.set (.slice pr rn rc)).obj).2.1⟩) (fun hHeld => ?_)
      clear hK K
      try simp only [Act.put, List.setIfInBounds_toArray, List.set_cons_zero, List.set_cons_succ]
      have HNN := Lib.hid (HN.out.set (.slice pr rn rc))
      have HTT := Lib.hid (AdsT.off HTN.out HN.out.obj (by decide) (setc_grown _ m 2 (.slice pr rn rc)))
      have HTR := Lib.hid (AdsT.off (HO3.out.ads (pickA_ok HOK2.out)) HN.out.obj (by decide) (setc_grown _ m 2 (.slice pr rn rc)))
      have HCR := Lib.hid HO3.out.cap
      generalize World.setCell _ _ _ = W7 at HNN HTT HTR hHeld ⊢
      refine wpAnyH_done (by kernel_rfl) ?_ _
      clear hHeld hrr hrw c0 c1 c2
      have hrr := obj_free_at HNN.out.res 0 3 (Nat.le_refl _)
      have hrw := st_row HNN.out.obj
      have hfk : fok (stC true (.slice pp pn pc) (.slice pr rn rc)).toArray 3 = true := fok_of rfl (stC_one rfl rfl)
      have HT2 := Lib.hid (AdsT.off HTT.out HNN.out.res (by decide) (aggW_grown _ _ (stC true (.slice pp pn pc) (.slice pr rn rc))))
      have HT3 := Lib.hid (AdsT.off HTR.out HNN.out.res (by decide) (aggW_grown _ _ (stC true (.slice pp pn pc) (.slice pr rn rc))))
      go_wp2
      obtain ⟨q1, q2⟩ := resDone HNN.out.res HNN.out.blw (by omega) (stC true (.slice pp pn pc) (.slice pr rn rc)) rfl
      exact bodyPost_ret (results_cell Try.results28 rfl (ld_some q1 (ldr_sta _ _ _))) rfl ⟨_, _, rfl, q2, ⟨HT2.out, HT3.out, HCP.out, HCR.out⟩⟩
  · go_simp
    refine hK.out _ _ (⟨(st_cells (HD.out.one.alloc _)).1, (st_cells (HD.out.one.alloc _)).2.1⟩) (fun hHeld => ?_)
    clear hK K
    try simp only [Act.put, List.setIfInBounds_toArray, List.set_cons_zero, List.set_cons_succ]
    have HM := Lib.hid (OwR.alloc HD.out)
    generalize World.alloc Wd _ = W3 at HM hHeld ⊢
    generalize Wd.heap.size = m at HM ⊢
    refine wpAnyH_ready (rs := [4]) (by kernel_rfl) (by simp) (AllReadyH.cons (o := _) rfl (fun K hK => ?_) AllReadyH.nil)
    go_simp
    (go_at_call 12; (with_reducible refine (HOA.out _ HM.out.blw).mono ?_); rintro x w1 ⟨pp, pn, pc, rfl, hb, ho⟩; have HLT : Hid (m < w1.heap.size) := Lib.hid (HM.out.below hb).obj.lt; have HLM := Lib.hid HM.out.obj.lt; replace HM := Lib.hid (HM.out.below hb); have HO := Lib.hid ho; clear hb ho)
    try go_wp2_with fail
    refine hK.out _ _ (⟨(st_cells HM.out.one).1, (st_cells HM.out.one).2.1⟩) (fun hHeld => ?_)
    clear hK K
    try simp only [Act.put, List.setIfInBounds_toArray, List.set_cons_zero, List.set_cons_succ]
    have hf := HM.out.free
    refine wpAnyH_take (i := 5) (oi := { dst := some 9, op := _, type := _, pos := _, after := _, guard := _ }) (v := ?v6) rfl (by kernel_rfl) (by kernel_rfl) (by kernel_rfl) (fun _ _ _ h => h) (Or.inl ⟨by rfl, ?y6⟩) (by assumption) ?r6
    case y6 => (intro w hSw; go_simp; try with_reducible rfl)
    try simp only [Act.put, List.setIfInBounds_toArray, List.set_cons_zero, List.set_cons_succ]
    refine wpAnyH_ready (rs := [7]) (by kernel_rfl) (by simp) (AllReadyH.cons (o := _) rfl (fun K hK => ?_) AllReadyH.nil)
    go_simp
    refine hK.out _ _ (⟨(st_cells (HM.out.put (e' := e) (b' := .slice pp pn pc) (z' := .slice none 0 0) rfl rfl).one).1, (st_cells (HM.out.put (e' := e) (b' := .slice pp pn pc) (z' := .slice none 0 0) rfl rfl).one).2.1⟩) (fun hHeld => ?_)
    clear hK K
    try simp only [Act.put, List.setIfInBounds_toArray, List.set_cons_zero, List.set_cons_succ]
    have HQ := Lib.hid (HM.out.put (e' := e) (b' := .slice pp pn pc) (z' := .slice none 0 0) rfl rfl)
    have HT := Lib.hid (AdsT.off (HO.out.ads HOK1.out) HM.out.obj (by decide) (aggW_grown _ _ (stC e (.slice pp pn pc) (.slice none 0 0))))
    have HCP := Lib.hid HO.out.cap
    generalize aggW _ m _ = W5 at HQ HT hHeld ⊢
    refine wpAnyH_done (by kernel_rfl) ?_ _
    clear hHeld hbu hfk hfm HOA H0
    have hrr := obj_free_at HQ.out.res 0 3 (Nat.le_refl _)
    have hrw := st_row HQ.out.obj
    obtain ⟨c0, c1, c2⟩ := st_cells HQ.out.one
    cases e with
    | false =>
      have hfk : fok (stC false (.slice pp pn pc) (.slice none 0 0)).toArray 3 = true := fok_of rfl (stC_one rfl rfl)
      have HT2 := Lib.hid (AdsT.off HT.out HQ.out.res (by decide) (aggW_grown _ _ (stC false (.slice pp pn pc) (.slice none 0 0))))
      go_wp2
      obtain ⟨q1, q2⟩ := resDone HQ.out.res HQ.out.blw (by omega) (stC false (.slice pp pn pc) (.slice none 0 0)) rfl
      exact bodyPost_ret (results_cell Try.results28 rfl (ld_some q1 (ldr_sta _ _ _))) rfl ⟨_, _, rfl, q2, ⟨HT2.out, adsT_nil _, HCP.out, nilcap⟩⟩
    | true =>
      go_upto_region 3 with (fail)
      refine wp_region_held_drew (S := fun W => W.cell? ⟨w.heap.size, 2, none⟩ = some y ∧ W.cell? ⟨m, 1, none⟩ = some (.slice pp pn pc)) (by kernel_rfl) (⟨(st_cells HQ.out.drew1.one).2.2, (st_cells HQ.out.drew1.obj).2.1⟩) (fun hHeld => ?_)
      have HN := Lib.hid HQ.out.drew1
      have HTN : Hid (AdsT W5.drew (.slice pp pn pc) (ofA on)) := Lib.hid (HT.out.below (bdrewN (Below.refl _ _) 1))
      generalize World.drew W5 = W6 at HN HTN hHeld ⊢
      refine wpAnyH_take (i := 0) (oi := { dst := some 12, op := _, type := _, pos := _, after := _, guard := _ }) (v := ?v201) rfl (by kernel_rfl) (by kernel_rfl) (by kernel_rfl) (fun _ _ _ h => h) (Or.inl ⟨by rfl, ?y201⟩) (by assumption) ?r201
      case y201 => (intro w hSw; go_simp; try with_reducible rfl)
      try simp only [Act.put, List.setIfInBounds_toArray, List.set_cons_zero, List.set_cons_succ]
      refine wpAnyH_take (i := 1) (oi := { dst := some 13, op := _, type := _, pos := _, after := _, guard := _ }) (v := ?v202) rfl (by kernel_rfl) (by kernel_rfl) (by kernel_rfl) (fun _ _ _ h => h) (Or.inl ⟨by rfl, ?y202⟩) (by assumption) ?r202
      case y202 => (intro w hSw; go_simp; try with_reducible rfl)
      try simp only [Act.put, List.setIfInBounds_toArray, List.set_cons_zero, List.set_cons_succ]
      refine wpAnyH_take (i := 3) (oi := { dst := some 15, op := _, type := _, pos := _, after := _, guard := _ }) (v := ?v203) rfl (by kernel_rfl) (by kernel_rfl) (by kernel_rfl) (fun _ _ _ h => h) (Or.inl ⟨by rfl, ?y203⟩) (by assumption) ?r203
      case y203 => (intro w hSw; go_simp; try with_reducible rfl)
      try simp only [Act.put, List.setIfInBounds_toArray, List.set_cons_zero, List.set_cons_succ]
      refine wpAnyH_take (i := 4) (oi := { dst := some 16, op := _, type := _, pos := _, after := _, guard := _ }) (v := ?v204) rfl (by kernel_rfl) (by kernel_rfl) (by kernel_rfl) (fun _ _ _ h => h) (Or.inl ⟨by rfl, ?y204⟩) (by assumption) ?r204
      case y204 => (intro w hSw; go_simp; try with_reducible rfl)
      try simp only [Act.put, List.setIfInBounds_toArray, List.set_cons_zero, List.set_cons_succ]
      refine wpAnyH_ready (rs := [2]) (by kernel_rfl) (by simp) (AllReadyH.cons (o := _) rfl (fun K hK => ?_) AllReadyH.nil)
      go_simp
      (go_at_call 12; (with_reducible refine (HOB.out _ HN.out.blw).mono ?_); rintro x w2 ⟨pq, qn, qc, rfl, hb, ho⟩; replace HN := Lib.hid (HN.out.below hb); replace HTN := Lib.hid (HTN.out.below hb); have HO2 := Lib.hid ho; clear hb ho)
      try go_wp2_with fail
      refine hK.out _ _ (⟨(st_cells HN.out.one).2.2, (st_cells HN.out.obj).2.1⟩) (fun hHeld => ?_)
      clear hK K
      try simp only [Act.put, List.setIfInBounds_toArray, List.set_cons_zero, List.set_cons_succ]
      refine wpAnyH_ready (rs := [5]) (by kernel_rfl) (by simp) (AllReadyH.cons (o := _) rfl (fun K hK => ?_) AllReadyH.nil)
      go_simp
      (go_at_call 43; (with_reducible refine (HPI.out _ _ _ (HO2.out.ads HOK2.out).toAds HTN.out.toAds).mono ?_); rintro x w3 ⟨pr, rn, rc, rfl, hb, ho⟩; replace HN := Lib.hid (HN.out.below hb); replace HTN := Lib.hid (HTN.out.below hb); have HO3 := Lib.hid ho; clear hb ho)
      try go_wp2_with fail
      refine hK.out _ _ (⟨(st_cells HN.out.one).2.2, (st_cells HN.out.obj).2.1⟩) (fun hHeld => ?_)
      clear hK K
      try simp only [Act.put, List.setIfInBounds_toArray, List.set_cons_zero, List.set_cons_succ]
      have cm := (st_cells HN.out.obj).2.2
      have fm := HN.out.obj.free 2
      refine wpAnyH_take (i := 6) (oi := { dst := some 18, op := _, type := _, pos := _, after := _, guard := _ }) (v := ?v205) rfl (by kernel_rfl) (by kernel_rfl) (by kernel_rfl) (fun _ _ _ h => h) (Or.inl ⟨by rfl, ?y205⟩) (by assumption) ?r205
      case y205 => (intro w hSw; go_simp; try with_reducible rfl)
      try simp only [Act.put, List.setIfInBounds_toArray, List.set_cons_zero, List.set_cons_succ]
      refine wpAnyH_ready (rs := [7]) (by kernel_rfl) (by simp) (AllReadyH.cons (o := _) rfl (fun K hK => ?_) AllReadyH.nil)
      go_simp
      refine hK.out _ _ (⟨(st_cells (HN.out.set (.slice pr rn rc)).one).2.2, (st_cells (HN.out.set (.slice pr rn rc)).obj).2.1⟩) (fun hHeld => ?_)
      clear hK K
      try simp only [Act.put, List.setIfInBounds_toArray, List.set_cons_zero, List.set_cons_succ]
      have HNN := Lib.hid (HN.out.set (.slice pr rn rc))
      have HTT := Lib.hid (AdsT.off HTN.out HN.out.obj (by decide) (setc_grown _ m 2 (.slice pr rn rc)))
      have HTR := Lib.hid (AdsT.off (HO3.out.ads (pickA_ok HOK2.out)) HN.out.obj (by decide) (setc_grown _ m 2 (.slice pr rn rc)))
      have HCR := Lib.hid HO3.out.cap
      generalize World.setCell _ _ _ = W7 at HNN HTT HTR hHeld ⊢
      refine wpAnyH_done (by kernel_rfl) ?_ _
      clear hHeld hrr hrw c0 c1 c2
      have hrr := obj_free_at HNN.out.res 0 3 (Nat.le_refl _)
      have hrw := st_row HNN.out.obj
      have hfk : fok (stC true (.slice pp pn pc) (.slice pr rn rc)).toArray 3 = true := fok_of rfl (stC_one rfl rfl)
      have HT2 := Lib.hid (AdsT.off HTT.out HNN.out.res (by decide) (aggW_grown _ _ (stC true (.slice pp pn pc) (.slice pr rn rc))))
      have HT3 := Lib.hid (AdsT.off HTR.out HNN.out.res (by decide) (aggW_grown _ _ (stC true (.slice pp pn pc) (.slice pr rn rc))))
      go_wp2
      obtain ⟨q1, q2⟩ := resDone HNN.out.res HNN.out.blw (by omega) (stC true (.slice pp pn pc) (.slice pr rn rc)) rfl
      exact bodyPost_ret (results_cell Try.results28 rfl (ld_some q1 (ldr_sta _ _ _))) rfl ⟨_, _, rfl, q2, ⟨HT2.out, HT3.out, HCP.out, HCR.out⟩⟩
end Go.Proofs.Ytokpogoblnhihaa

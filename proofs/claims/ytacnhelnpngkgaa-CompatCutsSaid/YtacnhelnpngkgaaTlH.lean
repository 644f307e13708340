/-
  The law's own copy of a talk, somewhat cut.
-/
import Derived.Test.YtacnhelnpngkgaaTlG
namespace Go.Proofs.Ytacnhelnpngkgaa
open Go.RowKit
set_option linter.unusedVariables false
set_option linter.unusedSimpArgs false
attribute [local go_sem ↓] ld_addr st_addr bld_addr ld_tk st_tk bld_tk
attribute [local go_sem] ldr_addr str_addr ldr_tk str_tk

/-- A talk, somewhat cut. -/
def fewT (t : TK) : TK := ⟨t.v6, t.ver, t.kind, t.resp, t.g, t.quiet, t.rob, t.every, t.src.take 6, (t.rcs.take 6).map cutR⟩
/-- The talk boxed, the result's cell behind it. -/
def FT (w W : World) (t : TK) (us ur : Value) : Prop := TkAt W w.heap.size t us ur ∧ ObjAt W (w.heap.size + 1) #[.bool false, .int .i64 0, .int .i64 0, .int .i64 0, .bool false, .int .u8 0, .int .u8 0, .int .u8 0, .int .u8 0, .int .u8 0, .int .u8 0, .int .u8 0, .int .u8 0, .int .u8 0, .int .u8 0, .int .u8 0, .int .u8 0, .int .u8 0, .int .u8 0, .int .u8 0, .int .u8 0, .bool false, .int .i64 0, .int .i64 0, .slice none 0 0, .slice none 0 0] 28 ∧ Below w.heap.size w W
theorem FT.made (w : World) (t : TK) (us ur : Value) (h : adOk t.g) : FT w ((w.alloc (.cells (tkC t us ur).toArray 28)).alloc (.cells #[.bool false, .int .i64 0, .int .i64 0, .int .i64 0, .bool false, .int .u8 0, .int .u8 0, .int .u8 0, .int .u8 0, .int .u8 0, .int .u8 0, .int .u8 0, .int .u8 0, .int .u8 0, .int .u8 0, .int .u8 0, .int .u8 0, .int .u8 0, .int .u8 0, .int .u8 0, .int .u8 0, .bool false, .int .i64 0, .int .i64 0, .slice none 0 0, .slice none 0 0] 28)) t us ur := by
  have s1 : (w.alloc (.cells (tkC t us ur).toArray 28)).heap.size = w.heap.size + 1 := by simp
  have h1 := ObjAt.made (w.alloc (.cells (tkC t us ur).toArray 28)) #[.bool false, .int .i64 0, .int .i64 0, .int .i64 0, .bool false, .int .u8 0, .int .u8 0, .int .u8 0, .int .u8 0, .int .u8 0, .int .u8 0, .int .u8 0, .int .u8 0, .int .u8 0, .int .u8 0, .int .u8 0, .int .u8 0, .int .u8 0, .int .u8 0, .int .u8 0, .int .u8 0, .bool false, .int .i64 0, .int .i64 0, .slice none 0 0, .slice none 0 0] 28
  rw [s1] at h1
  exact ⟨⟨ObjAt.alloc (TkAt.made w t us ur h).1 _, h⟩, h1, ((Below.refl _ _).alloc (Nat.le_refl _) _).alloc (by simp) _⟩
theorem FT.below {w W W' : World} {t : TK} {us ur : Value} (h : FT w W t us ur) (hb : Below W.heap.size W W') : FT w W' t us ur := ⟨h.1.below hb, h.2.1.below hb h.2.1.lt, bstep h.2.2 hb⟩
theorem FT.set {w W : World} {t t' : TK} {us ur us' ur' : Value} (h : FT w W t us ur) (j : Nat) (v : Value) (e : (tkC t us ur).set j v = tkC t' us' ur') (ho : adOk t'.g) : FT w (W.setCell ⟨w.heap.size, j, none⟩ v) t' us' ur' := by
  have h1 : ObjAt (W.setCell ⟨w.heap.size, j, none⟩ v) w.heap.size (tkC t' us' ur').toArray 28 := by
    have := ObjAt.set h.1.1 j v
    rw [List.setIfInBounds_toArray, e] at this
    exact this
  exact ⟨⟨h1, ho⟩, h.2.1.other _ _ (by simp), h.2.2.setCell (p := ⟨w.heap.size, j, none⟩) (Nat.le_refl _) v⟩
theorem FT.c {w W : World} {t : TK} {us ur : Value} (h : FT w W t us ur) : W.cell? ⟨w.heap.size, 24, none⟩ = some us ∧ W.cell? ⟨w.heap.size, 25, none⟩ = some ur ∧ (∀ j, W.frozen? ⟨w.heap.size, j, none⟩ = false) := ⟨h.1.us, h.1.ur, fun j => ObjAt.free h.1.1 j⟩
theorem FT.done {w W : World} {t : TK} {us ur : Value} (h : FT w W t us ur) (hs : AdsT W us t.src) (hr : RcT W ur t.rcs) :
    row? (aggW W (w.heap.size + 1) (tkC t us ur)) (w.heap.size + 1) 0 26 = some (tkC t us ur) ∧ Below w.heap.size w (aggW W (w.heap.size + 1) (tkC t us ur)) ∧ AdsT (aggW W (w.heap.size + 1) (tkC t us ur)) us t.src ∧ RcT (aggW W (w.heap.size + 1) (tkC t us ur)) ur t.rcs :=
  ⟨aggW_row (obj_free h.2.1 (by simp)) (tkC_length h.1.2 _ _), aggW_below h.2.2 (by omega) _, hs.grown h.2.1 (aggW_grown _ _ _), hr.grown h.2.1 (aggW_grown _ _ _)⟩
theorem fewT_few (t : TK) : fewT (fewT t) = fewT t := by
  unfold fewT
  simp only [List.take_take, Nat.min_self, TK.mk.injEq, true_and]
  rw [← List.map_take, List.take_take, Nat.min_self, List.map_map]
  apply List.map_congr_left
  intro r _
  simp [cutR, List.take_take]
theorem fewT_ok {t : TK} (h : t.ok) : (fewT t).ok := by
  obtain ⟨h1, h2, h3⟩ := h
  refine ⟨h1, fun a ha => h2 a (List.mem_of_mem_take ha), fun r hr => ?_⟩
  obtain ⟨x, hx, rfl⟩ := List.mem_map.1 hr
  obtain ⟨g1, g2⟩ := h3 x (List.mem_of_mem_take hx)
  exact ⟨g1, fun a ha => g2 a (List.mem_of_mem_take ha)⟩
theorem fewT_len (t : TK) : (fewT t).rcs.length ≤ 6 := by
  show ((t.rcs.take 6).map cutR).length ≤ 6
  rw [List.length_map, List.length_take]; omega
set_option maxRecDepth 100000 in
set_option maxHeartbeats 4000000 in
theorem lfew_any (t : TK) (us0 ur0 : Value) (w : World) (ho : adOk t.g) (ha : Ads w us0 t.src) (hr : Rcs w ur0 t.rcs) : Calls Try.prog 6 #[.agg (tkC t us0 ur0).toArray] w fun x w' => ∃ us ur, x = .returned (.agg (tkC (fewT t) us ur).toArray) ∧ Below w.heap.size w w' ∧ AdsT w' us (fewT t).src ∧ RcT w' ur (fewT t).rcs := by
  have H0 := Lib.hid (FT.made w t us0 ur0 ho)
  have HO := Lib.hid ho
  have HAD : Hid (∀ W, Below w.heap.size w W → Calls Try.prog 18 #[us0, .int .i64 6] W fun x w' => ∃ v', x = .returned v' ∧ Below W.heap.size W w' ∧ AdsT w' v' (t.src.take 6)) := Lib.hid fun W h => laddrs_any us0 t.src 6 (by omega) W (ha.below h)
  have HRD : Hid (∀ W, Below w.heap.size w W → Calls Try.prog 21 #[ur0, .int .i64 6] W fun x w' => ∃ v', x = .returned v' ∧ Below W.heap.size W w' ∧ RcT w' v' ((t.rcs.take 6).map cutR)) := Lib.hid fun W h => lrecs_any ur0 t.rcs 6 (by omega) W (hr.below h)
  obtain ⟨L1, hL1⟩ : ∃ l, l = t.src.take 6 := ⟨_, rfl⟩
  obtain ⟨L2, hL2⟩ : ∃ l, l = (t.rcs.take 6).map cutR := ⟨_, rfl⟩
  rw [← hL1] at HAD
  rw [← hL2] at HRD
  have HF : Hid (fewT t = ⟨t.v6, t.ver, t.kind, t.resp, t.g, t.quiet, t.rob, t.every, L1, L2⟩) := Lib.hid (by rw [hL1, hL2]; rfl)
  generalize fewT t = F at HF ⊢
  clear hL1 hL2 ha hr ho
  go_enter Try.func6, Try.ntmps6
  go_upto_region 1 with (fail)
  generalize (w.alloc (.cells (tkC t us0 ur0).toArray 28)).alloc (.cells #[.bool false, .int .i64 0, .int .i64 0, .int .i64 0, .bool false, .int .u8 0, .int .u8 0, .int .u8 0, .int .u8 0, .int .u8 0, .int .u8 0, .int .u8 0, .int .u8 0, .int .u8 0, .int .u8 0, .int .u8 0, .int .u8 0, .int .u8 0, .int .u8 0, .int .u8 0, .int .u8 0, .bool false, .int .i64 0, .int .i64 0, .slice none 0 0, .slice none 0 0] 28) = W at H0 ⊢
  go_cut [] from 3 (fun wr => ∃ us ur, FT w wr ⟨t.v6, t.ver, t.kind, t.resp, t.g, t.quiet, t.rob, t.every, L1, L2⟩ us ur ∧ AdsT wr us L1 ∧ RcT wr ur L2)
  case first =>
    refine wp_region_held_drew (S := fun _ => True) (by kernel_rfl) (trivial) (fun hHeld => ?_)
    have Ha := Lib.hid (show FT w W.drew t us0 ur0 from H0.out.below ⟨rfl, rfl, rfl, Nat.le_refl _, fun _ _ => rfl⟩)
    generalize W.drew = wa at Ha ⊢
    have HBa := Lib.hid Ha.out.2.2
    obtain ⟨k1, k2, k3⟩ := Ha.out.c
    refine wpAnyH_take (i := 0) (oi := { dst := some 3, op := _, type := _, pos := _, after := _, guard := _ }) (v := ?v1) rfl (by kernel_rfl) (by kernel_rfl) (by kernel_rfl) (fun _ _ _ h => h) (Or.inl ⟨by rfl, ?y1⟩) (by assumption) ?r1
    case y1 => (intro w hSw; go_simp; try with_reducible rfl)
    try simp only [Act.put, List.setIfInBounds_toArray, List.set_cons_zero, List.set_cons_succ]
    refine wpAnyH_take (i := 3) (oi := { dst := some 6, op := _, type := _, pos := _, after := _, guard := _ }) (v := ?v2) rfl (by kernel_rfl) (by kernel_rfl) (by kernel_rfl) (fun _ _ _ h => h) (Or.inl ⟨by rfl, ?y2⟩) (by assumption) ?r2
    case y2 => (intro w hSw; go_simp; try with_reducible rfl)
    try simp only [Act.put, List.setIfInBounds_toArray, List.set_cons_zero, List.set_cons_succ]
    refine wpAnyH_ready (rs := [1, 4]) (by kernel_rfl) (by simp) (AllReadyH.cons (o := _) rfl (fun K hK => ?_) (AllReadyH.cons (o := _) rfl (fun K hK => ?_) AllReadyH.nil))
    · go_simp
      refine hK.out _ _ (trivial) (fun hHeld => ?_)
      clear hK K
      try simp only [Act.put, List.setIfInBounds_toArray, List.set_cons_zero, List.set_cons_succ]
      refine wpAnyH_ready (rs := [2, 4]) (by kernel_rfl) (by simp) (AllReadyH.cons (o := _) rfl (fun K hK => ?_) (AllReadyH.cons (o := _) rfl (fun K hK => ?_) AllReadyH.nil))
      · go_simp
        (go_at_call 18; (with_reducible refine (HAD.out _ HBa.out).mono ?_); rintro x wb ⟨v2, rfl, hb2, ha2⟩; obtain ⟨pp2, cc2, ev2, hl2, hc2⟩ := ha2.1.len; subst ev2; have Hb := Lib.hid (Ha.out.below hb2); have HBb := Lib.hid Hb.out.2.2; have HA := Lib.hid ha2; clear hb2 ha2 k1 k2 k3; obtain ⟨k1, k2, k3⟩ := Hb.out.c)
        try go_wp2_with fail
        refine hK.out _ _ (trivial) (fun hHeld => ?_)
        clear hK K
        try simp only [Act.put, List.setIfInBounds_toArray, List.set_cons_zero, List.set_cons_succ]
        refine wpAnyH_ready (rs := [4]) (by kernel_rfl) (by simp) (AllReadyH.cons (o := _) rfl (fun K hK => ?_) AllReadyH.nil)
        go_simp
        refine hK.out _ _ (trivial) (fun hHeld => ?_)
        clear hK K
        try simp only [Act.put, List.setIfInBounds_toArray, List.set_cons_zero, List.set_cons_succ]
        refine wpAnyH_take (i := 6) (oi := { dst := some 9, op := _, type := _, pos := _, after := _, guard := _ }) (v := ?v3) rfl (by kernel_rfl) (by kernel_rfl) (by kernel_rfl) (fun _ _ _ h => h) (Or.inl ⟨by rfl, ?y3⟩) (by assumption) ?r3
        case y3 => (intro w hSw; go_simp; try with_reducible rfl)
        try simp only [Act.put, List.setIfInBounds_toArray, List.set_cons_zero, List.set_cons_succ]
        refine wpAnyH_ready (rs := [5]) (by kernel_rfl) (by simp) (AllReadyH.cons (o := _) rfl (fun K hK => ?_) AllReadyH.nil)
        go_simp
        (go_at_call 21; (with_reducible refine (HRD.out _ HBb.out).mono ?_); rintro x wc ⟨v5, rfl, hb5, ha5⟩; obtain ⟨pp5, cc5, ev5, hl5, hc5⟩ := ha5.rcs.len; subst ev5; have Hc := Lib.hid (Hb.out.below hb5); have HBc := Lib.hid Hc.out.2.2; have HA5 := Lib.hid (HA.out.below hb5); have HR5 := Lib.hid ha5; clear hb5 ha5 k1 k2 k3; obtain ⟨k1, k2, k3⟩ := Hc.out.c)
        try go_wp2_with fail
        refine hK.out _ _ (trivial) (fun hHeld => ?_)
        clear hK K
        try simp only [Act.put, List.setIfInBounds_toArray, List.set_cons_zero, List.set_cons_succ]
        refine wpAnyH_ready (rs := [7]) (by kernel_rfl) (by simp) (AllReadyH.cons (o := _) rfl (fun K hK => ?_) AllReadyH.nil)
        go_simp
        refine hK.out _ _ (trivial) (fun hHeld => ?_)
        clear hK K
        try simp only [Act.put, List.setIfInBounds_toArray, List.set_cons_zero, List.set_cons_succ]
        have Hd := Lib.hid (Hc.out.set 24 (.slice pp2 L1.length cc2) (tkC_src t us0 ur0 HO.out (.slice pp2 L1.length cc2) L1) HO.out)
        have HAd := Lib.hid (HA5.out.grown Hc.out.1.1 (gset _ _ 24 (.slice pp2 L1.length cc2)))
        have HRd := Lib.hid (HR5.out.grown Hc.out.1.1 (gset _ _ 24 (.slice pp2 L1.length cc2)))
        generalize World.setCell wc ⟨w.heap.size, 24, none⟩ _ = wd at Hd HAd HRd ⊢
        clear k1 k2 k3
        obtain ⟨k1, k2, k3⟩ := Hd.out.c
        refine wpAnyH_take (i := 8) (oi := { dst := some 10, op := _, type := _, pos := _, after := _, guard := _ }) (v := ?v4) rfl (by kernel_rfl) (by kernel_rfl) (by kernel_rfl) (fun _ _ _ h => h) (Or.inl ⟨by rfl, ?y4⟩) (by assumption) ?r4
        case y4 => (intro w hSw; go_simp; try with_reducible rfl)
        try simp only [Act.put, List.setIfInBounds_toArray, List.set_cons_zero, List.set_cons_succ]
        refine wpAnyH_ready (rs := [9]) (by kernel_rfl) (by simp) (AllReadyH.cons (o := _) rfl (fun K hK => ?_) AllReadyH.nil)
        go_simp
        refine hK.out _ _ (trivial) (fun hHeld => ?_)
        clear hK K
        try simp only [Act.put, List.setIfInBounds_toArray, List.set_cons_zero, List.set_cons_succ]
        have He := Lib.hid (Hd.out.set 25 (.slice pp5 L2.length cc5) (tkC_rcs _ _ _ HO.out (.slice pp5 L2.length cc5) L2) HO.out)
        have HAe := Lib.hid (HAd.out.grown Hd.out.1.1 (gset _ _ 25 (.slice pp5 L2.length cc5)))
        have HRe := Lib.hid (HRd.out.grown Hd.out.1.1 (gset _ _ 25 (.slice pp5 L2.length cc5)))
        generalize World.setCell wd ⟨w.heap.size, 25, none⟩ _ = we at He HAe HRe ⊢
        clear k1 k2 k3
        refine wpAnyH_done (by kernel_rfl) ?_ _
        go_wp2_with fail
        go_meet
        case rel => exact ⟨_, _, He.out, HAe.out, HRe.out⟩
      · go_simp
        refine hK.out _ _ (trivial) (fun hHeld => ?_)
        clear hK K
        try simp only [Act.put, List.setIfInBounds_toArray, List.set_cons_zero, List.set_cons_succ]
        refine wpAnyH_ready (rs := [2]) (by kernel_rfl) (by simp) (AllReadyH.cons (o := _) rfl (fun K hK => ?_) AllReadyH.nil)
        go_simp
        (go_at_call 18; (with_reducible refine (HAD.out _ HBa.out).mono ?_); rintro x wb ⟨v2, rfl, hb2, ha2⟩; obtain ⟨pp2, cc2, ev2, hl2, hc2⟩ := ha2.1.len; subst ev2; have Hb := Lib.hid (Ha.out.below hb2); have HBb := Lib.hid Hb.out.2.2; have HA := Lib.hid ha2; clear hb2 ha2 k1 k2 k3; obtain ⟨k1, k2, k3⟩ := Hb.out.c)
        try go_wp2_with fail
        refine hK.out _ _ (trivial) (fun hHeld => ?_)
        clear hK K
        try simp only [Act.put, List.setIfInBounds_toArray, List.set_cons_zero, List.set_cons_succ]
        refine wpAnyH_take (i := 6) (oi := { dst := some 9, op := _, type := _, pos := _, after := _, guard := _ }) (v := ?v5) rfl (by kernel_rfl) (by kernel_rfl) (by kernel_rfl) (fun _ _ _ h => h) (Or.inl ⟨by rfl, ?y5⟩) (by assumption) ?r5
        case y5 => (intro w hSw; go_simp; try with_reducible rfl)
        try simp only [Act.put, List.setIfInBounds_toArray, List.set_cons_zero, List.set_cons_succ]
        refine wpAnyH_ready (rs := [5]) (by kernel_rfl) (by simp) (AllReadyH.cons (o := _) rfl (fun K hK => ?_) AllReadyH.nil)
        go_simp
        (go_at_call 21; (with_reducible refine (HRD.out _ HBb.out).mono ?_); rintro x wc ⟨v5, rfl, hb5, ha5⟩; obtain ⟨pp5, cc5, ev5, hl5, hc5⟩ := ha5.rcs.len; subst ev5; have Hc := Lib.hid (Hb.out.below hb5); have HBc := Lib.hid Hc.out.2.2; have HA5 := Lib.hid (HA.out.below hb5); have HR5 := Lib.hid ha5; clear hb5 ha5 k1 k2 k3; obtain ⟨k1, k2, k3⟩ := Hc.out.c)
        try go_wp2_with fail
        refine hK.out _ _ (trivial) (fun hHeld => ?_)
        clear hK K
        try simp only [Act.put, List.setIfInBounds_toArray, List.set_cons_zero, List.set_cons_succ]
        refine wpAnyH_ready (rs := [7]) (by kernel_rfl) (by simp) (AllReadyH.cons (o := _) rfl (fun K hK => ?_) AllReadyH.nil)
        go_simp
        refine hK.out _ _ (trivial) (fun hHeld => ?_)
        clear hK K
        try simp only [Act.put, List.setIfInBounds_toArray, List.set_cons_zero, List.set_cons_succ]
        have Hd := Lib.hid (Hc.out.set 24 (.slice pp2 L1.length cc2) (tkC_src t us0 ur0 HO.out (.slice pp2 L1.length cc2) L1) HO.out)
        have HAd := Lib.hid (HA5.out.grown Hc.out.1.1 (gset _ _ 24 (.slice pp2 L1.length cc2)))
        have HRd := Lib.hid (HR5.out.grown Hc.out.1.1 (gset _ _ 24 (.slice pp2 L1.length cc2)))
        generalize World.setCell wc ⟨w.heap.size, 24, none⟩ _ = wd at Hd HAd HRd ⊢
        clear k1 k2 k3
        obtain ⟨k1, k2, k3⟩ := Hd.out.c
        refine wpAnyH_take (i := 8) (oi := { dst := some 10, op := _, type := _, pos := _, after := _, guard := _ }) (v := ?v6) rfl (by kernel_rfl) (by kernel_rfl) (by kernel_rfl) (fun _ _ _ h => h) (Or.inl ⟨by rfl, ?y6⟩) (by assumption) ?r6
        case y6 => (intro w hSw; go_simp; try with_reducible rfl)
        try simp only [Act.put, List.setIfInBounds_toArray, List.set_cons_zero, List.set_cons_succ]
        refine wpAnyH_ready (rs := [9]) (by kernel_rfl) (by simp) (AllReadyH.cons (o := _) rfl (fun K hK => ?_) AllReadyH.nil)
        go_simp
        refine hK.out _ _ (trivial) (fun hHeld => ?_)
        clear hK K
        try simp only [Act.put, List.setIfInBounds_toArray, List.set_cons_zero, List.set_cons_succ]
        have He := Lib.hid (Hd.out.set 25 (.slice pp5 L2.length cc5) (tkC_rcs _ _ _ HO.out (.slice pp5 L2.length cc5) L2) HO.out)
        have HAe := Lib.hid (HAd.out.grown Hd.out.1.1 (gset _ _ 25 (.slice pp5 L2.length cc5)))
        have HRe := Lib.hid (HRd.out.grown Hd.out.1.1 (gset _ _ 25 (.slice pp5 L2.length cc5)))
        generalize World.setCell wd ⟨w.heap.size, 25, none⟩ _ = we at He HAe HRe ⊢
        clear k1 k2 k3
        refine wpAnyH_done (by kernel_rfl) ?_ _
        go_wp2_with fail
        go_meet
        case rel => exact ⟨_, _, He.out, HAe.out, HRe.out⟩
    · go_simp
      refine hK.out _ _ (trivial) (fun hHeld => ?_)
      clear hK K
      try simp only [Act.put, List.setIfInBounds_toArray, List.set_cons_zero, List.set_cons_succ]
      refine wpAnyH_ready (rs := [1]) (by kernel_rfl) (by simp) (AllReadyH.cons (o := _) rfl (fun K hK => ?_) AllReadyH.nil)
      go_simp
      refine hK.out _ _ (trivial) (fun hHeld => ?_)
      clear hK K
      try simp only [Act.put, List.setIfInBounds_toArray, List.set_cons_zero, List.set_cons_succ]
      refine wpAnyH_ready (rs := [2]) (by kernel_rfl) (by simp) (AllReadyH.cons (o := _) rfl (fun K hK => ?_) AllReadyH.nil)
      go_simp
      (go_at_call 18; (with_reducible refine (HAD.out _ HBa.out).mono ?_); rintro x wb ⟨v2, rfl, hb2, ha2⟩; obtain ⟨pp2, cc2, ev2, hl2, hc2⟩ := ha2.1.len; subst ev2; have Hb := Lib.hid (Ha.out.below hb2); have HBb := Lib.hid Hb.out.2.2; have HA := Lib.hid ha2; clear hb2 ha2 k1 k2 k3; obtain ⟨k1, k2, k3⟩ := Hb.out.c)
      try go_wp2_with fail
      refine hK.out _ _ (trivial) (fun hHeld => ?_)
      clear hK K
      try simp only [Act.put, List.setIfInBounds_toArray, List.set_cons_zero, List.set_cons_succ]
      refine wpAnyH_take (i := 6) (oi := { dst := some 9, op := _, type := _, pos := _, after := _, guard := _ }) (v := ?v7) rfl (by kernel_rfl) (by kernel_rfl) (by kernel_rfl) (fun _ _ _ h => h) (Or.inl ⟨by rfl, ?y7⟩) (by assumption) ?r7
      case y7 => (intro w hSw; go_simp; try with_reducible rfl)
      try simp only [Act.put, List.setIfInBounds_toArray, List.set_cons_zero, List.set_cons_succ]
      refine wpAnyH_ready (rs := [5]) (by kernel_rfl) (by simp) (AllReadyH.cons (o := _) rfl (fun K hK => ?_) AllReadyH.nil)
      go_simp
      (go_at_call 21; (with_reducible refine (HRD.out _ HBb.out).mono ?_); rintro x wc ⟨v5, rfl, hb5, ha5⟩; obtain ⟨pp5, cc5, ev5, hl5, hc5⟩ := ha5.rcs.len; subst ev5; have Hc := Lib.hid (Hb.out.below hb5); have HBc := Lib.hid Hc.out.2.2; have HA5 := Lib.hid (HA.out.below hb5); have HR5 := Lib.hid ha5; clear hb5 ha5 k1 k2 k3; obtain ⟨k1, k2, k3⟩ := Hc.out.c)
      try go_wp2_with fail
      refine hK.out _ _ (trivial) (fun hHeld => ?_)
      clear hK K
      try simp only [Act.put, List.setIfInBounds_toArray, List.set_cons_zero, List.set_cons_succ]
      refine wpAnyH_ready (rs := [7]) (by kernel_rfl) (by simp) (AllReadyH.cons (o := _) rfl (fun K hK => ?_) AllReadyH.nil)
      go_simp
      refine hK.out _ _ (trivial) (fun hHeld => ?_)
      clear hK K
      try simp only [Act.put, List.setIfInBounds_toArray, List.set_cons_zero, List.set_cons_succ]
      have Hd := Lib.hid (Hc.out.set 24 (.slice pp2 L1.length cc2) (tkC_src t us0 ur0 HO.out (.slice pp2 L1.length cc2) L1) HO.out)
      have HAd := Lib.hid (HA5.out.grown Hc.out.1.1 (gset _ _ 24 (.slice pp2 L1.length cc2)))
      have HRd := Lib.hid (HR5.out.grown Hc.out.1.1 (gset _ _ 24 (.slice pp2 L1.length cc2)))
      generalize World.setCell wc ⟨w.heap.size, 24, none⟩ _ = wd at Hd HAd HRd ⊢
      clear k1 k2 k3
      obtain ⟨k1, k2, k3⟩ := Hd.out.c
      refine wpAnyH_take (i := 8) (oi := { dst := some 10, op := _, type := _, pos := _, after := _, guard := _ }) (v := ?v8) rfl (by kernel_rfl) (by kernel_rfl) (by kernel_rfl) (fun _ _ _ h => h) (Or.inl ⟨by rfl, ?y8⟩) (by assumption) ?r8
      case y8 => (intro w hSw; go_simp; try with_reducible rfl)
      try simp only [Act.put, List.setIfInBounds_toArray, List.set_cons_zero, List.set_cons_succ]
      refine wpAnyH_ready (rs := [9]) (by kernel_rfl) (by simp) (AllReadyH.cons (o := _) rfl (fun K hK => ?_) AllReadyH.nil)
      go_simp
      refine hK.out _ _ (trivial) (fun hHeld => ?_)
      clear hK K
      try simp only [Act.put, List.setIfInBounds_toArray, List.set_cons_zero, List.set_cons_succ]
      have He := Lib.hid (Hd.out.set 25 (.slice pp5 L2.length cc5) (tkC_rcs _ _ _ HO.out (.slice pp5 L2.length cc5) L2) HO.out)
      have HAe := Lib.hid (HAd.out.grown Hd.out.1.1 (gset _ _ 25 (.slice pp5 L2.length cc5)))
      have HRe := Lib.hid (HRd.out.grown Hd.out.1.1 (gset _ _ 25 (.slice pp5 L2.length cc5)))
      generalize World.setCell wd ⟨w.heap.size, 25, none⟩ _ = we at He HAe HRe ⊢
      clear k1 k2 k3
      refine wpAnyH_done (by kernel_rfl) ?_ _
      go_wp2_with fail
      go_meet
      case rel => exact ⟨_, _, He.out, HAe.out, HRe.out⟩
  case rest =>
    obtain ⟨us, ur, hg, hs, hr⟩ := hcut
    have H1 := Lib.hid hg
    have hrow := hg.1.row
    have hfr : free? wc (w.heap.size + 1) 0 26 = true := obj_free hg.2.1 (by simp)
    have hfk : fok (tkC _ us ur).toArray 26 = true := fok_tk hg.1.2 hs.1.one hr.rcs.one
    have HD := Lib.hid (hg.done hs hr)
    clear hg hs hr
    repeat (first | go_values | go_skip | go_guarded | go_step | go_upon | go_in)
    obtain ⟨q1, q2, q3, q4⟩ := HD.out
    exact bodyPost_ret (results_cell Try.results6 rfl (ld_some q1 (ldr_tk _ _ _))) rfl ⟨us, ur, by rw [HF.out], q2, by rw [HF.out]; exact q3, by rw [HF.out]; exact q4⟩
end Go.Proofs.Ytacnhelnpngkgaa

/-
  Texts joined: TlH, FrX.
-/
import Derived.Test.YtlbdehegknehiaaGreatMg00
import Derived.Test.YtlbdehegknehiaaGreatMg46
import Derived.Test.YtlbdehegknehiaaGreatMg43
import Derived.Test.YtlbdehegknehiaaGreatMg45
/- A part of the proof. -/
namespace Go.Proofs.YtlbdehegknehiaaGreat
set_option maxRecDepth 100000
set_option maxHeartbeats 4000000
open Go.RowKit
set_option linter.unusedVariables false
set_option linter.unusedSimpArgs false
attribute [local go_sem ↓] ld_addr st_addr bld_addr ld_tk st_tk bld_tk
attribute [local go_sem] ldr_addr str_addr ldr_tk str_tk
def fewT (t : TK) : TK := ⟨t.v6, t.ver, t.kind, t.resp, t.g, t.quiet, t.rob, t.every, t.src.take 6, (t.rcs.take 6).map cutR⟩
def FT (w W : World) (t : TK) (us ur : Value) : Prop := TkAt W w.heap.size t us ur ∧ ObjAt W (w.heap.size + 1) zz26 28 ∧ Below w.heap.size w W
theorem FT.made (w : World) (t : TK) (us ur : Value) (h : adOk t.g) : FT w ((w.alloc (.cells (tkC t us ur).toArray 28)).alloc (.cells zz26 28)) t us ur := by
  have s1 : (w.alloc (.cells (tkC t us ur).toArray 28)).heap.size = w.heap.size + 1 := by simp
  have h1 := ObjAt.made (w.alloc (.cells (tkC t us ur).toArray 28)) zz26 28
  rw [s1] at h1
  exact ⟨⟨ObjAt.alloc (TkAt.made w t us ur h).1 _, h⟩, h1, ((Below.refl _ _).alloc (Nat.le_refl _) _).alloc (by simp) _⟩
theorem FT.below {w W W' : World} {t : TK} {us ur : Value} (h : FT w W t us ur) (hb : Below W.heap.size W W') : FT w W' t us ur := ⟨h.1.below hb, h.2.1.below hb h.2.1.lt, bstep h.2.2 hb⟩
theorem FT.set {w W : World} {t t' : TK} {us ur us' ur' : Value} (h : FT w W t us ur) (j : Nat) (v : Value) (e : (tkC t us ur).set j v = tkC t' us' ur') (ho : adOk t'.g) : FT w (W.setCell ⟨w.heap.size, j, none⟩ v) t' us' ur' := by
  have h1 : ObjAt (W.setCell ⟨w.heap.size, j, none⟩ v) w.heap.size (tkC t' us' ur').toArray 28 := by
    have := ObjAt.set h.1.1 j v
    rw [zsA, e] at this
    exact this
  exact ⟨⟨h1, ho⟩, h.2.1.other _ _ (by simp), h.2.2.setCell (p := ⟨w.heap.size, j, none⟩) (Nat.le_refl _) v⟩
theorem FT.c {w W : World} {t : TK} {us ur : Value} (h : FT w W t us ur) : W.cell? ⟨w.heap.size, 24, none⟩ = some us ∧ W.cell? ⟨w.heap.size, 25, none⟩ = some ur ∧ (∀ j, W.frozen? ⟨w.heap.size, j, none⟩ = false) := ⟨h.1.us, h.1.ur, fun j => ObjAt.free h.1.1 j⟩
theorem FT.done {w W : World} {t : TK} {us ur : Value} (h : FT w W t us ur) (hs : AdsT W us t.src) (hr : RcT W ur t.rcs) :
    row? (aggW W (w.heap.size + 1) (tkC t us ur)) (w.heap.size + 1) 0 26 = some (tkC t us ur) ∧ Below w.heap.size w (aggW W (w.heap.size + 1) (tkC t us ur)) ∧ AdsT (aggW W (w.heap.size + 1) (tkC t us ur)) us t.src ∧ RcT (aggW W (w.heap.size + 1) (tkC t us ur)) ur t.rcs :=
  ⟨aggW_row (obj_free h.2.1 (by simp)) (tkC_length h.1.2 _ _), aggW_below h.2.2 (by omega) _, hs.grown h.2.1 (aggW_grown _ _ _), hr.grown h.2.1 (aggW_grown _ _ _)⟩
theorem fewT_few (t : TK) : fewT (fewT t) = fewT t := by
  unfold fewT
  simp only [List.take_take, Nat.min_self, TK.mk.injEq, true_and]
  rw [← List.map_take, List.take_take, Nat.min_self, List.map_map]
  apply List.map_congr_left
  intro r _
  simp [cutR, List.take_take]
theorem fewT_ok {t : TK} (h : t.ok) : (fewT t).ok := by
  obtain ⟨h1, h2, h3⟩ := h
  refine ⟨h1, fun a ha => h2 a (List.mem_of_mem_take ha), fun r hr => ?_⟩
  obtain ⟨x, hx, rfl⟩ := List.mem_map.1 hr
  obtain ⟨g1, g2⟩ := h3 x (List.mem_of_mem_take hx)
  exact ⟨g1, fun a ha => g2 a (List.mem_of_mem_take ha)⟩
theorem fewT_len (t : TK) : (fewT t).rcs.length ≤ 6 := by
  show ((t.rcs.take 6).map cutR).length ≤ 6
  rw [List.length_map, List.length_take]; omega
theorem lfew_any (t : TK) (us0 ur0 : Value) (w : World) (ho : adOk t.g) (ha : Ads w us0 t.src) (hr : Rcs w ur0 t.rcs) : Calls Tryz.prog 17 #[.agg (tkC t us0 ur0).toArray] w fun x w' => ∃ us ur, x = .returned (.agg (tkC (fewT t) us ur).toArray) ∧ Below w.heap.size w w' ∧ AdsT w' us (fewT t).src ∧ RcT w' ur (fewT t).rcs := by
  have H0 := zh (FT.made w t us0 ur0 ho)
  have HO := zh ho
  have HAD : Hid (∀ W, Below w.heap.size w W → Calls Tryz.prog 54 #[us0, .int .i64 6] W fun x w' => ∃ v', x = .returned v' ∧ Below W.heap.size W w' ∧ AdsT w' v' (t.src.take 6)) := zh fun W h => laddrs_any us0 t.src 6 (by omega) W (ha.below h)
  have HRD : Hid (∀ W, Below w.heap.size w W → Calls Tryz.prog 55 #[ur0, .int .i64 6] W fun x w' => ∃ v', x = .returned v' ∧ Below W.heap.size W w' ∧ RcT w' v' ((t.rcs.take 6).map cutR)) := zh fun W h => lrecs_any ur0 t.rcs 6 (by omega) W (hr.below h)
  obtain ⟨L1, hL1⟩ : ∃ l, l = t.src.take 6 := ⟨_, rfl⟩
  obtain ⟨L2, hL2⟩ : ∃ l, l = (t.rcs.take 6).map cutR := ⟨_, rfl⟩
  rw [← hL1] at HAD
  rw [← hL2] at HRD
  have HF : Hid (fewT t = ⟨t.v6, t.ver, t.kind, t.resp, t.g, t.quiet, t.rob, t.every, L1, L2⟩) := zh (by rw [hL1, hL2]; rfl)
  generalize fewT t = F at HF ⊢
  clear hL1 hL2 ha hr ho
  go_enter Tryz.func17, Tryz.ntmps17
  go_upto_region 1 with (fail)
  generalize (w.alloc (.cells (tkC t us0 ur0).toArray 28)).alloc (.cells zz26 28) = W at H0 ⊢
  go_cut [] from 3 (fun wr => ∃ us ur, FT w wr ⟨t.v6, t.ver, t.kind, t.resp, t.g, t.quiet, t.rob, t.every, L1, L2⟩ us ur ∧ AdsT wr us L1 ∧ RcT wr ur L2)
  case first =>
    refine wp_region_held_drew (S := fun _ => True) (by kernel_rfl) (trivial) (fun hHeld => ?_)
    have Ha := zh (show FT w W.drew t us0 ur0 from H0.out.below ⟨rfl, rfl, rfl, Nat.le_refl _, fun _ _ => rfl⟩)
    generalize W.drew = wa at Ha ⊢
    have HBa := zh Ha.out.2.2
    obtain ⟨k1, k2, k3⟩ := Ha.out.c
    refine wpAnyH_take (i := 0) (oi := { dst := some 3, op := _, type := _, pos := _, after := _, guard := _ }) (v := ?v1) rfl (by kernel_rfl) (by kernel_rfl) (by kernel_rfl) (fun _ _ _ h => h) (Or.inl ⟨by rfl, ?y1⟩) (by assumption) ?r1
    case y1 => (intro w hSw; go_simp; try with_reducible rfl)
    try simp only [Act.put, zsA, zsZ, zsS]
    refine wpAnyH_take (i := 3) (oi := { dst := some 6, op := _, type := _, pos := _, after := _, guard := _ }) (v := ?v2) rfl (by kernel_rfl) (by kernel_rfl) (by kernel_rfl) (fun _ _ _ h => h) (Or.inl ⟨by rfl, ?y2⟩) (by assumption) ?r2
    case y2 => (intro w hSw; go_simp; try with_reducible rfl)
    try simp only [Act.put, zsA, zsZ, zsS]
    refine wpAnyH_ready (rs := [1, 4]) (by kernel_rfl) (by simp) (AllReadyH.cons (o := _) rfl (fun K hK => ?_) (AllReadyH.cons (o := _) rfl (fun K hK => ?_) AllReadyH.nil))
    · go_simp
      refine hK.out _ _ (trivial) (fun hHeld => ?_)
      clear hK K
      try simp only [Act.put, zsA, zsZ, zsS]
      refine wpAnyH_ready (rs := [2, 4]) (by kernel_rfl) (by simp) (AllReadyH.cons (o := _) rfl (fun K hK => ?_) (AllReadyH.cons (o := _) rfl (fun K hK => ?_) AllReadyH.nil))
      · go_simp
        (go_at_call 54; (with_reducible refine (HAD.out _ HBa.out).mono ?_); rintro x wb ⟨v2, rfl, hb2, ha2⟩; obtain ⟨pp2, cc2, ev2, hl2, hc2⟩ := ha2.1.len; subst ev2; have Hb := zh (Ha.out.below hb2); have HBb := zh Hb.out.2.2; have HA := zh ha2; clear hb2 ha2 k1 k2 k3; obtain ⟨k1, k2, k3⟩ := Hb.out.c)
        try go_wp2_with fail
        refine hK.out _ _ (trivial) (fun hHeld => ?_)
        clear hK K
        try simp only [Act.put, zsA, zsZ, zsS]
        refine wpAnyH_ready (rs := [4]) (by kernel_rfl) (by simp) (AllReadyH.cons (o := _) rfl (fun K hK => ?_) AllReadyH.nil)
        go_simp
        refine hK.out _ _ (trivial) (fun hHeld => ?_)
        clear hK K
        try simp only [Act.put, zsA, zsZ, zsS]
        refine wpAnyH_take (i := 6) (oi := { dst := some 9, op := _, type := _, pos := _, after := _, guard := _ }) (v := ?v3) rfl (by kernel_rfl) (by kernel_rfl) (by kernel_rfl) (fun _ _ _ h => h) (Or.inl ⟨by rfl, ?y3⟩) (by assumption) ?r3
        case y3 => (intro w hSw; go_simp; try with_reducible rfl)
        try simp only [Act.put, zsA, zsZ, zsS]
        refine wpAnyH_ready (rs := [5]) (by kernel_rfl) (by simp) (AllReadyH.cons (o := _) rfl (fun K hK => ?_) AllReadyH.nil)
        go_simp
        (go_at_call 55; (with_reducible refine (HRD.out _ HBb.out).mono ?_); rintro x wc ⟨v5, rfl, hb5, ha5⟩; obtain ⟨pp5, cc5, ev5, hl5, hc5⟩ := ha5.rcs.len; subst ev5; have Hc := zh (Hb.out.below hb5); have HBc := zh Hc.out.2.2; have HA5 := zh (HA.out.below hb5); have HR5 := zh ha5; clear hb5 ha5 k1 k2 k3; obtain ⟨k1, k2, k3⟩ := Hc.out.c)
        try go_wp2_with fail
        refine hK.out _ _ (trivial) (fun hHeld => ?_)
        clear hK K
        try simp only [Act.put, zsA, zsZ, zsS]
        refine wpAnyH_ready (rs := [7]) (by kernel_rfl) (by simp) (AllReadyH.cons (o := _) rfl (fun K hK => ?_) AllReadyH.nil)
        go_simp
        refine hK.out _ _ (trivial) (fun hHeld => ?_)
        clear hK K
        try simp only [Act.put, zsA, zsZ, zsS]
        have Hd := zh (Hc.out.set 24 (.slice pp2 L1.length cc2) (tkC_src t us0 ur0 HO.out (.slice pp2 L1.length cc2) L1) HO.out)
        have HAd := zh (HA5.out.grown Hc.out.1.1 (gset _ _ 24 (.slice pp2 L1.length cc2)))
        have HRd := zh (HR5.out.grown Hc.out.1.1 (gset _ _ 24 (.slice pp2 L1.length cc2)))
        generalize World.setCell wc ⟨w.heap.size, 24, none⟩ _ = wd at Hd HAd HRd ⊢
        clear k1 k2 k3
        obtain ⟨k1, k2, k3⟩ := Hd.out.c
        refine wpAnyH_take (i := 8) (oi := { dst := some 10, op := _, type := _, pos := _, after := _, guard := _ }) (v := ?v4) rfl (by kernel_rfl) (by kernel_rfl) (by kernel_rfl) (fun _ _ _ h => h) (Or.inl ⟨by rfl, ?y4⟩) (by assumption) ?r4
        case y4 => (intro w hSw; go_simp; try with_reducible rfl)
        try simp only [Act.put, zsA, zsZ, zsS]
        refine wpAnyH_ready (rs := [9]) (by kernel_rfl) (by simp) (AllReadyH.cons (o := _) rfl (fun K hK => ?_) AllReadyH.nil)
        go_simp
        refine hK.out _ _ (trivial) (fun hHeld => ?_)
        clear hK K
        try simp only [Act.put, zsA, zsZ, zsS]
        have He := zh (Hd.out.set 25 (.slice pp5 L2.length cc5) (tkC_rcs _ _ _ HO.out (.slice pp5 L2.length cc5) L2) HO.out)
        have HAe := zh (HAd.out.grown Hd.out.1.1 (gset _ _ 25 (.slice pp5 L2.length cc5)))
        have HRe := zh (HRd.out.grown Hd.out.1.1 (gset _ _ 25 (.slice pp5 L2.length cc5)))
        generalize World.setCell wd ⟨w.heap.size, 25, none⟩ _ = we at He HAe HRe ⊢
        clear k1 k2 k3
        refine wpAnyH_done (by kernel_rfl) ?_ _
        go_wp2_with fail
        go_meet
        case rel => exact ⟨_, _, He.out, HAe.out, HRe.out⟩
      · go_simp
        refine hK.out _ _ (trivial) (fun hHeld => ?_)
        clear hK K
        try simp only [Act.put, zsA, zsZ, zsS]
        refine wpAnyH_ready (rs := [2]) (by kernel_rfl) (by simp) (AllReadyH.cons (o := _) rfl (fun K hK => ?_) AllReadyH.nil)
        go_simp
        (go_at_call 54; (with_reducible refine (HAD.out _ HBa.out).mono ?_); rintro x wb ⟨v2, rfl, hb2, ha2⟩; obtain ⟨pp2, cc2, ev2, hl2, hc2⟩ := ha2.1.len; subst ev2; have Hb := zh (Ha.out.below hb2); have HBb := zh Hb.out.2.2; have HA := zh ha2; clear hb2 ha2 k1 k2 k3; obtain ⟨k1, k2, k3⟩ := Hb.out.c)
        try go_wp2_with fail
        refine hK.out _ _ (trivial) (fun hHeld => ?_)
        clear hK K
        try simp only [Act.put, zsA, zsZ, zsS]
        refine wpAnyH_take (i := 6) (oi := { dst := some 9, op := _, type := _, pos := _, after := _, guard := _ }) (v := ?v5) rfl (by kernel_rfl) (by kernel_rfl) (by kernel_rfl) (fun _ _ _ h => h) (Or.inl ⟨by rfl, ?y5⟩) (by assumption) ?r5
        case y5 => (intro w hSw; go_simp; try with_reducible rfl)
        try simp only [Act.put, zsA, zsZ, zsS]
        refine wpAnyH_ready (rs := [5]) (by kernel_rfl) (by simp) (AllReadyH.cons (o := _) rfl (fun K hK => ?_) AllReadyH.nil)
        go_simp
        (go_at_call 55; (with_reducible refine (HRD.out _ HBb.out).mono ?_); rintro x wc ⟨v5, rfl, hb5, ha5⟩; obtain ⟨pp5, cc5, ev5, hl5, hc5⟩ := ha5.rcs.len; subst ev5; have Hc := zh (Hb.out.below hb5); have HBc := zh Hc.out.2.2; have HA5 := zh (HA.out.below hb5); have HR5 := zh ha5; clear hb5 ha5 k1 k2 k3; obtain ⟨k1, k2, k3⟩ := Hc.out.c)
        try go_wp2_with fail
        refine hK.out _ _ (trivial) (fun hHeld => ?_)
        clear hK K
        try simp only [Act.put, zsA, zsZ, zsS]
        refine wpAnyH_ready (rs := [7]) (by kernel_rfl) (by simp) (AllReadyH.cons (o := _) rfl (fun K hK => ?_) AllReadyH.nil)
        go_simp
        refine hK.out _ _ (trivial) (fun hHeld => ?_)
        clear hK K
        try simp only [Act.put, zsA, zsZ, zsS]
        have Hd := zh (Hc.out.set 24 (.slice pp2 L1.length cc2) (tkC_src t us0 ur0 HO.out (.slice pp2 L1.length cc2) L1) HO.out)
        have HAd := zh (HA5.out.grown Hc.out.1.1 (gset _ _ 24 (.slice pp2 L1.length cc2)))
        have HRd := zh (HR5.out.grown Hc.out.1.1 (gset _ _ 24 (.slice pp2 L1.length cc2)))
        generalize World.setCell wc ⟨w.heap.size, 24, none⟩ _ = wd at Hd HAd HRd ⊢
        clear k1 k2 k3
        obtain ⟨k1, k2, k3⟩ := Hd.out.c
        refine wpAnyH_take (i := 8) (oi := { dst := some 10, op := _, type := _, pos := _, after := _, guard := _ }) (v := ?v6) rfl (by kernel_rfl) (by kernel_rfl) (by kernel_rfl) (fun _ _ _ h => h) (Or.inl ⟨by rfl, ?y6⟩) (by assumption) ?r6
        case y6 => (intro w hSw; go_simp; try with_reducible rfl)
        try simp only [Act.put, zsA, zsZ, zsS]
        refine wpAnyH_ready (rs := [9]) (by kernel_rfl) (by simp) (AllReadyH.cons (o := _) rfl (fun K hK => ?_) AllReadyH.nil)
        go_simp
        refine hK.out _ _ (trivial) (fun hHeld => ?_)
        clear hK K
        try simp only [Act.put, zsA, zsZ, zsS]
        have He := zh (Hd.out.set 25 (.slice pp5 L2.length cc5) (tkC_rcs _ _ _ HO.out (.slice pp5 L2.length cc5) L2) HO.out)
        have HAe := zh (HAd.out.grown Hd.out.1.1 (gset _ _ 25 (.slice pp5 L2.length cc5)))
        have HRe := zh (HRd.out.grown Hd.out.1.1 (gset _ _ 25 (.slice pp5 L2.length cc5)))
        generalize World.setCell wd ⟨w.heap.size, 25, none⟩ _ = we at He HAe HRe ⊢
        clear k1 k2 k3
        refine wpAnyH_done (by kernel_rfl) ?_ _
        go_wp2_with fail
        go_meet
        case rel => exact ⟨_, _, He.out, HAe.out, HRe.out⟩
    · go_simp
      refine hK.out _ _ (trivial) (fun hHeld => ?_)
      clear hK K
      try simp only [Act.put, zsA, zsZ, zsS]
      refine wpAnyH_ready (rs := [1]) (by kernel_rfl) (by simp) (AllReadyH.cons (o := _) rfl (fun K hK => ?_) AllReadyH.nil)
      go_simp
      refine hK.out _ _ (trivial) (fun hHeld => ?_)
      clear hK K
      try simp only [Act.put, zsA, zsZ, zsS]
      refine wpAnyH_ready (rs := [2]) (by kernel_rfl) (by simp) (AllReadyH.cons (o := _) rfl (fun K hK => ?_) AllReadyH.nil)
      go_simp
      (go_at_call 54; (with_reducible refine (HAD.out _ HBa.out).mono ?_); rintro x wb ⟨v2, rfl, hb2, ha2⟩; obtain ⟨pp2, cc2, ev2, hl2, hc2⟩ := ha2.1.len; subst ev2; have Hb := zh (Ha.out.below hb2); have HBb := zh Hb.out.2.2; have HA := zh ha2; clear hb2 ha2 k1 k2 k3; obtain ⟨k1, k2, k3⟩ := Hb.out.c)
      try go_wp2_with fail
      refine hK.out _ _ (trivial) (fun hHeld => ?_)
      clear hK K
      try simp only [Act.put, zsA, zsZ, zsS]
      refine wpAnyH_take (i := 6) (oi := { dst := some 9, op := _, type := _, pos := _, after := _, guard := _ }) (v := ?v7) rfl (by kernel_rfl) (by kernel_rfl) (by kernel_rfl) (fun _ _ _ h => h) (Or.inl ⟨by rfl, ?y7⟩) (by assumption) ?r7
      case y7 => (intro w hSw; go_simp; try with_reducible rfl)
      try simp only [Act.put, zsA, zsZ, zsS]
      refine wpAnyH_ready (rs := [5]) (by kernel_rfl) (by simp) (AllReadyH.cons (o := _) rfl (fun K hK => ?_) AllReadyH.nil)
      go_simp
      (go_at_call 55; (with_reducible refine (HRD.out _ HBb.out).mono ?_); rintro x wc ⟨v5, rfl, hb5, ha5⟩; obtain ⟨pp5, cc5, ev5, hl5, hc5⟩ := ha5.rcs.len; subst ev5; have Hc := zh (Hb.out.below hb5); have HBc := zh Hc.out.2.2; have HA5 := zh (HA.out.below hb5); have HR5 := zh ha5; clear hb5 ha5 k1 k2 k3; obtain ⟨k1, k2, k3⟩ := Hc.out.c)
      try go_wp2_with fail
      refine hK.out _ _ (trivial) (fun hHeld => ?_)
      clear hK K
      try simp only [Act.put, zsA, zsZ, zsS]
      refine wpAnyH_ready (rs := [7]) (by kernel_rfl) (by simp) (AllReadyH.cons (o := _) rfl (fun K hK => ?_) AllReadyH.nil)
      go_simp
      refine hK.out _ _ (trivial) (fun hHeld => ?_)
      clear hK K
      try simp only [Act.put, zsA, zsZ, zsS]
      have Hd := zh (Hc.out.set 24 (.slice pp2 L1.length cc2) (tkC_src t us0 ur0 HO.out (.slice pp2 L1.length cc2) L1) HO.out)
      have HAd := zh (HA5.out.grown Hc.out.1.1 (gset _ _ 24 (.slice pp2 L1.length cc2)))
      have HRd := zh (HR5.out.grown Hc.out.1.1 (gset _ _ 24 (.slice pp2 L1.length cc2)))
      generalize World.setCell wc ⟨w.heap.size, 24, none⟩ _ = wd at Hd HAd HRd ⊢
      clear k1 k2 k3
      obtain ⟨k1, k2, k3⟩ := Hd.out.c
      refine wpAnyH_take (i := 8) (oi := { dst := some 10, op := _, type := _, pos := _, after := _, guard := _ }) (v := ?v8) rfl (by kernel_rfl) (by kernel_rfl) (by kernel_rfl) (fun _ _ _ h => h) (Or.inl ⟨by rfl, ?y8⟩) (by assumption) ?r8
      case y8 => (intro w hSw; go_simp; try with_reducible rfl)
      try simp only [Act.put, zsA, zsZ, zsS]
      refine wpAnyH_ready (rs := [9]) (by kernel_rfl) (by simp) (AllReadyH.cons (o := _) rfl (fun K hK => ?_) AllReadyH.nil)
      go_simp
      refine hK.out _ _ (trivial) (fun hHeld => ?_)
      clear hK K
      try simp only [Act.put, zsA, zsZ, zsS]
      have He := zh (Hd.out.set 25 (.slice pp5 L2.length cc5) (tkC_rcs _ _ _ HO.out (.slice pp5 L2.length cc5) L2) HO.out)
      have HAe := zh (HAd.out.grown Hd.out.1.1 (gset _ _ 25 (.slice pp5 L2.length cc5)))
      have HRe := zh (HRd.out.grown Hd.out.1.1 (gset _ _ 25 (.slice pp5 L2.length cc5)))
      generalize World.setCell wd ⟨w.heap.size, 25, none⟩ _ = we at He HAe HRe ⊢
      clear k1 k2 k3
      refine wpAnyH_done (by kernel_rfl) ?_ _
      go_wp2_with fail
      go_meet
      case rel => exact ⟨_, _, He.out, HAe.out, HRe.out⟩
  case rest =>
    obtain ⟨us, ur, hg, hs, hr⟩ := hcut
    have H1 := zh hg
    have hrow := hg.1.row
    have hfr : free? wc (w.heap.size + 1) 0 26 = true := obj_free hg.2.1 (by simp)
    have hfk : fok (tkC _ us ur).toArray 26 = true := fok_tk hg.1.2 hs.1.one hr.rcs.one
    have HD := zh (hg.done hs hr)
    clear hg hs hr
    repeat (first | go_values | go_skip | go_guarded | go_step | go_upon | go_in)
    obtain ⟨q1, q2, q3, q4⟩ := HD.out
    exact bodyPost_ret (results_cell Tryz.results17 rfl (ld_some q1 (ldr_tk _ _ _))) rfl ⟨us, ur, by rw [HF.out], q2, by rw [HF.out]; exact q3, by rw [HF.out]; exact q4⟩
end Go.Proofs.YtlbdehegknehiaaGreat

/- A part of the proof. -/
namespace Go.Proofs.YtlbdehegknehiaaGreat
set_option maxRecDepth 100000
set_option maxHeartbeats 4000000
open Go.RowKit
set_option linter.unusedVariables false
set_option linter.unusedSimpArgs false
attribute [local go_sem ↓] ld_addr st_addr bld_addr ld_tk st_tk bld_tk
attribute [local go_sem] ldr_addr str_addr ldr_tk str_tk row?_drewN_eq row?_drew_eq
theorem fdests (t : TK) (us0 ur0 : Value) (w : World) (ho0 : t.ok) (hs0 : Ads w us0 t.src) (hr0 : Rcs w ur0 t.rcs) :
    Calls Tryz.prog 5 #[.agg (tkC t us0 ur0).toArray] w fun x w' => x = .returned (.bool true) ∧ Below w.heap.size w w' := by
  have H0 := zh (ObjAt.made w (tkC t us0 ur0).toArray 28)
  have HB := zh (bbox w (.cells (tkC t us0 ur0).toArray 28))
  have HF1 := zh (fun W (h : Below w.heap.size w W) => lfew_any t us0 ur0 W ho0.1 (hs0.below h) (hr0.below h))
  have hoF := fewT_ok ho0
  have hlF := fewT_len t
  have hff := fewT_few t
  have HL0 := zh (tkC_length ho0.1 us0 ur0)
  generalize fewT t = F at HF1 hoF hlF hff
  have HO := zh hoF
  have HF2 : Hid (∀ us ur W, Ads W us F.src → Rcs W ur F.rcs → Calls Tryz.prog 17 #[.agg (tkC F us ur).toArray] W fun x w' => ∃ us2 ur2, x = .returned (.agg (tkC F us2 ur2).toArray) ∧ Below W.heap.size W w' ∧ AdsT w' us2 F.src ∧ RcT w' ur2 F.rcs) := zh fun us ur W hs hr => by
    have h := lfew_any F us ur W hoF.1 hs hr
    rw [hff] at h
    exact h
  have HD := zh (fun us ur W (hs : Ads W us F.src) (hr : Rcs W ur F.rcs) => dest_any F us ur W hoF hs hr (by omega))
  have HRT := zh (fun us ur W (hs : Ads W us F.src) (hr : Rcs W ur F.rcs) => rtalk_any F us ur W hoF hs hr (by omega))
  have HRD := zh (fun us ur W => rdest_any F us ur W hoF)
  have HLV := zh livesF_any
  have hA := destV_ok hoF.1
  have hAR : gdT F = true → destV F = destR F := fun h => by rw [destR_eq h]; unfold destV; rw [if_pos h]
  have hA0 : gdT F = false → destV F = zeroA := fun h => by unfold destV; rw [if_neg (by rw [h]; simp)]
  have hfm := fun W => fmade W zz17 24 17 rfl
  have hkA := fok_addr (destV F).1 (destV F).2 hA
  rw [show addrC (destV F).1 (destV F).2 = adC (destV F) from rfl] at hkA
  have hb0 := bld_a0
  generalize gdT F = g at HD HRT hAR hA0
  generalize destV F = A at HD hA hAR hA0 hkA
  generalize destR F = AR at HRD hAR
  have HAR := zh hAR
  have HA0 := zh hA0
  have HA := zh hA
  have HVT : Hid (∀ W us ur, ObjAt W w.heap.size (tkC F us ur).toArray 28 → row? W w.heap.size 0 26 = some (tkC F us ur)) := zh fun W us ur h => obj_re h (A := []) (M := tkC F us ur) (C := []) (by simp) rfl (tkC_length hoF.1 _ _)
  clear ho0 hs0 hr0 hff hlF hoF hA hAR hA0
  go_enter Tryz.func5, Tryz.ntmps5
  go_upto_region 1 with (fail)
  generalize w.alloc _ = W at H0 HB ⊢
  have r0 : row? W w.heap.size 0 26 = some (tkC t us0 ur0) := obj_re H0.out (A := []) (M := tkC t us0 ur0) (C := []) (by simp) rfl HL0.out
  go_upto_region 2 with (go_at_call 17; (with_reducible refine (HF1.out _ HB.out).mono ?_); rintro x w1 ⟨us, ur, rfl, hb, hs, hr⟩; replace H0 := zh (obj_keep H0.out hb); replace HB := zh (bstep HB.out hb); have HS := zh hs; have HR := zh hr; clear hb hs hr r0; have hfr := obj_free_at H0.out 0 26 (by simp [HL0.out]); have hkt : fok (tkC F us ur).toArray 26 = true := fok_tk HO.out.1 HS.out.1.one HR.out.rcs.one)
  have H1 := zh (aggW_obj (cs := tkC F us ur) H0.out (by rw [HL0.out, tkC_length HO.out.1]) (tkC_one HS.out.1.one HR.out.rcs.one))
  have HB1 := zh (aggW_below HB.out (Nat.le_refl _) (tkC F us ur))
  replace HS := zh (HS.out.far H0.out (by decide) (aggW_grown _ _ (tkC F us ur)))
  replace HR := zh (HR.out.far H0.out (by decide) (by decide) (aggW_grown _ _ (tkC F us ur)))
  generalize aggW w1 w.heap.size _ = W1 at H1 HB1 HS HR ⊢
  clear hfr hkt H0 HB HF1 HL0
  have r1 := HVT.out _ _ _ H1.out
  go_upto_region 3 with (first
    | (go_at_call 17; (with_reducible refine (HF2.out _ _ _ (AdsT.ads HS.out) (RcT.rcs HR.out)).mono ?_); rintro x w2 ⟨us2, ur2, rfl, hb, hs, hr⟩; have H2 := zh (obj_keep H1.out hb); have HB2 := zh (bstep HB1.out hb); have HS1 := zh (HS.out.below hb); have HR1 := zh (HR.out.below hb); have HS2 := zh hs; have HR2 := zh hr; clear hb hs hr r1)
    | (go_at_call 18; (with_reducible refine (HD.out _ _ _ (AdsT.ads HS2.out) (RcT.rcs HR2.out)).mono ?_); rintro x w3 ⟨rfl, hb⟩; have H3 := zh (obj_keep H2.out hb); have HB3 := zh (bstep HB2.out hb); have HS3 := zh (HS1.out.below hb); have HR3 := zh (HR1.out.below hb); clear hb))
  have HW := zh (newBlw w3 (.cells zz17 24) (adC A))
  have H4 := zh (Bo2.made (Z := zz17) (U := 24) (L := adC A) H3.out HB3.out (adC_length HA.out) (addrC_one _ _))
  have HS4 := zh (HS3.out.below HW.out)
  have HR4 := zh (HR3.out.below HW.out)
  generalize aggW (w3.alloc _) w3.heap.size _ = W4 at H4 HS4 HR4 ⊢
  generalize w3.heap.size = m at H4 ⊢
  clear hfm hkA HW H3 HB3 HS3 HR3 H1 HB1 HS HR H2 HB2 HS2 HR2 HS1 HR1 HF2 HD
  have HK : Hid (∀ W, Bo2 w W m (tkC F us ur).toArray 28 (adC A) 24 → row? W m 0 17 = some (adC A) ∧ row? W w.heap.size 0 26 = some (tkC F us ur) ∧ Bo2 w W m (tkC F us ur).toArray 28 (adC A) 24) := zh fun W h => ⟨obj_re h.two (A := []) (M := adC A) (C := []) (by simp) rfl (adC_length HA.out), HVT.out _ _ _ h.one, h⟩
  obtain ⟨r3, r4, -⟩ := HK.out _ H4.out
  cases g with
  | false =>
    have hq := fun w0 => eq_ad A zeroA HA.out zeroA_ok w0
    rw [decide_eq_true (HA0.out rfl)] at hq
    go_wp2_with (first
      | (go_at_call 19; (with_reducible refine (HRT.out _ _ _ (AdsT.ads HS4.out) (RcT.rcs HR4.out)).mono ?_); rintro x w5 ⟨rfl, hb⟩; have H5 := zh (H4.out.below hb); clear hb r3 r4; obtain ⟨r3, r4, -⟩ := HK.out _ H5.out)
      | (go_at_call 12; (with_reducible refine (HLV.out _).mono ?_); rintro x w6 ⟨rfl, hb⟩; have H6 := zh (H5.out.below hb); clear hb))
    go_ret
    exact ⟨rfl, H6.out.blw⟩
  | true =>
    have e : A = AR := HAR.out rfl
    have hq := fun w0 => eq_ad A AR HA.out (e ▸ HA.out) w0
    rw [decide_eq_true e] at hq
    clear e
    go_upto_region 5 with (go_at_call 19; (with_reducible refine (HRT.out _ _ _ (AdsT.ads HS4.out) (RcT.rcs HR4.out)).mono ?_); rintro x w5 ⟨rfl, hb⟩; have H5 := zh (H4.out.below hb); clear hb r3 r4)
    go_region_held3 (fun W => row? W m 0 17 = some (adC A) ∧ row? W w.heap.size 0 26 = some (tkC F us ur) ∧ Bo2 w W m (tkC F us ur).toArray 28 (adC A) 24) (first | assumption | exact HK.out _ H5.out | exact HK.out _ (H5.out.drewN 1)) (first
      | (go_at_call 20; (with_reducible refine (HRD.out _ _ _).mono ?_); rintro x w6 ⟨rfl, hb⟩; have hk := HK.out _ (Bo2.below (And.right (And.right (by assumption))) hb); clear hb)
      | (go_at_call 12; (with_reducible refine (HLV.out _).mono ?_); rintro x w7 ⟨rfl, hb⟩; have hk := HK.out _ (Bo2.below (And.right (And.right (by assumption))) hb); clear hb))
    have HE := zh hk.2.2.blw
    clear hk
    go_wp2
    go_ret
    exact ⟨rfl, HE.out⟩
end Go.Proofs.YtlbdehegknehiaaGreat


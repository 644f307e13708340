/-
  Texts joined: IgR, IqH.
-/
import Derived.Test.YtlbdehegknehiaaGreatMg00
import Derived.Test.YtlbdehegknehiaaGreatMg31
import Derived.Test.YtlbdehegknehiaaGreatMg21
import Derived.Test.YtlbdehegknehiaaGreatMg13
/- A part of the proof. -/
namespace Go.Proofs.YtlbdehegknehiaaGreat
set_option maxRecDepth 100000
set_option maxHeartbeats 4000000
open Go.RowKit
set_option linter.unusedVariables false
set_option linter.unusedSimpArgs false
attribute [local go_sem ↓] ld_addr st_addr bld_addr adsLit_eq
attribute [local go_sem] ldr_addr str_addr row?_drew_eq
theorem row_ne {w : World} {base m n size : Nat} {v : Value} {xs : List Value} {L : Array Value} {T T' : TypeId} (h : w.ownsRow base T size v n xs) (hm : ObjAt w m L T') (hT : T ≠ T') : some m ≠ v.ownBlock := by
  obtain ⟨_, h2 | ⟨g, cap, cur, rfl, _, hg, _⟩⟩ := h
  · rw [h2.1]; simp [Value.ownBlock]
  · intro e
    simp only [Value.ownBlock, Option.some.injEq] at e
    subst e
    unfold ObjAt at hm
    rw [hg] at hm
    simp only [Option.some.injEq, Obj.cells.injEq] at hm
    exact hT hm.2.1
theorem own_keep {w w' : World} {base n size : Nat} {v : Value} {xs : List Value} {T : TypeId} (h : w.ownsRow base T size v n xs) (hk : ∀ g, v.ownBlock = some g → w'.heap[g]? = w.heap[g]?) : w'.ownsRow base T size v n xs := by
  obtain ⟨h1, h2 | ⟨g, cap, cur, e1, e2, e3, e4⟩⟩ := h
  · exact ⟨h1, .inl h2⟩
  · exact ⟨h1, .inr ⟨g, cap, cur, e1, e2, (hk g (by rw [e1]; rfl)).trans e3, e4⟩⟩
theorem own_slice8 {w : World} {base n size : Nat} {v : Value} {xs : List Value} {T : TypeId} (h : w.ownsRow base T size v n xs) : ∃ p cap, v = .slice p n cap := by
  obtain ⟨_, h2 | ⟨g, cap, cur, e1, _⟩⟩ := h
  · exact ⟨none, 0, by rw [h2.1, h2.2]⟩
  · exact ⟨_, _, e1⟩
theorem step_app {ops : Array Oper} {o : Oper} {a : Act} {w : World} {K : Act → World → Prop} {Q : Exit → Act → World → Prop} {E : Prop} (hg : o.guard = none) (h : Oper.wp Tryz.prog o a w K Q) : if Region.wanted o (yielded ops a.tmps) = true then Oper.wp Tryz.prog o a w K Q else E := by
  rw [if_pos (by simp [Region.wanted, hg])]; exact h
structure SI (w W : World) (b0 bo bp : Nat) (l : List UInt8) (k : Nat) (bad : Bool) (v : Value) (ls : List AD) : Prop where
  rd : RdAt W b0 l k bad
  out : ObjAt W bo #[v] 25
  pp : ObjAt W bp #[.pointer (some ⟨b0, 0, none⟩)] 192
  own : W.ownsRow w.heap.size 24 17 v ls.length (adsC ls)
  ok : ∀ a ∈ ls, adOk a
  frm : w.grownBy W (some b0)
  lo : w.heap.size ≤ bo
  lp : w.heap.size ≤ bp
  l0 : b0 < w.heap.size
  ne : bo ≠ bp
theorem SI.below {w W W' : World} {b0 bo bp : Nat} {l : List UInt8} {k : Nat} {bad : Bool} {v : Value} {ls : List AD} (h : SI w W b0 bo bp l k bad v ls) (hb : Below W.heap.size W W') : SI w W' b0 bo bp l k bad v ls :=
  ⟨ObjAt.below h.rd hb (ObjAt.lt h.rd), h.out.below hb h.out.lt, h.pp.below hb h.pp.lt, own_below8 h.own hb, h.ok, qbelow h.frm (hb.mono h.frm.size), h.lo, h.lp, h.l0, h.ne⟩
theorem SI.call {w W W' : World} {b0 bo bp : Nat} {l l' : List UInt8} {k k' : Nat} {bad bad' : Bool} {v : Value} {ls : List AD} (h : SI w W b0 bo bp l k bad v ls) (hr : RdAt W' b0 l' k' bad') (hg : W.grownBy W' (some b0)) : SI w W' b0 bo bp l' k' bad' v ls := by
  have l0 := h.l0; have lo := h.lo; have lp := h.lp
  exact ⟨hr, ObjAt.grown h.out hg (by simp; omega), ObjAt.grown h.pp hg (by simp; omega), own_keep h.own (fun g e => hg.block g (by
    obtain ⟨_, h2 | ⟨g', cap, cur, e1, e2, e3, _⟩⟩ := h.own
    · rw [h2.1] at e; simp [Value.ownBlock] at e
    · rw [e1] at e; simp only [Value.ownBlock, Option.some.injEq] at e; subst e; exact (Array.getElem?_eq_some_iff.1 e3).1) (by
    obtain ⟨_, h2 | ⟨g', cap, cur, e1, e2, e3, _⟩⟩ := h.own
    · rw [h2.1] at e; simp [Value.ownBlock] at e
    · rw [e1] at e; simp only [Value.ownBlock, Option.some.injEq] at e; subst e; simp; omega)), h.ok, gtrans h.frm hg, h.lo, h.lp, h.l0, h.ne⟩
theorem SI.app {w W W2 : World} {b0 bo bp : Nat} {l : List UInt8} {k : Nat} {bad : Bool} {v v' : Value} {ls : List AD} {a : AD} (h : SI w W b0 bo bp l k bad v ls) (ho : adOk a) (hown : W2.ownsRow w.heap.size 24 17 v' (ls.length + 1) (adsC ls ++ adC a)) (hg : W.grownBy W2 v.ownBlock) :
    SI w (W2.setCell ⟨bo, 0, none⟩ v') b0 bo bp l k bad v' (ls ++ [a]) ∧ (W2.cell? ⟨bo, 0, none⟩ = some v ∧ W2.frozen? ⟨bo, 0, none⟩ = false) := by
  have l0 := h.l0; have lo := h.lo; have lp := h.lp
  have r1 := row_ne h.own h.rd (by decide)
  have r2 := row_ne h.own h.out (by decide)
  have r3 := row_ne h.own h.pp (by decide)
  have h1 := ObjAt.grown h.rd hg r1
  have h2 := ObjAt.grown h.out hg r2
  have h3 := ObjAt.grown h.pp hg r3
  have e1 : W2.ownsRow w.heap.size 24 17 v' (ls ++ [a]).length (adsC (ls ++ [a])) := by
    rw [show adsC (ls ++ [a]) = adsC ls ++ adC a by simp [adsC], List.length_append]; exact hown
  have rn := row_ne hown h2 (by decide)
  have hb : w.grownBy W2 (some b0) := by
    refine ⟨hg.os.trans h.frm.os, hg.tape.trans h.frm.tape, hg.output.trans h.frm.output, Nat.le_trans h.frm.size hg.size, fun i hi hne => ?_⟩
    refine (hg.block i (Nat.lt_of_lt_of_le hi h.frm.size) (fun e => ?_)).trans (h.frm.block i hi hne)
    obtain ⟨_, q2 | ⟨g', cap, cur, q1, q2, _⟩⟩ := h.own
    · rw [q2.1] at e; simp [Value.ownBlock] at e
    · rw [q1] at e; simp only [Value.ownBlock, Option.some.injEq] at e; omega
  refine ⟨⟨ObjAt.other h1 _ _ (by simp; omega), ?_, ObjAt.other h3 _ _ (by simpa using h.ne.symm), own_keep e1 (fun g hg2 => heap_setCell_other W2 ⟨bo, 0, none⟩ g v' (fun e => rn (by rw [hg2]; exact congrArg some e.symm))), ?_, ?_, lo, lp, l0, h.ne⟩, ?_, ObjAt.free h2 0⟩
  · have := ObjAt.set h2 0 v'
    simpa using this
  · intro x hx
    rcases List.mem_append.1 hx with hx | hx
    · exact h.ok x hx
    · rw [List.mem_singleton] at hx; subst hx; exact ho
  · refine ⟨hb.os, hb.tape, hb.output, by simpa [World.setCell] using hb.size, fun i hi hne => ?_⟩
    exact (heap_setCell_other W2 ⟨bo, 0, none⟩ i v' (by simp; omega)).trans (hb.block i hi hne)
  · rw [ObjAt.cell h2]; rfl
theorem SI.c {w W : World} {b0 bo bp : Nat} {l : List UInt8} {k : Nat} {bad : Bool} {v : Value} {ls : List AD} (h : SI w W b0 bo bp l k bad v ls) : W.cell? ⟨bo, 0, none⟩ = some v ∧ W.cell? ⟨bp, 0, none⟩ = some (.pointer (some ⟨b0, 0, none⟩)) := ⟨by rw [ObjAt.cell h.out]; rfl, by rw [ObjAt.cell h.pp]; rfl⟩
theorem SI.adst {w W : World} {b0 bo bp : Nat} {l : List UInt8} {k : Nat} {bad : Bool} {v : Value} {ls : List AD} (h : SI w W b0 bo bp l k bad v ls) : AdsT W v ls := ⟨Ads.own h.ok h.own, AdT.own h.own⟩
abbrev PAdr (b0 : Nat) (l : List UInt8) (k : Nat) (bad : Bool) (a : AD) (l' : List UInt8) (k' : Nat) (bad' : Bool) : Prop := ∀ W, RdAt W b0 l k bad → Calls Tryz.prog 221 #[pv b0] W fun x w' => x = .returned (.agg (adC a).toArray) ∧ RdAt w' b0 l' k' bad' ∧ W.grownBy w' (some b0)
theorem src1_any (w W : World) (b0 bo bp : Nat) (l l' : List UInt8) (k k' : Nat) (bad bad' : Bool) (v : Value) (ls : List AD) (a : AD) (ho : adOk a) (hA : PAdr b0 l k bad a l' k' bad') (h : SI w W b0 bo bp l k bad v ls) (hn : ls.length ≤ 64) :
    Calls Tryz.prog 236 #[.pointer (some ⟨bo, 0, none⟩), .pointer (some ⟨bp, 0, none⟩)] W fun x W' => x = .returned (.int .i64 (if bad' then 3 else 0)) ∧ ∃ v', SI w W' b0 bo bp l' k' bad' v' (ls ++ [a]) := by
  obtain ⟨pp, cp, ev⟩ := own_slice8 h.own
  subst ev
  obtain ⟨ec, hec⟩ : ∃ ec : Int, ec = if bad' then 3 else 0 := ⟨_, rfl⟩
  rw [← hec]
  have HEND : Hid (∀ W, RdAt W b0 l' k' bad' → Calls Tryz.prog 233 #[pv b0] W fun x w' => x = .returned (.int .i64 ec) ∧ Below W.heap.size W w') := zh fun W h => by rw [hec]; exact pend_any b0 l' k' bad' W h
  clear hec
  have HA := zh hA
  have H0 := zh h
  have HO := zh ho
  have hlit := adsLit_run a ho
  have hl17 := adC_length ho
  have HONE : Hid (∀ u ∈ adC a, u.oneCell' = true) := zh (addrC_one _ _)
  obtain ⟨i0, hi0, hz0, hz1, hz2⟩ := info_parts info_ad
  clear hA h ho
  go_enter Tryz.func236, Tryz.ntmps236
  go_upto_region 1 with (fail)
  refine wp_region_held_drew (S := fun _ => True) (by kernel_rfl) (trivial) (fun hHeld => ?_)
  have Hq := zh (show SI w W.drew b0 bo bp l k bad _ ls from H0.out.below ⟨rfl, rfl, rfl, Nat.le_refl _, fun _ _ => rfl⟩)
  generalize World.drew W = Wq at Hq hHeld ⊢
  obtain ⟨k1, k2⟩ := Hq.out.c
  refine wpAnyH_ready (rs := [0, 1]) (by kernel_rfl) (by simp) (AllReadyH.cons (o := _) rfl (fun K hK => ?_) (AllReadyH.cons (o := _) rfl (fun K hK => ?_) AllReadyH.nil))
  · go_simp
    refine hK.out _ _ (trivial) (fun hHeld => ?_)
    clear hK K
    try simp only [Act.put, zsA, zsZ, zsS]
    refine wpAnyH_ready (rs := [1]) (by kernel_rfl) (by simp) (AllReadyH.cons (o := _) rfl (fun K hK => ?_) AllReadyH.nil)
    go_simp
    refine hK.out _ _ (trivial) (fun hHeld => ?_)
    clear hK K
    try simp only [Act.put, zsA, zsZ, zsS]
    refine wpAnyH_ready (rs := [2]) (by kernel_rfl) (by simp) (AllReadyH.cons (o := _) rfl (fun K hK => ?_) AllReadyH.nil)
    go_simp
    go_at_call 221; (with_reducible refine (HA.out _ Hq.out.rd).mono ?_); rintro x w1 ⟨rfl, h9, k9⟩; have H1 := zh (Hq.out.call h9 k9); clear h9 k9 k1 k2; obtain ⟨k1, k2⟩ := H1.out.c
    try go_wp2_with fail
    refine hK.out _ _ (trivial) (fun hHeld => ?_)
    clear hK K
    try simp only [Act.put, zsA, zsZ, zsS]
    refine wpAnyH_ready (rs := [3]) (by kernel_rfl) (by simp) (AllReadyH.cons (o := _) rfl (fun K hK => ?_) AllReadyH.nil)
    go_simp
    refine hK.out _ _ (trivial) (fun hHeld => ?_)
    clear hK K
    try simp only [Act.put, zsA, zsZ, zsS]
    have H2 := zh (H1.out.below ((Below.refl w1.heap.size w1).alloc (Nat.le_refl _) (.cells (adC a).toArray 24)))
    have hnw := World.news_of_block (heap_alloc_new w1 (.cells (adC a).toArray 24))
    have hb0 : w.heap.size ≤ (w1.alloc (.cells (adC a).toArray 24)).heap.size := H2.out.frm.size
    generalize w1.alloc (.cells (adC a).toArray 24) = w2 at H2 hnw hb0 ⊢
    clear k1 k2
    obtain ⟨k1, k2⟩ := H2.out.c
    refine wpAnyH_ready (rs := [4]) (by kernel_rfl) (by simp) (AllReadyH.cons (o := _) rfl (fun K hK => ?_) AllReadyH.nil)
    refine step_app rfl ?_
    refine wp_append_own _ _ _ 25 rfl w.heap.size 24 i0 (.agg zz17) 17 17 Tryz.underlying25 hi0 hz0 hz1 hz2 rfl (by decide) _ ls.length (adsC ls) rfl H2.out.own ⟨w1.heap.size, 0, none⟩ 1 1 (adC a) rfl (by rw [hl17]) hnw HONE.out (by unfold maxLen; omega) (by omega) hb0 ?_
    intro v' w3 hown' hgrow' _
    obtain ⟨pp', cp', ev'⟩ := own_slice8 hown'
    subst ev'
    refine hK.out _ _ (trivial) (fun hHeld => ?_)
    clear hK K
    try simp only [Act.put, zsA, zsZ, zsS]
    have H3 := zh (H2.out.app HO.out hown' hgrow')
    obtain ⟨kc, kf⟩ := H3.out.2
    clear k1 k2 hnw hb0 hown' hgrow'
    refine wpAnyH_ready (rs := [5]) (by kernel_rfl) (by simp) (AllReadyH.cons (o := _) rfl (fun K hK => ?_) AllReadyH.nil)
    go_simp
    refine hK.out _ _ (trivial) (fun hHeld => ?_)
    clear hK K
    try simp only [Act.put, zsA, zsZ, zsS]
    have H4 := zh H3.out.1
    generalize World.setCell w3 _ _ = w4 at H4 ⊢
    clear kc kf
    refine wpAnyH_done (by kernel_rfl) ?_ _
    obtain ⟨k1, k2⟩ := H4.out.c
    have HE := zh (HEND.out w4 H4.out.rd)
    go_wp2_with (go_at_call 233; (with_reducible refine (HE.out).mono ?_); rintro x w5 ⟨rfl, h9⟩; have H5 := zh (H4.out.below h9); clear h9)
    go_ret
    exact ⟨rfl, _, H5.out⟩
  · go_simp
    refine hK.out _ _ (trivial) (fun hHeld => ?_)
    clear hK K
    try simp only [Act.put, zsA, zsZ, zsS]
    refine wpAnyH_ready (rs := [0, 2]) (by kernel_rfl) (by simp) (AllReadyH.cons (o := _) rfl (fun K hK => ?_) (AllReadyH.cons (o := _) rfl (fun K hK => ?_) AllReadyH.nil))
    · go_simp
      refine hK.out _ _ (trivial) (fun hHeld => ?_)
      clear hK K
      try simp only [Act.put, zsA, zsZ, zsS]
      refine wpAnyH_ready (rs := [2]) (by kernel_rfl) (by simp) (AllReadyH.cons (o := _) rfl (fun K hK => ?_) AllReadyH.nil)
      go_simp
      go_at_call 221; (with_reducible refine (HA.out _ Hq.out.rd).mono ?_); rintro x w1 ⟨rfl, h9, k9⟩; have H1 := zh (Hq.out.call h9 k9); clear h9 k9 k1 k2; obtain ⟨k1, k2⟩ := H1.out.c
      try go_wp2_with fail
      refine hK.out _ _ (trivial) (fun hHeld => ?_)
      clear hK K
      try simp only [Act.put, zsA, zsZ, zsS]
      refine wpAnyH_ready (rs := [3]) (by kernel_rfl) (by simp) (AllReadyH.cons (o := _) rfl (fun K hK => ?_) AllReadyH.nil)
      go_simp
      refine hK.out _ _ (trivial) (fun hHeld => ?_)
      clear hK K
      try simp only [Act.put, zsA, zsZ, zsS]
      have H2 := zh (H1.out.below ((Below.refl w1.heap.size w1).alloc (Nat.le_refl _) (.cells (adC a).toArray 24)))
      have hnw := World.news_of_block (heap_alloc_new w1 (.cells (adC a).toArray 24))
      have hb0 : w.heap.size ≤ (w1.alloc (.cells (adC a).toArray 24)).heap.size := H2.out.frm.size
      generalize w1.alloc (.cells (adC a).toArray 24) = w2 at H2 hnw hb0 ⊢
      clear k1 k2
      obtain ⟨k1, k2⟩ := H2.out.c
      refine wpAnyH_ready (rs := [4]) (by kernel_rfl) (by simp) (AllReadyH.cons (o := _) rfl (fun K hK => ?_) AllReadyH.nil)
      refine step_app rfl ?_
      refine wp_append_own _ _ _ 25 rfl w.heap.size 24 i0 (.agg zz17) 17 17 Tryz.underlying25 hi0 hz0 hz1 hz2 rfl (by decide) _ ls.length (adsC ls) rfl H2.out.own ⟨w1.heap.size, 0, none⟩ 1 1 (adC a) rfl (by rw [hl17]) hnw HONE.out (by unfold maxLen; omega) (by omega) hb0 ?_
      intro v' w3 hown' hgrow' _
      obtain ⟨pp', cp', ev'⟩ := own_slice8 hown'
      subst ev'
      refine hK.out _ _ (trivial) (fun hHeld => ?_)
      clear hK K
      try simp only [Act.put, zsA, zsZ, zsS]
      have H3 := zh (H2.out.app HO.out hown' hgrow')
      obtain ⟨kc, kf⟩ := H3.out.2
      clear k1 k2 hnw hb0 hown' hgrow'
      refine wpAnyH_ready (rs := [5]) (by kernel_rfl) (by simp) (AllReadyH.cons (o := _) rfl (fun K hK => ?_) AllReadyH.nil)
      go_simp
      refine hK.out _ _ (trivial) (fun hHeld => ?_)
      clear hK K
      try simp only [Act.put, zsA, zsZ, zsS]
      have H4 := zh H3.out.1
      generalize World.setCell w3 _ _ = w4 at H4 ⊢
      clear kc kf
      refine wpAnyH_done (by kernel_rfl) ?_ _
      obtain ⟨k1, k2⟩ := H4.out.c
      have HE := zh (HEND.out w4 H4.out.rd)
      go_wp2_with (go_at_call 233; (with_reducible refine (HE.out).mono ?_); rintro x w5 ⟨rfl, h9⟩; have H5 := zh (H4.out.below h9); clear h9)
      go_ret
      exact ⟨rfl, _, H5.out⟩
    · go_simp
      go_at_call 221; (with_reducible refine (HA.out _ Hq.out.rd).mono ?_); rintro x w1 ⟨rfl, h9, k9⟩; have H1 := zh (Hq.out.call h9 k9); clear h9 k9 k1 k2; obtain ⟨k1, k2⟩ := H1.out.c
      try go_wp2_with fail
      refine hK.out _ _ (trivial) (fun hHeld => ?_)
      clear hK K
      try simp only [Act.put, zsA, zsZ, zsS]
      refine wpAnyH_ready (rs := [0, 3]) (by kernel_rfl) (by simp) (AllReadyH.cons (o := _) rfl (fun K hK => ?_) (AllReadyH.cons (o := _) rfl (fun K hK => ?_) AllReadyH.nil))
      · go_simp
        refine hK.out _ _ (trivial) (fun hHeld => ?_)
        clear hK K
        try simp only [Act.put, zsA, zsZ, zsS]
        refine wpAnyH_ready (rs := [3]) (by kernel_rfl) (by simp) (AllReadyH.cons (o := _) rfl (fun K hK => ?_) AllReadyH.nil)
        go_simp
        refine hK.out _ _ (trivial) (fun hHeld => ?_)
        clear hK K
        try simp only [Act.put, zsA, zsZ, zsS]
        have H2 := zh (H1.out.below ((Below.refl w1.heap.size w1).alloc (Nat.le_refl _) (.cells (adC a).toArray 24)))
        have hnw := World.news_of_block (heap_alloc_new w1 (.cells (adC a).toArray 24))
        have hb0 : w.heap.size ≤ (w1.alloc (.cells (adC a).toArray 24)).heap.size := H2.out.frm.size
        generalize w1.alloc (.cells (adC a).toArray 24) = w2 at H2 hnw hb0 ⊢
        clear k1 k2
        obtain ⟨k1, k2⟩ := H2.out.c
        refine wpAnyH_ready (rs := [4]) (by kernel_rfl) (by simp) (AllReadyH.cons (o := _) rfl (fun K hK => ?_) AllReadyH.nil)
        refine step_app rfl ?_
        refine wp_append_own _ _ _ 25 rfl w.heap.size 24 i0 (.agg zz17) 17 17 Tryz.underlying25 hi0 hz0 hz1 hz2 rfl (by decide) _ ls.length (adsC ls) rfl H2.out.own ⟨w1.heap.size, 0, none⟩ 1 1 (adC a) rfl (by rw [hl17]) hnw HONE.out (by unfold maxLen; omega) (by omega) hb0 ?_
        intro v' w3 hown' hgrow' _
        obtain ⟨pp', cp', ev'⟩ := own_slice8 hown'
        subst ev'
        refine hK.out _ _ (trivial) (fun hHeld => ?_)
        clear hK K
        try simp only [Act.put, zsA, zsZ, zsS]
        have H3 := zh (H2.out.app HO.out hown' hgrow')
        obtain ⟨kc, kf⟩ := H3.out.2
        clear k1 k2 hnw hb0 hown' hgrow'
        refine wpAnyH_ready (rs := [5]) (by kernel_rfl) (by simp) (AllReadyH.cons (o := _) rfl (fun K hK => ?_) AllReadyH.nil)
        go_simp
        refine hK.out _ _ (trivial) (fun hHeld => ?_)
        clear hK K
        try simp only [Act.put, zsA, zsZ, zsS]
        have H4 := zh H3.out.1
        generalize World.setCell w3 _ _ = w4 at H4 ⊢
        clear kc kf
        refine wpAnyH_done (by kernel_rfl) ?_ _
        obtain ⟨k1, k2⟩ := H4.out.c
        have HE := zh (HEND.out w4 H4.out.rd)
        go_wp2_with (go_at_call 233; (with_reducible refine (HE.out).mono ?_); rintro x w5 ⟨rfl, h9⟩; have H5 := zh (H4.out.below h9); clear h9)
        go_ret
        exact ⟨rfl, _, H5.out⟩
      · go_simp
        refine hK.out _ _ (trivial) (fun hHeld => ?_)
        clear hK K
        try simp only [Act.put, zsA, zsZ, zsS]
        have H2 := zh (H1.out.below ((Below.refl w1.heap.size w1).alloc (Nat.le_refl _) (.cells (adC a).toArray 24)))
        have hnw := World.news_of_block (heap_alloc_new w1 (.cells (adC a).toArray 24))
        have hb0 : w.heap.size ≤ (w1.alloc (.cells (adC a).toArray 24)).heap.size := H2.out.frm.size
        generalize w1.alloc (.cells (adC a).toArray 24) = w2 at H2 hnw hb0 ⊢
        clear k1 k2
        obtain ⟨k1, k2⟩ := H2.out.c
        refine wpAnyH_ready (rs := [0]) (by kernel_rfl) (by simp) (AllReadyH.cons (o := _) rfl (fun K hK => ?_) AllReadyH.nil)
        go_simp
        refine hK.out _ _ (trivial) (fun hHeld => ?_)
        clear hK K
        try simp only [Act.put, zsA, zsZ, zsS]
        refine wpAnyH_ready (rs := [4]) (by kernel_rfl) (by simp) (AllReadyH.cons (o := _) rfl (fun K hK => ?_) AllReadyH.nil)
        refine step_app rfl ?_
        refine wp_append_own _ _ _ 25 rfl w.heap.size 24 i0 (.agg zz17) 17 17 Tryz.underlying25 hi0 hz0 hz1 hz2 rfl (by decide) _ ls.length (adsC ls) rfl H2.out.own ⟨w1.heap.size, 0, none⟩ 1 1 (adC a) rfl (by rw [hl17]) hnw HONE.out (by unfold maxLen; omega) (by omega) hb0 ?_
        intro v' w3 hown' hgrow' _
        obtain ⟨pp', cp', ev'⟩ := own_slice8 hown'
        subst ev'
        refine hK.out _ _ (trivial) (fun hHeld => ?_)
        clear hK K
        try simp only [Act.put, zsA, zsZ, zsS]
        have H3 := zh (H2.out.app HO.out hown' hgrow')
        obtain ⟨kc, kf⟩ := H3.out.2
        clear k1 k2 hnw hb0 hown' hgrow'
        refine wpAnyH_ready (rs := [5]) (by kernel_rfl) (by simp) (AllReadyH.cons (o := _) rfl (fun K hK => ?_) AllReadyH.nil)
        go_simp
        refine hK.out _ _ (trivial) (fun hHeld => ?_)
        clear hK K
        try simp only [Act.put, zsA, zsZ, zsS]
        have H4 := zh H3.out.1
        generalize World.setCell w3 _ _ = w4 at H4 ⊢
        clear kc kf
        refine wpAnyH_done (by kernel_rfl) ?_ _
        obtain ⟨k1, k2⟩ := H4.out.c
        have HE := zh (HEND.out w4 H4.out.rd)
        go_wp2_with (go_at_call 233; (with_reducible refine (HE.out).mono ?_); rintro x w5 ⟨rfl, h9⟩; have H5 := zh (H4.out.below h9); clear h9)
        go_ret
        exact ⟨rfl, _, H5.out⟩
theorem paddr_good (b0 : Nat) (s : List UInt8) (i : Nat) (hi : i + 4 ≤ s.length) (hl : s.length ≤ 1000000) : PAdr b0 (s.drop i) i false (fourL s i) (s.drop (i + 4)) (i + 4) false := fun W h => by
  have := paddr_any b0 (s.drop i) i false (by simp; omega) (by omega) W h
  obtain ⟨e1, e2, e3, e4⟩ := rd_good (l := s.drop i) (n := 4) (k := i) (by simp; omega)
  have hl4 : ((s.drop i).take 4).length = 4 := by simp; omega
  rw [show takeV (s.drop i) false 4 = (s.drop i).take 4 from e1, show leftV (s.drop i) false 4 = (s.drop i).drop 4 from e2, show pastV (s.drop i) false 4 i = i + 4 from e3, show badV (s.drop i) false 4 = false from e4, List.drop_drop] at this
  unfold ad4 at this
  rw [if_pos hl4] at this
  exact this
theorem paddr_short (b0 : Nat) (s : List UInt8) (i : Nat) (hi : s.length < i + 4) (h0 : i ≤ s.length) (hl : s.length ≤ 1000000) : PAdr b0 (s.drop i) i false zeroA (s.drop i) i true := fun W h => by
  have := paddr_any b0 (s.drop i) i false (by simp; omega) (by omega) W h
  obtain ⟨e1, e2, e3, e4⟩ := rd_short (l := s.drop i) (n := 4) (k := i) (by simp; omega)
  rw [show takeV (s.drop i) false 4 = [] from e1, show leftV (s.drop i) false 4 = s.drop i from e2, show pastV (s.drop i) false 4 i = i from e3, show badV (s.drop i) false 4 = true from e4] at this
  exact this
theorem srcsL_snoc (s : List UInt8) (i n : Nat) : srcsL s i (n + 1) = srcsL s i n ++ [fourL s (i + 4 * n)] := by
  unfold srcsL
  rw [List.range_succ]
  simp
def SrcQ (w W' : World) (b0 : Nat) (s : List UInt8) (i n : Nat) (x : Ending) : Prop :=
  ∃ (v : Value) (e : Int) (ls : List AD) (l' : List UInt8) (k' : Nat) (bad' : Bool), x = .returned (.tuple #[v, .int .i64 e]) ∧ e = srcsE s i n ∧ AdsT W' v ls ∧ RdAt W' b0 l' k' bad' ∧ w.grownBy W' (some b0) ∧ l'.length ≤ s.length ∧ k' ≤ s.length ∧ (e = 0 → ls = srcsL s i n ∧ l' = s.drop (i + 4 * n) ∧ k' = i + 4 * n ∧ bad' = false)
theorem psources_any (b0 : Nat) (s : List UInt8) (i n : Nat) (hs : s.length ≤ 100000) (hi : i ≤ s.length) (hn : n < 1000000) (w : World) (h : RdAt w b0 (s.drop i) i false) :
    Calls Tryz.prog 232 #[pv b0, .int .i64 n] w fun x W' => SrcQ w W' b0 s i n x := by
  have s1 : (w.alloc (.cells #[.pointer (some ⟨b0, 0, none⟩)] 192)).heap.size = w.heap.size + 1 := by simp
  have H0 : Hid (SI w ((w.alloc (.cells #[.pointer (some ⟨b0, 0, none⟩)] 192)).alloc (.cells #[.slice none 0 0] 25)) b0 (w.heap.size + 1) w.heap.size (s.drop i) i false (.slice none 0 0) []) := zh (by
    have hp := PB.start h
    have k2 := (Below.refl _ (w.alloc (.cells #[.pointer (some ⟨b0, 0, none⟩)] 192))).alloc (Nat.le_refl _) (.cells #[.slice none 0 0] 25)
    have hp2 := hp.below k2
    have ho := ObjAt.made (w.alloc (.cells #[.pointer (some ⟨b0, 0, none⟩)] 192)) #[.slice none 0 0] 25
    rw [s1] at ho
    exact ⟨hp2.rd, ho, hp2.pp, ⟨rfl, Or.inl ⟨rfl, rfl⟩⟩, fun a ha => (by cases ha), hp2.frm, by omega, by omega, hp2.lt, by omega⟩)
  have hmf : ∀ (fn : Fn) (first cap : Array Value) (w : World), (Instr.makeFunc fn first cap).run Tryz.prog w = .ok (.func fn first cap) w := fun _ _ _ _ => rfl
  have hSX : ∀ (W' : World) (l' : List UInt8) (k' : Nat) (bad' : Bool) (v : Value) (ls : List AD) (e : Int), SI w W' b0 (w.heap.size + 1) w.heap.size l' k' bad' v ls → e = srcsE s i n → l'.length ≤ s.length → k' ≤ s.length → (e = 0 → ls = srcsL s i n ∧ l' = s.drop (i + 4 * n) ∧ k' = i + 4 * n ∧ bad' = false) → SrcQ w W' b0 s i n (.returned (.tuple #[v, .int .i64 e])) := fun W' l' k' bad' v ls e h1 h2 h3 h4 h5 => ⟨v, e, ls, l', k', bad', rfl, h2, h1.adst, h1.rd, h1.frm, h3, h4, h5⟩
  have HSX := zh hSX
  clear hSX
  by_cases hl : 64 < n
  · have HE := zh (show (6 : Int) = srcsE s i n by unfold srcsE; rw [if_pos hl])
    have HL := zh (fun W f => each_long f n hl hn W)
    clear h
    go_enter Tryz.func232, Tryz.ntmps232
    go_upto_region 2 with (fail)
    generalize (w.alloc (.cells #[.pointer (some ⟨b0, 0, none⟩)] 192)).alloc (.cells #[.slice none 0 0] 25) = W at H0 ⊢
    obtain ⟨k1, k2⟩ := H0.out.c
    go_wp2_with (go_at_call 223; (with_reducible refine (HL.out _ _).mono ?_); rintro x w1 ⟨rfl, rfl⟩)
    go_ret2
    exact HSX.out _ _ _ _ _ _ _ H0.out HE.out (by simp) (by omega) (fun h => by simp at h)
  · have HEA : Hid (∀ W, SI w W b0 (w.heap.size + 1) w.heap.size (s.drop i) i false (.slice none 0 0) [] → Calls Tryz.prog 223 #[.int .i64 n, .int .i64 64, .func (.func 236) #[] #[.pointer (some ⟨w.heap.size + 1, 0, none⟩), .pointer (some ⟨w.heap.size, 0, none⟩)]] W fun x W' => ∃ e : Int, x = .returned (.int .i64 e) ∧ ∃ v l' k' bad' ls, SI w W' b0 (w.heap.size + 1) w.heap.size l' k' bad' v ls ∧ e = srcsE s i n ∧ l'.length ≤ s.length ∧ k' ≤ s.length ∧ (e = 0 → ls = srcsL s i n ∧ l' = s.drop (i + 4 * n) ∧ k' = i + 4 * n ∧ bad' = false)) := zh fun W hW => by
      refine (each_any 236 _ (enters_of Tryz.func236 (by kernel_rfl) rfl) n (by omega)
        (fun j W => i + 4 * j ≤ s.length ∧ ∃ v, SI w W b0 (w.heap.size + 1) w.heap.size (s.drop (i + 4 * j)) (i + 4 * j) false v (srcsL s i j))
        (fun e W => e = 3 ∧ s.length < i + 4 * n ∧ ∃ v l' k' ls, SI w W b0 (w.heap.size + 1) w.heap.size l' k' true v ls ∧ l'.length ≤ s.length ∧ k' ≤ s.length) W ⟨by omega, _, by simpa [srcsL] using hW⟩ ?_).mono ?_
      · intro j W2 hj ⟨hle, v, hS⟩
        by_cases hg : i + 4 * j + 4 ≤ s.length
        · refine (src1_any w W2 b0 _ _ _ _ _ _ _ _ v _ _ (fourL_ok s (i + 4 * j)) (paddr_good b0 s (i + 4 * j) hg (by omega)) hS (by rw [srcsL_length]; omega)).mono ?_
          rintro x W3 ⟨rfl, v', h3⟩
          refine ⟨0, rfl, fun _ => ⟨by omega, v', ?_⟩, fun h => absurd rfl h⟩
          rw [srcsL_snoc, show i + 4 * (j + 1) = i + 4 * j + 4 by omega]
          exact h3
        · refine (src1_any w W2 b0 _ _ _ _ _ _ _ _ v _ _ zeroA_ok (paddr_short b0 s (i + 4 * j) (by omega) hle (by omega)) hS (by rw [srcsL_length]; omega)).mono ?_
          rintro x W3 ⟨rfl, v', h3⟩
          exact ⟨3, rfl, fun h => by simp at h, fun _ => ⟨rfl, by omega, v', _, _, _, h3, by simp, hle⟩⟩
      · rintro x W' ⟨e, rfl, h1, h2⟩
        refine ⟨e, rfl, ?_⟩
        by_cases he : e = 0
        · obtain ⟨h3, v, h4⟩ := h1 he
          exact ⟨v, _, _, _, _, h4, by unfold srcsE; rw [if_neg hl, if_neg (by omega)]; exact he, by simp, h3, fun _ => ⟨rfl, rfl, rfl, rfl⟩⟩
        · obtain ⟨h3, h4, v, l', k', ls, h5, h6, h7⟩ := h2 he
          exact ⟨v, _, _, _, _, h5, by unfold srcsE; rw [if_neg hl, if_pos h4]; exact h3, h6, h7, fun h => absurd h he⟩
    clear h
    go_enter Tryz.func232, Tryz.ntmps232
    go_upto_region 2 with (fail)
    generalize (w.alloc (.cells #[.pointer (some ⟨b0, 0, none⟩)] 192)).alloc (.cells #[.slice none 0 0] 25) = W at H0 ⊢
    go_upto_region 3 with (go_at_call 223; (with_reducible refine (HEA.out _ H0.out).mono ?_); rintro x w1 ⟨e, rfl, v, l', k', bad', ls, h1, h2, h3, h4, h5⟩; obtain ⟨pp, cp, ev⟩ := own_slice8 h1.own; subst ev; have H1 := zh h1; have H2 := zh (And.intro h2 (And.intro h3 (And.intro h4 h5))); clear h1 h2 h3 h4 h5)
    obtain ⟨k1, k2⟩ := H1.out.c
    go_wp2
    go_ret2
    exact HSX.out _ _ _ _ _ _ _ H1.out H2.out.1 H2.out.2.1 H2.out.2.2.1 H2.out.2.2.2
end Go.Proofs.YtlbdehegknehiaaGreat

/- A part of the proof. -/
namespace Go.Proofs.YtlbdehegknehiaaGreat
open Go.RowKit
set_option linter.unusedVariables false
theorem by8_num (l : List UInt8) (h : 0 < l.length) : num (l.take 1) = by8 l 0 := by
  match l, h with
  | a :: r, _ => show num [a] = _; rw [num1]; rfl
def OQ (w W : World) (L l : List UInt8) (k : Nat) (bad : Bool) : Prop := RdAt W w.heap.size l k bad ∧ Below w.heap.size w W ∧ l.length ≤ L.length ∧ k ≤ L.length
theorem OQ.start (w : World) (L : List UInt8) : OQ w (w.alloc (.cells #[.string (Str L), .int .i64 0, .bool false] 164)) L L 0 false :=
  ⟨ObjAt.made w _ _, (Below.refl _ _).alloc (Nat.le_refl _) _, Nat.le_refl _, by omega⟩
theorem OQ.size {w W : World} {L l : List UInt8} {k : Nat} {bad : Bool} (h : OQ w W L l k bad) : (match W.cell? ⟨w.heap.size, 0, none⟩ with | some (.string t) => t.size | _ => 0) = l.length := by
  have := ObjAt.cell h.1 0
  simp at this
  rw [this]
  simp [Str_size]
theorem OQ.grown {w W W' : World} {L l l' : List UInt8} {k k' : Nat} {bad bad' : Bool} (h : OQ w W L l k bad) (hr : RdAt W' w.heap.size l' k' bad') (hg : W.grownBy W' (some w.heap.size)) (hl : l'.length ≤ L.length) (hk : k' ≤ L.length) : OQ w W' L l' k' bad' :=
  ⟨hr, bgrown h.2.1 hg (fun n hn => by simp at hn; omega), hl, hk⟩
end Go.Proofs.YtlbdehegknehiaaGreat


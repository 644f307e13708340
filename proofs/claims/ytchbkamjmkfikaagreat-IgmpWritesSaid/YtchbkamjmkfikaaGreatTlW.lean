/-
  The walk of the law IgmpWrites.
-/
import Derived.Test.YtchbkamjmkfikaaGreatMg45
import Derived.Test.YtchbkamjmkfikaaGreatTlH
import Derived.Deep.RegionHeld3
namespace Go.Proofs.YtchbkamjmkfikaaGreat
open Go.RowKit
set_option linter.unusedVariables false
set_option linter.unusedSimpArgs false
attribute [local go_sem ↓] ld_addr st_addr bld_addr ld_tk st_tk bld_tk
attribute [local go_sem] ldr_addr str_addr ldr_tk str_tk

theorem sizeR_bytes (l : List RC) {t : TK} (ho : t.ok) (h2 : l.all recOk = true) (hl : l = t.rcs) : ((l.map recB).flatten).length ≤ 1100 * l.length := by
  subst hl
  have key : ∀ (q : List RC), (∀ r ∈ q, (recB r).length ≤ 1100) → ((q.map recB).flatten).length ≤ 1100 * q.length := by
    intro q
    induction q with
    | nil => intro _; simp
    | cons r q ih =>
      intro h
      have h1 := h r (by simp)
      have h2 := ih (fun x hx => h x (by simp [hx]))
      simp at h2 ⊢
      omega
  refine key _ fun r hr => ?_
  rw [List.all_eq_true] at h2
  obtain ⟨_, _, a3⟩ := recOk_parts (h2 r hr)
  obtain ⟨g1, g2⟩ := ho.2.2 r hr
  have e1 := adB_le g1
  have e2 := listL_le g2
  unfold recB
  simp [putL_length]
  omega
theorem wrtT_le (t : TK) (ho : t.ok) (hg : good8 t = true) : (wrtT t).length ≤ 100000 := by
  have h1 : (headT t).length = 2 := headT_length t
  have hb := adB_le ho.1
  have hR : (restT t).length ≤ 90000 := by
    unfold restT
    split
    · rename_i h
      rcases good8_cases t hg with ⟨v, k, _⟩ | ⟨v, k, _⟩ | ⟨v, k, _⟩ | ⟨⟨v, k⟩ | ⟨v, k⟩ | ⟨v, k⟩, _⟩ | ⟨v, k, _, h2, h3, h4⟩
      · omega
      · omega
      · omega
      · omega
      · omega
      · omega
      rw [List.length_append, putL_length]
      have h5 := sizeR_bytes t.rcs ho h2 rfl
      omega
    · split
      · rename_i h1 h
        rcases good8_cases t hg with ⟨v, k, _⟩ | ⟨v, k, _⟩ | ⟨v, k, _, _, h3⟩ | ⟨⟨v, k⟩ | ⟨v, k⟩ | ⟨v, k⟩, _⟩ | ⟨v, k, _, h2, h3, h4⟩
        · omega
        · omega
        · have := listL_le ho.2.1
          simp [putL_length]; omega
        · omega
        · omega
        · omega
        · omega
      · omega
  unfold wrtT
  simp [putL_length, h1]; omega
/-- Both talks boxed. -/
def BX (w W : World) (a b : TK) (ua va ub vb : Value) : Prop := TkAt W w.heap.size a ua va ∧ TkAt W (w.heap.size + 1) b ub vb ∧ Below w.heap.size w W
theorem BX.made (w : World) (a b : TK) (ua va ub vb : Value) (ha : adOk a.g) (hb : adOk b.g) : BX w ((w.alloc (.cells (tkC a ua va).toArray 28)).alloc (.cells (tkC b ub vb).toArray 28)) a b ua va ub vb := T2.made w a b ua va ub vb ha hb
theorem BX.below {w W W' : World} {a b : TK} {ua va ub vb : Value} (h : BX w W a b ua va ub vb) (hb : Below W.heap.size W W') : BX w W' a b ua va ub vb := ⟨h.1.below hb, h.2.1.below hb, bstep h.2.2 hb⟩
theorem BX.rows {w W : World} {a b : TK} {ua va ub vb : Value} (h : BX w W a b ua va ub vb) : row? W w.heap.size 0 26 = some (tkC a ua va) ∧ row? W (w.heap.size + 1) 0 26 = some (tkC b ub vb) := ⟨h.1.row, h.2.1.row⟩
theorem BX.free1 {w W : World} {a b : TK} {ua va ub vb : Value} (h : BX w W a b ua va ub vb) : free? W w.heap.size 0 26 = true := obj_free h.1.1 (by simp [tkC_length h.1.2])
theorem BX.free2 {w W : World} {a b : TK} {ua va ub vb : Value} (h : BX w W a b ua va ub vb) : free? W (w.heap.size + 1) 0 26 = true := obj_free h.2.1.1 (by simp [tkC_length h.2.1.2])
theorem BX.put1 {w W : World} {a b a' : TK} {ua va ub vb us ur : Value} (h : BX w W a b ua va ub vb) (ho : adOk a'.g) (hs : AdsT W us a'.src) (hr : RcT W ur a'.rcs) : BX w (aggW W w.heap.size (tkC a' us ur)) a' b us ur ub vb :=
  ⟨⟨aggW_obj h.1.1 (by rw [tkC_length ho, tkC_length h.1.2]) (tkC_one hs.1.one hr.rcs.one), ho⟩, ⟨aggW_other h.2.1.1 _ (by omega), h.2.1.2⟩, aggW_below h.2.2 (Nat.le_refl _) _⟩
theorem BX.put2 {w W : World} {a b b' : TK} {ua va ub vb us ur : Value} (h : BX w W a b ua va ub vb) (ho : adOk b'.g) (hs : AdsT W us b'.src) (hr : RcT W ur b'.rcs) : BX w (aggW W (w.heap.size + 1) (tkC b' us ur)) a b' ua va us ur :=
  ⟨⟨aggW_other h.1.1 _ (by omega), h.1.2⟩, ⟨aggW_obj h.2.1.1 (by rw [tkC_length ho, tkC_length h.2.1.2]) (tkC_one hs.1.one hr.rcs.one), ho⟩, aggW_below h.2.2 (by omega) _⟩
theorem BX.g1 {w W : World} {a b x y : TK} {ua va ub vb u1 r1 u2 r2 : Value} (h : BX w W a b ua va ub vb) (cs : List Value) (h1 : AdsT W u1 x.src ∧ RcT W r1 x.rcs) (h2 : AdsT W u2 y.src ∧ RcT W r2 y.rcs) : (AdsT (aggW W w.heap.size cs) u1 x.src ∧ RcT (aggW W w.heap.size cs) r1 x.rcs) ∧ (AdsT (aggW W w.heap.size cs) u2 y.src ∧ RcT (aggW W w.heap.size cs) r2 y.rcs) :=
  ⟨⟨h1.1.grown h.1.1 (aggW_grown _ _ _), h1.2.grown h.1.1 (aggW_grown _ _ _)⟩, h2.1.grown h.1.1 (aggW_grown _ _ _), h2.2.grown h.1.1 (aggW_grown _ _ _)⟩
theorem BX.g2 {w W : World} {a b x y : TK} {ua va ub vb u1 r1 u2 r2 : Value} (h : BX w W a b ua va ub vb) (cs : List Value) (h1 : AdsT W u1 x.src ∧ RcT W r1 x.rcs) (h2 : AdsT W u2 y.src ∧ RcT W r2 y.rcs) : (AdsT (aggW W (w.heap.size + 1) cs) u1 x.src ∧ RcT (aggW W (w.heap.size + 1) cs) r1 x.rcs) ∧ (AdsT (aggW W (w.heap.size + 1) cs) u2 y.src ∧ RcT (aggW W (w.heap.size + 1) cs) r2 y.rcs) :=
  ⟨⟨h1.1.grown h.2.1.1 (aggW_grown _ _ _), h1.2.grown h.2.1.1 (aggW_grown _ _ _)⟩, h2.1.grown h.2.1.1 (aggW_grown _ _ _), h2.2.grown h.2.1.1 (aggW_grown _ _ _)⟩
/-- Both talks boxed, with their slices. -/
def BQ (w W : World) (a b : TK) (ua va ub vb : Value) : Prop := BX w W a b ua va ub vb ∧ AdsT W ua a.src ∧ RcT W va a.rcs ∧ AdsT W ub b.src ∧ RcT W vb b.rcs
theorem BQ.below {w W W' : World} {a b : TK} {ua va ub vb : Value} (h : BQ w W a b ua va ub vb) (hb : Below W.heap.size W W') : BQ w W' a b ua va ub vb := ⟨h.1.below hb, h.2.1.below hb, h.2.2.1.below hb, h.2.2.2.1.below hb, h.2.2.2.2.below hb⟩
theorem BQ.drewN {w W : World} {a b : TK} {ua va ub vb : Value} (h : BQ w W a b ua va ub vb) (d : Nat) : BQ w (W.drewN d) a b ua va ub vb := h.below (bdrewN (Below.refl _ _) d)
/-- Slices of a talk. -/
def FN (W : World) (t : TK) (u r : Value) : Prop := Ads W u t.src ∧ Rcs W r t.rcs
theorem FN.below {W W' : World} {t : TK} {u r : Value} (h : FN W t u r) (hb : Below W.heap.size W W') : FN W' t u r := ⟨h.1.below hb, h.2.below hb⟩

set_option maxRecDepth 100000 in
set_option maxHeartbeats 4000000 in
theorem gwrites (a b : TK) (ua va ub vb : Value) (w : World) (hoa : a.ok) (hob : b.ok) (sa : Ads w ua a.src) (ra : Rcs w va a.rcs) (sb : Ads w ub b.src) (rb : Rcs w vb b.rcs) :
    Calls Tryz.prog 3 #[.agg (tkC a ua va).toArray, .agg (tkC b ub vb).toArray] w fun x w' => x = .returned (.bool true) ∧ Below w.heap.size w w' := by
  have H0 := Lib.hid (BX.made w a b ua va ub vb hoa.1 hob.1)
  have HFA := Lib.hid (fun W (h : Below w.heap.size w W) => lfew_any a ua va W hoa.1 (sa.below h) (ra.below h))
  have HFB := Lib.hid (fun W (h : Below w.heap.size w W) => lfew_any b ub vb W hob.1 (sb.below h) (rb.below h))
  have hkA := fewT_ok hoa
  have hkB := fewT_ok hob
  have hlA := fewT_len a
  have hlB := fewT_len b
  have hfA := fewT_few a
  have hfB := fewT_few b
  generalize fewT a = TA at *
  generalize fewT b = TB at *
  have HOA := Lib.hid hkA.1
  have HOB := Lib.hid hkB.1
  have HFT : Hid (∀ W uA rA uB rB, BQ w W TA TB uA rA uB rB → Calls Tryz.prog 4 #[.agg (tkC TA uA rA).toArray] W fun x w' => ∃ us ur, x = .returned (.agg (tkC TA us ur).toArray) ∧ Below W.heap.size W w' ∧ AdsT w' us TA.src ∧ RcT w' ur TA.rcs) := Lib.hid fun W uA rA uB rB h => by
    have := lfew_any TA uA rA W hkA.1 h.2.1.1 h.2.2.1.rcs
    rw [hfA] at this; exact this
  have HFO : Hid (∀ W uA rA uB rB, BQ w W TA TB uA rA uB rB → Calls Tryz.prog 4 #[.agg (tkC TB uB rB).toArray] W fun x w' => ∃ us ur, x = .returned (.agg (tkC TB us ur).toArray) ∧ Below W.heap.size W w' ∧ AdsT w' us TB.src ∧ RcT w' ur TB.rcs) := Lib.hid fun W uA rA uB rB h => by
    have := lfew_any TB uB rB W hkB.1 h.2.2.2.1.1 h.2.2.2.2.rcs
    rw [hfB] at this; exact this
  have HGP := Lib.hid (fun W u r (h : FN W TA u r) => good8_any TA u r W hkA h.1 h.2 (by omega))
  have HWP := Lib.hid (fun W u r (h : FN W TA u r) => write8_any TA u r W hkA h.1 h.2 (by omega))
  have HGR := Lib.hid (fun W uA rA uB rB (h : BQ w W TA TB uA rA uB rB) => rgood8_any TA uA rA W hkA h.2.1.1 h.2.2.1.rcs (by omega))
  have HSP := Lib.hid (fun W u r u' r' (h : FN W TA u r) (h' : FN W TB u' r') => same8_any _ _ TA TB W ⟨HOA.out, u, r, rfl, h.1, h.2⟩ ⟨HOB.out, u', r', rfl, h'.1, h'.2⟩)
  have HST : Hid (∀ W u r u' r', FN W TA u r → FN W TA u' r' → Calls Tryz.prog 8 #[.agg (tkC TA u r).toArray, .agg (tkC TA u' r').toArray] W fun x w' => x = .returned (.bool true) ∧ Below W.heap.size W w') := Lib.hid fun W u r u' r' h h' => by
    have := same8_any _ _ TA TA W ⟨HOA.out, u, r, rfl, h.1, h.2⟩ ⟨HOA.out, u', r', rfl, h'.1, h'.2⟩
    rw [decide_eq_true rfl] at this; exact this
  have HSR := Lib.hid (fun W uA rA uB rB (h : BQ w W TA TB uA rA uB rB) => same_any _ _ TA TB W ⟨HOA.out, uA, rA, rfl, h.2.1.1, h.2.2.1.rcs⟩ ⟨HOB.out, uB, rB, rfl, h.2.2.2.1.1, h.2.2.2.2.rcs⟩)
  have HWW := Lib.hid (fun (hg : good8 TA = true) W uA rA uB rB (h : BQ w W TA TB uA rA uB rB) => rwrite8_any TA uA rA W hkA h.2.1.1 h.2.2.1.rcs hg)
  have HBK := Lib.hid (fun (hg : good8 TA = true) => read_wrtT TA hkA hg)
  have HWL := Lib.hid (fun (hg : good8 TA = true) => wrtT_le TA hkA hg)
  have HL := Lib.hid (fun W => lives8_any W)
  have hfm := hfm26
  clear hoa hob sa ra sb rb hkA hkB hlA hlB hfA hfB
  go_enter Tryz.func3, Tryz.ntmps3
  go_upto_region 1 with (fail)
  generalize (w.alloc (.cells (tkC a ua va).toArray 28)).alloc (.cells (tkC b ub vb).toArray 28) = W at H0 ⊢
  go_cut [] from 9 (fun wr => ∃ uA rA uB rB, BQ w wr TA TB uA rA uB rB)
  case first =>
    refine wp_region_held_drew (S := fun _ => True) (by kernel_rfl) (trivial) (fun hHeld => ?_)
    have Ha := Lib.hid (show BX w W.drew a b ua va ub vb from H0.out.below ⟨rfl, rfl, rfl, Nat.le_refl _, fun _ _ => rfl⟩)
    generalize W.drew = wa at Ha ⊢
    have HBa := Lib.hid Ha.out.2.2
    obtain ⟨k1, k2⟩ := Ha.out.rows
    refine wpAnyH_ready (rs := [0, 2]) (by kernel_rfl) (by simp) (AllReadyH.cons (o := _) rfl (fun K hK => ?_) (AllReadyH.cons (o := _) rfl (fun K hK => ?_) AllReadyH.nil))
    · go_simp
      refine hK.out _ _ (trivial) (fun hHeld => ?_)
      clear hK K
      try simp only [Act.put, List.setIfInBounds_toArray, List.set_cons_zero, List.set_cons_succ]
      refine wpAnyH_ready (rs := [1, 2]) (by kernel_rfl) (by simp) (AllReadyH.cons (o := _) rfl (fun K hK => ?_) (AllReadyH.cons (o := _) rfl (fun K hK => ?_) AllReadyH.nil))
      · go_simp
        (go_at_call 4; (with_reducible refine (HFA.out _ HBa.out).mono ?_); rintro x wb ⟨uA, rA, rfl, hbb, hsb, hrb⟩; have Hb := Lib.hid (Ha.out.below hbb); have HBb := Lib.hid Hb.out.2.2; have HTA := Lib.hid (show AdsT wb uA TA.src ∧ RcT wb rA TA.rcs from ⟨hsb, hrb⟩); clear hbb hsb hrb k1 k2; obtain ⟨k1, k2⟩ := Hb.out.rows)
        try go_wp2_with fail
        refine hK.out _ _ (trivial) (fun hHeld => ?_)
        clear hK K
        try simp only [Act.put, List.setIfInBounds_toArray, List.set_cons_zero, List.set_cons_succ]
        refine wpAnyH_ready (rs := [2]) (by kernel_rfl) (by simp) (AllReadyH.cons (o := _) rfl (fun K hK => ?_) AllReadyH.nil)
        go_simp
        refine hK.out _ _ (trivial) (fun hHeld => ?_)
        clear hK K
        try simp only [Act.put, List.setIfInBounds_toArray, List.set_cons_zero, List.set_cons_succ]
        refine wpAnyH_ready (rs := [3]) (by kernel_rfl) (by simp) (AllReadyH.cons (o := _) rfl (fun K hK => ?_) AllReadyH.nil)
        go_simp
        (go_at_call 4; (with_reducible refine (HFB.out _ HBb.out).mono ?_); rintro x wc ⟨uB, rB, rfl, hbc, hsc, hrc⟩; have Hc := Lib.hid (Hb.out.below hbc); have HBc := Lib.hid Hc.out.2.2; have HTB := Lib.hid (show AdsT wc uB TB.src ∧ RcT wc rB TB.rcs from ⟨hsc, hrc⟩); have HTA := Lib.hid (show AdsT wc uA TA.src ∧ RcT wc rA TA.rcs from ⟨HTA.out.1.below hbc, HTA.out.2.below hbc⟩); clear hbc hsc hrc k1 k2; obtain ⟨k1, k2⟩ := Hc.out.rows)
        try go_wp2_with fail
        refine hK.out _ _ (trivial) (fun hHeld => ?_)
        clear hK K
        try simp only [Act.put, List.setIfInBounds_toArray, List.set_cons_zero, List.set_cons_succ]
        have f1 := Hc.out.free1
        have f2 := Hc.out.free2
        have hfa := fok_tk HOA.out HTA.out.1.1.one HTA.out.2.rcs.one
        have hfb := fok_tk HOB.out HTB.out.1.1.one HTB.out.2.rcs.one
        refine wpAnyH_ready (rs := [4]) (by kernel_rfl) (by simp) (AllReadyH.cons (o := _) rfl (fun K hK => ?_) AllReadyH.nil)
        go_simp
        refine hK.out _ _ (trivial) (fun hHeld => ?_)
        clear hK K
        try simp only [Act.put, List.setIfInBounds_toArray, List.set_cons_zero, List.set_cons_succ]
        have Hd := Lib.hid (Hc.out.put1 HOA.out HTA.out.1 HTA.out.2)
        have HTd := Lib.hid (Hc.out.g1 (tkC TA uA rA) HTA.out HTB.out)
        generalize aggW wc w.heap.size _ = wd at Hd HTd ⊢
        have f3 := Hd.out.free2
        clear f1 f2 k1 k2
        refine wpAnyH_ready (rs := [5]) (by kernel_rfl) (by simp) (AllReadyH.cons (o := _) rfl (fun K hK => ?_) AllReadyH.nil)
        go_simp
        refine hK.out _ _ (trivial) (fun hHeld => ?_)
        clear hK K
        try simp only [Act.put, List.setIfInBounds_toArray, List.set_cons_zero, List.set_cons_succ]
        have He := Lib.hid (Hd.out.put2 HOB.out HTd.out.2.1 HTd.out.2.2)
        have HTe := Lib.hid (Hd.out.g2 (tkC TB uB rB) HTd.out.1 HTd.out.2)
        generalize aggW wd (w.heap.size + 1) _ = we at He HTe ⊢
        clear f3
        refine wpAnyH_done (by kernel_rfl) ?_ _
        go_wp2_with fail
        go_meet
        case rel => exact ⟨_, _, _, _, He.out, HTe.out.1.1, HTe.out.1.2, HTe.out.2.1, HTe.out.2.2⟩
      · go_simp
        refine hK.out _ _ (trivial) (fun hHeld => ?_)
        clear hK K
        try simp only [Act.put, List.setIfInBounds_toArray, List.set_cons_zero, List.set_cons_succ]
        refine wpAnyH_ready (rs := [1]) (by kernel_rfl) (by simp) (AllReadyH.cons (o := _) rfl (fun K hK => ?_) AllReadyH.nil)
        go_simp
        (go_at_call 4; (with_reducible refine (HFA.out _ HBa.out).mono ?_); rintro x wb ⟨uA, rA, rfl, hbb, hsb, hrb⟩; have Hb := Lib.hid (Ha.out.below hbb); have HBb := Lib.hid Hb.out.2.2; have HTA := Lib.hid (show AdsT wb uA TA.src ∧ RcT wb rA TA.rcs from ⟨hsb, hrb⟩); clear hbb hsb hrb k1 k2; obtain ⟨k1, k2⟩ := Hb.out.rows)
        try go_wp2_with fail
        refine hK.out _ _ (trivial) (fun hHeld => ?_)
        clear hK K
        try simp only [Act.put, List.setIfInBounds_toArray, List.set_cons_zero, List.set_cons_succ]
        refine wpAnyH_ready (rs := [3]) (by kernel_rfl) (by simp) (AllReadyH.cons (o := _) rfl (fun K hK => ?_) AllReadyH.nil)
        go_simp
        (go_at_call 4; (with_reducible refine (HFB.out _ HBb.out).mono ?_); rintro x wc ⟨uB, rB, rfl, hbc, hsc, hrc⟩; have Hc := Lib.hid (Hb.out.below hbc); have HBc := Lib.hid Hc.out.2.2; have HTB := Lib.hid (show AdsT wc uB TB.src ∧ RcT wc rB TB.rcs from ⟨hsc, hrc⟩); have HTA := Lib.hid (show AdsT wc uA TA.src ∧ RcT wc rA TA.rcs from ⟨HTA.out.1.below hbc, HTA.out.2.below hbc⟩); clear hbc hsc hrc k1 k2; obtain ⟨k1, k2⟩ := Hc.out.rows)
        try go_wp2_with fail
        refine hK.out _ _ (trivial) (fun hHeld => ?_)
        clear hK K
        try simp only [Act.put, List.setIfInBounds_toArray, List.set_cons_zero, List.set_cons_succ]
        have f1 := Hc.out.free1
        have f2 := Hc.out.free2
        have hfa := fok_tk HOA.out HTA.out.1.1.one HTA.out.2.rcs.one
        have hfb := fok_tk HOB.out HTB.out.1.1.one HTB.out.2.rcs.one
        refine wpAnyH_ready (rs := [4]) (by kernel_rfl) (by simp) (AllReadyH.cons (o := _) rfl (fun K hK => ?_) AllReadyH.nil)
        go_simp
        refine hK.out _ _ (trivial) (fun hHeld => ?_)
        clear hK K
        try simp only [Act.put, List.setIfInBounds_toArray, List.set_cons_zero, List.set_cons_succ]
        have Hd := Lib.hid (Hc.out.put1 HOA.out HTA.out.1 HTA.out.2)
        have HTd := Lib.hid (Hc.out.g1 (tkC TA uA rA) HTA.out HTB.out)
        generalize aggW wc w.heap.size _ = wd at Hd HTd ⊢
        have f3 := Hd.out.free2
        clear f1 f2 k1 k2
        refine wpAnyH_ready (rs := [5]) (by kernel_rfl) (by simp) (AllReadyH.cons (o := _) rfl (fun K hK => ?_) AllReadyH.nil)
        go_simp
        refine hK.out _ _ (trivial) (fun hHeld => ?_)
        clear hK K
        try simp only [Act.put, List.setIfInBounds_toArray, List.set_cons_zero, List.set_cons_succ]
        have He := Lib.hid (Hd.out.put2 HOB.out HTd.out.2.1 HTd.out.2.2)
        have HTe := Lib.hid (Hd.out.g2 (tkC TB uB rB) HTd.out.1 HTd.out.2)
        generalize aggW wd (w.heap.size + 1) _ = we at He HTe ⊢
        clear f3
        refine wpAnyH_done (by kernel_rfl) ?_ _
        go_wp2_with fail
        go_meet
        case rel => exact ⟨_, _, _, _, He.out, HTe.out.1.1, HTe.out.1.2, HTe.out.2.1, HTe.out.2.2⟩
    · go_simp
      refine hK.out _ _ (trivial) (fun hHeld => ?_)
      clear hK K
      try simp only [Act.put, List.setIfInBounds_toArray, List.set_cons_zero, List.set_cons_succ]
      refine wpAnyH_ready (rs := [0]) (by kernel_rfl) (by simp) (AllReadyH.cons (o := _) rfl (fun K hK => ?_) AllReadyH.nil)
      go_simp
      refine hK.out _ _ (trivial) (fun hHeld => ?_)
      clear hK K
      try simp only [Act.put, List.setIfInBounds_toArray, List.set_cons_zero, List.set_cons_succ]
      refine wpAnyH_ready (rs := [1]) (by kernel_rfl) (by simp) (AllReadyH.cons (o := _) rfl (fun K hK => ?_) AllReadyH.nil)
      go_simp
      (go_at_call 4; (with_reducible refine (HFA.out _ HBa.out).mono ?_); rintro x wb ⟨uA, rA, rfl, hbb, hsb, hrb⟩; have Hb := Lib.hid (Ha.out.below hbb); have HBb := Lib.hid Hb.out.2.2; have HTA := Lib.hid (show AdsT wb uA TA.src ∧ RcT wb rA TA.rcs from ⟨hsb, hrb⟩); clear hbb hsb hrb k1 k2; obtain ⟨k1, k2⟩ := Hb.out.rows)
      try go_wp2_with fail
      refine hK.out _ _ (trivial) (fun hHeld => ?_)
      clear hK K
      try simp only [Act.put, List.setIfInBounds_toArray, List.set_cons_zero, List.set_cons_succ]
      refine wpAnyH_ready (rs := [3]) (by kernel_rfl) (by simp) (AllReadyH.cons (o := _) rfl (fun K hK => ?_) AllReadyH.nil)
      go_simp
      (go_at_call 4; (with_reducible refine (HFB.out _ HBb.out).mono ?_); rintro x wc ⟨uB, rB, rfl, hbc, hsc, hrc⟩; have Hc := Lib.hid (Hb.out.below hbc); have HBc := Lib.hid Hc.out.2.2; have HTB := Lib.hid (show AdsT wc uB TB.src ∧ RcT wc rB TB.rcs from ⟨hsc, hrc⟩); have HTA := Lib.hid (show AdsT wc uA TA.src ∧ RcT wc rA TA.rcs from ⟨HTA.out.1.below hbc, HTA.out.2.below hbc⟩); clear hbc hsc hrc k1 k2; obtain ⟨k1, k2⟩ := Hc.out.rows)
      try go_wp2_with fail
      refine hK.out _ _ (trivial) (fun hHeld => ?_)
      clear hK K
      try simp only [Act.put, List.setIfInBounds_toArray, List.set_cons_zero, List.set_cons_succ]
      have f1 := Hc.out.free1
      have f2 := Hc.out.free2
      have hfa := fok_tk HOA.out HTA.out.1.1.one HTA.out.2.rcs.one
      have hfb := fok_tk HOB.out HTB.out.1.1.one HTB.out.2.rcs.one
      refine wpAnyH_ready (rs := [4]) (by kernel_rfl) (by simp) (AllReadyH.cons (o := _) rfl (fun K hK => ?_) AllReadyH.nil)
      go_simp
      refine hK.out _ _ (trivial) (fun hHeld => ?_)
      clear hK K
      try simp only [Act.put, List.setIfInBounds_toArray, List.set_cons_zero, List.set_cons_succ]
      have Hd := Lib.hid (Hc.out.put1 HOA.out HTA.out.1 HTA.out.2)
      have HTd := Lib.hid (Hc.out.g1 (tkC TA uA rA) HTA.out HTB.out)
      generalize aggW wc w.heap.size _ = wd at Hd HTd ⊢
      have f3 := Hd.out.free2
      clear f1 f2 k1 k2
      refine wpAnyH_ready (rs := [5]) (by kernel_rfl) (by simp) (AllReadyH.cons (o := _) rfl (fun K hK => ?_) AllReadyH.nil)
      go_simp
      refine hK.out _ _ (trivial) (fun hHeld => ?_)
      clear hK K
      try simp only [Act.put, List.setIfInBounds_toArray, List.set_cons_zero, List.set_cons_succ]
      have He := Lib.hid (Hd.out.put2 HOB.out HTd.out.2.1 HTd.out.2.2)
      have HTe := Lib.hid (Hd.out.g2 (tkC TB uB rB) HTd.out.1 HTd.out.2)
      generalize aggW wd (w.heap.size + 1) _ = we at He HTe ⊢
      clear f3
      refine wpAnyH_done (by kernel_rfl) ?_ _
      go_wp2_with fail
      go_meet
      case rel => exact ⟨_, _, _, _, He.out, HTe.out.1.1, HTe.out.1.2, HTe.out.2.1, HTe.out.2.2⟩
  case rest =>
    obtain ⟨uA, rA, uB, rB, hg⟩ := hcut
    have H1 := Lib.hid hg
    clear hg HFA HFB H0
    have HFT2 := Lib.hid (fun W h => HFT.out W uA rA uB rB h)
    have HFO2 := Lib.hid (fun W h => HFO.out W uA rA uB rB h)
    have HGR2 := Lib.hid (fun W h => HGR.out W uA rA uB rB h)
    have HSR2 := Lib.hid (fun W h => HSR.out W uA rA uB rB h)
    have HWW2 := Lib.hid (fun hg W h => HWW.out hg W uA rA uB rB h)
    clear HFT HFO HGR HSR HWW
    have HK : Hid (∀ W, BQ w W TA TB uA rA uB rB → row? W w.heap.size 0 26 = some (tkC TA uA rA) ∧ row? W (w.heap.size + 1) 0 26 = some (tkC TB uB rB) ∧ BQ w W TA TB uA rA uB rB) := Lib.hid fun W h => ⟨h.1.rows.1, h.1.rows.2, h⟩
    obtain ⟨k1, k2, _⟩ := HK.out _ H1.out
    have HFT1 := Lib.hid (HFT2.out _ H1.out)
    obtain ⟨g, hg⟩ : ∃ g, g = good8 TA := ⟨_, rfl⟩
    obtain ⟨e, he⟩ : ∃ e, e = decide (TA = TB) := ⟨_, rfl⟩
    rw [← hg] at HGP HGR2 HWP
    rw [← he] at HSP HSR2
    have HGG := Lib.hid hg
    clear hg he
    have hgg : (g != g) = false := by simp
    have hee : (e != e) = false := by simp
    obtain ⟨S, hS⟩ : ∃ S : List UInt8, S = if g = true then wrtT TA else [] := ⟨_, rfl⟩
    obtain ⟨c, hc⟩ : ∃ c : Int, c = if g = true then 0 else 2 := ⟨_, rfl⟩
    rw [← hS, ← hc] at HWP
    have HSS := Lib.hid hS
    have HCC := Lib.hid hc
    clear hS hc
    go_upto_region 3 with (first
      | (go_at_call 4; (with_reducible refine (HFT1.out).mono ?_); rintro x w2 ⟨u2, r2, rfl, hb2, hs2, hr2⟩; have H2 := Lib.hid (H1.out.below hb2); have HW2 := Lib.hid (HWP.out _ _ _ ⟨hs2.1, hr2.rcs⟩); clear hb2 hs2 hr2 k1 k2)
      | (go_at_call 5; (with_reducible refine (HW2.out).mono ?_); rintro x w3 ⟨rfl, hb3⟩; have H3 := Lib.hid (H2.out.below hb3); clear hb3))
    clear HW2 HFT1 HWP
    go_cut [43] from 19 (fun q wr => q = .bool false ∧ BQ w wr TA TB uA rA uB rB)
    case first =>
      go_region_held3 (fun W => row? W w.heap.size 0 26 = some (tkC TA uA rA) ∧ row? W (w.heap.size + 1) 0 26 = some (tkC TB uB rB) ∧ BQ w W TA TB uA rA uB rB) (first | assumption | exact HK.out _ H3.out | exact HK.out _ (H3.out.drewN 1)) (first
        | (go_at_call 4; (with_reducible refine (HFT2.out _ (And.right (And.right (by assumption)))).mono ?_); rintro x w3 ⟨u9, r9, rfl, hb3, hs9, hr9⟩; have hk := HK.out _ (BQ.below (And.right (And.right (by assumption))) hb3); (try (have HP := Lib.hid (FN.below HN.out hb3))); have HN := Lib.hid (show FN w3 TA u9 r9 from ⟨hs9.1, hr9.rcs⟩); clear hs9 hr9; clear hb3)
        | (go_at_call 6; (with_reducible refine (HGP.out _ _ _ HN.out).mono ?_); rintro x w3 ⟨rfl, hb3⟩; have hk := HK.out _ (BQ.below (And.right (And.right (by assumption))) hb3); (try (have HN := Lib.hid (FN.below HN.out hb3))); clear hb3)
        | (go_at_call 7; (with_reducible refine (HGR2.out _ (And.right (And.right (by assumption)))).mono ?_); rintro x w3 ⟨rfl, hb3⟩; have hk := HK.out _ (BQ.below (And.right (And.right (by assumption))) hb3); (try (have HN := Lib.hid (FN.below HN.out hb3))); clear hb3)
        | (go_at_call 4; (with_reducible refine (HFO2.out _ (And.right (And.right (by assumption)))).mono ?_); rintro x w3 ⟨u9, r9, rfl, hb3, hs9, hr9⟩; have hk := HK.out _ (BQ.below (And.right (And.right (by assumption))) hb3); have HP := Lib.hid (FN.below HN.out hb3); have HM := Lib.hid (show FN w3 TB u9 r9 from ⟨hs9.1, hr9.rcs⟩); clear hs9 hr9; clear hb3)
        | (go_at_call 8; (with_reducible refine (HSP.out _ _ _ _ _ HP.out HM.out).mono ?_); rintro x w3 ⟨rfl, hb3⟩; have hk := HK.out _ (BQ.below (And.right (And.right (by assumption))) hb3); (try (have HN := Lib.hid (FN.below HN.out hb3))); clear hb3)
        | (go_at_call 9; (with_reducible refine (HSR2.out _ (And.right (And.right (by assumption)))).mono ?_); rintro x w3 ⟨rfl, hb3⟩; have hk := HK.out _ (BQ.below (And.right (And.right (by assumption))) hb3); (try (have HN := Lib.hid (FN.below HN.out hb3))); clear hb3)
        | (go_at_call 8; (with_reducible refine (HST.out _ _ _ _ _ HP.out HN.out).mono ?_); rintro x w3 ⟨rfl, hb3⟩; have hk := HK.out _ (BQ.below (And.right (And.right (by assumption))) hb3); (try (have HN := Lib.hid (FN.below HN.out hb3))); clear hb3))
      have H4 := Lib.hid hk.2.2
      clear hk
      go_wp2_with fail
      go_meet
      case rel => exact ⟨rfl, H4.out⟩
    case rest =>
      obtain ⟨rfl, hg4⟩ := hcut
      have H4 := Lib.hid hg4
      obtain ⟨k1, k2, _⟩ := HK.out _ hg4
      clear hg4 HFT2 HFO2 HSP HST HGP HSR2 H1 H2 H3
      have HG4 := Lib.hid (HGR2.out _ H4.out)
      cases g with
      | false =>
        have hS0 : Str S = ⟨#[]⟩ := by rw [HSS.out]; rfl
        have hc0 : c = 2 := HCC.out
        subst hc0
        clear HWW2 HWL HBK hfm
        go_wp2_with (first
          | (go_at_call 7; (with_reducible refine (HG4.out).mono ?_); rintro x w5 ⟨rfl, hb5⟩; have H5 := Lib.hid (H4.out.below hb5); clear hb5 k1 k2)
          | (go_at_call 10; (with_reducible refine (HL.out _).mono ?_); rintro x w6 ⟨rfl, hb6⟩; have H6 := Lib.hid (H5.out.below hb6); clear hb6))
        go_ret
        exact ⟨rfl, H6.out.1.2.2⟩
      | true =>
        have hgt := HGG.out.symm
        have hc0 : c = 0 := HCC.out
        subst hc0
        have hS0 : S = wrtT TA := HSS.out
        have hwl := HWL.out hgt
        have hrd := HBK.out hgt
        have HWV := Lib.hid (HWW2.out hgt)
        rw [← hS0] at hwl hrd HWV
        have HRD : Hid (∀ W, Calls Tryz.prog 11 #[.string (Str S)] W fun x w' => ∃ us ur, x = .returned (.tuple #[.agg (tkC TA us ur).toArray, .int .i64 0]) ∧ Below W.heap.size W w' ∧ FN w' TA us ur) := Lib.hid fun W => by
          have := read8_any S hwl W
          unfold ReadQ at this
          rw [hrd] at this
          exact this.mono fun x w' ⟨us, ur, h1, h2, _, h4, h5⟩ => ⟨us, ur, h1, h2, h4, h5⟩
        have hss2 : ∀ t : List UInt8, (t == t) = true := fun t => by simp
        have HSX := Lib.hid (fun W u1 r1 u2 r2 (h1 : FN W TA u1 r1) (h2 : FN W TA u2 r2) => same_any _ _ TA TA W ⟨HOA.out, u1, r1, rfl, h1.1, h1.2⟩ ⟨HOA.out, u2, r2, rfl, h2.1, h2.2⟩)
        rw [decide_eq_true rfl] at HSX
        clear HWW2 HWL HBK hgt hS0 hwl hrd HSS HCC HGG
        generalize Str S = SS at *
        have hss3 : (SS.toList == SS.toList) = true := hss2 _
        go_upto_region 7 with (go_at_call 7; (with_reducible refine (HG4.out).mono ?_); rintro x w5 ⟨rfl, hb5⟩; have H5 := Lib.hid (H4.out.below hb5); have HW5 := Lib.hid (HWV.out _ H5.out); clear hb5 k1 k2; obtain ⟨k1, k2, _⟩ := HK.out _ H5.out)
        go_upto_region 8 with (first
          | (go_at_call 12; (with_reducible refine (HW5.out).mono ?_); rintro x w6 ⟨rfl, hb6⟩; have H6 := Lib.hid (H5.out.below hb6); clear hb6 k1 k2)
          | (go_at_call 11; (with_reducible refine (HRD.out _).mono ?_); rintro x w7 ⟨u7, r7, rfl, hb7, hf7⟩; have hft := TM.fok HOA.out hf7.1 hf7.2; have H7 := Lib.hid (show TM w _ _ TA u7 r7 ∧ BQ w _ TA TB uA rA uB rB from ⟨TM.made (bstep H6.out.1.2.2 hb7) HOA.out hf7.1 hf7.2, (H6.out.below hb7).below (aggW_below ((Below.refl _ _).alloc (Nat.le_refl _) (.cells #[.bool false, .int .i64 0, .int .i64 0, .int .i64 0, .bool false, .int .u8 0, .int .u8 0, .int .u8 0, .int .u8 0, .int .u8 0, .int .u8 0, .int .u8 0, .int .u8 0, .int .u8 0, .int .u8 0, .int .u8 0, .int .u8 0, .int .u8 0, .int .u8 0, .int .u8 0, .int .u8 0, .bool false, .int .i64 0, .int .i64 0, .slice none 0 0, .slice none 0 0] 28)) (Nat.le_refl _) (tkC TA u7 r7))⟩); clear hb7 hf7))
        generalize aggW (w7.alloc (.cells #[.bool false, .int .i64 0, .int .i64 0, .int .i64 0, .bool false, .int .u8 0, .int .u8 0, .int .u8 0, .int .u8 0, .int .u8 0, .int .u8 0, .int .u8 0, .int .u8 0, .int .u8 0, .int .u8 0, .int .u8 0, .int .u8 0, .int .u8 0, .int .u8 0, .int .u8 0, .int .u8 0, .bool false, .int .i64 0, .int .i64 0, .slice none 0 0, .slice none 0 0] 28)) w7.heap.size _ = W8 at H7 ⊢
        generalize w7.heap.size = m at H7 ⊢
        clear hft
        obtain ⟨k1, k2, _⟩ := HK.out _ H7.out.2
        have k3 := H7.out.1.tk.row
        have HW8 := Lib.hid (HWV.out _ H7.out.2)
        go_wp2_with (first
          | (go_at_call 12; (with_reducible refine (HW8.out).mono ?_); rintro x w9 ⟨rfl, hb9⟩; have H9 := Lib.hid (show TM w w9 m TA u7 r7 ∧ BQ w w9 TA TB uA rA uB rB from ⟨H7.out.1.below hb9, H7.out.2.below hb9⟩); have HX9 := Lib.hid (HSX.out w9 u7 r7 uA rA ⟨H9.out.1.src, H9.out.1.rcs⟩ ⟨H9.out.2.2.1.1, H9.out.2.2.2.1.rcs⟩); clear hb9 k1 k2 k3; obtain ⟨k1, k2, _⟩ := HK.out _ H9.out.2; have k3 := H9.out.1.tk.row)
          | (go_at_call 9; (with_reducible refine (HX9.out).mono ?_); rintro x wa ⟨rfl, hba⟩; have Ha := Lib.hid (H9.out.2.below hba); clear hba)
          | (go_at_call 10; (with_reducible refine (HL.out _).mono ?_); rintro x wb ⟨rfl, hbb⟩; have Hb := Lib.hid (Ha.out.below hbb); clear hbb))
        go_ret
        exact ⟨rfl, Hb.out.1.2.2⟩
end Go.Proofs.YtchbkamjmkfikaaGreat

/-
  The law's talks of many sources, or of many records, of layer 9.
-/
import Derived.Test.YtgpccgcppbdlpaaTlM
import Derived.Test.YtgpccgcppbdlpaaMg44
namespace Go.Proofs.Ytgpccgcppbdlpaa
open Go.RowKit
set_option linter.unusedVariables false
set_option linter.unusedSimpArgs false
attribute [local go_sem ↓] ld_addr st_addr bld_addr ld_tk st_tk bld_tk ld_rec st_rec bld_rec rcsLit_eq adsLit_eq
attribute [local go_sem] ldr_addr str_addr_at ldr_tk str_tk ldr_rec str_rec
attribute [local go_sem high] str_addr

def gA9 : AD := sixA 255 1
def srcA9 (i : Nat) : AD := sixA 32 (UInt8.ofNat i)
def repT9 (n : Nat) : TK := ⟨true, 2, 2, 0, zeroA, false, 0, 0, [], List.replicate n ⟨2, gA9, []⟩⟩
def qryT9 (n : Nat) : TK := ⟨true, 2, 1, 0, gA9, false, 0, 0, (List.range n).map srcA9, []⟩
theorem gA9_ok : adOk gA9 := rfl
theorem srcA9_ok (i : Nat) : adOk (srcA9 i) := rfl
theorem bl_t9 (w : World) : (aggBuild 28 #[(0, .bool true), (1, .int .i64 2), (2, .int .i64 1), (4, .agg (adC gA9).toArray)]).run Try.prog w = .ok (.agg (tkC (qryT9 0) (.slice none 0 0) (.slice none 0 0)).toArray) w := bld_run _ _ _ (by kernel_rfl) _
theorem bl_r9 (w : World) : (aggBuild 41 #[(0, .int .i64 2), (1, .agg (adC gA9).toArray)]).run Try.prog w = .ok (.agg (rcC ⟨2, gA9, []⟩ (.slice none 0 0)).toArray) w := bld_run _ _ _ (by kernel_rfl) _
/-- The result's cell, and the talk. -/
structure MN (w W : World) (m : Nat) (t : TK) (us ur : Value) : Prop where
  res : ObjAt W w.heap.size #[.bool false, .int .i64 0, .int .i64 0, .int .i64 0, .bool false, .int .u8 0, .int .u8 0, .int .u8 0, .int .u8 0, .int .u8 0, .int .u8 0, .int .u8 0, .int .u8 0, .int .u8 0, .int .u8 0, .int .u8 0, .int .u8 0, .int .u8 0, .int .u8 0, .int .u8 0, .int .u8 0, .bool false, .int .i64 0, .int .i64 0, .slice none 0 0, .slice none 0 0] 28
  tk : TkAt W m t us ur
  blw : Below w.heap.size w W
  l1 : w.heap.size < m
theorem MN.grown {w W W' : World} {m : Nat} {t : TK} {us ur : Value} {row : Option Nat} (h : MN w W m t us ur) (hg : W.grownBy W' row) (hr : ∀ k, row = some k → m < k) : MN w W' m t us ur := by
  have h1 := h.l1
  exact ⟨h.res.grown hg (fun e => by have := hr _ e.symm; omega), ⟨h.tk.1.grown hg (fun e => by have := hr _ e.symm; omega), h.tk.2⟩, h.blw.grown hg h.blw.size (fun k e => by have := hr _ e; omega), h1⟩
theorem MN.below {w W W' : World} {m : Nat} {t : TK} {us ur : Value} (h : MN w W m t us ur) (hb : Below W.heap.size W W') : MN w W' m t us ur := ⟨h.res.below hb h.res.lt, h.tk.below hb, bstep h.blw hb, h.l1⟩
theorem MN.set {w W : World} {m : Nat} {t t' : TK} {us ur us' ur' : Value} (h : MN w W m t us ur) (j : Nat) (v : Value) (e : (tkC t us ur).set j v = tkC t' us' ur') (ho : adOk t'.g) : MN w (W.setCell ⟨m, j, none⟩ v) m t' us' ur' := by
  have h1 := h.l1
  have h3 : ObjAt (W.setCell ⟨m, j, none⟩ v) m (tkC t' us' ur').toArray 28 := by
    have := ObjAt.set h.tk.1 j v
    rw [List.setIfInBounds_toArray, e] at this
    exact this
  exact ⟨h.res.other _ _ (by simp; omega), ⟨h3, ho⟩, h.blw.setCell (p := ⟨m, j, none⟩) (by simp; omega) v, h1⟩
theorem MN.start {w W : World} (h : Below (w.heap.size + 1) (w.alloc (.cells #[.bool false, .int .i64 0, .int .i64 0, .int .i64 0, .bool false, .int .u8 0, .int .u8 0, .int .u8 0, .int .u8 0, .int .u8 0, .int .u8 0, .int .u8 0, .int .u8 0, .int .u8 0, .int .u8 0, .int .u8 0, .int .u8 0, .int .u8 0, .int .u8 0, .int .u8 0, .int .u8 0, .bool false, .int .i64 0, .int .i64 0, .slice none 0 0, .slice none 0 0] 28)) W) : MN w (aggW (W.alloc (.cells #[.bool false, .int .i64 0, .int .i64 0, .int .i64 0, .bool false, .int .u8 0, .int .u8 0, .int .u8 0, .int .u8 0, .int .u8 0, .int .u8 0, .int .u8 0, .int .u8 0, .int .u8 0, .int .u8 0, .int .u8 0, .int .u8 0, .int .u8 0, .int .u8 0, .int .u8 0, .int .u8 0, .bool false, .int .i64 0, .int .i64 0, .slice none 0 0, .slice none 0 0] 28)) W.heap.size (tkC (qryT9 0) (.slice none 0 0) (.slice none 0 0))) W.heap.size (qryT9 0) (.slice none 0 0) (.slice none 0 0) := by
  have s1 : (w.alloc (.cells #[.bool false, .int .i64 0, .int .i64 0, .int .i64 0, .bool false, .int .u8 0, .int .u8 0, .int .u8 0, .int .u8 0, .int .u8 0, .int .u8 0, .int .u8 0, .int .u8 0, .int .u8 0, .int .u8 0, .int .u8 0, .int .u8 0, .int .u8 0, .int .u8 0, .int .u8 0, .int .u8 0, .bool false, .int .i64 0, .int .i64 0, .slice none 0 0, .slice none 0 0] 28)).heap.size = w.heap.size + 1 := by simp
  have r0 : ObjAt W w.heap.size #[.bool false, .int .i64 0, .int .i64 0, .int .i64 0, .bool false, .int .u8 0, .int .u8 0, .int .u8 0, .int .u8 0, .int .u8 0, .int .u8 0, .int .u8 0, .int .u8 0, .int .u8 0, .int .u8 0, .int .u8 0, .int .u8 0, .int .u8 0, .int .u8 0, .int .u8 0, .int .u8 0, .bool false, .int .i64 0, .int .i64 0, .slice none 0 0, .slice none 0 0] 28 := (ObjAt.made w _ _).below h (by omega)
  have l0 := r0.lt
  have t0 := ObjAt.made W #[.bool false, .int .i64 0, .int .i64 0, .int .i64 0, .bool false, .int .u8 0, .int .u8 0, .int .u8 0, .int .u8 0, .int .u8 0, .int .u8 0, .int .u8 0, .int .u8 0, .int .u8 0, .int .u8 0, .int .u8 0, .int .u8 0, .int .u8 0, .int .u8 0, .int .u8 0, .int .u8 0, .bool false, .int .i64 0, .int .i64 0, .slice none 0 0, .slice none 0 0] 28
  have b1 : Below w.heap.size w W := bstep ((Below.refl _ _).alloc (Nat.le_refl _) _) (by rw [s1]; exact h)
  exact ⟨aggW_other (r0.alloc _) _ (by omega), ⟨aggW_obj (L := (#[.bool false, .int .i64 0, .int .i64 0, .int .i64 0, .bool false, .int .u8 0, .int .u8 0, .int .u8 0, .int .u8 0, .int .u8 0, .int .u8 0, .int .u8 0, .int .u8 0, .int .u8 0, .int .u8 0, .int .u8 0, .int .u8 0, .int .u8 0, .int .u8 0, .int .u8 0, .int .u8 0, .bool false, .int .i64 0, .int .i64 0, .slice none 0 0, .slice none 0 0] : Array Value).toList) (by simpa using t0) rfl (tkC_one rfl rfl), gA9_ok⟩, aggW_below (b1.alloc b1.size _) (by omega) _, by omega⟩
theorem MN.cells {w W : World} {m : Nat} {t : TK} {us ur : Value} (h : MN w W m t us ur) : W.cell? ⟨m, 2, none⟩ = some (.int .i64 t.kind) ∧ W.cell? ⟨m, 24, none⟩ = some us ∧ W.cell? ⟨m, 25, none⟩ = some ur ∧ row? W m 0 26 = some (tkC t us ur) ∧ (∀ j, W.frozen? ⟨m, j, none⟩ = false) ∧ free? W w.heap.size 0 26 = true :=
  ⟨h.tk.kind, h.tk.us, h.tk.ur, h.tk.row, fun j => ObjAt.free h.tk.1 j, obj_free h.res (by simp)⟩
theorem MN.done {w W : World} {m : Nat} {t : TK} {us ur : Value} (h : MN w W m t us ur) (hs : AdsT W us t.src) (hr : RcT W ur t.rcs) :
    row? (aggW W w.heap.size (tkC t us ur)) w.heap.size 0 26 = some (tkC t us ur) ∧ Below w.heap.size w (aggW W w.heap.size (tkC t us ur)) ∧ AdsT (aggW W w.heap.size (tkC t us ur)) us t.src ∧ RcT (aggW W w.heap.size (tkC t us ur)) ur t.rcs :=
  ⟨aggW_row (obj_free h.res (by simp)) (tkC_length h.tk.2 _ _), aggW_below h.blw (Nat.le_refl _) _, hs.grown h.res (aggW_grown _ _ _), hr.grown h.res (aggW_grown _ _ _)⟩
theorem MN.other {w W : World} {m : Nat} {us ur : Value} (h : MN w W m (qryT9 0) us ur) : MN w (aggO (W.setCell ⟨m, 2, none⟩ (.int .i64 2)) m 4 (adC zeroA)) m (repT9 0) us ur := by
  have h1 := h.set 2 (.int .i64 2) (tkC_kind _ _ _ _) gA9_ok
  have l1 := h.l1
  have h2 := aggO_obj (o := 4) (cs := adC zeroA) h1.tk.1 (by rw [tkC_length gA9_ok]; decide) (addrC_one _ _)
  exact ⟨aggO_other h1.res _ (by omega), ⟨h2, zeroA_ok⟩, aggO_below h1.blw (by omega) _ _, l1⟩
theorem MN.free4 {w W : World} {m : Nat} {us ur : Value} (h : MN w W m (qryT9 0) us ur) : free? (W.setCell ⟨m, 2, none⟩ (.int .i64 2)) m 4 17 = true := by
  have h1 := (h.set 2 (.int .i64 2) (tkC_kind _ _ _ _) gA9_ok).tk.1
  refine free_of fun j hj => ⟨?_, h1.free (4 + j)⟩
  rw [h1.cell (4 + j), Array.getElem?_eq_getElem (by rw [List.size_toArray]; exact (show 4 + j < 26 by omega))]; rfl
/-- A talk that grows by records, by sources. -/
structure CR (w W : World) (base m k : Nat) (acc : List (RC × Value)) (ur : Value) : Prop where
  mn : MN w W m (repT9 k) (.slice none 0 0) ur
  rq : RQ base W ur acc
  le : base ≤ W.heap.size
theorem CR.below {w W W' : World} {base m k : Nat} {acc : List (RC × Value)} {ur : Value} (h : CR w W base m k acc ur) (hb : Below W.heap.size W W') : CR w W' base m k acc ur := ⟨h.mn.below hb, h.rq.below hb, Nat.le_trans h.le hb.size⟩
theorem CR.next {w W Wn : World} {base m k : Nat} {acc : List (RC × Value)} {ur : Value} {pp : Option Addr} {cc : Nat} (h : CR w W base m k acc ur) (hmb : m < base) (hlen : acc.length = k) (hown : Wn.ownsRow base 41 19 (.slice pp (k + 1) cc) (k + 1) (rqC acc ++ rcC ⟨2, gA9, []⟩ (.slice none 0 0)))
    (hg : (W.alloc (.cells (rcC ⟨2, gA9, []⟩ (.slice none 0 0)).toArray 41)).grownBy Wn ur.ownBlock) : CR w (Wn.setCell ⟨m, 25, none⟩ (.slice pp (k + 1) cc)) base m (k + 1) (acc ++ [(⟨2, gA9, []⟩, (.slice none 0 0))]) (.slice pp (k + 1) cc) := by
  have hba : Below W.heap.size W (W.alloc (.cells (rcC ⟨2, gA9, []⟩ (.slice none 0 0)).toArray 41)) := (Below.refl _ _).alloc (Nat.le_refl _) _
  have hc := h.below hba
  have hq := RQ.snoc (r := ⟨2, gA9, []⟩) (u := (.slice none 0 0)) hc.rq ⟨gA9_ok, Ads.nil _, fun b o n c e => by cases e⟩ (by rw [hlen]; exact hown) hg
  have h2 := hc.mn.grown hg (fun q hq => Nat.lt_of_lt_of_le hmb (own_ge hc.rq.1 hq))
  refine ⟨h2.set 25 _ (tkC_rcs (repT9 k) _ _ zeroA_ok _ (List.replicate (k + 1) ⟨2, gA9, []⟩)) zeroA_ok, hq.grownT h2.tk.1 (gset _ m 25 _), ?_⟩
  have h3 := hc.le; have h4 := hg.size
  simp at h3 h4 ⊢; omega
structure CS9 (w W : World) (base m k : Nat) (us : Value) : Prop where
  mn : MN w W m (qryT9 k) us (.slice none 0 0)
  own : W.ownsRow base 24 17 us k (adsC ((List.range k).map srcA9))
  le : base ≤ W.heap.size
theorem CS9.below {w W W' : World} {base m k : Nat} {us : Value} (h : CS9 w W base m k us) (hb : Below W.heap.size W W') : CS9 w W' base m k us := ⟨h.mn.below hb, own_below8 h.own hb, Nat.le_trans h.le hb.size⟩
theorem CS9.next {w W Wn : World} {base m k : Nat} {us : Value} {pp : Option Addr} {cc : Nat} (h : CS9 w W base m k us) (hmb : m < base) (hown : Wn.ownsRow base 24 17 (.slice pp (k + 1) cc) (k + 1) (adsC ((List.range k).map srcA9) ++ adC (srcA9 k)))
    (hg : (W.alloc (.cells (adC (srcA9 k)).toArray 24)).grownBy Wn us.ownBlock) : CS9 w (Wn.setCell ⟨m, 24, none⟩ (.slice pp (k + 1) cc)) base m (k + 1) (.slice pp (k + 1) cc) := by
  have hba : Below W.heap.size W (W.alloc (.cells (adC (srcA9 k)).toArray 24)) := (Below.refl _ _).alloc (Nat.le_refl _) _
  have hc := h.below hba
  have h2 := hc.mn.grown hg (fun q hq => Nat.lt_of_lt_of_le hmb (own_ge hc.own hq))
  refine ⟨h2.set 24 _ (tkC_src (qryT9 k) _ _ gA9_ok _ ((List.range (k + 1)).map srcA9)) gA9_ok, ?_, ?_⟩
  · rw [show adsC ((List.range (k + 1)).map srcA9) = adsC ((List.range k).map srcA9) ++ adC (srcA9 k) by rw [List.range_succ, List.map_append]; unfold adsC; simp]
    exact own_grownA hown h2.tk.1 (gset _ m 24 _)
  · have h3 := hc.le; have h4 := hg.size
    simp at h3 h4 ⊢; omega

set_option maxRecDepth 100000 in
set_option maxHeartbeats 4000000 in
theorem lmany9_rep (n : Nat) (hn : n ≤ 100) (w : World) : Calls Try.prog 4 #[.int .i64 n, .bool true] w fun x w' => ∃ us ur, x = .returned (.agg (tkC (repT9 n) us ur).toArray) ∧ Below w.heap.size w w' ∧ AdsT w' us (repT9 n).src ∧ RcT w' ur (repT9 n).rcs := by
  have HG6 : Hid (∀ W, Calls Try.prog 5 #[.int .u8 255, .int .u8 1] W fun x w' => x = .returned (.agg (adC gA9).toArray) ∧ Below W.heap.size W w') := Lib.hid fun W => lsix_any 255 1 W
  have x3 := bl_t9
  have hft : fok (tkC (qryT9 0) (.slice none 0 0) (.slice none 0 0)).toArray 26 = true := fok_tk gA9_ok rfl rfl
  have hfm := hfm26
  obtain ⟨i0, hi0, hz0, hz1, hz2⟩ := info_parts info_rec
  go_enter Try.func4, Try.ntmps4
  go_upto_region 1 with (fail)
  go_upto_region 2 with (go_at_call 5; (with_reducible refine (HG6.out _).mono ?_); rintro x w1 ⟨rfl, hb1⟩; have HB := Lib.hid (MN.start (w := w) (by simpa using hb1)); clear hb1)
  generalize aggW (w1.alloc (.cells #[.bool false, .int .i64 0, .int .i64 0, .int .i64 0, .bool false, .int .u8 0, .int .u8 0, .int .u8 0, .int .u8 0, .int .u8 0, .int .u8 0, .int .u8 0, .int .u8 0, .int .u8 0, .int .u8 0, .int .u8 0, .int .u8 0, .int .u8 0, .int .u8 0, .int .u8 0, .int .u8 0, .bool false, .int .i64 0, .int .i64 0, .slice none 0 0, .slice none 0 0] 28)) w1.heap.size _ = W at HB ⊢
  generalize w1.heap.size = m at HB ⊢
  clear x3 hft hfm
  obtain ⟨k1, k2, k3, k4, kf, kr⟩ := HB.out.cells
  have hf4 := HB.out.free4
  have hb0 := bldr_ad0
  have hf0 : fok (adC zeroA).toArray 17 = true := fok_addr false _ zeroA_ok
  go_upto_region 4 with (fail)
  clear hf4 hb0 hf0
  have H1 := Lib.hid HB.out.other
  generalize aggO (World.setCell W ⟨m, 2, none⟩ _) m 4 _ = W1 at H1 ⊢
  clear k1 k2 k3 k4 kf kr HB
  obtain ⟨base, hbase⟩ : ∃ base, base = W1.heap.size := ⟨_, rfl⟩
  have hmb : m < base := by rw [hbase]; exact H1.out.tk.1.lt
  go_wp2_with fail
  go_loopw [6] (fun i wr => ∃ (k : Nat) (acc : List (RC × Value)) (ur : Value), k ≤ n ∧ i = .int .i64 k ∧ acc.length = k ∧ Hid (acc.map Prod.fst = List.replicate k ⟨2, gA9, []⟩) ∧ Hid (CR w wr base m k acc ur)) (fun i _ => n - (intOf i).toNat)
  case atStart => exact ⟨0, [], _, by omega, rfl, rfl, Lib.hid rfl, Lib.hid ⟨H1.out, ⟨⟨rfl, Or.inl ⟨rfl, rfl⟩⟩, fun x hx => by cases hx⟩, by omega⟩⟩
  case round =>
    obtain ⟨k, acc, ur, hk, rfl, hlen, HAC, HM⟩ := hrel
    obtain ⟨k1, k2, k3, k4, kf, kr⟩ := HM.out.mn.cells
    by_cases hlt : k < n
    · have hk1 : (k : Int) < (n : Int) := by omega
      have hw1 : IntKind.i64.wrap ((k : Int) + 1) = (k : Int) + 1 := by simp only [IntKind.wrap_i64]; omega
      have hbr := bl_r9
      have hlit := rcsLit_run ⟨2, gA9, []⟩ gA9_ok none 0 0
      have hl := rcC_length (r := ⟨2, gA9, []⟩) gA9_ok (.slice none 0 0)
      have h1c : ∀ u ∈ rcC ⟨2, gA9, []⟩ (.slice none 0 0), u.oneCell' = true := rcC_one rfl
      go_upto_region 8 with (fail)
      refine wp_region_held_drew (S := fun _ => True) (by kernel_rfl) (trivial) (fun hHeld => ?_)
      have Hd := Lib.hid (HM.out.below (show Below _ _ (World.drew _) from ⟨rfl, rfl, rfl, Nat.le_refl _, fun _ _ => rfl⟩))
      generalize World.drew _ = wd at Hd hHeld ⊢
      clear k1 k2 k3 k4 kf kr
      obtain ⟨k1, k2, k3, k4, kf, kr⟩ := Hd.out.mn.cells
      refine wpAnyH_take (i := 0) (oi := { dst := some 19, op := _, type := _, pos := _, after := _, guard := _ }) (v := ?v1) rfl (by kernel_rfl) (by kernel_rfl) (by kernel_rfl) (fun _ _ _ h => h) (Or.inl ⟨by rfl, ?y1⟩) (by assumption) ?r1
      case y1 => (intro w hSw; go_simp; try with_reducible rfl)
      try simp only [Act.put, List.setIfInBounds_toArray, List.set_cons_zero, List.set_cons_succ]
      refine wpAnyH_ready (rs := [1, 2]) (by kernel_rfl) (by simp) (AllReadyH.cons (o := _) rfl (fun K hK => ?_) (AllReadyH.cons (o := _) rfl (fun K hK => ?_) AllReadyH.nil))
      · go_simp
        refine hK.out _ _ (trivial) (fun hHeld => ?_)
        clear hK K
        try simp only [Act.put, List.setIfInBounds_toArray, List.set_cons_zero, List.set_cons_succ]
        refine wpAnyH_ready (rs := [2]) (by kernel_rfl) (by simp) (AllReadyH.cons (o := _) rfl (fun K hK => ?_) AllReadyH.nil)
        go_simp
        (go_at_call 5; (with_reducible refine (HG6.out _).mono ?_); rintro x w6 ⟨rfl, hb6⟩; have H6 := Lib.hid (Hd.out.below hb6); clear hb6 k1 k2 k3 k4 kf kr; obtain ⟨k1, k2, k3, k4, kf, kr⟩ := H6.out.mn.cells)
        try go_wp2_with fail
        refine hK.out _ _ (trivial) (fun hHeld => ?_)
        clear hK K
        try simp only [Act.put, List.setIfInBounds_toArray, List.set_cons_zero, List.set_cons_succ]
        refine wpAnyH_take (i := 3) (oi := { dst := some 22, op := _, type := _, pos := _, after := _, guard := _ }) (v := ?v2) rfl (by kernel_rfl) (by kernel_rfl) (by kernel_rfl) (fun _ _ _ h => h) (Or.inl ⟨by rfl, ?y2⟩) (by assumption) ?r2
        case y2 => (intro w hSw; go_simp; try with_reducible rfl)
        try simp only [Act.put, List.setIfInBounds_toArray, List.set_cons_zero, List.set_cons_succ]
        refine wpAnyH_ready (rs := [4]) (by kernel_rfl) (by simp) (AllReadyH.cons (o := _) rfl (fun K hK => ?_) AllReadyH.nil)
        go_simp
        refine hK.out _ _ (trivial) (fun hHeld => ?_)
        clear hK K
        try simp only [Act.put, List.setIfInBounds_toArray, List.set_cons_zero, List.set_cons_succ]
        have H7 := Lib.hid (H6.out.below ((Below.refl _ _).alloc (Nat.le_refl _) (.cells (rcC ⟨2, gA9, []⟩ (.slice none 0 0)).toArray 41)))
        clear k1 k2 k3 k4 kf kr
        obtain ⟨k1, k2, k3, k4, kf, kr⟩ := H7.out.mn.cells
        refine wpAnyH_ready (rs := [5]) (by kernel_rfl) (by simp) (AllReadyH.cons (o := _) rfl (fun K hK => ?_) AllReadyH.nil)
        rw [if_pos (by rfl)]
        have hown := H6.out.rq.1
        rw [hlen] at hown
        have hz := H6.out.le
        refine wp_append_own _ _ _ 26 rfl base 41 i0 (.agg #[.int .i64 0, .bool false, .int .u8 0, .int .u8 0, .int .u8 0, .int .u8 0, .int .u8 0, .int .u8 0, .int .u8 0, .int .u8 0, .int .u8 0, .int .u8 0, .int .u8 0, .int .u8 0, .int .u8 0, .int .u8 0, .int .u8 0, .int .u8 0, .slice none 0 0]) 19 56 Try.underlying26 hi0 hz0 hz1 hz2 rfl (by decide) _ k _ rfl (hown.alloc _) ⟨w6.heap.size, 0, none⟩ 1 1 (rcC ⟨2, gA9, []⟩ (.slice none 0 0)) rfl hl (World.news_of_block (heap_alloc_new w6 _)) h1c (by unfold maxLen; omega) (by omega) (by simp; omega) ?_
        intro v8 w8 hown8 hgrow hnil
        obtain ⟨pp, cc, ev⟩ := own_slice hown8
        subst ev
        have Hn := Lib.hid (H6.out.next hmb hlen hown8 hgrow)
        have H8 := Lib.hid (H7.out.mn.grown hgrow (fun q hq => Nat.lt_of_lt_of_le hmb (own_ge hown hq)))
        clear hown8 hgrow hnil hown hz k1 k2 k3 k4 kf kr
        obtain ⟨k1, k2, k3, k4, kf, kr⟩ := H8.out.cells
        refine hK.out _ _ (trivial) (fun hHeld => ?_)
        clear hK K
        try simp only [Act.put, List.setIfInBounds_toArray, List.set_cons_zero, List.set_cons_succ]
        refine wpAnyH_take (i := 6) (oi := { dst := some 25, op := _, type := _, pos := _, after := _, guard := _ }) (v := ?v3) rfl (by kernel_rfl) (by kernel_rfl) (by kernel_rfl) (fun _ _ _ h => h) (Or.inl ⟨by rfl, ?y3⟩) (by assumption) ?r3
        case y3 => (intro w hSw; go_simp; try with_reducible rfl)
        try simp only [Act.put, List.setIfInBounds_toArray, List.set_cons_zero, List.set_cons_succ]
        refine wpAnyH_ready (rs := [7]) (by kernel_rfl) (by simp) (AllReadyH.cons (o := _) rfl (fun K hK => ?_) AllReadyH.nil)
        go_simp
        refine hK.out _ _ (trivial) (fun hHeld => ?_)
        clear hK K
        try simp only [Act.put, List.setIfInBounds_toArray, List.set_cons_zero, List.set_cons_succ]
        refine wpAnyH_done (by kernel_rfl) ?_ _
        go_wp2_with fail
        go_roundw
        case rel => exact ⟨k + 1, acc ++ [(⟨2, gA9, []⟩, (.slice none 0 0))], _, by omega, by go_num, by simp; omega, Lib.hid (by rw [List.map_append, HAC.out, List.replicate_succ']; rfl), Hn⟩
        case measure => simp [intOf]; omega
      · go_simp
        (go_at_call 5; (with_reducible refine (HG6.out _).mono ?_); rintro x w6 ⟨rfl, hb6⟩; have H6 := Lib.hid (Hd.out.below hb6); clear hb6 k1 k2 k3 k4 kf kr; obtain ⟨k1, k2, k3, k4, kf, kr⟩ := H6.out.mn.cells)
        try go_wp2_with fail
        refine hK.out _ _ (trivial) (fun hHeld => ?_)
        clear hK K
        try simp only [Act.put, List.setIfInBounds_toArray, List.set_cons_zero, List.set_cons_succ]
        refine wpAnyH_take (i := 3) (oi := { dst := some 22, op := _, type := _, pos := _, after := _, guard := _ }) (v := ?v4) rfl (by kernel_rfl) (by kernel_rfl) (by kernel_rfl) (fun _ _ _ h => h) (Or.inl ⟨by rfl, ?y4⟩) (by assumption) ?r4
        case y4 => (intro w hSw; go_simp; try with_reducible rfl)
        try simp only [Act.put, List.setIfInBounds_toArray, List.set_cons_zero, List.set_cons_succ]
        refine wpAnyH_ready (rs := [1, 4]) (by kernel_rfl) (by simp) (AllReadyH.cons (o := _) rfl (fun K hK => ?_) (AllReadyH.cons (o := _) rfl (fun K hK => ?_) AllReadyH.nil))
        · go_simp
          refine hK.out _ _ (trivial) (fun hHeld => ?_)
          clear hK K
          try simp only [Act.put, List.setIfInBounds_toArray, List.set_cons_zero, List.set_cons_succ]
          refine wpAnyH_ready (rs := [4]) (by kernel_rfl) (by simp) (AllReadyH.cons (o := _) rfl (fun K hK => ?_) AllReadyH.nil)
          go_simp
          refine hK.out _ _ (trivial) (fun hHeld => ?_)
          clear hK K
          try simp only [Act.put, List.setIfInBounds_toArray, List.set_cons_zero, List.set_cons_succ]
          have H7 := Lib.hid (H6.out.below ((Below.refl _ _).alloc (Nat.le_refl _) (.cells (rcC ⟨2, gA9, []⟩ (.slice none 0 0)).toArray 41)))
          clear k1 k2 k3 k4 kf kr
          obtain ⟨k1, k2, k3, k4, kf, kr⟩ := H7.out.mn.cells
          refine wpAnyH_ready (rs := [5]) (by kernel_rfl) (by simp) (AllReadyH.cons (o := _) rfl (fun K hK => ?_) AllReadyH.nil)
          rw [if_pos (by rfl)]
          have hown := H6.out.rq.1
          rw [hlen] at hown
          have hz := H6.out.le
          refine wp_append_own _ _ _ 26 rfl base 41 i0 (.agg #[.int .i64 0, .bool false, .int .u8 0, .int .u8 0, .int .u8 0, .int .u8 0, .int .u8 0, .int .u8 0, .int .u8 0, .int .u8 0, .int .u8 0, .int .u8 0, .int .u8 0, .int .u8 0, .int .u8 0, .int .u8 0, .int .u8 0, .int .u8 0, .slice none 0 0]) 19 56 Try.underlying26 hi0 hz0 hz1 hz2 rfl (by decide) _ k _ rfl (hown.alloc _) ⟨w6.heap.size, 0, none⟩ 1 1 (rcC ⟨2, gA9, []⟩ (.slice none 0 0)) rfl hl (World.news_of_block (heap_alloc_new w6 _)) h1c (by unfold maxLen; omega) (by omega) (by simp; omega) ?_
          intro v8 w8 hown8 hgrow hnil
          obtain ⟨pp, cc, ev⟩ := own_slice hown8
          subst ev
          have Hn := Lib.hid (H6.out.next hmb hlen hown8 hgrow)
          have H8 := Lib.hid (H7.out.mn.grown hgrow (fun q hq => Nat.lt_of_lt_of_le hmb (own_ge hown hq)))
          clear hown8 hgrow hnil hown hz k1 k2 k3 k4 kf kr
          obtain ⟨k1, k2, k3, k4, kf, kr⟩ := H8.out.cells
          refine hK.out _ _ (trivial) (fun hHeld => ?_)
          clear hK K
          try simp only [Act.put, List.setIfInBounds_toArray, List.set_cons_zero, List.set_cons_succ]
          refine wpAnyH_take (i := 6) (oi := { dst := some 25, op := _, type := _, pos := _, after := _, guard := _ }) (v := ?v5) rfl (by kernel_rfl) (by kernel_rfl) (by kernel_rfl) (fun _ _ _ h => h) (Or.inl ⟨by rfl, ?y5⟩) (by assumption) ?r5
          case y5 => (intro w hSw; go_simp; try with_reducible rfl)
          try simp only [Act.put, List.setIfInBounds_toArray, List.set_cons_zero, List.set_cons_succ]
          refine wpAnyH_ready (rs := [7]) (by kernel_rfl) (by simp) (AllReadyH.cons (o := _) rfl (fun K hK => ?_) AllReadyH.nil)
          go_simp
          refine hK.out _ _ (trivial) (fun hHeld => ?_)
          clear hK K
          try simp only [Act.put, List.setIfInBounds_toArray, List.set_cons_zero, List.set_cons_succ]
          refine wpAnyH_done (by kernel_rfl) ?_ _
          go_wp2_with fail
          go_roundw
          case rel => exact ⟨k + 1, acc ++ [(⟨2, gA9, []⟩, (.slice none 0 0))], _, by omega, by go_num, by simp; omega, Lib.hid (by rw [List.map_append, HAC.out, List.replicate_succ']; rfl), Hn⟩
          case measure => simp [intOf]; omega
        · go_simp
          refine hK.out _ _ (trivial) (fun hHeld => ?_)
          clear hK K
          try simp only [Act.put, List.setIfInBounds_toArray, List.set_cons_zero, List.set_cons_succ]
          have H7 := Lib.hid (H6.out.below ((Below.refl _ _).alloc (Nat.le_refl _) (.cells (rcC ⟨2, gA9, []⟩ (.slice none 0 0)).toArray 41)))
          clear k1 k2 k3 k4 kf kr
          obtain ⟨k1, k2, k3, k4, kf, kr⟩ := H7.out.mn.cells
          refine wpAnyH_ready (rs := [1]) (by kernel_rfl) (by simp) (AllReadyH.cons (o := _) rfl (fun K hK => ?_) AllReadyH.nil)
          go_simp
          refine hK.out _ _ (trivial) (fun hHeld => ?_)
          clear hK K
          try simp only [Act.put, List.setIfInBounds_toArray, List.set_cons_zero, List.set_cons_succ]
          refine wpAnyH_ready (rs := [5]) (by kernel_rfl) (by simp) (AllReadyH.cons (o := _) rfl (fun K hK => ?_) AllReadyH.nil)
          rw [if_pos (by rfl)]
          have hown := H6.out.rq.1
          rw [hlen] at hown
          have hz := H6.out.le
          refine wp_append_own _ _ _ 26 rfl base 41 i0 (.agg #[.int .i64 0, .bool false, .int .u8 0, .int .u8 0, .int .u8 0, .int .u8 0, .int .u8 0, .int .u8 0, .int .u8 0, .int .u8 0, .int .u8 0, .int .u8 0, .int .u8 0, .int .u8 0, .int .u8 0, .int .u8 0, .int .u8 0, .int .u8 0, .slice none 0 0]) 19 56 Try.underlying26 hi0 hz0 hz1 hz2 rfl (by decide) _ k _ rfl (hown.alloc _) ⟨w6.heap.size, 0, none⟩ 1 1 (rcC ⟨2, gA9, []⟩ (.slice none 0 0)) rfl hl (World.news_of_block (heap_alloc_new w6 _)) h1c (by unfold maxLen; omega) (by omega) (by simp; omega) ?_
          intro v8 w8 hown8 hgrow hnil
          obtain ⟨pp, cc, ev⟩ := own_slice hown8
          subst ev
          have Hn := Lib.hid (H6.out.next hmb hlen hown8 hgrow)
          have H8 := Lib.hid (H7.out.mn.grown hgrow (fun q hq => Nat.lt_of_lt_of_le hmb (own_ge hown hq)))
          clear hown8 hgrow hnil hown hz k1 k2 k3 k4 kf kr
          obtain ⟨k1, k2, k3, k4, kf, kr⟩ := H8.out.cells
          refine hK.out _ _ (trivial) (fun hHeld => ?_)
          clear hK K
          try simp only [Act.put, List.setIfInBounds_toArray, List.set_cons_zero, List.set_cons_succ]
          refine wpAnyH_take (i := 6) (oi := { dst := some 25, op := _, type := _, pos := _, after := _, guard := _ }) (v := ?v6) rfl (by kernel_rfl) (by kernel_rfl) (by kernel_rfl) (fun _ _ _ h => h) (Or.inl ⟨by rfl, ?y6⟩) (by assumption) ?r6
          case y6 => (intro w hSw; go_simp; try with_reducible rfl)
          try simp only [Act.put, List.setIfInBounds_toArray, List.set_cons_zero, List.set_cons_succ]
          refine wpAnyH_ready (rs := [7]) (by kernel_rfl) (by simp) (AllReadyH.cons (o := _) rfl (fun K hK => ?_) AllReadyH.nil)
          go_simp
          refine hK.out _ _ (trivial) (fun hHeld => ?_)
          clear hK K
          try simp only [Act.put, List.setIfInBounds_toArray, List.set_cons_zero, List.set_cons_succ]
          refine wpAnyH_done (by kernel_rfl) ?_ _
          go_wp2_with fail
          go_roundw
          case rel => exact ⟨k + 1, acc ++ [(⟨2, gA9, []⟩, (.slice none 0 0))], _, by omega, by go_num, by simp; omega, Lib.hid (by rw [List.map_append, HAC.out, List.replicate_succ']; rfl), Hn⟩
          case measure => simp [intOf]; omega
    · have hk1 : ¬ (k : Int) < (n : Int) := by omega
      have HKN := Lib.hid (show k = n by omega)
      have hfk : fok (tkC (repT9 k) (.slice none 0 0) ur).toArray 26 = true := fok_tk zeroA_ok rfl HM.out.rq.rcs.one
      have HD := Lib.hid (HM.out.mn.done (AdsT.nil _) ⟨base, acc, HM.out.rq, HAC.out⟩)
      clear hlt
      go_upto_region 10 with (fail)
      repeat (first | go_values | go_skip | go_guarded | go_step | go_upon | go_in)
      obtain ⟨q1, q2, q3, q4⟩ := HD.out
      exact bodyPost_ret (results_cell Try.results4 rfl (ld_some q1 (ldr_tk _ _ _))) rfl ⟨_, _, by rw [← HKN.out], q2, by rw [← HKN.out]; exact q3, by rw [← HKN.out]; exact q4⟩

set_option maxRecDepth 100000 in
set_option maxHeartbeats 4000000 in
theorem lmany9_qry (n : Nat) (hn : n ≤ 100) (w : World) : Calls Try.prog 4 #[.int .i64 n, .bool false] w fun x w' => ∃ us ur, x = .returned (.agg (tkC (qryT9 n) us ur).toArray) ∧ Below w.heap.size w w' ∧ AdsT w' us (qryT9 n).src ∧ RcT w' ur (qryT9 n).rcs := by
  have HG6 : Hid (∀ W, Calls Try.prog 5 #[.int .u8 255, .int .u8 1] W fun x w' => x = .returned (.agg (adC gA9).toArray) ∧ Below W.heap.size W w') := Lib.hid fun W => lsix_any 255 1 W
  have x3 := bl_t9
  have hft : fok (tkC (qryT9 0) (.slice none 0 0) (.slice none 0 0)).toArray 26 = true := fok_tk gA9_ok rfl rfl
  have hfm := hfm26
  obtain ⟨i0, hi0, hz0, hz1, hz2⟩ := info_parts info_ad
  go_enter Try.func4, Try.ntmps4
  go_upto_region 1 with (fail)
  go_upto_region 2 with (go_at_call 5; (with_reducible refine (HG6.out _).mono ?_); rintro x w1 ⟨rfl, hb1⟩; have HB := Lib.hid (MN.start (w := w) (by simpa using hb1)); clear hb1)
  generalize aggW (w1.alloc (.cells #[.bool false, .int .i64 0, .int .i64 0, .int .i64 0, .bool false, .int .u8 0, .int .u8 0, .int .u8 0, .int .u8 0, .int .u8 0, .int .u8 0, .int .u8 0, .int .u8 0, .int .u8 0, .int .u8 0, .int .u8 0, .int .u8 0, .int .u8 0, .int .u8 0, .int .u8 0, .int .u8 0, .bool false, .int .i64 0, .int .i64 0, .slice none 0 0, .slice none 0 0] 28)) w1.heap.size _ = W at HB ⊢
  generalize w1.heap.size = m at HB ⊢
  clear x3 hft hfm
  obtain ⟨k1, k2, k3, k4, kf, kr⟩ := HB.out.cells
  go_upto_region 4 with (fail)
  have H1 := HB
  obtain ⟨W1, hW1⟩ : ∃ W1, W1 = W := ⟨_, rfl⟩
  rw [← hW1] at H1 ⊢
  clear hW1
  clear k1 k2 k3 k4 kf kr HB
  obtain ⟨base, hbase⟩ : ∃ base, base = W1.heap.size := ⟨_, rfl⟩
  have hmb : m < base := by rw [hbase]; exact H1.out.tk.1.lt
  go_wp2_with fail
  go_loopw [6] (fun i wr => ∃ (k : Nat) (us : Value), k ≤ n ∧ i = .int .i64 k ∧ Hid (CS9 w wr base m k us)) (fun i _ => n - (intOf i).toNat)
  case atStart => exact ⟨0, _, by omega, rfl, Lib.hid ⟨H1.out, ⟨rfl, Or.inl ⟨rfl, rfl⟩⟩, by omega⟩⟩
  case round =>
    obtain ⟨k, us, hk, rfl, HM⟩ := hrel
    obtain ⟨k1, k2, k3, k4, kf, kr⟩ := HM.out.mn.cells
    by_cases hlt : k < n
    · have hk1 : (k : Int) < (n : Int) := by omega
      have hw1 : IntKind.i64.wrap ((k : Int) + 1) = (k : Int) + 1 := by simp only [IntKind.wrap_i64]; omega
      have hu8 : IntKind.u8.wrap (k : Int) = (k : Int) := by simp only [IntKind.wrap_u8]; omega
      have HS6 : Hid (∀ W, Calls Try.prog 5 #[.int .u8 32, .int .u8 k] W fun x w' => x = .returned (.agg (adC (srcA9 k)).toArray) ∧ Below W.heap.size W w') := Lib.hid fun W => by
        have := lsix_any 32 (UInt8.ofNat k) W
        rw [show (UInt8.ofNat k).toNat = k by simp; omega] at this
        exact this
      have hlit := adsLit_run (srcA9 k) (srcA9_ok k)
      have hl := adC_length (srcA9_ok k)
      have h1c : ∀ u ∈ adC (srcA9 k), u.oneCell' = true := addrC_one _ _
      go_upto_region 9 with (fail)
      refine wp_region_held_drew (S := fun _ => True) (by kernel_rfl) (trivial) (fun hHeld => ?_)
      have Hd := Lib.hid (HM.out.below (show Below _ _ (World.drew _) from ⟨rfl, rfl, rfl, Nat.le_refl _, fun _ _ => rfl⟩))
      generalize World.drew _ = wd at Hd hHeld ⊢
      clear k1 k2 k3 k4 kf kr
      obtain ⟨k1, k2, k3, k4, kf, kr⟩ := Hd.out.mn.cells
      refine wpAnyH_take (i := 0) (oi := { dst := some 26, op := _, type := _, pos := _, after := _, guard := _ }) (v := ?v101) rfl (by kernel_rfl) (by kernel_rfl) (by kernel_rfl) (fun _ _ _ h => h) (Or.inl ⟨by rfl, ?y101⟩) (by assumption) ?r101
      case y101 => (intro w hSw; go_simp; try with_reducible rfl)
      try simp only [Act.put, List.setIfInBounds_toArray, List.set_cons_zero, List.set_cons_succ]
      refine wpAnyH_take (i := 2) (oi := { dst := some 28, op := _, type := _, pos := _, after := _, guard := _ }) (v := ?v102) rfl (by kernel_rfl) (by kernel_rfl) (by kernel_rfl) (fun _ _ _ h => h) (Or.inl ⟨by rfl, ?y102⟩) (by assumption) ?r102
      case y102 => (intro w hSw; go_simp; try with_reducible rfl)
      try simp only [Act.put, List.setIfInBounds_toArray, List.set_cons_zero, List.set_cons_succ]
      refine wpAnyH_take (i := 3) (oi := { dst := some 29, op := _, type := _, pos := _, after := _, guard := _ }) (v := ?v103) rfl (by kernel_rfl) (by kernel_rfl) (by kernel_rfl) (fun _ _ _ h => h) (Or.inl ⟨by rfl, ?y103⟩) (by assumption) ?r103
      case y103 => (intro w hSw; go_simp; try with_reducible rfl)
      try simp only [Act.put, List.setIfInBounds_toArray, List.set_cons_zero, List.set_cons_succ]
      refine wpAnyH_ready (rs := [1, 4]) (by kernel_rfl) (by simp) (AllReadyH.cons (o := _) rfl (fun K hK => ?_) (AllReadyH.cons (o := _) rfl (fun K hK => ?_) AllReadyH.nil))
      · go_simp
        refine hK.out _ _ (trivial) (fun hHeld => ?_)
        clear hK K
        try simp only [Act.put, List.setIfInBounds_toArray, List.set_cons_zero, List.set_cons_succ]
        refine wpAnyH_ready (rs := [4]) (by kernel_rfl) (by simp) (AllReadyH.cons (o := _) rfl (fun K hK => ?_) AllReadyH.nil)
        go_simp
        (go_at_call 5; (with_reducible refine (HS6.out _).mono ?_); rintro x w6 ⟨rfl, hb6⟩; have H6 := Lib.hid (Hd.out.below hb6); clear hb6 k1 k2 k3 k4 kf kr; obtain ⟨k1, k2, k3, k4, kf, kr⟩ := H6.out.mn.cells)
        try go_wp2_with fail
        refine hK.out _ _ (trivial) (fun hHeld => ?_)
        clear hK K
        try simp only [Act.put, List.setIfInBounds_toArray, List.set_cons_zero, List.set_cons_succ]
        refine wpAnyH_ready (rs := [5]) (by kernel_rfl) (by simp) (AllReadyH.cons (o := _) rfl (fun K hK => ?_) AllReadyH.nil)
        go_simp
        refine hK.out _ _ (trivial) (fun hHeld => ?_)
        clear hK K
        try simp only [Act.put, List.setIfInBounds_toArray, List.set_cons_zero, List.set_cons_succ]
        have H7 := Lib.hid (H6.out.below ((Below.refl _ _).alloc (Nat.le_refl _) (.cells (adC (srcA9 k)).toArray 24)))
        clear k1 k2 k3 k4 kf kr
        obtain ⟨k1, k2, k3, k4, kf, kr⟩ := H7.out.mn.cells
        refine wpAnyH_ready (rs := [6]) (by kernel_rfl) (by simp) (AllReadyH.cons (o := _) rfl (fun K hK => ?_) AllReadyH.nil)
        rw [if_pos (by rfl)]
        have hown := H6.out.own
        have hz := H6.out.le
        refine wp_append_own _ _ _ 25 rfl base 24 i0 (.agg #[.bool false, .int .u8 0, .int .u8 0, .int .u8 0, .int .u8 0, .int .u8 0, .int .u8 0, .int .u8 0, .int .u8 0, .int .u8 0, .int .u8 0, .int .u8 0, .int .u8 0, .int .u8 0, .int .u8 0, .int .u8 0, .int .u8 0]) 17 17 Try.underlying25 hi0 hz0 hz1 hz2 rfl (by decide) _ k _ rfl (hown.alloc _) ⟨w6.heap.size, 0, none⟩ 1 1 (adC (srcA9 k)) rfl hl (World.news_of_block (heap_alloc_new w6 _)) h1c (by unfold maxLen; omega) (by omega) (by simp; omega) ?_
        intro v8 w8 hown8 hgrow hnil
        obtain ⟨pp, cc, ev⟩ := own_slice hown8
        subst ev
        have Hn := Lib.hid (H6.out.next hmb hown8 hgrow)
        have H8 := Lib.hid (H7.out.mn.grown hgrow (fun q hq => Nat.lt_of_lt_of_le hmb (own_ge hown hq)))
        clear hown8 hgrow hnil hown hz k1 k2 k3 k4 kf kr
        obtain ⟨k1, k2, k3, k4, kf, kr⟩ := H8.out.cells
        refine hK.out _ _ (trivial) (fun hHeld => ?_)
        clear hK K
        try simp only [Act.put, List.setIfInBounds_toArray, List.set_cons_zero, List.set_cons_succ]
        refine wpAnyH_take (i := 7) (oi := { dst := some 33, op := _, type := _, pos := _, after := _, guard := _ }) (v := ?v104) rfl (by kernel_rfl) (by kernel_rfl) (by kernel_rfl) (fun _ _ _ h => h) (Or.inl ⟨by rfl, ?y104⟩) (by assumption) ?r104
        case y104 => (intro w hSw; go_simp; try with_reducible rfl)
        try simp only [Act.put, List.setIfInBounds_toArray, List.set_cons_zero, List.set_cons_succ]
        refine wpAnyH_ready (rs := [8]) (by kernel_rfl) (by simp) (AllReadyH.cons (o := _) rfl (fun K hK => ?_) AllReadyH.nil)
        go_simp
        refine hK.out _ _ (trivial) (fun hHeld => ?_)
        clear hK K
        try simp only [Act.put, List.setIfInBounds_toArray, List.set_cons_zero, List.set_cons_succ]
        refine wpAnyH_done (by kernel_rfl) ?_ _
        go_wp2_with fail
        go_roundw
        case rel => exact ⟨k + 1, _, by omega, by go_num, Hn⟩
        case measure => simp [intOf]; omega
      · go_simp
        (go_at_call 5; (with_reducible refine (HS6.out _).mono ?_); rintro x w6 ⟨rfl, hb6⟩; have H6 := Lib.hid (Hd.out.below hb6); clear hb6 k1 k2 k3 k4 kf kr; obtain ⟨k1, k2, k3, k4, kf, kr⟩ := H6.out.mn.cells)
        try go_wp2_with fail
        refine hK.out _ _ (trivial) (fun hHeld => ?_)
        clear hK K
        try simp only [Act.put, List.setIfInBounds_toArray, List.set_cons_zero, List.set_cons_succ]
        refine wpAnyH_ready (rs := [1, 5]) (by kernel_rfl) (by simp) (AllReadyH.cons (o := _) rfl (fun K hK => ?_) (AllReadyH.cons (o := _) rfl (fun K hK => ?_) AllReadyH.nil))
        · go_simp
          refine hK.out _ _ (trivial) (fun hHeld => ?_)
          clear hK K
          try simp only [Act.put, List.setIfInBounds_toArray, List.set_cons_zero, List.set_cons_succ]
          refine wpAnyH_ready (rs := [5]) (by kernel_rfl) (by simp) (AllReadyH.cons (o := _) rfl (fun K hK => ?_) AllReadyH.nil)
          go_simp
          refine hK.out _ _ (trivial) (fun hHeld => ?_)
          clear hK K
          try simp only [Act.put, List.setIfInBounds_toArray, List.set_cons_zero, List.set_cons_succ]
          have H7 := Lib.hid (H6.out.below ((Below.refl _ _).alloc (Nat.le_refl _) (.cells (adC (srcA9 k)).toArray 24)))
          clear k1 k2 k3 k4 kf kr
          obtain ⟨k1, k2, k3, k4, kf, kr⟩ := H7.out.mn.cells
          refine wpAnyH_ready (rs := [6]) (by kernel_rfl) (by simp) (AllReadyH.cons (o := _) rfl (fun K hK => ?_) AllReadyH.nil)
          rw [if_pos (by rfl)]
          have hown := H6.out.own
          have hz := H6.out.le
          refine wp_append_own _ _ _ 25 rfl base 24 i0 (.agg #[.bool false, .int .u8 0, .int .u8 0, .int .u8 0, .int .u8 0, .int .u8 0, .int .u8 0, .int .u8 0, .int .u8 0, .int .u8 0, .int .u8 0, .int .u8 0, .int .u8 0, .int .u8 0, .int .u8 0, .int .u8 0, .int .u8 0]) 17 17 Try.underlying25 hi0 hz0 hz1 hz2 rfl (by decide) _ k _ rfl (hown.alloc _) ⟨w6.heap.size, 0, none⟩ 1 1 (adC (srcA9 k)) rfl hl (World.news_of_block (heap_alloc_new w6 _)) h1c (by unfold maxLen; omega) (by omega) (by simp; omega) ?_
          intro v8 w8 hown8 hgrow hnil
          obtain ⟨pp, cc, ev⟩ := own_slice hown8
          subst ev
          have Hn := Lib.hid (H6.out.next hmb hown8 hgrow)
          have H8 := Lib.hid (H7.out.mn.grown hgrow (fun q hq => Nat.lt_of_lt_of_le hmb (own_ge hown hq)))
          clear hown8 hgrow hnil hown hz k1 k2 k3 k4 kf kr
          obtain ⟨k1, k2, k3, k4, kf, kr⟩ := H8.out.cells
          refine hK.out _ _ (trivial) (fun hHeld => ?_)
          clear hK K
          try simp only [Act.put, List.setIfInBounds_toArray, List.set_cons_zero, List.set_cons_succ]
          refine wpAnyH_take (i := 7) (oi := { dst := some 33, op := _, type := _, pos := _, after := _, guard := _ }) (v := ?v105) rfl (by kernel_rfl) (by kernel_rfl) (by kernel_rfl) (fun _ _ _ h => h) (Or.inl ⟨by rfl, ?y105⟩) (by assumption) ?r105
          case y105 => (intro w hSw; go_simp; try with_reducible rfl)
          try simp only [Act.put, List.setIfInBounds_toArray, List.set_cons_zero, List.set_cons_succ]
          refine wpAnyH_ready (rs := [8]) (by kernel_rfl) (by simp) (AllReadyH.cons (o := _) rfl (fun K hK => ?_) AllReadyH.nil)
          go_simp
          refine hK.out _ _ (trivial) (fun hHeld => ?_)
          clear hK K
          try simp only [Act.put, List.setIfInBounds_toArray, List.set_cons_zero, List.set_cons_succ]
          refine wpAnyH_done (by kernel_rfl) ?_ _
          go_wp2_with fail
          go_roundw
          case rel => exact ⟨k + 1, _, by omega, by go_num, Hn⟩
          case measure => simp [intOf]; omega
        · go_simp
          refine hK.out _ _ (trivial) (fun hHeld => ?_)
          clear hK K
          try simp only [Act.put, List.setIfInBounds_toArray, List.set_cons_zero, List.set_cons_succ]
          have H7 := Lib.hid (H6.out.below ((Below.refl _ _).alloc (Nat.le_refl _) (.cells (adC (srcA9 k)).toArray 24)))
          clear k1 k2 k3 k4 kf kr
          obtain ⟨k1, k2, k3, k4, kf, kr⟩ := H7.out.mn.cells
          refine wpAnyH_ready (rs := [1]) (by kernel_rfl) (by simp) (AllReadyH.cons (o := _) rfl (fun K hK => ?_) AllReadyH.nil)
          go_simp
          refine hK.out _ _ (trivial) (fun hHeld => ?_)
          clear hK K
          try simp only [Act.put, List.setIfInBounds_toArray, List.set_cons_zero, List.set_cons_succ]
          refine wpAnyH_ready (rs := [6]) (by kernel_rfl) (by simp) (AllReadyH.cons (o := _) rfl (fun K hK => ?_) AllReadyH.nil)
          rw [if_pos (by rfl)]
          have hown := H6.out.own
          have hz := H6.out.le
          refine wp_append_own _ _ _ 25 rfl base 24 i0 (.agg #[.bool false, .int .u8 0, .int .u8 0, .int .u8 0, .int .u8 0, .int .u8 0, .int .u8 0, .int .u8 0, .int .u8 0, .int .u8 0, .int .u8 0, .int .u8 0, .int .u8 0, .int .u8 0, .int .u8 0, .int .u8 0, .int .u8 0]) 17 17 Try.underlying25 hi0 hz0 hz1 hz2 rfl (by decide) _ k _ rfl (hown.alloc _) ⟨w6.heap.size, 0, none⟩ 1 1 (adC (srcA9 k)) rfl hl (World.news_of_block (heap_alloc_new w6 _)) h1c (by unfold maxLen; omega) (by omega) (by simp; omega) ?_
          intro v8 w8 hown8 hgrow hnil
          obtain ⟨pp, cc, ev⟩ := own_slice hown8
          subst ev
          have Hn := Lib.hid (H6.out.next hmb hown8 hgrow)
          have H8 := Lib.hid (H7.out.mn.grown hgrow (fun q hq => Nat.lt_of_lt_of_le hmb (own_ge hown hq)))
          clear hown8 hgrow hnil hown hz k1 k2 k3 k4 kf kr
          obtain ⟨k1, k2, k3, k4, kf, kr⟩ := H8.out.cells
          refine hK.out _ _ (trivial) (fun hHeld => ?_)
          clear hK K
          try simp only [Act.put, List.setIfInBounds_toArray, List.set_cons_zero, List.set_cons_succ]
          refine wpAnyH_take (i := 7) (oi := { dst := some 33, op := _, type := _, pos := _, after := _, guard := _ }) (v := ?v106) rfl (by kernel_rfl) (by kernel_rfl) (by kernel_rfl) (fun _ _ _ h => h) (Or.inl ⟨by rfl, ?y106⟩) (by assumption) ?r106
          case y106 => (intro w hSw; go_simp; try with_reducible rfl)
          try simp only [Act.put, List.setIfInBounds_toArray, List.set_cons_zero, List.set_cons_succ]
          refine wpAnyH_ready (rs := [8]) (by kernel_rfl) (by simp) (AllReadyH.cons (o := _) rfl (fun K hK => ?_) AllReadyH.nil)
          go_simp
          refine hK.out _ _ (trivial) (fun hHeld => ?_)
          clear hK K
          try simp only [Act.put, List.setIfInBounds_toArray, List.set_cons_zero, List.set_cons_succ]
          refine wpAnyH_done (by kernel_rfl) ?_ _
          go_wp2_with fail
          go_roundw
          case rel => exact ⟨k + 1, _, by omega, by go_num, Hn⟩
          case measure => simp [intOf]; omega
    · have hk1 : ¬ (k : Int) < (n : Int) := by omega
      have HKN := Lib.hid (show k = n by omega)
      have hsl := Ads.own (l := (List.range k).map srcA9) (fun a h => by obtain ⟨i, _, rfl⟩ := List.mem_map.1 h; exact srcA9_ok i) (by rw [List.length_map, List.length_range]; exact HM.out.own)
      have hfk : fok (tkC (qryT9 k) us (.slice none 0 0)).toArray 26 = true := fok_tk gA9_ok hsl.one rfl
      have HD := Lib.hid (HM.out.mn.done ⟨hsl, AdT.own HM.out.own⟩ (RcT.nil _))
      clear hsl
      clear hlt
      go_upto_region 10 with (fail)
      repeat (first | go_values | go_skip | go_guarded | go_step | go_upon | go_in)
      obtain ⟨q1, q2, q3, q4⟩ := HD.out
      exact bodyPost_ret (results_cell Try.results4 rfl (ld_some q1 (ldr_tk _ _ _))) rfl ⟨_, _, by rw [← HKN.out], q2, by rw [← HKN.out]; exact q3, by rw [← HKN.out]; exact q4⟩
end Go.Proofs.Ytgpccgcppbdlpaa

/-
  Texts joined: Tr, MdG.
-/
import Derived.Test.YtlbdehegknehiaaGreatMg00
import Derived.Test.YtlbdehegknehiaaGreatMg08
import Derived.Test.YtlbdehegknehiaaGreatMg07
/- A part of the proof. -/
namespace Go.Proofs.YtlbdehegknehiaaGreat
open Go.RowKit
set_option linter.unusedVariables false
set_option linter.unusedSimpArgs false
def rqC (q : List (RC × Value)) : List Value := (q.map fun x => rcC x.1 x.2).flatten
def rqOk (w : World) (q : List (RC × Value)) : Prop := ∀ x ∈ q, adOk x.1.g ∧ Ads w x.2 x.1.src ∧ AdT w x.2
theorem rqC_get {w : World} {q : List (RC × Value)} (h : rqOk w q) : ∀ (i j : Nat) (hi : i < q.length), j < 19 → (rqC q)[i * 19 + j]? = (rcC q[i].1 q[i].2)[j]? := by
  induction q with
  | nil => intro i j hi; exact absurd hi (by simp)
  | cons a r ih =>
    intro i j hi hj
    have h1 := rcC_length (h a (by simp)).1 a.2
    have e : rqC (a :: r) = rcC a.1 a.2 ++ rqC r := by simp [rqC]
    rw [e]
    cases i with
    | zero => rw [Nat.zero_mul, Nat.zero_add, List.getElem?_append_left (by omega)]; rfl
    | succ i =>
      rw [List.getElem?_append_right (by omega), h1, show (i + 1) * 19 + j - 19 = i * 19 + j by omega]
      exact ih (fun b hb => h b (by simp [hb])) i j (by simpa using hi) hj
theorem rqC_snoc (q : List (RC × Value)) (r : RC) (u : Value) : rqC (q ++ [(r, u)]) = rqC q ++ rcC r u := by unfold rqC; simp
theorem rqOk.below {w w' : World} {q : List (RC × Value)} (h : rqOk w q) (hb : Below w.heap.size w w') : rqOk w' q := fun x hx => ⟨(h x hx).1, (h x hx).2.1.below hb, (h x hx).2.2.below hb⟩
def RQ (base : Nat) (w : World) (v : Value) (q : List (RC × Value)) : Prop := w.ownsRow base 109 19 v q.length (rqC q) ∧ rqOk w q
theorem RQ.below {base : Nat} {w w' : World} {v : Value} {q : List (RC × Value)} (h : RQ base w v q) (hb : Below w.heap.size w w') : RQ base w' v q := ⟨own_below8 h.1 hb, h.2.below hb⟩
theorem RQ.rcs {base : Nat} {w : World} {v : Value} {q : List (RC × Value)} (h : RQ base w v q) : Rcs w v (q.map Prod.fst) := by
  obtain ⟨⟨h1, h2 | ⟨g, cap, cur, rfl, h3, h4, h5, h6, h7, h8⟩⟩, hok⟩ := h
  · obtain ⟨rfl, h2⟩ := h2
    have : q = [] := List.eq_nil_of_length_eq_zero h2
    subst this
    exact Rcs.nil w
  · refine ⟨some ⟨g, 0, none⟩, cap, by simp, by simpa using h5, h6, fun hn => ⟨g, 0, rfl, fun i hi => ?_⟩⟩
    have hi' : i < q.length := by simpa using hi
    have hob : ObjAt w g cur 109 := h4
    have hx := hok q[i] (List.getElem_mem hi')
    rw [List.getElem_map]
    refine ⟨hx.1, (Array.getElem?_eq_some_iff.1 h4).1, q[i].2, ?_, hx.2.1⟩
    have hl := rcC_length hx.1 q[i].2
    have hr : w.rangeAt g (0 + i * 19) (rcC q[i].1 q[i].2) := fun j u hu => by
      have hj : j < 19 := by
        have := (List.getElem?_eq_some_iff.1 hu).1
        rw [hl] at this
        exact this
      rw [ObjAt.cell hob, ← Array.getElem?_toList]
      have e1 := rqC_get hok i j hi' hj
      rw [hu, ← h8, List.getElem?_take] at e1
      rw [Nat.zero_add]
      split at e1
      · exact e1
      · cases e1
    have := row?_of hr
    rw [hl] at this
    exact this
theorem info_rec : (Tryz.prog.info? 109).map (fun i => (i.zero, i.size, i.bytes)) = some (some (.agg zz19), 19, 56) := by kernel_rfl
noncomputable def rcsLit (p : Array (Nat × Value)) : Sem Value := Instr.buildSlice 26 1 p
theorem rcsLit_eq (p : Array (Nat × Value)) : Instr.buildSlice 26 1 p = rcsLit p := rfl
theorem rcsLit_run (r : RC) (ho : adOk r.g) (p : Option Addr) (n c : Nat) (w : World) : (rcsLit #[(0, .agg (rcC r (.slice p n c)).toArray)]).run Tryz.prog w = .ok (.slice (some ⟨w.heap.size, 0, none⟩) 1 1) (w.alloc (.cells (rcC r (.slice p n c)).toArray 109)) := by
  obtain ⟨i0, hi0, hz0, hz1, hz2⟩ := info_parts info_rec
  obtain ⟨k, g, src⟩ := r
  obtain ⟨v, l⟩ := g
  obtain ⟨b0, b1, b2, b3, b4, b5, b6, b7, b8, b9, ba, bb, bc, bd, be, bf, e⟩ := list16 (show l.length = 16 from ho)
  subst e
  refine run_buildSlice w 26 109 1 _ _ i0 _ Tryz.underlying26 hi0 hz0 (by rw [hz1]; decide) (by rw [hz1]; decide) ?_
  rw [hz1]
  kernel_rfl
theorem bldr_rec (k : Int) (a : AD) (ho : adOk a) (src : List AD) (p : Option Addr) (n c : Nat) (w : World) : (aggBuild 109 #[(0, .int .i64 k), (1, .agg (adC a).toArray), (2, .slice p n c)]).run Tryz.prog w = .ok (.agg (rcC ⟨k, a, src⟩ (.slice p n c)).toArray) w := by
  obtain ⟨v, l⟩ := a
  obtain ⟨b0, b1, b2, b3, b4, b5, b6, b7, b8, b9, ba, bb, bc, bd, be, bf, e⟩ := list16 (show l.length = 16 from ho)
  subst e
  exact bld_run _ _ _ (by kernel_rfl) _
theorem Ads.grown {w w' : World} {row : Option Nat} {u : Value} {l : List AD} (h : Ads w u l) (hg : w.grownBy w' row) (hn : ∀ b o n c, u = .slice (some ⟨b, o, none⟩) n c → some b ≠ row) : Ads w' u l := by
  obtain ⟨p, cap, h1, h2, h3, h4, h5⟩ := h
  refine ⟨p, cap, h1, h2, h3, h4, fun hne => ?_⟩
  obtain ⟨b, o, e1, e2, e3⟩ := h5 hne
  have hb := hn b o l.length cap (by rw [h1, e1])
  refine ⟨b, o, e1, Nat.lt_of_lt_of_le e2 hg.size, fun i hi => ?_⟩
  obtain ⟨r1, r2⟩ := rangeAt_of_row? (e3 i hi)
  have hr : w'.rangeAt b (o + i * 17) (adC l[i]) := fun j v hv => by
    rw [hg.cell_far ⟨b, o + i * 17 + j, none⟩ e2 hb]
    exact r1 j v hv
  have := row?_of hr
  rw [r2] at this
  exact this
theorem AdT.grown {w w' : World} {row : Option Nat} {u : Value} (h : AdT w u) (hg : w.grownBy w' row) (hn : ∀ b o n c, u = .slice (some ⟨b, o, none⟩) n c → some b ≠ row) : AdT w' u := fun b o n c e => by
  obtain ⟨h1, cur, fz, h2⟩ := h b o n c e
  exact ⟨Nat.lt_of_lt_of_le h1 hg.size, cur, fz, (hg.block b h1 (hn b o n c e)).trans h2⟩
theorem AdT.far {w : World} {base n : Nat} {v u : Value} {xs : List Value} (h : AdT w u) (hown : w.ownsRow base 109 19 v n xs) : ∀ b o n c, u = .slice (some ⟨b, o, none⟩) n c → some b ≠ v.ownBlock := fun b o n c e => by
  obtain ⟨h1, cur, fz, h2⟩ := h b o n c e
  obtain ⟨_, h3 | ⟨g, cap, cur', rfl, _, h4, _⟩⟩ := hown
  · rw [h3.1]; simp [Value.ownBlock]
  · intro hb
    simp only [Value.ownBlock, Option.some.injEq] at hb
    subst hb
    rw [h2] at h4
    simp at h4
theorem rqOk.grown {w w' : World} {base n : Nat} {v : Value} {xs : List Value} {q : List (RC × Value)} (h : rqOk w q) (hown : w.ownsRow base 109 19 v n xs) (hg : w.grownBy w' v.ownBlock) : rqOk w' q := fun x hx => by
  obtain ⟨h1, h2, h3⟩ := h x hx
  exact ⟨h1, h2.grown hg (h3.far hown), h3.grown hg (h3.far hown)⟩
theorem RQ.snoc {base : Nat} {w w' : World} {v v' : Value} {q : List (RC × Value)} {r : RC} {u : Value} (h : RQ base w v q) (hr : adOk r.g ∧ Ads w u r.src ∧ AdT w u) (hown : w'.ownsRow base 109 19 v' (q.length + 1) (rqC q ++ rcC r u)) (hg : w.grownBy w' v.ownBlock) : RQ base w' v' (q ++ [(r, u)]) := by
  refine ⟨by rw [rqC_snoc, List.length_append]; exact hown, ?_⟩
  intro x hx
  rcases List.mem_append.1 hx with h1 | h1
  · exact (h.2.grown h.1 hg) x h1
  · rw [List.mem_singleton] at h1
    subst h1
    exact ⟨hr.1, hr.2.1.grown hg (hr.2.2.far h.1), hr.2.2.grown hg (hr.2.2.far h.1)⟩
end Go.Proofs.YtlbdehegknehiaaGreat

/- A part of the proof. -/
namespace Go.Proofs.YtlbdehegknehiaaGreat
set_option maxRecDepth 100000
set_option maxHeartbeats 4000000
open Go.RowKit
set_option linter.unusedVariables false
set_option linter.unusedSimpArgs false
attribute [local go_sem ↓] ld_addr st_addr bld_addr
attribute [local go_sem] ldr_addr str_addr
def GD9 (w W : World) (t : TK) (us ur : Value) : Prop := TkAt W w.heap.size t us ur ∧ Below w.heap.size w W
theorem GD9.made (w : World) (t : TK) (us ur : Value) (h : adOk t.g) : GD9 w (w.alloc (.cells (tkC t us ur).toArray 28)) t us ur := ⟨TkAt.made w t us ur h, (Below.refl _ _).alloc (Nat.le_refl _) _⟩
theorem GD9.below {w W W' : World} {t : TK} {us ur : Value} (h : GD9 w W t us ur) (hb : Below W.heap.size W W') : GD9 w W' t us ur := ⟨h.1.below hb, bstep h.2 hb⟩
theorem GD9.bl {w W : World} {t : TK} {us ur : Value} (h : GD9 w W t us ur) : Below w.heap.size w W := h.2
def GC9 (w W : World) (t : TK) (us ur : Value) : Prop :=
  W.cell? ⟨w.heap.size, 0, none⟩ = some (.bool t.v6) ∧ W.cell? ⟨w.heap.size, 1, none⟩ = some (.int .i64 t.ver) ∧ W.cell? ⟨w.heap.size, 2, none⟩ = some (.int .i64 t.kind) ∧ W.cell? ⟨w.heap.size, 3, none⟩ = some (.int .i64 t.resp) ∧ row? W w.heap.size 4 17 = some (adC t.g) ∧ W.cell? ⟨w.heap.size, 21, none⟩ = some (.bool t.quiet) ∧ W.cell? ⟨w.heap.size, 22, none⟩ = some (.int .i64 t.rob) ∧ W.cell? ⟨w.heap.size, 23, none⟩ = some (.int .i64 t.every) ∧ W.cell? ⟨w.heap.size, 24, none⟩ = some us ∧ W.cell? ⟨w.heap.size, 25, none⟩ = some ur ∧ W.cell? ⟨w.heap.size, 4, none⟩ = some (.bool t.g.1)
theorem GD9.cells {w W : World} {t : TK} {us ur : Value} (h : GD9 w W t us ur) : GC9 w W t us ur :=
  ⟨h.1.v6, h.1.ver, h.1.kind, h.1.resp, h.1.rg, h.1.quiet, h.1.rob, h.1.every, h.1.us, h.1.ur, cells_ad h.1.rg⟩
theorem rgood9_bad (t : TK) (us ur : Value) (w : World) (ho : t.ok) (hs : Ads w us t.src) (hr : Rcs w ur t.rcs) (hb : t.v6 = false ∨ t.ver < 1 ∨ 2 < t.ver ∨ t.kind < 1 ∨ 3 < t.kind ∨ (t.ver = 2 ∧ t.kind = 3)) (R : Bool) (hR : R = good9 t) :
    Calls Tryz.prog 61 #[.agg (tkC t us ur).toArray] w fun x w' => x = .returned (.bool R) ∧ Below w.heap.size w w' := by
  have H0 := zh (GD9.made w t us ur ho.1)
  have HGD : Hid (∀ W, GD9 w W t us ur → GC9 w W t us ur) := zh fun W h => h.cells
  have HG := zh (fun W => rgroup9_any t.g ho.1 W)
  have HZ := zh (fun W => rzero9_any t.g ho.1 W)
  have HS := zh (fun W (h : Below w.heap.size w W) => rsources9_any us t.src W (hs.below h))
  obtain ⟨pu, cu, e1, hu1, hu2⟩ := hs.len
  obtain ⟨pr, cr, e2, hr1, hr2⟩ := hr.len
  have hm1 : t.src.length ≤ maxLen := by omega
  have hm2 : t.rcs.length ≤ maxLen := by omega
  unfold maxLen at hm1 hm2
  clear hs hr hu1 hu2 hr1 hr2 ho
  obtain ⟨v6, ver, kind, resp, g, quiet, rob, every, src, rcs⟩ := t
  simp only at *
  have HR := zh (show R = false by rw [hR]; unfold good9; rw [if_pos hb])
  clear hR HS HG HZ hm1 hm2
  subst e1 e2
  have H0 := zh H0.out
  go_enter Tryz.func61, Tryz.ntmps61
  go_upto_region 1 with (fail)
  generalize w.alloc (.cells (tkC _ _ _).toArray 28) = W at H0 ⊢
  obtain ⟨c0, c1, c2, c3, c4, c5, c6, c7, c8, c9, c10⟩ := HGD.out _ H0.out
  clear c3 c4 c5 c6 c7 c8 c9 c10 HGD
  cases v6 with
  | false =>
    clear hb
    go_wp2
    go_ret
    exact ⟨ret_bool8 (by rw [HR.out]), H0.out.2⟩
  | true =>
    by_cases b0 : ver < 1
    · clear hb
      go_wp2
      go_ret
      exact ⟨ret_bool8 (by rw [HR.out]), H0.out.2⟩
    by_cases b1 : 2 < ver
    · clear hb
      go_wp2
      go_ret
      exact ⟨ret_bool8 (by rw [HR.out]), H0.out.2⟩
    by_cases b2 : kind < 1
    · clear hb
      go_wp2
      go_ret
      exact ⟨ret_bool8 (by rw [HR.out]), H0.out.2⟩
    by_cases b3 : 3 < kind
    · clear hb
      go_wp2
      go_ret
      exact ⟨ret_bool8 (by rw [HR.out]), H0.out.2⟩
    have b5 : ver = 2 ∧ kind = 3 := by simp at hb; omega
    obtain ⟨rfl, rfl⟩ := b5
    clear hb b0 b1 b2 b3
    go_wp2
    go_ret
    exact ⟨ret_bool8 (by rw [HR.out]), H0.out.2⟩
theorem rgood9_13 (t : TK) (us ur : Value) (w : World) (ho : t.ok) (hs : Ads w us t.src) (hr : Rcs w ur t.rcs) (hv6 : t.v6 = true) (hve : t.ver = 1) (hki : t.kind = 3) (R : Bool) (hR : R = good9 t) :
    Calls Tryz.prog 61 #[.agg (tkC t us ur).toArray] w fun x w' => x = .returned (.bool R) ∧ Below w.heap.size w w' := by
  have H0 := zh (GD9.made w t us ur ho.1)
  have HGD : Hid (∀ W, GD9 w W t us ur → GC9 w W t us ur) := zh fun W h => h.cells
  have HG := zh (fun W => rgroup9_any t.g ho.1 W)
  have HZ := zh (fun W => rzero9_any t.g ho.1 W)
  have HS := zh (fun W (h : Below w.heap.size w W) => rsources9_any us t.src W (hs.below h))
  obtain ⟨pu, cu, e1, hu1, hu2⟩ := hs.len
  obtain ⟨pr, cr, e2, hr1, hr2⟩ := hr.len
  have hm1 : t.src.length ≤ maxLen := by omega
  have hm2 : t.rcs.length ≤ maxLen := by omega
  unfold maxLen at hm1 hm2
  clear hs hr hu1 hu2 hr1 hr2 ho
  obtain ⟨v6, ver, kind, resp, g, quiet, rob, every, src, rcs⟩ := t
  simp only at *
  subst e1 e2 hv6 hve hki
  have H0 := zh H0.out
  go_enter Tryz.func61, Tryz.ntmps61
  go_upto_region 1 with (fail)
  generalize w.alloc (.cells (tkC _ _ _).toArray 28) = W at H0 ⊢
  obtain ⟨c0, c1, c2, c3, c4, c5, c6, c7, c8, c9, c10⟩ := HGD.out _ H0.out
  cases quiet with
  | true =>
    have HR := zh (show R = false by rw [hR]; simp [good9, hR])
    clear hR
    go_wp2
    go_ret
    exact ⟨ret_bool8 (by rw [HR.out]), H0.out.2⟩
  | false =>
    by_cases zrob : rob = 0
    · have trob : (rob != 0) = false := by simp [zrob]
      by_cases zevery : every = 0
      · have tevery : (every != 0) = false := by simp [zevery]
        by_cases lsrc : src.length = 0
        · have tsrc : decide ((0 : Int) < (src.length : Int)) = false := by simp [lsrc]
          have vsrc : decide (0 < src.length) = false := by simp [lsrc]
          by_cases zresp : resp = 0
          · have tresp : (resp != 0) = false := by simp [zresp]
            by_cases lrcs : rcs.length = 0
            · have trcs : decide ((0 : Int) < (rcs.length : Int)) = false := by simp [lrcs]
              have vrcs : decide (0 < rcs.length) = false := by simp [lrcs]
              have HR := zh (show R = grp9 g by rw [hR]; simp [good9, zrob, zevery, lsrc, zresp, lrcs])
              clear hR
              generalize grp9 g = gg at *
              go_wp2_with (go_at_call 130; (with_reducible refine (HG.out _).mono ?_); rintro x w2 ⟨rfl, hb2⟩; have H2 := zh (H0.out.below hb2); clear hb2 c0 c1 c2 c3 c4 c5 c6 c7 c8 c9 c10; obtain ⟨c0, c1, c2, c3, c4, c5, c6, c7, c8, c9, c10⟩ := HGD.out _ H2.out)
              go_ret
              exact ⟨ret_bool8 (by rw [HR.out]), H2.out.2⟩
            · have prcs : 0 < rcs.length := Nat.pos_of_ne_zero lrcs
              have trcs : decide ((0 : Int) < (rcs.length : Int)) = true := by simp; omega
              have vrcs : decide (0 < rcs.length) = true := by simp; omega
              have HR := zh (show R = false by rw [hR]; simp [good9, zrob, zevery, lsrc, zresp, prcs])
              clear hR
              go_wp2
              go_ret
              exact ⟨ret_bool8 (by rw [HR.out]), H0.out.2⟩
          · have tresp : (resp != 0) = true := by simp [zresp]
            have HR := zh (show R = false by rw [hR]; simp [good9, zrob, zevery, lsrc, zresp])
            clear hR
            go_wp2
            go_ret
            exact ⟨ret_bool8 (by rw [HR.out]), H0.out.2⟩
        · have psrc : 0 < src.length := Nat.pos_of_ne_zero lsrc
          have tsrc : decide ((0 : Int) < (src.length : Int)) = true := by simp; omega
          have vsrc : decide (0 < src.length) = true := by simp; omega
          have HR := zh (show R = false by rw [hR]; simp [good9, zrob, zevery, psrc])
          clear hR
          go_wp2
          go_ret
          exact ⟨ret_bool8 (by rw [HR.out]), H0.out.2⟩
      · have tevery : (every != 0) = true := by simp [zevery]
        have HR := zh (show R = false by rw [hR]; simp [good9, zrob, zevery])
        clear hR
        go_wp2
        go_ret
        exact ⟨ret_bool8 (by rw [HR.out]), H0.out.2⟩
    · have trob : (rob != 0) = true := by simp [zrob]
      have HR := zh (show R = false by rw [hR]; simp [good9, zrob])
      clear hR
      go_wp2
      go_ret
      exact ⟨ret_bool8 (by rw [HR.out]), H0.out.2⟩
theorem rgood9_12 (t : TK) (us ur : Value) (w : World) (ho : t.ok) (hs : Ads w us t.src) (hr : Rcs w ur t.rcs) (hv6 : t.v6 = true) (hve : t.ver = 1) (hki : t.kind = 2) (R : Bool) (hR : R = good9 t) :
    Calls Tryz.prog 61 #[.agg (tkC t us ur).toArray] w fun x w' => x = .returned (.bool R) ∧ Below w.heap.size w w' := by
  have H0 := zh (GD9.made w t us ur ho.1)
  have HGD : Hid (∀ W, GD9 w W t us ur → GC9 w W t us ur) := zh fun W h => h.cells
  have HG := zh (fun W => rgroup9_any t.g ho.1 W)
  have HZ := zh (fun W => rzero9_any t.g ho.1 W)
  have HS := zh (fun W (h : Below w.heap.size w W) => rsources9_any us t.src W (hs.below h))
  obtain ⟨pu, cu, e1, hu1, hu2⟩ := hs.len
  obtain ⟨pr, cr, e2, hr1, hr2⟩ := hr.len
  have hm1 : t.src.length ≤ maxLen := by omega
  have hm2 : t.rcs.length ≤ maxLen := by omega
  unfold maxLen at hm1 hm2
  clear hs hr hu1 hu2 hr1 hr2 ho
  obtain ⟨v6, ver, kind, resp, g, quiet, rob, every, src, rcs⟩ := t
  simp only at *
  subst e1 e2 hv6 hve hki
  have H0 := zh H0.out
  go_enter Tryz.func61, Tryz.ntmps61
  go_upto_region 1 with (fail)
  generalize w.alloc (.cells (tkC _ _ _).toArray 28) = W at H0 ⊢
  obtain ⟨c0, c1, c2, c3, c4, c5, c6, c7, c8, c9, c10⟩ := HGD.out _ H0.out
  cases quiet with
  | true =>
    have HR := zh (show R = false by rw [hR]; simp [good9, hR])
    clear hR
    go_wp2
    go_ret
    exact ⟨ret_bool8 (by rw [HR.out]), H0.out.2⟩
  | false =>
    by_cases zrob : rob = 0
    · have trob : (rob != 0) = false := by simp [zrob]
      by_cases zevery : every = 0
      · have tevery : (every != 0) = false := by simp [zevery]
        by_cases lsrc : src.length = 0
        · have tsrc : decide ((0 : Int) < (src.length : Int)) = false := by simp [lsrc]
          have vsrc : decide (0 < src.length) = false := by simp [lsrc]
          by_cases zresp : resp = 0
          · have tresp : (resp != 0) = false := by simp [zresp]
            by_cases lrcs : rcs.length = 0
            · have trcs : decide ((0 : Int) < (rcs.length : Int)) = false := by simp [lrcs]
              have vrcs : decide (0 < rcs.length) = false := by simp [lrcs]
              have HR := zh (show R = grp9 g by rw [hR]; simp [good9, zrob, zevery, lsrc, zresp, lrcs])
              clear hR
              generalize grp9 g = gg at *
              go_wp2_with (go_at_call 130; (with_reducible refine (HG.out _).mono ?_); rintro x w2 ⟨rfl, hb2⟩; have H2 := zh (H0.out.below hb2); clear hb2 c0 c1 c2 c3 c4 c5 c6 c7 c8 c9 c10; obtain ⟨c0, c1, c2, c3, c4, c5, c6, c7, c8, c9, c10⟩ := HGD.out _ H2.out)
              go_ret
              exact ⟨ret_bool8 (by rw [HR.out]), H2.out.2⟩
            · have prcs : 0 < rcs.length := Nat.pos_of_ne_zero lrcs
              have trcs : decide ((0 : Int) < (rcs.length : Int)) = true := by simp; omega
              have vrcs : decide (0 < rcs.length) = true := by simp; omega
              have HR := zh (show R = false by rw [hR]; simp [good9, zrob, zevery, lsrc, zresp, prcs])
              clear hR
              go_wp2
              go_ret
              exact ⟨ret_bool8 (by rw [HR.out]), H0.out.2⟩
          · have tresp : (resp != 0) = true := by simp [zresp]
            have HR := zh (show R = false by rw [hR]; simp [good9, zrob, zevery, lsrc, zresp])
            clear hR
            go_wp2
            go_ret
            exact ⟨ret_bool8 (by rw [HR.out]), H0.out.2⟩
        · have psrc : 0 < src.length := Nat.pos_of_ne_zero lsrc
          have tsrc : decide ((0 : Int) < (src.length : Int)) = true := by simp; omega
          have vsrc : decide (0 < src.length) = true := by simp; omega
          have HR := zh (show R = false by rw [hR]; simp [good9, zrob, zevery, psrc])
          clear hR
          go_wp2
          go_ret
          exact ⟨ret_bool8 (by rw [HR.out]), H0.out.2⟩
      · have tevery : (every != 0) = true := by simp [zevery]
        have HR := zh (show R = false by rw [hR]; simp [good9, zrob, zevery])
        clear hR
        go_wp2
        go_ret
        exact ⟨ret_bool8 (by rw [HR.out]), H0.out.2⟩
    · have trob : (rob != 0) = true := by simp [zrob]
      have HR := zh (show R = false by rw [hR]; simp [good9, zrob])
      clear hR
      go_wp2
      go_ret
      exact ⟨ret_bool8 (by rw [HR.out]), H0.out.2⟩
theorem rgood9_11 (t : TK) (us ur : Value) (w : World) (ho : t.ok) (hs : Ads w us t.src) (hr : Rcs w ur t.rcs) (hv6 : t.v6 = true) (hve : t.ver = 1) (hki : t.kind = 1) (R : Bool) (hR : R = good9 t) :
    Calls Tryz.prog 61 #[.agg (tkC t us ur).toArray] w fun x w' => x = .returned (.bool R) ∧ Below w.heap.size w w' := by
  have H0 := zh (GD9.made w t us ur ho.1)
  have HGD : Hid (∀ W, GD9 w W t us ur → GC9 w W t us ur) := zh fun W h => h.cells
  have HG := zh (fun W => rgroup9_any t.g ho.1 W)
  have HZ := zh (fun W => rzero9_any t.g ho.1 W)
  have HS := zh (fun W (h : Below w.heap.size w W) => rsources9_any us t.src W (hs.below h))
  obtain ⟨pu, cu, e1, hu1, hu2⟩ := hs.len
  obtain ⟨pr, cr, e2, hr1, hr2⟩ := hr.len
  have hm1 : t.src.length ≤ maxLen := by omega
  have hm2 : t.rcs.length ≤ maxLen := by omega
  unfold maxLen at hm1 hm2
  clear hs hr hu1 hu2 hr1 hr2 ho
  obtain ⟨v6, ver, kind, resp, g, quiet, rob, every, src, rcs⟩ := t
  simp only at *
  subst e1 e2 hv6 hve hki
  have H0 := zh H0.out
  go_enter Tryz.func61, Tryz.ntmps61
  go_upto_region 1 with (fail)
  generalize w.alloc (.cells (tkC _ _ _).toArray 28) = W at H0 ⊢
  obtain ⟨c0, c1, c2, c3, c4, c5, c6, c7, c8, c9, c10⟩ := HGD.out _ H0.out
  cases quiet with
  | true =>
    have HR := zh (show R = false by rw [hR]; simp [good9, hR])
    clear hR
    go_wp2
    go_ret
    exact ⟨ret_bool8 (by rw [HR.out]), H0.out.2⟩
  | false =>
    by_cases zrob : rob = 0
    · have trob : (rob != 0) = false := by simp [zrob]
      by_cases zevery : every = 0
      · have tevery : (every != 0) = false := by simp [zevery]
        by_cases lsrc : src.length = 0
        · have tsrc : decide ((0 : Int) < (src.length : Int)) = false := by simp [lsrc]
          have vsrc : decide (0 < src.length) = false := by simp [lsrc]
          by_cases lrcs : rcs.length = 0
          · have trcs : decide ((0 : Int) < (rcs.length : Int)) = false := by simp [lrcs]
            have vrcs : decide (0 < rcs.length) = false := by simp [lrcs]
            obtain ⟨zz, hzz⟩ : ∃ b, zer9 g = b := ⟨_, rfl⟩
            obtain ⟨gg, hgg⟩ : ∃ b, grp9 g = b := ⟨_, rfl⟩
            rw [hzz] at HZ
            rw [hgg] at HG
            cases zz with
            | true =>
              by_cases r0 : resp < 0
              · have tr : decide (resp < 0) = true := decide_eq_true r0
                have HR := zh (show R = false by rw [hR]; simp [good9, zrob, zevery, lsrc, lrcs, hzz, r0])
                clear hR
                go_wp2_with (go_at_call 132; (with_reducible refine (HZ.out _).mono ?_); rintro x w1 ⟨rfl, hb1⟩; have H1 := zh (H0.out.below hb1); clear hb1 c0 c1 c2 c3 c4 c5 c6 c7 c8 c9 c10; obtain ⟨c0, c1, c2, c3, c4, c5, c6, c7, c8, c9, c10⟩ := HGD.out _ H1.out)
                go_ret
                exact ⟨ret_bool8 (by rw [HR.out]), H1.out.2⟩
              have tr : decide (resp < 0) = false := decide_eq_false r0
              have HR := zh (show R = decide (resp < 65536) by rw [hR]; simp [good9, zrob, zevery, lsrc, lrcs, hzz, r0])
              clear hR
              generalize ht : decide (resp < 65536) = tt at *
              go_wp2_with (go_at_call 132; (with_reducible refine (HZ.out _).mono ?_); rintro x w1 ⟨rfl, hb1⟩; have H1 := zh (H0.out.below hb1); clear hb1 c0 c1 c2 c3 c4 c5 c6 c7 c8 c9 c10; obtain ⟨c0, c1, c2, c3, c4, c5, c6, c7, c8, c9, c10⟩ := HGD.out _ H1.out)
              go_ret
              exact ⟨ret_bool8 (by rw [HR.out]), H1.out.2⟩
            | false =>
              cases gg with
              | false =>
                have HR := zh (show R = false by rw [hR]; simp [good9, zrob, zevery, lsrc, lrcs, hzz, hgg])
                clear hR
                go_wp2_with (first | (go_at_call 132; (with_reducible refine (HZ.out _).mono ?_); rintro x w1 ⟨rfl, hb1⟩; have H1 := zh (H0.out.below hb1); clear hb1 c0 c1 c2 c3 c4 c5 c6 c7 c8 c9 c10; obtain ⟨c0, c1, c2, c3, c4, c5, c6, c7, c8, c9, c10⟩ := HGD.out _ H1.out) | (go_at_call 130; (with_reducible refine (HG.out _).mono ?_); rintro x w2 ⟨rfl, hb2⟩; have H2 := zh (H1.out.below hb2); clear hb2 c0 c1 c2 c3 c4 c5 c6 c7 c8 c9 c10; obtain ⟨c0, c1, c2, c3, c4, c5, c6, c7, c8, c9, c10⟩ := HGD.out _ H2.out))
                go_ret
                exact ⟨ret_bool8 (by rw [HR.out]), H2.out.2⟩
              | true =>
                by_cases r0 : resp < 0
                · have tr : decide (resp < 0) = true := decide_eq_true r0
                  have HR := zh (show R = false by rw [hR]; simp [good9, zrob, zevery, lsrc, lrcs, hzz, hgg, r0])
                  clear hR
                  go_wp2_with (first | (go_at_call 132; (with_reducible refine (HZ.out _).mono ?_); rintro x w1 ⟨rfl, hb1⟩; have H1 := zh (H0.out.below hb1); clear hb1 c0 c1 c2 c3 c4 c5 c6 c7 c8 c9 c10; obtain ⟨c0, c1, c2, c3, c4, c5, c6, c7, c8, c9, c10⟩ := HGD.out _ H1.out) | (go_at_call 130; (with_reducible refine (HG.out _).mono ?_); rintro x w2 ⟨rfl, hb2⟩; have H2 := zh (H1.out.below hb2); clear hb2 c0 c1 c2 c3 c4 c5 c6 c7 c8 c9 c10; obtain ⟨c0, c1, c2, c3, c4, c5, c6, c7, c8, c9, c10⟩ := HGD.out _ H2.out))
                  go_ret
                  exact ⟨ret_bool8 (by rw [HR.out]), H2.out.2⟩
                have tr : decide (resp < 0) = false := decide_eq_false r0
                have HR := zh (show R = decide (resp < 65536) by rw [hR]; simp [good9, zrob, zevery, lsrc, lrcs, hzz, hgg, r0])
                clear hR
                generalize ht : decide (resp < 65536) = tt at *
                go_wp2_with (first | (go_at_call 132; (with_reducible refine (HZ.out _).mono ?_); rintro x w1 ⟨rfl, hb1⟩; have H1 := zh (H0.out.below hb1); clear hb1 c0 c1 c2 c3 c4 c5 c6 c7 c8 c9 c10; obtain ⟨c0, c1, c2, c3, c4, c5, c6, c7, c8, c9, c10⟩ := HGD.out _ H1.out) | (go_at_call 130; (with_reducible refine (HG.out _).mono ?_); rintro x w2 ⟨rfl, hb2⟩; have H2 := zh (H1.out.below hb2); clear hb2 c0 c1 c2 c3 c4 c5 c6 c7 c8 c9 c10; obtain ⟨c0, c1, c2, c3, c4, c5, c6, c7, c8, c9, c10⟩ := HGD.out _ H2.out))
                go_ret
                exact ⟨ret_bool8 (by rw [HR.out]), H2.out.2⟩
          · have prcs : 0 < rcs.length := Nat.pos_of_ne_zero lrcs
            have trcs : decide ((0 : Int) < (rcs.length : Int)) = true := by simp; omega
            have vrcs : decide (0 < rcs.length) = true := by simp; omega
            have HR := zh (show R = false by rw [hR]; simp [good9, zrob, zevery, lsrc, prcs])
            clear hR
            go_wp2
            go_ret
            exact ⟨ret_bool8 (by rw [HR.out]), H0.out.2⟩
        · have psrc : 0 < src.length := Nat.pos_of_ne_zero lsrc
          have tsrc : decide ((0 : Int) < (src.length : Int)) = true := by simp; omega
          have vsrc : decide (0 < src.length) = true := by simp; omega
          have HR := zh (show R = false by rw [hR]; simp [good9, zrob, zevery, psrc])
          clear hR
          go_wp2
          go_ret
          exact ⟨ret_bool8 (by rw [HR.out]), H0.out.2⟩
      · have tevery : (every != 0) = true := by simp [zevery]
        have HR := zh (show R = false by rw [hR]; simp [good9, zrob, zevery])
        clear hR
        go_wp2
        go_ret
        exact ⟨ret_bool8 (by rw [HR.out]), H0.out.2⟩
    · have trob : (rob != 0) = true := by simp [zrob]
      have HR := zh (show R = false by rw [hR]; simp [good9, zrob])
      clear hR
      go_wp2
      go_ret
      exact ⟨ret_bool8 (by rw [HR.out]), H0.out.2⟩
end Go.Proofs.YtlbdehegknehiaaGreat


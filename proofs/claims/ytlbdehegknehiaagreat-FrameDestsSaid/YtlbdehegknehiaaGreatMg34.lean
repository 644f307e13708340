/-
  Texts joined: IgT, IgM.
-/
import Derived.Test.YtlbdehegknehiaaGreatMg00
import Derived.Test.YtlbdehegknehiaaGreatIgS
import Derived.Test.YtlbdehegknehiaaGreatIgD
/- A part of the proof. -/
namespace Go.Proofs.YtlbdehegknehiaaGreat
set_option maxRecDepth 100000
set_option maxHeartbeats 4000000
open Go.RowKit
set_option linter.unusedVariables false
set_option linter.unusedSimpArgs false
attribute [local go_sem ↓] ld_addr st_addr bld_addr ld_rec st_rec bld_rec ld_tk st_tk bld_tk rcsLit_eq
attribute [local go_sem] ldr_addr str_addr str_addr_at ldr_rec str_rec ldr_tk str_tk row?_drew_eq
theorem RQ.far {base : Nat} {w w' : World} {v : Value} {q : List (RC × Value)} {m : Nat} {L : Array Value} {T : TypeId} (h : RQ base w v q) (hm : ObjAt w m L T) (h1 : T ≠ 24) (h2 : T ≠ 109) (hg : w.grownBy w' (some m)) : RQ base w' v q := by
  refine ⟨own_keep h.1 (fun g hgg => ?_), fun x hx => ?_⟩
  · have hne := row_ne h.1 hm h2.symm
    refine hg.block g ?_ (fun e => hne (by rw [hgg, e]))
    obtain ⟨_, q2 | ⟨g', cap, cur, q1, q2, q3, _⟩⟩ := h.1
    · rw [q2.1] at hgg; simp [Value.ownBlock] at hgg
    · rw [q1] at hgg; simp only [Value.ownBlock, Option.some.injEq] at hgg; subst hgg; exact (Array.getElem?_eq_some_iff.1 q3).1
  · obtain ⟨a, b, c⟩ := h.2 x hx
    have := AdsT.far (l := x.1.src) ⟨b, c⟩ hm h1 hg
    exact ⟨a, this.1, this.2⟩
def repW (l : List RC) : TK := ⟨false, 3, 2, 0, zeroA, false, 0, 0, [], l⟩
structure TI (w W : World) (b0 bp m : Nat) (l : List UInt8) (k : Nat) (bad : Bool) (ur : Value) (q : List (RC × Value)) : Prop where
  rd : RdAt W b0 l k bad
  pp : ObjAt W bp #[.pointer (some ⟨b0, 0, none⟩)] 192
  res : ObjAt W (w.heap.size + 1) zz26 28
  tk : TkAt W m (repW (q.map Prod.fst)) (.slice none 0 0) ur
  rq : RQ w.heap.size W ur q
  frm : w.grownBy W (some b0)
  lp : w.heap.size ≤ bp
  lm : w.heap.size + 1 < m
  ne : bp ≠ m
  nr : bp ≠ w.heap.size + 1
  l0 : b0 < w.heap.size
theorem TI.below {w W W' : World} {b0 bp m : Nat} {l : List UInt8} {k : Nat} {bad : Bool} {ur : Value} {q : List (RC × Value)} (h : TI w W b0 bp m l k bad ur q) (hb : Below W.heap.size W W') : TI w W' b0 bp m l k bad ur q :=
  ⟨ObjAt.below h.rd hb (ObjAt.lt h.rd), h.pp.below hb h.pp.lt, h.res.below hb h.res.lt, h.tk.below hb, h.rq.below hb, qbelow h.frm (hb.mono h.frm.size), h.lp, h.lm, h.ne, h.nr, h.l0⟩
theorem TI.call {w W W' : World} {b0 bp m : Nat} {l l' : List UInt8} {k k' : Nat} {bad bad' : Bool} {ur : Value} {q : List (RC × Value)} (h : TI w W b0 bp m l k bad ur q) (hr : RdAt W' b0 l' k' bad') (hg : W.grownBy W' (some b0)) : TI w W' b0 bp m l' k' bad' ur q := by
  have l0 := h.l0; have lm := h.lm; have lp := h.lp
  exact ⟨hr, ObjAt.grown h.pp hg (by simp; omega), ObjAt.grown h.res hg (by simp; omega), ⟨ObjAt.grown h.tk.1 hg (by simp; omega), h.tk.2⟩, h.rq.far h.rd (by decide) (by decide) hg, gtrans h.frm hg, h.lp, h.lm, h.ne, h.nr, h.l0⟩
theorem TI.c {w W : World} {b0 bp m : Nat} {l : List UInt8} {k : Nat} {bad : Bool} {ur : Value} {q : List (RC × Value)} (h : TI w W b0 bp m l k bad ur q) : W.cell? ⟨bp, 0, none⟩ = some (.pointer (some ⟨b0, 0, none⟩)) ∧ W.cell? ⟨m, 25, none⟩ = some ur ∧ W.frozen? ⟨m, 25, none⟩ = false ∧ row? W m 0 26 = some (tkC (repW (q.map Prod.fst)) (.slice none 0 0) ur) ∧ free? W (w.heap.size + 1) 0 26 = true :=
  ⟨by rw [ObjAt.cell h.pp]; rfl, h.tk.ur, ObjAt.free h.tk.1 25, h.tk.row, obj_free h.res (by simp)⟩
theorem TI.app {w W W2 : World} {b0 bp m : Nat} {l : List UInt8} {k : Nat} {bad : Bool} {ur v' : Value} {q : List (RC × Value)} {r : RC} {u : Value} (h : TI w W b0 bp m l k bad ur q) (hr : adOk r.g ∧ Ads W u r.src ∧ AdT W u) (hown : W2.ownsRow w.heap.size 109 19 v' (q.length + 1) (rqC q ++ rcC r u)) (hg : W.grownBy W2 ur.ownBlock) :
    TI w (W2.setCell ⟨m, 25, none⟩ v') b0 bp m l k bad v' (q ++ [(r, u)]) ∧ (W2.cell? ⟨m, 25, none⟩ = some ur ∧ W2.frozen? ⟨m, 25, none⟩ = false) := by
  have l0 := h.l0; have lm := h.lm; have lp := h.lp
  have r1 := row_ne h.rq.1 h.rd (by decide)
  have r2 := row_ne h.rq.1 h.pp (by decide)
  have r3 := row_ne h.rq.1 h.res (by decide)
  have r4 := row_ne h.rq.1 h.tk.1 (by decide)
  have h1 := ObjAt.grown h.rd hg r1
  have h2 := ObjAt.grown h.pp hg r2
  have h3 := ObjAt.grown h.res hg r3
  have h4 : TkAt W2 m (repW (q.map Prod.fst)) (.slice none 0 0) ur := ⟨ObjAt.grown h.tk.1 hg r4, h.tk.2⟩
  have hq := RQ.snoc h.rq hr hown hg
  have hb : w.grownBy W2 (some b0) := by
    refine ⟨hg.os.trans h.frm.os, hg.tape.trans h.frm.tape, hg.output.trans h.frm.output, Nat.le_trans h.frm.size hg.size, fun i hi hne => ?_⟩
    refine (hg.block i (Nat.lt_of_lt_of_le hi h.frm.size) (fun e => ?_)).trans (h.frm.block i hi hne)
    obtain ⟨_, q2 | ⟨g', cap, cur, q1, q2, _⟩⟩ := h.rq.1
    · rw [q2.1] at e; simp [Value.ownBlock] at e
    · rw [q1] at e; simp only [Value.ownBlock, Option.some.injEq] at e; omega
  refine ⟨⟨ObjAt.other h1 _ _ (by simp; omega), ObjAt.other h2 _ _ (by simpa using h.ne), ObjAt.other h3 _ _ (by simp; omega), ⟨?_, zeroA_ok⟩, hq.far h4.1 (by decide) (by decide) (gset W2 m 25 v'), ?_, lp, lm, h.ne, h.nr, l0⟩, h4.ur, ObjAt.free h4.1 25⟩
  · have := ObjAt.set h4.1 25 v'
    rw [zsA, tkC_rcs (repW (q.map Prod.fst)) (.slice none 0 0) ur zeroA_ok v' ((q ++ [(r, u)]).map Prod.fst)] at this
    exact this
  · refine ⟨hb.os, hb.tape, hb.output, by simpa [World.setCell] using hb.size, fun i hi hne => ?_⟩
    exact (heap_setCell_other W2 ⟨m, 25, none⟩ i v' (by simp; omega)).trans (hb.block i hi hne)
def RepS (w W' : World) (b0 bp m : Nat) (s : List UInt8) (i : Nat) (q : List (RC × Value)) (x : Ending) : Prop := ∃ (e : Int) (ur' : Value) (q' : List (RC × Value)) (l' : List UInt8) (k' : Nat) (bad' : Bool), x = .returned (.int .i64 e) ∧ e = recQE s i ∧ TI w W' b0 bp m l' k' bad' ur' q' ∧ (e = 0 → q'.map Prod.fst = (if rcOk (rec1 s i) then q.map Prod.fst ++ [rec1 s i] else q.map Prod.fst) ∧ l' = s.drop (recN s i) ∧ k' = recN s i ∧ bad' = false)
theorem rep1_any (w W : World) (b0 bp m : Nat) (s : List UInt8) (i : Nat) (ur : Value) (q : List (RC × Value)) (hs : s.length ≤ 100000) (hi : i ≤ s.length) (hq : q.length ≤ 64) (h : TI w W b0 bp m (s.drop i) i false ur q) :
    Calls Tryz.prog 224 #[.pointer (some ⟨bp, 0, none⟩), .pointer (some ⟨m, 0, none⟩)] W fun x W' => RepS w W' b0 bp m s i q x := by
  have H0 := zh h
  have HRC := zh (precord_any b0 s i hs hi W h.rd)
  obtain ⟨i0, hi0, hz0, hz1, hz2⟩ := info_parts info_rec
  have hfm : ∀ W : World, free? (W.alloc (.cells zz19 109)) W.heap.size 0 19 = true := fun W => free_made W _ _ 19 (by simp)
  obtain ⟨k1, k2, k3, k4, k5⟩ := h.c
  clear h
  go_enter Tryz.func224, Tryz.ntmps224
  go_upto_region 1 with (fail)
  -- the record: its parts are letters
  have HF : Hid (∀ (r : RC) (u : Value), adOk r.g → u.oneCell' = true → fok (rcC r u).toArray 19 = true) := zh fun r u h1 h2 => fok_rec h1 h2
  go_upto_region 2 with (go_at_call 225; (with_reducible refine (HRC.out).mono ?_); rintro x w1 ⟨r, u, e, l1, kk1, b1, rfl, he, ho, hv, hrd, hgr, h0⟩; obtain ⟨pv, cv, hvv, _, _⟩ := hv.1.len; subst hvv; have hfk := HF.out r (.slice pv r.src.length cv) ho rfl; have H1 := zh (H0.out.call hrd hgr); have HV1 := zh hv; have HE := zh he; have HO := zh ho; have HZ := zh h0; clear hrd hgr hv he ho h0)
  have HBX : Hid (ObjAt (aggW (w1.alloc (.cells zz19 109)) w1.heap.size (rcC r (.slice pv r.src.length cv))) w1.heap.size (rcC r (.slice pv r.src.length cv)).toArray 109 ∧ Below w1.heap.size w1 (aggW (w1.alloc (.cells zz19 109)) w1.heap.size (rcC r (.slice pv r.src.length cv)))) := zh ⟨aggW_obj (L := (zz19 : Array Value).toList) (by simpa using ObjAt.made w1 zz19 109) (by rw [rcC_length HO.out]; rfl) (rcC_one rfl), aggW_below ((Below.refl _ _).alloc (Nat.le_refl _) _) (Nat.le_refl _) _⟩
  generalize aggW (w1.alloc (.cells zz19 109)) w1.heap.size _ = W2 at HBX ⊢
  have H2 := zh (H1.out.below HBX.out.2)
  have HV2 := zh (HV1.out.below HBX.out.2)
  have HVA := zh HV2.out.1
  have HX2 := zh HBX.out.1
  generalize w1.heap.size = xb at HX2 ⊢
  clear k1 k2 k3 k4 k5 hfm hfk HBX H1 HV1
  obtain ⟨k1, k2, k3, k4, k5⟩ := H2.out.c
  have HROW : Hid (∀ W, ObjAt W xb (rcC r (.slice pv r.src.length cv)).toArray 109 → row? W xb 0 19 = some (rcC r (.slice pv r.src.length cv))) := zh fun W hW => obj_rowk (A := []) (M := rcC r (.slice pv r.src.length cv)) (C := []) (by simpa using hW) rfl (rcC_length HO.out _)
  have hrow := HROW.out _ HX2.out
  by_cases hez : e = 0
  · obtain ⟨z1, z2, z3, z4⟩ := HZ.out hez
    have HEZ := zh hez
    have te : (e == 0) = true := by simp [hez]
    have HZ1 := zh z1
    have HZ2 := zh (And.intro z2 (And.intro z3 z4))
    clear z1 z2 z3 z4 hez
    have HGR : Hid (∀ W, Ads W (.slice pv r.src.length cv) r.src → Calls Tryz.prog 183 #[.agg (rcC r (.slice pv r.src.length cv)).toArray] W fun x w' => x = .returned (.bool (rcOk r)) ∧ Below W.heap.size W w') := zh fun W ha => record8_any r (.slice pv r.src.length cv) W HO.out ha
    cases hok : rcOk r with
    | false =>
      rw [hok] at HGR
      have HOK := zh hok
      clear hok
      go_wp2_with (go_at_call 183; (with_reducible refine (HGR.out _ HVA.out).mono ?_); rintro x w3 ⟨rfl, h9⟩; have H3 := zh (H2.out.below h9); clear h9)
      go_ret
      exact ⟨e, _, _, _, _, _, rfl, HE.out, H3.out, fun _ => ⟨by rw [← HZ1.out, HOK.out]; rfl, HZ2.out⟩⟩
    | true =>
      rw [hok] at HGR
      have HOK := zh hok
      have hlit := rcsLit_run r HO.out pv r.src.length cv
      have hl19 := rcC_length (r := r) HO.out (.slice pv r.src.length cv)
      have h1c : ∀ u ∈ rcC r (.slice pv r.src.length cv), u.oneCell' = true := rcC_one rfl
      obtain ⟨pu, cu, eur⟩ := own_slice8 H2.out.rq.1
      subst eur
      clear hok
      go_upto_region 4 with (first
        | (go_at_call 183; (with_reducible refine (HGR.out _ HVA.out).mono ?_); rintro x w3 ⟨rfl, h9⟩; have H3 := zh (H2.out.below h9); have HV3 := zh (HV2.out.below h9); have hrow3 := HROW.out _ (HX2.out.below h9 HX2.out.lt); clear h9 k1 k2 k3 k4 k5 hrow; obtain ⟨k1, k2, k3, k4, k5⟩ := H3.out.c; have hba := (Below.refl w3.heap.size w3).alloc (Nat.le_refl _) (.cells (rcC r (.slice pv r.src.length cv)).toArray 109); have H4 := zh (H3.out.below hba); have HV4 := zh (HV3.out.below hba); have hown := H4.out.rq.1; have hz := H4.out.frm.size; clear hba)
        | (at_builtin; refine wpList_append_own _ rfl _ _ 26 rfl w.heap.size 109 i0 (.agg zz19) 19 56 Tryz.underlying26 hi0 hz0 hz1 hz2 rfl (by decide) _ _ _ rfl hown ⟨w3.heap.size, 0, none⟩ 1 1 (rcC r (.slice pv r.src.length cv)) rfl hl19 (World.news_of_block (heap_alloc_new w3 _)) h1c (by unfold maxLen; omega) (by omega) (by simpa using hz) ?_; intro v' w5 hown' hgrow hnil; obtain ⟨pw, cw, ew⟩ := own_slice8 hown'; subst ew; have HH := H4.out.app ⟨HO.out, HV4.out.1, HV4.out.2⟩ hown' hgrow; have H5 := zh HH.1; obtain ⟨kc, kf⟩ := HH.2; clear HH hown' hgrow hnil hown hz hl19 h1c))
      generalize World.setCell w5 _ _ = w6 at H5 ⊢
      go_wp2
      go_ret
      exact ⟨e, _, _, _, _, _, rfl, HE.out, H5.out, fun _ => ⟨by rw [List.map_append, ← HZ1.out, HOK.out]; rfl, HZ2.out⟩⟩
  · have te : (e == 0) = false := by simpa using hez
    have HNE := zh hez
    clear hez
    go_wp2
    go_ret
    exact ⟨e, _, _, _, _, _, rfl, HE.out, H2.out, fun h => absurd h HNE.out⟩
structure P0T (w W : World) (b0 : Nat) (l : List UInt8) (k : Nat) (bad : Bool) : Prop where
  pb : PB w W b0 l k bad
  res : ObjAt W (w.heap.size + 1) zz26 28
theorem P0T.start {w : World} {b0 : Nat} {l : List UInt8} {k : Nat} {bad : Bool} (h : RdAt w b0 l k bad) : P0T w ((w.alloc (.cells #[.pointer (some ⟨b0, 0, none⟩)] 192)).alloc (.cells zz26 28)) b0 l k bad := by
  refine ⟨(PB.start h).below ((Below.refl _ _).alloc (Nat.le_refl _) _), ?_⟩
  have := ObjAt.made (w.alloc (.cells #[.pointer (some ⟨b0, 0, none⟩)] 192)) zz26 28
  rw [show (w.alloc (.cells #[.pointer (some ⟨b0, 0, none⟩)] 192)).heap.size = w.heap.size + 1 by simp] at this
  exact this
theorem P0T.call {w W W' : World} {b0 : Nat} {l l' : List UInt8} {k k' : Nat} {bad bad' : Bool} (h : P0T w W b0 l k bad) (hr : RdAt W' b0 l' k' bad') (hg : W.grownBy W' (some b0)) : P0T w W' b0 l' k' bad' :=
  ⟨h.pb.call hr hg, ObjAt.grown h.res hg (by have := h.pb.lt; simp; omega)⟩
theorem P0T.below {w W W' : World} {b0 : Nat} {l : List UInt8} {k : Nat} {bad : Bool} (h : P0T w W b0 l k bad) (hb : Below W.heap.size W W') : P0T w W' b0 l k bad := ⟨h.pb.below hb, h.res.below hb h.res.lt⟩
theorem P0T.rep {w W : World} {b0 : Nat} {l : List UInt8} {k : Nat} {bad : Bool} (h : P0T w W b0 l k bad) : TI w (aggW (W.alloc (.cells zz26 28)) W.heap.size (tkC (repW []) (.slice none 0 0) (.slice none 0 0))) b0 w.heap.size W.heap.size l k bad (.slice none 0 0) [] := by
  have hm := TM.made (w := W) (t := repW []) (Below.refl _ _) zeroA_ok (Ads.nil W) (Rcs.nil W)
  have h2 := h.below hm.blw
  have l1 := h.pb.pp.lt
  have l2 := h.res.lt
  exact ⟨h2.pb.rd, h2.pb.pp, h2.res, hm.tk, ⟨⟨rfl, Or.inl ⟨rfl, rfl⟩⟩, fun x hx => by cases hx⟩, h2.pb.frm, Nat.le_refl _, l2, by omega, by omega, h2.pb.lt⟩
theorem TI.done {w W : World} {b0 bp m : Nat} {l : List UInt8} {k : Nat} {bad : Bool} {ur : Value} {q : List (RC × Value)} (h : TI w W b0 bp m l k bad ur q) :
    row? (aggW W (w.heap.size + 1) (tkC (repW (q.map Prod.fst)) (.slice none 0 0) ur)) (w.heap.size + 1) 0 26 = some (tkC (repW (q.map Prod.fst)) (.slice none 0 0) ur) ∧ RdAt (aggW W (w.heap.size + 1) (tkC (repW (q.map Prod.fst)) (.slice none 0 0) ur)) b0 l k bad ∧ w.grownBy (aggW W (w.heap.size + 1) (tkC (repW (q.map Prod.fst)) (.slice none 0 0) ur)) (some b0) ∧ RcT (aggW W (w.heap.size + 1) (tkC (repW (q.map Prod.fst)) (.slice none 0 0) ur)) ur (q.map Prod.fst) :=
  ⟨aggW_row (obj_free h.res (by simp)) (tkC_length zeroA_ok _ _), aggW_other h.rd _ (by have := h.l0; omega), qbelow h.frm (aggW_below (Below.refl _ _) (by omega) _), ⟨_, q, h.rq.far h.res (by decide) (by decide) (aggW_grown _ _ _), rfl⟩⟩
theorem PTk (b0 : Nat) (s : List UInt8) (i n : Nat) (hi : i + n ≤ s.length) (hl : s.length ≤ 1000000) (W : World) (h : RdAt W b0 (s.drop i) i false) : Calls Tryz.prog 162 #[.pointer (some ⟨b0, 0, none⟩), .int .i64 n] W fun x w' => x = .returned (.string (Str ((s.drop i).take n))) ∧ RdAt w' b0 (s.drop (i + n)) (i + n) false ∧ W.grownBy w' (some b0) := by
  have := take_any b0 (s.drop i) i false n (by simp; omega) (by omega) W h
  obtain ⟨e1, e2, e3, e4⟩ := rd_good (l := s.drop i) (n := n) (k := i) (by simp; omega)
  rw [e1, e2, e3, e4, List.drop_drop] at this
  exact this
theorem pchk_good (b0 : Nat) (s : List UInt8) (i : Nat) (hi : i + 2 ≤ s.length) (hl : s.length ≤ 1000000) (W : World) (h : RdAt W b0 (s.drop i) i false) : Calls Tryz.prog 220 #[pv b0] W fun x w' => x = .returned (.tuple #[]) ∧ RdAt w' b0 (s.drop (i + 2)) (i + 2) false ∧ W.grownBy w' (some b0) := by
  have := pchk_any b0 (s.drop i) i false (by simp; omega) (by omega) W h
  obtain ⟨e1, e2, e3, e4⟩ := rd_good (l := s.drop i) (n := 2) (k := i) (by simp; omega)
  rw [show leftV (s.drop i) false 2 = (s.drop i).drop 2 from e2, show pastV (s.drop i) false 2 i = i + 2 from e3, show badV (s.drop i) false 2 = false from e4, List.drop_drop] at this
  exact this
def RepQ (w W' : World) (b0 : Nat) (s : List UInt8) (x : Ending) : Prop := ∃ (e : Int) (ur : Value) (rcs : List RC), x = .returned (.tuple #[.agg (tkC (repW rcs) (.slice none 0 0) ur).toArray, .int .i64 e]) ∧ e = recE s ∧ RcT W' ur rcs ∧ w.grownBy W' (some b0) ∧ (e = 0 → rcs = (recL s 8 (wd s 6)).1)
def EachQ (w W' : World) (b0 bp m : Nat) (s : List UInt8) (x : Ending) : Prop := ∃ (e : Int) (ur : Value) (q : List (RC × Value)) (l' : List UInt8) (k' : Nat) (bad' : Bool), x = .returned (.int .i64 e) ∧ e = recE s ∧ TI w W' b0 bp m l' k' bad' ur q ∧ (e = 0 → q.map Prod.fst = (recL s 8 (wd s 6)).1)
theorem rep_each (w W : World) (b0 bp m : Nat) (s : List UInt8) (hs : s.length ≤ 100000) (h8 : 8 ≤ s.length) (h : TI w W b0 bp m (s.drop 8) 8 false (.slice none 0 0) []) :
    Calls Tryz.prog 223 #[.int .i64 (wd s 6 : Nat), .int .i64 64, .func (.func 224) #[] #[.pointer (some ⟨bp, 0, none⟩), .pointer (some ⟨m, 0, none⟩)]] W fun x W' => EachQ w W' b0 bp m s x := by
  have hw := wd_lt s 6 (by omega)
  obtain ⟨n, hn⟩ : ∃ n, n = wd s 6 := ⟨_, rfl⟩
  rw [← hn] at hw ⊢
  by_cases hl : 64 < n
  · refine (each_long _ n hl (by omega) W).mono ?_
    rintro x W' ⟨rfl, rfl⟩
    exact ⟨6, _, _, _, _, _, rfl, by unfold recE; rw [← hn, if_pos hl], h, fun h => by cases h⟩
  · refine (each_any 224 _ (enters_of Tryz.func224 (by kernel_rfl) rfl) n (by omega)
      (fun j W => ∃ i ur q, i ≤ s.length ∧ q.length ≤ j ∧ TI w W b0 bp m (s.drop i) i false ur q ∧ RS s n i (n - j) (q.map Prod.fst))
      (fun e W => e = (recL s 8 n).2 ∧ ∃ ur q l' k' bad', TI w W b0 bp m l' k' bad' ur q) W ⟨8, _, [], h8, by simp, h, by simpa using RS.start s n⟩ ?_).mono ?_
    · intro j W2 hj ⟨i, ur, q, hi, hq, hT, hR⟩
      rw [show n - j = (n - (j + 1)) + 1 by omega] at hR
      refine (rep1_any w W2 b0 bp m s i ur q hs hi (by omega) hT).mono ?_
      rintro x W3 ⟨e, ur', q', l', k', bad', rfl, he, hT', h0⟩
      refine ⟨e, rfl, fun hz => ?_, fun hnz => ⟨?_, _, _, _, _, _, hT'⟩⟩
      · obtain ⟨z1, rfl, rfl, rfl⟩ := h0 hz
        have hE : recQE s i = 0 := by rw [← he]; exact hz
        unfold recQE at hE
        by_cases a1 : s.length < i + 8
        · rw [if_pos a1] at hE; cases hE
        rw [if_neg a1] at hE
        by_cases a2 : srcsE s (i + 8) (wd s (i + 2)) = 0
        · rw [if_neg (by rw [a2]; simp)] at hE
          by_cases a3 : s.length < recN s i
          · rw [if_pos a3] at hE; cases hE
          refine ⟨recN s i, ur', q', by omega, ?_, hT', ?_⟩
          · have := congrArg List.length z1
            rw [List.length_map] at this
            rw [this]
            split <;> simp <;> omega
          · have := RS.step hR a1 a2 a3
            rw [z1]; exact this
        · rw [if_pos a2] at hE; exact absurd hE a2
      · have hE : recQE s i ≠ 0 := by rw [← he]; exact hnz
        rw [he]
        unfold recQE at hE ⊢
        by_cases a1 : s.length < i + 8
        · rw [if_pos a1]; exact (RS.short hR a1).symm
        rw [if_neg a1] at hE ⊢
        by_cases a2 : srcsE s (i + 8) (wd s (i + 2)) = 0
        · rw [if_neg (by rw [a2]; simp)] at hE ⊢
          by_cases a3 : s.length < recN s i
          · rw [if_pos a3]; exact (RS.ends hR a1 a2 a3).symm
          · rw [if_neg a3] at hE; exact absurd rfl hE
        · rw [if_pos a2]; exact (RS.srcs hR a1 a2).symm
    · rintro x W' ⟨e, rfl, h1, h2⟩
      by_cases he : e = 0
      · obtain ⟨i, ur, q, hi, hq, hT, hR⟩ := h1 he
        rw [Nat.sub_self] at hR
        have hd := RS.done hR
        exact ⟨e, ur, q, _, _, _, rfl, by unfold recE; rw [← hn, if_neg hl, hd]; exact he, hT, fun _ => by rw [← hn, hd]⟩
      · obtain ⟨h3, ur, q, l', k', bad', hT⟩ := h2 he
        exact ⟨e, ur, q, _, _, _, rfl, by unfold recE; rw [← hn, if_neg hl]; exact h3, hT, fun h => absurd h he⟩
theorem preport_any (w : World) (b0 : Nat) (s : List UInt8) (hs : s.length ≤ 100000) (h8 : 8 ≤ s.length) (h : RdAt w b0 (s.drop 1) 1 false) :
    Calls Tryz.prog 209 #[pv b0] w fun x W' => RepQ w W' b0 s x := by
  have H0 := zh (P0T.start h)
  have HT1 : Hid (∀ W, RdAt W b0 (s.drop 1) 1 false → Calls Tryz.prog 162 #[.pointer (some ⟨b0, 0, none⟩), .int .i64 1] W fun x w' => x = .returned (.string (Str ((s.drop 1).take 1))) ∧ RdAt w' b0 (s.drop 2) 2 false ∧ W.grownBy w' (some b0)) := zh fun W h => PTk b0 s 1 1 (by omega) (by omega) W h
  have HC : Hid (∀ W, RdAt W b0 (s.drop 2) 2 false → Calls Tryz.prog 220 #[pv b0] W fun x w' => x = .returned (.tuple #[]) ∧ RdAt w' b0 (s.drop 4) 4 false ∧ W.grownBy w' (some b0)) := zh fun W h => pchk_good b0 s 2 (by omega) (by omega) W h
  have HT2 : Hid (∀ W, RdAt W b0 (s.drop 4) 4 false → Calls Tryz.prog 162 #[.pointer (some ⟨b0, 0, none⟩), .int .i64 2] W fun x w' => x = .returned (.string (Str ((s.drop 4).take 2))) ∧ RdAt w' b0 (s.drop 6) 6 false ∧ W.grownBy w' (some b0)) := zh fun W h => PTk b0 s 4 2 (by omega) (by omega) W h
  have HN : Hid (PNum b0 (s.drop 6) 6 false 2 (wd s 6) (s.drop 8) 8 false) := zh (pnum_good b0 s 6 2 (by omega) (by omega) (by omega))
  have HE := zh (fun W m h => rep_each w W b0 w.heap.size m s hs h8 h)
  have hbk := bldr_tkvk 3 2
  have hfk : fok (tkC (repW []) (.slice none 0 0) (.slice none 0 0)).toArray 26 = true := fok_tk zeroA_ok rfl rfl
  have HFK : Hid (∀ (q : List (RC × Value)) (p : Option Addr) (n c : Nat), fok (tkC (repW (q.map Prod.fst)) (.slice none 0 0) (.slice p n c)).toArray 26 = true) := zh fun q p n c => fok_tk zeroA_ok rfl rfl
  have hmf : ∀ (fn : Fn) (first cap : Array Value) (w : World), (Instr.makeFunc fn first cap).run Tryz.prog w = .ok (.func fn first cap) w := fun _ _ _ _ => rfl
  change ∀ w0, (aggBuild 28 #[(1, .int .i64 3), (2, .int .i64 2)]).run Tryz.prog w0 = .ok (.agg (tkC (repW []) (.slice none 0 0) (.slice none 0 0)).toArray) w0 at hbk
  clear h
  go_enter Tryz.func209, Tryz.ntmps209
  go_upto_region 1 with (fail)
  generalize (w.alloc (.cells #[.pointer (some ⟨b0, 0, none⟩)] 192)).alloc (.cells zz26 28) = W at H0 ⊢
  have hfm := hfm26 W
  have H1 := zh (H0.out.rep)
  go_upto_region 2 with (fail)
  generalize aggW (W.alloc (.cells zz26 28)) W.heap.size _ = W1 at H1 ⊢
  generalize W.heap.size = m at H1 ⊢
  clear hfm hfk hbk H0
  obtain ⟨k1, k2, k3, k4, k5⟩ := H1.out.c
  go_upto_region 3 with (go_at_call 162; (with_reducible refine (HT1.out _ H1.out.rd).mono ?_); rintro x w2 ⟨rfl, h9, k9⟩; have H2 := zh (H1.out.call h9 k9); clear h9 k9 k1 k2 k3 k4 k5; obtain ⟨k1, k2, k3, k4, k5⟩ := H2.out.c)
  go_upto_region 4 with (go_at_call 220; (with_reducible refine (HC.out _ H2.out.rd).mono ?_); rintro x w3 ⟨rfl, h9, k9⟩; have H3 := zh (H2.out.call h9 k9); clear h9 k9 k1 k2 k3 k4 k5; obtain ⟨k1, k2, k3, k4, k5⟩ := H3.out.c)
  go_upto_region 5 with (go_at_call 162; (with_reducible refine (HT2.out _ H3.out.rd).mono ?_); rintro x w4 ⟨rfl, h9, k9⟩; have H4 := zh (H3.out.call h9 k9); clear h9 k9 k1 k2 k3 k4 k5; obtain ⟨k1, k2, k3, k4, k5⟩ := H4.out.c)
  go_upto_region 6 with (first
    | (go_at_call 206; (with_reducible refine (HN.out _ H4.out.rd).mono ?_); rintro x w5 ⟨rfl, h9, k9⟩; have H5 := zh (H4.out.call h9 k9); clear h9 k9 k1 k2 k3 k4 k5; obtain ⟨k1, k2, k3, k4, k5⟩ := H5.out.c)
    | (go_at_call 223; (with_reducible refine (HE.out _ _ H5.out).mono ?_); rintro x w6 ⟨e, ur, q, l', kk', bad', rfl, he, hT, h0⟩; obtain ⟨pu, cu, eu⟩ := own_slice8 hT.rq.1; subst eu; have H6 := zh hT; have HQ := zh (And.intro he h0); clear hT he h0 k1 k2 k3 k4 k5; obtain ⟨k1, k2, k3, k4, k5⟩ := H6.out.c; have hfk := HFK.out q pu q.length cu))
  repeat (first | go_values | go_skip | go_guarded | go_step | go_upon | go_in)
  obtain ⟨q1, q2, q3, q4⟩ := H6.out.done
  exact bodyPost_ret (results_cell2 Tryz.results209 rfl (ld_some q1 (ldr_tk _ _ _))) rfl ⟨e, _, _, rfl, HQ.out.1, q4, q3, HQ.out.2⟩
end Go.Proofs.YtlbdehegknehiaaGreat

/- A part of the proof. -/
namespace Go.Proofs.YtlbdehegknehiaaGreat
set_option maxRecDepth 100000
set_option maxHeartbeats 4000000
open Go.RowKit
set_option linter.unusedVariables false
set_option linter.unusedSimpArgs false
attribute [local go_sem ↓] ld_addr st_addr bld_addr ld_tk st_tk bld_tk
attribute [local go_sem] ldr_addr str_addr str_addr_at ldr_tk str_tk row?_drew_eq
theorem bldr_vka (ver kind : Int) (a : AD) (ho : adOk a) (w : World) : (aggBuild 28 #[(1, .int .i64 ver), (2, .int .i64 kind), (4, .agg (adC a).toArray)]).run Tryz.prog w = .ok (.agg (tkC ⟨false, ver, kind, 0, a, false, 0, 0, [], []⟩ (.slice none 0 0) (.slice none 0 0)).toArray) w := by
  obtain ⟨v, l⟩ := a
  obtain ⟨b0, b1, b2, b3, b4, b5, b6, b7, b8, b9, ba, bb, bc, bd, be, bf, e⟩ := list16 (show l.length = 16 from ho)
  subst e
  exact bld_run _ _ _ (by kernel_rfl) _
theorem bldr_vkr (ver kind resp : Int) (w : World) : (aggBuild 28 #[(1, .int .i64 ver), (2, .int .i64 kind), (3, .int .i64 resp)]).run Tryz.prog w = .ok (.agg (tkC ⟨false, ver, kind, resp, zeroA, false, 0, 0, [], []⟩ (.slice none 0 0) (.slice none 0 0)).toArray) w := bld_run _ _ _ (by kernel_rfl) _
theorem RcT.far {w w' : World} {v : Value} {l : List RC} {m : Nat} {L : Array Value} {T : TypeId} (h : RcT w v l) (hm : ObjAt w m L T) (h1 : T ≠ 24) (h2 : T ≠ 109) (hg : w.grownBy w' (some m)) : RcT w' v l := by
  obtain ⟨base, q, h3, h4⟩ := h
  exact ⟨base, q, h3.far hm h1 h2 hg, h4⟩
structure QM (w W : World) (b0 bp rr m : Nat) (l : List UInt8) (k : Nat) (bad : Bool) (t : TK) (us ur : Value) : Prop where
  rd : RdAt W b0 l k bad
  pp : ObjAt W bp #[.pointer (some ⟨b0, 0, none⟩)] 192
  res : ObjAt W rr zz26 28
  tk : TkAt W m t us ur
  src : AdsT W us t.src
  rcs : RcT W ur t.rcs
  frm : w.grownBy W (some b0)
  lp : w.heap.size ≤ bp
  lr : w.heap.size ≤ rr
  lm : w.heap.size ≤ m
  n1 : bp ≠ m
  n2 : rr ≠ m
  n3 : rr ≠ bp
  l0 : b0 < w.heap.size
theorem QM.below {w W : World} {b0 bp rr m : Nat} {l : List UInt8} {k : Nat} {bad : Bool} {t : TK} {us ur : Value} {W' : World} (h : QM w W b0 bp rr m l k bad t us ur) (hb : Below W.heap.size W W') : QM w W' b0 bp rr m l k bad t us ur :=
  ⟨ObjAt.below h.rd hb (ObjAt.lt h.rd), h.pp.below hb h.pp.lt, h.res.below hb h.res.lt, h.tk.below hb, h.src.below hb, h.rcs.below hb, qbelow h.frm (hb.mono h.frm.size), h.lp, h.lr, h.lm, h.n1, h.n2, h.n3, h.l0⟩
theorem QM.call {w W : World} {b0 bp rr m : Nat} {l : List UInt8} {k : Nat} {bad : Bool} {t : TK} {us ur : Value} {W' : World} {l' : List UInt8} {k' : Nat} {bad' : Bool} (h : QM w W b0 bp rr m l k bad t us ur) (hr : RdAt W' b0 l' k' bad') (hg : W.grownBy W' (some b0)) : QM w W' b0 bp rr m l' k' bad' t us ur := by
  have l0 := h.l0; have lp := h.lp; have lr := h.lr; have lm := h.lm
  exact ⟨hr, ObjAt.grown h.pp hg (by simp; omega), ObjAt.grown h.res hg (by simp; omega), ⟨ObjAt.grown h.tk.1 hg (by simp; omega), h.tk.2⟩, h.src.far h.rd (by decide) hg, h.rcs.far h.rd (by decide) (by decide) hg, gtrans h.frm hg, h.lp, h.lr, h.lm, h.n1, h.n2, h.n3, h.l0⟩
theorem QM.set {w W : World} {b0 bp rr m : Nat} {l : List UInt8} {k : Nat} {bad : Bool} {t : TK} {us ur : Value} {t' : TK} {us' ur' : Value} (h : QM w W b0 bp rr m l k bad t us ur) (j : Nat) (v : Value) (e : (tkC t us ur).set j v = tkC t' us' ur') (ho : adOk t'.g) (hs : AdsT W us' t'.src) (hr : RcT W ur' t'.rcs) : QM w (W.setCell ⟨m, j, none⟩ v) b0 bp rr m l k bad t' us' ur' := by
  have l0 := h.l0; have lm := h.lm
  have h1 : ObjAt (W.setCell ⟨m, j, none⟩ v) m (tkC t' us' ur').toArray 28 := by
    have := ObjAt.set h.tk.1 j v
    rw [zsA, e] at this
    exact this
  exact ⟨ObjAt.other h.rd _ _ (by simp; omega), ObjAt.other h.pp _ _ (by simpa using h.n1), ObjAt.other h.res _ _ (by simpa using h.n2), ⟨h1, ho⟩, hs.far h.tk.1 (by decide) (gset W m j v), hr.far h.tk.1 (by decide) (by decide) (gset W m j v), qbelow h.frm ((Below.refl _ _).setCell (p := ⟨m, j, none⟩) (by simpa using lm) v), h.lp, h.lr, h.lm, h.n1, h.n2, h.n3, h.l0⟩
theorem QM.grp {w W : World} {b0 bp rr m : Nat} {l : List UInt8} {k : Nat} {bad : Bool} {t : TK} {us ur : Value} (h : QM w W b0 bp rr m l k bad t us ur) (a : AD) (ha : adOk a) : QM w (aggO W m 4 (adC a)) b0 bp rr m l k bad ⟨t.v6, t.ver, t.kind, t.resp, a, t.quiet, t.rob, t.every, t.src, t.rcs⟩ us ur := by
  have l0 := h.l0; have lm := h.lm
  have l1 := tkC_length h.tk.2 us ur
  have h1 := aggO_obj (o := 4) (cs := adC a) h.tk.1 (by rw [l1, adC_length ha]; omega) (addrC_one _ _)
  rw [tkC_grp t us ur h.tk.2 a ha] at h1
  have hg : W.grownBy (aggO W m 4 (adC a)) (some m) := by rw [aggO_eq]; exact setCells_grown m _ 4 W
  exact ⟨aggO_other h.rd _ (by omega), aggO_other h.pp _ h.n1, aggO_other h.res _ h.n2, ⟨h1, ha⟩, h.src.far h.tk.1 (by decide) hg, h.rcs.far h.tk.1 (by decide) (by decide) hg, qbelow h.frm (aggO_below (Below.refl _ _) lm _ _), h.lp, h.lr, h.lm, h.n1, h.n2, h.n3, h.l0⟩
def QMC (W : World) (b0 bp rr m : Nat) (t : TK) (us ur : Value) : Prop :=
  W.cell? ⟨bp, 0, none⟩ = some (.pointer (some ⟨b0, 0, none⟩)) ∧ W.cell? ⟨m, 1, none⟩ = some (.int .i64 t.ver) ∧ W.cell? ⟨m, 3, none⟩ = some (.int .i64 t.resp) ∧ row? W m 4 17 = some (adC t.g) ∧ W.cell? ⟨m, 21, none⟩ = some (.bool t.quiet) ∧ W.cell? ⟨m, 22, none⟩ = some (.int .i64 t.rob) ∧ W.cell? ⟨m, 23, none⟩ = some (.int .i64 t.every) ∧ W.cell? ⟨m, 24, none⟩ = some us ∧ row? W m 0 26 = some (tkC t us ur) ∧ free? W rr 0 26 = true ∧ free? W m 4 17 = true ∧ fok (tkC t us ur).toArray 26 = true ∧ (∀ j, W.frozen? ⟨m, j, none⟩ = false)
theorem QM.c {w W : World} {b0 bp rr m : Nat} {l : List UInt8} {k : Nat} {bad : Bool} {t : TK} {us ur : Value} (h : QM w W b0 bp rr m l k bad t us ur) : QMC W b0 bp rr m t us ur :=
  ⟨by rw [ObjAt.cell h.pp]; rfl, h.tk.ver, h.tk.resp, h.tk.rg, h.tk.quiet, h.tk.rob, h.tk.every, h.tk.us, h.tk.row, obj_free h.res (by simp), free_of fun j hj => by
    refine ⟨?_, ObjAt.free h.tk.1 (4 + j)⟩
    rw [ObjAt.cell h.tk.1 (4 + j), Array.getElem?_eq_getElem (by simp [tkC_length h.tk.2]; omega)]; rfl, fok_tk h.tk.2 h.src.1.one h.rcs.rcs.one, fun j => ObjAt.free h.tk.1 j⟩
def TalkQ (w W' : World) (b0 : Nat) (e : Int) (t : TK) (x : Ending) : Prop := ∃ us ur, x = .returned (.tuple #[.agg (tkC t us ur).toArray, .int .i64 e]) ∧ AdsT W' us t.src ∧ RcT W' ur t.rcs ∧ w.grownBy W' (some b0) ∧ adOk t.g
theorem QM.done {w W : World} {b0 bp rr m : Nat} {l : List UInt8} {k : Nat} {bad : Bool} {t : TK} {us ur : Value} (h : QM w W b0 bp rr m l k bad t us ur) : row? (aggW W rr (tkC t us ur)) rr 0 26 = some (tkC t us ur) ∧ AdsT (aggW W rr (tkC t us ur)) us t.src ∧ RcT (aggW W rr (tkC t us ur)) ur t.rcs ∧ w.grownBy (aggW W rr (tkC t us ur)) (some b0) ∧ adOk t.g :=
  ⟨aggW_row (obj_free h.res (by simp)) (tkC_length h.tk.2 _ _), h.src.far h.res (by decide) (aggW_grown _ _ _), h.rcs.far h.res (by decide) (by decide) (aggW_grown _ _ _), qbelow h.frm (aggW_below (Below.refl _ _) h.lr _), h.tk.2⟩
theorem P0T.qm {w W : World} {b0 : Nat} {l : List UInt8} {k : Nat} {bad : Bool} (h : P0T w W b0 l k bad) (t : TK) (ho : adOk t.g) (hs : t.src = []) (hr : t.rcs = []) : QM w (aggW (W.alloc (.cells zz26 28)) W.heap.size (tkC t (.slice none 0 0) (.slice none 0 0))) b0 w.heap.size (w.heap.size + 1) W.heap.size l k bad t (.slice none 0 0) (.slice none 0 0) := by
  have hm := TM.made (w := W) (t := t) (Below.refl _ _) ho (by rw [hs]; exact Ads.nil W) (by rw [hr]; exact Rcs.nil W)
  have h2 := h.below hm.blw
  have l1 := h.pb.pp.lt
  have l2 := h.res.lt
  exact ⟨h2.pb.rd, h2.pb.pp, h2.res, hm.tk, by rw [hs]; exact AdsT.nil _, by rw [hr]; exact RcT.nil _, h2.pb.frm, Nat.le_refl _, by omega, by omega, by omega, by omega, by omega, h2.pb.lt⟩
theorem pmember_any (ver kind : Int) (w : World) (b0 : Nat) (s : List UInt8) (hs : s.length ≤ 100000) (h8 : 8 ≤ s.length) (h : RdAt w b0 (s.drop 1) 1 false) :
    Calls Tryz.prog 208 #[pv b0, .int .i64 ver, .int .i64 kind] w fun x W' => TalkQ w W' b0 (if grp8 (fourL s 4) then 0 else 2) ⟨false, ver, kind, 0, fourL s 4, false, 0, 0, [], []⟩ x := by
  have H0 := zh (P0T.start h)
  have HT1 : Hid (∀ W, RdAt W b0 (s.drop 1) 1 false → Calls Tryz.prog 162 #[.pointer (some ⟨b0, 0, none⟩), .int .i64 1] W fun x w' => x = .returned (.string (Str ((s.drop 1).take 1))) ∧ RdAt w' b0 (s.drop 2) 2 false ∧ W.grownBy w' (some b0)) := zh fun W h => PTk b0 s 1 1 (by omega) (by omega) W h
  have HC : Hid (∀ W, RdAt W b0 (s.drop 2) 2 false → Calls Tryz.prog 220 #[pv b0] W fun x w' => x = .returned (.tuple #[]) ∧ RdAt w' b0 (s.drop 4) 4 false ∧ W.grownBy w' (some b0)) := zh fun W h => pchk_good b0 s 2 (by omega) (by omega) W h
  have HA : Hid (PAdr b0 (s.drop 4) 4 false (fourL s 4) (s.drop 8) 8 false) := zh (paddr_good b0 s 4 (by omega) (by omega))
  have hoa := fourL_ok s 4
  have hbk := bldr_vka ver kind (fourL s 4) hoa
  have hfk : fok (tkC ⟨false, ver, kind, 0, fourL s 4, false, 0, 0, [], []⟩ (.slice none 0 0) (.slice none 0 0)).toArray 26 = true := fok_tk hoa rfl rfl
  have HG := zh (fun W => group8_any (fourL s 4) hoa W)
  have HOA := zh hoa
  generalize fourL s 4 = a at *
  generalize grp8 a = g at *
  clear h hoa
  go_enter Tryz.func208, Tryz.ntmps208
  go_upto_region 1 with (fail)
  generalize (w.alloc (.cells #[.pointer (some ⟨b0, 0, none⟩)] 192)).alloc (.cells zz26 28) = W at H0 ⊢
  have c0 := H0.out.pb.c
  go_upto_region 2 with (go_at_call 162; (with_reducible refine (HT1.out _ H0.out.pb.rd).mono ?_); rintro x w2 ⟨rfl, h9, k9⟩; have H2 := zh (H0.out.call h9 k9); clear h9 k9 c0; have c0 := H2.out.pb.c)
  go_upto_region 3 with (go_at_call 220; (with_reducible refine (HC.out _ H2.out.pb.rd).mono ?_); rintro x w3 ⟨rfl, h9, k9⟩; have H3 := zh (H2.out.call h9 k9); clear h9 k9 c0; have c0 := H3.out.pb.c)
  have hfm := hfm26
  go_upto_region 4 with (go_at_call 221; (with_reducible refine (HA.out _ H3.out.pb.rd).mono ?_); rintro x w4 ⟨rfl, h9, k9⟩; have H4 := zh (H3.out.call h9 k9); clear h9 k9 c0; have c0 := H4.out.pb.c)
  have H5 := zh (H4.out.qm ⟨false, ver, kind, 0, a, false, 0, 0, [], []⟩ HOA.out rfl rfl)
  generalize aggW (w4.alloc (.cells zz26 28)) w4.heap.size _ = w5 at H5 ⊢
  generalize w4.heap.size = m at H5 ⊢
  clear hfm hfk hbk H0 H2 H3 H4 c0
  obtain ⟨k1, k2, k3, k4, k5, k6, k7, k8, k9, ka, kb, kc, kd⟩ := H5.out.c; (try simp only at k2 k3 k4 k5 k6 k7 k8)
  cases g with
  | false =>
    go_upto_region 5 with (go_at_call 118; (with_reducible refine (HG.out _).mono ?_); rintro x w6 ⟨rfl, hb⟩; have H6 := zh (H5.out.below hb); clear hb; clear k1 k2 k3 k4 k5 k6 k7 k8 k9 ka kb kc kd; obtain ⟨k1, k2, k3, k4, k5, k6, k7, k8, k9, ka, kb, kc, kd⟩ := H6.out.c; (try simp only at k2 k3 k4 k5 k6 k7 k8))
    repeat (first | go_values | go_skip | go_guarded | go_step | go_upon | go_in)
    obtain ⟨q1, q2, q3, q4, q5⟩ := H6.out.done
    exact bodyPost_ret (results_cell2 Tryz.results208 rfl (ld_some q1 (ldr_tk _ _ _))) rfl ⟨_, _, rfl, q2, q3, q4, q5⟩
  | true =>
    go_upto_region 6 with (go_at_call 118; (with_reducible refine (HG.out _).mono ?_); rintro x w6 ⟨rfl, hb⟩; have H6 := zh (H5.out.below hb); clear hb; clear k1 k2 k3 k4 k5 k6 k7 k8 k9 ka kb kc kd; obtain ⟨k1, k2, k3, k4, k5, k6, k7, k8, k9, ka, kb, kc, kd⟩ := H6.out.c; (try simp only at k2 k3 k4 k5 k6 k7 k8))
    repeat (first | go_values | go_skip | go_guarded | go_step | go_upon | go_in)
    obtain ⟨q1, q2, q3, q4, q5⟩ := H6.out.done
    exact bodyPost_ret (results_cell2 Tryz.results208 rfl (ld_some q1 (ldr_tk _ _ _))) rfl ⟨_, _, rfl, q2, q3, q4, q5⟩
end Go.Proofs.YtlbdehegknehiaaGreat


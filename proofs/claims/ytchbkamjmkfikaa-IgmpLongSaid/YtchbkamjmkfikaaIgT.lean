/-
  The contract of igmp's parser's report.
-/
import Derived.Test.YtchbkamjmkfikaaIgS
import Derived.Test.YtchbkamjmkfikaaIgD
namespace Go.Proofs.Ytchbkamjmkfikaa
open Go.RowKit
set_option linter.unusedVariables false
set_option linter.unusedSimpArgs false
attribute [local go_sem ↓] ld_addr st_addr bld_addr ld_rec st_rec bld_rec ld_tk st_tk bld_tk rcsLit_eq
attribute [local go_sem] ldr_addr str_addr str_addr_at ldr_rec str_rec ldr_tk str_tk row?_drew_eq

theorem RQ.far {base : Nat} {w w' : World} {v : Value} {q : List (RC × Value)} {m : Nat} {L : Array Value} {T : TypeId} (h : RQ base w v q) (hm : ObjAt w m L T) (h1 : T ≠ 25) (h2 : T ≠ 64) (hg : w.grownBy w' (some m)) : RQ base w' v q := by
  refine ⟨own_keep h.1 (fun g hgg => ?_), fun x hx => ?_⟩
  · have hne := row_ne h.1 hm h2.symm
    refine hg.block g ?_ (fun e => hne (by rw [hgg, e]))
    obtain ⟨_, q2 | ⟨g', cap, cur, q1, q2, q3, _⟩⟩ := h.1
    · rw [q2.1] at hgg; simp [Value.ownBlock] at hgg
    · rw [q1] at hgg; simp only [Value.ownBlock, Option.some.injEq] at hgg; subst hgg; exact (Array.getElem?_eq_some_iff.1 q3).1
  · obtain ⟨a, b, c⟩ := h.2 x hx
    have := AdsT.far (l := x.1.src) ⟨b, c⟩ hm h1 hg
    exact ⟨a, this.1, this.2⟩
/-- A report that bears records so far. -/
def repW (l : List RC) : TK := ⟨false, 3, 2, 0, zeroA, false, 0, 0, [], l⟩
/-- What report's closure works on. -/
structure TI (w W : World) (b0 bp m : Nat) (l : List UInt8) (k : Nat) (bad : Bool) (ur : Value) (q : List (RC × Value)) : Prop where
  rd : RdAt W b0 l k bad
  pp : ObjAt W bp #[.pointer (some ⟨b0, 0, none⟩)] 46
  res : ObjAt W (w.heap.size + 1) #[.bool false, .int .i64 0, .int .i64 0, .int .i64 0, .bool false, .int .u8 0, .int .u8 0, .int .u8 0, .int .u8 0, .int .u8 0, .int .u8 0, .int .u8 0, .int .u8 0, .int .u8 0, .int .u8 0, .int .u8 0, .int .u8 0, .int .u8 0, .int .u8 0, .int .u8 0, .int .u8 0, .bool false, .int .i64 0, .int .i64 0, .slice none 0 0, .slice none 0 0] 29
  tk : TkAt W m (repW (q.map Prod.fst)) (.slice none 0 0) ur
  rq : RQ w.heap.size W ur q
  frm : w.grownBy W (some b0)
  lp : w.heap.size ≤ bp
  lm : w.heap.size + 1 < m
  ne : bp ≠ m
  nr : bp ≠ w.heap.size + 1
  l0 : b0 < w.heap.size
theorem TI.below {w W W' : World} {b0 bp m : Nat} {l : List UInt8} {k : Nat} {bad : Bool} {ur : Value} {q : List (RC × Value)} (h : TI w W b0 bp m l k bad ur q) (hb : Below W.heap.size W W') : TI w W' b0 bp m l k bad ur q :=
  ⟨ObjAt.below h.rd hb (ObjAt.lt h.rd), h.pp.below hb h.pp.lt, h.res.below hb h.res.lt, h.tk.below hb, h.rq.below hb, qbelow h.frm (hb.mono h.frm.size), h.lp, h.lm, h.ne, h.nr, h.l0⟩
theorem TI.call {w W W' : World} {b0 bp m : Nat} {l l' : List UInt8} {k k' : Nat} {bad bad' : Bool} {ur : Value} {q : List (RC × Value)} (h : TI w W b0 bp m l k bad ur q) (hr : RdAt W' b0 l' k' bad') (hg : W.grownBy W' (some b0)) : TI w W' b0 bp m l' k' bad' ur q := by
  have l0 := h.l0; have lm := h.lm; have lp := h.lp
  exact ⟨hr, ObjAt.grown h.pp hg (by simp; omega), ObjAt.grown h.res hg (by simp; omega), ⟨ObjAt.grown h.tk.1 hg (by simp; omega), h.tk.2⟩, h.rq.far h.rd (by decide) (by decide) hg, gtrans h.frm hg, h.lp, h.lm, h.ne, h.nr, h.l0⟩
theorem TI.c {w W : World} {b0 bp m : Nat} {l : List UInt8} {k : Nat} {bad : Bool} {ur : Value} {q : List (RC × Value)} (h : TI w W b0 bp m l k bad ur q) : W.cell? ⟨bp, 0, none⟩ = some (.pointer (some ⟨b0, 0, none⟩)) ∧ W.cell? ⟨m, 25, none⟩ = some ur ∧ W.frozen? ⟨m, 25, none⟩ = false ∧ row? W m 0 26 = some (tkC (repW (q.map Prod.fst)) (.slice none 0 0) ur) ∧ free? W (w.heap.size + 1) 0 26 = true :=
  ⟨by rw [ObjAt.cell h.pp]; rfl, h.tk.ur, ObjAt.free h.tk.1 25, h.tk.row, obj_free h.res (by simp)⟩
/-- One more record is appended and stored. -/
theorem TI.app {w W W2 : World} {b0 bp m : Nat} {l : List UInt8} {k : Nat} {bad : Bool} {ur v' : Value} {q : List (RC × Value)} {r : RC} {u : Value} (h : TI w W b0 bp m l k bad ur q) (hr : adOk r.g ∧ Ads W u r.src ∧ AdT W u) (hown : W2.ownsRow w.heap.size 64 19 v' (q.length + 1) (rqC q ++ rcC r u)) (hg : W.grownBy W2 ur.ownBlock) :
    TI w (W2.setCell ⟨m, 25, none⟩ v') b0 bp m l k bad v' (q ++ [(r, u)]) ∧ (W2.cell? ⟨m, 25, none⟩ = some ur ∧ W2.frozen? ⟨m, 25, none⟩ = false) := by
  have l0 := h.l0; have lm := h.lm; have lp := h.lp
  have r1 := row_ne h.rq.1 h.rd (by decide)
  have r2 := row_ne h.rq.1 h.pp (by decide)
  have r3 := row_ne h.rq.1 h.res (by decide)
  have r4 := row_ne h.rq.1 h.tk.1 (by decide)
  have h1 := ObjAt.grown h.rd hg r1
  have h2 := ObjAt.grown h.pp hg r2
  have h3 := ObjAt.grown h.res hg r3
  have h4 : TkAt W2 m (repW (q.map Prod.fst)) (.slice none 0 0) ur := ⟨ObjAt.grown h.tk.1 hg r4, h.tk.2⟩
  have hq := RQ.snoc h.rq hr hown hg
  have hb : w.grownBy W2 (some b0) := by
    refine ⟨hg.os.trans h.frm.os, hg.tape.trans h.frm.tape, hg.output.trans h.frm.output, Nat.le_trans h.frm.size hg.size, fun i hi hne => ?_⟩
    refine (hg.block i (Nat.lt_of_lt_of_le hi h.frm.size) (fun e => ?_)).trans (h.frm.block i hi hne)
    obtain ⟨_, q2 | ⟨g', cap, cur, q1, q2, _⟩⟩ := h.rq.1
    · rw [q2.1] at e; simp [Value.ownBlock] at e
    · rw [q1] at e; simp only [Value.ownBlock, Option.some.injEq] at e; omega
  refine ⟨⟨ObjAt.other h1 _ _ (by simp; omega), ObjAt.other h2 _ _ (by simpa using h.ne), ObjAt.other h3 _ _ (by simp; omega), ⟨?_, zeroA_ok⟩, hq.far h4.1 (by decide) (by decide) (gset W2 m 25 v'), ?_, lp, lm, h.ne, h.nr, l0⟩, h4.ur, ObjAt.free h4.1 25⟩
  · have := ObjAt.set h4.1 25 v'
    rw [List.setIfInBounds_toArray, tkC_rcs (repW (q.map Prod.fst)) (.slice none 0 0) ur zeroA_ok v' ((q ++ [(r, u)]).map Prod.fst)] at this
    exact this
  · refine ⟨hb.os, hb.tape, hb.output, by simpa [World.setCell] using hb.size, fun i hi hne => ?_⟩
    exact (heap_setCell_other W2 ⟨m, 25, none⟩ i v' (by simp; omega)).trans (hb.block i hi hne)
/-- What report's closure tells. -/
def RepS (w W' : World) (b0 bp m : Nat) (s : List UInt8) (i : Nat) (q : List (RC × Value)) (x : Ending) : Prop := ∃ (e : Int) (ur' : Value) (q' : List (RC × Value)) (l' : List UInt8) (k' : Nat) (bad' : Bool), x = .returned (.int .i64 e) ∧ e = recQE s i ∧ TI w W' b0 bp m l' k' bad' ur' q' ∧ (e = 0 → q'.map Prod.fst = (if rcOk (rec1 s i) then q.map Prod.fst ++ [rec1 s i] else q.map Prod.fst) ∧ l' = s.drop (recN s i) ∧ k' = recN s i ∧ bad' = false)
set_option maxRecDepth 100000 in
set_option maxHeartbeats 4000000 in
theorem rep1_any (w W : World) (b0 bp m : Nat) (s : List UInt8) (i : Nat) (ur : Value) (q : List (RC × Value)) (hs : s.length ≤ 100000) (hi : i ≤ s.length) (hq : q.length ≤ 64) (h : TI w W b0 bp m (s.drop i) i false ur q) :
    Calls Try.prog 57 #[.pointer (some ⟨bp, 0, none⟩), .pointer (some ⟨m, 0, none⟩)] W fun x W' => RepS w W' b0 bp m s i q x := by
  have H0 := Lib.hid h
  have HRC := Lib.hid (precord_any b0 s i hs hi W h.rd)
  obtain ⟨i0, hi0, hz0, hz1, hz2⟩ := info_parts info_rec
  have hfm : ∀ W : World, free? (W.alloc (.cells #[.int .i64 0, .bool false, .int .u8 0, .int .u8 0, .int .u8 0, .int .u8 0, .int .u8 0, .int .u8 0, .int .u8 0, .int .u8 0, .int .u8 0, .int .u8 0, .int .u8 0, .int .u8 0, .int .u8 0, .int .u8 0, .int .u8 0, .int .u8 0, .slice none 0 0] 64)) W.heap.size 0 19 = true := fun W => free_made W _ _ 19 (by simp)
  obtain ⟨k1, k2, k3, k4, k5⟩ := h.c
  clear h
  go_enter Try.func57, Try.ntmps57
  go_upto_region 1 with (fail)
  -- the record: its parts are letters
  have HF : Hid (∀ (r : RC) (u : Value), adOk r.g → u.oneCell' = true → fok (rcC r u).toArray 19 = true) := Lib.hid fun r u h1 h2 => fok_rec h1 h2
  go_upto_region 2 with (go_at_call 58; (with_reducible refine (HRC.out).mono ?_); rintro x w1 ⟨r, u, e, l1, kk1, b1, rfl, he, ho, hv, hrd, hgr, h0⟩; obtain ⟨pv, cv, hvv, _, _⟩ := hv.1.len; subst hvv; have hfk := HF.out r (.slice pv r.src.length cv) ho rfl; have H1 := Lib.hid (H0.out.call hrd hgr); have HV1 := Lib.hid hv; have HE := Lib.hid he; have HO := Lib.hid ho; have HZ := Lib.hid h0; clear hrd hgr hv he ho h0)
  have HBX : Hid (ObjAt (aggW (w1.alloc (.cells #[.int .i64 0, .bool false, .int .u8 0, .int .u8 0, .int .u8 0, .int .u8 0, .int .u8 0, .int .u8 0, .int .u8 0, .int .u8 0, .int .u8 0, .int .u8 0, .int .u8 0, .int .u8 0, .int .u8 0, .int .u8 0, .int .u8 0, .int .u8 0, .slice none 0 0] 64)) w1.heap.size (rcC r (.slice pv r.src.length cv))) w1.heap.size (rcC r (.slice pv r.src.length cv)).toArray 64 ∧ Below w1.heap.size w1 (aggW (w1.alloc (.cells #[.int .i64 0, .bool false, .int .u8 0, .int .u8 0, .int .u8 0, .int .u8 0, .int .u8 0, .int .u8 0, .int .u8 0, .int .u8 0, .int .u8 0, .int .u8 0, .int .u8 0, .int .u8 0, .int .u8 0, .int .u8 0, .int .u8 0, .int .u8 0, .slice none 0 0] 64)) w1.heap.size (rcC r (.slice pv r.src.length cv)))) := Lib.hid ⟨aggW_obj (L := (#[.int .i64 0, .bool false, .int .u8 0, .int .u8 0, .int .u8 0, .int .u8 0, .int .u8 0, .int .u8 0, .int .u8 0, .int .u8 0, .int .u8 0, .int .u8 0, .int .u8 0, .int .u8 0, .int .u8 0, .int .u8 0, .int .u8 0, .int .u8 0, .slice none 0 0] : Array Value).toList) (by simpa using ObjAt.made w1 #[.int .i64 0, .bool false, .int .u8 0, .int .u8 0, .int .u8 0, .int .u8 0, .int .u8 0, .int .u8 0, .int .u8 0, .int .u8 0, .int .u8 0, .int .u8 0, .int .u8 0, .int .u8 0, .int .u8 0, .int .u8 0, .int .u8 0, .int .u8 0, .slice none 0 0] 64) (by rw [rcC_length HO.out]; rfl) (rcC_one rfl), aggW_below ((Below.refl _ _).alloc (Nat.le_refl _) _) (Nat.le_refl _) _⟩
  generalize aggW (w1.alloc (.cells #[.int .i64 0, .bool false, .int .u8 0, .int .u8 0, .int .u8 0, .int .u8 0, .int .u8 0, .int .u8 0, .int .u8 0, .int .u8 0, .int .u8 0, .int .u8 0, .int .u8 0, .int .u8 0, .int .u8 0, .int .u8 0, .int .u8 0, .int .u8 0, .slice none 0 0] 64)) w1.heap.size _ = W2 at HBX ⊢
  have H2 := Lib.hid (H1.out.below HBX.out.2)
  have HV2 := Lib.hid (HV1.out.below HBX.out.2)
  have HVA := Lib.hid HV2.out.1
  have HX2 := Lib.hid HBX.out.1
  generalize w1.heap.size = xb at HX2 ⊢
  clear k1 k2 k3 k4 k5 hfm hfk HBX H1 HV1
  obtain ⟨k1, k2, k3, k4, k5⟩ := H2.out.c
  have HROW : Hid (∀ W, ObjAt W xb (rcC r (.slice pv r.src.length cv)).toArray 64 → row? W xb 0 19 = some (rcC r (.slice pv r.src.length cv))) := Lib.hid fun W hW => obj_rowk (A := []) (M := rcC r (.slice pv r.src.length cv)) (C := []) (by simpa using hW) rfl (rcC_length HO.out _)
  have hrow := HROW.out _ HX2.out
  by_cases hez : e = 0
  · obtain ⟨z1, z2, z3, z4⟩ := HZ.out hez
    have HEZ := Lib.hid hez
    have te : (e == 0) = true := by simp [hez]
    have HZ1 := Lib.hid z1
    have HZ2 := Lib.hid (And.intro z2 (And.intro z3 z4))
    clear z1 z2 z3 z4 hez
    have HGR : Hid (∀ W, Ads W (.slice pv r.src.length cv) r.src → Calls Try.prog 59 #[.agg (rcC r (.slice pv r.src.length cv)).toArray] W fun x w' => x = .returned (.bool (rcOk r)) ∧ Below W.heap.size W w') := Lib.hid fun W ha => record8_any r (.slice pv r.src.length cv) W HO.out ha
    cases hok : rcOk r with
    | false =>
      rw [hok] at HGR
      have HOK := Lib.hid hok
      clear hok
      go_wp2_with (go_at_call 59; (with_reducible refine (HGR.out _ HVA.out).mono ?_); rintro x w3 ⟨rfl, h9⟩; have H3 := Lib.hid (H2.out.below h9); clear h9)
      go_ret
      exact ⟨e, _, _, _, _, _, rfl, HE.out, H3.out, fun _ => ⟨by rw [← HZ1.out, HOK.out]; rfl, HZ2.out⟩⟩
    | true =>
      rw [hok] at HGR
      have HOK := Lib.hid hok
      have hlit := rcsLit_run r HO.out pv r.src.length cv
      have hl19 := rcC_length (r := r) HO.out (.slice pv r.src.length cv)
      have h1c : ∀ u ∈ rcC r (.slice pv r.src.length cv), u.oneCell' = true := rcC_one rfl
      obtain ⟨pu, cu, eur⟩ := own_slice8 H2.out.rq.1
      subst eur
      clear hok
      go_upto_region 4 with (first
        | (go_at_call 59; (with_reducible refine (HGR.out _ HVA.out).mono ?_); rintro x w3 ⟨rfl, h9⟩; have H3 := Lib.hid (H2.out.below h9); have HV3 := Lib.hid (HV2.out.below h9); have hrow3 := HROW.out _ (HX2.out.below h9 HX2.out.lt); clear h9 k1 k2 k3 k4 k5 hrow; obtain ⟨k1, k2, k3, k4, k5⟩ := H3.out.c; have hba := (Below.refl w3.heap.size w3).alloc (Nat.le_refl _) (.cells (rcC r (.slice pv r.src.length cv)).toArray 64); have H4 := Lib.hid (H3.out.below hba); have HV4 := Lib.hid (HV3.out.below hba); have hown := H4.out.rq.1; have hz := H4.out.frm.size; clear hba)
        | (at_builtin; refine wpList_append_own _ rfl _ _ 27 rfl w.heap.size 64 i0 (.agg #[.int .i64 0, .bool false, .int .u8 0, .int .u8 0, .int .u8 0, .int .u8 0, .int .u8 0, .int .u8 0, .int .u8 0, .int .u8 0, .int .u8 0, .int .u8 0, .int .u8 0, .int .u8 0, .int .u8 0, .int .u8 0, .int .u8 0, .int .u8 0, .slice none 0 0]) 19 56 Try.underlying27 hi0 hz0 hz1 hz2 rfl (by decide) _ _ _ rfl hown ⟨w3.heap.size, 0, none⟩ 1 1 (rcC r (.slice pv r.src.length cv)) rfl hl19 (World.news_of_block (heap_alloc_new w3 _)) h1c (by unfold maxLen; omega) (by omega) (by simpa using hz) ?_; intro v' w5 hown' hgrow hnil; obtain ⟨pw, cw, ew⟩ := own_slice8 hown'; subst ew; have HH := H4.out.app ⟨HO.out, HV4.out.1, HV4.out.2⟩ hown' hgrow; have H5 := Lib.hid HH.1; obtain ⟨kc, kf⟩ := HH.2; clear HH hown' hgrow hnil hown hz hl19 h1c))
      generalize World.setCell w5 _ _ = w6 at H5 ⊢
      go_wp2
      go_ret
      exact ⟨e, _, _, _, _, _, rfl, HE.out, H5.out, fun _ => ⟨by rw [List.map_append, ← HZ1.out, HOK.out]; rfl, HZ2.out⟩⟩
  · have te : (e == 0) = false := by simpa using hez
    have HNE := Lib.hid hez
    clear hez
    go_wp2
    go_ret
    exact ⟨e, _, _, _, _, _, rfl, HE.out, H2.out, fun h => absurd h HNE.out⟩

/-- The parser boxed, the result's block behind it. -/
structure P0T (w W : World) (b0 : Nat) (l : List UInt8) (k : Nat) (bad : Bool) : Prop where
  pb : PB w W b0 l k bad
  res : ObjAt W (w.heap.size + 1) #[.bool false, .int .i64 0, .int .i64 0, .int .i64 0, .bool false, .int .u8 0, .int .u8 0, .int .u8 0, .int .u8 0, .int .u8 0, .int .u8 0, .int .u8 0, .int .u8 0, .int .u8 0, .int .u8 0, .int .u8 0, .int .u8 0, .int .u8 0, .int .u8 0, .int .u8 0, .int .u8 0, .bool false, .int .i64 0, .int .i64 0, .slice none 0 0, .slice none 0 0] 29
theorem P0T.start {w : World} {b0 : Nat} {l : List UInt8} {k : Nat} {bad : Bool} (h : RdAt w b0 l k bad) : P0T w ((w.alloc (.cells #[.pointer (some ⟨b0, 0, none⟩)] 46)).alloc (.cells #[.bool false, .int .i64 0, .int .i64 0, .int .i64 0, .bool false, .int .u8 0, .int .u8 0, .int .u8 0, .int .u8 0, .int .u8 0, .int .u8 0, .int .u8 0, .int .u8 0, .int .u8 0, .int .u8 0, .int .u8 0, .int .u8 0, .int .u8 0, .int .u8 0, .int .u8 0, .int .u8 0, .bool false, .int .i64 0, .int .i64 0, .slice none 0 0, .slice none 0 0] 29)) b0 l k bad := by
  refine ⟨(PB.start h).below ((Below.refl _ _).alloc (Nat.le_refl _) _), ?_⟩
  have := ObjAt.made (w.alloc (.cells #[.pointer (some ⟨b0, 0, none⟩)] 46)) #[.bool false, .int .i64 0, .int .i64 0, .int .i64 0, .bool false, .int .u8 0, .int .u8 0, .int .u8 0, .int .u8 0, .int .u8 0, .int .u8 0, .int .u8 0, .int .u8 0, .int .u8 0, .int .u8 0, .int .u8 0, .int .u8 0, .int .u8 0, .int .u8 0, .int .u8 0, .int .u8 0, .bool false, .int .i64 0, .int .i64 0, .slice none 0 0, .slice none 0 0] 29
  rw [show (w.alloc (.cells #[.pointer (some ⟨b0, 0, none⟩)] 46)).heap.size = w.heap.size + 1 by simp] at this
  exact this
theorem P0T.call {w W W' : World} {b0 : Nat} {l l' : List UInt8} {k k' : Nat} {bad bad' : Bool} (h : P0T w W b0 l k bad) (hr : RdAt W' b0 l' k' bad') (hg : W.grownBy W' (some b0)) : P0T w W' b0 l' k' bad' :=
  ⟨h.pb.call hr hg, ObjAt.grown h.res hg (by have := h.pb.lt; simp; omega)⟩
theorem P0T.below {w W W' : World} {b0 : Nat} {l : List UInt8} {k : Nat} {bad : Bool} (h : P0T w W b0 l k bad) (hb : Below W.heap.size W W') : P0T w W' b0 l k bad := ⟨h.pb.below hb, h.res.below hb h.res.lt⟩
theorem P0T.rep {w W : World} {b0 : Nat} {l : List UInt8} {k : Nat} {bad : Bool} (h : P0T w W b0 l k bad) : TI w (aggW (W.alloc (.cells #[.bool false, .int .i64 0, .int .i64 0, .int .i64 0, .bool false, .int .u8 0, .int .u8 0, .int .u8 0, .int .u8 0, .int .u8 0, .int .u8 0, .int .u8 0, .int .u8 0, .int .u8 0, .int .u8 0, .int .u8 0, .int .u8 0, .int .u8 0, .int .u8 0, .int .u8 0, .int .u8 0, .bool false, .int .i64 0, .int .i64 0, .slice none 0 0, .slice none 0 0] 29)) W.heap.size (tkC (repW []) (.slice none 0 0) (.slice none 0 0))) b0 w.heap.size W.heap.size l k bad (.slice none 0 0) [] := by
  have hm := TM.made (w := W) (t := repW []) (Below.refl _ _) zeroA_ok (Ads.nil W) (Rcs.nil W)
  have h2 := h.below hm.blw
  have l1 := h.pb.pp.lt
  have l2 := h.res.lt
  exact ⟨h2.pb.rd, h2.pb.pp, h2.res, hm.tk, ⟨⟨rfl, Or.inl ⟨rfl, rfl⟩⟩, fun x hx => by cases hx⟩, h2.pb.frm, Nat.le_refl _, l2, by omega, by omega, h2.pb.lt⟩
theorem TI.done {w W : World} {b0 bp m : Nat} {l : List UInt8} {k : Nat} {bad : Bool} {ur : Value} {q : List (RC × Value)} (h : TI w W b0 bp m l k bad ur q) :
    row? (aggW W (w.heap.size + 1) (tkC (repW (q.map Prod.fst)) (.slice none 0 0) ur)) (w.heap.size + 1) 0 26 = some (tkC (repW (q.map Prod.fst)) (.slice none 0 0) ur) ∧ RdAt (aggW W (w.heap.size + 1) (tkC (repW (q.map Prod.fst)) (.slice none 0 0) ur)) b0 l k bad ∧ w.grownBy (aggW W (w.heap.size + 1) (tkC (repW (q.map Prod.fst)) (.slice none 0 0) ur)) (some b0) ∧ RcT (aggW W (w.heap.size + 1) (tkC (repW (q.map Prod.fst)) (.slice none 0 0) ur)) ur (q.map Prod.fst) :=
  ⟨aggW_row (obj_free h.res (by simp)) (tkC_length zeroA_ok _ _), aggW_other h.rd _ (by have := h.l0; omega), qbelow h.frm (aggW_below (Below.refl _ _) (by omega) _), ⟨_, q, h.rq.far h.res (by decide) (by decide) (aggW_grown _ _ _), rfl⟩⟩
theorem PTk (b0 : Nat) (s : List UInt8) (i n : Nat) (hi : i + n ≤ s.length) (hl : s.length ≤ 1000000) (W : World) (h : RdAt W b0 (s.drop i) i false) : Calls Try.prog 55 #[.pointer (some ⟨b0, 0, none⟩), .int .i64 n] W fun x w' => x = .returned (.string (Str ((s.drop i).take n))) ∧ RdAt w' b0 (s.drop (i + n)) (i + n) false ∧ W.grownBy w' (some b0) := by
  have := take_any b0 (s.drop i) i false n (by simp; omega) (by omega) W h
  obtain ⟨e1, e2, e3, e4⟩ := rd_good (l := s.drop i) (n := n) (k := i) (by simp; omega)
  rw [e1, e2, e3, e4, List.drop_drop] at this
  exact this
theorem pchk_good (b0 : Nat) (s : List UInt8) (i : Nat) (hi : i + 2 ≤ s.length) (hl : s.length ≤ 1000000) (W : World) (h : RdAt W b0 (s.drop i) i false) : Calls Try.prog 50 #[pv b0] W fun x w' => x = .returned (.tuple #[]) ∧ RdAt w' b0 (s.drop (i + 2)) (i + 2) false ∧ W.grownBy w' (some b0) := by
  have := pchk_any b0 (s.drop i) i false (by simp; omega) (by omega) W h
  obtain ⟨e1, e2, e3, e4⟩ := rd_good (l := s.drop i) (n := 2) (k := i) (by simp; omega)
  rw [show leftV (s.drop i) false 2 = (s.drop i).drop 2 from e2, show pastV (s.drop i) false 2 i = i + 2 from e3, show badV (s.drop i) false 2 = false from e4, List.drop_drop] at this
  exact this
/-- What report tells. -/
def RepQ (w W' : World) (b0 : Nat) (s : List UInt8) (x : Ending) : Prop := ∃ (e : Int) (ur : Value) (rcs : List RC), x = .returned (.tuple #[.agg (tkC (repW rcs) (.slice none 0 0) ur).toArray, .int .i64 e]) ∧ e = recE s ∧ RcT W' ur rcs ∧ w.grownBy W' (some b0) ∧ (e = 0 → rcs = (recL s 8 (wd s 6)).1)
/-- What report's loop comes to. -/
def EachQ (w W' : World) (b0 bp m : Nat) (s : List UInt8) (x : Ending) : Prop := ∃ (e : Int) (ur : Value) (q : List (RC × Value)) (l' : List UInt8) (k' : Nat) (bad' : Bool), x = .returned (.int .i64 e) ∧ e = recE s ∧ TI w W' b0 bp m l' k' bad' ur q ∧ (e = 0 → q.map Prod.fst = (recL s 8 (wd s 6)).1)
theorem rep_each (w W : World) (b0 bp m : Nat) (s : List UInt8) (hs : s.length ≤ 100000) (h8 : 8 ≤ s.length) (h : TI w W b0 bp m (s.drop 8) 8 false (.slice none 0 0) []) :
    Calls Try.prog 56 #[.int .i64 (wd s 6 : Nat), .int .i64 64, .func (.func 57) #[] #[.pointer (some ⟨bp, 0, none⟩), .pointer (some ⟨m, 0, none⟩)]] W fun x W' => EachQ w W' b0 bp m s x := by
  have hw := wd_lt s 6 (by omega)
  obtain ⟨n, hn⟩ : ∃ n, n = wd s 6 := ⟨_, rfl⟩
  rw [← hn] at hw ⊢
  by_cases hl : 64 < n
  · refine (each_long _ n hl (by omega) W).mono ?_
    rintro x W' ⟨rfl, rfl⟩
    exact ⟨6, _, _, _, _, _, rfl, by unfold recE; rw [← hn, if_pos hl], h, fun h => by cases h⟩
  · refine (each_any 57 _ (enters_of Try.func57 (by kernel_rfl) rfl) n (by omega)
      (fun j W => ∃ i ur q, i ≤ s.length ∧ q.length ≤ j ∧ TI w W b0 bp m (s.drop i) i false ur q ∧ RS s n i (n - j) (q.map Prod.fst))
      (fun e W => e = (recL s 8 n).2 ∧ ∃ ur q l' k' bad', TI w W b0 bp m l' k' bad' ur q) W ⟨8, _, [], h8, by simp, h, by simpa using RS.start s n⟩ ?_).mono ?_
    · intro j W2 hj ⟨i, ur, q, hi, hq, hT, hR⟩
      rw [show n - j = (n - (j + 1)) + 1 by omega] at hR
      refine (rep1_any w W2 b0 bp m s i ur q hs hi (by omega) hT).mono ?_
      rintro x W3 ⟨e, ur', q', l', k', bad', rfl, he, hT', h0⟩
      refine ⟨e, rfl, fun hz => ?_, fun hnz => ⟨?_, _, _, _, _, _, hT'⟩⟩
      · obtain ⟨z1, rfl, rfl, rfl⟩ := h0 hz
        have hE : recQE s i = 0 := by rw [← he]; exact hz
        unfold recQE at hE
        by_cases a1 : s.length < i + 8
        · rw [if_pos a1] at hE; cases hE
        rw [if_neg a1] at hE
        by_cases a2 : srcsE s (i + 8) (wd s (i + 2)) = 0
        · rw [if_neg (by rw [a2]; simp)] at hE
          by_cases a3 : s.length < recN s i
          · rw [if_pos a3] at hE; cases hE
          refine ⟨recN s i, ur', q', by omega, ?_, hT', ?_⟩
          · have := congrArg List.length z1
            rw [List.length_map] at this
            rw [this]
            split <;> simp <;> omega
          · have := RS.step hR a1 a2 a3
            rw [z1]; exact this
        · rw [if_pos a2] at hE; exact absurd hE a2
      · have hE : recQE s i ≠ 0 := by rw [← he]; exact hnz
        rw [he]
        unfold recQE at hE ⊢
        by_cases a1 : s.length < i + 8
        · rw [if_pos a1]; exact (RS.short hR a1).symm
        rw [if_neg a1] at hE ⊢
        by_cases a2 : srcsE s (i + 8) (wd s (i + 2)) = 0
        · rw [if_neg (by rw [a2]; simp)] at hE ⊢
          by_cases a3 : s.length < recN s i
          · rw [if_pos a3]; exact (RS.ends hR a1 a2 a3).symm
          · rw [if_neg a3] at hE; exact absurd rfl hE
        · rw [if_pos a2]; exact (RS.srcs hR a1 a2).symm
    · rintro x W' ⟨e, rfl, h1, h2⟩
      by_cases he : e = 0
      · obtain ⟨i, ur, q, hi, hq, hT, hR⟩ := h1 he
        rw [Nat.sub_self] at hR
        have hd := RS.done hR
        exact ⟨e, ur, q, _, _, _, rfl, by unfold recE; rw [← hn, if_neg hl, hd]; exact he, hT, fun _ => by rw [← hn, hd]⟩
      · obtain ⟨h3, ur, q, l', k', bad', hT⟩ := h2 he
        exact ⟨e, ur, q, _, _, _, rfl, by unfold recE; rw [← hn, if_neg hl]; exact h3, hT, fun h => absurd h he⟩
set_option maxRecDepth 100000 in
set_option maxHeartbeats 4000000 in
theorem preport_any (w : World) (b0 : Nat) (s : List UInt8) (hs : s.length ≤ 100000) (h8 : 8 ≤ s.length) (h : RdAt w b0 (s.drop 1) 1 false) :
    Calls Try.prog 19 #[pv b0] w fun x W' => RepQ w W' b0 s x := by
  have H0 := Lib.hid (P0T.start h)
  have HT1 : Hid (∀ W, RdAt W b0 (s.drop 1) 1 false → Calls Try.prog 55 #[.pointer (some ⟨b0, 0, none⟩), .int .i64 1] W fun x w' => x = .returned (.string (Str ((s.drop 1).take 1))) ∧ RdAt w' b0 (s.drop 2) 2 false ∧ W.grownBy w' (some b0)) := Lib.hid fun W h => PTk b0 s 1 1 (by omega) (by omega) W h
  have HC : Hid (∀ W, RdAt W b0 (s.drop 2) 2 false → Calls Try.prog 50 #[pv b0] W fun x w' => x = .returned (.tuple #[]) ∧ RdAt w' b0 (s.drop 4) 4 false ∧ W.grownBy w' (some b0)) := Lib.hid fun W h => pchk_good b0 s 2 (by omega) (by omega) W h
  have HT2 : Hid (∀ W, RdAt W b0 (s.drop 4) 4 false → Calls Try.prog 55 #[.pointer (some ⟨b0, 0, none⟩), .int .i64 2] W fun x w' => x = .returned (.string (Str ((s.drop 4).take 2))) ∧ RdAt w' b0 (s.drop 6) 6 false ∧ W.grownBy w' (some b0)) := Lib.hid fun W h => PTk b0 s 4 2 (by omega) (by omega) W h
  have HN : Hid (PNum b0 (s.drop 6) 6 false 2 (wd s 6) (s.drop 8) 8 false) := Lib.hid (pnum_good b0 s 6 2 (by omega) (by omega) (by omega))
  have HE := Lib.hid (fun W m h => rep_each w W b0 w.heap.size m s hs h8 h)
  have hbk := bldr_tkvk 3 2
  have hfk : fok (tkC (repW []) (.slice none 0 0) (.slice none 0 0)).toArray 26 = true := fok_tk zeroA_ok rfl rfl
  have HFK : Hid (∀ (q : List (RC × Value)) (p : Option Addr) (n c : Nat), fok (tkC (repW (q.map Prod.fst)) (.slice none 0 0) (.slice p n c)).toArray 26 = true) := Lib.hid fun q p n c => fok_tk zeroA_ok rfl rfl
  have hmf : ∀ (fn : Fn) (first cap : Array Value) (w : World), (Instr.makeFunc fn first cap).run Try.prog w = .ok (.func fn first cap) w := fun _ _ _ _ => rfl
  change ∀ w0, (aggBuild 29 #[(1, .int .i64 3), (2, .int .i64 2)]).run Try.prog w0 = .ok (.agg (tkC (repW []) (.slice none 0 0) (.slice none 0 0)).toArray) w0 at hbk
  clear h
  go_enter Try.func19, Try.ntmps19
  go_upto_region 1 with (fail)
  generalize (w.alloc (.cells #[.pointer (some ⟨b0, 0, none⟩)] 46)).alloc (.cells #[.bool false, .int .i64 0, .int .i64 0, .int .i64 0, .bool false, .int .u8 0, .int .u8 0, .int .u8 0, .int .u8 0, .int .u8 0, .int .u8 0, .int .u8 0, .int .u8 0, .int .u8 0, .int .u8 0, .int .u8 0, .int .u8 0, .int .u8 0, .int .u8 0, .int .u8 0, .int .u8 0, .bool false, .int .i64 0, .int .i64 0, .slice none 0 0, .slice none 0 0] 29) = W at H0 ⊢
  have hfm := hfm26 W
  have H1 := Lib.hid (H0.out.rep)
  go_upto_region 2 with (fail)
  generalize aggW (W.alloc (.cells #[.bool false, .int .i64 0, .int .i64 0, .int .i64 0, .bool false, .int .u8 0, .int .u8 0, .int .u8 0, .int .u8 0, .int .u8 0, .int .u8 0, .int .u8 0, .int .u8 0, .int .u8 0, .int .u8 0, .int .u8 0, .int .u8 0, .int .u8 0, .int .u8 0, .int .u8 0, .int .u8 0, .bool false, .int .i64 0, .int .i64 0, .slice none 0 0, .slice none 0 0] 29)) W.heap.size _ = W1 at H1 ⊢
  generalize W.heap.size = m at H1 ⊢
  clear hfm hfk hbk H0
  obtain ⟨k1, k2, k3, k4, k5⟩ := H1.out.c
  go_upto_region 3 with (go_at_call 55; (with_reducible refine (HT1.out _ H1.out.rd).mono ?_); rintro x w2 ⟨rfl, h9, k9⟩; have H2 := Lib.hid (H1.out.call h9 k9); clear h9 k9 k1 k2 k3 k4 k5; obtain ⟨k1, k2, k3, k4, k5⟩ := H2.out.c)
  go_upto_region 4 with (go_at_call 50; (with_reducible refine (HC.out _ H2.out.rd).mono ?_); rintro x w3 ⟨rfl, h9, k9⟩; have H3 := Lib.hid (H2.out.call h9 k9); clear h9 k9 k1 k2 k3 k4 k5; obtain ⟨k1, k2, k3, k4, k5⟩ := H3.out.c)
  go_upto_region 5 with (go_at_call 55; (with_reducible refine (HT2.out _ H3.out.rd).mono ?_); rintro x w4 ⟨rfl, h9, k9⟩; have H4 := Lib.hid (H3.out.call h9 k9); clear h9 k9 k1 k2 k3 k4 k5; obtain ⟨k1, k2, k3, k4, k5⟩ := H4.out.c)
  go_upto_region 6 with (first
    | (go_at_call 16; (with_reducible refine (HN.out _ H4.out.rd).mono ?_); rintro x w5 ⟨rfl, h9, k9⟩; have H5 := Lib.hid (H4.out.call h9 k9); clear h9 k9 k1 k2 k3 k4 k5; obtain ⟨k1, k2, k3, k4, k5⟩ := H5.out.c)
    | (go_at_call 56; (with_reducible refine (HE.out _ _ H5.out).mono ?_); rintro x w6 ⟨e, ur, q, l', kk', bad', rfl, he, hT, h0⟩; obtain ⟨pu, cu, eu⟩ := own_slice8 hT.rq.1; subst eu; have H6 := Lib.hid hT; have HQ := Lib.hid (And.intro he h0); clear hT he h0 k1 k2 k3 k4 k5; obtain ⟨k1, k2, k3, k4, k5⟩ := H6.out.c; have hfk := HFK.out q pu q.length cu))
  repeat (first | go_values | go_skip | go_guarded | go_step | go_upon | go_in)
  obtain ⟨q1, q2, q3, q4⟩ := H6.out.done
  exact bodyPost_ret (results_cell2 Try.results19 rfl (ld_some q1 (ldr_tk _ _ _))) rfl ⟨e, _, _, rfl, HQ.out.1, q4, q3, HQ.out.2⟩
end Go.Proofs.Ytchbkamjmkfikaa

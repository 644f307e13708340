/-
  Texts joined: MgS, MgM, MgN, MgO, MgU, MgV, MgX, MgY, MgW, MgZ.
-/
import Derived.Test.YtlbdehegknehiaaGreatMg00
import Derived.Test.YtlbdehegknehiaaGreatMg23
import Derived.Test.YtlbdehegknehiaaGreatMgD
import Derived.Test.YtlbdehegknehiaaGreatMg13
import Derived.Test.YtlbdehegknehiaaGreatMg02
import Derived.Test.YtlbdehegknehiaaGreatChecked
import Derived.Lib.FrozenHead
import Derived.Deep.RegionHeld3
import Derived.Deep.Cut
import Derived.BigQuiet
import Derived.LoopTactic
import Derived.Deep.QuietTactic
import Derived.Test.YtlbdehegknehiaaGreatMgA
import Derived.Test.YtlbdehegknehiaaGreatMg08
import Derived.Test.YtlbdehegknehiaaGreatCodP
import Derived.Test.YtlbdehegknehiaaGreatMg16
/- A part of the proof. -/
namespace Go.Proofs.YtlbdehegknehiaaGreat
open Go.RowKit
set_option linter.unusedVariables false
set_option linter.unusedSimpArgs false
attribute [local go_sem ↓] ld_addr st_addr bld_addr ld_rec st_rec bld_rec ld_tk st_tk bld_tk rcsLit_eq
attribute [local go_sem] ldr_addr str_addr str_addr_at ldr_rec str_rec ldr_tk str_tk row?_drew_eq
theorem RQ.far9 {base : Nat} {w w' : World} {v : Value} {q : List (RC × Value)} {m : Nat} {L : Array Value} {T : TypeId} (h : RQ base w v q) (hm : ObjAt w m L T) (h1 : T ≠ 24) (h2 : T ≠ 109) (hg : w.grownBy w' (some m)) : RQ base w' v q := by
  refine ⟨own_keep9 h.1 (fun g hgg => ?_), fun x hx => ?_⟩
  · have hne := row_ne9 h.1 hm h2.symm
    refine hg.block g ?_ (fun e => hne (by rw [hgg, e]))
    obtain ⟨_, q2 | ⟨g', cap, cur, q1, q2, q3, _⟩⟩ := h.1
    · rw [q2.1] at hgg; simp [Value.ownBlock] at hgg
    · rw [q1] at hgg; simp only [Value.ownBlock, Option.some.injEq] at hgg; subst hgg; exact (Array.getElem?_eq_some_iff.1 q3).1
  · obtain ⟨a, b, c⟩ := h.2 x hx
    have := AdsT.far9 (l := x.1.src) ⟨b, c⟩ hm h1 hg
    exact ⟨a, this.1, this.2⟩
def rep9W (l : List RC) : TK := ⟨true, 2, 2, 0, zeroA, false, 0, 0, [], l⟩
structure TI9 (w W : World) (b0 m : Nat) (l : List UInt8) (k : Nat) (bad : Bool) (ur : Value) (q : List (RC × Value)) : Prop where
  rd : RdAt W b0 l k bad
  res : ObjAt W w.heap.size zz26 28
  tk : TkAt W m (rep9W (q.map Prod.fst)) (.slice none 0 0) ur
  rq : RQ w.heap.size W ur q
  frm : w.grownBy W (some b0)
  lm : w.heap.size < m
  l0 : b0 < w.heap.size
theorem TI9.below {w W : World} {b0 m : Nat} {l : List UInt8} {k : Nat} {bad : Bool} {ur : Value} {q : List (RC × Value)} {W' : World} (h : TI9 w W b0 m l k bad ur q) (hb : Below W.heap.size W W') : TI9 w W' b0 m l k bad ur q :=
  ⟨ObjAt.below h.rd hb (ObjAt.lt h.rd), h.res.below hb h.res.lt, h.tk.below hb, h.rq.below hb, qbelow h.frm (hb.mono h.frm.size), h.lm, h.l0⟩
theorem TI9.call {w W : World} {b0 m : Nat} {l : List UInt8} {k : Nat} {bad : Bool} {ur : Value} {q : List (RC × Value)} {W' : World} {l' : List UInt8} {k' : Nat} {bad' : Bool} (h : TI9 w W b0 m l k bad ur q) (hr : RdAt W' b0 l' k' bad') (hg : W.grownBy W' (some b0)) : TI9 w W' b0 m l' k' bad' ur q := by
  have l0 := h.l0; have lm := h.lm
  exact ⟨hr, ObjAt.grown h.res hg (by simp; omega), ⟨ObjAt.grown h.tk.1 hg (by simp; omega), h.tk.2⟩, h.rq.far9 h.rd (by decide) (by decide) hg, gtrans h.frm hg, h.lm, h.l0⟩
theorem TI9.c {w W : World} {b0 m : Nat} {l : List UInt8} {k : Nat} {bad : Bool} {ur : Value} {q : List (RC × Value)} (h : TI9 w W b0 m l k bad ur q) : W.cell? ⟨m, 25, none⟩ = some ur ∧ W.frozen? ⟨m, 25, none⟩ = false ∧ row? W m 0 26 = some (tkC (rep9W (q.map Prod.fst)) (.slice none 0 0) ur) ∧ free? W w.heap.size 0 26 = true :=
  ⟨h.tk.ur, ObjAt.free h.tk.1 25, h.tk.row, obj_free h.res (by simp)⟩
theorem TI9.app {w W : World} {b0 m : Nat} {l : List UInt8} {k : Nat} {bad : Bool} {ur : Value} {q : List (RC × Value)} {W2 : World} {v' : Value} {r : RC} {u : Value} (h : TI9 w W b0 m l k bad ur q) (hr : adOk r.g ∧ Ads W u r.src ∧ AdT W u) (hown : W2.ownsRow w.heap.size 109 19 v' (q.length + 1) (rqC q ++ rcC r u)) (hg : W.grownBy W2 ur.ownBlock) :
    TI9 w (W2.setCell ⟨m, 25, none⟩ v') b0 m l k bad v' (q ++ [(r, u)]) ∧ (W2.cell? ⟨m, 25, none⟩ = some ur ∧ W2.frozen? ⟨m, 25, none⟩ = false) := by
  have l0 := h.l0; have lm := h.lm
  have r1 := row_ne9 h.rq.1 h.rd (by decide)
  have r3 := row_ne9 h.rq.1 h.res (by decide)
  have r4 := row_ne9 h.rq.1 h.tk.1 (by decide)
  have h1 := ObjAt.grown h.rd hg r1
  have h3 := ObjAt.grown h.res hg r3
  have h4 : TkAt W2 m (rep9W (q.map Prod.fst)) (.slice none 0 0) ur := ⟨ObjAt.grown h.tk.1 hg r4, h.tk.2⟩
  have hq := RQ.snoc h.rq hr hown hg
  have hb : w.grownBy W2 (some b0) := by
    refine ⟨hg.os.trans h.frm.os, hg.tape.trans h.frm.tape, hg.output.trans h.frm.output, Nat.le_trans h.frm.size hg.size, fun i hi hne => ?_⟩
    refine (hg.block i (Nat.lt_of_lt_of_le hi h.frm.size) (fun e => ?_)).trans (h.frm.block i hi hne)
    obtain ⟨_, q2 | ⟨g', cap, cur, q1, q2, _⟩⟩ := h.rq.1
    · rw [q2.1] at e; simp [Value.ownBlock] at e
    · rw [q1] at e; simp only [Value.ownBlock, Option.some.injEq] at e; omega
  refine ⟨⟨ObjAt.other h1 _ _ (by simp; omega), ObjAt.other h3 _ _ (by simp; omega), ⟨?_, zeroA_ok⟩, hq.far9 h4.1 (by decide) (by decide) (gset W2 m 25 v'), ?_, lm, l0⟩, h4.ur, ObjAt.free h4.1 25⟩
  · have := ObjAt.set h4.1 25 v'
    rw [zsA, tkC_rcs (rep9W (q.map Prod.fst)) (.slice none 0 0) ur zeroA_ok v' ((q ++ [(r, u)]).map Prod.fst)] at this
    exact this
  · refine ⟨hb.os, hb.tape, hb.output, by simpa [World.setCell] using hb.size, fun i hi hne => ?_⟩
    exact (heap_setCell_other W2 ⟨m, 25, none⟩ i v' (by simp; omega)).trans (hb.block i hi hne)
structure P0T9 (w W : World) (b0 : Nat) (l : List UInt8) (k : Nat) (bad : Bool) : Prop where
  rd : RdAt W b0 l k bad
  res : ObjAt W w.heap.size zz26 28
  frm : w.grownBy W (some b0)
  l0 : b0 < w.heap.size
theorem P0T9.start {w : World} {b0 : Nat} {l : List UInt8} {k : Nat} {bad : Bool} (h : RdAt w b0 l k bad) : P0T9 w (w.alloc (.cells zz26 28)) b0 l k bad :=
  ⟨ObjAt.alloc h _, ObjAt.made w zz26 28, qof ((Below.refl _ _).alloc (Nat.le_refl _) _), ObjAt.lt h⟩
theorem P0T9.call {w W W' : World} {b0 : Nat} {l l' : List UInt8} {k k' : Nat} {bad bad' : Bool} (h : P0T9 w W b0 l k bad) (hr : RdAt W' b0 l' k' bad') (hg : W.grownBy W' (some b0)) : P0T9 w W' b0 l' k' bad' :=
  ⟨hr, ObjAt.grown h.res hg (by have := h.l0; simp; omega), gtrans h.frm hg, h.l0⟩
theorem P0T9.below {w W W' : World} {b0 : Nat} {l : List UInt8} {k : Nat} {bad : Bool} (h : P0T9 w W b0 l k bad) (hb : Below W.heap.size W W') : P0T9 w W' b0 l k bad := ⟨ObjAt.below h.rd hb (ObjAt.lt h.rd), h.res.below hb h.res.lt, qbelow h.frm (hb.mono h.frm.size), h.l0⟩
theorem P0T9.rep {w W : World} {b0 : Nat} {l : List UInt8} {k : Nat} {bad : Bool} (h : P0T9 w W b0 l k bad) : TI9 w (aggW (W.alloc (.cells zz26 28)) W.heap.size (tkC (rep9W []) (.slice none 0 0) (.slice none 0 0))) b0 W.heap.size l k bad (.slice none 0 0) [] := by
  have hm := TM.made (w := W) (t := rep9W []) (Below.refl _ _) zeroA_ok (Ads.nil W) (Rcs.nil W)
  have h2 := h.below hm.blw
  exact ⟨h2.rd, h2.res, hm.tk, ⟨⟨rfl, Or.inl ⟨rfl, rfl⟩⟩, fun x hx => by cases hx⟩, h2.frm, h.res.lt, h2.l0⟩
theorem TI9.done {w W : World} {b0 m : Nat} {l : List UInt8} {k : Nat} {bad : Bool} {ur : Value} {q : List (RC × Value)} (h : TI9 w W b0 m l k bad ur q) :
    row? (aggW W w.heap.size (tkC (rep9W (q.map Prod.fst)) (.slice none 0 0) ur)) w.heap.size 0 26 = some (tkC (rep9W (q.map Prod.fst)) (.slice none 0 0) ur) ∧ RdAt (aggW W w.heap.size (tkC (rep9W (q.map Prod.fst)) (.slice none 0 0) ur)) b0 l k bad ∧ w.grownBy (aggW W w.heap.size (tkC (rep9W (q.map Prod.fst)) (.slice none 0 0) ur)) (some b0) ∧ RcT (aggW W w.heap.size (tkC (rep9W (q.map Prod.fst)) (.slice none 0 0) ur)) ur (q.map Prod.fst) :=
  ⟨aggW_row (obj_free h.res (by simp)) (tkC_length zeroA_ok _ _), aggW_other h.rd _ (by have := h.l0; omega), qbelow h.frm (aggW_below (Below.refl _ _) (by omega) _), ⟨_, q, h.rq.far9 h.res (by decide) (by decide) (aggW_grown _ _ _), rfl⟩⟩
theorem RS9.bad {s : List UInt8} {n i m : Nat} {acc : List RC} (h : RS9 s n i (m + 1) acc) (he : recQE9 s i ≠ 0) : (recL9 s 8 n).2 = recQE9 s i := by
  unfold recQE9 at he ⊢
  by_cases a1 : s.length < i + 20
  · rw [if_pos a1]; exact RS9.short h a1
  rw [if_neg a1] at he ⊢
  by_cases a2 : srcsE9 s (i + 20) (wd s (i + 2)) = 0
  · rw [if_neg (by rw [a2]; simp)] at he ⊢
    by_cases a3 : s.length < recN9 s i
    · rw [if_pos a3]; exact RS9.ends h a1 a2 a3
    · rw [if_neg a3] at he; exact absurd rfl he
  · rw [if_pos a2]; exact RS9.srcs h a1 a2
theorem RS9.good {s : List UInt8} {n i m : Nat} {acc : List RC} (h : RS9 s n i (m + 1) acc) (he : recQE9 s i = 0) : recN9 s i ≤ s.length ∧ RS9 s n (recN9 s i) m (if rcOk9 (rec9 s i) then acc ++ [rec9 s i] else acc) := by
  unfold recQE9 at he
  by_cases a1 : s.length < i + 20
  · rw [if_pos a1] at he; cases he
  rw [if_neg a1] at he
  by_cases a2 : srcsE9 s (i + 20) (wd s (i + 2)) = 0
  · rw [if_neg (by rw [a2]; simp)] at he
    by_cases a3 : s.length < recN9 s i
    · rw [if_pos a3] at he; cases he
    · exact ⟨by omega, RS9.step h a1 a2 a3⟩
  · rw [if_pos a2] at he; exact absurd he a2
end Go.Proofs.YtlbdehegknehiaaGreat

/- A part of the proof. -/
namespace Go.Proofs.YtlbdehegknehiaaGreat
open Go.RowKit
set_option linter.unusedVariables false
set_option linter.unusedSimpArgs false
attribute [local go_sem ↓] ld_addr st_addr bld_addr ld_tk st_tk bld_tk
attribute [local go_sem] ldr_addr str_addr str_addr_at ldr_tk str_tk row?_drew_eq
theorem RcT.far9 {w w' : World} {v : Value} {l : List RC} {m : Nat} {L : Array Value} {T : TypeId} (h : RcT w v l) (hm : ObjAt w m L T) (h1 : T ≠ 24) (h2 : T ≠ 109) (hg : w.grownBy w' (some m)) : RcT w' v l := by
  obtain ⟨base, q, h3, h4⟩ := h
  exact ⟨base, q, h3.far9 hm h1 h2 hg, h4⟩
structure QM9 (w W : World) (b0 rr m : Nat) (l : List UInt8) (k : Nat) (bad : Bool) (t : TK) (us ur : Value) : Prop where
  rd : RdAt W b0 l k bad
  res : ObjAt W rr zz26 28
  tk : TkAt W m t us ur
  src : AdsT W us t.src
  rcs : RcT W ur t.rcs
  frm : w.grownBy W (some b0)
  lr : w.heap.size ≤ rr
  lm : w.heap.size ≤ m
  n2 : rr ≠ m
  l0 : b0 < w.heap.size
theorem QM9.below {w W : World} {b0 rr m : Nat} {l : List UInt8} {k : Nat} {bad : Bool} {t : TK} {us ur : Value} {W' : World} (h : QM9 w W b0 rr m l k bad t us ur) (hb : Below W.heap.size W W') : QM9 w W' b0 rr m l k bad t us ur :=
  ⟨ObjAt.below h.rd hb (ObjAt.lt h.rd), h.res.below hb h.res.lt, h.tk.below hb, h.src.below hb, h.rcs.below hb, qbelow h.frm (hb.mono h.frm.size), h.lr, h.lm, h.n2, h.l0⟩
theorem QM9.call {w W : World} {b0 rr m : Nat} {l : List UInt8} {k : Nat} {bad : Bool} {t : TK} {us ur : Value} {W' : World} {l' : List UInt8} {k' : Nat} {bad' : Bool} (h : QM9 w W b0 rr m l k bad t us ur) (hr : RdAt W' b0 l' k' bad') (hg : W.grownBy W' (some b0)) : QM9 w W' b0 rr m l' k' bad' t us ur := by
  have l0 := h.l0; have lr := h.lr; have lm := h.lm
  exact ⟨hr, ObjAt.grown h.res hg (by simp; omega), ⟨ObjAt.grown h.tk.1 hg (by simp; omega), h.tk.2⟩, h.src.far9 h.rd (by decide) hg, h.rcs.far9 h.rd (by decide) (by decide) hg, gtrans h.frm hg, h.lr, h.lm, h.n2, h.l0⟩
theorem QM9.set {w W : World} {b0 rr m : Nat} {l : List UInt8} {k : Nat} {bad : Bool} {t : TK} {us ur : Value} {t' : TK} {us' ur' : Value} (h : QM9 w W b0 rr m l k bad t us ur) (j : Nat) (v : Value) (e : (tkC t us ur).set j v = tkC t' us' ur') (ho : adOk t'.g) (hs : AdsT W us' t'.src) (hr : RcT W ur' t'.rcs) : QM9 w (W.setCell ⟨m, j, none⟩ v) b0 rr m l k bad t' us' ur' := by
  have l0 := h.l0; have lm := h.lm
  have h1 : ObjAt (W.setCell ⟨m, j, none⟩ v) m (tkC t' us' ur').toArray 28 := by
    have := ObjAt.set h.tk.1 j v
    rw [zsA, e] at this
    exact this
  exact ⟨ObjAt.other h.rd _ _ (by simp; omega), ObjAt.other h.res _ _ (by simpa using h.n2), ⟨h1, ho⟩, hs.far9 h.tk.1 (by decide) (gset W m j v), hr.far9 h.tk.1 (by decide) (by decide) (gset W m j v), qbelow h.frm ((Below.refl _ _).setCell (p := ⟨m, j, none⟩) (by simpa using lm) v), h.lr, h.lm, h.n2, h.l0⟩
theorem tkC_grpx (t : TK) (us ur : Value) (ho : adOk t.g) (a : AD) (ha : adOk a) : over (tkC t us ur) 4 (adC a) = tkC ⟨t.v6, t.ver, t.kind, t.resp, a, t.quiet, t.rob, t.every, t.src, t.rcs⟩ us ur := tkC_grp t us ur ho a ha
theorem QM9.grp {w W : World} {b0 rr m : Nat} {l : List UInt8} {k : Nat} {bad : Bool} {t : TK} {us ur : Value} (h : QM9 w W b0 rr m l k bad t us ur) (a : AD) (ha : adOk a) : QM9 w (aggO W m 4 (adC a)) b0 rr m l k bad ⟨t.v6, t.ver, t.kind, t.resp, a, t.quiet, t.rob, t.every, t.src, t.rcs⟩ us ur := by
  have l0 := h.l0; have lm := h.lm
  have l1 := tkC_length h.tk.2 us ur
  have h1 := aggO_obj (o := 4) (cs := adC a) h.tk.1 (by rw [l1, adC_length ha]; omega) (addrC_one _ _)
  rw [tkC_grpx t us ur h.tk.2 a ha] at h1
  have hg : W.grownBy (aggO W m 4 (adC a)) (some m) := by rw [aggO_eq]; exact setCells_grown m _ 4 W
  exact ⟨aggO_other h.rd _ (by omega), aggO_other h.res _ h.n2, ⟨h1, ha⟩, h.src.far9 h.tk.1 (by decide) hg, h.rcs.far9 h.tk.1 (by decide) (by decide) hg, qbelow h.frm (aggO_below (Below.refl _ _) lm _ _), h.lr, h.lm, h.n2, h.l0⟩
def QMC9 (W : World) (rr m : Nat) (t : TK) (us ur : Value) : Prop :=
  W.cell? ⟨m, 1, none⟩ = some (.int .i64 t.ver) ∧ W.cell? ⟨m, 3, none⟩ = some (.int .i64 t.resp) ∧ row? W m 4 17 = some (adC t.g) ∧ W.cell? ⟨m, 21, none⟩ = some (.bool t.quiet) ∧ W.cell? ⟨m, 22, none⟩ = some (.int .i64 t.rob) ∧ W.cell? ⟨m, 23, none⟩ = some (.int .i64 t.every) ∧ W.cell? ⟨m, 24, none⟩ = some us ∧ row? W m 0 26 = some (tkC t us ur) ∧ free? W rr 0 26 = true ∧ free? W m 4 17 = true ∧ fok (tkC t us ur).toArray 26 = true ∧ (∀ j, W.frozen? ⟨m, j, none⟩ = false)
theorem QM9.c {w W : World} {b0 rr m : Nat} {l : List UInt8} {k : Nat} {bad : Bool} {t : TK} {us ur : Value} (h : QM9 w W b0 rr m l k bad t us ur) : QMC9 W rr m t us ur :=
  ⟨h.tk.ver, h.tk.resp, h.tk.rg, h.tk.quiet, h.tk.rob, h.tk.every, h.tk.us, h.tk.row, obj_free h.res (by simp), free_of fun j hj => by
    refine ⟨?_, ObjAt.free h.tk.1 (4 + j)⟩
    rw [ObjAt.cell h.tk.1 (4 + j), Array.getElem?_eq_getElem (by simp [tkC_length h.tk.2]; omega)]; rfl, fok_tk h.tk.2 h.src.1.one h.rcs.rcs.one, fun j => ObjAt.free h.tk.1 j⟩
theorem QM9.done {w W : World} {b0 rr m : Nat} {l : List UInt8} {k : Nat} {bad : Bool} {t : TK} {us ur : Value} (h : QM9 w W b0 rr m l k bad t us ur) : row? (aggW W rr (tkC t us ur)) rr 0 26 = some (tkC t us ur) ∧ AdsT (aggW W rr (tkC t us ur)) us t.src ∧ RcT (aggW W rr (tkC t us ur)) ur t.rcs ∧ w.grownBy (aggW W rr (tkC t us ur)) (some b0) ∧ adOk t.g :=
  ⟨aggW_row (obj_free h.res (by simp)) (tkC_length h.tk.2 _ _), h.src.far9 h.res (by decide) (aggW_grown _ _ _), h.rcs.far9 h.res (by decide) (by decide) (aggW_grown _ _ _), qbelow h.frm (aggW_below (Below.refl _ _) h.lr _), h.tk.2⟩
theorem P0T9.qm {w W : World} {b0 : Nat} {l : List UInt8} {k : Nat} {bad : Bool} (h : P0T9 w W b0 l k bad) (t : TK) (ho : adOk t.g) (hs : t.src = []) (hr : t.rcs = []) : QM9 w (aggW (W.alloc (.cells zz26 28)) W.heap.size (tkC t (.slice none 0 0) (.slice none 0 0))) b0 w.heap.size W.heap.size l k bad t (.slice none 0 0) (.slice none 0 0) := by
  have hm := TM.made (w := W) (t := t) (Below.refl _ _) ho (by rw [hs]; exact Ads.nil W) (by rw [hr]; exact Rcs.nil W)
  have h2 := h.below hm.blw
  have l2 := h.res.lt
  exact ⟨h2.rd, h2.res, hm.tk, by rw [hs]; exact AdsT.nil _, by rw [hr]; exact RcT.nil _, h2.frm, by omega, by omega, by omega, h2.l0⟩
end Go.Proofs.YtlbdehegknehiaaGreat

/- A part of the proof. -/
namespace Go.Proofs.YtlbdehegknehiaaGreat
open Go.RowKit
set_option linter.unusedVariables false
set_option linter.unusedSimpArgs false
attribute [local go_sem ↓] ld_addr st_addr bld_addr ld_tk st_tk bld_tk
attribute [local go_sem] ldr_addr str_addr str_addr_at ldr_tk str_tk row?_drew_eq
attribute [local go_sem] row?_drewN_eq
theorem QM9.drewN {w W : World} {b0 rr m : Nat} {l : List UInt8} {k : Nat} {bad : Bool} {t : TK} {us ur : Value} (h : QM9 w W b0 rr m l k bad t us ur) (d : Nat) : QM9 w (W.drewN d) b0 rr m l k bad t us ur := h.below (bdrewN (Below.refl _ _) d)
theorem QM9.startm {w : World} {b0 : Nat} {l : List UInt8} {k : Nat} {bad : Bool} {t : TK} {us ur : Value} (h : RdAt w b0 l k bad) (ho : adOk t.g) (hs : AdsT w us t.src) (hr : RcT w ur t.rcs) : QM9 w ((w.alloc (.cells (tkC t us ur).toArray 28)).alloc (.cells zz26 28)) b0 (w.heap.size + 1) w.heap.size l k bad t us ur := by
  have s1 : (w.alloc (.cells (tkC t us ur).toArray 28)).heap.size = w.heap.size + 1 := by simp
  have k2 := (Below.refl w.heap.size w).alloc (Nat.le_refl _) (.cells (tkC t us ur).toArray 28)
  have k3 := (Below.refl _ (w.alloc (.cells (tkC t us ur).toArray 28))).alloc (Nat.le_refl _) (.cells zz26 28)
  have ht := ObjAt.made w (tkC t us ur).toArray 28
  have hz := ObjAt.made (w.alloc (.cells (tkC t us ur).toArray 28)) zz26 28
  rw [s1] at hz
  have hl := ObjAt.lt h
  exact ⟨ObjAt.alloc (ObjAt.alloc h _) _, hz, ⟨ht.below k3 ht.lt, ho⟩, (hs.below k2).below k3, (hr.below k2).below k3, qof (bstep k2 k3), by omega, by omega, by omega, hl⟩
end Go.Proofs.YtlbdehegknehiaaGreat

/- A part of the proof. -/
namespace Go.Proofs.YtlbdehegknehiaaGreat
open Go.RowKit
set_option linter.unusedVariables false
set_option linter.unusedSimpArgs false
attribute [local go_sem ↓] ld_addr st_addr bld_addr ld_tk st_tk bld_tk
attribute [local go_sem] ldr_addr str_addr str_addr_at ldr_tk str_tk row?_drew_eq
theorem QM9.more {w W : World} {b0 rr m : Nat} {l : List UInt8} {k : Nat} {bad : Bool} {t : TK} {us ur : Value} {W' : World} {t' : TK} {us' ur' : Value} (h : QM9 w W b0 rr m l k bad t us ur) (hg : W.grownBy W' (some b0)) (hs : AdsT W' us' t'.src) (hr : RcT W' ur' t'.rcs) (ho : adOk t'.g) :
    free? W' rr 0 26 = true ∧ fok (tkC t' us' ur').toArray 26 = true ∧ row? (aggW W' rr (tkC t' us' ur')) rr 0 26 = some (tkC t' us' ur') ∧ AdsT (aggW W' rr (tkC t' us' ur')) us' t'.src ∧ RcT (aggW W' rr (tkC t' us' ur')) ur' t'.rcs ∧ w.grownBy (aggW W' rr (tkC t' us' ur')) (some b0) ∧ adOk t'.g := by
  have l0 := h.l0; have lr := h.lr
  have hres := ObjAt.grown h.res hg (by simp; omega)
  exact ⟨obj_free hres (by simp), fok_tk ho hs.1.one hr.rcs.one, aggW_row (obj_free hres (by simp)) (tkC_length ho _ _), hs.far9 hres (by decide) (aggW_grown _ _ _), hr.far9 hres (by decide) (by decide) (aggW_grown _ _ _), qbelow (gtrans h.frm hg) (aggW_below (Below.refl _ _) lr _), ho⟩
end Go.Proofs.YtlbdehegknehiaaGreat

/- A part of the proof. -/
namespace Go.Proofs.YtlbdehegknehiaaGreat
open Go.RowKit
set_option linter.unusedVariables false
set_option linter.unusedSimpArgs false
def SB (base : Nat) (W : World) (b : Nat) (l : List UInt8) : Prop :=
  ∃ p v, (p = .pointer none ∨ p = .pointer (some ⟨b, 0, none⟩)) ∧ W.heap[b]? = some (.cells #[p, v] 154 (0, 0)) ∧ W.ownsRowF base 5 1 v l.length (B8 l)
structure SK (base b : Nat) (w w' : World) : Prop where
  os : w'.os = w.os
  tape : w'.tape = w.tape
  output : w'.output = w.output
  size : w.heap.size ≤ w'.heap.size
  block : ∀ i, i < w.heap.size → i ≠ b → (i < base ∨ ∀ cur fz, w.heap[i]? ≠ some (.cells cur 5 fz)) → w'.heap[i]? = w.heap[i]?
theorem SK.refl (base b : Nat) (w : World) : SK base b w w := ⟨rfl, rfl, rfl, Nat.le_refl _, fun _ _ _ _ => rfl⟩
theorem SK.trans {base b : Nat} {w w1 w2 : World} (h : SK base b w w1) (k : SK base b w1 w2) : SK base b w w2 :=
  ⟨k.os.trans h.os, k.tape.trans h.tape, k.output.trans h.output, Nat.le_trans h.size k.size, fun i hi hb ho => by
    have e := h.block i hi hb ho
    refine (k.block i (Nat.lt_of_lt_of_le hi h.size) hb ?_).trans e
    rcases ho with ho | ho
    · exact Or.inl ho
    · right; intro cur fz; rw [e]; exact ho cur fz⟩
theorem SK.of {base b : Nat} {w w' : World} (k : Below w.heap.size w w') : SK base b w w' := ⟨k.os, k.tape, k.output, k.size, fun i hi _ _ => k.block i hi⟩
theorem SK.set (base b j : Nat) (w : World) (v : Value) : SK base b w (w.setCell ⟨b, j, none⟩ v) :=
  ⟨rfl, rfl, rfl, by simp [World.setCell], fun i _ hb _ => Below.heap_setCell _ _ _ _ (fun e => hb (by simp [e]))⟩
theorem SK.grown {base b n : Nat} {w w' : World} {v : Value} {xs : List Value} (hown : w.ownsRowF base 5 1 v n xs) (hg : w.grownBy w' v.ownBlock) : SK base b w w' :=
  ⟨hg.os, hg.tape, hg.output, hg.size, fun i hi hb ho => hg.block i hi (fun e => by
    rcases hown.2 with ⟨rfl, _⟩ | ⟨g, cap, cur, fz, rfl, hbg, hgg, _⟩
    · simp [Value.ownBlock] at e
    · simp only [Value.ownBlock, Option.some.injEq] at e
      subst e
      rcases ho with ho | ho
      · omega
      · exact ho cur fz hgg)⟩
theorem SK.blw {base b N : Nat} {w w' : World} (h : SK base b w w') (h1 : N ≤ base) (h2 : N ≤ b) (h3 : N ≤ w.heap.size) : Below N w w' :=
  ⟨h.os, h.tape, h.output, h.size, fun i hi => h.block i (by omega) (by omega) (Or.inl (by omega))⟩
theorem ObjAt.sk {base b m : Nat} {w w' : World} {L : Array Value} {T : TypeId} (h : ObjAt w m L T) (hk : SK base b w w') (hm : m ≠ b) (hT : T ≠ 5) : ObjAt w' m L T := by
  have hlt := h.lt
  unfold ObjAt at h ⊢
  rw [hk.block m hlt hm (Or.inr fun cur fz e => by rw [h] at e; simp only [Option.some.injEq, Obj.cells.injEq] at e; exact hT e.2.1)]
  exact h
theorem SB.lt {base b : Nat} {w : World} {l : List UInt8} (h : SB base w b l) : b < w.heap.size := by
  obtain ⟨p, v, _, hb, _⟩ := h
  exact (Array.getElem?_eq_some_iff.1 hb).1
theorem ownS_kept {w w' : World} {base n : Nat} {v : Value} {xs : List Value} (h : w.ownsRowF base 5 1 v n xs) (hk : ∀ g, v.ownBlock = some g → w'.heap[g]? = w.heap[g]?) : w'.ownsRowF base 5 1 v n xs := by
  refine ⟨h.1, ?_⟩
  rcases h.2 with hn | ⟨g, cap, cur, fz, rfl, hbg, hgg, rest⟩
  · exact .inl hn
  · exact .inr ⟨g, cap, cur, fz, rfl, hbg, (hk g rfl).trans hgg, rest⟩
theorem SB.below {base b : Nat} {w w' : World} {l : List UInt8} (h : SB base w b l) (hb : Below w.heap.size w w') : SB base w' b l := by
  have hlt := h.lt
  obtain ⟨p, v, h1, h2, h3⟩ := h
  exact ⟨p, v, h1, (hb.block b hlt).trans h2, ownS_kept h3 fun g hg => hb.block g (h3.lt g hg).2⟩
theorem SB.new {b : Nat} {w : World} (h : ObjAt w b #[.pointer none, .slice none 0 0] 154) (base : Nat) : SB base w b [] := ⟨_, _, Or.inl rfl, h, World.ownsRowF_nil _ _ _ _⟩
theorem frzs_kept {w : World} {g : Nat} {i n : Nat} (h : i ≠ g) : (w.freeze ⟨g, 0, none⟩ n).heap[i]? = w.heap[i]? := by
  unfold World.freeze
  split
  · rfl
  · simp only [Array.getElem?_modify]
    rw [if_neg (fun e => h e.symm)]
theorem SB.froze {base b g cap : Nat} {l : List UInt8} {w : World} {p : Value} (hp : p = .pointer none ∨ p = .pointer (some ⟨b, 0, none⟩)) (hb : w.heap[b]? = some (.cells #[p, .slice (some ⟨g, 0, none⟩) l.length cap] 154 (0, 0))) (hown : w.ownsRowF base 5 1 (.slice (some ⟨g, 0, none⟩) l.length cap) l.length (B8 l)) :
    SB base (w.freeze ⟨g, 0, none⟩ l.length) b l := by
  have hne := Lib.ownBlock_neF hown hb (by decide)
  have hgb : b ≠ g := fun e => hne (by simp [Value.ownBlock, e])
  refine ⟨p, _, hp, (frzs_kept hgb).trans hb, ⟨hown.1, ?_⟩⟩
  rcases hown.2 with ⟨hv, _⟩ | ⟨g', cap', cur, fz, hv, hbg, hg, hfz, rest⟩
  · cases hv
  · injection hv with ha _ hcap
    injection ha with ha
    injection ha with hgg _ _
    subst hgg
    subst hcap
    unfold World.freeze
    split
    · exact .inr ⟨g, _, cur, fz, rfl, hbg, hg, hfz, rest⟩
    · obtain ⟨lo, hi⟩ := fz
      refine .inr ⟨g, _, cur, (if lo == hi then (0, 0 + l.length) else (min lo 0, max hi (0 + l.length))), rfl, hbg, ?_, ?_, rest⟩
      · simp [Array.getElem?_modify, hg]
      · simp only at hfz
        split <;> simp <;> omega
end Go.Proofs.YtlbdehegknehiaaGreat

/- A part of the proof. -/
namespace Go.Proofs.YtlbdehegknehiaaGreat
open Go.RowKit
set_option linter.unusedVariables false
set_option linter.unusedSimpArgs false
attribute [local go_sem ↓] ld_addr st_addr bld_addr
attribute [local go_sem] ldr_addr str_addr
def Ints (w : World) (v : Value) (l : List Nat) : Prop := ∃ g cap, v = .slice (some ⟨g, 0, none⟩) l.length cap ∧ l.length ≤ cap ∧ cap ≤ maxLen ∧ g < w.heap.size ∧ ∀ i (h : i < l.length), w.cell? ⟨g, i, none⟩ = some (.int .i64 (l[i] : Nat))
theorem Ints.below {w w' : World} {v : Value} {l : List Nat} (h : Ints w v l) (hb : Below w.heap.size w w') : Ints w' v l := by
  obtain ⟨g, cap, h1, h2, h3, h4, h5⟩ := h
  exact ⟨g, cap, h1, h2, h3, Nat.lt_of_lt_of_le h4 hb.size, fun i hi => (hb.cell (p := ⟨g, i, none⟩) h4).trans (h5 i hi)⟩
theorem Ads.lit (W : World) (a : AD) (ho : adOk a) : Ads (W.alloc (.cells (adC a).toArray 24)) (.slice (some ⟨W.heap.size, 0, none⟩) 1 1) [a] := by
  have hm := ObjAt.made W (adC a).toArray 24
  refine ⟨some ⟨W.heap.size, 0, none⟩, 1, rfl, Nat.le_refl _, by decide, fun x hx => by rw [List.mem_singleton] at hx; subst hx; exact ho, fun _ => ⟨W.heap.size, 0, rfl, hm.lt, fun i hi => ?_⟩⟩
  have h0 : i = 0 := by simp at hi; omega
  subst h0
  exact obj_rowk (A := []) (M := adC a) (C := []) (by simpa using hm) rfl (adC_length ho)
end Go.Proofs.YtlbdehegknehiaaGreat

/- A part of the proof. -/
namespace Go.Proofs.YtlbdehegknehiaaGreat
open Go.RowKit
set_option linter.unusedVariables false
set_option linter.unusedSimpArgs false
attribute [local go_sem ↓] ld_addr st_addr bld_addr ld_rec st_rec ld_tk st_tk bld_tk bld_shp9 adsLit_eq
attribute [local go_sem] ldr_addr str_addr str_addr_at ldr_tk str_tk bldr_shp9 ldr_rec str_rec row?_drew_eq
end Go.Proofs.YtlbdehegknehiaaGreat

/- A part of the proof. -/
namespace Go.Proofs.YtlbdehegknehiaaGreat
open Go.RowKit
set_option linter.unusedVariables false
set_option linter.unusedSimpArgs false
attribute [local go_sem ↓] ld_addr st_addr bld_addr ld_rec st_rec ld_tk st_tk bld_tk bld_shp9 adsLit_eq
attribute [local go_sem] ldr_addr str_addr str_addr_at ldr_tk str_tk bldr_shp9 ldr_rec str_rec row?_drew_eq
structure RX (m : Nat) (w W : World) (q : Nat) (x : RC) (u : Value) (l : List UInt8) : Prop where
  sb : SB m W m l
  bl : Below m w W
  ob : ObjAt W q (rcC x u).toArray 109
  ne : q ≠ m
theorem RX.keep {m q : Nat} {w W W' : World} {x : RC} {u : Value} {l : List UInt8} (h : RX m w W q x u l) (hm : m ≤ W.heap.size) (hb : Below W.heap.size W W') : RX m w W' q x u l := ⟨h.sb.below hb, h.bl.trans (hb.mono hm), h.ob.below hb h.ob.lt, h.ne⟩
theorem RX.step {m q : Nat} {w W W' : World} {x : RC} {u : Value} {l l' : List UInt8} (h : RX m w W q x u l) (hm : m ≤ W.heap.size) (h1 : SB m W' m l') (k : SK m m W W') : RX m w W' q x u l' := ⟨h1, h.bl.trans (k.blw (Nat.le_refl _) (Nat.le_refl _) hm), ObjAt.sk h.ob k h.ne (by decide), h.ne⟩
end Go.Proofs.YtlbdehegknehiaaGreat

/- A part of the proof. -/
namespace Go.Proofs.YtlbdehegknehiaaGreat
open Go.RowKit
set_option linter.unusedVariables false
set_option linter.unusedSimpArgs false
attribute [local go_sem ↓] ld_addr st_addr bld_addr ld_rec st_rec ld_tk st_tk bld_tk bld_shp9 adsLit_eq
attribute [local go_sem] ldr_addr str_addr str_addr_at ldr_tk str_tk bldr_shp9 ldr_rec str_rec row?_drew_eq
end Go.Proofs.YtlbdehegknehiaaGreat

/- A part of the proof. -/
namespace Go.Proofs.YtlbdehegknehiaaGreat
open Go.RowKit
set_option linter.unusedVariables false
set_option linter.unusedSimpArgs false
noncomputable def adsLit2 (p : Array (Nat × Value)) : Sem Value := Instr.buildSlice 25 2 p
theorem adsLit2_eq (p : Array (Nat × Value)) : Instr.buildSlice 25 2 p = adsLit2 p := rfl
attribute [local go_sem ↓] ld_addr st_addr bld_addr ld_rec st_rec ld_tk st_tk bld_tk bld_shp9 adsLit_eq adsLit2_eq
attribute [local go_sem] ldr_addr str_addr str_addr_at ldr_tk str_tk bldr_shp9 ldr_rec str_rec row?_drew_eq
end Go.Proofs.YtlbdehegknehiaaGreat


/-
  The law's talks of many sources, or of many records.
-/
import Derived.Test.YtchbkamjmkfikaaMg25
import Derived.Test.YtchbkamjmkfikaaMg09
namespace Go.Proofs.Ytchbkamjmkfikaa
open Go.RowKit
set_option linter.unusedVariables false
set_option linter.unusedSimpArgs false
attribute [local go_sem ↓] ld_addr st_addr bld_addr ld_tk st_tk bld_tk ld_rec st_rec bld_rec bld_b16 rcsLit_eq adsLit_eq
attribute [local go_sem] ldr_addr str_addr_at ldr_tk str_tk ldr_rec str_rec
attribute [local go_sem high] str_addr

def gA : AD := (false, [224, 1, 1, 1, 0, 0, 0, 0, 0, 0, 0, 0, 0, 0, 0, 0])
def srcA (i : Nat) : AD := (false, [10, 0, 0, UInt8.ofNat i, 0, 0, 0, 0, 0, 0, 0, 0, 0, 0, 0, 0])
def repT (n : Nat) : TK := ⟨false, 3, 2, 0, zeroA, false, 0, 0, [], List.replicate n ⟨2, gA, []⟩⟩
def qryT (n : Nat) : TK := ⟨false, 3, 1, 0, gA, false, 0, 0, (List.range n).map srcA, []⟩
theorem gA_ok : adOk gA := rfl
theorem srcA_ok (i : Nat) : adOk (srcA i) := rfl
theorem bl_g16 (w : World) : (aggBuild 23 #[(0, .int .u8 224), (1, .int .u8 1), (2, .int .u8 1), (3, .int .u8 1)]).run Try.prog w = .ok (.agg (B8 gA.2).toArray) w := bld_run _ _ _ (by kernel_rfl) _
theorem bl_ga (w : World) : (aggBuild 25 #[(1, .agg (B8 gA.2).toArray)]).run Try.prog w = .ok (.agg (adC gA).toArray) w := bld_run _ _ _ (by kernel_rfl) _
theorem bl_s16 (i : Nat) (hi : i < 256) (w : World) : (aggBuild 23 #[(0, .int .u8 10), (1, .int .u8 0), (2, .int .u8 0), (3, .int .u8 i)]).run Try.prog w = .ok (.agg (B8 (srcA i).2).toArray) w := by
  have key : ∀ b : UInt8, (aggBuild 23 #[(0, .int .u8 10), (1, .int .u8 0), (2, .int .u8 0), (3, .int .u8 b.toNat)]).run Try.prog w = .ok (.agg (B8 [10, 0, 0, b, 0, 0, 0, 0, 0, 0, 0, 0, 0, 0, 0, 0]).toArray) w := fun b => bld_run _ _ _ (by kernel_rfl) _
  have := key (UInt8.ofNat i)
  rw [show (UInt8.ofNat i).toNat = i by simp; omega] at this
  exact this
theorem bl_sa (i : Nat) (w : World) : (aggBuild 25 #[(1, .agg (B8 (srcA i).2).toArray)]).run Try.prog w = .ok (.agg (adC (srcA i)).toArray) w := by
  have key : ∀ b : UInt8, (aggBuild 25 #[(1, .agg (B8 [10, 0, 0, b, 0, 0, 0, 0, 0, 0, 0, 0, 0, 0, 0, 0]).toArray)]).run Try.prog w = .ok (.agg (adC (false, [10, 0, 0, b, 0, 0, 0, 0, 0, 0, 0, 0, 0, 0, 0, 0])).toArray) w := fun b => bld_run _ _ _ (by kernel_rfl) _
  exact key _
theorem bl_t (w : World) : (aggBuild 29 #[(1, .int .i64 3), (2, .int .i64 1), (4, .agg (adC gA).toArray)]).run Try.prog w = .ok (.agg (tkC (qryT 0) (.slice none 0 0) (.slice none 0 0)).toArray) w := bld_run _ _ _ (by kernel_rfl) _
theorem bl_r (w : World) : (aggBuild 64 #[(0, .int .i64 2), (1, .agg (adC gA).toArray)]).run Try.prog w = .ok (.agg (rcC ⟨2, gA, []⟩ (.slice none 0 0)).toArray) w := bld_run _ _ _ (by kernel_rfl) _
/-- The result's cell, the group, the talk: all below B. -/
structure MT (w W : World) (p m : Nat) (t : TK) (us ur : Value) : Prop where
  res : ObjAt W w.heap.size #[.bool false, .int .i64 0, .int .i64 0, .int .i64 0, .bool false, .int .u8 0, .int .u8 0, .int .u8 0, .int .u8 0, .int .u8 0, .int .u8 0, .int .u8 0, .int .u8 0, .int .u8 0, .int .u8 0, .int .u8 0, .int .u8 0, .int .u8 0, .int .u8 0, .int .u8 0, .int .u8 0, .bool false, .int .i64 0, .int .i64 0, .slice none 0 0, .slice none 0 0] 29
  grp : ObjAt W p (adC gA).toArray 25
  tk : TkAt W m t us ur
  blw : Below w.heap.size w W
  l1 : w.heap.size < p
  l2 : p < m
theorem MT.grown {w W W' : World} {p m : Nat} {t : TK} {us ur : Value} {row : Option Nat} (h : MT w W p m t us ur) (hg : W.grownBy W' row) (hr : ∀ k, row = some k → m < k) : MT w W' p m t us ur := by
  have h1 := h.l1; have h2 := h.l2
  exact ⟨h.res.grown hg (fun e => by have := hr _ e.symm; omega), h.grp.grown hg (fun e => by have := hr _ e.symm; omega), ⟨h.tk.1.grown hg (fun e => by have := hr _ e.symm; omega), h.tk.2⟩, h.blw.grown hg h.blw.size (fun k e => by have := hr _ e; omega), h1, h2⟩
theorem MT.below {w W W' : World} {p m : Nat} {t : TK} {us ur : Value} (h : MT w W p m t us ur) (hb : Below W.heap.size W W') : MT w W' p m t us ur := ⟨h.res.below hb h.res.lt, h.grp.below hb h.grp.lt, h.tk.below hb, bstep h.blw hb, h.l1, h.l2⟩
theorem MT.set {w W : World} {p m : Nat} {t t' : TK} {us ur us' ur' : Value} (h : MT w W p m t us ur) (j : Nat) (v : Value) (e : (tkC t us ur).set j v = tkC t' us' ur') (ho : adOk t'.g) : MT w (W.setCell ⟨m, j, none⟩ v) p m t' us' ur' := by
  have h1 := h.l1; have h2 := h.l2
  have h3 : ObjAt (W.setCell ⟨m, j, none⟩ v) m (tkC t' us' ur').toArray 29 := by
    have := ObjAt.set h.tk.1 j v
    rw [List.setIfInBounds_toArray, e] at this
    exact this
  exact ⟨h.res.other _ _ (by simp; omega), h.grp.other _ _ (by simp; omega), ⟨h3, ho⟩, h.blw.setCell (p := ⟨m, j, none⟩) (by simp; omega) v, h1, h2⟩
theorem MT.start (w : World) : MT w (aggW ((aggW ((w.alloc (.cells #[.bool false, .int .i64 0, .int .i64 0, .int .i64 0, .bool false, .int .u8 0, .int .u8 0, .int .u8 0, .int .u8 0, .int .u8 0, .int .u8 0, .int .u8 0, .int .u8 0, .int .u8 0, .int .u8 0, .int .u8 0, .int .u8 0, .int .u8 0, .int .u8 0, .int .u8 0, .int .u8 0, .bool false, .int .i64 0, .int .i64 0, .slice none 0 0, .slice none 0 0] 29)).alloc (.cells #[.bool false, .int .u8 0, .int .u8 0, .int .u8 0, .int .u8 0, .int .u8 0, .int .u8 0, .int .u8 0, .int .u8 0, .int .u8 0, .int .u8 0, .int .u8 0, .int .u8 0, .int .u8 0, .int .u8 0, .int .u8 0, .int .u8 0] 25)) (w.heap.size + 1) (adC gA)).alloc (.cells #[.bool false, .int .i64 0, .int .i64 0, .int .i64 0, .bool false, .int .u8 0, .int .u8 0, .int .u8 0, .int .u8 0, .int .u8 0, .int .u8 0, .int .u8 0, .int .u8 0, .int .u8 0, .int .u8 0, .int .u8 0, .int .u8 0, .int .u8 0, .int .u8 0, .int .u8 0, .int .u8 0, .bool false, .int .i64 0, .int .i64 0, .slice none 0 0, .slice none 0 0] 29)) (aggW ((w.alloc (.cells #[.bool false, .int .i64 0, .int .i64 0, .int .i64 0, .bool false, .int .u8 0, .int .u8 0, .int .u8 0, .int .u8 0, .int .u8 0, .int .u8 0, .int .u8 0, .int .u8 0, .int .u8 0, .int .u8 0, .int .u8 0, .int .u8 0, .int .u8 0, .int .u8 0, .int .u8 0, .int .u8 0, .bool false, .int .i64 0, .int .i64 0, .slice none 0 0, .slice none 0 0] 29)).alloc (.cells #[.bool false, .int .u8 0, .int .u8 0, .int .u8 0, .int .u8 0, .int .u8 0, .int .u8 0, .int .u8 0, .int .u8 0, .int .u8 0, .int .u8 0, .int .u8 0, .int .u8 0, .int .u8 0, .int .u8 0, .int .u8 0, .int .u8 0] 25)) (w.heap.size + 1) (adC gA)).heap.size (tkC (qryT 0) (.slice none 0 0) (.slice none 0 0))) (w.heap.size + 1) (aggW ((w.alloc (.cells #[.bool false, .int .i64 0, .int .i64 0, .int .i64 0, .bool false, .int .u8 0, .int .u8 0, .int .u8 0, .int .u8 0, .int .u8 0, .int .u8 0, .int .u8 0, .int .u8 0, .int .u8 0, .int .u8 0, .int .u8 0, .int .u8 0, .int .u8 0, .int .u8 0, .int .u8 0, .int .u8 0, .bool false, .int .i64 0, .int .i64 0, .slice none 0 0, .slice none 0 0] 29)).alloc (.cells #[.bool false, .int .u8 0, .int .u8 0, .int .u8 0, .int .u8 0, .int .u8 0, .int .u8 0, .int .u8 0, .int .u8 0, .int .u8 0, .int .u8 0, .int .u8 0, .int .u8 0, .int .u8 0, .int .u8 0, .int .u8 0, .int .u8 0] 25)) (w.heap.size + 1) (adC gA)).heap.size (qryT 0) (.slice none 0 0) (.slice none 0 0) := by
  have s1 : (w.alloc (.cells #[.bool false, .int .i64 0, .int .i64 0, .int .i64 0, .bool false, .int .u8 0, .int .u8 0, .int .u8 0, .int .u8 0, .int .u8 0, .int .u8 0, .int .u8 0, .int .u8 0, .int .u8 0, .int .u8 0, .int .u8 0, .int .u8 0, .int .u8 0, .int .u8 0, .int .u8 0, .int .u8 0, .bool false, .int .i64 0, .int .i64 0, .slice none 0 0, .slice none 0 0] 29)).heap.size = w.heap.size + 1 := by simp
  have g0 := ObjAt.made (w.alloc (.cells #[.bool false, .int .i64 0, .int .i64 0, .int .i64 0, .bool false, .int .u8 0, .int .u8 0, .int .u8 0, .int .u8 0, .int .u8 0, .int .u8 0, .int .u8 0, .int .u8 0, .int .u8 0, .int .u8 0, .int .u8 0, .int .u8 0, .int .u8 0, .int .u8 0, .int .u8 0, .int .u8 0, .bool false, .int .i64 0, .int .i64 0, .slice none 0 0, .slice none 0 0] 29)) #[.bool false, .int .u8 0, .int .u8 0, .int .u8 0, .int .u8 0, .int .u8 0, .int .u8 0, .int .u8 0, .int .u8 0, .int .u8 0, .int .u8 0, .int .u8 0, .int .u8 0, .int .u8 0, .int .u8 0, .int .u8 0, .int .u8 0] 25
  rw [s1] at g0
  have g1 := aggW_obj (L := (#[.bool false, .int .u8 0, .int .u8 0, .int .u8 0, .int .u8 0, .int .u8 0, .int .u8 0, .int .u8 0, .int .u8 0, .int .u8 0, .int .u8 0, .int .u8 0, .int .u8 0, .int .u8 0, .int .u8 0, .int .u8 0, .int .u8 0] : Array Value).toList) (cs := adC gA) (by simpa using g0) rfl (addrC_one _ _)
  have r1 : ObjAt (aggW ((w.alloc (.cells #[.bool false, .int .i64 0, .int .i64 0, .int .i64 0, .bool false, .int .u8 0, .int .u8 0, .int .u8 0, .int .u8 0, .int .u8 0, .int .u8 0, .int .u8 0, .int .u8 0, .int .u8 0, .int .u8 0, .int .u8 0, .int .u8 0, .int .u8 0, .int .u8 0, .int .u8 0, .int .u8 0, .bool false, .int .i64 0, .int .i64 0, .slice none 0 0, .slice none 0 0] 29)).alloc (.cells #[.bool false, .int .u8 0, .int .u8 0, .int .u8 0, .int .u8 0, .int .u8 0, .int .u8 0, .int .u8 0, .int .u8 0, .int .u8 0, .int .u8 0, .int .u8 0, .int .u8 0, .int .u8 0, .int .u8 0, .int .u8 0, .int .u8 0] 25)) (w.heap.size + 1) (adC gA)) w.heap.size #[.bool false, .int .i64 0, .int .i64 0, .int .i64 0, .bool false, .int .u8 0, .int .u8 0, .int .u8 0, .int .u8 0, .int .u8 0, .int .u8 0, .int .u8 0, .int .u8 0, .int .u8 0, .int .u8 0, .int .u8 0, .int .u8 0, .int .u8 0, .int .u8 0, .int .u8 0, .int .u8 0, .bool false, .int .i64 0, .int .i64 0, .slice none 0 0, .slice none 0 0] 29 := aggW_other ((ObjAt.made w _ _).alloc _) _ (by omega)
  have b1 : Below w.heap.size w (aggW ((w.alloc (.cells #[.bool false, .int .i64 0, .int .i64 0, .int .i64 0, .bool false, .int .u8 0, .int .u8 0, .int .u8 0, .int .u8 0, .int .u8 0, .int .u8 0, .int .u8 0, .int .u8 0, .int .u8 0, .int .u8 0, .int .u8 0, .int .u8 0, .int .u8 0, .int .u8 0, .int .u8 0, .int .u8 0, .bool false, .int .i64 0, .int .i64 0, .slice none 0 0, .slice none 0 0] 29)).alloc (.cells #[.bool false, .int .u8 0, .int .u8 0, .int .u8 0, .int .u8 0, .int .u8 0, .int .u8 0, .int .u8 0, .int .u8 0, .int .u8 0, .int .u8 0, .int .u8 0, .int .u8 0, .int .u8 0, .int .u8 0, .int .u8 0, .int .u8 0] 25)) (w.heap.size + 1) (adC gA)) := aggW_below (((Below.refl _ _).alloc (Nat.le_refl _) _).alloc (by simp) _) (by omega) _
  generalize aggW ((w.alloc (.cells #[.bool false, .int .i64 0, .int .i64 0, .int .i64 0, .bool false, .int .u8 0, .int .u8 0, .int .u8 0, .int .u8 0, .int .u8 0, .int .u8 0, .int .u8 0, .int .u8 0, .int .u8 0, .int .u8 0, .int .u8 0, .int .u8 0, .int .u8 0, .int .u8 0, .int .u8 0, .int .u8 0, .bool false, .int .i64 0, .int .i64 0, .slice none 0 0, .slice none 0 0] 29)).alloc (.cells #[.bool false, .int .u8 0, .int .u8 0, .int .u8 0, .int .u8 0, .int .u8 0, .int .u8 0, .int .u8 0, .int .u8 0, .int .u8 0, .int .u8 0, .int .u8 0, .int .u8 0, .int .u8 0, .int .u8 0, .int .u8 0, .int .u8 0] 25)) (w.heap.size + 1) (adC gA) = V at *
  have l1 := g1.lt
  have l0 := r1.lt
  have t0 := ObjAt.made V #[.bool false, .int .i64 0, .int .i64 0, .int .i64 0, .bool false, .int .u8 0, .int .u8 0, .int .u8 0, .int .u8 0, .int .u8 0, .int .u8 0, .int .u8 0, .int .u8 0, .int .u8 0, .int .u8 0, .int .u8 0, .int .u8 0, .int .u8 0, .int .u8 0, .int .u8 0, .int .u8 0, .bool false, .int .i64 0, .int .i64 0, .slice none 0 0, .slice none 0 0] 29
  exact ⟨aggW_other (r1.alloc _) _ (by omega), aggW_other (g1.alloc _) _ (by omega), ⟨aggW_obj (L := (#[.bool false, .int .i64 0, .int .i64 0, .int .i64 0, .bool false, .int .u8 0, .int .u8 0, .int .u8 0, .int .u8 0, .int .u8 0, .int .u8 0, .int .u8 0, .int .u8 0, .int .u8 0, .int .u8 0, .int .u8 0, .int .u8 0, .int .u8 0, .int .u8 0, .int .u8 0, .int .u8 0, .bool false, .int .i64 0, .int .i64 0, .slice none 0 0, .slice none 0 0] : Array Value).toList) (by simpa using t0) rfl (tkC_one rfl rfl), gA_ok⟩, aggW_below (b1.alloc b1.size _) (by omega) _, by omega, by omega⟩
/-- What is read of it. -/
theorem MT.cells {w W : World} {p m : Nat} {t : TK} {us ur : Value} (h : MT w W p m t us ur) : W.cell? ⟨m, 2, none⟩ = some (.int .i64 t.kind) ∧ W.cell? ⟨m, 24, none⟩ = some us ∧ W.cell? ⟨m, 25, none⟩ = some ur ∧ row? W p 0 17 = some (adC gA) ∧ row? W m 0 26 = some (tkC t us ur) ∧ (∀ j, W.frozen? ⟨m, j, none⟩ = false) ∧ free? W w.heap.size 0 26 = true :=
  ⟨h.tk.kind, h.tk.us, h.tk.ur, obj_rowk (A := []) (M := adC gA) (C := []) (by simpa using h.grp) rfl rfl, h.tk.row, fun j => ObjAt.free h.tk.1 j, obj_free h.res (by simp)⟩
theorem MT.done {w W : World} {p m : Nat} {t : TK} {us ur : Value} (h : MT w W p m t us ur) (hs : AdsT W us t.src) (hr : RcT W ur t.rcs) :
    row? (aggW W w.heap.size (tkC t us ur)) w.heap.size 0 26 = some (tkC t us ur) ∧ Below w.heap.size w (aggW W w.heap.size (tkC t us ur)) ∧ AdsT (aggW W w.heap.size (tkC t us ur)) us t.src ∧ RcT (aggW W w.heap.size (tkC t us ur)) ur t.rcs :=
  ⟨aggW_row (obj_free h.res (by simp)) (tkC_length h.tk.2 _ _), aggW_below h.blw (Nat.le_refl _) _, hs.grown h.res (aggW_grown _ _ _), hr.grown h.res (aggW_grown _ _ _)⟩
theorem MT.other {w W : World} {p m : Nat} {us ur : Value} (h : MT w W p m (qryT 0) us ur) : MT w (aggO (W.setCell ⟨m, 2, none⟩ (.int .i64 2)) m 4 (adC zeroA)) p m (repT 0) us ur := by
  have h1 := h.set 2 (.int .i64 2) (tkC_kind _ _ _ _) gA_ok
  have l1 := h.l1; have l2 := h.l2
  have h2 := aggO_obj (o := 4) (cs := adC zeroA) h1.tk.1 (by rw [tkC_length gA_ok]; decide) (addrC_one _ _)
  exact ⟨aggO_other h1.res _ (by omega), aggO_other h1.grp _ (by omega), ⟨h2, zeroA_ok⟩, aggO_below h1.blw (by omega) _ _, l1, l2⟩
theorem MT.free4 {w W : World} {p m : Nat} {us ur : Value} (h : MT w W p m (qryT 0) us ur) : free? (W.setCell ⟨m, 2, none⟩ (.int .i64 2)) m 4 17 = true := by
  have h1 := (h.set 2 (.int .i64 2) (tkC_kind _ _ _ _) gA_ok).tk.1
  refine free_of fun j hj => ⟨?_, h1.free (4 + j)⟩
  rw [h1.cell (4 + j), Array.getElem?_eq_getElem (by rw [List.size_toArray]; exact (show 4 + j < 26 by omega))]; rfl
theorem RQ.grownT {base : Nat} {w w' : World} {v : Value} {q : List (RC × Value)} {m : Nat} {L : Array Value} (h : RQ base w v q) (hm : ObjAt w m L 29) (hg : w.grownBy w' (some m)) : RQ base w' v q := by
  obtain ⟨h1, h2⟩ := h
  refine ⟨own_grown h1 hm hg, fun x hx => ?_⟩
  obtain ⟨a, b, c⟩ := h2 x hx
  exact ⟨a, b.grown hg (c.farT hm), c.grown hg (c.farT hm)⟩
theorem own_grownA {w w' : World} {base n m : Nat} {v : Value} {xs : List Value} {L : Array Value} (h : w.ownsRow base 25 17 v n xs) (hm : ObjAt w m L 29) (hg : w.grownBy w' (some m)) : w'.ownsRow base 25 17 v n xs := by
  obtain ⟨h1, h2 | ⟨g, cap, cur, e1, e2, e3, e4⟩⟩ := h
  · exact ⟨h1, .inl h2⟩
  · refine ⟨h1, .inr ⟨g, cap, cur, e1, e2, (hg.block g (Array.getElem?_eq_some_iff.1 e3).1 ?_).trans e3, e4⟩⟩
    intro hb
    simp only [Option.some.injEq] at hb
    subst hb
    unfold ObjAt at hm
    rw [e3] at hm
    simp at hm
theorem own_ge {w : World} {base n k : Nat} {e : TypeId} {size : Nat} {v : Value} {xs : List Value} (h : w.ownsRow base e size v n xs) (hk : v.ownBlock = some k) : base ≤ k := by
  obtain ⟨_, h2 | ⟨g, cap, cur, e1, e2, _⟩⟩ := h
  · rw [h2.1] at hk; cases hk
  · rw [e1] at hk; simp only [Value.ownBlock, Option.some.injEq] at hk; omega
theorem own_slice {w : World} {base n : Nat} {e : TypeId} {size : Nat} {v : Value} {xs : List Value} (h : w.ownsRow base e size v n xs) : ∃ pp c, v = .slice pp n c := by
  obtain ⟨_, h2 | ⟨g, cap, cur, e1, _⟩⟩ := h
  · obtain ⟨rfl, rfl⟩ := h2; exact ⟨_, _, rfl⟩
  · exact ⟨_, _, e1⟩

set_option maxRecDepth 100000 in
set_option maxHeartbeats 4000000 in
theorem lmany_rep (n : Nat) (hn : n ≤ 100) (w : World) : Calls Try.prog 11 #[.int .i64 n, .bool true] w fun x w' => ∃ us ur, x = .returned (.agg (tkC (repT n) us ur).toArray) ∧ Below w.heap.size w w' ∧ AdsT w' us (repT n).src ∧ RcT w' ur (repT n).rcs := by
  have HB := Lib.hid (MT.start w)
  have x1 := bl_g16
  have x2 := bl_ga
  have x3 := bl_t
  have x4 := bl_r
  have hfa : fok (adC gA).toArray 17 = true := fok_addr false _ gA_ok
  have hft : fok (tkC (qryT 0) (.slice none 0 0) (.slice none 0 0)).toArray 26 = true := fok_tk gA_ok rfl rfl
  have hf1 : free? ((w.alloc (.cells #[.bool false, .int .i64 0, .int .i64 0, .int .i64 0, .bool false, .int .u8 0, .int .u8 0, .int .u8 0, .int .u8 0, .int .u8 0, .int .u8 0, .int .u8 0, .int .u8 0, .int .u8 0, .int .u8 0, .int .u8 0, .int .u8 0, .int .u8 0, .int .u8 0, .int .u8 0, .int .u8 0, .bool false, .int .i64 0, .int .i64 0, .slice none 0 0, .slice none 0 0] 29)).alloc (.cells #[.bool false, .int .u8 0, .int .u8 0, .int .u8 0, .int .u8 0, .int .u8 0, .int .u8 0, .int .u8 0, .int .u8 0, .int .u8 0, .int .u8 0, .int .u8 0, .int .u8 0, .int .u8 0, .int .u8 0, .int .u8 0, .int .u8 0] 25)) (w.heap.size + 1) 0 17 = true := by
    have := free_made (w.alloc (.cells #[.bool false, .int .i64 0, .int .i64 0, .int .i64 0, .bool false, .int .u8 0, .int .u8 0, .int .u8 0, .int .u8 0, .int .u8 0, .int .u8 0, .int .u8 0, .int .u8 0, .int .u8 0, .int .u8 0, .int .u8 0, .int .u8 0, .int .u8 0, .int .u8 0, .int .u8 0, .int .u8 0, .bool false, .int .i64 0, .int .i64 0, .slice none 0 0, .slice none 0 0] 29)) #[.bool false, .int .u8 0, .int .u8 0, .int .u8 0, .int .u8 0, .int .u8 0, .int .u8 0, .int .u8 0, .int .u8 0, .int .u8 0, .int .u8 0, .int .u8 0, .int .u8 0, .int .u8 0, .int .u8 0, .int .u8 0, .int .u8 0] 25 17 (by simp)
    rw [show (w.alloc (.cells #[.bool false, .int .i64 0, .int .i64 0, .int .i64 0, .bool false, .int .u8 0, .int .u8 0, .int .u8 0, .int .u8 0, .int .u8 0, .int .u8 0, .int .u8 0, .int .u8 0, .int .u8 0, .int .u8 0, .int .u8 0, .int .u8 0, .int .u8 0, .int .u8 0, .int .u8 0, .int .u8 0, .bool false, .int .i64 0, .int .i64 0, .slice none 0 0, .slice none 0 0] 29)).heap.size = w.heap.size + 1 by simp] at this
    exact this
  have hfg : row? (aggW ((w.alloc (.cells #[.bool false, .int .i64 0, .int .i64 0, .int .i64 0, .bool false, .int .u8 0, .int .u8 0, .int .u8 0, .int .u8 0, .int .u8 0, .int .u8 0, .int .u8 0, .int .u8 0, .int .u8 0, .int .u8 0, .int .u8 0, .int .u8 0, .int .u8 0, .int .u8 0, .int .u8 0, .int .u8 0, .bool false, .int .i64 0, .int .i64 0, .slice none 0 0, .slice none 0 0] 29)).alloc (.cells #[.bool false, .int .u8 0, .int .u8 0, .int .u8 0, .int .u8 0, .int .u8 0, .int .u8 0, .int .u8 0, .int .u8 0, .int .u8 0, .int .u8 0, .int .u8 0, .int .u8 0, .int .u8 0, .int .u8 0, .int .u8 0, .int .u8 0] 25)) (w.heap.size + 1) (adC gA)) (w.heap.size + 1) 0 17 = some (adC gA) := aggW_row hf1 rfl
  have hf2 : free? ((aggW ((w.alloc (.cells #[.bool false, .int .i64 0, .int .i64 0, .int .i64 0, .bool false, .int .u8 0, .int .u8 0, .int .u8 0, .int .u8 0, .int .u8 0, .int .u8 0, .int .u8 0, .int .u8 0, .int .u8 0, .int .u8 0, .int .u8 0, .int .u8 0, .int .u8 0, .int .u8 0, .int .u8 0, .int .u8 0, .bool false, .int .i64 0, .int .i64 0, .slice none 0 0, .slice none 0 0] 29)).alloc (.cells #[.bool false, .int .u8 0, .int .u8 0, .int .u8 0, .int .u8 0, .int .u8 0, .int .u8 0, .int .u8 0, .int .u8 0, .int .u8 0, .int .u8 0, .int .u8 0, .int .u8 0, .int .u8 0, .int .u8 0, .int .u8 0, .int .u8 0] 25)) (w.heap.size + 1) (adC gA)).alloc (.cells #[.bool false, .int .i64 0, .int .i64 0, .int .i64 0, .bool false, .int .u8 0, .int .u8 0, .int .u8 0, .int .u8 0, .int .u8 0, .int .u8 0, .int .u8 0, .int .u8 0, .int .u8 0, .int .u8 0, .int .u8 0, .int .u8 0, .int .u8 0, .int .u8 0, .int .u8 0, .int .u8 0, .bool false, .int .i64 0, .int .i64 0, .slice none 0 0, .slice none 0 0] 29)) (aggW ((w.alloc (.cells #[.bool false, .int .i64 0, .int .i64 0, .int .i64 0, .bool false, .int .u8 0, .int .u8 0, .int .u8 0, .int .u8 0, .int .u8 0, .int .u8 0, .int .u8 0, .int .u8 0, .int .u8 0, .int .u8 0, .int .u8 0, .int .u8 0, .int .u8 0, .int .u8 0, .int .u8 0, .int .u8 0, .bool false, .int .i64 0, .int .i64 0, .slice none 0 0, .slice none 0 0] 29)).alloc (.cells #[.bool false, .int .u8 0, .int .u8 0, .int .u8 0, .int .u8 0, .int .u8 0, .int .u8 0, .int .u8 0, .int .u8 0, .int .u8 0, .int .u8 0, .int .u8 0, .int .u8 0, .int .u8 0, .int .u8 0, .int .u8 0, .int .u8 0] 25)) (w.heap.size + 1) (adC gA)).heap.size 0 26 = true := free_made _ _ _ 26 (by simp)
  obtain ⟨i0, hi0, hz0, hz1, hz2⟩ := info_parts info_rec
  go_enter Try.func11, Try.ntmps11
  go_upto_region 3 with (fail)
  generalize aggW ((aggW ((w.alloc (.cells #[.bool false, .int .i64 0, .int .i64 0, .int .i64 0, .bool false, .int .u8 0, .int .u8 0, .int .u8 0, .int .u8 0, .int .u8 0, .int .u8 0, .int .u8 0, .int .u8 0, .int .u8 0, .int .u8 0, .int .u8 0, .int .u8 0, .int .u8 0, .int .u8 0, .int .u8 0, .int .u8 0, .bool false, .int .i64 0, .int .i64 0, .slice none 0 0, .slice none 0 0] 29)).alloc (.cells #[.bool false, .int .u8 0, .int .u8 0, .int .u8 0, .int .u8 0, .int .u8 0, .int .u8 0, .int .u8 0, .int .u8 0, .int .u8 0, .int .u8 0, .int .u8 0, .int .u8 0, .int .u8 0, .int .u8 0, .int .u8 0, .int .u8 0] 25)) (w.heap.size + 1) (adC gA)).alloc (.cells #[.bool false, .int .i64 0, .int .i64 0, .int .i64 0, .bool false, .int .u8 0, .int .u8 0, .int .u8 0, .int .u8 0, .int .u8 0, .int .u8 0, .int .u8 0, .int .u8 0, .int .u8 0, .int .u8 0, .int .u8 0, .int .u8 0, .int .u8 0, .int .u8 0, .int .u8 0, .int .u8 0, .bool false, .int .i64 0, .int .i64 0, .slice none 0 0, .slice none 0 0] 29)) _ _ = W at HB ⊢
  clear hfg hf2 hf1 x1 x2 x3 hft hfa
  generalize (aggW ((w.alloc (.cells #[.bool false, .int .i64 0, .int .i64 0, .int .i64 0, .bool false, .int .u8 0, .int .u8 0, .int .u8 0, .int .u8 0, .int .u8 0, .int .u8 0, .int .u8 0, .int .u8 0, .int .u8 0, .int .u8 0, .int .u8 0, .int .u8 0, .int .u8 0, .int .u8 0, .int .u8 0, .int .u8 0, .bool false, .int .i64 0, .int .i64 0, .slice none 0 0, .slice none 0 0] 29)).alloc (.cells #[.bool false, .int .u8 0, .int .u8 0, .int .u8 0, .int .u8 0, .int .u8 0, .int .u8 0, .int .u8 0, .int .u8 0, .int .u8 0, .int .u8 0, .int .u8 0, .int .u8 0, .int .u8 0, .int .u8 0, .int .u8 0, .int .u8 0] 25)) (w.heap.size + 1) (adC gA)).heap.size = m at HB ⊢
  generalize w.heap.size + 1 = p at HB ⊢
  obtain ⟨k1, k2, k3, k4, k5, kf, kr⟩ := HB.out.cells
  have hf4 := HB.out.free4
  have hb0 := bldr_ad0
  have hf0 : fok (adC zeroA).toArray 17 = true := fok_addr false _ zeroA_ok
  go_upto_region 5 with (fail)
  clear hf4 hb0 hf0
  have H1 := Lib.hid HB.out.other
  generalize aggO (World.setCell W ⟨m, 2, none⟩ _) m 4 _ = W1 at H1 ⊢
  clear k1 k2 k3 k4 k5 kf kr HB
  obtain ⟨base, hbase⟩ : ∃ base, base = W1.heap.size := ⟨_, rfl⟩
  have hmb : m < base := by rw [hbase]; exact H1.out.tk.1.lt
  go_wp2_with fail
  go_loopw [7] (fun i wr => ∃ (k : Nat) (acc : List (RC × Value)) (ur : Value), k ≤ n ∧ i = .int .i64 k ∧ acc.length = k ∧ Hid (RQ base wr ur acc) ∧ Hid (acc.map Prod.fst = List.replicate k ⟨2, gA, []⟩) ∧ Hid (MT w wr p m (repT k) (.slice none 0 0) ur) ∧ Hid (base ≤ wr.heap.size)) (fun i _ => n - (intOf i).toNat)
  case atStart => exact ⟨0, [], _, by omega, rfl, rfl, Lib.hid ⟨⟨rfl, Or.inl ⟨rfl, rfl⟩⟩, fun x hx => by cases hx⟩, Lib.hid rfl, H1, Lib.hid (by omega)⟩
  case round =>
    obtain ⟨k, acc, ur, hk, rfl, hlen, HRQ, HAC, HM, HZ⟩ := hrel
    obtain ⟨k1, k2, k3, k4, k5, kf, kr⟩ := HM.out.cells
    by_cases hlt : k < n
    · have hk1 : (k : Int) < (n : Int) := by omega
      have hw1 : IntKind.i64.wrap ((k : Int) + 1) = (k : Int) + 1 := by simp only [IntKind.wrap_i64]; omega
      have hlit := rcsLit_run ⟨2, gA, []⟩ gA_ok none 0 0
      have hl := rcC_length (r := ⟨2, gA, []⟩) gA_ok (.slice none 0 0)
      have h1c : ∀ u ∈ rcC ⟨2, gA, []⟩ (.slice none 0 0), u.oneCell' = true := rcC_one rfl
      have hown := HRQ.out.1
      rw [hlen] at hown
      have hz := HZ.out
      go_wp2_with (at_builtin; refine wpList_append_own _ rfl _ _ 27 rfl base 64 i0 (.agg #[.int .i64 0, .bool false, .int .u8 0, .int .u8 0, .int .u8 0, .int .u8 0, .int .u8 0, .int .u8 0, .int .u8 0, .int .u8 0, .int .u8 0, .int .u8 0, .int .u8 0, .int .u8 0, .int .u8 0, .int .u8 0, .int .u8 0, .int .u8 0, .slice none 0 0]) 19 56 Try.underlying27 hi0 hz0 hz1 hz2 rfl (by decide) _ _ _ rfl (hown.alloc _) ⟨wr.heap.size, 0, none⟩ 1 1 (rcC ⟨2, gA, []⟩ (.slice none 0 0)) rfl hl (World.news_of_block (heap_alloc_new wr _)) h1c (by unfold maxLen; omega) (by omega) (by simp; omega) ?_; intro v' w2 hown' hgrow hnil; obtain ⟨pp, cc, ev⟩ := own_slice hown'; subst ev; have Hown := Lib.hid hown'; have Hgrow := Lib.hid hgrow; have H2 := Lib.hid ((HM.out.below ((Below.refl _ _).alloc (Nat.le_refl _) (.cells (rcC ⟨2, gA, []⟩ (.slice none 0 0)).toArray 64))).grown hgrow (fun q hq => Nat.lt_of_lt_of_le hmb (own_ge hown hq))); clear hown' hgrow hnil hown hz hl h1c k1 k2 k3 k4 k5 kf kr; obtain ⟨k1, k2, k3, k4, k5, kf, kr⟩ := H2.out.cells)
      have hba : Below wr.heap.size wr (wr.alloc (.cells (rcC ⟨2, gA, []⟩ (.slice none 0 0)).toArray 64)) := (Below.refl _ _).alloc (Nat.le_refl _) _
      have HQ2 := Lib.hid (RQ.snoc (r := ⟨2, gA, []⟩) (u := (.slice none 0 0)) (HRQ.out.below hba) ⟨gA_ok, Ads.nil _, fun b o n c e => by cases e⟩ (by rw [hlen]; exact Hown.out) Hgrow.out)
      have HQ3 := Lib.hid (HQ2.out.grownT H2.out.tk.1 (gset _ m 25 (.slice pp (k + 1) cc)))
      have H3 : Hid (MT w (w2.setCell ⟨m, 25, none⟩ (.slice pp (k + 1) cc)) p m (repT (k + 1)) (.slice none 0 0) (.slice pp (k + 1) cc)) := Lib.hid (H2.out.set 25 _ (tkC_rcs (repT k) _ _ zeroA_ok _ (List.replicate (k + 1) ⟨2, gA, []⟩)) zeroA_ok)
      have HZ3 : Hid (base ≤ (w2.setCell ⟨m, 25, none⟩ (.slice pp (k + 1) cc)).heap.size) := Lib.hid (by have h1 := HZ.out; have h2 := hba.size; have h3 := Hgrow.out.size; simp at h2 h3 ⊢; omega)
      go_roundw
      case rel => exact ⟨k + 1, acc ++ [(⟨2, gA, []⟩, (.slice none 0 0))], _, by omega, by go_num, by simp; omega, HQ3, Lib.hid (by rw [List.map_append, HAC.out, List.replicate_succ']; rfl), H3, HZ3⟩
      case measure => simp [intOf]; omega
    · have hk1 : ¬ (k : Int) < (n : Int) := by omega
      have HKN := Lib.hid (show k = n by omega)
      have hfk : fok (tkC (repT k) (.slice none 0 0) ur).toArray 26 = true := fok_tk zeroA_ok rfl HRQ.out.rcs.one
      have HD := Lib.hid (HM.out.done (AdsT.nil _) ⟨base, acc, HRQ.out, HAC.out⟩)
      clear hlt
      go_upto_region 11 with (fail)
      repeat (first | go_values | go_skip | go_guarded | go_step | go_upon | go_in)
      obtain ⟨q1, q2, q3, q4⟩ := HD.out
      exact bodyPost_ret (results_cell Try.results11 rfl (ld_some q1 (ldr_tk _ _ _))) rfl ⟨_, _, by rw [← HKN.out], q2, by rw [← HKN.out]; exact q3, by rw [← HKN.out]; exact q4⟩

set_option maxRecDepth 100000 in
set_option maxHeartbeats 4000000 in
theorem lmany_qry (n : Nat) (hn : n ≤ 100) (w : World) : Calls Try.prog 11 #[.int .i64 n, .bool false] w fun x w' => ∃ us ur, x = .returned (.agg (tkC (qryT n) us ur).toArray) ∧ Below w.heap.size w w' ∧ AdsT w' us (qryT n).src ∧ RcT w' ur (qryT n).rcs := by
  have HB := Lib.hid (MT.start w)
  have x1 := bl_g16
  have x2 := bl_ga
  have x3 := bl_t
  have x4 := bl_r
  have hfa : fok (adC gA).toArray 17 = true := fok_addr false _ gA_ok
  have hft : fok (tkC (qryT 0) (.slice none 0 0) (.slice none 0 0)).toArray 26 = true := fok_tk gA_ok rfl rfl
  have hf1 : free? ((w.alloc (.cells #[.bool false, .int .i64 0, .int .i64 0, .int .i64 0, .bool false, .int .u8 0, .int .u8 0, .int .u8 0, .int .u8 0, .int .u8 0, .int .u8 0, .int .u8 0, .int .u8 0, .int .u8 0, .int .u8 0, .int .u8 0, .int .u8 0, .int .u8 0, .int .u8 0, .int .u8 0, .int .u8 0, .bool false, .int .i64 0, .int .i64 0, .slice none 0 0, .slice none 0 0] 29)).alloc (.cells #[.bool false, .int .u8 0, .int .u8 0, .int .u8 0, .int .u8 0, .int .u8 0, .int .u8 0, .int .u8 0, .int .u8 0, .int .u8 0, .int .u8 0, .int .u8 0, .int .u8 0, .int .u8 0, .int .u8 0, .int .u8 0, .int .u8 0] 25)) (w.heap.size + 1) 0 17 = true := by
    have := free_made (w.alloc (.cells #[.bool false, .int .i64 0, .int .i64 0, .int .i64 0, .bool false, .int .u8 0, .int .u8 0, .int .u8 0, .int .u8 0, .int .u8 0, .int .u8 0, .int .u8 0, .int .u8 0, .int .u8 0, .int .u8 0, .int .u8 0, .int .u8 0, .int .u8 0, .int .u8 0, .int .u8 0, .int .u8 0, .bool false, .int .i64 0, .int .i64 0, .slice none 0 0, .slice none 0 0] 29)) #[.bool false, .int .u8 0, .int .u8 0, .int .u8 0, .int .u8 0, .int .u8 0, .int .u8 0, .int .u8 0, .int .u8 0, .int .u8 0, .int .u8 0, .int .u8 0, .int .u8 0, .int .u8 0, .int .u8 0, .int .u8 0, .int .u8 0] 25 17 (by simp)
    rw [show (w.alloc (.cells #[.bool false, .int .i64 0, .int .i64 0, .int .i64 0, .bool false, .int .u8 0, .int .u8 0, .int .u8 0, .int .u8 0, .int .u8 0, .int .u8 0, .int .u8 0, .int .u8 0, .int .u8 0, .int .u8 0, .int .u8 0, .int .u8 0, .int .u8 0, .int .u8 0, .int .u8 0, .int .u8 0, .bool false, .int .i64 0, .int .i64 0, .slice none 0 0, .slice none 0 0] 29)).heap.size = w.heap.size + 1 by simp] at this
    exact this
  have hfg : row? (aggW ((w.alloc (.cells #[.bool false, .int .i64 0, .int .i64 0, .int .i64 0, .bool false, .int .u8 0, .int .u8 0, .int .u8 0, .int .u8 0, .int .u8 0, .int .u8 0, .int .u8 0, .int .u8 0, .int .u8 0, .int .u8 0, .int .u8 0, .int .u8 0, .int .u8 0, .int .u8 0, .int .u8 0, .int .u8 0, .bool false, .int .i64 0, .int .i64 0, .slice none 0 0, .slice none 0 0] 29)).alloc (.cells #[.bool false, .int .u8 0, .int .u8 0, .int .u8 0, .int .u8 0, .int .u8 0, .int .u8 0, .int .u8 0, .int .u8 0, .int .u8 0, .int .u8 0, .int .u8 0, .int .u8 0, .int .u8 0, .int .u8 0, .int .u8 0, .int .u8 0] 25)) (w.heap.size + 1) (adC gA)) (w.heap.size + 1) 0 17 = some (adC gA) := aggW_row hf1 rfl
  have hf2 : free? ((aggW ((w.alloc (.cells #[.bool false, .int .i64 0, .int .i64 0, .int .i64 0, .bool false, .int .u8 0, .int .u8 0, .int .u8 0, .int .u8 0, .int .u8 0, .int .u8 0, .int .u8 0, .int .u8 0, .int .u8 0, .int .u8 0, .int .u8 0, .int .u8 0, .int .u8 0, .int .u8 0, .int .u8 0, .int .u8 0, .bool false, .int .i64 0, .int .i64 0, .slice none 0 0, .slice none 0 0] 29)).alloc (.cells #[.bool false, .int .u8 0, .int .u8 0, .int .u8 0, .int .u8 0, .int .u8 0, .int .u8 0, .int .u8 0, .int .u8 0, .int .u8 0, .int .u8 0, .int .u8 0, .int .u8 0, .int .u8 0, .int .u8 0, .int .u8 0, .int .u8 0] 25)) (w.heap.size + 1) (adC gA)).alloc (.cells #[.bool false, .int .i64 0, .int .i64 0, .int .i64 0, .bool false, .int .u8 0, .int .u8 0, .int .u8 0, .int .u8 0, .int .u8 0, .int .u8 0, .int .u8 0, .int .u8 0, .int .u8 0, .int .u8 0, .int .u8 0, .int .u8 0, .int .u8 0, .int .u8 0, .int .u8 0, .int .u8 0, .bool false, .int .i64 0, .int .i64 0, .slice none 0 0, .slice none 0 0] 29)) (aggW ((w.alloc (.cells #[.bool false, .int .i64 0, .int .i64 0, .int .i64 0, .bool false, .int .u8 0, .int .u8 0, .int .u8 0, .int .u8 0, .int .u8 0, .int .u8 0, .int .u8 0, .int .u8 0, .int .u8 0, .int .u8 0, .int .u8 0, .int .u8 0, .int .u8 0, .int .u8 0, .int .u8 0, .int .u8 0, .bool false, .int .i64 0, .int .i64 0, .slice none 0 0, .slice none 0 0] 29)).alloc (.cells #[.bool false, .int .u8 0, .int .u8 0, .int .u8 0, .int .u8 0, .int .u8 0, .int .u8 0, .int .u8 0, .int .u8 0, .int .u8 0, .int .u8 0, .int .u8 0, .int .u8 0, .int .u8 0, .int .u8 0, .int .u8 0, .int .u8 0] 25)) (w.heap.size + 1) (adC gA)).heap.size 0 26 = true := free_made _ _ _ 26 (by simp)
  obtain ⟨i0, hi0, hz0, hz1, hz2⟩ := info_parts info_ad
  go_enter Try.func11, Try.ntmps11
  go_upto_region 3 with (fail)
  generalize aggW ((aggW ((w.alloc (.cells #[.bool false, .int .i64 0, .int .i64 0, .int .i64 0, .bool false, .int .u8 0, .int .u8 0, .int .u8 0, .int .u8 0, .int .u8 0, .int .u8 0, .int .u8 0, .int .u8 0, .int .u8 0, .int .u8 0, .int .u8 0, .int .u8 0, .int .u8 0, .int .u8 0, .int .u8 0, .int .u8 0, .bool false, .int .i64 0, .int .i64 0, .slice none 0 0, .slice none 0 0] 29)).alloc (.cells #[.bool false, .int .u8 0, .int .u8 0, .int .u8 0, .int .u8 0, .int .u8 0, .int .u8 0, .int .u8 0, .int .u8 0, .int .u8 0, .int .u8 0, .int .u8 0, .int .u8 0, .int .u8 0, .int .u8 0, .int .u8 0, .int .u8 0] 25)) (w.heap.size + 1) (adC gA)).alloc (.cells #[.bool false, .int .i64 0, .int .i64 0, .int .i64 0, .bool false, .int .u8 0, .int .u8 0, .int .u8 0, .int .u8 0, .int .u8 0, .int .u8 0, .int .u8 0, .int .u8 0, .int .u8 0, .int .u8 0, .int .u8 0, .int .u8 0, .int .u8 0, .int .u8 0, .int .u8 0, .int .u8 0, .bool false, .int .i64 0, .int .i64 0, .slice none 0 0, .slice none 0 0] 29)) _ _ = W at HB ⊢
  clear hfg hf2 hf1 x1 x2 x3 hft hfa
  generalize (aggW ((w.alloc (.cells #[.bool false, .int .i64 0, .int .i64 0, .int .i64 0, .bool false, .int .u8 0, .int .u8 0, .int .u8 0, .int .u8 0, .int .u8 0, .int .u8 0, .int .u8 0, .int .u8 0, .int .u8 0, .int .u8 0, .int .u8 0, .int .u8 0, .int .u8 0, .int .u8 0, .int .u8 0, .int .u8 0, .bool false, .int .i64 0, .int .i64 0, .slice none 0 0, .slice none 0 0] 29)).alloc (.cells #[.bool false, .int .u8 0, .int .u8 0, .int .u8 0, .int .u8 0, .int .u8 0, .int .u8 0, .int .u8 0, .int .u8 0, .int .u8 0, .int .u8 0, .int .u8 0, .int .u8 0, .int .u8 0, .int .u8 0, .int .u8 0, .int .u8 0] 25)) (w.heap.size + 1) (adC gA)).heap.size = m at HB ⊢
  generalize w.heap.size + 1 = p at HB ⊢
  obtain ⟨k1, k2, k3, k4, k5, kf, kr⟩ := HB.out.cells
  have H1 := HB
  obtain ⟨W1, hW1⟩ : ∃ W1, W1 = W := ⟨_, rfl⟩
  rw [← hW1] at H1 ⊢
  clear hW1
  clear k1 k2 k3 k4 k5 kf kr HB
  obtain ⟨base, hbase⟩ : ∃ base, base = W1.heap.size := ⟨_, rfl⟩
  have hmb : m < base := by rw [hbase]; exact H1.out.tk.1.lt
  go_wp2_with fail
  go_loopw [7] (fun i wr => ∃ (k : Nat) (us : Value), k ≤ n ∧ i = .int .i64 k ∧ Hid (wr.ownsRow base 25 17 us k (adsC ((List.range k).map srcA))) ∧ Hid (MT w wr p m (qryT k) us (.slice none 0 0)) ∧ Hid (base ≤ wr.heap.size)) (fun i _ => n - (intOf i).toNat)
  case atStart => exact ⟨0, _, by omega, rfl, Lib.hid ⟨rfl, Or.inl ⟨rfl, rfl⟩⟩, H1, Lib.hid (by omega)⟩
  case round =>
    obtain ⟨k, us, hk, rfl, HRQ, HM, HZ⟩ := hrel
    obtain ⟨k1, k2, k3, k4, k5, kf, kr⟩ := HM.out.cells
    by_cases hlt : k < n
    · have hk1 : (k : Int) < (n : Int) := by omega
      have hw1 : IntKind.i64.wrap ((k : Int) + 1) = (k : Int) + 1 := by simp only [IntKind.wrap_i64]; omega
      have hu8 : IntKind.u8.wrap (k : Int) = (k : Int) := by simp only [IntKind.wrap_u8]; omega
      have y1 := bl_s16 k (by omega)
      have y2 := bl_sa k
      have hlit := adsLit_run (srcA k) (srcA_ok k)
      have hl := adC_length (srcA_ok k)
      have h1c : ∀ u ∈ adC (srcA k), u.oneCell' = true := addrC_one _ _
      have hown := HRQ.out
      have hz := HZ.out
      go_wp2_with (at_builtin; refine wpList_append_own _ rfl _ _ 26 rfl base 25 i0 (.agg #[.bool false, .int .u8 0, .int .u8 0, .int .u8 0, .int .u8 0, .int .u8 0, .int .u8 0, .int .u8 0, .int .u8 0, .int .u8 0, .int .u8 0, .int .u8 0, .int .u8 0, .int .u8 0, .int .u8 0, .int .u8 0, .int .u8 0]) 17 17 Try.underlying26 hi0 hz0 hz1 hz2 rfl (by decide) _ _ _ rfl (hown.alloc _) ⟨wr.heap.size, 0, none⟩ 1 1 (adC (srcA k)) rfl hl (World.news_of_block (heap_alloc_new wr _)) h1c (by unfold maxLen; omega) (by omega) (by simp; omega) ?_; intro v' w2 hown' hgrow hnil; obtain ⟨pp, cc, ev⟩ := own_slice hown'; subst ev; have Hown := Lib.hid hown'; have Hgrow := Lib.hid hgrow; have H2 := Lib.hid ((HM.out.below ((Below.refl _ _).alloc (Nat.le_refl _) (.cells (adC (srcA k)).toArray 25))).grown hgrow (fun q hq => Nat.lt_of_lt_of_le hmb (own_ge hown hq))); clear hown' hgrow hnil hown hz hl h1c k1 k2 k3 k4 k5 kf kr; obtain ⟨k1, k2, k3, k4, k5, kf, kr⟩ := H2.out.cells)
      have HQ3 := Lib.hid (own_grownA Hown.out H2.out.tk.1 (gset _ m 24 (.slice pp (k + 1) cc)))
      have H3 : Hid (MT w (w2.setCell ⟨m, 24, none⟩ (.slice pp (k + 1) cc)) p m (qryT (k + 1)) (.slice pp (k + 1) cc) (.slice none 0 0)) := Lib.hid (H2.out.set 24 _ (tkC_src (qryT k) _ _ gA_ok _ ((List.range (k + 1)).map srcA)) gA_ok)
      have HZ3 : Hid (base ≤ (w2.setCell ⟨m, 24, none⟩ (.slice pp (k + 1) cc)).heap.size) := Lib.hid (by have h1 := HZ.out; have h3 := Hgrow.out.size; simp at h3 ⊢; omega)
      have HE := Lib.hid (show adsC ((List.range (k + 1)).map srcA) = adsC ((List.range k).map srcA) ++ adC (srcA k) by rw [List.range_succ, List.map_append]; unfold adsC; simp)
      go_roundw
      case rel => exact ⟨k + 1, _, by omega, by go_num, by rw [HE.out]; exact HQ3, H3, HZ3⟩
      case measure => simp [intOf]; omega
    · have hk1 : ¬ (k : Int) < (n : Int) := by omega
      have HKN := Lib.hid (show k = n by omega)
      have hsl := Ads.own (l := (List.range k).map srcA) (fun a h => by obtain ⟨i, _, rfl⟩ := List.mem_map.1 h; exact srcA_ok i) (by rw [List.length_map, List.length_range]; exact HRQ.out)
      have hfk : fok (tkC (qryT k) us (.slice none 0 0)).toArray 26 = true := fok_tk gA_ok hsl.one rfl
      have HD := Lib.hid (HM.out.done ⟨hsl, AdT.own HRQ.out⟩ (RcT.nil _))
      clear hsl
      clear hlt
      go_upto_region 11 with (fail)
      repeat (first | go_values | go_skip | go_guarded | go_step | go_upon | go_in)
      obtain ⟨q1, q2, q3, q4⟩ := HD.out
      exact bodyPost_ret (results_cell Try.results11 rfl (ld_some q1 (ldr_tk _ _ _))) rfl ⟨_, _, by rw [← HKN.out], q2, by rw [← HKN.out]; exact q3, by rw [← HKN.out]; exact q4⟩
end Go.Proofs.Ytchbkamjmkfikaa

/-
  The law's talks of many sources, or of many records.
-/
import Derived.Test.YtgpccgcppbdlpaaMg16
import Derived.Test.YtgpccgcppbdlpaaMg08
namespace Go.Proofs.Ytgpccgcppbdlpaa
open Go.RowKit
set_option linter.unusedVariables false
set_option linter.unusedSimpArgs false
attribute [local go_sem ↓] ld_addr st_addr bld_addr ld_tk st_tk bld_tk ld_rec st_rec bld_rec bld_b16 rcsLit_eq adsLit_eq
attribute [local go_sem] ldr_addr str_addr_at ldr_tk str_tk ldr_rec str_rec
attribute [local go_sem high] str_addr

def gA : AD := (false, [224, 1, 1, 1, 0, 0, 0, 0, 0, 0, 0, 0, 0, 0, 0, 0])
def srcA (i : Nat) : AD := (false, [10, 0, 0, UInt8.ofNat i, 0, 0, 0, 0, 0, 0, 0, 0, 0, 0, 0, 0])
def repT (n : Nat) : TK := ⟨false, 3, 2, 0, zeroA, false, 0, 0, [], List.replicate n ⟨2, gA, []⟩⟩
def qryT (n : Nat) : TK := ⟨false, 3, 1, 0, gA, false, 0, 0, (List.range n).map srcA, []⟩
theorem gA_ok : adOk gA := rfl
/-- The result's cell, the group, the talk: all below B. -/
structure MT (w W : World) (p m : Nat) (t : TK) (us ur : Value) : Prop where
  res : ObjAt W w.heap.size #[.bool false, .int .i64 0, .int .i64 0, .int .i64 0, .bool false, .int .u8 0, .int .u8 0, .int .u8 0, .int .u8 0, .int .u8 0, .int .u8 0, .int .u8 0, .int .u8 0, .int .u8 0, .int .u8 0, .int .u8 0, .int .u8 0, .int .u8 0, .int .u8 0, .int .u8 0, .int .u8 0, .bool false, .int .i64 0, .int .i64 0, .slice none 0 0, .slice none 0 0] 28
  grp : ObjAt W p (adC gA).toArray 24
  tk : TkAt W m t us ur
  blw : Below w.heap.size w W
  l1 : w.heap.size < p
  l2 : p < m
theorem MT.grown {w W W' : World} {p m : Nat} {t : TK} {us ur : Value} {row : Option Nat} (h : MT w W p m t us ur) (hg : W.grownBy W' row) (hr : ∀ k, row = some k → m < k) : MT w W' p m t us ur := by
  have h1 := h.l1; have h2 := h.l2
  exact ⟨h.res.grown hg (fun e => by have := hr _ e.symm; omega), h.grp.grown hg (fun e => by have := hr _ e.symm; omega), ⟨h.tk.1.grown hg (fun e => by have := hr _ e.symm; omega), h.tk.2⟩, h.blw.grown hg h.blw.size (fun k e => by have := hr _ e; omega), h1, h2⟩
theorem MT.below {w W W' : World} {p m : Nat} {t : TK} {us ur : Value} (h : MT w W p m t us ur) (hb : Below W.heap.size W W') : MT w W' p m t us ur := ⟨h.res.below hb h.res.lt, h.grp.below hb h.grp.lt, h.tk.below hb, bstep h.blw hb, h.l1, h.l2⟩
theorem MT.set {w W : World} {p m : Nat} {t t' : TK} {us ur us' ur' : Value} (h : MT w W p m t us ur) (j : Nat) (v : Value) (e : (tkC t us ur).set j v = tkC t' us' ur') (ho : adOk t'.g) : MT w (W.setCell ⟨m, j, none⟩ v) p m t' us' ur' := by
  have h1 := h.l1; have h2 := h.l2
  have h3 : ObjAt (W.setCell ⟨m, j, none⟩ v) m (tkC t' us' ur').toArray 28 := by
    have := ObjAt.set h.tk.1 j v
    rw [List.setIfInBounds_toArray, e] at this
    exact this
  exact ⟨h.res.other _ _ (by simp; omega), h.grp.other _ _ (by simp; omega), ⟨h3, ho⟩, h.blw.setCell (p := ⟨m, j, none⟩) (by simp; omega) v, h1, h2⟩
theorem MT.start (w : World) : MT w (aggW ((aggW ((w.alloc (.cells #[.bool false, .int .i64 0, .int .i64 0, .int .i64 0, .bool false, .int .u8 0, .int .u8 0, .int .u8 0, .int .u8 0, .int .u8 0, .int .u8 0, .int .u8 0, .int .u8 0, .int .u8 0, .int .u8 0, .int .u8 0, .int .u8 0, .int .u8 0, .int .u8 0, .int .u8 0, .int .u8 0, .bool false, .int .i64 0, .int .i64 0, .slice none 0 0, .slice none 0 0] 28)).alloc (.cells #[.bool false, .int .u8 0, .int .u8 0, .int .u8 0, .int .u8 0, .int .u8 0, .int .u8 0, .int .u8 0, .int .u8 0, .int .u8 0, .int .u8 0, .int .u8 0, .int .u8 0, .int .u8 0, .int .u8 0, .int .u8 0, .int .u8 0] 24)) (w.heap.size + 1) (adC gA)).alloc (.cells #[.bool false, .int .i64 0, .int .i64 0, .int .i64 0, .bool false, .int .u8 0, .int .u8 0, .int .u8 0, .int .u8 0, .int .u8 0, .int .u8 0, .int .u8 0, .int .u8 0, .int .u8 0, .int .u8 0, .int .u8 0, .int .u8 0, .int .u8 0, .int .u8 0, .int .u8 0, .int .u8 0, .bool false, .int .i64 0, .int .i64 0, .slice none 0 0, .slice none 0 0] 28)) (aggW ((w.alloc (.cells #[.bool false, .int .i64 0, .int .i64 0, .int .i64 0, .bool false, .int .u8 0, .int .u8 0, .int .u8 0, .int .u8 0, .int .u8 0, .int .u8 0, .int .u8 0, .int .u8 0, .int .u8 0, .int .u8 0, .int .u8 0, .int .u8 0, .int .u8 0, .int .u8 0, .int .u8 0, .int .u8 0, .bool false, .int .i64 0, .int .i64 0, .slice none 0 0, .slice none 0 0] 28)).alloc (.cells #[.bool false, .int .u8 0, .int .u8 0, .int .u8 0, .int .u8 0, .int .u8 0, .int .u8 0, .int .u8 0, .int .u8 0, .int .u8 0, .int .u8 0, .int .u8 0, .int .u8 0, .int .u8 0, .int .u8 0, .int .u8 0, .int .u8 0] 24)) (w.heap.size + 1) (adC gA)).heap.size (tkC (qryT 0) (.slice none 0 0) (.slice none 0 0))) (w.heap.size + 1) (aggW ((w.alloc (.cells #[.bool false, .int .i64 0, .int .i64 0, .int .i64 0, .bool false, .int .u8 0, .int .u8 0, .int .u8 0, .int .u8 0, .int .u8 0, .int .u8 0, .int .u8 0, .int .u8 0, .int .u8 0, .int .u8 0, .int .u8 0, .int .u8 0, .int .u8 0, .int .u8 0, .int .u8 0, .int .u8 0, .bool false, .int .i64 0, .int .i64 0, .slice none 0 0, .slice none 0 0] 28)).alloc (.cells #[.bool false, .int .u8 0, .int .u8 0, .int .u8 0, .int .u8 0, .int .u8 0, .int .u8 0, .int .u8 0, .int .u8 0, .int .u8 0, .int .u8 0, .int .u8 0, .int .u8 0, .int .u8 0, .int .u8 0, .int .u8 0, .int .u8 0] 24)) (w.heap.size + 1) (adC gA)).heap.size (qryT 0) (.slice none 0 0) (.slice none 0 0) := by
  have s1 : (w.alloc (.cells #[.bool false, .int .i64 0, .int .i64 0, .int .i64 0, .bool false, .int .u8 0, .int .u8 0, .int .u8 0, .int .u8 0, .int .u8 0, .int .u8 0, .int .u8 0, .int .u8 0, .int .u8 0, .int .u8 0, .int .u8 0, .int .u8 0, .int .u8 0, .int .u8 0, .int .u8 0, .int .u8 0, .bool false, .int .i64 0, .int .i64 0, .slice none 0 0, .slice none 0 0] 28)).heap.size = w.heap.size + 1 := by simp
  have g0 := ObjAt.made (w.alloc (.cells #[.bool false, .int .i64 0, .int .i64 0, .int .i64 0, .bool false, .int .u8 0, .int .u8 0, .int .u8 0, .int .u8 0, .int .u8 0, .int .u8 0, .int .u8 0, .int .u8 0, .int .u8 0, .int .u8 0, .int .u8 0, .int .u8 0, .int .u8 0, .int .u8 0, .int .u8 0, .int .u8 0, .bool false, .int .i64 0, .int .i64 0, .slice none 0 0, .slice none 0 0] 28)) #[.bool false, .int .u8 0, .int .u8 0, .int .u8 0, .int .u8 0, .int .u8 0, .int .u8 0, .int .u8 0, .int .u8 0, .int .u8 0, .int .u8 0, .int .u8 0, .int .u8 0, .int .u8 0, .int .u8 0, .int .u8 0, .int .u8 0] 24
  rw [s1] at g0
  have g1 := aggW_obj (L := (#[.bool false, .int .u8 0, .int .u8 0, .int .u8 0, .int .u8 0, .int .u8 0, .int .u8 0, .int .u8 0, .int .u8 0, .int .u8 0, .int .u8 0, .int .u8 0, .int .u8 0, .int .u8 0, .int .u8 0, .int .u8 0, .int .u8 0] : Array Value).toList) (cs := adC gA) (by simpa using g0) rfl (addrC_one _ _)
  have r1 : ObjAt (aggW ((w.alloc (.cells #[.bool false, .int .i64 0, .int .i64 0, .int .i64 0, .bool false, .int .u8 0, .int .u8 0, .int .u8 0, .int .u8 0, .int .u8 0, .int .u8 0, .int .u8 0, .int .u8 0, .int .u8 0, .int .u8 0, .int .u8 0, .int .u8 0, .int .u8 0, .int .u8 0, .int .u8 0, .int .u8 0, .bool false, .int .i64 0, .int .i64 0, .slice none 0 0, .slice none 0 0] 28)).alloc (.cells #[.bool false, .int .u8 0, .int .u8 0, .int .u8 0, .int .u8 0, .int .u8 0, .int .u8 0, .int .u8 0, .int .u8 0, .int .u8 0, .int .u8 0, .int .u8 0, .int .u8 0, .int .u8 0, .int .u8 0, .int .u8 0, .int .u8 0] 24)) (w.heap.size + 1) (adC gA)) w.heap.size #[.bool false, .int .i64 0, .int .i64 0, .int .i64 0, .bool false, .int .u8 0, .int .u8 0, .int .u8 0, .int .u8 0, .int .u8 0, .int .u8 0, .int .u8 0, .int .u8 0, .int .u8 0, .int .u8 0, .int .u8 0, .int .u8 0, .int .u8 0, .int .u8 0, .int .u8 0, .int .u8 0, .bool false, .int .i64 0, .int .i64 0, .slice none 0 0, .slice none 0 0] 28 := aggW_other ((ObjAt.made w _ _).alloc _) _ (by omega)
  have b1 : Below w.heap.size w (aggW ((w.alloc (.cells #[.bool false, .int .i64 0, .int .i64 0, .int .i64 0, .bool false, .int .u8 0, .int .u8 0, .int .u8 0, .int .u8 0, .int .u8 0, .int .u8 0, .int .u8 0, .int .u8 0, .int .u8 0, .int .u8 0, .int .u8 0, .int .u8 0, .int .u8 0, .int .u8 0, .int .u8 0, .int .u8 0, .bool false, .int .i64 0, .int .i64 0, .slice none 0 0, .slice none 0 0] 28)).alloc (.cells #[.bool false, .int .u8 0, .int .u8 0, .int .u8 0, .int .u8 0, .int .u8 0, .int .u8 0, .int .u8 0, .int .u8 0, .int .u8 0, .int .u8 0, .int .u8 0, .int .u8 0, .int .u8 0, .int .u8 0, .int .u8 0, .int .u8 0] 24)) (w.heap.size + 1) (adC gA)) := aggW_below (((Below.refl _ _).alloc (Nat.le_refl _) _).alloc (by simp) _) (by omega) _
  generalize aggW ((w.alloc (.cells #[.bool false, .int .i64 0, .int .i64 0, .int .i64 0, .bool false, .int .u8 0, .int .u8 0, .int .u8 0, .int .u8 0, .int .u8 0, .int .u8 0, .int .u8 0, .int .u8 0, .int .u8 0, .int .u8 0, .int .u8 0, .int .u8 0, .int .u8 0, .int .u8 0, .int .u8 0, .int .u8 0, .bool false, .int .i64 0, .int .i64 0, .slice none 0 0, .slice none 0 0] 28)).alloc (.cells #[.bool false, .int .u8 0, .int .u8 0, .int .u8 0, .int .u8 0, .int .u8 0, .int .u8 0, .int .u8 0, .int .u8 0, .int .u8 0, .int .u8 0, .int .u8 0, .int .u8 0, .int .u8 0, .int .u8 0, .int .u8 0, .int .u8 0] 24)) (w.heap.size + 1) (adC gA) = V at *
  have l1 := g1.lt
  have l0 := r1.lt
  have t0 := ObjAt.made V #[.bool false, .int .i64 0, .int .i64 0, .int .i64 0, .bool false, .int .u8 0, .int .u8 0, .int .u8 0, .int .u8 0, .int .u8 0, .int .u8 0, .int .u8 0, .int .u8 0, .int .u8 0, .int .u8 0, .int .u8 0, .int .u8 0, .int .u8 0, .int .u8 0, .int .u8 0, .int .u8 0, .bool false, .int .i64 0, .int .i64 0, .slice none 0 0, .slice none 0 0] 28
  exact ⟨aggW_other (r1.alloc _) _ (by omega), aggW_other (g1.alloc _) _ (by omega), ⟨aggW_obj (L := (#[.bool false, .int .i64 0, .int .i64 0, .int .i64 0, .bool false, .int .u8 0, .int .u8 0, .int .u8 0, .int .u8 0, .int .u8 0, .int .u8 0, .int .u8 0, .int .u8 0, .int .u8 0, .int .u8 0, .int .u8 0, .int .u8 0, .int .u8 0, .int .u8 0, .int .u8 0, .int .u8 0, .bool false, .int .i64 0, .int .i64 0, .slice none 0 0, .slice none 0 0] : Array Value).toList) (by simpa using t0) rfl (tkC_one rfl rfl), gA_ok⟩, aggW_below (b1.alloc b1.size _) (by omega) _, by omega, by omega⟩
/-- What is read of it. -/
theorem MT.cells {w W : World} {p m : Nat} {t : TK} {us ur : Value} (h : MT w W p m t us ur) : W.cell? ⟨m, 2, none⟩ = some (.int .i64 t.kind) ∧ W.cell? ⟨m, 24, none⟩ = some us ∧ W.cell? ⟨m, 25, none⟩ = some ur ∧ row? W p 0 17 = some (adC gA) ∧ row? W m 0 26 = some (tkC t us ur) ∧ (∀ j, W.frozen? ⟨m, j, none⟩ = false) ∧ free? W w.heap.size 0 26 = true :=
  ⟨h.tk.kind, h.tk.us, h.tk.ur, obj_rowk (A := []) (M := adC gA) (C := []) (by simpa using h.grp) rfl rfl, h.tk.row, fun j => ObjAt.free h.tk.1 j, obj_free h.res (by simp)⟩
theorem MT.done {w W : World} {p m : Nat} {t : TK} {us ur : Value} (h : MT w W p m t us ur) (hs : AdsT W us t.src) (hr : RcT W ur t.rcs) :
    row? (aggW W w.heap.size (tkC t us ur)) w.heap.size 0 26 = some (tkC t us ur) ∧ Below w.heap.size w (aggW W w.heap.size (tkC t us ur)) ∧ AdsT (aggW W w.heap.size (tkC t us ur)) us t.src ∧ RcT (aggW W w.heap.size (tkC t us ur)) ur t.rcs :=
  ⟨aggW_row (obj_free h.res (by simp)) (tkC_length h.tk.2 _ _), aggW_below h.blw (Nat.le_refl _) _, hs.grown h.res (aggW_grown _ _ _), hr.grown h.res (aggW_grown _ _ _)⟩
theorem MT.other {w W : World} {p m : Nat} {us ur : Value} (h : MT w W p m (qryT 0) us ur) : MT w (aggO (W.setCell ⟨m, 2, none⟩ (.int .i64 2)) m 4 (adC zeroA)) p m (repT 0) us ur := by
  have h1 := h.set 2 (.int .i64 2) (tkC_kind _ _ _ _) gA_ok
  have l1 := h.l1; have l2 := h.l2
  have h2 := aggO_obj (o := 4) (cs := adC zeroA) h1.tk.1 (by rw [tkC_length gA_ok]; decide) (addrC_one _ _)
  exact ⟨aggO_other h1.res _ (by omega), aggO_other h1.grp _ (by omega), ⟨h2, zeroA_ok⟩, aggO_below h1.blw (by omega) _ _, l1, l2⟩
theorem MT.free4 {w W : World} {p m : Nat} {us ur : Value} (h : MT w W p m (qryT 0) us ur) : free? (W.setCell ⟨m, 2, none⟩ (.int .i64 2)) m 4 17 = true := by
  have h1 := (h.set 2 (.int .i64 2) (tkC_kind _ _ _ _) gA_ok).tk.1
  refine free_of fun j hj => ⟨?_, h1.free (4 + j)⟩
  rw [h1.cell (4 + j), Array.getElem?_eq_getElem (by rw [List.size_toArray]; exact (show 4 + j < 26 by omega))]; rfl
theorem RQ.grownT {base : Nat} {w w' : World} {v : Value} {q : List (RC × Value)} {m : Nat} {L : Array Value} (h : RQ base w v q) (hm : ObjAt w m L 28) (hg : w.grownBy w' (some m)) : RQ base w' v q := by
  obtain ⟨h1, h2⟩ := h
  refine ⟨own_grown h1 hm hg, fun x hx => ?_⟩
  obtain ⟨a, b, c⟩ := h2 x hx
  exact ⟨a, b.grown hg (c.farT hm), c.grown hg (c.farT hm)⟩
theorem own_grownA {w w' : World} {base n m : Nat} {v : Value} {xs : List Value} {L : Array Value} (h : w.ownsRow base 24 17 v n xs) (hm : ObjAt w m L 28) (hg : w.grownBy w' (some m)) : w'.ownsRow base 24 17 v n xs := by
  obtain ⟨h1, h2 | ⟨g, cap, cur, e1, e2, e3, e4⟩⟩ := h
  · exact ⟨h1, .inl h2⟩
  · refine ⟨h1, .inr ⟨g, cap, cur, e1, e2, (hg.block g (Array.getElem?_eq_some_iff.1 e3).1 ?_).trans e3, e4⟩⟩
    intro hb
    simp only [Option.some.injEq] at hb
    subst hb
    unfold ObjAt at hm
    rw [e3] at hm
    simp at hm
theorem own_ge {w : World} {base n k : Nat} {e : TypeId} {size : Nat} {v : Value} {xs : List Value} (h : w.ownsRow base e size v n xs) (hk : v.ownBlock = some k) : base ≤ k := by
  obtain ⟨_, h2 | ⟨g, cap, cur, e1, e2, _⟩⟩ := h
  · rw [h2.1] at hk; cases hk
  · rw [e1] at hk; simp only [Value.ownBlock, Option.some.injEq] at hk; omega
theorem own_slice {w : World} {base n : Nat} {e : TypeId} {size : Nat} {v : Value} {xs : List Value} (h : w.ownsRow base e size v n xs) : ∃ pp c, v = .slice pp n c := by
  obtain ⟨_, h2 | ⟨g, cap, cur, e1, _⟩⟩ := h
  · obtain ⟨rfl, rfl⟩ := h2; exact ⟨_, _, rfl⟩
  · exact ⟨_, _, e1⟩

end Go.Proofs.Ytgpccgcppbdlpaa

/-
  Texts joined: IgB, IgC, IgP, MgP, Ge, MgD, MgS, MgM, MgN, MgO.
-/
import Derived.Test.YtlkihfmojnghhaaMg30
import Derived.Test.YtlkihfmojnghhaaCodP
import Derived.Test.YtlkihfmojnghhaaMg27
import Derived.Test.YtlkihfmojnghhaaIp
import Derived.Test.YtlkihfmojnghhaaMg22
/-
  The contracts of igmp's Same (with slices.Equal, slices.EqualFunc and its comparison) and Good.
-/
namespace Go.Proofs.Ytlkihfmojnghhaa
open Go.RowKit
set_option linter.unusedVariables false
set_option linter.unusedSimpArgs false
attribute [local go_sem ↓] ld_addr
attribute [local go_sem] ldr_addr row?_drewN_eq row?_drew_eq

/-- Two records boxed. -/
def R2 (w W : World) (x y : RC) (u v : Value) : Prop := RcU W w.heap.size 0 x u ∧ RcU W (w.heap.size + 1) 0 y v ∧ Below w.heap.size w W
theorem R2.made (w : World) (x y : RC) (u v : Value) (hx : adOk x.g) (hy : adOk y.g) (ax : Ads w u x.src) (ay : Ads w v y.src) : R2 w ((w.alloc (.cells (rcC x u).toArray 55)).alloc (.cells (rcC y v).toArray 55)) x y u v := by
  have s1 : (w.alloc (.cells (rcC x u).toArray 55)).heap.size = w.heap.size + 1 := by simp
  obtain ⟨h1, b1⟩ := RB8.made w x u hx ax
  obtain ⟨h2, b2⟩ := RB8.made (w.alloc (.cells (rcC x u).toArray 55)) y v hy (ay.below b1)
  rw [s1] at h2 b2
  exact ⟨h1.below (by rw [s1]; exact b2), h2, bstep b1 (by rw [s1]; exact b2)⟩
end Go.Proofs.Ytlkihfmojnghhaa

/-
  The contract of igmp's Same.
-/
namespace Go.Proofs.Ytlkihfmojnghhaa
open Go.RowKit
set_option linter.unusedVariables false
set_option linter.unusedSimpArgs false
attribute [local go_sem ↓] ld_addr
attribute [local go_sem] ldr_addr row?_drewN_eq row?_drew_eq

end Go.Proofs.Ytlkihfmojnghhaa

/-
  Whether a talk is good, as the program asks it: what its kind asks, and that it is nothing but the fields that its kind has. Plain.
-/
namespace Go.Proofs.Ytlkihfmojnghhaa
open Go.RowKit
set_option linter.unusedVariables false
set_option linter.unusedSimpArgs false

end Go.Proofs.Ytlkihfmojnghhaa

/-
  Whether a talk of MLD is good, as the program asks it: what its kind asks, and that it is nothing but the fields that its kind has. Plain.
-/
namespace Go.Proofs.Ytlkihfmojnghhaa
open Go.RowKit
set_option linter.unusedVariables false
set_option linter.unusedSimpArgs false

end Go.Proofs.Ytlkihfmojnghhaa

/-
  A talk boxed first of all, and another one beside it.
-/
namespace Go.Proofs.Ytlkihfmojnghhaa
open Go.RowKit
set_option linter.unusedVariables false
set_option linter.unusedSimpArgs false
/-- The talk boxed first of all, and another one in block m. -/
structure GE (w W : World) (m : Nat) (t : TK) (us ur : Value) (e : TK) (se re : Value) : Prop where
  tk : TkAt W w.heap.size t us ur
  ek : TkAt W m e se re
  blw : Below w.heap.size w W
  lt : w.heap.size < m
theorem GE.below {w W W' : World} {m : Nat} {t e : TK} {us ur se re : Value} (h : GE w W m t us ur e se re) (hb : Below W.heap.size W W') : GE w W' m t us ur e se re := ⟨h.tk.below hb, h.ek.below hb, bstep h.blw hb, h.lt⟩
theorem GE.set {w W : World} {m : Nat} {t e e' : TK} {us ur se re se' re' : Value} (h : GE w W m t us ur e se re) (j : Nat) (v : Value) (he : (tkC e se re).set j v = tkC e' se' re') (ho : adOk e'.g) : GE w (W.setCell ⟨m, j, none⟩ v) m t us ur e' se' re' := by
  have hlt := h.lt
  have h1 : ObjAt (W.setCell ⟨m, j, none⟩ v) m (tkC e' se' re').toArray 35 := by
    have := ObjAt.set h.ek.1 j v
    rw [List.setIfInBounds_toArray, he] at this
    exact this
  exact ⟨⟨h.tk.1.other _ _ (by simp; omega), h.tk.2⟩, ⟨h1, ho⟩, h.blw.setCell (p := ⟨m, j, none⟩) (by simp; omega) v, h.lt⟩
def GEC (w W : World) (m : Nat) (t : TK) (us ur : Value) (e : TK) (se re : Value) : Prop :=
  W.cell? ⟨w.heap.size, 1, none⟩ = some (.int .i64 t.ver) ∧ W.cell? ⟨w.heap.size, 2, none⟩ = some (.int .i64 t.kind) ∧ W.cell? ⟨w.heap.size, 3, none⟩ = some (.int .i64 t.resp) ∧ row? W w.heap.size 4 17 = some (adC t.g) ∧ W.cell? ⟨w.heap.size, 21, none⟩ = some (.bool t.quiet) ∧ W.cell? ⟨w.heap.size, 22, none⟩ = some (.int .i64 t.rob) ∧ W.cell? ⟨w.heap.size, 23, none⟩ = some (.int .i64 t.every) ∧ W.cell? ⟨w.heap.size, 24, none⟩ = some us ∧ W.cell? ⟨w.heap.size, 25, none⟩ = some ur ∧ row? W w.heap.size 0 26 = some (tkC t us ur) ∧ row? W m 0 26 = some (tkC e se re)
theorem GE.cells {w W : World} {m : Nat} {t e : TK} {us ur se re : Value} (h : GE w W m t us ur e se re) : GEC w W m t us ur e se re :=
  ⟨h.tk.ver, h.tk.kind, h.tk.resp, h.tk.rg, h.tk.quiet, h.tk.rob, h.tk.every, h.tk.us, h.tk.ur, h.tk.row, h.ek.row⟩
theorem GE.drew {w W : World} {m : Nat} {t e : TK} {us ur se re : Value} (h : GE w W m t us ur e se re) : GE w W.drew m t us ur e se re := ⟨h.tk, h.ek, (bdrewN h.blw 1), h.lt⟩
end Go.Proofs.Ytlkihfmojnghhaa

/-
  The contract of mld's Good.
-/
namespace Go.Proofs.Ytlkihfmojnghhaa
open Go.RowKit
set_option linter.unusedVariables false
set_option linter.unusedSimpArgs false
end Go.Proofs.Ytlkihfmojnghhaa

/-
  The contract of mld's report.
-/
namespace Go.Proofs.Ytlkihfmojnghhaa
open Go.RowKit
set_option linter.unusedVariables false
set_option linter.unusedSimpArgs false
attribute [local go_sem ↓] ld_addr st_addr bld_addr ld_rec st_rec bld_rec ld_tk st_tk bld_tk rcsLit_eq
attribute [local go_sem] ldr_addr str_addr str_addr_at ldr_rec str_rec ldr_tk str_tk row?_drew_eq

theorem RQ.far9 {base : Nat} {w w' : World} {v : Value} {q : List (RC × Value)} {m : Nat} {L : Array Value} {T : TypeId} (h : RQ base w v q) (hm : ObjAt w m L T) (h1 : T ≠ 31) (h2 : T ≠ 55) (hg : w.grownBy w' (some m)) : RQ base w' v q := by
  refine ⟨own_keep9 h.1 (fun g hgg => ?_), fun x hx => ?_⟩
  · have hne := row_ne9 h.1 hm h2.symm
    refine hg.block g ?_ (fun e => hne (by rw [hgg, e]))
    obtain ⟨_, q2 | ⟨g', cap, cur, q1, q2, q3, _⟩⟩ := h.1
    · rw [q2.1] at hgg; simp [Value.ownBlock] at hgg
    · rw [q1] at hgg; simp only [Value.ownBlock, Option.some.injEq] at hgg; subst hgg; exact (Array.getElem?_eq_some_iff.1 q3).1
  · obtain ⟨a, b, c⟩ := h.2 x hx
    have := AdsT.far9 (l := x.1.src) ⟨b, c⟩ hm h1 hg
    exact ⟨a, this.1, this.2⟩
theorem RS9.good {s : List UInt8} {n i m : Nat} {acc : List RC} (h : RS9 s n i (m + 1) acc) (he : recQE9 s i = 0) : recN9 s i ≤ s.length ∧ RS9 s n (recN9 s i) m (if rcOk9 (rec9 s i) then acc ++ [rec9 s i] else acc) := by
  unfold recQE9 at he
  by_cases a1 : s.length < i + 20
  · rw [if_pos a1] at he; cases he
  rw [if_neg a1] at he
  by_cases a2 : srcsE9 s (i + 20) (wd s (i + 2)) = 0
  · rw [if_neg (by rw [a2]; simp)] at he
    by_cases a3 : s.length < recN9 s i
    · rw [if_pos a3] at he; cases he
    · exact ⟨by omega, RS9.step h a1 a2 a3⟩
  · rw [if_pos a2] at he; exact absurd he a2
end Go.Proofs.Ytlkihfmojnghhaa

/-
  The contract of mld's member.
-/
namespace Go.Proofs.Ytlkihfmojnghhaa
open Go.RowKit
set_option linter.unusedVariables false
set_option linter.unusedSimpArgs false
attribute [local go_sem ↓] ld_addr st_addr bld_addr ld_tk st_tk bld_tk
attribute [local go_sem] ldr_addr str_addr str_addr_at ldr_tk str_tk row?_drew_eq

theorem RcT.far9 {w w' : World} {v : Value} {l : List RC} {m : Nat} {L : Array Value} {T : TypeId} (h : RcT w v l) (hm : ObjAt w m L T) (h1 : T ≠ 31) (h2 : T ≠ 55) (hg : w.grownBy w' (some m)) : RcT w' v l := by
  obtain ⟨base, q, h3, h4⟩ := h
  exact ⟨base, q, h3.far9 hm h1 h2 hg, h4⟩
end Go.Proofs.Ytlkihfmojnghhaa

/-
  The contract of mld's queryMore.
-/
namespace Go.Proofs.Ytlkihfmojnghhaa
open Go.RowKit
set_option linter.unusedVariables false
set_option linter.unusedSimpArgs false
attribute [local go_sem ↓] ld_addr st_addr bld_addr ld_tk st_tk bld_tk
attribute [local go_sem] ldr_addr str_addr str_addr_at ldr_tk str_tk row?_drew_eq

attribute [local go_sem] row?_drewN_eq
end Go.Proofs.Ytlkihfmojnghhaa

/-
  The contract of mld's query.
-/
namespace Go.Proofs.Ytlkihfmojnghhaa
open Go.RowKit
set_option linter.unusedVariables false
set_option linter.unusedSimpArgs false
attribute [local go_sem ↓] ld_addr st_addr bld_addr ld_tk st_tk bld_tk
attribute [local go_sem] ldr_addr str_addr str_addr_at ldr_tk str_tk row?_drew_eq

end Go.Proofs.Ytlkihfmojnghhaa


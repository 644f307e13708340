/-
  Texts joined: CodP, IgB, IgC, IgP, MgP, Ge.
-/
import Derived.Test.YtacnhelnpngkgaaCodR
import Derived.Lib.BitFns
import Derived.Lib.Tables
import Derived.Deep.Cut
import Derived.Test.YtacnhelnpngkgaaMg36
import Derived.Test.YtacnhelnpngkgaaMg27
import Derived.Test.YtacnhelnpngkgaaIp
/-
  The contracts of package code: firstShifted, lastCode, value, code, Value8, Value16, Code8, Code16, Exact8, Exact16.
-/
namespace Go.Proofs.Ytacnhelnpngkgaa
open Go.RowKit
set_option linter.unusedVariables false
end Go.Proofs.Ytacnhelnpngkgaa

/-
  The contracts of igmp's Same (with slices.Equal, slices.EqualFunc and its comparison) and Good.
-/
namespace Go.Proofs.Ytacnhelnpngkgaa
open Go.RowKit
set_option linter.unusedVariables false
set_option linter.unusedSimpArgs false
attribute [local go_sem ↓] ld_addr
attribute [local go_sem] ldr_addr row?_drewN_eq row?_drew_eq

/-- Two records boxed. -/
def R2 (w W : World) (x y : RC) (u v : Value) : Prop := RcU W w.heap.size 0 x u ∧ RcU W (w.heap.size + 1) 0 y v ∧ Below w.heap.size w W
theorem R2.made (w : World) (x y : RC) (u v : Value) (hx : adOk x.g) (hy : adOk y.g) (ax : Ads w u x.src) (ay : Ads w v y.src) : R2 w ((w.alloc (.cells (rcC x u).toArray 40)).alloc (.cells (rcC y v).toArray 40)) x y u v := by
  have s1 : (w.alloc (.cells (rcC x u).toArray 40)).heap.size = w.heap.size + 1 := by simp
  obtain ⟨h1, b1⟩ := RB8.made w x u hx ax
  obtain ⟨h2, b2⟩ := RB8.made (w.alloc (.cells (rcC x u).toArray 40)) y v hy (ay.below b1)
  rw [s1] at h2 b2
  exact ⟨h1.below (by rw [s1]; exact b2), h2, bstep b1 (by rw [s1]; exact b2)⟩
end Go.Proofs.Ytacnhelnpngkgaa

/-
  The contract of igmp's Same.
-/
namespace Go.Proofs.Ytacnhelnpngkgaa
open Go.RowKit
set_option linter.unusedVariables false
set_option linter.unusedSimpArgs false
attribute [local go_sem ↓] ld_addr
attribute [local go_sem] ldr_addr row?_drewN_eq row?_drew_eq

end Go.Proofs.Ytacnhelnpngkgaa

/-
  Whether a talk is good, as the program asks it: what its kind asks, and that it is nothing but the fields that its kind has. Plain.
-/
namespace Go.Proofs.Ytacnhelnpngkgaa
open Go.RowKit
set_option linter.unusedVariables false
set_option linter.unusedSimpArgs false

end Go.Proofs.Ytacnhelnpngkgaa

/-
  Whether a talk of MLD is good, as the program asks it: what its kind asks, and that it is nothing but the fields that its kind has. Plain.
-/
namespace Go.Proofs.Ytacnhelnpngkgaa
open Go.RowKit
set_option linter.unusedVariables false
set_option linter.unusedSimpArgs false

end Go.Proofs.Ytacnhelnpngkgaa

/-
  A talk boxed first of all, and another one beside it.
-/
namespace Go.Proofs.Ytacnhelnpngkgaa
open Go.RowKit
set_option linter.unusedVariables false
set_option linter.unusedSimpArgs false
/-- The talk boxed first of all, and another one in block m. -/
structure GE (w W : World) (m : Nat) (t : TK) (us ur : Value) (e : TK) (se re : Value) : Prop where
  tk : TkAt W w.heap.size t us ur
  ek : TkAt W m e se re
  blw : Below w.heap.size w W
  lt : w.heap.size < m
theorem GE.below {w W W' : World} {m : Nat} {t e : TK} {us ur se re : Value} (h : GE w W m t us ur e se re) (hb : Below W.heap.size W W') : GE w W' m t us ur e se re := ⟨h.tk.below hb, h.ek.below hb, bstep h.blw hb, h.lt⟩
theorem GE.set {w W : World} {m : Nat} {t e e' : TK} {us ur se re se' re' : Value} (h : GE w W m t us ur e se re) (j : Nat) (v : Value) (he : (tkC e se re).set j v = tkC e' se' re') (ho : adOk e'.g) : GE w (W.setCell ⟨m, j, none⟩ v) m t us ur e' se' re' := by
  have hlt := h.lt
  have h1 : ObjAt (W.setCell ⟨m, j, none⟩ v) m (tkC e' se' re').toArray 28 := by
    have := ObjAt.set h.ek.1 j v
    rw [List.setIfInBounds_toArray, he] at this
    exact this
  exact ⟨⟨h.tk.1.other _ _ (by simp; omega), h.tk.2⟩, ⟨h1, ho⟩, h.blw.setCell (p := ⟨m, j, none⟩) (by simp; omega) v, h.lt⟩
theorem tkC_grp (e : TK) (se re : Value) (ho : adOk e.g) (a : AD) (ha : adOk a) : over (tkC e se re) 4 (adC a) = tkC ⟨e.v6, e.ver, e.kind, e.resp, a, e.quiet, e.rob, e.every, e.src, e.rcs⟩ se re := by
  unfold over tkC
  have l1 := adC_length ho
  have l2 := adC_length ha
  rw [l2]
  simp only [List.cons_append, List.nil_append, List.take_succ_cons, List.take_zero, List.drop_succ_cons]
  rw [List.drop_append_of_le_length (by omega), List.drop_of_length_le (by omega)]
  simp
theorem GE.grp {w W : World} {m : Nat} {t e : TK} {us ur se re : Value} (h : GE w W m t us ur e se re) (a : AD) (ha : adOk a) : GE w (aggO W m 4 (adC a)) m t us ur ⟨e.v6, e.ver, e.kind, e.resp, a, e.quiet, e.rob, e.every, e.src, e.rcs⟩ se re := by
  have hlt := h.lt
  have l1 := tkC_length h.ek.2 se re
  have h1 := aggO_obj (o := 4) (cs := adC a) h.ek.1 (by rw [l1, adC_length ha]; omega) (addrC_one _ _)
  rw [tkC_grp e se re h.ek.2 a ha] at h1
  exact ⟨⟨aggO_other h.tk.1 _ (by omega), h.tk.2⟩, ⟨h1, ha⟩, aggO_below h.blw (by omega) _ _, h.lt⟩
def GEC (w W : World) (m : Nat) (t : TK) (us ur : Value) (e : TK) (se re : Value) : Prop :=
  W.cell? ⟨w.heap.size, 1, none⟩ = some (.int .i64 t.ver) ∧ W.cell? ⟨w.heap.size, 2, none⟩ = some (.int .i64 t.kind) ∧ W.cell? ⟨w.heap.size, 3, none⟩ = some (.int .i64 t.resp) ∧ row? W w.heap.size 4 17 = some (adC t.g) ∧ W.cell? ⟨w.heap.size, 21, none⟩ = some (.bool t.quiet) ∧ W.cell? ⟨w.heap.size, 22, none⟩ = some (.int .i64 t.rob) ∧ W.cell? ⟨w.heap.size, 23, none⟩ = some (.int .i64 t.every) ∧ W.cell? ⟨w.heap.size, 24, none⟩ = some us ∧ W.cell? ⟨w.heap.size, 25, none⟩ = some ur ∧ row? W w.heap.size 0 26 = some (tkC t us ur) ∧ row? W m 0 26 = some (tkC e se re)
theorem GE.cells {w W : World} {m : Nat} {t e : TK} {us ur se re : Value} (h : GE w W m t us ur e se re) : GEC w W m t us ur e se re :=
  ⟨h.tk.ver, h.tk.kind, h.tk.resp, h.tk.rg, h.tk.quiet, h.tk.rob, h.tk.every, h.tk.us, h.tk.ur, h.tk.row, h.ek.row⟩
theorem GE.drew {w W : World} {m : Nat} {t e : TK} {us ur se re : Value} (h : GE w W m t us ur e se re) : GE w W.drew m t us ur e se re := ⟨h.tk, h.ek, (bdrewN h.blw 1), h.lt⟩
end Go.Proofs.Ytacnhelnpngkgaa


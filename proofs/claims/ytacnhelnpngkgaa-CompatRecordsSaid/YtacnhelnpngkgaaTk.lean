/-
  Talks in memory, and the document's own comparison of two.
-/
import Derived.Test.YtacnhelnpngkgaaRcs
namespace Go.Proofs.Ytacnhelnpngkgaa
open Go.RowKit
set_option linter.unusedVariables false

/-- A talk as plain data. -/
structure TK where
  v6 : Bool
  ver : Int
  kind : Int
  resp : Int
  g : AD
  quiet : Bool
  rob : Int
  every : Int
  src : List AD
  rcs : List RC
  deriving DecidableEq
def tkC (t : TK) (us ur : Value) : List Value := [.bool t.v6, .int .i64 t.ver, .int .i64 t.kind, .int .i64 t.resp] ++ (adC t.g ++ [.bool t.quiet, .int .i64 t.rob, .int .i64 t.every, us, ur])
theorem tkC_length {t : TK} (h : adOk t.g) (us ur : Value) : (tkC t us ur).length = 26 := by unfold tkC; simp [adC_length h]
theorem obj_rowk {w : World} {b o n : Nat} {A M C : List Value} {t : TypeId} (h : ObjAt w b (A ++ (M ++ C)).toArray t) (ho : A.length = o) (hn : M.length = n) : row? w b o n = some M := obj_row h ho hn
/-- A talk in block b, whole. -/
def TkAt (W : World) (b : Nat) (t : TK) (us ur : Value) : Prop := ObjAt W b (tkC t us ur).toArray 28 ∧ adOk t.g
theorem TkAt.n {W : World} {b : Nat} {t : TK} {us ur : Value} (h : TkAt W b t us ur) (j : Nat) (x : Value) (hx : [Value.bool t.v6, .int .i64 t.ver, .int .i64 t.kind, .int .i64 t.resp][j]? = some x) : W.cell? ⟨b, j, none⟩ = some x := by
  have hj : j < 4 := (List.getElem?_eq_some_iff.1 hx).1
  rw [ObjAt.cell h.1, List.getElem?_toArray]
  unfold tkC
  rw [List.getElem?_append_left hj]
  exact hx
theorem TkAt.e {W : World} {b : Nat} {t : TK} {us ur : Value} (h : TkAt W b t us ur) (j : Nat) (x : Value) (hx : [Value.bool t.quiet, .int .i64 t.rob, .int .i64 t.every, us, ur][j]? = some x) : W.cell? ⟨b, 21 + j, none⟩ = some x := by
  rw [ObjAt.cell h.1, List.getElem?_toArray]
  unfold tkC
  rw [List.getElem?_append_right (by simp; omega), List.getElem?_append_right (by simp [adC_length h.2]; omega)]
  simp only [List.length_cons, List.length_nil, adC_length h.2]
  rw [show 21 + j - (0 + 1 + 1 + 1 + 1) - 17 = j by omega]
  exact hx
theorem TkAt.v6 {W : World} {b : Nat} {t : TK} {us ur : Value} (h : TkAt W b t us ur) : W.cell? ⟨b, 0, none⟩ = some (.bool t.v6) := h.n 0 _ rfl
theorem TkAt.ver {W : World} {b : Nat} {t : TK} {us ur : Value} (h : TkAt W b t us ur) : W.cell? ⟨b, 1, none⟩ = some (.int .i64 t.ver) := h.n 1 _ rfl
theorem TkAt.kind {W : World} {b : Nat} {t : TK} {us ur : Value} (h : TkAt W b t us ur) : W.cell? ⟨b, 2, none⟩ = some (.int .i64 t.kind) := h.n 2 _ rfl
theorem TkAt.resp {W : World} {b : Nat} {t : TK} {us ur : Value} (h : TkAt W b t us ur) : W.cell? ⟨b, 3, none⟩ = some (.int .i64 t.resp) := h.n 3 _ rfl
theorem TkAt.quiet {W : World} {b : Nat} {t : TK} {us ur : Value} (h : TkAt W b t us ur) : W.cell? ⟨b, 21, none⟩ = some (.bool t.quiet) := h.e 0 _ rfl
theorem TkAt.rob {W : World} {b : Nat} {t : TK} {us ur : Value} (h : TkAt W b t us ur) : W.cell? ⟨b, 22, none⟩ = some (.int .i64 t.rob) := h.e 1 _ rfl
theorem TkAt.every {W : World} {b : Nat} {t : TK} {us ur : Value} (h : TkAt W b t us ur) : W.cell? ⟨b, 23, none⟩ = some (.int .i64 t.every) := h.e 2 _ rfl
theorem TkAt.us {W : World} {b : Nat} {t : TK} {us ur : Value} (h : TkAt W b t us ur) : W.cell? ⟨b, 24, none⟩ = some us := h.e 3 _ rfl
theorem TkAt.ur {W : World} {b : Nat} {t : TK} {us ur : Value} (h : TkAt W b t us ur) : W.cell? ⟨b, 25, none⟩ = some ur := h.e 4 _ rfl
theorem TkAt.rg {W : World} {b : Nat} {t : TK} {us ur : Value} (h : TkAt W b t us ur) : row? W b 4 17 = some (adC t.g) :=
  obj_rowk (A := [.bool t.v6, .int .i64 t.ver, .int .i64 t.kind, .int .i64 t.resp]) (M := adC t.g) (C := [.bool t.quiet, .int .i64 t.rob, .int .i64 t.every, us, ur]) (by simpa [tkC] using h.1) rfl (adC_length h.2)
theorem TkAt.row {W : World} {b : Nat} {t : TK} {us ur : Value} (h : TkAt W b t us ur) : row? W b 0 26 = some (tkC t us ur) :=
  obj_rowk (A := []) (M := tkC t us ur) (C := []) (by simpa using h.1) rfl (tkC_length h.2 _ _)
theorem TkAt.below {W W' : World} {b : Nat} {t : TK} {us ur : Value} (h : TkAt W b t us ur) (hb : Below W.heap.size W W') : TkAt W' b t us ur := ⟨ObjAt.below h.1 hb h.1.lt, h.2⟩
theorem TkAt.made (w : World) (t : TK) (us ur : Value) (h : adOk t.g) : TkAt (w.alloc (.cells (tkC t us ur).toArray 28)) w.heap.size t us ur := ⟨ObjAt.made w _ _, h⟩
/-- A talk's cells by value. -/
def Tks (w : World) (cs : List Value) (t : TK) : Prop := adOk t.g ∧ ∃ us ur, cs = tkC t us ur ∧ Ads w us t.src ∧ Rcs w ur t.rcs
theorem Tks.below {w w' : World} {cs : List Value} {t : TK} (h : Tks w cs t) (hb : Below w.heap.size w w') : Tks w' cs t := by
  obtain ⟨h1, us, ur, h2, h3, h4⟩ := h
  exact ⟨h1, us, ur, h2, h3.below hb, h4.below hb⟩
/-- The shape of a talk that came in. -/
def talkS := pairS 1 boolS (pairS 1 (intS .i64) (pairS 1 (intS .i64) (pairS 1 (intS .i64) (pairS 17 addrS (pairS 1 boolS (pairS 1 (intS .i64) (pairS 1 (intS .i64) (pairS 1 (sliceS 17 addrS) (pairS 1 (sliceS 19 recS) unitS)))))))))
theorem opens_talkS : Opens Try.prog 28 talkS :=
  opens_struct Try.underlying28 (opens_cons rfl (by kernel_rfl) (of_decide_eq_true (by kernel_rfl)) (opens_bool Try.underlying4)
    (opens_cons rfl (by kernel_rfl) (of_decide_eq_true (by kernel_rfl)) (opens_int Try.underlying3)
    (opens_cons rfl (by kernel_rfl) (of_decide_eq_true (by kernel_rfl)) (opens_int Try.underlying3)
    (opens_cons rfl (by kernel_rfl) (of_decide_eq_true (by kernel_rfl)) (opens_int Try.underlying3)
    (opens_cons rfl (by kernel_rfl) (of_decide_eq_true (by kernel_rfl)) opens_addrS
    (opens_cons rfl (by kernel_rfl) (of_decide_eq_true (by kernel_rfl)) (opens_bool Try.underlying4)
    (opens_cons rfl (by kernel_rfl) (of_decide_eq_true (by kernel_rfl)) (opens_int Try.underlying3)
    (opens_cons rfl (by kernel_rfl) (of_decide_eq_true (by kernel_rfl)) (opens_int Try.underlying3)
    (opens_cons rfl (by kernel_rfl) (of_decide_eq_true (by kernel_rfl)) (opens_slice Try.underlying25 (by kernel_rfl) (by omega) opens_addrS)
    (opens_cons rfl (by kernel_rfl) (of_decide_eq_true (by kernel_rfl)) (opens_slice Try.underlying26 (by kernel_rfl) (by omega) opens_recS)
    (opens_nil (by kernel_rfl))))))))))))
theorem talkS_cells {w : World} {cs : List Value} {x : _} (h : talkS w cs x) : ∃ t : TK, Tks w cs t := by
  obtain ⟨c0, d0, rfl, _, h0, c1, d1, rfl, _, h1, c2, d2, rfl, _, h2, c3, d3, rfl, _, h3, c4, d4, rfl, _, h4, c5, d5, rfl, _, h5, c6, d6, rfl, _, h6, c7, d7, rfl, _, h7, c8, d8, rfl, l8, h8, c9, d9, rfl, l9, h9, ha⟩ := h
  have e0 : c0 = [.bool _] := h0
  obtain ⟨e1, _⟩ := h1
  obtain ⟨e2, _⟩ := h2
  obtain ⟨e3, _⟩ := h3
  obtain ⟨e4, l4⟩ := addrS_cells h4
  have e5 : c5 = [.bool _] := h5
  obtain ⟨e6, _⟩ := h6
  obtain ⟨e7, _⟩ := h7
  have ea : d9 = [] := ha
  obtain ⟨u, rfl⟩ : ∃ u, c8 = [u] := by
    match c8, l8 with
    | [u], _ => exact ⟨u, rfl⟩
  obtain ⟨v, rfl⟩ : ∃ v, c9 = [v] := by
    match c9, l9 with
    | [v], _ => exact ⟨v, rfl⟩
  subst e0 e1 e2 e3 e4 e5 e6 e7 ea
  exact ⟨⟨x.1, x.2.1, x.2.2.1, x.2.2.2.1, adOf x.2.2.2.2.1, x.2.2.2.2.2.1, x.2.2.2.2.2.2.1, x.2.2.2.2.2.2.2.1, _, _⟩, l4, u, v, by simp [tkC, adC, adOf], Ads.of h8, Rcs.of h9⟩

/-- Two talks boxed. -/
def T2 (w W : World) (a b : TK) (ua va ub vb : Value) : Prop := TkAt W w.heap.size a ua va ∧ TkAt W (w.heap.size + 1) b ub vb ∧ Below w.heap.size w W
theorem T2.made (w : World) (a b : TK) (ua va ub vb : Value) (ha : adOk a.g) (hb : adOk b.g) : T2 w ((w.alloc (.cells (tkC a ua va).toArray 28)).alloc (.cells (tkC b ub vb).toArray 28)) a b ua va ub vb := by
  have s1 : (w.alloc (.cells (tkC a ua va).toArray 28)).heap.size = w.heap.size + 1 := by simp
  refine ⟨⟨ObjAt.alloc (TkAt.made w a ua va ha).1 _, ha⟩, ?_, ((Below.refl _ _).alloc (Nat.le_refl _) _).alloc (by simp) _⟩
  have := TkAt.made (w.alloc (.cells (tkC a ua va).toArray 28)) b ub vb hb
  rw [s1] at this
  exact this
attribute [local go_sem ↓] ld_addr
attribute [local go_sem] ldr_addr

end Go.Proofs.Ytacnhelnpngkgaa

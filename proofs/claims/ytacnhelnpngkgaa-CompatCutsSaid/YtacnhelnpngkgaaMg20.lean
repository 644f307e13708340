/-
  Texts joined: MdN, TkW, Tq, PureTkB, PureMdB, MdC, IpB, IpC.
-/
import Derived.Test.YtacnhelnpngkgaaMdG
import Derived.Test.YtacnhelnpngkgaaMg13
import Derived.Test.YtacnhelnpngkgaaTkJ
import Derived.Deep.RegionHeld3
import Derived.Deep.Cut
import Derived.BigQuiet
import Derived.Test.YtacnhelnpngkgaaTr
import Derived.Test.YtacnhelnpngkgaaMg16
import Derived.Test.YtacnhelnpngkgaaPureMd
import Derived.Test.YtacnhelnpngkgaaMg15
import Derived.Deep.QuietTactic
/-
  The document's own num of layer 9.
-/
namespace Go.Proofs.Ytacnhelnpngkgaa
open Go.RowKit
set_option linter.unusedVariables false
end Go.Proofs.Ytacnhelnpngkgaa

/-
  The document's own Write of layer 8: numbers as bytes, and talks of the elder versions.
-/
namespace Go.Proofs.Ytacnhelnpngkgaa
open Go.RowKit
set_option linter.unusedVariables false
set_option linter.unusedSimpArgs false
attribute [local go_sem ↓] ld_addr st_addr bld_addr ld_rec st_rec
attribute [local go_sem] ldr_addr str_addr ldr_rec str_rec

/-- The talk boxed. -/
def TB (w W : World) (t : TK) (us ur : Value) : Prop := TkAt W w.heap.size t us ur ∧ Below w.heap.size w W
theorem TB.made (w : World) (t : TK) (us ur : Value) (h : adOk t.g) : TB w (w.alloc (.cells (tkC t us ur).toArray 28)) t us ur := ⟨TkAt.made w t us ur h, (Below.refl _ _).alloc (Nat.le_refl _) _⟩
theorem TB.keep {w W W' : World} {t : TK} {us ur : Value} (h : TB w W t us ur) (hb : Below W.heap.size W W') : TB w W' t us ur := ⟨h.1.below hb, bstep h.2 hb⟩
theorem TB.drewN {w W : World} {t : TK} {us ur : Value} (h : TB w W t us ur) (n : Nat) : TB w (W.drewN n) t us ur := h.keep (bdrewN (Below.refl _ _) n)
end Go.Proofs.Ytacnhelnpngkgaa

/-
  A talk in memory that is filled field by field, beside the result's cell.
-/
namespace Go.Proofs.Ytacnhelnpngkgaa
open Go.RowKit
set_option linter.unusedVariables false
set_option linter.unusedSimpArgs false
theorem ld_tk (a : Addr) : loadVar 28 a = aggLd 28 a := rfl
theorem st_tk (a : Addr) (v : Value) : storeVar 28 a v = aggSt 28 a v := rfl
theorem bld_tk (p : Array (Nat × Value)) : Instr.build 28 p = aggBuild 28 p := rfl
theorem ldr_tk (b o : Nat) (w : World) : (aggLd 28 ⟨b, o, none⟩).run Try.prog w = match row? w b o 26 with | some cs => .ok (.agg cs.toArray) w | none => aggLdSlow 28 b o w :=
  ld_run Try.underlying28 rfl (by kernel_rfl) b o w
theorem str_tk (b : Nat) (cs : Array Value) (w : World) : (aggSt 28 ⟨b, 0, none⟩ (.agg cs)).run Try.prog w = match free? w b 0 26 && fok cs 26 with | true => .ok () (aggW w b cs.toList) | false => aggStSlow 28 b 0 (.agg cs) w :=
  st_run (by kernel_rfl) b cs w
theorem tkC_one {t : TK} {us ur : Value} (h1 : us.oneCell' = true) (h2 : ur.oneCell' = true) : ∀ v ∈ tkC t us ur, v.oneCell' = true := by
  intro v hv
  unfold tkC at hv
  simp only [List.mem_cons, List.mem_append, List.not_mem_nil, or_false] at hv
  rcases hv with (rfl | rfl | rfl | rfl) | (hv | rfl | rfl | rfl | rfl | rfl)
  · rfl
  · rfl
  · rfl
  · rfl
  · exact addrC_one _ _ v hv
  · rfl
  · rfl
  · rfl
  · exact h1
  · exact h2
theorem fok_tk {t : TK} {us ur : Value} (h : adOk t.g) (h1 : us.oneCell' = true) (h2 : ur.oneCell' = true) : fok (tkC t us ur).toArray 26 = true := by
  have h3 : (tkC t us ur).toArray.all (·.oneCell') = true := all_oneCell_toArray (tkC_one h1 h2)
  simp only [fok, h3, Bool.and_true]
  simp [tkC_length h]
theorem Rcs.one {w : World} {v : Value} {l : List RC} (h : Rcs w v l) : v.oneCell' = true := by
  obtain ⟨p, cap, h1, _⟩ := h; rw [h1]; rfl
/-- A field behind the group. -/
theorem tkC_tail (t : TK) (us ur : Value) (h : adOk t.g) (j : Nat) (v : Value) : (tkC t us ur).set (21 + j) v = [.bool t.v6, .int .i64 t.ver, .int .i64 t.kind, .int .i64 t.resp] ++ (adC t.g ++ [.bool t.quiet, .int .i64 t.rob, .int .i64 t.every, us, ur].set j v) := by
  unfold tkC
  have hl := adC_length h
  rw [List.set_append_right _ _ (by simp; omega), List.set_append_right _ _ (by simp; omega)]
  simp only [List.length_cons, List.length_nil, hl]
  rw [show 21 + j - (0 + 1 + 1 + 1 + 1) - 17 = j by omega]
/-- Slices whose blocks are known to be of their own kind. -/
def AdsT (w : World) (v : Value) (l : List AD) : Prop := Ads w v l ∧ AdT w v
def RcT (w : World) (v : Value) (l : List RC) : Prop := ∃ base q, RQ base w v q ∧ q.map Prod.fst = l
theorem AdsT.below {w w' : World} {v : Value} {l : List AD} (h : AdsT w v l) (hb : Below w.heap.size w w') : AdsT w' v l := ⟨h.1.below hb, h.2.below hb⟩
theorem RcT.below {w w' : World} {v : Value} {l : List RC} (h : RcT w v l) (hb : Below w.heap.size w w') : RcT w' v l := by
  obtain ⟨base, q, h1, h2⟩ := h
  exact ⟨base, q, h1.below hb, h2⟩
theorem AdsT.nil (w : World) : AdsT w (.slice none 0 0) [] := ⟨Ads.nil w, fun b o n c e => by cases e⟩
theorem RcT.nil (w : World) : RcT w (.slice none 0 0) [] := ⟨0, [], ⟨⟨rfl, Or.inl ⟨rfl, rfl⟩⟩, fun x hx => by cases hx⟩, rfl⟩
theorem RcT.rcs {w : World} {v : Value} {l : List RC} (h : RcT w v l) : Rcs w v l := by
  obtain ⟨base, q, h1, rfl⟩ := h
  exact h1.rcs
theorem AdT.farT {w : World} {u : Value} {m : Nat} {L : Array Value} (h : AdT w u) (hm : ObjAt w m L 28) : ∀ b o n c, u = .slice (some ⟨b, o, none⟩) n c → some b ≠ some m := fun b o n c e => by
  obtain ⟨h1, cur, fz, h2⟩ := h b o n c e
  intro hb
  simp only [Option.some.injEq] at hb
  subst hb
  unfold ObjAt at hm
  rw [h2] at hm
  simp at hm
theorem AdsT.grown {w w' : World} {v : Value} {l : List AD} {m : Nat} {L : Array Value} (h : AdsT w v l) (hm : ObjAt w m L 28) (hg : w.grownBy w' (some m)) : AdsT w' v l := ⟨h.1.grown hg (h.2.farT hm), h.2.grown hg (h.2.farT hm)⟩
theorem own_grown {w w' : World} {base n m : Nat} {v : Value} {xs : List Value} {L : Array Value} (h : w.ownsRow base 40 19 v n xs) (hm : ObjAt w m L 28) (hg : w.grownBy w' (some m)) : w'.ownsRow base 40 19 v n xs := by
  obtain ⟨h1, h2 | ⟨g, cap, cur, e1, e2, e3, e4⟩⟩ := h
  · exact ⟨h1, .inl h2⟩
  · refine ⟨h1, .inr ⟨g, cap, cur, e1, e2, (hg.block g (Array.getElem?_eq_some_iff.1 e3).1 ?_).trans e3, e4⟩⟩
    intro hb
    simp only [Option.some.injEq] at hb
    subst hb
    unfold ObjAt at hm
    rw [e3] at hm
    simp at hm
theorem RcT.grown {w w' : World} {v : Value} {l : List RC} {m : Nat} {L : Array Value} (h : RcT w v l) (hm : ObjAt w m L 28) (hg : w.grownBy w' (some m)) : RcT w' v l := by
  obtain ⟨base, q, ⟨h1, h2⟩, h3⟩ := h
  refine ⟨base, q, ⟨own_grown h1 hm hg, fun x hx => ?_⟩, h3⟩
  obtain ⟨a, b, c⟩ := h2 x hx
  exact ⟨a, b.grown hg (c.farT hm), c.grown hg (c.farT hm)⟩
theorem setCells_grown (b : Nat) : ∀ (cs : List Value) (o : Nat) (w : World), w.grownBy (w.setCells b o cs) (some b)
  | [], _, w => ⟨rfl, rfl, rfl, Nat.le_refl _, fun _ _ _ => rfl⟩
  | v :: r, o, w => gtrans (gset w b o v) (setCells_grown b r (o + 1) _)
theorem aggW_grown (w : World) (b : Nat) (cs : List Value) : w.grownBy (aggW w b cs) (some b) := by rw [aggW_eq]; exact setCells_grown b cs 0 w
/-- The result's cell, a talk that is being filled, and one thing more. -/
structure QT (w W : World) (m : Nat) (t : TK) (us ur : Value) (p : Nat) (L : Array Value) (T : TypeId) : Prop where
  res : ObjAt W w.heap.size #[.bool false, .int .i64 0, .int .i64 0, .int .i64 0, .bool false, .int .u8 0, .int .u8 0, .int .u8 0, .int .u8 0, .int .u8 0, .int .u8 0, .int .u8 0, .int .u8 0, .int .u8 0, .int .u8 0, .int .u8 0, .int .u8 0, .int .u8 0, .int .u8 0, .int .u8 0, .int .u8 0, .bool false, .int .i64 0, .int .i64 0, .slice none 0 0, .slice none 0 0] 28
  tk : TkAt W m t us ur
  blw : Below w.heap.size w W
  lt : w.heap.size < m
  src : AdsT W us t.src
  rcs : RcT W ur t.rcs
  more : ObjAt W p L T
  ltp : w.heap.size < p
  ne : m ≠ p
theorem QT.below {w W W' : World} {m p : Nat} {t : TK} {us ur : Value} {L : Array Value} {T : TypeId} (h : QT w W m t us ur p L T) (hb : Below W.heap.size W W') : QT w W' m t us ur p L T :=
  ⟨h.res.below hb h.res.lt, h.tk.below hb, bstep h.blw hb, h.lt, h.src.below hb, h.rcs.below hb, h.more.below hb h.more.lt, h.ltp, h.ne⟩
theorem QT.free {w W : World} {m p : Nat} {t : TK} {us ur : Value} {L : Array Value} {T : TypeId} (h : QT w W m t us ur p L T) : free? W w.heap.size 0 26 = true := obj_free h.res (by simp)
theorem QT.fok {w W : World} {m p : Nat} {t : TK} {us ur : Value} {L : Array Value} {T : TypeId} (h : QT w W m t us ur p L T) : fok (tkC t us ur).toArray 26 = true := fok_tk h.tk.2 h.src.1.one h.rcs.rcs.one
/-- The talk becomes the result. -/
theorem QT.done {w W : World} {m p : Nat} {t : TK} {us ur : Value} {L : Array Value} {T : TypeId} (h : QT w W m t us ur p L T) :
    row? (aggW W w.heap.size (tkC t us ur)) w.heap.size 0 26 = some (tkC t us ur) ∧ Below w.heap.size w (aggW W w.heap.size (tkC t us ur)) ∧ AdsT (aggW W w.heap.size (tkC t us ur)) us t.src ∧ RcT (aggW W w.heap.size (tkC t us ur)) ur t.rcs :=
  ⟨aggW_row h.free (tkC_length h.tk.2 _ _), aggW_below h.blw (Nat.le_refl _) _, h.src.grown h.res (aggW_grown _ _ _), h.rcs.grown h.res (aggW_grown _ _ _)⟩
/-- A field is stored. -/
theorem QT.set {w W : World} {m p : Nat} {t t' : TK} {us ur us' ur' : Value} {L : Array Value} {T : TypeId} (h : QT w W m t us ur p L T) (j : Nat) (v : Value) (e : (tkC t us ur).set j v = tkC t' us' ur') (ho : adOk t'.g) (hs : AdsT W us' t'.src) (hr : RcT W ur' t'.rcs) :
    QT w (W.setCell ⟨m, j, none⟩ v) m t' us' ur' p L T := by
  have hlt := h.lt
  have h1 : ObjAt (W.setCell ⟨m, j, none⟩ v) m (tkC t' us' ur').toArray 28 := by
    have := ObjAt.set h.tk.1 j v
    rw [List.setIfInBounds_toArray, e] at this
    exact this
  exact ⟨h.res.other _ _ (by simp; omega), ⟨h1, ho⟩, h.blw.setCell (p := ⟨m, j, none⟩) (by simp; omega) v, h.lt, hs.grown h.tk.1 (gset W m j v), hr.grown h.tk.1 (gset W m j v), h.more.other _ _ (by simpa using h.ne.symm), h.ltp, h.ne⟩
/-- The whole talk is stored anew. -/
theorem QT.put {w W : World} {m p : Nat} {t t' : TK} {us ur us' ur' : Value} {L : Array Value} {T : TypeId} (h : QT w W m t us ur p L T) (ho : adOk t'.g) (hs : AdsT W us' t'.src) (hr : RcT W ur' t'.rcs) :
    QT w (aggW W m (tkC t' us' ur')) m t' us' ur' p L T := by
  have hlt := h.lt
  exact ⟨aggW_other h.res _ (by omega), ⟨aggW_obj h.tk.1 (by rw [tkC_length ho, tkC_length h.tk.2]) (tkC_one hs.1.one hr.rcs.one), ho⟩, aggW_below h.blw (by omega) _, h.lt, hs.grown h.tk.1 (aggW_grown _ _ _), hr.grown h.tk.1 (aggW_grown _ _ _), aggW_other h.more _ h.ne.symm, h.ltp, h.ne⟩
theorem QT.freem {w W : World} {m p : Nat} {t : TK} {us ur : Value} {L : Array Value} {T : TypeId} (h : QT w W m t us ur p L T) : free? W m 0 26 = true := obj_free h.tk.1 (by simp [tkC_length h.tk.2])
/-- What is read of it. -/
def QC (w W : World) (m : Nat) (t : TK) (us ur : Value) : Prop :=
  W.cell? ⟨m, 1, none⟩ = some (.int .i64 t.ver) ∧ W.cell? ⟨m, 2, none⟩ = some (.int .i64 t.kind) ∧ W.cell? ⟨m, 3, none⟩ = some (.int .i64 t.resp) ∧ row? W m 4 17 = some (adC t.g) ∧ row? W m 0 26 = some (tkC t us ur) ∧ free? W w.heap.size 0 26 = true ∧ free? W m 0 26 = true ∧
  W.cell? ⟨m, 21, none⟩ = some (.bool t.quiet) ∧ W.cell? ⟨m, 22, none⟩ = some (.int .i64 t.rob) ∧ W.cell? ⟨m, 23, none⟩ = some (.int .i64 t.every) ∧ W.cell? ⟨m, 24, none⟩ = some us ∧ W.cell? ⟨m, 25, none⟩ = some ur ∧ (∀ j, W.frozen? ⟨m, j, none⟩ = false)
theorem QT.cells {w W : World} {m p : Nat} {t : TK} {us ur : Value} {L : Array Value} {T : TypeId} (h : QT w W m t us ur p L T) : QC w W m t us ur :=
  ⟨h.tk.ver, h.tk.kind, h.tk.resp, h.tk.rg, h.tk.row, h.free, h.freem, h.tk.quiet, h.tk.rob, h.tk.every, h.tk.us, h.tk.ur, fun j => ObjAt.free h.tk.1 j⟩
theorem tkC_src (t : TK) (us ur : Value) (h : adOk t.g) (v : Value) (l : List AD) : (tkC t us ur).set 24 v = tkC ⟨t.v6, t.ver, t.kind, t.resp, t.g, t.quiet, t.rob, t.every, l, t.rcs⟩ v ur := tkC_tail t us ur h 3 _
theorem tkC_rcs (t : TK) (us ur : Value) (h : adOk t.g) (v : Value) (l : List RC) : (tkC t us ur).set 25 v = tkC ⟨t.v6, t.ver, t.kind, t.resp, t.g, t.quiet, t.rob, t.every, t.src, l⟩ us v := tkC_tail t us ur h 4 _
end Go.Proofs.Ytacnhelnpngkgaa

/-
  Talks of IGMP, plain: what is read of some bytes is good.
-/
namespace Go.Proofs.Ytacnhelnpngkgaa
open Go.RowKit
set_option linter.unusedVariables false

end Go.Proofs.Ytacnhelnpngkgaa

/-
  Talks of MLD, plain: what is read of some bytes is good.
-/
namespace Go.Proofs.Ytacnhelnpngkgaa
open Go.RowKit
set_option linter.unusedVariables false

end Go.Proofs.Ytacnhelnpngkgaa

/-
  The document's own sixteen and sources of layer 9.
-/
namespace Go.Proofs.Ytacnhelnpngkgaa
open Go.RowKit
set_option linter.unusedVariables false
attribute [local go_sem ↓] ld_addr st_addr bld_addr adsLit_eq
attribute [local go_sem] ldr_addr str_addr row?_drewN_eq row?_drew_eq

end Go.Proofs.Ytacnhelnpngkgaa

/-
  Contracts of ip4's small functions.
-/
namespace Go.Proofs.Ytacnhelnpngkgaa
open Go.RowKit
set_option linter.unusedVariables false
attribute [local go_sem ↓] ld_addr st_addr
attribute [local go_sem] ldr_addr str_addr

end Go.Proofs.Ytacnhelnpngkgaa

/-
  Contracts of ip4's readOptions and header.
-/
namespace Go.Proofs.Ytacnhelnpngkgaa
open Go.RowKit
set_option linter.unusedVariables false
attribute [local go_sem ↓] ld_addr st_addr
attribute [local go_sem] ldr_addr str_addr

end Go.Proofs.Ytacnhelnpngkgaa


/-
  Texts joined: EqE, EqI, IpR, IpG, IpU, MdR, MqA.
-/
import Derived.Test.YtacnhelnpngkgaaEqA
import Derived.Test.YtacnhelnpngkgaaEth
import Derived.Test.YtacnhelnpngkgaaIp
import Derived.Test.YtacnhelnpngkgaaMg20
import Derived.Test.YtacnhelnpngkgaaMg13
import Derived.Test.YtacnhelnpngkgaaMg15
import Derived.Deep.CutRange
import Derived.Deep.LoopGhost
/-
  A frame held against itself: a rule for the walk.
-/
namespace Go.Proofs.Ytacnhelnpngkgaa
open Go.RowKit
set_option linter.unusedVariables false

end Go.Proofs.Ytacnhelnpngkgaa

/-
  A packet held against itself: a rule for the walk.
-/
namespace Go.Proofs.Ytacnhelnpngkgaa
open Go.RowKit
set_option linter.unusedVariables false

end Go.Proofs.Ytacnhelnpngkgaa

/-
  The contract of ip4.Read.
-/
namespace Go.Proofs.Ytacnhelnpngkgaa
open Go.RowKit
set_option linter.unusedVariables false
attribute [local go_sem ↓] ld_addr st_addr
attribute [local go_sem] ldr_addr str_addr

end Go.Proofs.Ytacnhelnpngkgaa

/-
  The document's own Alert.
-/
namespace Go.Proofs.Ytacnhelnpngkgaa
open Go.RowKit
set_option linter.unusedVariables false

end Go.Proofs.Ytacnhelnpngkgaa

/-
  The document's own reading of a packet: what is wrong.
-/
namespace Go.Proofs.Ytacnhelnpngkgaa
open Go.RowKit
set_option linter.unusedVariables false
attribute [local go_sem ↓] ld_addr st_addr
attribute [local go_sem] ldr_addr str_addr

end Go.Proofs.Ytacnhelnpngkgaa

/-
  The document's own records of layer 9: the records of a report, read one after the other.
-/
namespace Go.Proofs.Ytacnhelnpngkgaa
open Go.RowKit
set_option linter.unusedVariables false
set_option linter.unusedSimpArgs false
attribute [local go_sem ↓] ld_addr st_addr bld_addr ld_rec st_rec bld_rec rcsLit_eq
attribute [local go_sem] ldr_addr str_addr ldr_rec str_rec

/-- What is left to read of a report's records. -/
def RS9 (s : List UInt8) (n i m : Nat) (acc : List RC) : Prop := (recL9 s 8 n).2 = (recL9 s i m).2 ∧ ((recL9 s i m).2 = 0 → (recL9 s 8 n).1 = acc ++ (recL9 s i m).1)
theorem RS9.start (s : List UInt8) (n : Nat) : RS9 s n 8 n [] := ⟨rfl, fun _ => by simp⟩
theorem RS9.done {s : List UInt8} {n i : Nat} {acc : List RC} (h : RS9 s n i 0 acc) : recL9 s 8 n = (acc, 0) := by
  obtain ⟨h1, h2⟩ := h
  have e : recL9 s i 0 = ([], 0) := by unfold recL9; rfl
  rw [e] at h1 h2
  exact Prod.ext (by rw [h2 rfl]; simp) h1
theorem RS9.step {s : List UInt8} {n i m : Nat} {acc : List RC} (h : RS9 s n i (m + 1) acc) (h1 : ¬ s.length < i + 20) (h2 : srcsE9 s (i + 20) (wd s (i + 2)) = 0) (h3 : ¬ s.length < recN9 s i) :
    RS9 s n (recN9 s i) m (if rcOk9 (rec9 s i) then acc ++ [rec9 s i] else acc) := by
  obtain ⟨a1, a2⟩ := h
  have e : recL9 s i (m + 1) = if (recL9 s (recN9 s i) m).2 ≠ 0 then ([], (recL9 s (recN9 s i) m).2) else (if rcOk9 (rec9 s i) then rec9 s i :: (recL9 s (recN9 s i) m).1 else (recL9 s (recN9 s i) m).1, 0) := by
    conv => lhs; unfold recL9
    rw [if_neg h1, if_neg (by rw [h2]; simp), if_neg h3]
  rw [e] at a1 a2
  by_cases hz : (recL9 s (recN9 s i) m).2 = 0
  · rw [if_neg (by rw [hz]; simp)] at a1 a2
    refine ⟨by rw [a1, hz], fun _ => ?_⟩
    rw [a2 rfl]
    split <;> simp
  · rw [if_pos hz] at a1
    exact ⟨a1, fun h => absurd h hz⟩
/-- A record that has been boxed in the region. -/
def RG9 (w0 W : World) (m : Nat) (r : RC) (u : Value) : Prop := RcU W m 0 r u ∧ Below w0.heap.size w0 W ∧ w0.heap.size ≤ m
theorem RG9.below {w0 W W' : World} {m : Nat} {r : RC} {u : Value} (h : RG9 w0 W m r u) (hb : Below W.heap.size W W') : RG9 w0 W' m r u := ⟨h.1.below hb, bstep h.2.1 hb, h.2.2⟩
/-- An alloc, calls behind it or ahead of it, and the store. -/
theorem RG9.put {w0 W1 W2 : World} {r : RC} {u : Value} (h0 : Below w0.heap.size w0 W1) (ho : adOk r.g) (ha : Ads w0 u r.src) (h2 : Below (W1.alloc (.cells #[.int .i64 0, .bool false, .int .u8 0, .int .u8 0, .int .u8 0, .int .u8 0, .int .u8 0, .int .u8 0, .int .u8 0, .int .u8 0, .int .u8 0, .int .u8 0, .int .u8 0, .int .u8 0, .int .u8 0, .int .u8 0, .int .u8 0, .int .u8 0, .slice none 0 0] 40)).heap.size (W1.alloc (.cells #[.int .i64 0, .bool false, .int .u8 0, .int .u8 0, .int .u8 0, .int .u8 0, .int .u8 0, .int .u8 0, .int .u8 0, .int .u8 0, .int .u8 0, .int .u8 0, .int .u8 0, .int .u8 0, .int .u8 0, .int .u8 0, .int .u8 0, .int .u8 0, .slice none 0 0] 40)) W2) : RG9 w0 (aggW W2 W1.heap.size (rcC r u)) W1.heap.size r u := by
  have h1 : Below w0.heap.size w0 (W1.alloc (.cells #[.int .i64 0, .bool false, .int .u8 0, .int .u8 0, .int .u8 0, .int .u8 0, .int .u8 0, .int .u8 0, .int .u8 0, .int .u8 0, .int .u8 0, .int .u8 0, .int .u8 0, .int .u8 0, .int .u8 0, .int .u8 0, .int .u8 0, .int .u8 0, .slice none 0 0] 40)) := h0.alloc h0.size _
  have hb : Below w0.heap.size w0 (aggW W2 W1.heap.size (rcC r u)) := aggW_below (bstep h1 h2) h0.size _
  have hob := ObjAt.made W1 #[.int .i64 0, .bool false, .int .u8 0, .int .u8 0, .int .u8 0, .int .u8 0, .int .u8 0, .int .u8 0, .int .u8 0, .int .u8 0, .int .u8 0, .int .u8 0, .int .u8 0, .int .u8 0, .int .u8 0, .int .u8 0, .int .u8 0, .int .u8 0, .slice none 0 0] 40
  have hob2 := hob.below h2 hob.lt
  have hc := aggW_obj (L := (#[.int .i64 0, .bool false, .int .u8 0, .int .u8 0, .int .u8 0, .int .u8 0, .int .u8 0, .int .u8 0, .int .u8 0, .int .u8 0, .int .u8 0, .int .u8 0, .int .u8 0, .int .u8 0, .int .u8 0, .int .u8 0, .int .u8 0, .int .u8 0, .slice none 0 0] : Array Value).toList) (cs := rcC r u) (by simpa using hob2) (by rw [rcC_length ho]; rfl) (rcC_one ha.one)
  have hf : free? W2 W1.heap.size 0 19 = true := obj_free hob2 (by simp)
  exact ⟨⟨ho, hc.lt, aggW_row hf (rcC_length ho u), ha.below hb⟩, hb, h0.size⟩

end Go.Proofs.Ytacnhelnpngkgaa

/-
  The document's own reader of all but reports of records, of layer 9.
-/
namespace Go.Proofs.Ytacnhelnpngkgaa
open Go.RowKit
set_option linter.unusedVariables false
set_option linter.unusedSimpArgs false
attribute [local go_sem ↓] ld_addr st_addr bld_addr ld_tk st_tk bld_tk
attribute [local go_sem] ldr_addr str_addr str_addr_at ldr_tk str_tk

theorem tkC_grp9 (e : TK) (se re : Value) (ho : adOk e.g) (a : AD) (ha : adOk a) : over (tkC e se re) 4 (adC a) = tkC ⟨e.v6, e.ver, e.kind, e.resp, a, e.quiet, e.rob, e.every, e.src, e.rcs⟩ se re := by
  unfold over tkC
  have l1 := adC_length ho
  have l2 := adC_length ha
  rw [l2]
  simp only [List.cons_append, List.nil_append, List.take_succ_cons, List.take_zero, List.drop_succ_cons]
  rw [List.drop_append_of_le_length (by omega), List.drop_of_length_le (by omega)]
  simp
/-- The result's cell and a talk that is being filled. -/
structure QO (w W : World) (m : Nat) (t : TK) (us ur : Value) : Prop where
  res : ObjAt W w.heap.size #[.bool false, .int .i64 0, .int .i64 0, .int .i64 0, .bool false, .int .u8 0, .int .u8 0, .int .u8 0, .int .u8 0, .int .u8 0, .int .u8 0, .int .u8 0, .int .u8 0, .int .u8 0, .int .u8 0, .int .u8 0, .int .u8 0, .int .u8 0, .int .u8 0, .int .u8 0, .int .u8 0, .bool false, .int .i64 0, .int .i64 0, .slice none 0 0, .slice none 0 0] 28
  tk : TkAt W m t us ur
  blw : Below w.heap.size w W
  lt : w.heap.size < m
  src : AdsT W us t.src
  rcs : RcT W ur t.rcs
theorem QO.below {w W W' : World} {m : Nat} {t : TK} {us ur : Value} (h : QO w W m t us ur) (hb : Below W.heap.size W W') : QO w W' m t us ur :=
  ⟨h.res.below hb h.res.lt, h.tk.below hb, bstep h.blw hb, h.lt, h.src.below hb, h.rcs.below hb⟩
theorem QO.done {w W : World} {m : Nat} {t : TK} {us ur : Value} (h : QO w W m t us ur) :
    row? (aggW W w.heap.size (tkC t us ur)) w.heap.size 0 26 = some (tkC t us ur) ∧ Below w.heap.size w (aggW W w.heap.size (tkC t us ur)) ∧ AdsT (aggW W w.heap.size (tkC t us ur)) us t.src ∧ RcT (aggW W w.heap.size (tkC t us ur)) ur t.rcs :=
  ⟨aggW_row (obj_free h.res (by simp)) (tkC_length h.tk.2 _ _), aggW_below h.blw (Nat.le_refl _) _, h.src.grown h.res (aggW_grown _ _ _), h.rcs.grown h.res (aggW_grown _ _ _)⟩
theorem QO.set {w W : World} {m : Nat} {t t' : TK} {us ur us' ur' : Value} (h : QO w W m t us ur) (j : Nat) (v : Value) (e : (tkC t us ur).set j v = tkC t' us' ur') (ho : adOk t'.g) (hs : AdsT W us' t'.src) (hr : RcT W ur' t'.rcs) :
    QO w (W.setCell ⟨m, j, none⟩ v) m t' us' ur' := by
  have hlt := h.lt
  have h1 : ObjAt (W.setCell ⟨m, j, none⟩ v) m (tkC t' us' ur').toArray 28 := by
    have := ObjAt.set h.tk.1 j v
    rw [List.setIfInBounds_toArray, e] at this
    exact this
  exact ⟨h.res.other _ _ (by simp; omega), ⟨h1, ho⟩, h.blw.setCell (p := ⟨m, j, none⟩) (by simp; omega) v, h.lt, hs.grown h.tk.1 (gset W m j v), hr.grown h.tk.1 (gset W m j v)⟩
theorem QO.grp {w W : World} {m : Nat} {t : TK} {us ur : Value} (h : QO w W m t us ur) (a : AD) (ha : adOk a) : QO w (aggO W m 4 (adC a)) m ⟨t.v6, t.ver, t.kind, t.resp, a, t.quiet, t.rob, t.every, t.src, t.rcs⟩ us ur := by
  have hlt := h.lt
  have l1 := tkC_length h.tk.2 us ur
  have h1 := aggO_obj (o := 4) (cs := adC a) h.tk.1 (by rw [l1, adC_length ha]; omega) (addrC_one _ _)
  rw [tkC_grp9 t us ur h.tk.2 a ha] at h1
  have hg : W.grownBy (aggO W m 4 (adC a)) (some m) := by rw [aggO_eq]; exact setCells_grown m _ 4 W
  exact ⟨aggO_other h.res _ (by omega), ⟨h1, ha⟩, aggO_below h.blw (by omega) _ _, h.lt, h.src.grown h.tk.1 hg, h.rcs.grown h.tk.1 hg⟩
/-- What is read of it. -/
def QOC (w W : World) (m : Nat) (t : TK) (us ur : Value) : Prop :=
  W.cell? ⟨m, 1, none⟩ = some (.int .i64 t.ver) ∧ W.cell? ⟨m, 2, none⟩ = some (.int .i64 t.kind) ∧ W.cell? ⟨m, 3, none⟩ = some (.int .i64 t.resp) ∧ row? W m 4 17 = some (adC t.g) ∧ row? W m 0 26 = some (tkC t us ur) ∧ free? W w.heap.size 0 26 = true ∧ free? W m 4 17 = true ∧
  W.cell? ⟨m, 21, none⟩ = some (.bool t.quiet) ∧ W.cell? ⟨m, 22, none⟩ = some (.int .i64 t.rob) ∧ W.cell? ⟨m, 23, none⟩ = some (.int .i64 t.every) ∧ W.cell? ⟨m, 24, none⟩ = some us ∧ W.cell? ⟨m, 25, none⟩ = some ur ∧ (∀ j, W.frozen? ⟨m, j, none⟩ = false) ∧ free? W m 0 26 = true ∧ fok (tkC t us ur).toArray 26 = true
theorem QO.c {w W : World} {m : Nat} {t : TK} {us ur : Value} (h : QO w W m t us ur) : QOC w W m t us ur :=
  ⟨h.tk.ver, h.tk.kind, h.tk.resp, h.tk.rg, h.tk.row, obj_free h.res (by simp), free_of fun j hj => by
    refine ⟨?_, ObjAt.free h.tk.1 (4 + j)⟩
    rw [ObjAt.cell h.tk.1 (4 + j), Array.getElem?_eq_getElem (by simp [tkC_length h.tk.2]; omega)]; rfl, h.tk.quiet, h.tk.rob, h.tk.every, h.tk.us, h.tk.ur, fun j => ObjAt.free h.tk.1 j, obj_free h.tk.1 (by simp [tkC_length h.tk.2]), fok_tk h.tk.2 h.src.1.one h.rcs.rcs.one⟩
theorem QO.start (w : World) (K : Int) : QO w (aggW ((w.alloc (.cells #[.bool false, .int .i64 0, .int .i64 0, .int .i64 0, .bool false, .int .u8 0, .int .u8 0, .int .u8 0, .int .u8 0, .int .u8 0, .int .u8 0, .int .u8 0, .int .u8 0, .int .u8 0, .int .u8 0, .int .u8 0, .int .u8 0, .int .u8 0, .int .u8 0, .int .u8 0, .int .u8 0, .bool false, .int .i64 0, .int .i64 0, .slice none 0 0, .slice none 0 0] 28)).alloc (.cells #[.bool false, .int .i64 0, .int .i64 0, .int .i64 0, .bool false, .int .u8 0, .int .u8 0, .int .u8 0, .int .u8 0, .int .u8 0, .int .u8 0, .int .u8 0, .int .u8 0, .int .u8 0, .int .u8 0, .int .u8 0, .int .u8 0, .int .u8 0, .int .u8 0, .int .u8 0, .int .u8 0, .bool false, .int .i64 0, .int .i64 0, .slice none 0 0, .slice none 0 0] 28)) (w.heap.size + 1) (tkC ⟨true, 1, K, 0, zeroA, false, 0, 0, [], []⟩ (.slice none 0 0) (.slice none 0 0))) (w.heap.size + 1) ⟨true, 1, K, 0, zeroA, false, 0, 0, [], []⟩ (.slice none 0 0) (.slice none 0 0) := by
  have s1 : (w.alloc (.cells #[.bool false, .int .i64 0, .int .i64 0, .int .i64 0, .bool false, .int .u8 0, .int .u8 0, .int .u8 0, .int .u8 0, .int .u8 0, .int .u8 0, .int .u8 0, .int .u8 0, .int .u8 0, .int .u8 0, .int .u8 0, .int .u8 0, .int .u8 0, .int .u8 0, .int .u8 0, .int .u8 0, .bool false, .int .i64 0, .int .i64 0, .slice none 0 0, .slice none 0 0] 28)).heap.size = w.heap.size + 1 := by simp
  have h1 := ObjAt.made (w.alloc (.cells #[.bool false, .int .i64 0, .int .i64 0, .int .i64 0, .bool false, .int .u8 0, .int .u8 0, .int .u8 0, .int .u8 0, .int .u8 0, .int .u8 0, .int .u8 0, .int .u8 0, .int .u8 0, .int .u8 0, .int .u8 0, .int .u8 0, .int .u8 0, .int .u8 0, .int .u8 0, .int .u8 0, .bool false, .int .i64 0, .int .i64 0, .slice none 0 0, .slice none 0 0] 28)) #[.bool false, .int .i64 0, .int .i64 0, .int .i64 0, .bool false, .int .u8 0, .int .u8 0, .int .u8 0, .int .u8 0, .int .u8 0, .int .u8 0, .int .u8 0, .int .u8 0, .int .u8 0, .int .u8 0, .int .u8 0, .int .u8 0, .int .u8 0, .int .u8 0, .int .u8 0, .int .u8 0, .bool false, .int .i64 0, .int .i64 0, .slice none 0 0, .slice none 0 0] 28
  rw [s1] at h1
  exact ⟨aggW_other (ObjAt.alloc (ObjAt.made w _ _) _) _ (by omega), ⟨aggW_obj (L := (#[.bool false, .int .i64 0, .int .i64 0, .int .i64 0, .bool false, .int .u8 0, .int .u8 0, .int .u8 0, .int .u8 0, .int .u8 0, .int .u8 0, .int .u8 0, .int .u8 0, .int .u8 0, .int .u8 0, .int .u8 0, .int .u8 0, .int .u8 0, .int .u8 0, .int .u8 0, .int .u8 0, .bool false, .int .i64 0, .int .i64 0, .slice none 0 0, .slice none 0 0] : Array Value).toList) (by simpa using h1) rfl (tkC_one rfl rfl), zeroA_ok⟩, aggW_below (((Below.refl _ _).alloc (Nat.le_refl _) _).alloc (by simp) _) (by omega) _, by omega, AdsT.nil _, RcT.nil _⟩
end Go.Proofs.Ytacnhelnpngkgaa


/-
  The document's own query of layer 8.
-/
import Derived.Test.YtlkihfmojnghhaaMg20
import Derived.Test.YtlkihfmojnghhaaMg22
namespace Go.Proofs.Ytlkihfmojnghhaa
open Go.RowKit
set_option linter.unusedVariables false
set_option linter.unusedSimpArgs false
attribute [local go_sem ↓] ld_addr st_addr bld_addr ld_tk st_tk bld_tk
attribute [local go_sem] ldr_addr str_addr ldr_tk str_tk

/-- The result's cell alone; beside it a block for a talk, one for an address. -/
def QR (w W : World) : Prop := ObjAt W w.heap.size #[.bool false, .int .i64 0, .int .i64 0, .int .i64 0, .bool false, .int .u8 0, .int .u8 0, .int .u8 0, .int .u8 0, .int .u8 0, .int .u8 0, .int .u8 0, .int .u8 0, .int .u8 0, .int .u8 0, .int .u8 0, .int .u8 0, .int .u8 0, .int .u8 0, .int .u8 0, .int .u8 0, .bool false, .int .i64 0, .int .i64 0, .slice none 0 0, .slice none 0 0] 35 ∧ Below w.heap.size w W
theorem QR.start (w : World) : QR w (w.alloc (.cells #[.bool false, .int .i64 0, .int .i64 0, .int .i64 0, .bool false, .int .u8 0, .int .u8 0, .int .u8 0, .int .u8 0, .int .u8 0, .int .u8 0, .int .u8 0, .int .u8 0, .int .u8 0, .int .u8 0, .int .u8 0, .int .u8 0, .int .u8 0, .int .u8 0, .int .u8 0, .int .u8 0, .bool false, .int .i64 0, .int .i64 0, .slice none 0 0, .slice none 0 0] 35)) := ⟨ObjAt.made w _ _, (Below.refl _ _).alloc (Nat.le_refl _) _⟩
theorem QR.below {w W W' : World} (h : QR w W) (hb : Below W.heap.size W W') : QR w W' := ⟨h.1.below hb h.1.lt, bstep h.2 hb⟩
def QA (w W : World) (m : Nat) : Prop := QR w W ∧ ObjAt W m #[.bool false, .int .i64 0, .int .i64 0, .int .i64 0, .bool false, .int .u8 0, .int .u8 0, .int .u8 0, .int .u8 0, .int .u8 0, .int .u8 0, .int .u8 0, .int .u8 0, .int .u8 0, .int .u8 0, .int .u8 0, .int .u8 0, .int .u8 0, .int .u8 0, .int .u8 0, .int .u8 0, .bool false, .int .i64 0, .int .i64 0, .slice none 0 0, .slice none 0 0] 35 ∧ w.heap.size < m
def QZ (w W : World) (p : Nat) : Prop := QR w W ∧ ObjAt W p #[.bool false, .int .u8 0, .int .u8 0, .int .u8 0, .int .u8 0, .int .u8 0, .int .u8 0, .int .u8 0, .int .u8 0, .int .u8 0, .int .u8 0, .int .u8 0, .int .u8 0, .int .u8 0, .int .u8 0, .int .u8 0, .int .u8 0] 31 ∧ w.heap.size < p
def QAZ (w W : World) (m p : Nat) : Prop := QR w W ∧ ObjAt W m #[.bool false, .int .i64 0, .int .i64 0, .int .i64 0, .bool false, .int .u8 0, .int .u8 0, .int .u8 0, .int .u8 0, .int .u8 0, .int .u8 0, .int .u8 0, .int .u8 0, .int .u8 0, .int .u8 0, .int .u8 0, .int .u8 0, .int .u8 0, .int .u8 0, .int .u8 0, .int .u8 0, .bool false, .int .i64 0, .int .i64 0, .slice none 0 0, .slice none 0 0] 35 ∧ ObjAt W p #[.bool false, .int .u8 0, .int .u8 0, .int .u8 0, .int .u8 0, .int .u8 0, .int .u8 0, .int .u8 0, .int .u8 0, .int .u8 0, .int .u8 0, .int .u8 0, .int .u8 0, .int .u8 0, .int .u8 0, .int .u8 0, .int .u8 0] 31 ∧ w.heap.size < m ∧ w.heap.size < p ∧ m ≠ p
theorem QA.below {w W W' : World} {m : Nat} (h : QA w W m) (hb : Below W.heap.size W W') : QA w W' m := ⟨h.1.below hb, h.2.1.below hb h.2.1.lt, h.2.2⟩
theorem QZ.below {w W W' : World} {p : Nat} (h : QZ w W p) (hb : Below W.heap.size W W') : QZ w W' p := ⟨h.1.below hb, h.2.1.below hb h.2.1.lt, h.2.2⟩
theorem QAZ.below {w W W' : World} {m p : Nat} (h : QAZ w W m p) (hb : Below W.heap.size W W') : QAZ w W' m p := ⟨h.1.below hb, h.2.1.below hb h.2.1.lt, h.2.2.1.below hb h.2.2.1.lt, h.2.2.2⟩
theorem QR.alloc {w W : World} (h : QR w W) (o : Obj) : QR w (W.alloc o) := h.below ((Below.refl _ _).alloc (Nat.le_refl _) _)
theorem QR.a {w W : World} (h : QR w W) : QA w (W.alloc (.cells #[.bool false, .int .i64 0, .int .i64 0, .int .i64 0, .bool false, .int .u8 0, .int .u8 0, .int .u8 0, .int .u8 0, .int .u8 0, .int .u8 0, .int .u8 0, .int .u8 0, .int .u8 0, .int .u8 0, .int .u8 0, .int .u8 0, .int .u8 0, .int .u8 0, .int .u8 0, .int .u8 0, .bool false, .int .i64 0, .int .i64 0, .slice none 0 0, .slice none 0 0] 35)) W.heap.size := ⟨h.alloc _, ObjAt.made W _ _, h.1.lt⟩
theorem QR.z {w W : World} (h : QR w W) : QZ w (W.alloc (.cells #[.bool false, .int .u8 0, .int .u8 0, .int .u8 0, .int .u8 0, .int .u8 0, .int .u8 0, .int .u8 0, .int .u8 0, .int .u8 0, .int .u8 0, .int .u8 0, .int .u8 0, .int .u8 0, .int .u8 0, .int .u8 0, .int .u8 0] 31)) W.heap.size := ⟨h.alloc _, ObjAt.made W _ _, h.1.lt⟩
theorem QA.z {w W : World} {m : Nat} (h : QA w W m) : QAZ w (W.alloc (.cells #[.bool false, .int .u8 0, .int .u8 0, .int .u8 0, .int .u8 0, .int .u8 0, .int .u8 0, .int .u8 0, .int .u8 0, .int .u8 0, .int .u8 0, .int .u8 0, .int .u8 0, .int .u8 0, .int .u8 0, .int .u8 0, .int .u8 0] 31)) m W.heap.size := by
  have := h.2.1.lt
  exact ⟨h.1.alloc _, h.2.1.alloc _, ObjAt.made W _ _, h.2.2, h.1.1.lt, by omega⟩
theorem QZ.a {w W : World} {p : Nat} (h : QZ w W p) : QAZ w (W.alloc (.cells #[.bool false, .int .i64 0, .int .i64 0, .int .i64 0, .bool false, .int .u8 0, .int .u8 0, .int .u8 0, .int .u8 0, .int .u8 0, .int .u8 0, .int .u8 0, .int .u8 0, .int .u8 0, .int .u8 0, .int .u8 0, .int .u8 0, .int .u8 0, .int .u8 0, .int .u8 0, .int .u8 0, .bool false, .int .i64 0, .int .i64 0, .slice none 0 0, .slice none 0 0] 35)) W.heap.size p := by
  have := h.2.1.lt
  exact ⟨h.1.alloc _, ObjAt.made W _ _, h.2.1.alloc _, h.1.1.lt, h.2.2, by omega⟩
theorem QAZ.t0 {w W : World} {m p : Nat} (h : QAZ w W m p) (t : TK) (ho : adOk t.g) (hs : t.src = []) (hr : t.rcs = []) : QT w (aggW W m (tkC t (.slice none 0 0) (.slice none 0 0))) m t (.slice none 0 0) (.slice none 0 0) p #[.bool false, .int .u8 0, .int .u8 0, .int .u8 0, .int .u8 0, .int .u8 0, .int .u8 0, .int .u8 0, .int .u8 0, .int .u8 0, .int .u8 0, .int .u8 0, .int .u8 0, .int .u8 0, .int .u8 0, .int .u8 0, .int .u8 0] 31 := by
  obtain ⟨⟨h1, h2⟩, h3, h4, h5, h6, h7⟩ := h
  have hc := aggW_obj (L := (#[.bool false, .int .i64 0, .int .i64 0, .int .i64 0, .bool false, .int .u8 0, .int .u8 0, .int .u8 0, .int .u8 0, .int .u8 0, .int .u8 0, .int .u8 0, .int .u8 0, .int .u8 0, .int .u8 0, .int .u8 0, .int .u8 0, .int .u8 0, .int .u8 0, .int .u8 0, .int .u8 0, .bool false, .int .i64 0, .int .i64 0, .slice none 0 0, .slice none 0 0] : Array Value).toList) (cs := tkC t (.slice none 0 0) (.slice none 0 0)) (by simpa using h3) (by rw [tkC_length ho]; rfl) (tkC_one rfl rfl)
  exact ⟨aggW_other h1 _ (by omega), ⟨hc, ho⟩, aggW_below h2 (by omega) _, h5, by rw [hs]; exact AdsT.nil _, by rw [hr]; exact RcT.nil _, aggW_other h4 _ (Ne.symm h7), h6, h7⟩
theorem QT.zero {w W : World} {m p : Nat} {t : TK} (h : QT w W m t (.slice none 0 0) (.slice none 0 0) p #[.bool false, .int .u8 0, .int .u8 0, .int .u8 0, .int .u8 0, .int .u8 0, .int .u8 0, .int .u8 0, .int .u8 0, .int .u8 0, .int .u8 0, .int .u8 0, .int .u8 0, .int .u8 0, .int .u8 0, .int .u8 0, .int .u8 0] 31) (hs : t.src = []) (hr : t.rcs = []) : QT w (aggW W p (adC zeroA)) m t (.slice none 0 0) (.slice none 0 0) p (adC zeroA).toArray 31 := by
  have h1 := h.ltp
  have hc := aggW_obj (L := (#[.bool false, .int .u8 0, .int .u8 0, .int .u8 0, .int .u8 0, .int .u8 0, .int .u8 0, .int .u8 0, .int .u8 0, .int .u8 0, .int .u8 0, .int .u8 0, .int .u8 0, .int .u8 0, .int .u8 0, .int .u8 0, .int .u8 0] : Array Value).toList) (cs := adC zeroA) (by simpa using h.more) rfl (addrC_one _ _)
  exact ⟨aggW_other h.res _ (by omega), ⟨aggW_other h.tk.1 _ h.ne, h.tk.2⟩, aggW_below h.blw (by omega) _, h.lt, by rw [hs]; exact AdsT.nil _, by rw [hr]; exact RcT.nil _, hc, h1, h.ne⟩
end Go.Proofs.Ytlkihfmojnghhaa

/-
  Texts joined: TqA, TrA.
-/
import Derived.Test.YtacnhelnpngkgaaMg20
import Derived.Test.YtacnhelnpngkgaaMg22
import Derived.Test.YtacnhelnpngkgaaTr
import Derived.Deep.CutRange
import Derived.Deep.LoopGhost
/-
  The document's own query of layer 8.
-/
namespace Go.Proofs.Ytacnhelnpngkgaa
open Go.RowKit
set_option linter.unusedVariables false
set_option linter.unusedSimpArgs false
attribute [local go_sem ↓] ld_addr st_addr bld_addr ld_tk st_tk bld_tk
attribute [local go_sem] ldr_addr str_addr ldr_tk str_tk

/-- The result's cell alone; beside it a block for a talk, one for an address. -/
def QR (w W : World) : Prop := ObjAt W w.heap.size #[.bool false, .int .i64 0, .int .i64 0, .int .i64 0, .bool false, .int .u8 0, .int .u8 0, .int .u8 0, .int .u8 0, .int .u8 0, .int .u8 0, .int .u8 0, .int .u8 0, .int .u8 0, .int .u8 0, .int .u8 0, .int .u8 0, .int .u8 0, .int .u8 0, .int .u8 0, .int .u8 0, .bool false, .int .i64 0, .int .i64 0, .slice none 0 0, .slice none 0 0] 28 ∧ Below w.heap.size w W
theorem QR.start (w : World) : QR w (w.alloc (.cells #[.bool false, .int .i64 0, .int .i64 0, .int .i64 0, .bool false, .int .u8 0, .int .u8 0, .int .u8 0, .int .u8 0, .int .u8 0, .int .u8 0, .int .u8 0, .int .u8 0, .int .u8 0, .int .u8 0, .int .u8 0, .int .u8 0, .int .u8 0, .int .u8 0, .int .u8 0, .int .u8 0, .bool false, .int .i64 0, .int .i64 0, .slice none 0 0, .slice none 0 0] 28)) := ⟨ObjAt.made w _ _, (Below.refl _ _).alloc (Nat.le_refl _) _⟩
theorem QR.below {w W W' : World} (h : QR w W) (hb : Below W.heap.size W W') : QR w W' := ⟨h.1.below hb h.1.lt, bstep h.2 hb⟩
def QA (w W : World) (m : Nat) : Prop := QR w W ∧ ObjAt W m #[.bool false, .int .i64 0, .int .i64 0, .int .i64 0, .bool false, .int .u8 0, .int .u8 0, .int .u8 0, .int .u8 0, .int .u8 0, .int .u8 0, .int .u8 0, .int .u8 0, .int .u8 0, .int .u8 0, .int .u8 0, .int .u8 0, .int .u8 0, .int .u8 0, .int .u8 0, .int .u8 0, .bool false, .int .i64 0, .int .i64 0, .slice none 0 0, .slice none 0 0] 28 ∧ w.heap.size < m
def QZ (w W : World) (p : Nat) : Prop := QR w W ∧ ObjAt W p #[.bool false, .int .u8 0, .int .u8 0, .int .u8 0, .int .u8 0, .int .u8 0, .int .u8 0, .int .u8 0, .int .u8 0, .int .u8 0, .int .u8 0, .int .u8 0, .int .u8 0, .int .u8 0, .int .u8 0, .int .u8 0, .int .u8 0] 24 ∧ w.heap.size < p
def QAZ (w W : World) (m p : Nat) : Prop := QR w W ∧ ObjAt W m #[.bool false, .int .i64 0, .int .i64 0, .int .i64 0, .bool false, .int .u8 0, .int .u8 0, .int .u8 0, .int .u8 0, .int .u8 0, .int .u8 0, .int .u8 0, .int .u8 0, .int .u8 0, .int .u8 0, .int .u8 0, .int .u8 0, .int .u8 0, .int .u8 0, .int .u8 0, .int .u8 0, .bool false, .int .i64 0, .int .i64 0, .slice none 0 0, .slice none 0 0] 28 ∧ ObjAt W p #[.bool false, .int .u8 0, .int .u8 0, .int .u8 0, .int .u8 0, .int .u8 0, .int .u8 0, .int .u8 0, .int .u8 0, .int .u8 0, .int .u8 0, .int .u8 0, .int .u8 0, .int .u8 0, .int .u8 0, .int .u8 0, .int .u8 0] 24 ∧ w.heap.size < m ∧ w.heap.size < p ∧ m ≠ p
theorem QA.below {w W W' : World} {m : Nat} (h : QA w W m) (hb : Below W.heap.size W W') : QA w W' m := ⟨h.1.below hb, h.2.1.below hb h.2.1.lt, h.2.2⟩
theorem QZ.below {w W W' : World} {p : Nat} (h : QZ w W p) (hb : Below W.heap.size W W') : QZ w W' p := ⟨h.1.below hb, h.2.1.below hb h.2.1.lt, h.2.2⟩
theorem QAZ.below {w W W' : World} {m p : Nat} (h : QAZ w W m p) (hb : Below W.heap.size W W') : QAZ w W' m p := ⟨h.1.below hb, h.2.1.below hb h.2.1.lt, h.2.2.1.below hb h.2.2.1.lt, h.2.2.2⟩
theorem QR.alloc {w W : World} (h : QR w W) (o : Obj) : QR w (W.alloc o) := h.below ((Below.refl _ _).alloc (Nat.le_refl _) _)
theorem QR.a {w W : World} (h : QR w W) : QA w (W.alloc (.cells #[.bool false, .int .i64 0, .int .i64 0, .int .i64 0, .bool false, .int .u8 0, .int .u8 0, .int .u8 0, .int .u8 0, .int .u8 0, .int .u8 0, .int .u8 0, .int .u8 0, .int .u8 0, .int .u8 0, .int .u8 0, .int .u8 0, .int .u8 0, .int .u8 0, .int .u8 0, .int .u8 0, .bool false, .int .i64 0, .int .i64 0, .slice none 0 0, .slice none 0 0] 28)) W.heap.size := ⟨h.alloc _, ObjAt.made W _ _, h.1.lt⟩
theorem QR.z {w W : World} (h : QR w W) : QZ w (W.alloc (.cells #[.bool false, .int .u8 0, .int .u8 0, .int .u8 0, .int .u8 0, .int .u8 0, .int .u8 0, .int .u8 0, .int .u8 0, .int .u8 0, .int .u8 0, .int .u8 0, .int .u8 0, .int .u8 0, .int .u8 0, .int .u8 0, .int .u8 0] 24)) W.heap.size := ⟨h.alloc _, ObjAt.made W _ _, h.1.lt⟩
theorem QA.z {w W : World} {m : Nat} (h : QA w W m) : QAZ w (W.alloc (.cells #[.bool false, .int .u8 0, .int .u8 0, .int .u8 0, .int .u8 0, .int .u8 0, .int .u8 0, .int .u8 0, .int .u8 0, .int .u8 0, .int .u8 0, .int .u8 0, .int .u8 0, .int .u8 0, .int .u8 0, .int .u8 0, .int .u8 0] 24)) m W.heap.size := by
  have := h.2.1.lt
  exact ⟨h.1.alloc _, h.2.1.alloc _, ObjAt.made W _ _, h.2.2, h.1.1.lt, by omega⟩
theorem QZ.a {w W : World} {p : Nat} (h : QZ w W p) : QAZ w (W.alloc (.cells #[.bool false, .int .i64 0, .int .i64 0, .int .i64 0, .bool false, .int .u8 0, .int .u8 0, .int .u8 0, .int .u8 0, .int .u8 0, .int .u8 0, .int .u8 0, .int .u8 0, .int .u8 0, .int .u8 0, .int .u8 0, .int .u8 0, .int .u8 0, .int .u8 0, .int .u8 0, .int .u8 0, .bool false, .int .i64 0, .int .i64 0, .slice none 0 0, .slice none 0 0] 28)) W.heap.size p := by
  have := h.2.1.lt
  exact ⟨h.1.alloc _, ObjAt.made W _ _, h.2.1.alloc _, h.1.1.lt, h.2.2, by omega⟩
theorem QT.zero {w W : World} {m p : Nat} {t : TK} (h : QT w W m t (.slice none 0 0) (.slice none 0 0) p #[.bool false, .int .u8 0, .int .u8 0, .int .u8 0, .int .u8 0, .int .u8 0, .int .u8 0, .int .u8 0, .int .u8 0, .int .u8 0, .int .u8 0, .int .u8 0, .int .u8 0, .int .u8 0, .int .u8 0, .int .u8 0, .int .u8 0] 24) (hs : t.src = []) (hr : t.rcs = []) : QT w (aggW W p (adC zeroA)) m t (.slice none 0 0) (.slice none 0 0) p (adC zeroA).toArray 24 := by
  have h1 := h.ltp
  have hc := aggW_obj (L := (#[.bool false, .int .u8 0, .int .u8 0, .int .u8 0, .int .u8 0, .int .u8 0, .int .u8 0, .int .u8 0, .int .u8 0, .int .u8 0, .int .u8 0, .int .u8 0, .int .u8 0, .int .u8 0, .int .u8 0, .int .u8 0, .int .u8 0] : Array Value).toList) (cs := adC zeroA) (by simpa using h.more) rfl (addrC_one _ _)
  exact ⟨aggW_other h.res _ (by omega), ⟨aggW_other h.tk.1 _ h.ne, h.tk.2⟩, aggW_below h.blw (by omega) _, h.lt, by rw [hs]; exact AdsT.nil _, by rw [hr]; exact RcT.nil _, hc, h1, h.ne⟩
end Go.Proofs.Ytacnhelnpngkgaa

/-
  The document's own records of layer 8: the records of a report, read one after the other.
-/
namespace Go.Proofs.Ytacnhelnpngkgaa
open Go.RowKit
set_option linter.unusedVariables false
set_option linter.unusedSimpArgs false
attribute [local go_sem ↓] ld_addr st_addr bld_addr ld_rec st_rec bld_rec rcsLit_eq
attribute [local go_sem] ldr_addr str_addr ldr_rec str_rec

/-- What is left to read of a report's records. -/
def RS (s : List UInt8) (n i m : Nat) (acc : List RC) : Prop := (recL s 8 n).2 = (recL s i m).2 ∧ ((recL s i m).2 = 0 → (recL s 8 n).1 = acc ++ (recL s i m).1)
theorem RS.start (s : List UInt8) (n : Nat) : RS s n 8 n [] := ⟨rfl, fun _ => by simp⟩
theorem RS.done {s : List UInt8} {n i : Nat} {acc : List RC} (h : RS s n i 0 acc) : recL s 8 n = (acc, 0) := by
  obtain ⟨h1, h2⟩ := h
  have e : recL s i 0 = ([], 0) := by unfold recL; rfl
  rw [e] at h1 h2
  exact Prod.ext (by rw [h2 rfl]; simp) h1
theorem RS.step {s : List UInt8} {n i m : Nat} {acc : List RC} (h : RS s n i (m + 1) acc) (h1 : ¬ s.length < i + 8) (h2 : srcsE s (i + 8) (wd s (i + 2)) = 0) (h3 : ¬ s.length < recN s i) :
    RS s n (recN s i) m (if rcOk (rec1 s i) then acc ++ [rec1 s i] else acc) := by
  obtain ⟨a1, a2⟩ := h
  have e : recL s i (m + 1) = if (recL s (recN s i) m).2 ≠ 0 then ([], (recL s (recN s i) m).2) else (if rcOk (rec1 s i) then rec1 s i :: (recL s (recN s i) m).1 else (recL s (recN s i) m).1, 0) := by
    conv => lhs; unfold recL
    rw [if_neg h1, if_neg (by rw [h2]; simp), if_neg h3]
  rw [e] at a1 a2
  by_cases hz : (recL s (recN s i) m).2 = 0
  · rw [if_neg (by rw [hz]; simp)] at a1 a2
    refine ⟨by rw [a1, hz], fun _ => ?_⟩
    rw [a2 rfl]
    split <;> simp
  · rw [if_pos hz] at a1
    exact ⟨a1, fun h => absurd h hz⟩
/-- A record that has been boxed in the region. -/
def RG8 (w0 W : World) (m : Nat) (r : RC) (u : Value) : Prop := RcU W m 0 r u ∧ Below w0.heap.size w0 W ∧ w0.heap.size ≤ m
theorem RG8.below {w0 W W' : World} {m : Nat} {r : RC} {u : Value} (h : RG8 w0 W m r u) (hb : Below W.heap.size W W') : RG8 w0 W' m r u := ⟨h.1.below hb, bstep h.2.1 hb, h.2.2⟩
/-- An alloc, calls behind it or ahead of it, and the store. -/
theorem RG8.put {w0 W1 W2 : World} {r : RC} {u : Value} (h0 : Below w0.heap.size w0 W1) (ho : adOk r.g) (ha : Ads w0 u r.src) (h2 : Below (W1.alloc (.cells #[.int .i64 0, .bool false, .int .u8 0, .int .u8 0, .int .u8 0, .int .u8 0, .int .u8 0, .int .u8 0, .int .u8 0, .int .u8 0, .int .u8 0, .int .u8 0, .int .u8 0, .int .u8 0, .int .u8 0, .int .u8 0, .int .u8 0, .int .u8 0, .slice none 0 0] 40)).heap.size (W1.alloc (.cells #[.int .i64 0, .bool false, .int .u8 0, .int .u8 0, .int .u8 0, .int .u8 0, .int .u8 0, .int .u8 0, .int .u8 0, .int .u8 0, .int .u8 0, .int .u8 0, .int .u8 0, .int .u8 0, .int .u8 0, .int .u8 0, .int .u8 0, .int .u8 0, .slice none 0 0] 40)) W2) : RG8 w0 (aggW W2 W1.heap.size (rcC r u)) W1.heap.size r u := by
  have h1 : Below w0.heap.size w0 (W1.alloc (.cells #[.int .i64 0, .bool false, .int .u8 0, .int .u8 0, .int .u8 0, .int .u8 0, .int .u8 0, .int .u8 0, .int .u8 0, .int .u8 0, .int .u8 0, .int .u8 0, .int .u8 0, .int .u8 0, .int .u8 0, .int .u8 0, .int .u8 0, .int .u8 0, .slice none 0 0] 40)) := h0.alloc h0.size _
  have hb : Below w0.heap.size w0 (aggW W2 W1.heap.size (rcC r u)) := aggW_below (bstep h1 h2) h0.size _
  have hob := ObjAt.made W1 #[.int .i64 0, .bool false, .int .u8 0, .int .u8 0, .int .u8 0, .int .u8 0, .int .u8 0, .int .u8 0, .int .u8 0, .int .u8 0, .int .u8 0, .int .u8 0, .int .u8 0, .int .u8 0, .int .u8 0, .int .u8 0, .int .u8 0, .int .u8 0, .slice none 0 0] 40
  have hob2 := hob.below h2 hob.lt
  have hc := aggW_obj (L := (#[.int .i64 0, .bool false, .int .u8 0, .int .u8 0, .int .u8 0, .int .u8 0, .int .u8 0, .int .u8 0, .int .u8 0, .int .u8 0, .int .u8 0, .int .u8 0, .int .u8 0, .int .u8 0, .int .u8 0, .int .u8 0, .int .u8 0, .int .u8 0, .slice none 0 0] : Array Value).toList) (cs := rcC r u) (by simpa using hob2) (by rw [rcC_length ho]; rfl) (rcC_one ha.one)
  have hf : free? W2 W1.heap.size 0 19 = true := obj_free hob2 (by simp)
  exact ⟨⟨ho, hc.lt, aggW_row hf (rcC_length ho u), ha.below hb⟩, hb, h0.size⟩

end Go.Proofs.Ytacnhelnpngkgaa


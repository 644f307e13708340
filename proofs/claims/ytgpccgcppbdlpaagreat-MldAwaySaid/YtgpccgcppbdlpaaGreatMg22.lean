/-
  Texts joined: EqE, EqI, IpR, IpG, IpU, TqA, TrA, TqB, TlD.
-/
import Derived.Test.YtgpccgcppbdlpaaGreatMg03
import Derived.Test.YtgpccgcppbdlpaaGreatEth
import Derived.Test.YtgpccgcppbdlpaaGreatMg07
import Derived.Test.YtgpccgcppbdlpaaGreatMg20
import Derived.Test.YtgpccgcppbdlpaaGreatMg09
import Derived.Test.YtgpccgcppbdlpaaGreatMg10
import Derived.Test.YtgpccgcppbdlpaaGreatMg11
import Derived.Deep.CutRange
import Derived.Deep.LoopGhost
/-
  A frame held against itself: a rule for the walk.
-/
namespace Go.Proofs.YtgpccgcppbdlpaaGreat
open Go.RowKit
set_option linter.unusedVariables false

end Go.Proofs.YtgpccgcppbdlpaaGreat

/-
  A packet held against itself: a rule for the walk.
-/
namespace Go.Proofs.YtgpccgcppbdlpaaGreat
open Go.RowKit
set_option linter.unusedVariables false

end Go.Proofs.YtgpccgcppbdlpaaGreat

/-
  The contract of ip4.Read.
-/
namespace Go.Proofs.YtgpccgcppbdlpaaGreat
open Go.RowKit
set_option linter.unusedVariables false
attribute [local go_sem ↓] ld_addr st_addr
attribute [local go_sem] ldr_addr str_addr

end Go.Proofs.YtgpccgcppbdlpaaGreat

/-
  The document's own Alert.
-/
namespace Go.Proofs.YtgpccgcppbdlpaaGreat
open Go.RowKit
set_option linter.unusedVariables false

theorem by8_drop (s : List UInt8) (i j : Nat) : by8 (s.drop i) j = by8 s (i + j) := by
  unfold by8
  rw [List.getD_eq_getElem?_getD, List.getD_eq_getElem?_getD, List.getElem?_drop]
end Go.Proofs.YtgpccgcppbdlpaaGreat

/-
  The document's own reading of a packet: what is wrong.
-/
namespace Go.Proofs.YtgpccgcppbdlpaaGreat
open Go.RowKit
set_option linter.unusedVariables false
attribute [local go_sem ↓] ld_addr st_addr
attribute [local go_sem] ldr_addr str_addr

theorem rnum3 (s : List UInt8) (hs : s.length ≤ 100000) (a b : Nat) (w : World) : Calls Tryz.prog 88 #[.string ((Str s).extract a b)] w fun x w' => x = .returned (.int .u64 (num ((s.drop a).take (b - a)))) ∧ w' = w := by
  have h := rnum_any ((Str s).extract a b) (by unfold maxLen; rw [Str_extract, Str_size]; simp; omega) w
  rw [Str_extract] at h ⊢
  exact h.mono fun x w' h => ⟨h.1, h.2.symm⟩

end Go.Proofs.YtgpccgcppbdlpaaGreat

/-
  The document's own query of layer 8.
-/
namespace Go.Proofs.YtgpccgcppbdlpaaGreat
open Go.RowKit
set_option linter.unusedVariables false
set_option linter.unusedSimpArgs false
attribute [local go_sem ↓] ld_addr st_addr bld_addr ld_tk st_tk bld_tk
attribute [local go_sem] ldr_addr str_addr ldr_tk str_tk

/-- The result's cell alone; beside it a block for a talk, one for an address. -/
def QR (w W : World) : Prop := ObjAt W w.heap.size #[.bool false, .int .i64 0, .int .i64 0, .int .i64 0, .bool false, .int .u8 0, .int .u8 0, .int .u8 0, .int .u8 0, .int .u8 0, .int .u8 0, .int .u8 0, .int .u8 0, .int .u8 0, .int .u8 0, .int .u8 0, .int .u8 0, .int .u8 0, .int .u8 0, .int .u8 0, .int .u8 0, .bool false, .int .i64 0, .int .i64 0, .slice none 0 0, .slice none 0 0] 28 ∧ Below w.heap.size w W
theorem QR.start (w : World) : QR w (w.alloc (.cells #[.bool false, .int .i64 0, .int .i64 0, .int .i64 0, .bool false, .int .u8 0, .int .u8 0, .int .u8 0, .int .u8 0, .int .u8 0, .int .u8 0, .int .u8 0, .int .u8 0, .int .u8 0, .int .u8 0, .int .u8 0, .int .u8 0, .int .u8 0, .int .u8 0, .int .u8 0, .int .u8 0, .bool false, .int .i64 0, .int .i64 0, .slice none 0 0, .slice none 0 0] 28)) := ⟨ObjAt.made w _ _, (Below.refl _ _).alloc (Nat.le_refl _) _⟩
theorem QR.below {w W W' : World} (h : QR w W) (hb : Below W.heap.size W W') : QR w W' := ⟨h.1.below hb h.1.lt, bstep h.2 hb⟩
def QA (w W : World) (m : Nat) : Prop := QR w W ∧ ObjAt W m #[.bool false, .int .i64 0, .int .i64 0, .int .i64 0, .bool false, .int .u8 0, .int .u8 0, .int .u8 0, .int .u8 0, .int .u8 0, .int .u8 0, .int .u8 0, .int .u8 0, .int .u8 0, .int .u8 0, .int .u8 0, .int .u8 0, .int .u8 0, .int .u8 0, .int .u8 0, .int .u8 0, .bool false, .int .i64 0, .int .i64 0, .slice none 0 0, .slice none 0 0] 28 ∧ w.heap.size < m
def QZ (w W : World) (p : Nat) : Prop := QR w W ∧ ObjAt W p #[.bool false, .int .u8 0, .int .u8 0, .int .u8 0, .int .u8 0, .int .u8 0, .int .u8 0, .int .u8 0, .int .u8 0, .int .u8 0, .int .u8 0, .int .u8 0, .int .u8 0, .int .u8 0, .int .u8 0, .int .u8 0, .int .u8 0] 24 ∧ w.heap.size < p
def QAZ (w W : World) (m p : Nat) : Prop := QR w W ∧ ObjAt W m #[.bool false, .int .i64 0, .int .i64 0, .int .i64 0, .bool false, .int .u8 0, .int .u8 0, .int .u8 0, .int .u8 0, .int .u8 0, .int .u8 0, .int .u8 0, .int .u8 0, .int .u8 0, .int .u8 0, .int .u8 0, .int .u8 0, .int .u8 0, .int .u8 0, .int .u8 0, .int .u8 0, .bool false, .int .i64 0, .int .i64 0, .slice none 0 0, .slice none 0 0] 28 ∧ ObjAt W p #[.bool false, .int .u8 0, .int .u8 0, .int .u8 0, .int .u8 0, .int .u8 0, .int .u8 0, .int .u8 0, .int .u8 0, .int .u8 0, .int .u8 0, .int .u8 0, .int .u8 0, .int .u8 0, .int .u8 0, .int .u8 0, .int .u8 0] 24 ∧ w.heap.size < m ∧ w.heap.size < p ∧ m ≠ p
theorem QA.below {w W W' : World} {m : Nat} (h : QA w W m) (hb : Below W.heap.size W W') : QA w W' m := ⟨h.1.below hb, h.2.1.below hb h.2.1.lt, h.2.2⟩
theorem QZ.below {w W W' : World} {p : Nat} (h : QZ w W p) (hb : Below W.heap.size W W') : QZ w W' p := ⟨h.1.below hb, h.2.1.below hb h.2.1.lt, h.2.2⟩
theorem QAZ.below {w W W' : World} {m p : Nat} (h : QAZ w W m p) (hb : Below W.heap.size W W') : QAZ w W' m p := ⟨h.1.below hb, h.2.1.below hb h.2.1.lt, h.2.2.1.below hb h.2.2.1.lt, h.2.2.2⟩
theorem QR.alloc {w W : World} (h : QR w W) (o : Obj) : QR w (W.alloc o) := h.below ((Below.refl _ _).alloc (Nat.le_refl _) _)
theorem QR.a {w W : World} (h : QR w W) : QA w (W.alloc (.cells #[.bool false, .int .i64 0, .int .i64 0, .int .i64 0, .bool false, .int .u8 0, .int .u8 0, .int .u8 0, .int .u8 0, .int .u8 0, .int .u8 0, .int .u8 0, .int .u8 0, .int .u8 0, .int .u8 0, .int .u8 0, .int .u8 0, .int .u8 0, .int .u8 0, .int .u8 0, .int .u8 0, .bool false, .int .i64 0, .int .i64 0, .slice none 0 0, .slice none 0 0] 28)) W.heap.size := ⟨h.alloc _, ObjAt.made W _ _, h.1.lt⟩
theorem QR.z {w W : World} (h : QR w W) : QZ w (W.alloc (.cells #[.bool false, .int .u8 0, .int .u8 0, .int .u8 0, .int .u8 0, .int .u8 0, .int .u8 0, .int .u8 0, .int .u8 0, .int .u8 0, .int .u8 0, .int .u8 0, .int .u8 0, .int .u8 0, .int .u8 0, .int .u8 0, .int .u8 0] 24)) W.heap.size := ⟨h.alloc _, ObjAt.made W _ _, h.1.lt⟩
theorem QA.z {w W : World} {m : Nat} (h : QA w W m) : QAZ w (W.alloc (.cells #[.bool false, .int .u8 0, .int .u8 0, .int .u8 0, .int .u8 0, .int .u8 0, .int .u8 0, .int .u8 0, .int .u8 0, .int .u8 0, .int .u8 0, .int .u8 0, .int .u8 0, .int .u8 0, .int .u8 0, .int .u8 0, .int .u8 0] 24)) m W.heap.size := by
  have := h.2.1.lt
  exact ⟨h.1.alloc _, h.2.1.alloc _, ObjAt.made W _ _, h.2.2, h.1.1.lt, by omega⟩
theorem QZ.a {w W : World} {p : Nat} (h : QZ w W p) : QAZ w (W.alloc (.cells #[.bool false, .int .i64 0, .int .i64 0, .int .i64 0, .bool false, .int .u8 0, .int .u8 0, .int .u8 0, .int .u8 0, .int .u8 0, .int .u8 0, .int .u8 0, .int .u8 0, .int .u8 0, .int .u8 0, .int .u8 0, .int .u8 0, .int .u8 0, .int .u8 0, .int .u8 0, .int .u8 0, .bool false, .int .i64 0, .int .i64 0, .slice none 0 0, .slice none 0 0] 28)) W.heap.size p := by
  have := h.2.1.lt
  exact ⟨h.1.alloc _, ObjAt.made W _ _, h.2.1.alloc _, h.1.1.lt, h.2.2, by omega⟩
theorem QAZ.t0 {w W : World} {m p : Nat} (h : QAZ w W m p) (t : TK) (ho : adOk t.g) (hs : t.src = []) (hr : t.rcs = []) : QT w (aggW W m (tkC t (.slice none 0 0) (.slice none 0 0))) m t (.slice none 0 0) (.slice none 0 0) p #[.bool false, .int .u8 0, .int .u8 0, .int .u8 0, .int .u8 0, .int .u8 0, .int .u8 0, .int .u8 0, .int .u8 0, .int .u8 0, .int .u8 0, .int .u8 0, .int .u8 0, .int .u8 0, .int .u8 0, .int .u8 0, .int .u8 0] 24 := by
  obtain ⟨⟨h1, h2⟩, h3, h4, h5, h6, h7⟩ := h
  have hc := aggW_obj (L := (#[.bool false, .int .i64 0, .int .i64 0, .int .i64 0, .bool false, .int .u8 0, .int .u8 0, .int .u8 0, .int .u8 0, .int .u8 0, .int .u8 0, .int .u8 0, .int .u8 0, .int .u8 0, .int .u8 0, .int .u8 0, .int .u8 0, .int .u8 0, .int .u8 0, .int .u8 0, .int .u8 0, .bool false, .int .i64 0, .int .i64 0, .slice none 0 0, .slice none 0 0] : Array Value).toList) (cs := tkC t (.slice none 0 0) (.slice none 0 0)) (by simpa using h3) (by rw [tkC_length ho]; rfl) (tkC_one rfl rfl)
  exact ⟨aggW_other h1 _ (by omega), ⟨hc, ho⟩, aggW_below h2 (by omega) _, h5, by rw [hs]; exact AdsT.nil _, by rw [hr]; exact RcT.nil _, aggW_other h4 _ (Ne.symm h7), h6, h7⟩
theorem QT.zero {w W : World} {m p : Nat} {t : TK} (h : QT w W m t (.slice none 0 0) (.slice none 0 0) p #[.bool false, .int .u8 0, .int .u8 0, .int .u8 0, .int .u8 0, .int .u8 0, .int .u8 0, .int .u8 0, .int .u8 0, .int .u8 0, .int .u8 0, .int .u8 0, .int .u8 0, .int .u8 0, .int .u8 0, .int .u8 0, .int .u8 0] 24) (hs : t.src = []) (hr : t.rcs = []) : QT w (aggW W p (adC zeroA)) m t (.slice none 0 0) (.slice none 0 0) p (adC zeroA).toArray 24 := by
  have h1 := h.ltp
  have hc := aggW_obj (L := (#[.bool false, .int .u8 0, .int .u8 0, .int .u8 0, .int .u8 0, .int .u8 0, .int .u8 0, .int .u8 0, .int .u8 0, .int .u8 0, .int .u8 0, .int .u8 0, .int .u8 0, .int .u8 0, .int .u8 0, .int .u8 0, .int .u8 0] : Array Value).toList) (cs := adC zeroA) (by simpa using h.more) rfl (addrC_one _ _)
  exact ⟨aggW_other h.res _ (by omega), ⟨aggW_other h.tk.1 _ h.ne, h.tk.2⟩, aggW_below h.blw (by omega) _, h.lt, by rw [hs]; exact AdsT.nil _, by rw [hr]; exact RcT.nil _, hc, h1, h.ne⟩
/-- What query tells. -/
def QryP (w : World) (s : List UInt8) (x : Ending) (w' : World) : Prop := ∃ t us ur, x = .returned (.tuple #[.agg (tkC t us ur).toArray, .int .i64 (qry s).2]) ∧ Below w.heap.size w w' ∧ adOk t.g ∧ us.oneCell' = true ∧ ur.oneCell' = true ∧ ((qry s).2 = 0 → t = (qry s).1 ∧ AdsT w' us t.src ∧ RcT w' ur t.rcs)
theorem QT.ret {w W : World} {m p : Nat} {t : TK} {us ur : Value} {L : Array Value} {T : TypeId} (h : QT w W m t us ur p L T) {s : List UInt8} {e : Int} (he : (qry s).2 = e) (ht : e = 0 → (qry s).1 = t) :
    row? (aggW W w.heap.size (tkC t us ur)) w.heap.size 0 26 = some (tkC t us ur) ∧ QryP w s (.returned (.tuple #[.agg (tkC t us ur).toArray, .int .i64 e])) (aggW W w.heap.size (tkC t us ur)) := by
  obtain ⟨q1, q2, q3, q4⟩ := h.done
  exact ⟨q1, t, us, ur, by rw [he], q2, h.tk.2, h.src.1.one, h.rcs.rcs.one, fun h0 => ⟨(ht (he ▸ h0)).symm, q3, q4⟩⟩

end Go.Proofs.YtgpccgcppbdlpaaGreat

/-
  The document's own records of layer 8: the records of a report, read one after the other.
-/
namespace Go.Proofs.YtgpccgcppbdlpaaGreat
open Go.RowKit
set_option linter.unusedVariables false
set_option linter.unusedSimpArgs false
attribute [local go_sem ↓] ld_addr st_addr bld_addr ld_rec st_rec bld_rec rcsLit_eq
attribute [local go_sem] ldr_addr str_addr ldr_rec str_rec

/-- What is left to read of a report's records. -/
def RS (s : List UInt8) (n i m : Nat) (acc : List RC) : Prop := (recL s 8 n).2 = (recL s i m).2 ∧ ((recL s i m).2 = 0 → (recL s 8 n).1 = acc ++ (recL s i m).1)
theorem RS.start (s : List UInt8) (n : Nat) : RS s n 8 n [] := ⟨rfl, fun _ => by simp⟩
theorem RS.done {s : List UInt8} {n i : Nat} {acc : List RC} (h : RS s n i 0 acc) : recL s 8 n = (acc, 0) := by
  obtain ⟨h1, h2⟩ := h
  have e : recL s i 0 = ([], 0) := by unfold recL; rfl
  rw [e] at h1 h2
  exact Prod.ext (by rw [h2 rfl]; simp) h1
theorem RS.short {s : List UInt8} {n i m : Nat} {acc : List RC} (h : RS s n i (m + 1) acc) (h1 : s.length < i + 8) : (recL s 8 n).2 = 3 := by
  rw [h.1]; unfold recL; rw [if_pos h1]
theorem RS.srcs {s : List UInt8} {n i m : Nat} {acc : List RC} (h : RS s n i (m + 1) acc) (h1 : ¬ s.length < i + 8) (h2 : srcsE s (i + 8) (wd s (i + 2)) ≠ 0) : (recL s 8 n).2 = srcsE s (i + 8) (wd s (i + 2)) := by
  rw [h.1]; unfold recL; rw [if_neg h1, if_pos h2]
theorem RS.ends {s : List UInt8} {n i m : Nat} {acc : List RC} (h : RS s n i (m + 1) acc) (h1 : ¬ s.length < i + 8) (h2 : srcsE s (i + 8) (wd s (i + 2)) = 0) (h3 : s.length < recN s i) : (recL s 8 n).2 = 3 := by
  rw [h.1]; unfold recL; rw [if_neg h1, if_neg (by rw [h2]; simp), if_pos h3]
theorem RS.step {s : List UInt8} {n i m : Nat} {acc : List RC} (h : RS s n i (m + 1) acc) (h1 : ¬ s.length < i + 8) (h2 : srcsE s (i + 8) (wd s (i + 2)) = 0) (h3 : ¬ s.length < recN s i) :
    RS s n (recN s i) m (if rcOk (rec1 s i) then acc ++ [rec1 s i] else acc) := by
  obtain ⟨a1, a2⟩ := h
  have e : recL s i (m + 1) = if (recL s (recN s i) m).2 ≠ 0 then ([], (recL s (recN s i) m).2) else (if rcOk (rec1 s i) then rec1 s i :: (recL s (recN s i) m).1 else (recL s (recN s i) m).1, 0) := by
    conv => lhs; unfold recL
    rw [if_neg h1, if_neg (by rw [h2]; simp), if_neg h3]
  rw [e] at a1 a2
  by_cases hz : (recL s (recN s i) m).2 = 0
  · rw [if_neg (by rw [hz]; simp)] at a1 a2
    refine ⟨by rw [a1, hz], fun _ => ?_⟩
    rw [a2 rfl]
    split <;> simp
  · rw [if_pos hz] at a1
    exact ⟨a1, fun h => absurd h hz⟩
/-- A record that has been boxed in the region. -/
def RG8 (w0 W : World) (m : Nat) (r : RC) (u : Value) : Prop := RcU W m 0 r u ∧ Below w0.heap.size w0 W ∧ w0.heap.size ≤ m
theorem RG8.below {w0 W W' : World} {m : Nat} {r : RC} {u : Value} (h : RG8 w0 W m r u) (hb : Below W.heap.size W W') : RG8 w0 W' m r u := ⟨h.1.below hb, bstep h.2.1 hb, h.2.2⟩
/-- An alloc, calls behind it or ahead of it, and the store. -/
theorem RG8.put {w0 W1 W2 : World} {r : RC} {u : Value} (h0 : Below w0.heap.size w0 W1) (ho : adOk r.g) (ha : Ads w0 u r.src) (h2 : Below (W1.alloc (.cells #[.int .i64 0, .bool false, .int .u8 0, .int .u8 0, .int .u8 0, .int .u8 0, .int .u8 0, .int .u8 0, .int .u8 0, .int .u8 0, .int .u8 0, .int .u8 0, .int .u8 0, .int .u8 0, .int .u8 0, .int .u8 0, .int .u8 0, .int .u8 0, .slice none 0 0] 62)).heap.size (W1.alloc (.cells #[.int .i64 0, .bool false, .int .u8 0, .int .u8 0, .int .u8 0, .int .u8 0, .int .u8 0, .int .u8 0, .int .u8 0, .int .u8 0, .int .u8 0, .int .u8 0, .int .u8 0, .int .u8 0, .int .u8 0, .int .u8 0, .int .u8 0, .int .u8 0, .slice none 0 0] 62)) W2) : RG8 w0 (aggW W2 W1.heap.size (rcC r u)) W1.heap.size r u := by
  have h1 : Below w0.heap.size w0 (W1.alloc (.cells #[.int .i64 0, .bool false, .int .u8 0, .int .u8 0, .int .u8 0, .int .u8 0, .int .u8 0, .int .u8 0, .int .u8 0, .int .u8 0, .int .u8 0, .int .u8 0, .int .u8 0, .int .u8 0, .int .u8 0, .int .u8 0, .int .u8 0, .int .u8 0, .slice none 0 0] 62)) := h0.alloc h0.size _
  have hb : Below w0.heap.size w0 (aggW W2 W1.heap.size (rcC r u)) := aggW_below (bstep h1 h2) h0.size _
  have hob := ObjAt.made W1 #[.int .i64 0, .bool false, .int .u8 0, .int .u8 0, .int .u8 0, .int .u8 0, .int .u8 0, .int .u8 0, .int .u8 0, .int .u8 0, .int .u8 0, .int .u8 0, .int .u8 0, .int .u8 0, .int .u8 0, .int .u8 0, .int .u8 0, .int .u8 0, .slice none 0 0] 62
  have hob2 := hob.below h2 hob.lt
  have hc := aggW_obj (L := (#[.int .i64 0, .bool false, .int .u8 0, .int .u8 0, .int .u8 0, .int .u8 0, .int .u8 0, .int .u8 0, .int .u8 0, .int .u8 0, .int .u8 0, .int .u8 0, .int .u8 0, .int .u8 0, .int .u8 0, .int .u8 0, .int .u8 0, .int .u8 0, .slice none 0 0] : Array Value).toList) (cs := rcC r u) (by simpa using hob2) (by rw [rcC_length ho]; rfl) (rcC_one ha.one)
  have hf : free? W2 W1.heap.size 0 19 = true := obj_free hob2 (by simp)
  exact ⟨⟨ho, hc.lt, aggW_row hf (rcC_length ho u), ha.below hb⟩, hb, h0.size⟩

theorem RG8.putd {w0 W1 W2 : World} {r : RC} {u : Value} (h0 : Below w0.heap.size w0 W1) (ho : adOk r.g) (ha : Ads w0 u r.src) (h2 : Below (W1.alloc (.cells #[.int .i64 0, .bool false, .int .u8 0, .int .u8 0, .int .u8 0, .int .u8 0, .int .u8 0, .int .u8 0, .int .u8 0, .int .u8 0, .int .u8 0, .int .u8 0, .int .u8 0, .int .u8 0, .int .u8 0, .int .u8 0, .int .u8 0, .int .u8 0, .slice none 0 0] 62)).drew.heap.size (W1.alloc (.cells #[.int .i64 0, .bool false, .int .u8 0, .int .u8 0, .int .u8 0, .int .u8 0, .int .u8 0, .int .u8 0, .int .u8 0, .int .u8 0, .int .u8 0, .int .u8 0, .int .u8 0, .int .u8 0, .int .u8 0, .int .u8 0, .int .u8 0, .int .u8 0, .slice none 0 0] 62)).drew W2) : RG8 w0 (aggW W2 W1.heap.size (rcC r u)) W1.heap.size r u :=
  RG8.put h0 ho ha (bstep (show Below (W1.alloc (.cells #[.int .i64 0, .bool false, .int .u8 0, .int .u8 0, .int .u8 0, .int .u8 0, .int .u8 0, .int .u8 0, .int .u8 0, .int .u8 0, .int .u8 0, .int .u8 0, .int .u8 0, .int .u8 0, .int .u8 0, .int .u8 0, .int .u8 0, .int .u8 0, .slice none 0 0] 62)).heap.size (W1.alloc (.cells #[.int .i64 0, .bool false, .int .u8 0, .int .u8 0, .int .u8 0, .int .u8 0, .int .u8 0, .int .u8 0, .int .u8 0, .int .u8 0, .int .u8 0, .int .u8 0, .int .u8 0, .int .u8 0, .int .u8 0, .int .u8 0, .int .u8 0, .int .u8 0, .slice none 0 0] 62)) (W1.alloc (.cells #[.int .i64 0, .bool false, .int .u8 0, .int .u8 0, .int .u8 0, .int .u8 0, .int .u8 0, .int .u8 0, .int .u8 0, .int .u8 0, .int .u8 0, .int .u8 0, .int .u8 0, .int .u8 0, .int .u8 0, .int .u8 0, .int .u8 0, .int .u8 0, .slice none 0 0] 62)).drew from ⟨rfl, rfl, rfl, Nat.le_refl _, fun _ _ => rfl⟩) h2)

end Go.Proofs.YtgpccgcppbdlpaaGreat

/-
  The document's own Read of layer 8.
-/
namespace Go.Proofs.YtgpccgcppbdlpaaGreat
open Go.RowKit
set_option linter.unusedVariables false
set_option linter.unusedSimpArgs false
attribute [local go_sem ↓] ld_addr st_addr bld_addr ld_tk st_tk bld_tk
attribute [local go_sem] ldr_addr str_addr ldr_tk str_tk

/-- The result's cell and the zero talk. -/
structure QN (w W : World) (p : Nat) : Prop where
  res : ObjAt W w.heap.size #[.bool false, .int .i64 0, .int .i64 0, .int .i64 0, .bool false, .int .u8 0, .int .u8 0, .int .u8 0, .int .u8 0, .int .u8 0, .int .u8 0, .int .u8 0, .int .u8 0, .int .u8 0, .int .u8 0, .int .u8 0, .int .u8 0, .int .u8 0, .int .u8 0, .int .u8 0, .int .u8 0, .bool false, .int .i64 0, .int .i64 0, .slice none 0 0, .slice none 0 0] 28
  zer : ObjAt W p (tkC zeroT (.slice none 0 0) (.slice none 0 0)).toArray 28
  blw : Below w.heap.size w W
  ltp : w.heap.size < p
theorem QN.start (w : World) : QN w (aggW ((w.alloc (.cells #[.bool false, .int .i64 0, .int .i64 0, .int .i64 0, .bool false, .int .u8 0, .int .u8 0, .int .u8 0, .int .u8 0, .int .u8 0, .int .u8 0, .int .u8 0, .int .u8 0, .int .u8 0, .int .u8 0, .int .u8 0, .int .u8 0, .int .u8 0, .int .u8 0, .int .u8 0, .int .u8 0, .bool false, .int .i64 0, .int .i64 0, .slice none 0 0, .slice none 0 0] 28)).alloc (.cells #[.bool false, .int .i64 0, .int .i64 0, .int .i64 0, .bool false, .int .u8 0, .int .u8 0, .int .u8 0, .int .u8 0, .int .u8 0, .int .u8 0, .int .u8 0, .int .u8 0, .int .u8 0, .int .u8 0, .int .u8 0, .int .u8 0, .int .u8 0, .int .u8 0, .int .u8 0, .int .u8 0, .bool false, .int .i64 0, .int .i64 0, .slice none 0 0, .slice none 0 0] 28)) (w.heap.size + 1) (tkC zeroT (.slice none 0 0) (.slice none 0 0))) (w.heap.size + 1) := by
  have s1 : (w.alloc (.cells #[.bool false, .int .i64 0, .int .i64 0, .int .i64 0, .bool false, .int .u8 0, .int .u8 0, .int .u8 0, .int .u8 0, .int .u8 0, .int .u8 0, .int .u8 0, .int .u8 0, .int .u8 0, .int .u8 0, .int .u8 0, .int .u8 0, .int .u8 0, .int .u8 0, .int .u8 0, .int .u8 0, .bool false, .int .i64 0, .int .i64 0, .slice none 0 0, .slice none 0 0] 28)).heap.size = w.heap.size + 1 := by simp
  have h1 := ObjAt.made (w.alloc (.cells #[.bool false, .int .i64 0, .int .i64 0, .int .i64 0, .bool false, .int .u8 0, .int .u8 0, .int .u8 0, .int .u8 0, .int .u8 0, .int .u8 0, .int .u8 0, .int .u8 0, .int .u8 0, .int .u8 0, .int .u8 0, .int .u8 0, .int .u8 0, .int .u8 0, .int .u8 0, .int .u8 0, .bool false, .int .i64 0, .int .i64 0, .slice none 0 0, .slice none 0 0] 28)) #[.bool false, .int .i64 0, .int .i64 0, .int .i64 0, .bool false, .int .u8 0, .int .u8 0, .int .u8 0, .int .u8 0, .int .u8 0, .int .u8 0, .int .u8 0, .int .u8 0, .int .u8 0, .int .u8 0, .int .u8 0, .int .u8 0, .int .u8 0, .int .u8 0, .int .u8 0, .int .u8 0, .bool false, .int .i64 0, .int .i64 0, .slice none 0 0, .slice none 0 0] 28
  rw [s1] at h1
  exact ⟨aggW_other (ObjAt.alloc (ObjAt.made w _ _) _) _ (by omega), aggW_obj (L := (#[.bool false, .int .i64 0, .int .i64 0, .int .i64 0, .bool false, .int .u8 0, .int .u8 0, .int .u8 0, .int .u8 0, .int .u8 0, .int .u8 0, .int .u8 0, .int .u8 0, .int .u8 0, .int .u8 0, .int .u8 0, .int .u8 0, .int .u8 0, .int .u8 0, .int .u8 0, .int .u8 0, .bool false, .int .i64 0, .int .i64 0, .slice none 0 0, .slice none 0 0] : Array Value).toList) (by simpa using h1) rfl (tkC_one rfl rfl), aggW_below (((Below.refl _ _).alloc (Nat.le_refl _) _).alloc (by simp) _) (by omega) _, by omega⟩
theorem QN.below {w W W' : World} {p : Nat} (h : QN w W p) (hb : Below W.heap.size W W') : QN w W' p := ⟨h.res.below hb h.res.lt, h.zer.below hb h.zer.lt, bstep h.blw hb, h.ltp⟩
theorem QN.free {w W : World} {p : Nat} (h : QN w W p) : free? W w.heap.size 0 26 = true := obj_free h.res (by simp)
theorem QN.row {w W : World} {p : Nat} (h : QN w W p) : row? W p 0 26 = some (tkC zeroT (.slice none 0 0) (.slice none 0 0)) := obj_rowk (A := []) (M := tkC zeroT (.slice none 0 0) (.slice none 0 0)) (C := []) (by simpa using h.zer) rfl rfl
/-- What Read tells. -/
def ReadP (w : World) (s : List UInt8) (x : Ending) (w' : World) : Prop := ∃ us ur, x = .returned (.tuple #[.agg (tkC (readT s).1 us ur).toArray, .int .i64 (readT s).2]) ∧ Below w.heap.size w w' ∧ adOk (readT s).1.g ∧ AdsT w' us (readT s).1.src ∧ RcT w' ur (readT s).1.rcs
theorem QN.ret {w W : World} {p : Nat} (h : QN w W p) {s : List UInt8} {e : Int} (he : readT s = (zeroT, e)) :
    row? (aggW W w.heap.size (tkC zeroT (.slice none 0 0) (.slice none 0 0))) w.heap.size 0 26 = some (tkC zeroT (.slice none 0 0) (.slice none 0 0)) ∧ ReadP w s (.returned (.tuple #[.agg (tkC zeroT (.slice none 0 0) (.slice none 0 0)).toArray, .int .i64 e])) (aggW W w.heap.size (tkC zeroT (.slice none 0 0) (.slice none 0 0))) := by
  refine ⟨aggW_row h.free (tkC_length (t := zeroT) zeroA_ok _ _), _, _, by rw [he], aggW_below h.blw (Nat.le_refl _) _, by rw [he]; exact zeroA_ok, by rw [he]; exact AdsT.nil _, by rw [he]; exact RcT.nil _⟩
/-- The talk boxed. -/
theorem QN.talk {w W : World} {p : Nat} (h : QN w W p) : QT w (aggW (W.alloc (.cells #[.bool false, .int .i64 0, .int .i64 0, .int .i64 0, .bool false, .int .u8 0, .int .u8 0, .int .u8 0, .int .u8 0, .int .u8 0, .int .u8 0, .int .u8 0, .int .u8 0, .int .u8 0, .int .u8 0, .int .u8 0, .int .u8 0, .int .u8 0, .int .u8 0, .int .u8 0, .int .u8 0, .bool false, .int .i64 0, .int .i64 0, .slice none 0 0, .slice none 0 0] 28)) W.heap.size (tkC zeroT (.slice none 0 0) (.slice none 0 0))) W.heap.size zeroT (.slice none 0 0) (.slice none 0 0) p (tkC zeroT (.slice none 0 0) (.slice none 0 0)).toArray 28 := by
  have h1 := h.zer.lt
  have h2 := h.res.lt
  have hm := ObjAt.made W #[.bool false, .int .i64 0, .int .i64 0, .int .i64 0, .bool false, .int .u8 0, .int .u8 0, .int .u8 0, .int .u8 0, .int .u8 0, .int .u8 0, .int .u8 0, .int .u8 0, .int .u8 0, .int .u8 0, .int .u8 0, .int .u8 0, .int .u8 0, .int .u8 0, .int .u8 0, .int .u8 0, .bool false, .int .i64 0, .int .i64 0, .slice none 0 0, .slice none 0 0] 28
  exact ⟨aggW_other (h.res.alloc _) _ (by omega), ⟨aggW_obj (L := (#[.bool false, .int .i64 0, .int .i64 0, .int .i64 0, .bool false, .int .u8 0, .int .u8 0, .int .u8 0, .int .u8 0, .int .u8 0, .int .u8 0, .int .u8 0, .int .u8 0, .int .u8 0, .int .u8 0, .int .u8 0, .int .u8 0, .int .u8 0, .int .u8 0, .int .u8 0, .int .u8 0, .bool false, .int .i64 0, .int .i64 0, .slice none 0 0, .slice none 0 0] : Array Value).toList) (by simpa using hm) rfl (tkC_one rfl rfl), zeroA_ok⟩, aggW_below (h.blw.alloc (by omega) _) (by omega) _, h2, AdsT.nil _, RcT.nil _, aggW_other (h.zer.alloc _) _ (by omega), h.ltp, by omega⟩
theorem QT.n {w W : World} {m p : Nat} {t : TK} {us ur : Value} (h : QT w W m t us ur p (tkC zeroT (.slice none 0 0) (.slice none 0 0)).toArray 28) : QN w W p := ⟨h.res, h.more, h.blw, h.ltp⟩
theorem QT.nput {w W : World} {m p : Nat} {t : TK} {us ur : Value} (h : QT w W m t us ur p (tkC zeroT (.slice none 0 0) (.slice none 0 0)).toArray 28) (cs : List Value) : QN w (aggW W m cs) p := by
  have := h.lt
  exact ⟨aggW_other h.res _ (by omega), aggW_other h.more _ h.ne.symm, aggW_below h.blw (by omega) _, h.ltp⟩
end Go.Proofs.YtgpccgcppbdlpaaGreat

/-
  Talks made later, and what a reader of talks tells.
-/
namespace Go.Proofs.YtgpccgcppbdlpaaGreat
open Go.RowKit
set_option linter.unusedVariables false
set_option linter.unusedSimpArgs false
/-- What a reader tells. -/
def ReadQ (w : World) (s : List UInt8) (x : Ending) (w' : World) : Prop := ∃ us ur, x = .returned (.tuple #[.agg (tkC (readT s).1 us ur).toArray, .int .i64 (readT s).2]) ∧ Below w.heap.size w w' ∧ adOk (readT s).1.g ∧ Ads w' us (readT s).1.src ∧ Rcs w' ur (readT s).1.rcs
theorem ReadP.q {w w' : World} {s : List UInt8} {x : Ending} (h : ReadP w s x w') : ReadQ w s x w' := by
  obtain ⟨us, ur, h1, h2, h3, h4, h5⟩ := h
  exact ⟨us, ur, h1, h2, h3, h4.1, h5.rcs⟩
theorem Rcs.ok {w : World} {v : Value} {l : List RC} (h : Rcs w v l) : ∀ r ∈ l, adOk r.g ∧ ∀ a ∈ r.src, adOk a := by
  intro r hr
  obtain ⟨i, hi, rfl⟩ := List.mem_iff_getElem.1 hr
  obtain ⟨b, o, cap, _, _, _, h3⟩ := h.parts (fun e => by rw [e] at hi; exact absurd hi (by simp))
  obtain ⟨h4, _, u, _, h6⟩ := h3 i hi
  exact ⟨h4, h6.ok⟩
theorem Tks.ok {w : World} {cs : List Value} {t : TK} (h : Tks w cs t) : t.ok := by
  obtain ⟨h1, us, ur, h2, h3, h4⟩ := h
  exact ⟨h1, h3.ok, h4.ok⟩
/-- A talk in a block of its own, made later. -/
structure TM (w W : World) (m : Nat) (t : TK) (us ur : Value) : Prop where
  tk : TkAt W m t us ur
  src : Ads W us t.src
  rcs : Rcs W ur t.rcs
  blw : Below w.heap.size w W
  lt : w.heap.size ≤ m
theorem TM.below {w W W' : World} {m : Nat} {t : TK} {us ur : Value} (h : TM w W m t us ur) (hb : Below W.heap.size W W') : TM w W' m t us ur :=
  ⟨h.tk.below hb, h.src.below hb, h.rcs.below hb, bstep h.blw hb, h.lt⟩
theorem TM.tks {w W : World} {m : Nat} {t : TK} {us ur : Value} (h : TM w W m t us ur) : Tks W (tkC t us ur) t := ⟨h.tk.2, us, ur, rfl, h.src, h.rcs⟩
theorem TM.ok {w W : World} {m : Nat} {t : TK} {us ur : Value} (h : TM w W m t us ur) : t.ok := h.tks.ok
theorem TM.fok {W : World} {t : TK} {us ur : Value} (ho : adOk t.g) (hs : Ads W us t.src) (hr : Rcs W ur t.rcs) : fok (tkC t us ur).toArray 26 = true := fok_tk ho hs.one hr.one
/-- A new block, and the talk stored there. -/
theorem TM.made {w W : World} {t : TK} {us ur : Value} (hb : Below w.heap.size w W) (ho : adOk t.g) (hs : Ads W us t.src) (hr : Rcs W ur t.rcs) : TM w (aggW (W.alloc (.cells #[.bool false, .int .i64 0, .int .i64 0, .int .i64 0, .bool false, .int .u8 0, .int .u8 0, .int .u8 0, .int .u8 0, .int .u8 0, .int .u8 0, .int .u8 0, .int .u8 0, .int .u8 0, .int .u8 0, .int .u8 0, .int .u8 0, .int .u8 0, .int .u8 0, .int .u8 0, .int .u8 0, .bool false, .int .i64 0, .int .i64 0, .slice none 0 0, .slice none 0 0] 28)) W.heap.size (tkC t us ur)) W.heap.size t us ur := by
  have hk : Below W.heap.size W (aggW (W.alloc (.cells #[.bool false, .int .i64 0, .int .i64 0, .int .i64 0, .bool false, .int .u8 0, .int .u8 0, .int .u8 0, .int .u8 0, .int .u8 0, .int .u8 0, .int .u8 0, .int .u8 0, .int .u8 0, .int .u8 0, .int .u8 0, .int .u8 0, .int .u8 0, .int .u8 0, .int .u8 0, .int .u8 0, .bool false, .int .i64 0, .int .i64 0, .slice none 0 0, .slice none 0 0] 28)) W.heap.size (tkC t us ur)) := aggW_below ((Below.refl _ _).alloc (Nat.le_refl _) _) (Nat.le_refl _) _
  have hm := ObjAt.made W #[.bool false, .int .i64 0, .int .i64 0, .int .i64 0, .bool false, .int .u8 0, .int .u8 0, .int .u8 0, .int .u8 0, .int .u8 0, .int .u8 0, .int .u8 0, .int .u8 0, .int .u8 0, .int .u8 0, .int .u8 0, .int .u8 0, .int .u8 0, .int .u8 0, .int .u8 0, .int .u8 0, .bool false, .int .i64 0, .int .i64 0, .slice none 0 0, .slice none 0 0] 28
  exact ⟨⟨aggW_obj (L := (#[.bool false, .int .i64 0, .int .i64 0, .int .i64 0, .bool false, .int .u8 0, .int .u8 0, .int .u8 0, .int .u8 0, .int .u8 0, .int .u8 0, .int .u8 0, .int .u8 0, .int .u8 0, .int .u8 0, .int .u8 0, .int .u8 0, .int .u8 0, .int .u8 0, .int .u8 0, .int .u8 0, .bool false, .int .i64 0, .int .i64 0, .slice none 0 0, .slice none 0 0] : Array Value).toList) (by simpa using hm) (by rw [tkC_length ho]; rfl) (tkC_one hs.one hr.one), ho⟩, hs.below hk, hr.below hk, bstep hb hk, hb.size⟩
theorem hfm26 (W : World) : free? (W.alloc (.cells #[.bool false, .int .i64 0, .int .i64 0, .int .i64 0, .bool false, .int .u8 0, .int .u8 0, .int .u8 0, .int .u8 0, .int .u8 0, .int .u8 0, .int .u8 0, .int .u8 0, .int .u8 0, .int .u8 0, .int .u8 0, .int .u8 0, .int .u8 0, .int .u8 0, .int .u8 0, .int .u8 0, .bool false, .int .i64 0, .int .i64 0, .slice none 0 0, .slice none 0 0] 28)) W.heap.size 0 26 = true := free_made W _ _ 26 (by simp)
end Go.Proofs.YtgpccgcppbdlpaaGreat

